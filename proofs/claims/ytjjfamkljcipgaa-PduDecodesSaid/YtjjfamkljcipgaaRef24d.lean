/-
  The reference of layer 24: Decode, every byte string.
-/
import Derived.Test.YtjjfamkljcipgaaRef24d1
import Derived.Test.YtjjfamkljcipgaaRef24d2
import Derived.Test.YtjjfamkljcipgaaRef24d3
import Derived.Test.YtjjfamkljcipgaaRef24d4
import Derived.Test.YtjjfamkljcipgaaRef24d5
import Derived.Test.YtjjfamkljcipgaaRef24d6
namespace Go.Proofs.Ytjjfamkljcipgaa.Pdu
open Go.RowKit Go.Proofs.Ytjjfamkljcipgaa.Row

theorem rdec_any (a : Option Addr) (l : List Byte) (n c : Nat) (w : World) (h : Bx w a l n c) (hL : n ≤ 2000) :
    Calls Try.prog 17 #[.slice a n c] w (DO (deP l) w (deE l)) := by
  obtain ⟨V1, st1, hV⟩ : ∃ v s, rd 0 (fun l => tkU l (1 : Int)) (some l) = (v, s) := ⟨_, _, rfl⟩
  by_cases h1 : (V1 : Int) = 1
  · exact rdec_k1 a l n c w h hL V1 st1 hV h1
  by_cases h2 : (V1 : Int) = 2
  · exact rdec_k2 a l n c w h hL V1 st1 hV h2
  by_cases h3 : (V1 : Int) = 3
  · exact rdec_k3 a l n c w h hL V1 st1 hV h3
  by_cases h4 : (V1 : Int) = 4
  · exact rdec_k4 a l n c w h hL V1 st1 hV h4
  by_cases h5 : (V1 : Int) = 5
  · exact rdec_k5 a l n c w h hL V1 st1 hV h5
  exact rdec_k6 a l n c w h hL V1 st1 hV h1 h2 h3 h4 h5
end Go.Proofs.Ytjjfamkljcipgaa.Pdu
