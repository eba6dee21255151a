/-
  Layer 7's law RangesLack.
-/
import Derived.Test.YtgomcilmhlafcaaLaw07a
import Derived.Test.YtgomcilmhlafcaaRngR5
namespace Go.Proofs.Ytgomcilmhlafcaa.Rng
open Go.RowKit

set_option maxHeartbeats 1000000 in
theorem lack_ok (l : List R) (T : Int) (w : World) (A : Option Addr) (c : Nat) (h : Rs w w.heap.size A l) :
    Calls Try.prog 4 #[.slice A l.length c, I T] w fun e w' => e = .returned (.bool true) ∧ Below w.heap.size w w' := by
  by_cases hf : l.length ≤ 60
  · have hfew := few_any l.length c A true w (by simpa using hf)
    go_enter Try.func4, Try.ntmps4
    go_wp2_with fail
    refine hfew.mono ?_
    rintro e w0 ⟨rfl, rfl⟩
    clear hfew
    go_wp2_with fail
    refine (missing_any l T w0 A c h (by omega)).mono ?_
    rintro e w1 ⟨v1, rfl, ho1, b1⟩
    go_wp2_with fail
    refine (rmissing_any l T w1 A c (h.then_ b1) (by omega)).mono ?_
    rintro e w2 ⟨v2, rfl, ho2, b2⟩
    have hl1 := mis_length l T
    have ho3 := ho1.below b2
    have c2 := then_ b1 b2
    obtain ⟨M, hM⟩ : ∃ M, M = mis l T := ⟨_, rfl⟩
    rw [← hM] at ho2 ho3 hl1
    clear hM ho1 b1 b2
    obtain ⟨A2, k2, rfl, q2, _⟩ := ho2.reads
    obtain ⟨A3, k3, rfl, q3, _⟩ := ho3.reads
    clear ho2 ho3
    go_wp2_with fail
    refine (same_any M w2 A3 A2 k3 k2 q3 q2 (by omega)).mono ?_
    rintro e w3 ⟨rfl, b3⟩
    have c3 := then_ c2 b3
    clear q2 q3 b3 c2
    go_wp2_with fail
    refine (alive_any w3).mono ?_
    rintro e w4 ⟨rfl, b4⟩
    have c4 := then_ c3 b4
    go_wp2_with fail
    go_ret
    exact ⟨rfl, c4⟩
  · have hfew := few_any l.length c A false w (by simpa using hf)
    go_enter Try.func4, Try.ntmps4
    go_wp2_with fail
    refine hfew.mono ?_
    rintro e w0 ⟨rfl, rfl⟩
    clear hfew
    go_wp2_with fail
    refine (alive_any w0).mono ?_
    rintro e w1 ⟨rfl, b1⟩
    go_wp2_with fail
    go_ret
    exact ⟨rfl, b1⟩
end Go.Proofs.Ytgomcilmhlafcaa.Rng
