/-
  The walk of the law CucDecodes.
-/
import Derived.Test.YtboapfkgkehfcaaLaw05a
import Derived.Test.YtboapfkgkehfcaaRef05c
namespace Go.Proofs.Ytboapfkgkehfcaa
open Go.RowKit

set_option maxHeartbeats 400000 in
theorem decodes_long (a : Option Addr) (n c : Nat) (w : World) (hl : 100 < n) :
    Calls Try.prog 4 #[.slice a n c] w fun e w' => e = .returned (.bool true) ∧ Below w.heap.size w w' := by
  have t1 : (100 : Int) < (n : Int) := by omega
  go_enter Try.func4, Try.ntmps4
  go_wp2_with (go_at_call 16; refine (alive05_any _).mono ?_; rintro e w1 ⟨rfl, bel1⟩)
  go_ret
  exact ⟨rfl, bel1⟩

set_option maxHeartbeats 1000000 in
theorem decodes_short (a : Option Addr) (l : List Byte) (c : Nat) (w : World) (hb : Bs w w.heap.size a l) (hc : l.length ≤ c) (hm : c ≤ maxLen) (hl : l.length ≤ 100) :
    Calls Try.prog 4 #[.slice a l.length c] w fun e w' => e = .returned (.bool true) ∧ Below w.heap.size w w' := by
  have t1 : decide ((100 : Int) < (l.length : Int)) = false := by simp; omega
  have t2 : decide (100 < l.length) = false := by simp; omega
  have hd := fun W (h : Below w.heap.size w W) => decode_any a l l.length c W (Lib.hid rfl) ((hb.below h).more h.size) hc hm (by omega)
  have hx := fun W (h : Below w.heap.size w W) => xdecode_any a l l.length c W (Lib.hid rfl) ((hb.below h).more h.size) (by omega)
  obtain ⟨E, hE⟩ : ∃ E, E = (dcd l).1 := ⟨_, rfl⟩
  obtain ⟨T, hT⟩ : ∃ T : Int, T = (dcd l).2.1 := ⟨_, rfl⟩
  obtain ⟨C, hC⟩ : ∃ C : Int, C = (dcd l).2.2.1 := ⟨_, rfl⟩
  obtain ⟨F, hF⟩ : ∃ F : Int, F = (dcd l).2.2.2 := ⟨_, rfl⟩
  obtain ⟨N, hN⟩ : ∃ N : Int, N = dsz l := ⟨_, rfl⟩
  simp only [← hE, ← hT, ← hC, ← hF, ← hN, dOut] at hd hx
  clear hE hT hC hF hN hb
  go_enter Try.func4, Try.ntmps4
  go_wp2_with fail
  refine (hd _ (Below.refl _ _)).mono ?_
  rintro e w1 ⟨rfl, h1⟩
  have bel1 := h1.alloc h1.size (.cells #[.int .i64 C, .int .i64 F] 23)
  have hF1 := Fm_new w1 23 C F
  clear h1
  go_wp2_with fail
  refine (hx _ bel1).mono ?_
  rintro e w2 ⟨rfl, h2⟩
  have k2 := h2.trans ((bel_new w2 (.cells #[.int .i64 C, .int .i64 F] 24)).mono h2.size)
  have bel2 := bel1.trans (k2.mono bel1.size)
  obtain ⟨_, m0, m1⟩ := hF1.keep k2
  have hF2 := Fm_new w2 24 C F
  obtain ⟨_, n0, n1⟩ := hF2
  clear h2 hF1 k2 bel1 hd hx
  go_wp2_with (go_at_call 16; refine (alive05_any _).mono ?_; rintro e w3 ⟨rfl, bel3⟩)
  go_ret
  exact ⟨rfl, bel2.trans (bel3.mono bel2.size)⟩

theorem cucDecodes_walk (a : Option Addr) (l : List Byte) (c : Nat) (w : World) (hb : Bs w w.heap.size a l) (hc : l.length ≤ c) (hm : c ≤ maxLen) :
    Calls Try.prog 4 #[.slice a l.length c] w fun e w' => e = .returned (.bool true) ∧ Below w.heap.size w w' := by
  by_cases hl : l.length ≤ 100
  · exact decodes_short a l c w hb hc hm hl
  · exact decodes_long a l.length c w (by omega)
end Go.Proofs.Ytboapfkgkehfcaa
