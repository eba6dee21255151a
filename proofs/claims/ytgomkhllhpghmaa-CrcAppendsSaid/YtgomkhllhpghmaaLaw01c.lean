/-
  The walk of the law CrcChecks.
-/
import Derived.Test.YtgomkhllhpghmaaAlive01
namespace Go.Proofs.Ytgomkhllhpghmaa
open Go.RowKit

theorem conv_of {A : Option Addr} {l : List Byte} {c : Nat} {w1 : World} (hr : Bs w1 w1.heap.size A l) (hn : A = none → c = 0) (W : World) (hW : Below w1.heap.size w1 W) :
    (convert 22 9 (.slice A l.length c)).run Try.prog W = .ok (.string (str l)) W := run_str W is_bytes Try.underlying9 (hr.below hW) hn

theorem below_step {w w1 w2 : World} (h : Below w.heap.size w w1) (h2 : Below w1.heap.size w1 w2) : Below w.heap.size w w2 := h.trans (h2.mono h.size)

set_option maxHeartbeats 1000000 in
theorem crcChecks_walk (a : Option Addr) (l : List Byte) (c : Nat) (w : World) (hb : Bs w w.heap.size a l) (hn : a = none → c = 0) (hc : l.length ≤ c) (hm : c ≤ maxLen) :
    Calls Try.prog 4 #[.slice a l.length c] w fun e w' => e = .returned (.bool true) ∧ Below w.heap.size w w' := by
  by_cases h : 2000 < l.length
  · go_enter Try.func4, Try.ntmps4
    go_wp2_with (go_at_call 8; refine (alive_any _).mono ?_; rintro e w1 ⟨rfl, hbel⟩)
    go_ret
    exact ⟨rfl, hbel⟩
  have hl2 : l.length ≤ 2000 := by omega
  have hB0 : Below w.heap.size w w.drew := (Below.refl _ _).drew
  have hbq := str_beq (ap16 l) (ap16 l)
  rw [decide_eq_true rfl] at hbq
  have hck : (ck16 l == ck16 l) = true := by simp
  go_enter Try.func4, Try.ntmps4
  go_wp2
  go_region_with (first
    | (go_at_call 17; refine (append16_any a l c _ ?_ hn ?_).mono ?_; exact hb; omega; rintro e w1 ⟨v1, rfl, hown1, hbel1⟩; obtain ⟨A1, c1, rfl, hr1, hn1, _, _⟩ := hown1.reads; have hs1 := conv_of hr1 hn1 w1 (Below.refl _ _); have hbt1 := below_step hB0 hbel1)
    | (go_at_call 18; refine (refAppend16_any a l c w1 ?_ hn ?_).mono ?_; exact (hb.below hbt1).more hbt1.size; omega; rintro e w2 ⟨v2, rfl, hown2, hbel2⟩; obtain ⟨A2, c2, rfl, hr2, hn2, _, _⟩ := hown2.reads; have hs2 := conv_of hr2 hn2 w2 (Below.refl _ _); have hbt2 := below_step hbt1 hbel2; have hs3 := conv_of hr1 hn1 w2 hbel2)
    | (go_at_call 19; refine (check16_any a l c _ w2 (hb.below hbt2) hc hm).mono ?_; rintro e w3 ⟨rfl, n, rfl⟩; have hbt3 : Below w.heap.size w (w2.drewN n) := below_step hbt2 (drewN_below _ _))
    | (go_at_call 20; refine (refCheck16_any a l c (w2.drewN n) ((hb.below hbt3).more hbt3.size) hc hl2).mono ?_; rintro e w4 ⟨rfl, hbel4⟩; have hbt4 := below_step hbt3 hbel4)
    | (go_at_call 8; refine (alive_any w4).mono ?_; rintro e w5 ⟨rfl, hbel5⟩; have hbt5 := below_step hbt4 hbel5))
  all_goals
    go_wp2
    go_ret
    exact ⟨rfl, hbt5⟩

end Go.Proofs.Ytgomkhllhpghmaa
