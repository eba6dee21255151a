/-
  The reference of layer 23: lost.
-/
import Derived.Test.YtllhdgllgoanbaaRef23a
namespace Go.Proofs.Ytllhdgllgoanbaa.Lnk
open Go.RowKit Go.Proofs.Ytllhdgllgoanbaa.Row
open Rng (R)

section
variable {c : Cf} {Ao Al Af : Option Addr} {no co nl cl nf cf : Nat} {w : World}
set_option maxHeartbeats 4000000 in
theorem lost_any (h : Cg w c Ao no co Al nl cl Af nf cf) (m1 : no ≤ 1000000) (m2 : nl ≤ 1000000) (t : Int) (sn : Nat) (AL : Option Addr) (nL cL : Nat) :
    Calls Try.prog 30 #[.agg #[I c.dl, .slice Ao no co, .slice Al nl cl, .slice Af nf cf, I t, I (sn : Int), .slice AL nL cL]] w fun e w' => e = .returned (.bool (gone c t sn)) ∧ Below w.heap.size w w' := by
  obtain ⟨dl, ot, lo, fl⟩ := c
  obtain ⟨E, hE⟩ : ∃ E, E = gone ⟨dl, ot, lo, fl⟩ t sn := ⟨_, rfl⟩
  rw [← hE]
  have HE : Hid (E = (Rng.has ot t || decide ((sn : Int) ∈ lo))) := Lib.hid hE
  have b1 := bel_new w (.cells #[I dl, .slice Ao no co, .slice Al nl cl, .slice Af nf cf, I t, I (sn : Int), .slice AL nL cL] 36)
  have C1 := Cel.new w 36 #[I dl, .slice Ao no co, .slice Al nl cl, .slice Af nf cf, I t, I (sn : Int), .slice AL nL cL]
  have g1 := h.below b1
  have HLo := Lib.hid g1.o.len
  have HLl := Lib.hid g1.l.len
  have hro := g1.o.r
  have hrl := g1.l.r
  simp only at hro hrl HLo HLl
  obtain ⟨w1, hw1⟩ : ∃ w1, w1 = w.alloc (.cells #[I dl, .slice Ao no co, .slice Al nl cl, .slice Af nf cf, I t, I (sn : Int), .slice AL nL cL] 36) := ⟨_, rfl⟩
  rw [← hw1] at b1 C1 hro hrl
  have HC := Lib.hid C1
  clear g1 h hE C1
  go_enter Try.func30, Try.ntmps30
  go_wp2_with fail
  rw [← hw1]
  clear hw1
  go_loopw [3] (fun iv wr => ∃ k : Nat, iv = .int .i64 (k : Int) ∧ k ≤ no ∧ Below w1.heap.size w1 wr ∧ Hid (Rng.has (ot.take k) t = false)) (fun iv _ => no - (intOf iv).toNat)
  case atStart => exact ⟨0, rfl, Nat.zero_le _, Below.refl _ _, Lib.hid rfl⟩
  case round =>
    obtain ⟨k, rfl, hk, hB, hno⟩ := hrel
    have X := Cel.on HC.out hB
    have c1 := X.cell 1
    have c2 := X.cell 2
    have c4 := X.cell 4
    have c5 := X.cell 5
    simp at c1 c2 c4 c5
    by_cases hkn : k < no
    · have hkl : k < ot.length := by rw [HLo.out]; exact hkn
      have hx := List.getElem?_eq_getElem hkl
      have hst : Hid (Rng.has (ot.take (k + 1)) t = (Rng.has (ot.take k) t || (decide (ot[k].1 ≤ t) && decide (t < ot[k].2)))) := Lib.hid (any_step hx)
      have htr : Hid ((decide (ot[k].1 ≤ t) && decide (t < ot[k].2)) = true → Rng.has ot t = true) := Lib.hid (fun h => any_true hx h)
      obtain ⟨ba, off, rfl, hba, e0, e1⟩ := r_at (hro.below hB) hkl
      clear hx
      generalize ot[k] = x at e0 e1 hst htr
      obtain ⟨x, y⟩ := x
      dsimp only at e0 e1 hst htr
      clear hkl hro hrl X
      by_cases hx0 : x ≤ t
      · have t1 := decide_eq_true hx0
        by_cases hy0 : t < y
        · have t2 := decide_eq_true hy0
          have hE : E = true := by rw [HE.out, htr.out (by rw [t1, t2]; rfl)]; rfl
          subst hE
          clear hx0 hy0
          go_wp2_with fail
          go_quiet (fail)
          go_wp2
          go_ret
          exact ⟨rfl, b1.trans ((hB.mono b1.size).trans (drewN_below _ _))⟩
        · have t2 := decide_eq_false hy0
          have hn2 : Hid (Rng.has (ot.take (k + 1)) t = false) := Lib.hid (by rw [hst.out, hno.out, t1, t2]; rfl)
          clear hx0 hy0
          go_wp2_with fail
          go_quiet (fail)
          go_wp2
          go_roundw
          case rel => exact ⟨k + 1, by go_num, hkn, hB.trans (drewN_below _ _), hn2⟩
          case measure => simp [intOf]; omega
      · have t1 := decide_eq_false hx0
        have hn2 : Hid (Rng.has (ot.take (k + 1)) t = false) := Lib.hid (by rw [hst.out, hno.out, t1]; rfl)
        clear hx0
        go_wp2_with fail
        go_quiet (fail)
        go_wp2
        go_roundw
        case rel => exact ⟨k + 1, by go_num, hkn, hB.trans (drewN_below _ _), hn2⟩
        case measure => simp [intOf]; omega
    · obtain rfl : k = no := by omega
      rw [List.take_of_length_le (Nat.le_of_eq HLo.out)] at hno
      have HE2 : Hid (E = decide ((sn : Int) ∈ lo)) := Lib.hid (by rw [HE.out, hno.out]; rfl)
      obtain ⟨w2, hw2⟩ : ∃ w2, w2 = wr := ⟨_, rfl⟩
      subst hw2
      have hB2 := hB
      have HX := Lib.hid X
      have hrl2 := (hrl.below hB).more hB.size
      have HB2 := Lib.hid (b1.trans (hB2.mono b1.size))
      clear hro hrl X hB HE hno hB2
      go_wp2
      go_loopw [4] (fun iv wr => ∃ k : Nat, iv = .int .i64 (k : Int) ∧ k ≤ nl ∧ Below w2.heap.size w2 wr ∧ Hid ((sn : Int) ∉ lo.take k)) (fun iv _ => nl - (intOf iv).toNat)
      case atStart => exact ⟨0, rfl, Nat.zero_le _, Below.refl _ _, Lib.hid (by simp)⟩
      case round =>
        obtain ⟨j, rfl, hj, hB, hno⟩ := hrel
        clear c1 c2 c4 c5
        have X := Cel.on HX.out hB
        have c2 := X.cell 2
        have c5 := X.cell 5
        simp at c2 c5
        by_cases hjn : j < nl
        · have hjl : j < lo.length := by rw [HLl.out]; exact hjn
          obtain ⟨ba, off, rfl, hba, e0⟩ := i_at (hrl2.below hB) hjl
          have htk : Hid (lo.take (j + 1) = lo.take j ++ [lo[j]]) := Lib.hid (by rw [List.take_add_one, List.getElem?_eq_getElem hjl]; rfl)
          have hmem : Hid (lo[j] ∈ lo) := Lib.hid (List.getElem_mem hjl)
          generalize lo[j] = x at e0 htk hmem
          clear hjl hrl2 X
          by_cases hq : x = (sn : Int)
          · subst hq
            have t1 : ((sn : Int) == (sn : Int)) = true := by simp
            have hE : E = true := by rw [HE2.out]; exact decide_eq_true hmem.out
            subst hE
            go_wp2_with fail
            go_quiet (fail)
            go_wp2
            go_ret
            exact ⟨rfl, HB2.out.trans ((hB.mono HB2.out.size).trans (drewN_below _ _))⟩
          · have t1 : (x == (sn : Int)) = false := by simpa using hq
            have hn2 : Hid ((sn : Int) ∉ lo.take (j + 1)) := Lib.hid (by rw [htk.out, List.mem_append, List.mem_singleton]; exact fun h => h.elim hno.out (fun e => hq e.symm))
            clear hq
            go_wp2_with fail
            go_quiet (fail)
            go_wp2
            go_roundw
            case rel => exact ⟨j + 1, by go_num, hjn, hB.trans (drewN_below _ _), hn2⟩
            case measure => simp [intOf]; omega
        · obtain rfl : j = nl := by omega
          rw [List.take_of_length_le (Nat.le_of_eq HLl.out)] at hno
          have hE : E = false := by rw [HE2.out]; exact decide_eq_false hno.out
          subst hE
          clear X hrl2
          go_wp2
          go_ret
          exact ⟨rfl, HB2.out.trans (hB.mono HB2.out.size)⟩
end
end Go.Proofs.Ytllhdgllgoanbaa.Lnk
