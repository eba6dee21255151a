/-
  The reference of layer 23: a link by value; Fits, New, at.
-/
import Derived.Test.YtllhdgllgoanbaaLnkH
import Derived.Test.YtllhdgllgoanbaaLnkW0
import Derived.Deep.QuietTactic
import Derived.BigQuiet
import Derived.BigRegion
namespace Go.Proofs.Ytllhdgllgoanbaa.Lnk
open Go.RowKit Go.Proofs.Ytllhdgllgoanbaa.Row
open Rng (R)

theorem st_no {D p x : Bool} (h : false = (D && !p)) : false = (D && !(p || x)) := by cases D <;> cases p <;> cases x <;> simp_all
theorem st_yes {D p x y : Bool} (h : true = (D && !p)) (hy : y = !x) : y = (D && !(p || x)) := by subst hy; cases D <;> cases p <;> cases x <;> simp_all
section
variable {c : Cf} {Ao Al Af : Option Addr} {no co nl cl nf cf : Nat} {w : World}
set_option maxHeartbeats 4000000 in
theorem fits_any (h : Cg w c Ao no co Al nl cl Af nf cf) (m2 : nl ≤ 1000000) (m3 : nf ≤ 1000000) :
    Calls Try.prog 23 #[.agg #[I c.dl, .slice Ao no co, .slice Al nl cl, .slice Af nf cf]] w fun e w' => e = .returned (.bool c.ok) ∧ Below w.heap.size w w' := by
  obtain ⟨dl, ot, lo, fl⟩ := c
  have b1 := bel_new w (.cells #[I dl, .slice Ao no co, .slice Al nl cl, .slice Af nf cf] 26)
  have g1 := h.below b1
  obtain ⟨E, hE⟩ : ∃ E, Cf.ok ⟨dl, ot, lo, fl⟩ = E := ⟨_, rfl⟩
  rw [hE]
  unfold Cf.ok at hE
  simp only at hE
  have hrl := g1.l.r
  have hrf := g1.f.r
  have HLl := Lib.hid g1.l.len
  have HLf := Lib.hid g1.f.len
  have hle2 := g1.l.le
  have hle3 := g1.f.le
  obtain ⟨D, hD⟩ : ∃ D, D = (decide (0 ≤ dl) && decide (dl ≤ 1099511627776)) := ⟨_, rfl⟩
  rw [← hD] at hE
  have HE := Lib.hid hE
  simp only at hrl hrf HLl HLf
  clear h g1 hE
  by_cases h1 : 0 ≤ dl
  · have t1 := decide_eq_true h1
    by_cases h2 : dl ≤ 1099511627776
    · have t2 := decide_eq_true h2
      rw [t1, t2] at hD
      have HD := Lib.hid hD
      clear hD h1 h2
      go_enter Try.func23, Try.ntmps23
      go_wp2
      go_loop [3, 4] (fun ov iv => ∃ (k : Nat) (b : Bool), ov = .bool b ∧ iv = .int .i64 (k : Int) ∧ k ≤ nl ∧ Hid (b = (D && !loN (lo.take k)))) (fun _ iv => nl - (intOf iv).toNat)
      case atStart => exact ⟨0, _, rfl, rfl, Nat.zero_le _, Lib.hid (by rw [HD.out]; rfl)⟩
      case round =>
        obtain ⟨k, b, rfl, rfl, hk, hb⟩ := hrel
        by_cases hkn : k < nl
        · have hkl : k < lo.length := by rw [HLl.out]; exact hkn
          have hx := List.getElem?_eq_getElem hkl
          have hst : Hid (loN (lo.take (k + 1)) = (loN (lo.take k) || decide (lo[k] < 0))) := Lib.hid (any_step hx)
          obtain ⟨ba, off, rfl, hba, e0⟩ := i_at hrl hkl
          clear hx
          generalize lo[k] = x at e0 hst
          clear hkl
          cases b with
          | false =>
            go_wp2
            go_round
            case rel => exact ⟨k + 1, false, rfl, by go_num, hkn, Lib.hid (by rw [hst.out]; exact st_no hb.out)⟩
            case measure => simp [intOf]; omega
          | true =>
            have hy : decide (0 ≤ x) = !decide (x < 0) := by by_cases h : x < 0 <;> simp [h] <;> omega
            have HY := Lib.hid hy
            clear hy
            go_wp2
            go_round
            case rel => exact ⟨k + 1, decide (0 ≤ x), rfl, by go_num, hkn, Lib.hid (by rw [hst.out]; exact st_yes hb.out HY.out)⟩
            case measure => simp [intOf]; omega
        · obtain rfl : k = nl := by omega
          rw [List.take_of_length_le (Nat.le_of_eq HLl.out)] at hb
          clear hrl
          go_wp2
          go_loop [3, 5] (fun ov iv => ∃ (j : Nat) (b : Bool), ov = .bool b ∧ iv = .int .i64 (j : Int) ∧ j ≤ nf ∧ Hid (b = ((D && !loN lo) && !flN (fl.take j)))) (fun _ iv => nf - (intOf iv).toNat)
          case atStart => exact ⟨0, _, rfl, rfl, Nat.zero_le _, Lib.hid (by rw [hb.out]; simp [flN])⟩
          case round =>
            clear hb
            obtain ⟨j, bb, rfl, rfl, hj, hb⟩ := hrel
            by_cases hjn : j < nf
            · have hjl : j < fl.length := by rw [HLf.out]; exact hjn
              have hx := List.getElem?_eq_getElem hjl
              have hst : Hid (flN (fl.take (j + 1)) = (flN (fl.take j) || (decide (fl[j].1 < 0) || decide (fl[j].2 < 0)))) := Lib.hid (any_step hx)
              obtain ⟨ba, off, rfl, hba, e0, e1⟩ := r_at hrf hjl
              clear hx
              generalize fl[j] = x at e0 e1 hst
              obtain ⟨x, y⟩ := x
              dsimp only at e0 e1 hst
              clear hjl
              cases bb with
              | false =>
                go_wp2
                go_round
                case rel => exact ⟨j + 1, false, rfl, by go_num, hjn, Lib.hid (by rw [hst.out]; exact st_no hb.out)⟩
                case measure => simp [intOf]; omega
              | true =>
                by_cases hx0 : 0 ≤ x
                · have t1 := decide_eq_true hx0
                  have HY : Hid (decide (0 ≤ y) = !(decide (x < 0) || decide (y < 0))) := Lib.hid (by rw [show decide (x < 0) = false by simp; omega]; by_cases h : y < 0 <;> simp [h] <;> omega)
                  clear hx0
                  go_wp2
                  go_round
                  case rel => exact ⟨j + 1, decide (0 ≤ y), rfl, by go_num, hjn, Lib.hid (by rw [hst.out]; exact st_yes hb.out HY.out)⟩
                  case measure => simp [intOf]; omega
                · have t1 := decide_eq_false hx0
                  have HY : Hid (false = !(decide (x < 0) || decide (y < 0))) := Lib.hid (by rw [show decide (x < 0) = true by simp; omega]; simp)
                  clear hx0
                  go_wp2
                  go_round
                  case rel => exact ⟨j + 1, false, rfl, by go_num, hjn, Lib.hid (by rw [hst.out]; exact st_yes hb.out HY.out)⟩
                  case measure => simp [intOf]; omega
            · obtain rfl : j = nf := by omega
              rw [List.take_of_length_le (Nat.le_of_eq HLf.out)] at hb
              obtain rfl : bb = E := by rw [hb.out]; exact HE.out
              clear hrf hb
              go_wp2
              go_ret
              exact ⟨rfl, b1⟩
    · have t2 := decide_eq_false h2
      rw [t1, t2] at hD
      have HD := Lib.hid hD
      clear hD h1 h2
      go_enter Try.func23, Try.ntmps23
      go_wp2
      go_loop [3, 4] (fun ov iv => ∃ (k : Nat) (b : Bool), ov = .bool b ∧ iv = .int .i64 (k : Int) ∧ k ≤ nl ∧ Hid (b = (D && !loN (lo.take k)))) (fun _ iv => nl - (intOf iv).toNat)
      case atStart => exact ⟨0, _, rfl, rfl, Nat.zero_le _, Lib.hid (by rw [HD.out]; rfl)⟩
      case round =>
        obtain ⟨k, b, rfl, rfl, hk, hb⟩ := hrel
        by_cases hkn : k < nl
        · have hkl : k < lo.length := by rw [HLl.out]; exact hkn
          have hx := List.getElem?_eq_getElem hkl
          have hst : Hid (loN (lo.take (k + 1)) = (loN (lo.take k) || decide (lo[k] < 0))) := Lib.hid (any_step hx)
          obtain ⟨ba, off, rfl, hba, e0⟩ := i_at hrl hkl
          clear hx
          generalize lo[k] = x at e0 hst
          clear hkl
          cases b with
          | false =>
            go_wp2
            go_round
            case rel => exact ⟨k + 1, false, rfl, by go_num, hkn, Lib.hid (by rw [hst.out]; exact st_no hb.out)⟩
            case measure => simp [intOf]; omega
          | true =>
            have hy : decide (0 ≤ x) = !decide (x < 0) := by by_cases h : x < 0 <;> simp [h] <;> omega
            have HY := Lib.hid hy
            clear hy
            go_wp2
            go_round
            case rel => exact ⟨k + 1, decide (0 ≤ x), rfl, by go_num, hkn, Lib.hid (by rw [hst.out]; exact st_yes hb.out HY.out)⟩
            case measure => simp [intOf]; omega
        · obtain rfl : k = nl := by omega
          rw [List.take_of_length_le (Nat.le_of_eq HLl.out)] at hb
          clear hrl
          go_wp2
          go_loop [3, 5] (fun ov iv => ∃ (j : Nat) (b : Bool), ov = .bool b ∧ iv = .int .i64 (j : Int) ∧ j ≤ nf ∧ Hid (b = ((D && !loN lo) && !flN (fl.take j)))) (fun _ iv => nf - (intOf iv).toNat)
          case atStart => exact ⟨0, _, rfl, rfl, Nat.zero_le _, Lib.hid (by rw [hb.out]; simp [flN])⟩
          case round =>
            clear hb
            obtain ⟨j, bb, rfl, rfl, hj, hb⟩ := hrel
            by_cases hjn : j < nf
            · have hjl : j < fl.length := by rw [HLf.out]; exact hjn
              have hx := List.getElem?_eq_getElem hjl
              have hst : Hid (flN (fl.take (j + 1)) = (flN (fl.take j) || (decide (fl[j].1 < 0) || decide (fl[j].2 < 0)))) := Lib.hid (any_step hx)
              obtain ⟨ba, off, rfl, hba, e0, e1⟩ := r_at hrf hjl
              clear hx
              generalize fl[j] = x at e0 e1 hst
              obtain ⟨x, y⟩ := x
              dsimp only at e0 e1 hst
              clear hjl
              cases bb with
              | false =>
                go_wp2
                go_round
                case rel => exact ⟨j + 1, false, rfl, by go_num, hjn, Lib.hid (by rw [hst.out]; exact st_no hb.out)⟩
                case measure => simp [intOf]; omega
              | true =>
                by_cases hx0 : 0 ≤ x
                · have t1 := decide_eq_true hx0
                  have HY : Hid (decide (0 ≤ y) = !(decide (x < 0) || decide (y < 0))) := Lib.hid (by rw [show decide (x < 0) = false by simp; omega]; by_cases h : y < 0 <;> simp [h] <;> omega)
                  clear hx0
                  go_wp2
                  go_round
                  case rel => exact ⟨j + 1, decide (0 ≤ y), rfl, by go_num, hjn, Lib.hid (by rw [hst.out]; exact st_yes hb.out HY.out)⟩
                  case measure => simp [intOf]; omega
                · have t1 := decide_eq_false hx0
                  have HY : Hid (false = !(decide (x < 0) || decide (y < 0))) := Lib.hid (by rw [show decide (x < 0) = true by simp; omega]; simp)
                  clear hx0
                  go_wp2
                  go_round
                  case rel => exact ⟨j + 1, false, rfl, by go_num, hjn, Lib.hid (by rw [hst.out]; exact st_yes hb.out HY.out)⟩
                  case measure => simp [intOf]; omega
            · obtain rfl : j = nf := by omega
              rw [List.take_of_length_le (Nat.le_of_eq HLf.out)] at hb
              obtain rfl : bb = E := by rw [hb.out]; exact HE.out
              clear hrf hb
              go_wp2
              go_ret
              exact ⟨rfl, b1⟩
  · have t1 := decide_eq_false h1
    rw [t1] at hD
    have HD := Lib.hid hD
    clear hD h1
    go_enter Try.func23, Try.ntmps23
    go_wp2
    go_loop [3, 4] (fun ov iv => ∃ (k : Nat) (b : Bool), ov = .bool b ∧ iv = .int .i64 (k : Int) ∧ k ≤ nl ∧ Hid (b = (D && !loN (lo.take k)))) (fun _ iv => nl - (intOf iv).toNat)
    case atStart => exact ⟨0, _, rfl, rfl, Nat.zero_le _, Lib.hid (by rw [HD.out]; rfl)⟩
    case round =>
      obtain ⟨k, b, rfl, rfl, hk, hb⟩ := hrel
      by_cases hkn : k < nl
      · have hkl : k < lo.length := by rw [HLl.out]; exact hkn
        have hx := List.getElem?_eq_getElem hkl
        have hst : Hid (loN (lo.take (k + 1)) = (loN (lo.take k) || decide (lo[k] < 0))) := Lib.hid (any_step hx)
        obtain ⟨ba, off, rfl, hba, e0⟩ := i_at hrl hkl
        clear hx
        generalize lo[k] = x at e0 hst
        clear hkl
        cases b with
        | false =>
          go_wp2
          go_round
          case rel => exact ⟨k + 1, false, rfl, by go_num, hkn, Lib.hid (by rw [hst.out]; exact st_no hb.out)⟩
          case measure => simp [intOf]; omega
        | true =>
          have hy : decide (0 ≤ x) = !decide (x < 0) := by by_cases h : x < 0 <;> simp [h] <;> omega
          have HY := Lib.hid hy
          clear hy
          go_wp2
          go_round
          case rel => exact ⟨k + 1, decide (0 ≤ x), rfl, by go_num, hkn, Lib.hid (by rw [hst.out]; exact st_yes hb.out HY.out)⟩
          case measure => simp [intOf]; omega
      · obtain rfl : k = nl := by omega
        rw [List.take_of_length_le (Nat.le_of_eq HLl.out)] at hb
        clear hrl
        go_wp2
        go_loop [3, 5] (fun ov iv => ∃ (j : Nat) (b : Bool), ov = .bool b ∧ iv = .int .i64 (j : Int) ∧ j ≤ nf ∧ Hid (b = ((D && !loN lo) && !flN (fl.take j)))) (fun _ iv => nf - (intOf iv).toNat)
        case atStart => exact ⟨0, _, rfl, rfl, Nat.zero_le _, Lib.hid (by rw [hb.out]; simp [flN])⟩
        case round =>
          clear hb
          obtain ⟨j, bb, rfl, rfl, hj, hb⟩ := hrel
          by_cases hjn : j < nf
          · have hjl : j < fl.length := by rw [HLf.out]; exact hjn
            have hx := List.getElem?_eq_getElem hjl
            have hst : Hid (flN (fl.take (j + 1)) = (flN (fl.take j) || (decide (fl[j].1 < 0) || decide (fl[j].2 < 0)))) := Lib.hid (any_step hx)
            obtain ⟨ba, off, rfl, hba, e0, e1⟩ := r_at hrf hjl
            clear hx
            generalize fl[j] = x at e0 e1 hst
            obtain ⟨x, y⟩ := x
            dsimp only at e0 e1 hst
            clear hjl
            cases bb with
            | false =>
              go_wp2
              go_round
              case rel => exact ⟨j + 1, false, rfl, by go_num, hjn, Lib.hid (by rw [hst.out]; exact st_no hb.out)⟩
              case measure => simp [intOf]; omega
            | true =>
              by_cases hx0 : 0 ≤ x
              · have t1 := decide_eq_true hx0
                have HY : Hid (decide (0 ≤ y) = !(decide (x < 0) || decide (y < 0))) := Lib.hid (by rw [show decide (x < 0) = false by simp; omega]; by_cases h : y < 0 <;> simp [h] <;> omega)
                clear hx0
                go_wp2
                go_round
                case rel => exact ⟨j + 1, decide (0 ≤ y), rfl, by go_num, hjn, Lib.hid (by rw [hst.out]; exact st_yes hb.out HY.out)⟩
                case measure => simp [intOf]; omega
              · have t1 := decide_eq_false hx0
                have HY : Hid (false = !(decide (x < 0) || decide (y < 0))) := Lib.hid (by rw [show decide (x < 0) = true by simp; omega]; simp)
                clear hx0
                go_wp2
                go_round
                case rel => exact ⟨j + 1, false, rfl, by go_num, hjn, Lib.hid (by rw [hst.out]; exact st_yes hb.out HY.out)⟩
                case measure => simp [intOf]; omega
          · obtain rfl : j = nf := by omega
            rw [List.take_of_length_le (Nat.le_of_eq HLf.out)] at hb
            obtain rfl : bb = E := by rw [hb.out]; exact HE.out
            clear hrf hb
            go_wp2
            go_ret
            exact ⟨rfl, b1⟩

theorem xnew_results {tmps : Array Value} {W : World} {g : Nat} {E : Int} {u0 u1 u2 u3 u4 u5 u6 : Value} (h2 : tmps.getD 2 undef = .pointer (some ⟨g, 0, none⟩)) (h3 : tmps.getD 3 undef = .int .i64 E)
    (hC : Cel W g 36 #[u0, u1, u2, u3, u4, u5, u6]) :
    (results Try.f10 tmps).run Try.prog W = .ok (.tuple #[.agg #[u0, u1, u2, u3, u4, u5, u6], .int .i64 E]) W := by
  have c0 := hC.cell 0
  have c1 := hC.cell 1
  have c2 := hC.cell 2
  have c3 := hC.cell 3
  have c4 := hC.cell 4
  have c5 := hC.cell 5
  have c6 := hC.cell 6
  simp at c0 c1 c2 c3 c4 c5 c6
  simp only [Array.getD_eq_getD_getElem?] at h2 h3
  simp [results, Try.results10, go_sem, h2, h3, c0, c1, c2, c3, c4, c5, c6]
theorem xat_results {tmps : Array Value} {W : World} {g : Nat} {u0 u1 u2 u3 u4 u5 u6 : Value} (h2 : tmps.getD 4 undef = .pointer (some ⟨g, 0, none⟩))
    (hC : Cel W g 36 #[u0, u1, u2, u3, u4, u5, u6]) :
    (results Try.f29 tmps).run Try.prog W = .ok (.agg #[u0, u1, u2, u3, u4, u5, u6]) W := by
  have c0 := hC.cell 0
  have c1 := hC.cell 1
  have c2 := hC.cell 2
  have c3 := hC.cell 3
  have c4 := hC.cell 4
  have c5 := hC.cell 5
  have c6 := hC.cell 6
  simp at c0 c1 c2 c3 c4 c5 c6
  simp only [Array.getD_eq_getD_getElem?] at h2
  simp [results, Try.results29, go_sem, h2, c0, c1, c2, c3, c4, c5, c6]
end

/-- a struct of seven cells stored whole over another -/
def put7 (w : World) (g : Nat) (v0 v1 v2 v3 v4 v5 v6 : Value) : World :=
  ((((((w.setCell ⟨g, 0, none⟩ v0).setCell ⟨g, 1, none⟩ v1).setCell ⟨g, 2, none⟩ v2).setCell ⟨g, 3, none⟩ v3).setCell ⟨g, 4, none⟩ v4).setCell ⟨g, 5, none⟩ v5).setCell ⟨g, 6, none⟩ v6
theorem put7_cel {w : World} {g : Nat} {t : TypeId} {x0 x1 x2 x3 x4 x5 x6 : Value} (h : Cel w g t #[x0, x1, x2, x3, x4, x5, x6]) (v0 v1 v2 v3 v4 v5 v6 : Value) : Cel (put7 w g v0 v1 v2 v3 v4 v5 v6) g t #[v0, v1, v2, v3, v4, v5, v6] := by
  unfold put7
  have h0 : Cel _ g t #[v0, x1, x2, x3, x4, x5, x6] := h.put 0 v0
  have h1 : Cel _ g t #[v0, v1, x2, x3, x4, x5, x6] := h0.put 1 v1
  have h2 : Cel _ g t #[v0, v1, v2, x3, x4, x5, x6] := h1.put 2 v2
  have h3 : Cel _ g t #[v0, v1, v2, v3, x4, x5, x6] := h2.put 3 v3
  have h4 : Cel _ g t #[v0, v1, v2, v3, v4, x5, x6] := h3.put 4 v4
  have h5 : Cel _ g t #[v0, v1, v2, v3, v4, v5, x6] := h4.put 5 v5
  exact h5.put 6 v6
theorem put7_only (w : World) (g : Nat) (v0 v1 v2 v3 v4 v5 v6 : Value) : Only [g] w (put7 w g v0 v1 v2 v3 v4 v5 v6) := by
  unfold put7
  exact (((((((Only.refl [g] w).put (p := ⟨g, 0, none⟩) (.inl (by simp)) _).put (p := ⟨g, 1, none⟩) (.inl (by simp)) _).put (p := ⟨g, 2, none⟩) (.inl (by simp)) _).put (p := ⟨g, 3, none⟩) (.inl (by simp)) _).put (p := ⟨g, 4, none⟩) (.inl (by simp)) _).put (p := ⟨g, 5, none⟩) (.inl (by simp)) _).put (p := ⟨g, 6, none⟩) (.inl (by simp)) _
theorem put7_below {w W : World} {g : Nat} (h : Below w.heap.size w W) (hg : w.heap.size ≤ g) (v0 v1 v2 v3 v4 v5 v6 : Value) : Below w.heap.size w (put7 W g v0 v1 v2 v3 v4 v5 v6) :=
  h.trans ((put7_only _ _ _ _ _ _ _ _ _).below h.size (by simpa using hg))
theorem Cel_at {w : World} {k : Nat} {t : TypeId} {cs : Array Value} (h : w.heap.size = k) : Cel (w.alloc (.cells cs t)) k t cs := by subst h; exact Cel.new _ _ _
section
variable {c : Cf} {Ao Al Af : Option Addr} {no co nl cl nf cf : Nat} {w : World}
set_option maxHeartbeats 1000000 in
theorem xnew_ok (h : Cg w c Ao no co Al nl cl Af nf cf) (m2 : nl ≤ 1000000) (m3 : nf ≤ 1000000) (hk : c.ok = true) :
    Calls Try.prog 10 #[.agg #[I c.dl, .slice Ao no co, .slice Al nl cl, .slice Af nf cf]] w fun e w' => e = .returned (.tuple #[.agg #[I c.dl, .slice Ao no co, .slice Al nl cl, .slice Af nf cf, I 0, I 0, .slice none 0 0], .int .i64 0]) ∧ Below w.heap.size w w' := by
  have b1 := bel_new w (.cells #[I c.dl, .slice Ao no co, .slice Al nl cl, .slice Af nf cf] 26)
  have b2 := b1.alloc b1.size (.cells #[I 0, .slice none 0 0, .slice none 0 0, .slice none 0 0, I 0, I 0, .slice none 0 0] 36)
  have C1 : Cel ((w.alloc (.cells #[I c.dl, .slice Ao no co, .slice Al nl cl, .slice Af nf cf] 26)).alloc (.cells #[I 0, .slice none 0 0, .slice none 0 0, .slice none 0 0, I 0, I 0, .slice none 0 0] 36)) w.heap.size 26 #[I c.dl, .slice Ao no co, .slice Al nl cl, .slice Af nf cf] := Cel.on (Cel.new _ _ _) (bel_new _ _)
  have C2 : Cel ((w.alloc (.cells #[I c.dl, .slice Ao no co, .slice Al nl cl, .slice Af nf cf] 26)).alloc (.cells #[I 0, .slice none 0 0, .slice none 0 0, .slice none 0 0, I 0, I 0, .slice none 0 0] 36)) (w.heap.size + 1) 36 #[I 0, .slice none 0 0, .slice none 0 0, .slice none 0 0, I 0, I 0, .slice none 0 0] := Cel_at (by simp)
  have k1 := fits_any (h.below b2) m2 m3
  rw [hk] at k1
  clear h hk
  obtain ⟨dl, ot, lo, fl⟩ := c
  simp only at b1 b2 C1 C2 k1 ⊢
  go_enter Try.func10, Try.ntmps10
  go_wp2_with fail
  refine k1.mono ?_
  rintro e w3 ⟨rfl, b3⟩
  have B3 := b2.trans (b3.mono b2.size)
  have D1 := Cel.on C1 b3
  have D2 := Cel.on C2 b3
  have c0 := D1.cell 0
  have c1 := D1.cell 1
  have c2 := D1.cell 2
  have c3 := D1.cell 3
  simp at c0 c1 c2 c3
  have e0 := D2.cell 0
  have e1 := D2.cell 1
  have e2 := D2.cell 2
  have e3 := D2.cell 3
  have e4 := D2.cell 4
  have e5 := D2.cell 5
  have e6 := D2.cell 6
  simp at e0 e1 e2 e3 e4 e5 e6
  have f0 := D2.free 0
  have f1 := D2.free 1
  have f2 := D2.free 2
  have f3 := D2.free 3
  have f4 := D2.free 4
  have f5 := D2.free 5
  have f6 := D2.free 6
  have HB := Lib.hid B3
  have H2 := Lib.hid D2
  clear b1 b2 b3 B3 C1 C2 D1 D2 k1
  go_wp2
  exact bodyPost_ret (xnew_results rfl rfl (put7_cel H2.out _ _ _ _ _ _ _)) rfl ⟨rfl, put7_below HB.out (by omega) _ _ _ _ _ _ _⟩
set_option maxHeartbeats 1000000 in
theorem xnew_bad (h : Cg w c Ao no co Al nl cl Af nf cf) (m2 : nl ≤ 1000000) (m3 : nf ≤ 1000000) (hk : c.ok = false) :
    Calls Try.prog 10 #[.agg #[I c.dl, .slice Ao no co, .slice Al nl cl, .slice Af nf cf]] w fun e w' => e = .returned (.tuple #[.agg #[I 0, .slice none 0 0, .slice none 0 0, .slice none 0 0, I 0, I 0, .slice none 0 0], .int .i64 1]) ∧ Below w.heap.size w w' := by
  have b1 := bel_new w (.cells #[I c.dl, .slice Ao no co, .slice Al nl cl, .slice Af nf cf] 26)
  have b2 := b1.alloc b1.size (.cells #[I 0, .slice none 0 0, .slice none 0 0, .slice none 0 0, I 0, I 0, .slice none 0 0] 36)
  have C1 : Cel ((w.alloc (.cells #[I c.dl, .slice Ao no co, .slice Al nl cl, .slice Af nf cf] 26)).alloc (.cells #[I 0, .slice none 0 0, .slice none 0 0, .slice none 0 0, I 0, I 0, .slice none 0 0] 36)) w.heap.size 26 #[I c.dl, .slice Ao no co, .slice Al nl cl, .slice Af nf cf] := Cel.on (Cel.new _ _ _) (bel_new _ _)
  have C2 : Cel ((w.alloc (.cells #[I c.dl, .slice Ao no co, .slice Al nl cl, .slice Af nf cf] 26)).alloc (.cells #[I 0, .slice none 0 0, .slice none 0 0, .slice none 0 0, I 0, I 0, .slice none 0 0] 36)) (w.heap.size + 1) 36 #[I 0, .slice none 0 0, .slice none 0 0, .slice none 0 0, I 0, I 0, .slice none 0 0] := Cel_at (by simp)
  have k1 := fits_any (h.below b2) m2 m3
  rw [hk] at k1
  clear h hk
  obtain ⟨dl, ot, lo, fl⟩ := c
  simp only at b1 b2 C1 C2 k1 ⊢
  go_enter Try.func10, Try.ntmps10
  go_wp2_with fail
  refine k1.mono ?_
  rintro e w3 ⟨rfl, b3⟩
  have B3 := b2.trans (b3.mono b2.size)
  have D1 := Cel.on C1 b3
  have D2 := Cel.on C2 b3
  have c0 := D1.cell 0
  have c1 := D1.cell 1
  have c2 := D1.cell 2
  have c3 := D1.cell 3
  simp at c0 c1 c2 c3
  have e0 := D2.cell 0
  have e1 := D2.cell 1
  have e2 := D2.cell 2
  have e3 := D2.cell 3
  have e4 := D2.cell 4
  have e5 := D2.cell 5
  have e6 := D2.cell 6
  simp at e0 e1 e2 e3 e4 e5 e6
  have f0 := D2.free 0
  have f1 := D2.free 1
  have f2 := D2.free 2
  have f3 := D2.free 3
  have f4 := D2.free 4
  have f5 := D2.free 5
  have f6 := D2.free 6
  have HB := Lib.hid B3
  have H2 := Lib.hid D2
  clear b1 b2 b3 B3 C1 C2 D1 D2 k1
  go_wp2
  exact bodyPost_ret (xnew_results rfl rfl (put7_cel H2.out _ _ _ _ _ _ _)) rfl ⟨rfl, put7_below HB.out (by omega) _ _ _ _ _ _ _⟩

set_option maxHeartbeats 1000000 in
theorem xat_any (dl sn t now : Int) (AL : Option Addr) (nL cL : Nat) (w : World) :
    Calls Try.prog 29 #[.agg #[I dl, .slice Ao no co, .slice Al nl cl, .slice Af nf cf, I t, I sn, .slice AL nL cL], I now] w fun e w' => e = .returned (.agg #[I dl, .slice Ao no co, .slice Al nl cl, .slice Af nf cf, I (adv t now), I sn, .slice AL nL cL]) ∧ Below w.heap.size w w' := by
  by_cases h1 : t < now
  · have t1 := decide_eq_true h1
    by_cases h2 : now ≤ 1099511627776
    · have t2 := decide_eq_true h2
      have e : adv t now = now := if_pos ⟨h1, h2⟩
      rw [e]
      clear h1 h2 e
      go_enter Try.func29, Try.ntmps29
      go_wp2
      exact bodyPost_ret (xat_results rfl (Cel_at (by simp))) rfl ⟨rfl, (bel_new w _).alloc (bel_new w _).size _⟩
    · have t2 := decide_eq_false h2
      have e : adv t now = t := if_neg (fun q => h2 q.2)
      rw [e]
      clear h1 h2 e
      go_enter Try.func29, Try.ntmps29
      go_wp2
      exact bodyPost_ret (xat_results rfl (Cel_at (by simp))) rfl ⟨rfl, (bel_new w _).alloc (bel_new w _).size _⟩
  · have t1 := decide_eq_false h1
    have e : adv t now = t := if_neg (fun q => h1 q.1)
    rw [e]
    clear h1 e
    go_enter Try.func29, Try.ntmps29
    go_wp2
    exact bodyPost_ret (xat_results rfl (Cel_at (by simp))) rfl ⟨rfl, (bel_new w _).alloc (bel_new w _).size _⟩
end
end Go.Proofs.Ytllhdgllgoanbaa.Lnk
