/-
  The walks of package cuc's small functions, and of Round: Valid, Size, preamble, formatOf, last, spareBits, validTime.
-/
import Derived.Test.YtboapfkgkehfcaaCucMath
import Derived.Test.YtboapfkgkehfcaaBase
import Derived.Deep.QuietTactic
import Derived.Lib.MinMax
namespace Go.Proofs.Ytboapfkgkehfcaa
open Go.RowKit

/-- block g holds a format -/
def Fm (w : World) (g : Nat) (c f : Int) : Prop := g < w.heap.size ∧ w.cell? ⟨g, 0, none⟩ = some (.int .i64 c) ∧ w.cell? ⟨g, 1, none⟩ = some (.int .i64 f)
theorem Fm.keep {w w' : World} {g : Nat} {c f : Int} (h : Fm w g c f) (hb : Below w.heap.size w w') : Fm w' g c f :=
  ⟨Nat.lt_of_lt_of_le h.1 hb.size, (hb.cell (p := ⟨g, 0, none⟩) h.1).trans h.2.1, (hb.cell (p := ⟨g, 1, none⟩) h.1).trans h.2.2⟩
theorem Fm.below {w w' : World} {g B : Nat} {c f : Int} (h : Fm w g c f) (hg : g < B) (hb : Below B w w') : Fm w' g c f :=
  ⟨Nat.lt_of_lt_of_le h.1 hb.size, (hb.cell (p := ⟨g, 0, none⟩) hg).trans h.2.1, (hb.cell (p := ⟨g, 1, none⟩) hg).trans h.2.2⟩
theorem Fm.drew {w : World} {g : Nat} {c f : Int} (h : Fm w g c f) : Fm w.drew g c f := h
theorem Fm_new (w : World) (t : TypeId) (c f : Int) : Fm (w.alloc (.cells #[.int .i64 c, .int .i64 f] t)) w.heap.size c f := by
  have h := Cel.new w t #[.int .i64 c, .int .i64 f]
  exact ⟨h.lt, h.cell 0, h.cell 1⟩
theorem bel_new (w : World) (o : Obj) : Below w.heap.size w (w.alloc o) := (Below.refl _ _).alloc (Nat.le_refl _) _

set_option maxHeartbeats 400000 in
theorem fvalid_any (c f : Int) (w : World) :
    Calls Try.prog 12 #[.agg #[.int .i64 c, .int .i64 f]] w fun e w' => e = .returned (.bool (cvl c f)) ∧ Below w.heap.size w w' := by
  by_cases h1 : 1 ≤ c
  · by_cases h2 : c ≤ 4
    · by_cases h3 : 0 ≤ f
      · by_cases h4 : f ≤ 3
        · rw [cvl_iff.2 ⟨h1, h2, h3, h4⟩]
          go_enter Try.func12, Try.ntmps12
          go_wp2
          go_ret
          exact ⟨rfl, bel_new _ _⟩
        · rw [cvl_no (by omega)]
          have dh4 : decide (f ≤ 3) = false := by simpa using h4
          go_enter Try.func12, Try.ntmps12
          go_wp2
          go_ret
          exact ⟨rfl, bel_new _ _⟩
      · rw [cvl_no (by omega)]
        have dh3 : decide (0 ≤ f) = false := by simpa using h3
        go_enter Try.func12, Try.ntmps12
        go_wp2
        go_ret
        exact ⟨rfl, bel_new _ _⟩
    · rw [cvl_no (by omega)]
      have dh2 : decide (c ≤ 4) = false := by simpa using h2
      go_enter Try.func12, Try.ntmps12
      go_wp2
      go_ret
      exact ⟨rfl, bel_new _ _⟩
  · rw [cvl_no (by omega)]
    have dh1 : decide (1 ≤ c) = false := by simpa using h1
    go_enter Try.func12, Try.ntmps12
    go_wp2
    go_ret
    exact ⟨rfl, bel_new _ _⟩

set_option maxHeartbeats 400000 in
theorem fsize_any (c f : Int) (w : World) :
    Calls Try.prog 14 #[.agg #[.int .i64 c, .int .i64 f]] w fun e w' => e = .returned (.int .i64 (csz c f)) ∧ Below w.heap.size w w' := by
  have hv := fun W => fvalid_any c f W
  cases h : cvl c f with
  | true =>
    obtain ⟨h1, h2, h3, h4⟩ := cvl_iff.1 h
    have e : csz c f = 1 + c + f := by unfold csz; rw [if_pos h]
    rw [e]
    simp only [h] at hv
    clear e h
    go_enter Try.func14, Try.ntmps14
    go_wp2_with fail
    refine (hv _).mono ?_
    rintro e w' ⟨rfl, hb⟩
    obtain ⟨_, c0, c1⟩ := (Fm_new w 23 c f).keep hb
    have hbb := (bel_new w (.cells #[.int .i64 c, .int .i64 f] 23)).trans (hb.mono (bel_new w _).size)
    clear hb hv
    go_wp2
    go_ret
    exact ⟨rfl, hbb⟩
  | false =>
    have e : csz c f = 0 := by unfold csz; rw [h]; rfl
    rw [e]
    simp only [h] at hv
    clear e h
    go_enter Try.func14, Try.ntmps14
    go_wp2_with fail
    refine (hv _).mono ?_
    rintro e w' ⟨rfl, hb⟩
    have hbb := (bel_new w (.cells #[.int .i64 c, .int .i64 f] 23)).trans (hb.mono (bel_new w _).size)
    clear hb hv
    go_wp2
    go_ret
    exact ⟨rfl, hbb⟩

set_option maxHeartbeats 400000 in
theorem ftime_any (t : Int) (w : World) :
    Calls Try.prog 19 #[.int .i64 t] w fun e w' => e = .returned (.bool (decide (0 ≤ t ∧ t ≤ 1099511627776))) ∧ w = w' := by
  by_cases h1 : 0 ≤ t
  · by_cases h2 : t ≤ 1099511627776
    · rw [decide_eq_true (⟨h1, h2⟩ : 0 ≤ t ∧ t ≤ 1099511627776)]
      go_enter Try.func19, Try.ntmps19
      go_wp2
      go_ret
      exact ⟨rfl, rfl⟩
    · rw [decide_eq_false (show ¬ (0 ≤ t ∧ t ≤ 1099511627776) by omega)]
      have d2 : decide (t ≤ 1099511627776) = false := by simpa using h2
      go_enter Try.func19, Try.ntmps19
      go_wp2
      go_ret
      exact ⟨rfl, rfl⟩
  · rw [decide_eq_false (show ¬ (0 ≤ t ∧ t ≤ 1099511627776) by omega)]
    have d1 : decide (0 ≤ t) = false := by simpa using h1
    go_enter Try.func19, Try.ntmps19
    go_wp2
    go_ret
    exact ⟨rfl, rfl⟩

set_option maxHeartbeats 400000 in
theorem flast_any (c f : Int) (w : World) (h : cvl c f = true) :
    Calls Try.prog 20 #[.agg #[.int .i64 c, .int .i64 f]] w fun e w' => e = .returned (.int .i64 (capT c - 1)) ∧ Below w.heap.size w w' := by
  obtain ⟨h1, h2, _, _⟩ := cvl_iff.1 h
  clear h
  have : c = 1 ∨ c = 2 ∨ c = 3 ∨ c = 4 := by omega
  clear h1 h2
  rcases this with rfl | rfl | rfl | rfl
  · rw [show capT 1 - 1 = 65535 from rfl]
    go_enter Try.func20, Try.ntmps20
    go_wp2
    go_ret
    exact ⟨rfl, bel_new _ _⟩
  · rw [show capT 2 - 1 = 16777215 from rfl]
    go_enter Try.func20, Try.ntmps20
    go_wp2
    go_ret
    exact ⟨rfl, bel_new _ _⟩
  · rw [show capT 3 - 1 = 4294967295 from rfl]
    go_enter Try.func20, Try.ntmps20
    go_wp2
    go_ret
    exact ⟨rfl, bel_new _ _⟩
  · rw [show capT 4 - 1 = 1099511627775 from rfl]
    go_enter Try.func20, Try.ntmps20
    go_wp2
    go_ret
    exact ⟨rfl, bel_new _ _⟩

set_option maxHeartbeats 400000 in
theorem fspare_any (c f : Int) (w : World) (h1 : 1 ≤ f) (h2 : f ≤ 3) :
    Calls Try.prog 24 #[.agg #[.int .i64 c, .int .i64 f]] w fun e w' => e = .returned (.int .i64 (8 * (f - 1))) ∧ Below w.heap.size w w' := by
  go_enter Try.func24, Try.ntmps24
  go_wp2
  go_ret
  exact ⟨rfl, bel_new _ _⟩

set_option maxHeartbeats 400000 in
theorem fpre_any (c f : Int) (w : World) (h : cvl c f = true) :
    Calls Try.prog 23 #[.agg #[.int .i64 c, .int .i64 f]] w fun e w' => e = .returned (.int .u8 (12 + 4 * c + f)) ∧ Below w.heap.size w w' := by
  obtain ⟨h1, h2, h3, h4⟩ := cvl_iff.1 h
  clear h
  go_enter Try.func23, Try.ntmps23
  go_wp2
  go_ret
  exact ⟨ret_int (by omega), bel_new _ _⟩

/-- the two numbers that formatOf returns -/
def foC (p : Byte) : Int := 1 + ((p.toNat : Int) - 16).tdiv 4
def foF (p : Byte) : Int := ((p.toNat : Int) - 16).tmod 4
theorem fo_valid (p : Byte) : cvl (foC p) (foF p) = decide (¬ (p.toNat < 16 ∨ 31 < p.toNat)) := by
  have h : ∀ m : Fin 256, cvl (1 + (((m.val : Nat) : Int) - 16).tdiv 4) ((((m.val : Nat) : Int) - 16).tmod 4) = decide (¬ (m.val < 16 ∨ 31 < m.val)) := by decide +kernel
  exact h ⟨p.toNat, p.isLt⟩
theorem fo_nat {p : Byte} (h : ¬ (p.toNat < 16 ∨ 31 < p.toNat)) : foC p = (((p.toNat - 16) / 4 + 1 : Nat) : Int) ∧ foF p = ((p.toNat % 4 : Nat) : Int) := by
  have h1 : ((p.toNat : Int) - 16).tdiv 4 = ((p.toNat : Int) - 16) / 4 := Int.tdiv_eq_ediv_of_nonneg (by omega)
  have h2 : ((p.toNat : Int) - 16).tmod 4 = ((p.toNat : Int) - 16) % 4 := Int.tmod_eq_emod_of_nonneg (by omega)
  unfold foC foF
  rw [h1, h2]
  omega

set_option maxHeartbeats 400000 in
theorem formatOf_any (p : Byte) (w : World) :
    Calls Try.prog 27 #[.int .u8 (p.toNat : Int)] w fun e w' => e = .returned (.agg #[.int .i64 (foC p), .int .i64 (foF p)]) ∧ Below w.heap.size w w' := by
  have hp := p.isLt
  obtain ⟨C, hC⟩ : ∃ C, C = foC p := ⟨_, rfl⟩
  obtain ⟨F, hF⟩ : ∃ F, F = foF p := ⟨_, rfl⟩
  rw [← hC, ← hF]
  unfold foC at hC
  unfold foF at hF
  have hq : -4 ≤ ((p.toNat : Int) - 16).tdiv 4 ∧ ((p.toNat : Int) - 16).tdiv 4 ≤ 60 := by
    have h : ∀ m : Fin 256, -4 ≤ (((m.val : Nat) : Int) - 16).tdiv 4 ∧ (((m.val : Nat) : Int) - 16).tdiv 4 ≤ 60 := by decide +kernel
    exact h ⟨p.toNat, p.isLt⟩
  go_enter Try.func27, Try.ntmps27
  go_wp2

  refine bodyPost_ret (v := .agg #[.int .i64 C, .int .i64 F]) (by simp [results, Try.results27, go_sem, hC, hF]) rfl ⟨rfl, bel_new _ _⟩

set_option maxHeartbeats 400000 in
theorem round_any (t c f : Int) (w : World) (ht : -9223372036854775808 ≤ t ∧ t ≤ 9223372036854775807) :
    Calls Try.prog 10 #[.int .i64 t, .agg #[.int .i64 c, .int .i64 f]] w fun e w' => e = .returned (.tuple #[.int .i64 (rVal t c f), .int .i64 (rErr t c f)]) ∧ Below w.heap.size w w' := by
  have hv := fun W => fvalid_any c f W
  have hF0 := Fm_new w 23 c f
  have hb0 := bel_new w (.cells #[.int .i64 c, .int .i64 f] 23)
  cases h : cvl c f with
  | false =>
    rw [rErr_bad h, rVal_bad (by rw [rErr_bad h]; decide)]
    simp only [h] at hv
    go_enter Try.func10, Try.ntmps10
    go_wp2_with fail
    refine (hv _).mono ?_
    rintro e w1 ⟨rfl, hb⟩
    have hb1 := hb0.trans (hb.mono hb0.size)
    go_wp2
    go_ret2
    exact ⟨rfl, hb1⟩
  | true =>
    by_cases hr : 0 ≤ t ∧ t ≤ 1099511627776
    · have hu := fun W => ftime_any t W
      rw [decide_eq_true hr] at hu
      have hl := fun W => flast_any c f W h
      have hre := rErr_ok h hr
      obtain ⟨c1, c2, f1, f2⟩ := cvl_iff.1 h
      have hcap := capT_le c1 c2
      have hrv : rVal t c f = (if f = 0 then min t (capT c - 1) - min t (capT c - 1) % 256 else min t (capT c - 1)) := by unfold rVal; rw [if_pos hre]
      rw [hre, hrv]
      obtain ⟨K, hK⟩ : ∃ K, K = capT c - 1 := ⟨_, rfl⟩
      rw [← hK]
      simp only [← hK] at hl
      obtain ⟨m, hm⟩ : ∃ m, m = min t K := ⟨_, rfl⟩
      have hmb : 0 ≤ m ∧ m ≤ 1099511627776 := by omega
      rw [← hm]
      simp only [h] at hv
      have hmin : min t K = m := hm.symm
      by_cases hf : f = 0
      · subst hf
        rw [if_pos rfl]
        clear hm hK hrv hre h hcap
        go_enter Try.func10, Try.ntmps10
        go_wp2_with fail
        refine (hv _).mono ?_
        rintro e w1 ⟨rfl, hb⟩
        have hb1 := hb0.trans (hb.mono hb0.size)
        have hF1 := hF0.keep hb
        clear hb
        go_wp2_with fail
        refine (hu _).mono ?_
        rintro e w2 ⟨rfl, rfl⟩
        obtain ⟨_, x0, x1⟩ := hF1
        go_wp2_with fail
        refine (hl _).mono ?_
        rintro e w2 ⟨rfl, hb⟩
        have hb2 := hb1.trans (hb.mono hb1.size)
        obtain ⟨_, y0, y1⟩ := (show Fm w1 w.heap.size c 0 from ⟨‹_›, x0, x1⟩).keep hb
        clear hb x0 x1
        go_wp2
        go_ret2
        exact ⟨rfl, hb2⟩
      · rw [if_neg hf]
        have hf2 : (f == 0) = false := by simpa using hf
        clear hm hK hrv hre h hcap
        go_enter Try.func10, Try.ntmps10
        go_wp2_with fail
        refine (hv _).mono ?_
        rintro e w1 ⟨rfl, hb⟩
        have hb1 := hb0.trans (hb.mono hb0.size)
        have hF1 := hF0.keep hb
        clear hb
        go_wp2_with fail
        refine (hu _).mono ?_
        rintro e w2 ⟨rfl, rfl⟩
        obtain ⟨_, x0, x1⟩ := hF1
        go_wp2_with fail
        refine (hl _).mono ?_
        rintro e w2 ⟨rfl, hb⟩
        have hb2 := hb1.trans (hb.mono hb1.size)
        obtain ⟨_, y0, y1⟩ := (show Fm w1 w.heap.size c f from ⟨‹_›, x0, x1⟩).keep hb
        clear hb x0 x1
        go_wp2
        go_ret2
        exact ⟨rfl, hb2⟩
    · rw [rErr_out h hr, rVal_bad (by rw [rErr_out h hr]; decide)]
      have hu := fun W => ftime_any t W
      rw [decide_eq_false hr] at hu
      simp only [h] at hv
      go_enter Try.func10, Try.ntmps10
      go_wp2_with fail
      refine (hv _).mono ?_
      rintro e w1 ⟨rfl, hb⟩
      have hb1 := hb0.trans (hb.mono hb0.size)
      go_wp2_with fail
      refine (hu _).mono ?_
      rintro e w2 ⟨rfl, rfl⟩
      go_wp2
      go_ret2
      exact ⟨rfl, hb1⟩
end Go.Proofs.Ytboapfkgkehfcaa
