/-
  The walk of the law CucOrders.
-/
import Derived.Test.YtboapfkgkehfcaaLaw05a
namespace Go.Proofs.Ytboapfkgkehfcaa
open Go.RowKit

set_option maxHeartbeats 1000000 in
theorem orders_bad (t u c f : Int) (w : World) (ht : -9223372036854775808 ≤ t ∧ t ≤ 9223372036854775807) (hu : -9223372036854775808 ≤ u ∧ u ≤ 9223372036854775807) (he : ¬ (rErr t c f = 0 ∧ rErr u c f = 0)) :
    Calls Try.prog 7 #[.int .i64 t, .int .i64 u, .agg #[.int .i64 c, .int .i64 f]] w fun e w' => e = .returned (.bool true) ∧ Below w.heap.size w w' := by
  have h1 := fun W => round_any t c f W ht
  have h2 := fun W => round_any u c f W hu
  have b1 := bel_new w (.cells #[.int .i64 c, .int .i64 f] 23)
  have hF0 := Fm_new w 23 c f
  obtain ⟨A, hA⟩ : ∃ A, A = rVal t c f := ⟨_, rfl⟩
  obtain ⟨B, hB⟩ : ∃ B, B = rVal u c f := ⟨_, rfl⟩
  obtain ⟨e1, he1⟩ : ∃ e1, e1 = rErr t c f := ⟨_, rfl⟩
  obtain ⟨e2, he2⟩ : ∃ e2, e2 = rErr u c f := ⟨_, rfl⟩
  simp only [← hA, ← he1] at h1
  simp only [← hB, ← he2] at h2
  rw [← he1, ← he2] at he
  clear hA hB he1 he2 ht hu
  by_cases h0 : e1 = 0
  · have h3 : (e2 != 0) = true := by rw [bne_iff_ne]; exact fun h => he ⟨h0, h⟩
    subst h0
    clear he
    go_enter Try.func7, Try.ntmps7
    go_wp2_with fail
    refine (h1 _).mono ?_
    rintro e w1 ⟨rfl, k1⟩
    have bel1 := b1.trans (k1.mono b1.size)
    obtain ⟨_, x0, x1⟩ := hF0.keep k1
    go_wp2_with fail
    refine (h2 _).mono ?_
    rintro e w2 ⟨rfl, k2⟩
    have bel2 := bel1.trans (k2.mono bel1.size)
    go_wp2_with (go_at_call 16; refine (alive05_any _).mono ?_; rintro e w3 ⟨rfl, bel3⟩)
    go_ret
    exact ⟨rfl, bel2.trans (bel3.mono bel2.size)⟩
  · have h3 : (e1 != 0) = true := by rw [bne_iff_ne]; exact h0
    clear he h0
    go_enter Try.func7, Try.ntmps7
    go_wp2_with fail
    refine (h1 _).mono ?_
    rintro e w1 ⟨rfl, k1⟩
    have bel1 := b1.trans (k1.mono b1.size)
    obtain ⟨_, x0, x1⟩ := hF0.keep k1
    go_wp2_with fail
    refine (h2 _).mono ?_
    rintro e w2 ⟨rfl, k2⟩
    have bel2 := bel1.trans (k2.mono bel1.size)
    go_wp2_with (go_at_call 16; refine (alive05_any _).mono ?_; rintro e w3 ⟨rfl, bel3⟩)
    go_ret
    exact ⟨rfl, bel2.trans (bel3.mono bel2.size)⟩

set_option maxHeartbeats 2000000 in
theorem orders_ok (t u c f : Int) (w : World) (ht : -9223372036854775808 ≤ t ∧ t ≤ 9223372036854775807) (hu : -9223372036854775808 ≤ u ∧ u ≤ 9223372036854775807) (he1 : rErr t c f = 0) (he2 : rErr u c f = 0) :
    Calls Try.prog 7 #[.int .i64 t, .int .i64 u, .agg #[.int .i64 c, .int .i64 f]] w fun e w' => e = .returned (.bool true) ∧ Below w.heap.size w w' := by
  have h1 := fun W => round_any t c f W ht
  have h2 := fun W => round_any u c f W hu
  have b1 := bel_new w (.cells #[.int .i64 c, .int .i64 f] 23)
  have hF0 := Fm_new w 23 c f
  obtain ⟨hcv, _, _⟩ := rErr_zero he1
  obtain ⟨a0, a1, _, a3⟩ := rVal_fits he1
  obtain ⟨b0, b2, _, b3⟩ := rVal_fits he2
  have hmono := fun h => rVal_mono he1 he2 (t := t) (u := u) h
  rw [he1] at h1
  rw [he2] at h2
  obtain ⟨A, hA⟩ : ∃ A, A = rVal t c f := ⟨_, rfl⟩
  obtain ⟨B, hB⟩ : ∃ B, B = rVal u c f := ⟨_, rfl⟩
  simp only [← hA] at h1 a0 a1 a3 hmono
  simp only [← hB] at h2 b0 b2 b3 hmono
  have hA0 : eErr A c f = 0 := eErr_ok hcv ⟨a0, a1⟩
  have hB0 : eErr B c f = 0 := eErr_ok hcv ⟨b0, b2⟩
  have hless := less_eVal hA0 hB0 (fun h => ⟨a3 h, b3 h⟩)
  have h3 := fun W => encode_any A c f W
  have h4 := fun W => encode_any B c f W
  rw [hA0] at h3
  rw [hB0] at h4
  obtain ⟨X, hX⟩ : ∃ X, X = eVal A c f := ⟨_, rfl⟩
  obtain ⟨Y, hY⟩ : ∃ Y, Y = eVal B c f := ⟨_, rfl⟩
  simp only [← hX] at h3 hless
  simp only [← hY] at h4 hless
  have HM := Lib.hid hmono
  clear hA hB hX hY hA0 hB0 a0 a1 a3 b0 b2 b3 hcv he1 he2 ht hu hmono
  go_enter Try.func7, Try.ntmps7
  go_wp2_with fail
  refine (h1 _).mono ?_
  rintro e w1 ⟨rfl, k1⟩
  have bel1 := b1.trans (k1.mono b1.size)
  have hF1 := hF0.keep k1
  obtain ⟨_, x0, x1⟩ := id hF1
  clear hF0 k1 h1 b1
  go_wp2_with fail
  refine (h2 _).mono ?_
  rintro e w2 ⟨rfl, k2⟩
  have bel2 := bel1.trans (k2.mono bel1.size)
  have hF2 := hF1.keep k2
  clear x0 x1 hF1 k2 h2 bel1
  obtain ⟨_, x0, x1⟩ := id hF2
  go_wp2_with fail
  refine (h3 _).mono ?_
  rintro e w3 ⟨v3, rfl, o3, k3⟩
  obtain ⟨A3, c3, rfl, hA3, hn3, _⟩ := o3.reads
  have bel3 := bel2.trans (k3.mono bel2.size)
  have hF3 := hF2.keep k3
  clear x0 x1 hF2 k3 h3 bel2 o3
  obtain ⟨_, x0, x1⟩ := id hF3
  go_wp2_with fail
  refine (h4 _).mono ?_
  rintro e w4 ⟨v4, rfl, o4, k4⟩
  obtain ⟨A4, c4, rfl, hA4, hn4, _⟩ := o4.reads
  have bel4 := bel3.trans (k4.mono bel3.size)
  have s1 := run_str (P := Try.prog) w4 is_bytes Try.underlying9 (hA3.below k4) hn3
  have s2 := run_str (P := Try.prog) w4 is_bytes Try.underlying9 hA4 hn4
  clear x0 x1 hF3 k4 h4 bel3 o4 hA3 hA4
  by_cases htu : u < t
  · go_wp2_with (go_at_call 16; refine (alive05_any _).mono ?_; rintro e w5 ⟨rfl, bel5⟩)
    go_ret
    exact ⟨rfl, bel4.trans (bel5.mono bel4.size)⟩
  · have htf : decide (u < t) = false := by simpa using htu
    have hAB : A ≤ B := HM.out (by omega)
    go_wp2_with (go_at_call 16; refine (alive05_any _).mono ?_; rintro e w5 ⟨rfl, bel5⟩)
    go_ret
    exact ⟨rfl, bel4.trans (bel5.mono bel4.size)⟩

theorem cucOrders_walk (t u c f : Int) (w : World) (ht : -9223372036854775808 ≤ t ∧ t ≤ 9223372036854775807) (hu : -9223372036854775808 ≤ u ∧ u ≤ 9223372036854775807) :
    Calls Try.prog 7 #[.int .i64 t, .int .i64 u, .agg #[.int .i64 c, .int .i64 f]] w fun e w' => e = .returned (.bool true) ∧ Below w.heap.size w w' := by
  by_cases he : rErr t c f = 0 ∧ rErr u c f = 0
  · exact orders_ok t u c f w ht hu he.1 he.2
  · exact orders_bad t u c f w ht hu he
end Go.Proofs.Ytboapfkgkehfcaa
