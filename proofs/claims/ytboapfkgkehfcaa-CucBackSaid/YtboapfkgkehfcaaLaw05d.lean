/-
  The walk of the law CucBack.
-/
import Derived.Test.YtboapfkgkehfcaaLaw05a
namespace Go.Proofs.Ytboapfkgkehfcaa
open Go.RowKit

set_option maxHeartbeats 400000 in
theorem back_long (t c f : Int) (a : Option Addr) (n cl : Nat) (w : World) (hl : 100 < n) :
    Calls Try.prog 5 #[.int .i64 t, .agg #[.int .i64 c, .int .i64 f], .slice a n cl] w fun e w' => e = .returned (.bool true) ∧ Below w.heap.size w w' := by
  have t1 : (100 : Int) < (n : Int) := by omega
  have b1 := bel_new w (.cells #[.int .i64 c, .int .i64 f] 23)
  go_enter Try.func5, Try.ntmps5
  go_wp2_with (go_at_call 16; refine (alive05_any _).mono ?_; rintro e w1 ⟨rfl, bel1⟩)
  go_ret
  exact ⟨rfl, b1.trans (bel1.mono b1.size)⟩

set_option maxHeartbeats 1000000 in
theorem back_bad (t c f : Int) (a : Option Addr) (n cl : Nat) (w : World) (hl : n ≤ 100) (he : eErr t c f ≠ 0) :
    Calls Try.prog 5 #[.int .i64 t, .agg #[.int .i64 c, .int .i64 f], .slice a n cl] w fun e w' => e = .returned (.bool true) ∧ Below w.heap.size w w' := by
  have t1 : decide ((100 : Int) < (n : Int)) = false := by simp; omega
  have t2 : decide (100 < n) = false := by simp; omega
  have b1 := bel_new w (.cells #[.int .i64 c, .int .i64 f] 23)
  have h1 := fun W => encode_any t c f W
  rw [eVal_bad he] at h1
  obtain ⟨e1, he1⟩ : ∃ e1, e1 = eErr t c f := ⟨_, rfl⟩
  rw [← he1] at he
  simp only [← he1] at h1
  have t3 : (e1 != 0) = true := by rw [bne_iff_ne]; exact he
  clear he1 he
  go_enter Try.func5, Try.ntmps5
  go_wp2_with fail
  refine (h1 _).mono ?_
  rintro e w1 ⟨v1, rfl, o1, k1⟩
  obtain ⟨A1, c1, rfl, _⟩ := o1.reads_len (n := 0) rfl
  have bel1 := b1.trans (k1.mono b1.size)
  clear o1 k1 h1
  go_wp2_with (go_at_call 16; refine (alive05_any _).mono ?_; rintro e w2 ⟨rfl, bel2⟩)
  go_ret
  exact ⟨rfl, bel1.trans (bel2.mono bel1.size)⟩

set_option maxHeartbeats 2000000 in
theorem back_ok (t c f : Int) (a : Option Addr) (l : List Byte) (cl : Nat) (w : World) (ht : -9223372036854775808 ≤ t ∧ t ≤ 9223372036854775807) (hb : Bs w w.heap.size a l) (hna : a = none → cl = 0) (hl : l.length ≤ 100) (he : eErr t c f = 0) :
    Calls Try.prog 5 #[.int .i64 t, .agg #[.int .i64 c, .int .i64 f], .slice a l.length cl] w fun e w' => e = .returned (.bool true) ∧ Below w.heap.size w w' := by
  have t1 : decide ((100 : Int) < (l.length : Int)) = false := by simp; omega
  have t2 : decide (100 < l.length) = false := by simp; omega
  obtain ⟨hcv, ht0, htc⟩ := eErr_zero he
  obtain ⟨hre, hrv⟩ := rVal_in hcv ⟨ht0, htc⟩
  have h1 := fun W => encode_any t c f W
  have h3 := fun W => round_any t c f W ht
  have h7 := fun W => fsize_any c f W
  rw [hre, hrv] at h3
  have hcs : csz c f = 1 + c + f := by unfold csz; rw [if_pos hcv]
  rw [hcs] at h7
  rw [he, eVal_ok he] at h1
  obtain ⟨C, F, rfl, rfl, hC1, hC4, hF3⟩ := cvl_nat hcv
  obtain ⟨E, hE⟩ : ∃ E, E = code t.toNat C F := ⟨_, rfl⟩
  have hT : t.toNat < 256 ^ (C + 1) := by simp only [capT, Int.toNat_natCast] at htc; omega
  have hd := dcd_code t.toNat C F l hC1 hC4 hF3 hT
  have hEl : E.length = 1 + C + F := by rw [hE, code_len]
  simp only [Int.toNat_natCast] at h1
  rw [← hE] at hd
  simp only [← hE] at h1
  obtain ⟨V, hV⟩ : ∃ V, V = (if (F : Int) = 0 then t - t % 256 else t) := ⟨_, rfl⟩
  rw [← hV] at h3
  obtain ⟨TV, hTV⟩ : ∃ TV, TV = (if F = 0 then t.toNat - t.toNat % 256 else t.toNat) := ⟨_, rfl⟩
  rw [← hTV] at hd
  have hVT : (TV : Int) = V := by
    rw [hV, hTV]
    by_cases hf : F = 0
    · rw [if_pos hf, if_pos (by omega)]; omega
    · rw [if_neg hf, if_neg (by omega)]; omega
  obtain ⟨N, hN⟩ : ∃ N, N = 1 + C + F := ⟨_, rfl⟩
  have hdz : dsz (E ++ l) = N := by unfold dsz; rw [hd, hN]; rfl
  have hNI : (1 : Int) + (C : Int) + (F : Int) = (N : Int) := by omega
  rw [hNI] at h7
  rw [← hN] at hEl
  have hdec : ∀ (A : Option Addr) (m cc : Nat) (W : World), Hid ((E ++ l).length = m) → Bs W W.heap.size A (E ++ l) → m ≤ cc → cc ≤ maxLen → m < 1000000 →
      Calls Try.prog 17 #[.slice A m cc] W fun e w' => e = .returned (.tuple #[.int .i64 V, .agg #[.int .i64 (C : Int), .int .i64 (F : Int)], .int .i64 (N : Int), .int .i64 0]) ∧ Below W.heap.size W w' := fun A m cc W g1 g2 g3 g4 g5 => by
    have := decode_any A (E ++ l) m cc W g1 g2 g3 g4 g5
    rw [hd, hdz] at this
    simp only [dOut, hVT] at this
    exact this
  have hV1 : V ≤ t := by rw [hV]; split <;> omega
  have hV2 : t - V < 256 := by rw [hV]; split <;> omega
  have hV0 : 0 ≤ V := by rw [hV]; split <;> omega
  have hVF : F = 0 ∨ V = t := by
    rw [hV]
    by_cases hf : F = 0
    · exact .inl hf
    · exact .inr (by rw [if_neg (by omega)])
  have hN8 : N ≤ 8 := by omega
  have b1 := bel_new w (.cells #[.int .i64 (C : Int), .int .i64 (F : Int)] 23)
  have hF0 := Fm_new w 23 (C : Int) (F : Int)
  have HEL := Lib.hid hEl
  clear hE hV hTV hVT hN hdz hNI hd hcs hcv htc hre hrv hT he
  go_enter Try.func5, Try.ntmps5
  go_wp2_with fail
  refine (h1 _).mono ?_
  rintro e w1 ⟨v1, rfl, o1, k1⟩
  obtain ⟨A1, c1, rfl, hA1, hn1, _⟩ := o1.reads
  have bel1 := b1.trans (k1.mono b1.size)
  have hF1 := hF0.keep k1
  have hb1 := (hb.below bel1).more bel1.size
  obtain ⟨M, hM⟩ : ∃ M, (E ++ l).length = M := ⟨_, rfl⟩
  have HM := Lib.hid hM
  have hM8 : M < 1000000 := by rw [← hM, List.length_append]; omega
  have hE8 : E.length ≤ 8 := by omega
  have hown1 := Ow_empty w1 w1.heap.size 5 (Nat.le_refl _)
  have b2 := bel_new w1 (.cells #[] 5)
  clear o1 k1 h1 hF0 b1 hb hM hEl
  go_wp2_with (first
    | (at_builtin; refine wpList_app _ is_bytes rfl (.tmp 34) (.tmp 35) rfl (m := []) rfl hown1 rfl (l := E) (hA1.below b2) hn1 (by simp; omega) b2.size ?_; intro v2 w2 hown2 hgrow2; have b3 := b2.grown hgrow2 b2.size (Ow.base_le (l := []) hown1); rw [List.nil_append] at hown2; have hb2 := hb1.below b3)
    | (at_builtin; refine wpList_app _ is_bytes rfl (.tmp 36) (.tmp 37) rfl (m := E) rfl hown2 rfl (l := l) hb2 hna (by omega) b3.size ?_; intro v3 w3 hown3 hgrow3; have b4 := b3.grown hgrow3 b3.size (Ow.base_le (l := E) hown2); obtain ⟨A3, c3, rfl, hA3, hn3, hc3, hm3⟩ := hown3.reads_len HM.out)
    | (go_at_call 17; refine (hdec A3 M c3 w3 HM hA3 hc3 hm3 hM8).mono ?_; rintro e w4 ⟨rfl, k4⟩; have b5 := b4.trans (k4.mono b4.size); have b6 := b5.alloc b5.size (.cells #[.int .i64 (C : Int), .int .i64 (F : Int)] 23); have hF5 := hF1.keep b6; have hG5 := Fm_new w4 23 (C : Int) (F : Int); obtain ⟨_, x0, x1⟩ := id hF5))
  refine (h3 _).mono ?_
  rintro e w5 ⟨rfl, k5⟩
  have bel5 := bel1.trans ((b6.trans (k5.mono b6.size)).mono bel1.size)
  have hF6 := hF5.keep k5
  obtain ⟨_, y0, y1⟩ := hG5.keep k5
  clear x0 x1 hF5 hG5 k5 b6 b5 b4 b3 b2 k4 hown1 hown2 hown3 hA3 hA1 hdec h3 hF1 bel1 hb1 hb2 hgrow2 hgrow3
  obtain ⟨_, x0, x1⟩ := id hF6
  have hEl := HEL.out
  have hVi : -9223372036854775808 ≤ V := by omega
  by_cases hf : F = 0
  · subst hf
    clear hVF
    go_wp2_with fail
    refine (h7 _).mono ?_
    rintro e w6 ⟨rfl, k6⟩
    have bel6 := bel5.trans (k6.mono bel5.size)
    obtain ⟨_, x0, x1⟩ := hF6.keep k6
    go_wp2_with (go_at_call 16; refine (alive05_any _).mono ?_; rintro e w7 ⟨rfl, bel7⟩)
    go_ret
    exact ⟨rfl, bel6.trans (bel7.mono bel6.size)⟩
  · have f1 : ((F : Int) == 0) = false := by rw [beq_eq_false_iff_ne]; omega
    have f2 : (F == 0) = false := by rw [beq_eq_false_iff_ne]; exact hf
    have hVt : V = t := hVF.resolve_left hf
    subst hVt
    clear hVF
    go_wp2_with fail
    refine (h7 _).mono ?_
    rintro e w6 ⟨rfl, k6⟩
    have bel6 := bel5.trans (k6.mono bel5.size)
    obtain ⟨_, x0, x1⟩ := hF6.keep k6
    go_wp2_with (go_at_call 16; refine (alive05_any _).mono ?_; rintro e w7 ⟨rfl, bel7⟩)
    go_ret
    exact ⟨rfl, bel6.trans (bel7.mono bel6.size)⟩

theorem cucBack_walk (t c f : Int) (a : Option Addr) (l : List Byte) (cl : Nat) (w : World) (ht : -9223372036854775808 ≤ t ∧ t ≤ 9223372036854775807) (hb : Bs w w.heap.size a l) (hna : a = none → cl = 0) :
    Calls Try.prog 5 #[.int .i64 t, .agg #[.int .i64 c, .int .i64 f], .slice a l.length cl] w fun e w' => e = .returned (.bool true) ∧ Below w.heap.size w w' := by
  by_cases hl : l.length ≤ 100
  · by_cases he : eErr t c f = 0
    · exact back_ok t c f a l cl w ht hb hna hl he
    · exact back_bad t c f a l.length cl w hl he
  · exact back_long t c f a l.length cl w (by omega)
end Go.Proofs.Ytboapfkgkehfcaa
