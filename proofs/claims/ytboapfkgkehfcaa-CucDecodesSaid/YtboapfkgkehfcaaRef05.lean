/-
  The walks of the reference of layer 5: Valid, Size, most, Round, Encode.
-/
import Derived.Test.YtboapfkgkehfcaaCucE
import Derived.Deep.LoopGhost
namespace Go.Proofs.Ytboapfkgkehfcaa
open Go.RowKit

set_option maxHeartbeats 400000 in
theorem xfvalid_any (c f : Int) (w : World) :
    Calls Try.prog 13 #[.agg #[.int .i64 c, .int .i64 f]] w fun e w' => e = .returned (.bool (cvl c f)) ∧ Below w.heap.size w w' := by
  by_cases h1 : 1 ≤ c
  · by_cases h2 : c ≤ 4
    · by_cases h3 : 0 ≤ f
      · by_cases h4 : f ≤ 3
        · rw [cvl_iff.2 ⟨h1, h2, h3, h4⟩]
          go_enter Try.func13, Try.ntmps13
          go_wp2
          go_ret
          exact ⟨rfl, bel_new _ _⟩
        · rw [cvl_no (by omega)]
          have dh4 : decide (f ≤ 3) = false := by simpa using h4
          go_enter Try.func13, Try.ntmps13
          go_wp2
          go_ret
          exact ⟨rfl, bel_new _ _⟩
      · rw [cvl_no (by omega)]
        have dh3 : decide (0 ≤ f) = false := by simpa using h3
        go_enter Try.func13, Try.ntmps13
        go_wp2
        go_ret
        exact ⟨rfl, bel_new _ _⟩
    · rw [cvl_no (by omega)]
      have dh2 : decide (c ≤ 4) = false := by simpa using h2
      go_enter Try.func13, Try.ntmps13
      go_wp2
      go_ret
      exact ⟨rfl, bel_new _ _⟩
  · rw [cvl_no (by omega)]
    have dh1 : decide (1 ≤ c) = false := by simpa using h1
    go_enter Try.func13, Try.ntmps13
    go_wp2
    go_ret
    exact ⟨rfl, bel_new _ _⟩

set_option maxHeartbeats 400000 in
theorem xfsize_any (c f : Int) (w : World) :
    Calls Try.prog 15 #[.agg #[.int .i64 c, .int .i64 f]] w fun e w' => e = .returned (.int .i64 (csz c f)) ∧ Below w.heap.size w w' := by
  have hv := fun W => xfvalid_any c f W
  cases h : cvl c f with
  | true =>
    obtain ⟨h1, h2, h3, h4⟩ := cvl_iff.1 h
    have e : csz c f = 1 + c + f := by unfold csz; rw [if_pos h]
    rw [e]
    simp only [h] at hv
    clear e h
    go_enter Try.func15, Try.ntmps15
    go_wp2_with fail
    refine (hv _).mono ?_
    rintro e w' ⟨rfl, hb⟩
    obtain ⟨_, c0, c1⟩ := (Fm_new w 24 c f).keep hb
    have hbb := (bel_new w (.cells #[.int .i64 c, .int .i64 f] 24)).trans (hb.mono (bel_new w _).size)
    clear hb hv
    go_wp2
    go_ret
    exact ⟨rfl, hbb⟩
  | false =>
    have e : csz c f = 0 := by unfold csz; rw [h]; rfl
    rw [e]
    simp only [h] at hv
    clear e h
    go_enter Try.func15, Try.ntmps15
    go_wp2_with fail
    refine (hv _).mono ?_
    rintro e w' ⟨rfl, hb⟩
    have hbb := (bel_new w (.cells #[.int .i64 c, .int .i64 f] 24)).trans (hb.mono (bel_new w _).size)
    clear hb hv
    go_wp2
    go_ret
    exact ⟨rfl, hbb⟩


/-- the greatest time of a format, as the reference says it -/
def mostV (c f : Int) : Int := capT c - (if f = 0 then 256 else 1)
theorem mostV_eq {c f : Int} (h1 : 1 ≤ c) (h2 : c ≤ 4) : mostV c f / 256 = capT c / 256 - 1 := by
  have := capT_le h1 h2
  unfold mostV
  split <;> omega
set_option maxHeartbeats 1000000 in
theorem most_any (c f : Int) (w : World) (h : cvl c f = true) :
    Calls Try.prog 26 #[.agg #[.int .i64 c, .int .i64 f]] w fun e w' => e = .returned (.int .i64 (mostV c f)) ∧ Below w.heap.size w w' := by
  obtain ⟨C, F, rfl, rfl, hC1, hC4, hF3⟩ := cvl_nat h
  have hF0 := Fm_new w 24 (C : Int) (F : Int)
  obtain ⟨_, c0, c1⟩ := hF0
  have hm : mostV (C : Int) (F : Int) = ((256 ^ (C + 1) : Nat) : Int) - (if F = 0 then 256 else 1) := by
    unfold mostV capT
    rw [Int.toNat_natCast]
    by_cases hf : F = 0
    · subst hf; simp
    · rw [if_neg hf, if_neg (by omega)]
  rw [hm]
  clear hm h
  go_enter Try.func26, Try.ntmps26
  go_wp2
  go_loop [3, 4] (fun n i => ∃ j : Nat, j ≤ C ∧ i = .int .i64 j ∧ n = .int .i64 ((256 ^ (j + 1) : Nat) : Int)) (fun _ i => C - (intOf i).toNat)
  case atStart => exact ⟨0, Nat.zero_le _, rfl, rfl⟩
  case round =>
    obtain ⟨j, hj, rfl, rfl⟩ := hrel
    have hb : 256 ^ (j + 1) ≤ 256 ^ 5 := Nat.pow_le_pow_right (by decide) (by omega)
    by_cases hlt : j < C
    · have hb : 256 ^ (j + 1) ≤ 256 ^ 4 := Nat.pow_le_pow_right (by decide) (by omega)
      obtain ⟨P, hP⟩ : ∃ P, P = 256 ^ (j + 1) := ⟨_, rfl⟩
      have hP2 : Hid (256 ^ (j + 1 + 1) = P * 256) := Lib.hid (by rw [hP, Nat.pow_succ])
      rw [← hP] at hb
      simp only [← hP]
      clear hP
      go_wp2
      go_round
      case rel => exact ⟨j + 1, by omega, by go_num, val_int (by rw [hP2.out]; omega)⟩
      case measure => simp [intOf]; omega
    · have hjC : j = C := by omega
      subst hjC
      have hlo : 256 ≤ 256 ^ (j + 1) := Nat.le_self_pow (by omega) 256
      obtain ⟨P, hP⟩ : ∃ P, P = 256 ^ (j + 1) := ⟨_, rfl⟩
      have HP := Lib.hid hP
      rw [← hP] at hb hlo
      simp only [← hP]
      clear hP
      by_cases hf : F = 0
      · subst hf
        go_wp2
        go_ret
        exact ⟨ret_int (by rw [HP.out]; simp), bel_new _ _⟩
      · have hf2 : ((F : Int) == 0) = false := by rw [beq_eq_false_iff_ne]; omega
        have hf3 : (F == 0) = false := by rw [beq_eq_false_iff_ne]; exact hf
        go_wp2
        go_ret
        exact ⟨ret_int (by rw [HP.out]; simp), bel_new _ _⟩

set_option maxHeartbeats 1000000 in
theorem xround_any (t c f : Int) (w : World) (ht : -9223372036854775808 ≤ t ∧ t ≤ 9223372036854775807) :
    Calls Try.prog 11 #[.int .i64 t, .agg #[.int .i64 c, .int .i64 f]] w fun e w' => e = .returned (.tuple #[.int .i64 (rVal t c f), .int .i64 (rErr t c f)]) ∧ Below w.heap.size w w' := by
  have hv := fun W => xfvalid_any c f W
  have hF0 := Fm_new w 24 c f
  have hb0 := bel_new w (.cells #[.int .i64 c, .int .i64 f] 24)
  cases h : cvl c f with
  | false =>
    rw [rErr_bad h, rVal_bad (by rw [rErr_bad h]; decide)]
    simp only [h] at hv
    go_enter Try.func11, Try.ntmps11
    go_wp2_with fail
    refine (hv _).mono ?_
    rintro e w1 ⟨rfl, hb⟩
    have hb1 := hb0.trans (hb.mono hb0.size)
    go_wp2
    go_ret2
    exact ⟨rfl, hb1⟩
  | true =>
    simp only [h] at hv
    by_cases h0 : 0 ≤ t
    · by_cases h1 : t ≤ 1099511627776
      · have hl := fun W => most_any c f W h
        have hre := rErr_ok h ⟨h0, h1⟩
        obtain ⟨c1, c2, f1, f2⟩ := cvl_iff.1 h
        have hcap := capT_le c1 c2
        have hrv : rVal t c f = (if f = 0 then min (t - t % 256) (capT c - 256) else min t (capT c - 1)) := by
          unfold rVal
          rw [if_pos hre]
          split <;> omega
        rw [hre, hrv]
        by_cases hf : f = 0
        · subst hf
          rw [if_pos rfl]
          have hK : mostV c 0 = capT c - 256 := by unfold mostV; rw [if_pos rfl]
          rw [hK] at hl
          obtain ⟨K, hKK⟩ : ∃ K, K = capT c - 256 := ⟨_, rfl⟩
          rw [← hKK]
          simp only [← hKK] at hl
          have hn : ¬ (t < 0) := by omega
          have hg : ¬ (1099511627776 < t) := by omega
          clear hKK hK hrv hre h hcap
          go_enter Try.func11, Try.ntmps11
          go_wp2_with fail
          refine (hv _).mono ?_
          rintro e w1 ⟨rfl, hb⟩
          have hb1 := hb0.trans (hb.mono hb0.size)
          obtain ⟨_, x0, x1⟩ := hF0.keep hb
          clear hb
          go_wp2_with fail
          refine (hl _).mono ?_
          rintro e w2 ⟨rfl, hb⟩
          have hb2 := hb1.trans (hb.mono hb1.size)
          clear hb x0 x1
          go_wp2
          go_ret2
          exact ⟨rfl, hb2⟩
        · rw [if_neg hf]
          have hK : mostV c f = capT c - 1 := by unfold mostV; rw [if_neg hf]
          rw [hK] at hl
          obtain ⟨K, hKK⟩ : ∃ K, K = capT c - 1 := ⟨_, rfl⟩
          rw [← hKK]
          simp only [← hKK] at hl
          have hf2 : (f == 0) = false := by simpa using hf
          have hn : ¬ (t < 0) := by omega
          have hg : ¬ (1099511627776 < t) := by omega
          clear hKK hK hrv hre h hcap
          go_enter Try.func11, Try.ntmps11
          go_wp2_with fail
          refine (hv _).mono ?_
          rintro e w1 ⟨rfl, hb⟩
          have hb1 := hb0.trans (hb.mono hb0.size)
          obtain ⟨_, x0, x1⟩ := hF0.keep hb
          clear hb
          go_wp2_with fail
          refine (hl _).mono ?_
          rintro e w2 ⟨rfl, hb⟩
          have hb2 := hb1.trans (hb.mono hb1.size)
          clear hb x0 x1
          go_wp2
          go_ret2
          exact ⟨rfl, hb2⟩
      · have hr : ¬ (0 ≤ t ∧ t ≤ 1099511627776) := by omega
        rw [rErr_out h hr, rVal_bad (by rw [rErr_out h hr]; decide)]
        have hn : decide (t < 0) = false := by simp; omega
        have hg : (1099511627776 : Int) < t := by omega
        go_enter Try.func11, Try.ntmps11
        go_wp2_with fail
        refine (hv _).mono ?_
        rintro e w1 ⟨rfl, hb⟩
        have hb1 := hb0.trans (hb.mono hb0.size)
        go_wp2
        go_ret2
        exact ⟨rfl, hb1⟩
    · have hr : ¬ (0 ≤ t ∧ t ≤ 1099511627776) := by omega
      rw [rErr_out h hr, rVal_bad (by rw [rErr_out h hr]; decide)]
      have hn : t < 0 := by omega
      go_enter Try.func11, Try.ntmps11
      go_wp2_with fail
      refine (hv _).mono ?_
      rintro e w1 ⟨rfl, hb⟩
      have hb1 := hb0.trans (hb.mono hb0.size)
      go_wp2
      go_ret2
      exact ⟨rfl, hb1⟩
end Go.Proofs.Ytboapfkgkehfcaa
