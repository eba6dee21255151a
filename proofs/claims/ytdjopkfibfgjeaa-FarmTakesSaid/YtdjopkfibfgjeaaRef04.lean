/-
  The walks of the reference of layer 4: power, Valid, mod, Add, Distance, Before, Within.
-/
import Derived.Test.YtdjopkfibfgjeaaSerW
namespace Go.Proofs.Ytdjopkfibfgjeaa
open Go.RowKit

theorem shl_pw_u (b : Int) (h0 : 0 ≤ b) (h1 : b ≤ 32) : Op.shift .shl .i64 1 .u64 b = pure (.int .i64 (pw b)) := by
  have hle := pw_le h1
  have hp := pw_pos b
  rw [shift_shl_any _ _ _ _ h0, show min b.toNat IntKind.i64.bits = b.toNat from Nat.min_eq_left (by have : IntKind.i64.bits = 64 := rfl; omega)]
  have e : (1 : Int) * 2 ^ b.toNat = pw b := by unfold pw; rw [Int.one_mul, Int.natCast_pow]; rfl
  rw [e, IntKind.wrap_i64, show (pw b + 9223372036854775808) % 18446744073709551616 - 9223372036854775808 = pw b by omega]
theorem w64_pw0 (b : Int) (h2 : b ≤ 32) : wrap64 (2 ^ b.toNat) = pw b := by
  have hle := pw_le h2
  have hp := pw_pos b
  have e : (2 : Int) ^ b.toNat = pw b := by unfold pw; rw [Int.natCast_pow]; rfl
  rw [e]
  unfold wrap64
  omega

set_option maxHeartbeats 400000 in
theorem xpower_any (b : Int) (w : World) (h1 : 1 ≤ b) (h2 : b ≤ 32) :
    Calls Try.prog 30 #[.int .i64 b] w fun e w' => e = .returned (.int .i64 (pw b)) ∧ w = w' := by
  have HM := Lib.hid (w64_pw0 b h2)
  obtain ⟨M, hM⟩ : ∃ M, M = pw b := ⟨_, rfl⟩
  rw [← hM] at HM ⊢
  clear hM
  go_enter Try.func30, Try.ntmps30
  go_wp2
  go_ret
  exact ⟨ret_of HM.out, rfl⟩

theorem pw_in {n b : Int} : vl n b = true ↔ 1 ≤ b ∧ b ≤ 32 ∧ 0 ≤ n ∧ n < pw b := vl_iff

set_option maxHeartbeats 400000 in
theorem xvalid_any (n b : Int) (w : World) :
    Calls Try.prog 29 #[.int .i64 n, .int .i64 b] w fun e w' => e = .returned (.bool (vl n b)) ∧ w = w' := by
  by_cases h1 : 1 ≤ b
  · by_cases h2 : b ≤ 32
    · have hpw := xpower_any b w h1 h2
      by_cases h0 : 0 ≤ n
      · have e : vl n b = decide (n < pw b) := by
          rw [Bool.eq_iff_iff, vl_iff]
          simp [h1, h2, h0]
        rw [e]
        obtain ⟨M, hM⟩ : ∃ M, M = pw b := ⟨_, rfl⟩
        rw [← hM] at hpw ⊢
        clear hM e
        go_enter Try.func29, Try.ntmps29
        go_wp2_with (go_at_call 30; refine hpw.mono ?_; rintro e w' ⟨rfl, rfl⟩)
        go_ret
        exact ⟨rfl, rfl⟩
      · have e : vl n b = false := by unfold vl; simp; omega
        rw [e]
        have h3 : decide (0 ≤ n) = false := by simpa using h0
        clear e hpw h0
        go_enter Try.func29, Try.ntmps29
        go_wp2
        go_ret
        exact ⟨rfl, rfl⟩
    · rw [vl_width (by omega)]
      have h3 : decide (b ≤ 32) = false := by simpa using h2
      go_enter Try.func29, Try.ntmps29
      go_wp2
      go_ret
      exact ⟨rfl, rfl⟩
  · rw [vl_width (by omega)]
    have h3 : decide (1 ≤ b) = false := by simpa using h1
    go_enter Try.func29, Try.ntmps29
    go_wp2
    go_ret
    exact ⟨rfl, rfl⟩

set_option maxHeartbeats 400000 in
theorem xmod_any (n b : Int) (w : World) (h2 : b ≤ 32) :
    Calls Try.prog 36 #[.int .i64 n, .int .i64 (pw b)] w fun e w' => e = .returned (.int .i64 (n % pw b)) ∧ w = w' := by
  have hin := tmod_in n b
  have ht := tmod_pw n b
  have hle := pw_le h2
  have hp := pw_pos b
  have hin2 := tmod_in (n.tmod (pw b) + pw b) b
  obtain ⟨M, hM⟩ : ∃ M, M = pw b := ⟨_, rfl⟩
  rw [← hM] at hin ht hle hp hin2 ⊢
  obtain ⟨r, hr⟩ : ∃ r, r = n.tmod M := ⟨_, rfl⟩
  have hr' := hr.symm
  rw [hr'] at hin ht hin2
  obtain ⟨h3, h4⟩ := hin
  obtain ⟨h5, h6⟩ := hin2
  clear hM hr
  go_enter Try.func36, Try.ntmps36
  go_wp2
  go_ret
  exact ⟨rfl, rfl⟩

set_option maxHeartbeats 400000 in
theorem xdistance_any (x y b : Int) (w : World) :
    Calls Try.prog 31 #[.int .i64 x, .int .i64 y, .int .i64 b] w fun e w' => e = .returned (.int .i64 (sdist x y b)) ∧ w = w' := by
  have hv := xvalid_any x b w
  have hu := xvalid_any y b w
  cases h : vl x b with
  | false =>
    rw [sdist_bad (by rw [h]; rfl)]
    rw [h] at hv
    clear h hu
    go_enter Try.func31, Try.ntmps31
    go_wp2_with fail
    refine hv.mono ?_
    rintro e w' ⟨rfl, rfl⟩
    go_wp2
    go_ret
    exact ⟨rfl, rfl⟩
  | true =>
    cases h' : vl y b with
    | false =>
      rw [sdist_bad (by rw [h, h']; rfl)]
      rw [h] at hv
      rw [h'] at hu
      clear h h'
      go_enter Try.func31, Try.ntmps31
      go_wp2_with fail
      refine hv.mono ?_
      rintro e w' ⟨rfl, rfl⟩
      go_wp2_with fail
      refine hu.mono ?_
      rintro e w' ⟨rfl, rfl⟩
      go_wp2
      go_ret
      exact ⟨rfl, rfl⟩
    | true =>
      obtain ⟨h1, h2, h3, h4⟩ := vl_iff.1 h
      obtain ⟨_, _, h5, h6⟩ := vl_iff.1 h'
      have hle := pw_le h2
      have h7 : x < 4294967296 := by omega
      have h8 : y < 4294967296 := by omega
      have hpw := fun w => xpower_any b w h1 h2
      have hm := xmod_any (y - x) b w h2
      rw [← sdist_ok h h'] at hm
      rw [h] at hv
      rw [h'] at hu
      obtain ⟨s, hs⟩ : ∃ s, s = sdist x y b := ⟨_, rfl⟩
      rw [← hs] at hm ⊢
      obtain ⟨M, hM⟩ : ∃ M, M = pw b := ⟨_, rfl⟩
      rw [← hM] at hpw hm
      clear h h' h1 h2 h4 h6 hle hs hM
      go_enter Try.func31, Try.ntmps31
      go_wp2_with fail
      refine hv.mono ?_
      rintro e w' ⟨rfl, rfl⟩
      go_wp2_with fail
      refine hu.mono ?_
      rintro e w' ⟨rfl, rfl⟩
      go_wp2_with fail
      refine (hpw _).mono ?_
      rintro e w' ⟨rfl, rfl⟩
      go_wp2_with fail
      refine hm.mono ?_
      rintro e w' ⟨rfl, rfl⟩
      go_wp2
      go_ret
      exact ⟨rfl, rfl⟩

theorem sbef_bad1 {x y b : Int} (h : vl x b = false) : sbef x y b = false := sbef_low (by rw [sdist_bad (by rw [h]; rfl)]; decide)
theorem sbef_bad2 {x y b : Int} (h : vl y b = false) : sbef x y b = false := sbef_low (by rw [sdist_bad (by rw [h]; simp)]; decide)

theorem swin_neg {n f s b : Int} (h : s < 0) : swin n f s b = false := by
  have := sdist_nonneg f n b
  unfold swin
  simp
  omega

set_option maxHeartbeats 400000 in
theorem xwithin_any (n f s b : Int) (w : World) :
    Calls Try.prog 23 #[.int .i64 n, .int .i64 f, .int .i64 s, .int .i64 b] w fun e w' => e = .returned (.bool (swin n f s b)) ∧ w = w' := by
  have hv := xvalid_any n b w
  have hu := xvalid_any f b w
  have hd := xdistance_any f n b w
  cases h : vl n b with
  | false =>
    rw [swin_bad1 h]
    rw [h] at hv
    clear h hu hd
    go_enter Try.func23, Try.ntmps23
    go_wp2_with fail
    refine hv.mono ?_
    rintro e w' ⟨rfl, rfl⟩
    go_wp2
    go_ret
    exact ⟨rfl, rfl⟩
  | true =>
    cases h' : vl f b with
    | false =>
      rw [swin_bad2 h']
      rw [h] at hv
      rw [h'] at hu
      clear h h' hd
      go_enter Try.func23, Try.ntmps23
      go_wp2_with fail
      refine hv.mono ?_
      rintro e w' ⟨rfl, rfl⟩
      go_wp2_with fail
      refine hu.mono ?_
      rintro e w' ⟨rfl, rfl⟩
      go_wp2
      go_ret
      exact ⟨rfl, rfl⟩
    | true =>
      obtain ⟨h1, h2, _, _⟩ := vl_iff.1 h
      have hpw := xpower_any b w h1 h2
      by_cases h0 : 0 ≤ s
      · by_cases hl : s ≤ pw b
        · rw [swin_ok h h' hl]
          rw [h] at hv
          rw [h'] at hu
          obtain ⟨d, hd'⟩ : ∃ d, d = sdist f n b := ⟨_, rfl⟩
          obtain ⟨M, hM⟩ : ∃ M, M = pw b := ⟨_, rfl⟩
          rw [← hd'] at hd ⊢
          rw [← hM] at hpw hl
          clear h h' hd' hM h1 h2
          go_enter Try.func23, Try.ntmps23
          go_wp2_with fail
          refine hv.mono ?_
          rintro e w' ⟨rfl, rfl⟩
          go_wp2_with fail
          refine hu.mono ?_
          rintro e w' ⟨rfl, rfl⟩
          go_wp2_with fail
          refine hpw.mono ?_
          rintro e w' ⟨rfl, rfl⟩
          go_wp2_with fail
          refine hd.mono ?_
          rintro e w' ⟨rfl, rfl⟩
          go_wp2
          go_ret
          exact ⟨rfl, rfl⟩
        · rw [swin_bad3 hl]
          rw [h] at hv
          rw [h'] at hu
          obtain ⟨M, hM⟩ : ∃ M, M = pw b := ⟨_, rfl⟩
          rw [← hM] at hpw hl
          have hl2 : decide (s ≤ M) = false := by simpa using hl
          clear h h' hl hd hM h1 h2
          go_enter Try.func23, Try.ntmps23
          go_wp2_with fail
          refine hv.mono ?_
          rintro e w' ⟨rfl, rfl⟩
          go_wp2_with fail
          refine hu.mono ?_
          rintro e w' ⟨rfl, rfl⟩
          go_wp2_with fail
          refine hpw.mono ?_
          rintro e w' ⟨rfl, rfl⟩
          go_wp2
          go_ret
          exact ⟨rfl, rfl⟩
      · rw [swin_neg (by omega)]
        rw [h] at hv
        rw [h'] at hu
        have h3 : decide (0 ≤ s) = false := by simpa using h0
        clear h h' hd hpw h1 h2 h0
        go_enter Try.func23, Try.ntmps23
        go_wp2_with fail
        refine hv.mono ?_
        rintro e w' ⟨rfl, rfl⟩
        go_wp2_with fail
        refine hu.mono ?_
        rintro e w' ⟨rfl, rfl⟩
        go_wp2
        go_ret
        exact ⟨rfl, rfl⟩
end Go.Proofs.Ytdjopkfibfgjeaa
