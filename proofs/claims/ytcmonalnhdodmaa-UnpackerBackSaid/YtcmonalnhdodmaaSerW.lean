/-
  The walks of package serial: low, Valid, Add, Distance, Before, Within.
-/
import Derived.Test.YtcmonalnhdodmaaRows
import Derived.Test.YtcmonalnhdodmaaSerMath
import Derived.WalkLawsBesides
import Derived.Lib.Hide
import Derived.Deep.QuietTactic
namespace Go.Proofs.Ytcmonalnhdodmaa
open Go.RowKit

theorem shl_pw (b : Int) (h0 : 0 ≤ b) (h1 : b ≤ 32) : Op.shift .shl .i64 1 .i64 b = pure (.int .i64 (pw b)) := by
  have hle := pw_le h1
  have hp := pw_pos b
  rw [shift_shl_any _ _ _ _ h0, show min b.toNat IntKind.i64.bits = b.toNat from Nat.min_eq_left (by have : IntKind.i64.bits = 64 := rfl; omega)]
  have e : (1 : Int) * 2 ^ b.toNat = pw b := by unfold pw; rw [Int.one_mul, Int.natCast_pow]; rfl
  rw [e, IntKind.wrap_i64, show (pw b + 9223372036854775808) % 18446744073709551616 - 9223372036854775808 = pw b by omega]

theorem ret_of {k : IntKind} {a b : Int} (h : a = b) : Ending.returned (.int k a) = .returned (.int k b) := by rw [h]
theorem bool_of {a b : Bool} (h : a = b) : Ending.returned (.bool a) = .returned (.bool b) := by rw [h]
theorem w64_pw (b : Int) (h1 : 1 ≤ b) (h2 : b ≤ 32) : wrap64 (2 ^ (b.toNat - 1)) = pw (b - 1) := by
  have hle := pw_le (b := b - 1) (by omega)
  have hp := pw_pos (b - 1)
  have e : (2 : Int) ^ (b.toNat - 1) = pw (b - 1) := by unfold pw; rw [show (b - 1).toNat = b.toNat - 1 by omega, Int.natCast_pow]; rfl
  rw [e]
  unfold wrap64
  omega

set_option maxHeartbeats 400000 in
theorem low_any (n b : Int) (w : World) (h1 : 1 ≤ b) (h2 : b ≤ 32) :
    Calls Try.prog 44 #[.int .i64 n, .int .i64 b] w fun e w' => e = .returned (.int .i64 (n % pw b)) ∧ w = w' := by
  have hs := shl_pw b (by omega) h2
  have hm := and_pw n b h2
  obtain ⟨M, hM⟩ : ∃ M, M = pw b := ⟨_, rfl⟩
  have hl := pw_le h2
  have hp := pw_pos b
  rw [← hM] at hs hm hl hp ⊢
  have HM := Lib.hid hm
  clear hM hm h1 h2
  go_enter Try.func44, Try.ntmps44
  go_wp2
  go_ret
  exact ⟨ret_of HM.out, rfl⟩

set_option maxHeartbeats 400000 in
theorem valid_any (n b : Int) (w : World) :
    Calls Try.prog 26 #[.int .i64 n, .int .i64 b] w fun e w' => e = .returned (.bool (vl n b)) ∧ w = w' := by
  by_cases h1 : 1 ≤ b
  · by_cases h2 : b ≤ 32
    · have hlow := low_any n b w h1 h2
      have e : vl n b = (n == n % pw b) := by
        rw [Bool.eq_iff_iff, vl_iff, beq_iff_eq, md_iff]
        simp [h1, h2]
      rw [e]
      obtain ⟨d, hd⟩ : ∃ d, d = n % pw b := ⟨_, rfl⟩
      rw [← hd] at hlow ⊢
      clear hd e
      go_enter Try.func26, Try.ntmps26
      go_wp2_with (go_at_call 44; refine hlow.mono ?_; rintro e w' ⟨rfl, rfl⟩)
      go_ret
      exact ⟨rfl, rfl⟩
    · rw [vl_width (by omega)]
      have h3 : decide (b ≤ 32) = false := by simpa using h2
      go_enter Try.func26, Try.ntmps26
      go_wp2
      go_ret
      exact ⟨rfl, rfl⟩
  · rw [vl_width (by omega)]
    have h3 : decide (1 ≤ b) = false := by simpa using h1
    go_enter Try.func26, Try.ntmps26
    go_wp2
    go_ret
    exact ⟨rfl, rfl⟩

set_option maxHeartbeats 400000 in
theorem add_any (a n b : Int) (w : World) :
    Calls Try.prog 46 #[.int .i64 a, .int .i64 n, .int .i64 b] w fun e w' => e = .returned (.int .i64 (sadd a n b)) ∧ w = w' := by
  have hv := valid_any a b w
  cases h : vl a b with
  | true =>
    obtain ⟨h1, h2, _, _⟩ := vl_iff.1 h
    have hlow := low_any (wrap64 (a + n)) b w h1 h2
    rw [md_wrap64 _ _ (by omega), ← sadd_ok h] at hlow
    rw [h] at hv
    clear h h1 h2
    go_enter Try.func46, Try.ntmps46
    go_wp2_with (first
      | (go_at_call 26; refine hv.mono ?_; rintro e w' ⟨rfl, rfl⟩)
      | (go_at_call 44; refine hlow.mono ?_; rintro e w' ⟨rfl, rfl⟩))
    go_ret
    exact ⟨rfl, rfl⟩
  | false =>
    rw [sadd_bad h]
    rw [h] at hv
    clear h
    go_enter Try.func46, Try.ntmps46
    go_wp2_with (first
      | (go_at_call 26; refine hv.mono ?_; rintro e w' ⟨rfl, rfl⟩))
    go_ret
    exact ⟨rfl, rfl⟩

set_option maxHeartbeats 400000 in
theorem distance_any (x y b : Int) (w : World) :
    Calls Try.prog 45 #[.int .i64 x, .int .i64 y, .int .i64 b] w fun e w' => e = .returned (.int .i64 (sdist x y b)) ∧ w = w' := by
  have hv := valid_any x b w
  have hu := valid_any y b w
  cases h : vl x b with
  | false =>
    rw [sdist_bad (by rw [h]; rfl)]
    rw [h] at hv
    clear h hu
    go_enter Try.func45, Try.ntmps45
    go_wp2_with fail
    refine hv.mono ?_
    rintro e w' ⟨rfl, rfl⟩
    go_wp2
    go_ret
    exact ⟨rfl, rfl⟩
  | true =>
    cases h' : vl y b with
    | false =>
      rw [sdist_bad (by rw [h, h']; rfl)]
      rw [h] at hv
      rw [h'] at hu
      clear h h'
      go_enter Try.func45, Try.ntmps45
      go_wp2_with fail
      refine hv.mono ?_
      rintro e w' ⟨rfl, rfl⟩
      go_wp2_with fail
      refine hu.mono ?_
      rintro e w' ⟨rfl, rfl⟩
      go_wp2
      go_ret
      exact ⟨rfl, rfl⟩
    | true =>
      obtain ⟨h1, h2, h3, h4⟩ := vl_iff.1 h
      obtain ⟨_, _, h5, h6⟩ := vl_iff.1 h'
      have hle := pw_le h2
      have h7 : x < 4294967296 := by omega
      have h8 : y < 4294967296 := by omega
      have hlow := low_any (y - x) b w h1 h2
      rw [← sdist_ok h h'] at hlow
      rw [h] at hv
      rw [h'] at hu
      clear h h' h1 h2 h4 h6 hle
      go_enter Try.func45, Try.ntmps45
      go_wp2_with fail
      refine hv.mono ?_
      rintro e w' ⟨rfl, rfl⟩
      go_wp2_with fail
      refine hu.mono ?_
      rintro e w' ⟨rfl, rfl⟩
      go_wp2_with fail
      refine hlow.mono ?_
      rintro e w' ⟨rfl, rfl⟩
      go_wp2
      go_ret
      exact ⟨rfl, rfl⟩

theorem sbef_low {x y b : Int} (h : sdist x y b < 1) : sbef x y b = false := by unfold sbef; simp; omega
theorem sdist_valid {x y b : Int} (h : 1 ≤ sdist x y b) : vl x b = true ∧ vl y b = true := by
  unfold sdist at h
  split at h
  · rename_i e; simpa using e
  · omega

theorem swin_bad1 {n f s b : Int} (h : vl n b = false) : swin n f s b = false := by unfold swin; rw [h]; rfl
theorem swin_bad2 {n f s b : Int} (h : vl f b = false) : swin n f s b = false := by unfold swin; rw [h]; simp
theorem swin_bad3 {n f s b : Int} (h : ¬ s ≤ pw b) : swin n f s b = false := by unfold swin; simp [h]
theorem swin_ok {n f s b : Int} (h : vl n b = true) (h' : vl f b = true) (hs : s ≤ pw b) : swin n f s b = decide (sdist f n b < s) := by unfold swin; rw [h, h']; simp [hs]

end Go.Proofs.Ytcmonalnhdodmaa
