/-
  The walks of package serial: low, Valid, Add, Distance, Before, Within.
-/
import Derived.Test.YtdjopkfibfgjeaaRows
import Derived.Test.YtdjopkfibfgjeaaSerMath
import Derived.WalkLawsBesides
import Derived.Lib.Hide
import Derived.Deep.QuietTactic
namespace Go.Proofs.Ytdjopkfibfgjeaa
open Go.RowKit

theorem shl_pw (b : Int) (h0 : 0 ≤ b) (h1 : b ≤ 32) : Op.shift .shl .i64 1 .i64 b = pure (.int .i64 (pw b)) := by
  have hle := pw_le h1
  have hp := pw_pos b
  rw [shift_shl_any _ _ _ _ h0, show min b.toNat IntKind.i64.bits = b.toNat from Nat.min_eq_left (by have : IntKind.i64.bits = 64 := rfl; omega)]
  have e : (1 : Int) * 2 ^ b.toNat = pw b := by unfold pw; rw [Int.one_mul, Int.natCast_pow]; rfl
  rw [e, IntKind.wrap_i64, show (pw b + 9223372036854775808) % 18446744073709551616 - 9223372036854775808 = pw b by omega]

theorem ret_of {k : IntKind} {a b : Int} (h : a = b) : Ending.returned (.int k a) = .returned (.int k b) := by rw [h]
theorem bool_of {a b : Bool} (h : a = b) : Ending.returned (.bool a) = .returned (.bool b) := by rw [h]
theorem w64_pw (b : Int) (h1 : 1 ≤ b) (h2 : b ≤ 32) : wrap64 (2 ^ (b.toNat - 1)) = pw (b - 1) := by
  have hle := pw_le (b := b - 1) (by omega)
  have hp := pw_pos (b - 1)
  have e : (2 : Int) ^ (b.toNat - 1) = pw (b - 1) := by unfold pw; rw [show (b - 1).toNat = b.toNat - 1 by omega, Int.natCast_pow]; rfl
  rw [e]
  unfold wrap64
  omega

set_option maxHeartbeats 400000 in
theorem low_any (n b : Int) (w : World) (h1 : 1 ≤ b) (h2 : b ≤ 32) :
    Calls Try.prog 39 #[.int .i64 n, .int .i64 b] w fun e w' => e = .returned (.int .i64 (n % pw b)) ∧ w = w' := by
  have hs := shl_pw b (by omega) h2
  have hm := and_pw n b h2
  obtain ⟨M, hM⟩ : ∃ M, M = pw b := ⟨_, rfl⟩
  have hl := pw_le h2
  have hp := pw_pos b
  rw [← hM] at hs hm hl hp ⊢
  have HM := Lib.hid hm
  clear hM hm h1 h2
  go_enter Try.func39, Try.ntmps39
  go_wp2
  go_ret
  exact ⟨ret_of HM.out, rfl⟩

set_option maxHeartbeats 400000 in
theorem valid_any (n b : Int) (w : World) :
    Calls Try.prog 38 #[.int .i64 n, .int .i64 b] w fun e w' => e = .returned (.bool (vl n b)) ∧ w = w' := by
  by_cases h1 : 1 ≤ b
  · by_cases h2 : b ≤ 32
    · have hlow := low_any n b w h1 h2
      have e : vl n b = (n == n % pw b) := by
        rw [Bool.eq_iff_iff, vl_iff, beq_iff_eq, md_iff]
        simp [h1, h2]
      rw [e]
      obtain ⟨d, hd⟩ : ∃ d, d = n % pw b := ⟨_, rfl⟩
      rw [← hd] at hlow ⊢
      clear hd e
      go_enter Try.func38, Try.ntmps38
      go_wp2_with (go_at_call 39; refine hlow.mono ?_; rintro e w' ⟨rfl, rfl⟩)
      go_ret
      exact ⟨rfl, rfl⟩
    · rw [vl_width (by omega)]
      have h3 : decide (b ≤ 32) = false := by simpa using h2
      go_enter Try.func38, Try.ntmps38
      go_wp2
      go_ret
      exact ⟨rfl, rfl⟩
  · rw [vl_width (by omega)]
    have h3 : decide (1 ≤ b) = false := by simpa using h1
    go_enter Try.func38, Try.ntmps38
    go_wp2
    go_ret
    exact ⟨rfl, rfl⟩

set_option maxHeartbeats 400000 in
theorem add_any (a n b : Int) (w : World) :
    Calls Try.prog 34 #[.int .i64 a, .int .i64 n, .int .i64 b] w fun e w' => e = .returned (.int .i64 (sadd a n b)) ∧ w = w' := by
  have hv := valid_any a b w
  cases h : vl a b with
  | true =>
    obtain ⟨h1, h2, _, _⟩ := vl_iff.1 h
    have hlow := low_any (wrap64 (a + n)) b w h1 h2
    rw [md_wrap64 _ _ (by omega), ← sadd_ok h] at hlow
    rw [h] at hv
    clear h h1 h2
    go_enter Try.func34, Try.ntmps34
    go_wp2_with (first
      | (go_at_call 38; refine hv.mono ?_; rintro e w' ⟨rfl, rfl⟩)
      | (go_at_call 39; refine hlow.mono ?_; rintro e w' ⟨rfl, rfl⟩))
    go_ret
    exact ⟨rfl, rfl⟩
  | false =>
    rw [sadd_bad h]
    rw [h] at hv
    clear h
    go_enter Try.func34, Try.ntmps34
    go_wp2_with (first
      | (go_at_call 38; refine hv.mono ?_; rintro e w' ⟨rfl, rfl⟩))
    go_ret
    exact ⟨rfl, rfl⟩

set_option maxHeartbeats 400000 in
theorem distance_any (x y b : Int) (w : World) :
    Calls Try.prog 40 #[.int .i64 x, .int .i64 y, .int .i64 b] w fun e w' => e = .returned (.int .i64 (sdist x y b)) ∧ w = w' := by
  have hv := valid_any x b w
  have hu := valid_any y b w
  cases h : vl x b with
  | false =>
    rw [sdist_bad (by rw [h]; rfl)]
    rw [h] at hv
    clear h hu
    go_enter Try.func40, Try.ntmps40
    go_wp2_with fail
    refine hv.mono ?_
    rintro e w' ⟨rfl, rfl⟩
    go_wp2
    go_ret
    exact ⟨rfl, rfl⟩
  | true =>
    cases h' : vl y b with
    | false =>
      rw [sdist_bad (by rw [h, h']; rfl)]
      rw [h] at hv
      rw [h'] at hu
      clear h h'
      go_enter Try.func40, Try.ntmps40
      go_wp2_with fail
      refine hv.mono ?_
      rintro e w' ⟨rfl, rfl⟩
      go_wp2_with fail
      refine hu.mono ?_
      rintro e w' ⟨rfl, rfl⟩
      go_wp2
      go_ret
      exact ⟨rfl, rfl⟩
    | true =>
      obtain ⟨h1, h2, h3, h4⟩ := vl_iff.1 h
      obtain ⟨_, _, h5, h6⟩ := vl_iff.1 h'
      have hle := pw_le h2
      have h7 : x < 4294967296 := by omega
      have h8 : y < 4294967296 := by omega
      have hlow := low_any (y - x) b w h1 h2
      rw [← sdist_ok h h'] at hlow
      rw [h] at hv
      rw [h'] at hu
      clear h h' h1 h2 h4 h6 hle
      go_enter Try.func40, Try.ntmps40
      go_wp2_with fail
      refine hv.mono ?_
      rintro e w' ⟨rfl, rfl⟩
      go_wp2_with fail
      refine hu.mono ?_
      rintro e w' ⟨rfl, rfl⟩
      go_wp2_with fail
      refine hlow.mono ?_
      rintro e w' ⟨rfl, rfl⟩
      go_wp2
      go_ret
      exact ⟨rfl, rfl⟩

theorem sbef_low {x y b : Int} (h : sdist x y b < 1) : sbef x y b = false := by unfold sbef; simp; omega
theorem sdist_valid {x y b : Int} (h : 1 ≤ sdist x y b) : vl x b = true ∧ vl y b = true := by
  unfold sdist at h
  split at h
  · rename_i e; simpa using e
  · omega

theorem swin_bad1 {n f s b : Int} (h : vl n b = false) : swin n f s b = false := by unfold swin; rw [h]; rfl
theorem swin_bad2 {n f s b : Int} (h : vl f b = false) : swin n f s b = false := by unfold swin; rw [h]; simp
theorem swin_bad3 {n f s b : Int} (h : ¬ s ≤ pw b) : swin n f s b = false := by unfold swin; simp [h]
theorem swin_ok {n f s b : Int} (h : vl n b = true) (h' : vl f b = true) (hs : s ≤ pw b) : swin n f s b = decide (sdist f n b < s) := by unfold swin; rw [h, h']; simp [hs]

set_option maxHeartbeats 400000 in
theorem within_any (n f s b : Int) (w : World) :
    Calls Try.prog 35 #[.int .i64 n, .int .i64 f, .int .i64 s, .int .i64 b] w fun e w' => e = .returned (.bool (swin n f s b)) ∧ w = w' := by
  have hv := valid_any n b w
  have hu := valid_any f b w
  have hd := distance_any f n b w
  cases h : vl n b with
  | false =>
    rw [swin_bad1 h]
    rw [h] at hv
    clear h hu hd
    go_enter Try.func35, Try.ntmps35
    go_wp2_with fail
    refine hv.mono ?_
    rintro e w' ⟨rfl, rfl⟩
    go_wp2
    go_ret
    exact ⟨rfl, rfl⟩
  | true =>
    cases h' : vl f b with
    | false =>
      rw [swin_bad2 h']
      rw [h] at hv
      rw [h'] at hu
      clear h h' hd
      go_enter Try.func35, Try.ntmps35
      go_wp2_with fail
      refine hv.mono ?_
      rintro e w' ⟨rfl, rfl⟩
      go_wp2_with fail
      refine hu.mono ?_
      rintro e w' ⟨rfl, rfl⟩
      go_wp2
      go_ret
      exact ⟨rfl, rfl⟩
    | true =>
      obtain ⟨h1, h2, _, _⟩ := vl_iff.1 h
      have hs := shl_pw b (by omega) h2
      by_cases hl : s ≤ pw b
      · rw [swin_ok h h' hl]
        have hl2 : decide (pw b < s) = false := by simpa using hl
        rw [h] at hv
        rw [h'] at hu
        obtain ⟨d, hd'⟩ : ∃ d, d = sdist f n b := ⟨_, rfl⟩
        obtain ⟨M, hM⟩ : ∃ M, M = pw b := ⟨_, rfl⟩
        rw [← hd'] at hd ⊢
        rw [← hM] at hs hl2
        clear h h' hl hd' hM h1 h2
        go_enter Try.func35, Try.ntmps35
        go_wp2_with fail
        refine hv.mono ?_
        rintro e w' ⟨rfl, rfl⟩
        go_wp2_with fail
        refine hu.mono ?_
        rintro e w' ⟨rfl, rfl⟩
        go_wp2_with fail
        refine hd.mono ?_
        rintro e w' ⟨rfl, rfl⟩
        go_wp2
        go_ret
        exact ⟨rfl, rfl⟩
      · rw [swin_bad3 hl]
        have hl2 : decide (pw b < s) = true := by simpa using hl
        rw [h] at hv
        rw [h'] at hu
        obtain ⟨M, hM⟩ : ∃ M, M = pw b := ⟨_, rfl⟩
        rw [← hM] at hs hl2
        clear h h' hl hd hM h1 h2
        go_enter Try.func35, Try.ntmps35
        go_wp2_with fail
        refine hv.mono ?_
        rintro e w' ⟨rfl, rfl⟩
        go_wp2_with fail
        refine hu.mono ?_
        rintro e w' ⟨rfl, rfl⟩
        go_wp2
        go_ret
        exact ⟨rfl, rfl⟩
end Go.Proofs.Ytdjopkfibfgjeaa
