/-
  The walks of package ecc's Repair and Decode.
-/
import Derived.Test.YtbadglgekialdaaDoorEccW3
namespace Go.Proofs.YtbadglgekialdaaDoor.Ecc
open Go.RowKit

theorem kind_far {n : Nat} (h : ¬ n < 549755813888) : kind n = 2 := by unfold kind; rw [if_neg h]
theorem kind_00 {n : Nat} (h : n < 549755813888) (hp : par n = 0) (hs : syn n = 0) : kind n = 0 := by unfold kind; rw [if_pos h, if_pos hp, if_pos hs]
theorem kind_0s {n : Nat} (h : n < 549755813888) (hp : par n = 0) (hs : ¬ syn n = 0) : kind n = 2 := by unfold kind; rw [if_pos h, if_pos hp, if_neg hs]
theorem kind_1s {n : Nat} (h : n < 549755813888) (hp : ¬ par n = 0) (hs : syn n < 39) : kind n = 1 := by unfold kind; rw [if_pos h, if_neg hp, if_pos hs]
theorem kind_1b {n : Nat} (h : n < 549755813888) (hp : ¬ par n = 0) (hs : ¬ syn n < 39) : kind n = 2 := by unfold kind; rw [if_pos h, if_neg hp, if_neg hs]
theorem rep_not {n : Nat} (h : kind n ≠ 1) : rep n = n := by unfold rep; rw [if_neg h]
theorem rep_one' {n : Nat} (h : kind n = 1) (hs : syn n < 39) : rep n = flp n (syn n) := by unfold rep; rw [if_pos h, flp_in n _ hs]
theorem rep_lt {n : Nat} (h : n < 18446744073709551616) : rep n < 18446744073709551616 := by
  unfold rep
  split
  · rename_i e
    have hs : syn n < 64 := syn_lt n
    exact Nat.xor_lt_two_pow (n := 64) h (Nat.pow_lt_pow_right (by decide) hs)
  · exact h

set_option maxHeartbeats 800000 in
theorem repair_any (n : Nat) (h : n < 18446744073709551616) (w : World) (hT : Tabs w) :
    Calls Tryd.prog 11 #[.int .u64 (n : Int)] w fun e w' => e = .returned (.tuple #[.int .u64 ((rep n : Nat) : Int), .int .i64 ((kind n : Nat) : Int)]) ∧ w = w' := by
  have h1 := fun w hT => syndrome_any n h w hT
  have h2 := fun w => parity_any n h w
  have h3 := fun w => codeBits_any n h w
  have hs64 := syn_lt n
  have hp2 := par_lt n
  by_cases hn : n < 549755813888
  · rw [Nat.mod_eq_of_lt hn] at h3
    have tn : ((n : Int) != (n : Int)) = false := by simp
    by_cases hp : par n = 0
    · rw [hp] at h2
      by_cases hs : syn n = 0
      · rw [kind_00 hn hp hs, rep_not (by rw [kind_00 hn hp hs]; decide)]
        rw [hs] at h1
        have H1 := Lib.hid h1
        have HT := Lib.hid hT
        clear hs64 hp2 hp hs h1 hT
        go_enter Tryd.func11, Tryd.ntmps11
        go_wp2_with fail
        refine (H1.out _ HT.out).mono ?_
        rintro e w' ⟨rfl, rfl⟩
        go_wp2_with fail
        refine (h2 _).mono ?_
        rintro e w' ⟨rfl, rfl⟩
        go_wp2_with fail
        refine (h3 _).mono ?_
        rintro e w' ⟨rfl, rfl⟩
        go_wp2
        go_ret2
        exact ⟨rfl, rfl⟩
      · rw [kind_0s hn hp hs, rep_not (by rw [kind_0s hn hp hs]; decide)]
        obtain ⟨s, hss⟩ : ∃ s, s = syn n := ⟨_, rfl⟩
        rw [← hss] at h1 hs hs64
        have t0 : ((s : Int) == 0) = false := by simp; omega
        have H1 := Lib.hid h1
        have HT := Lib.hid hT
        clear hp2 hp hs h1 hT hss
        go_enter Tryd.func11, Tryd.ntmps11
        go_wp2_with fail
        refine (H1.out _ HT.out).mono ?_
        rintro e w' ⟨rfl, rfl⟩
        go_wp2_with fail
        refine (h2 _).mono ?_
        rintro e w' ⟨rfl, rfl⟩
        go_wp2_with fail
        refine (h3 _).mono ?_
        rintro e w' ⟨rfl, rfl⟩
        go_wp2
        go_ret2
        exact ⟨rfl, rfl⟩
    · rw [show par n = 1 by omega] at h2
      by_cases hs : syn n < 39
      · have hf := fun w => flip_any n (syn n) h w
        rw [kind_1s hn hp hs, rep_one' (kind_1s hn hp hs) hs]
        obtain ⟨s, hss⟩ : ∃ s, s = syn n := ⟨_, rfl⟩
        rw [← hss] at h1 hs hs64 hf ⊢
        obtain ⟨f, hff⟩ : ∃ f, f = flp n (s : Int) := ⟨_, rfl⟩
        rw [← hff] at hf ⊢
        have t0 : decide ((s : Int) < 39) = true := by simp; omega
        have t1 : decide (s < 39) = true := by simp; omega
        have H1 := Lib.hid h1
        have HT := Lib.hid hT
        clear hp2 hp hs h1 hT hss hff hs64
        go_enter Tryd.func11, Tryd.ntmps11
        go_wp2_with fail
        refine (H1.out _ HT.out).mono ?_
        rintro e w' ⟨rfl, rfl⟩
        go_wp2_with fail
        refine (h2 _).mono ?_
        rintro e w' ⟨rfl, rfl⟩
        go_wp2_with fail
        refine (h3 _).mono ?_
        rintro e w' ⟨rfl, rfl⟩
        go_wp2_with fail
        refine (hf _).mono ?_
        rintro e w' ⟨rfl, rfl⟩
        go_wp2
        go_ret2
        exact ⟨rfl, rfl⟩
      · rw [kind_1b hn hp hs, rep_not (by rw [kind_1b hn hp hs]; decide)]
        obtain ⟨s, hss⟩ : ∃ s, s = syn n := ⟨_, rfl⟩
        rw [← hss] at h1 hs hs64
        have t0 : decide ((s : Int) < 39) = false := by simp; omega
        have t1 : decide (s < 39) = false := by simp; omega
        have H1 := Lib.hid h1
        have HT := Lib.hid hT
        clear hp2 hp hs h1 hT hss hs64
        go_enter Tryd.func11, Tryd.ntmps11
        go_wp2_with fail
        refine (H1.out _ HT.out).mono ?_
        rintro e w' ⟨rfl, rfl⟩
        go_wp2_with fail
        refine (h2 _).mono ?_
        rintro e w' ⟨rfl, rfl⟩
        go_wp2_with fail
        refine (h3 _).mono ?_
        rintro e w' ⟨rfl, rfl⟩
        go_wp2
        go_ret2
        exact ⟨rfl, rfl⟩
  · rw [kind_far hn, rep_not (by rw [kind_far hn]; decide)]
    have hm : n % 549755813888 < 549755813888 := Nat.mod_lt _ (by decide)
    obtain ⟨s, hss⟩ : ∃ s, s = syn n := ⟨_, rfl⟩
    rw [← hss] at h1
    obtain ⟨p, hpp⟩ : ∃ p, p = par n := ⟨_, rfl⟩
    rw [← hpp] at h2
    obtain ⟨c, hc⟩ : ∃ c, c = n % 549755813888 := ⟨_, rfl⟩
    rw [← hc] at h3 hm
    have tn : ((n : Int) != (c : Int)) = true := by simp; omega
    have H1 := Lib.hid h1
    have HT := Lib.hid hT
    clear hs64 hp2 h1 hT hss hpp hc hm hn
    go_enter Tryd.func11, Tryd.ntmps11
    go_wp2_with fail
    refine (H1.out _ HT.out).mono ?_
    rintro e w' ⟨rfl, rfl⟩
    go_wp2_with fail
    refine (h2 _).mono ?_
    rintro e w' ⟨rfl, rfl⟩
    go_wp2_with fail
    refine (h3 _).mono ?_
    rintro e w' ⟨rfl, rfl⟩
    go_wp2
    go_ret2
    exact ⟨rfl, rfl⟩

theorem dcd_bad {n : Nat} (h : kind n = 2) : dcd n = 0 := by unfold dcd; rw [if_pos h]
theorem dcd_ok {n : Nat} (h : kind n ≠ 2) : dcd n = gatL (rep n) := by unfold dcd; rw [if_neg h]

set_option maxHeartbeats 800000 in
theorem decode_any (n : Nat) (h : n < 18446744073709551616) (w : World) (hT : Tabs w) :
    Calls Tryd.prog 10 #[.int .u64 (n : Int)] w fun e w' => e = .returned (.tuple #[.int .u32 ((dcd n : Nat) : Int), .int .i64 ((kind n : Nat) : Int)]) ∧ w = w' := by
  have h1 := fun w hT => repair_any n h w hT
  have h2 := fun w hT => gather_any (rep n) (rep_lt h) w hT
  have hk := kind_le n
  by_cases hb : kind n = 2
  · rw [dcd_bad hb, hb]
    rw [hb] at h1
    obtain ⟨r, hr⟩ : ∃ r, r = rep n := ⟨_, rfl⟩
    rw [← hr] at h1
    have H1 := Lib.hid h1
    have HT := Lib.hid hT
    clear h1 h2 hT hr hb hk
    go_enter Tryd.func10, Tryd.ntmps10
    go_wp2_with fail
    refine (H1.out _ HT.out).mono ?_
    rintro e w' ⟨rfl, rfl⟩
    go_wp2
    go_ret2
    exact ⟨rfl, rfl⟩
  · rw [dcd_ok hb]
    obtain ⟨r, hr⟩ : ∃ r, r = rep n := ⟨_, rfl⟩
    rw [← hr] at h1 h2 ⊢
    obtain ⟨g, hg⟩ : ∃ g, g = gatL r := ⟨_, rfl⟩
    rw [← hg] at h2 ⊢
    obtain ⟨k, hkk⟩ : ∃ k, k = kind n := ⟨_, rfl⟩
    rw [← hkk] at h1 hb hk ⊢
    have t1 : ((k : Int) == 2) = false := by simp; omega
    have H1 := Lib.hid h1
    have H2 := Lib.hid h2
    have HT := Lib.hid hT
    clear h1 h2 hT hr hb hg hkk hk
    go_enter Tryd.func10, Tryd.ntmps10
    go_wp2_with fail
    refine (H1.out _ HT.out).mono ?_
    rintro e w' ⟨rfl, rfl⟩
    go_wp2_with fail
    refine (H2.out _ HT.out).mono ?_
    rintro e w' ⟨rfl, rfl⟩
    go_wp2
    go_ret2
    exact ⟨rfl, rfl⟩
end Go.Proofs.YtbadglgekialdaaDoor.Ecc
