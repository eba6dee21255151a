/-
  The walks of the reference of layer 6: data, Repair, Decode.
-/
import Derived.Test.YtbadglgekialdaaDoorRef06b
namespace Go.Proofs.YtbadglgekialdaaDoor.Ecc
open Go.RowKit

theorem rda_skip (d : Nat) {n : Nat} (h : ck n = true) : rda d (n + 1) = rda d n ∧ kk (n + 1) = kk n := by
  constructor
  · show (if ck n = true then rda d n else rda d n + (d / 2 ^ n % 2) * 2 ^ kk n) = _
    rw [if_pos h]
  · show (if ck n = true then kk n else kk n + 1) = _
    rw [if_pos h]
theorem rda_take (d : Nat) {n : Nat} (h : ck n = false) : rda d (n + 1) = rda d n + (d / 2 ^ n % 2) * 2 ^ kk n ∧ kk (n + 1) = kk n + 1 := by
  constructor
  · show (if ck n = true then rda d n else rda d n + (d / 2 ^ n % 2) * 2 ^ kk n) = _
    rw [if_neg (by rw [h]; decide)]
  · show (if ck n = true then kk n else kk n + 1) = _
    rw [if_neg (by rw [h]; decide)]
theorem rda_lt (d : Nat) {n : Nat} (h : n ≤ 39) : rda d n < 4294967296 :=
  Nat.lt_of_lt_of_le (rda_X d n).2 (Nat.pow_le_pow_right (n := 2) (by decide) (kk_le n (by omega)))

set_option maxHeartbeats 1600000 in
theorem rdata_any (d : Nat) (h : d < 18446744073709551616) (w : World) :
    Calls Tryd.prog 28 #[.int .u64 (d : Int)] w fun e w' => e = .returned (.int .u32 ((gatL d : Nat) : Int)) ∧ w = w' := by
  have hg := Lib.hid (rda_gat d h)
  go_enter Tryd.func28, Tryd.ntmps28
  go_wp2
  go_loop [3, 4, 5] (fun v k i => ∃ n : Nat, 3 ≤ n ∧ n ≤ 39 ∧ i = .int .i64 n ∧ k = .int .i64 (kk n : Nat) ∧ v = .int .u32 (rda d n : Nat)) (fun _ _ i => 39 - (intOf i).toNat)
  case atStart => exact ⟨3, by decide, by decide, rfl, rfl, rfl⟩
  case round =>
    obtain ⟨n, hn3, hn, rfl, rfl, rfl⟩ := hrel
    by_cases hlt9 : n < 39
    · have hc := fun w => rcheck_any n (by omega) w
      have hkl : kk n ≤ 32 := kk_le n (by omega)
      cases hck : ck n with
      | true =>
        rw [hck] at hc
        obtain ⟨e1, e2⟩ := rda_skip d hck
        obtain ⟨v, hv⟩ : ∃ v, v = rda d n := ⟨_, rfl⟩
        obtain ⟨K, hK⟩ : ∃ K, K = kk n := ⟨_, rfl⟩
        rw [← hv] at e1 ⊢
        rw [← hK] at e2 hkl ⊢
        have HC := Lib.hid hc
        have H1 := Lib.hid e1
        have H2 := Lib.hid e2
        clear hc e1 e2 hv hK hck
        go_wp2_with fail
        refine (HC.out _).mono ?_
        rintro e w' ⟨rfl, rfl⟩
        go_wp2
        go_round
        case rel => exact ⟨n + 1, by omega, by omega, by go_num, ecc_val (by rw [H2.out]), ecc_val (by rw [H1.out])⟩
        case measure => simp [intOf]; omega
      | false =>
        rw [hck] at hc
        obtain ⟨e1, e2⟩ := rda_take d hck
        have hl1 := rda_lt d (n := n + 1) (by omega)
        have hk2 : kk (n + 1) ≤ 32 := kk_le (n + 1) (by omega)
        rw [e1] at hl1
        rw [e2] at hk2
        have hbt := fun w => rbit_any d n h (by omega) w
        obtain ⟨v, hv⟩ : ∃ v, v = rda d n := ⟨_, rfl⟩
        obtain ⟨K, hK⟩ : ∃ K, K = kk n := ⟨_, rfl⟩
        rw [← hv] at e1 hl1 ⊢
        rw [← hK] at e1 e2 hkl hl1 hk2 ⊢
        have hb2 : d / 2 ^ n % 2 < 2 := Nat.mod_lt _ (by decide)
        obtain ⟨b, hb⟩ : ∃ b, b = d / 2 ^ n % 2 := ⟨_, rfl⟩
        rw [← hb] at e1 hb2 hbt hl1
        obtain ⟨m, hm⟩ : ∃ m, m = b * 2 ^ K := ⟨_, rfl⟩
        rw [← hm] at e1 hl1
        have hsh : IntKind.u32.wrap ((b : Int) * 2 ^ K) = (m : Int) := by
          rw [show (b : Int) * 2 ^ K = (m : Int) by rw [hm]; simp, IntKind.wrap_u32']
          omega
        have HC := Lib.hid hc
        have HB := Lib.hid hbt
        have H1 := Lib.hid e1
        have H2 := Lib.hid e2
        have HN3 := Lib.hid hn3
        have HN9 := Lib.hid hn
        clear hc e1 e2 hv hK hck hb hm hbt
        go_wp2_with fail
        refine (HC.out _).mono ?_
        rintro e w' ⟨rfl, rfl⟩
        go_wp2_with fail
        refine (HB.out _).mono ?_
        rintro e w' ⟨rfl, rfl⟩
        go_wp2
        go_round
        case rel => exact ⟨n + 1, by omega, by omega, by go_num, ecc_val (by rw [H2.out]; omega), ecc_val (by rw [H1.out]; first | omega | (rw [IntKind.wrap_u32']; omega))⟩
        case measure => simp [intOf]; omega
    · obtain rfl : n = 39 := by omega
      rw [hg.out]
      go_wp2
      go_ret
      exact ⟨rfl, rfl⟩

set_option maxHeartbeats 1600000 in
theorem rrepair_any (n : Nat) (h : n < 18446744073709551616) (w : World) :
    Calls Tryd.prog 16 #[.int .u64 (n : Int)] w fun e w' => e = .returned (.tuple #[.int .u64 ((rep n : Nat) : Int), .int .i64 ((kind n : Nat) : Int)]) ∧ w = w' := by
  have h1 := fun w => rsyndrome_any n h w
  have h2 := fun w => rparity_any n h w
  have hs64 := syn_lt n
  have hp2 := par_lt n
  by_cases hn : n < 549755813888
  · have tn : ((n : Int) / 549755813888 != 0) = false := by
      have : (n : Int) / 549755813888 = 0 := by omega
      rw [this]
      rfl
    by_cases hp : par n = 0
    · rw [hp] at h2
      by_cases hs : syn n = 0
      · rw [kind_00 hn hp hs, rep_not (by rw [kind_00 hn hp hs]; decide)]
        rw [hs] at h1
        clear hs64 hp2 hp hs
        go_enter Tryd.func16, Tryd.ntmps16
        go_wp2_with fail
        refine (h1 _).mono ?_
        rintro e w' ⟨rfl, rfl⟩
        go_wp2_with fail
        refine (h2 _).mono ?_
        rintro e w' ⟨rfl, rfl⟩
        go_wp2_with fail
        refine (h2 _).mono ?_
        rintro e w' ⟨rfl, rfl⟩
        go_wp2
        go_ret2
        exact ⟨rfl, rfl⟩
      · rw [kind_0s hn hp hs, rep_not (by rw [kind_0s hn hp hs]; decide)]
        obtain ⟨s, hss⟩ : ∃ s, s = syn n := ⟨_, rfl⟩
        rw [← hss] at h1 hs hs64
        have t0 : ((s : Int) != 0) = true := by simp; omega
        clear hp2 hp hs hss
        go_enter Tryd.func16, Tryd.ntmps16
        go_wp2_with fail
        refine (h1 _).mono ?_
        rintro e w' ⟨rfl, rfl⟩
        go_wp2_with fail
        refine (h2 _).mono ?_
        rintro e w' ⟨rfl, rfl⟩
        go_wp2
        go_ret2
        exact ⟨rfl, rfl⟩
    · rw [show par n = 1 by omega] at h2
      by_cases hs : syn n < 39
      · have hf := fun w => rflip_any n (syn n) h w
        rw [kind_1s hn hp hs, rep_one' (kind_1s hn hp hs) hs]
        obtain ⟨s, hss⟩ : ∃ s, s = syn n := ⟨_, rfl⟩
        rw [← hss] at h1 hs hs64 hf ⊢
        obtain ⟨f, hff⟩ : ∃ f, f = flp n (s : Int) := ⟨_, rfl⟩
        rw [← hff] at hf ⊢
        have t0 : decide ((38 : Int) < (s : Int)) = false := by simp; omega
        have t1 : decide (38 < s) = false := by simp; omega
        clear hp2 hp hs hss hff hs64
        go_enter Tryd.func16, Tryd.ntmps16
        go_wp2_with fail
        refine (h1 _).mono ?_
        rintro e w' ⟨rfl, rfl⟩
        go_wp2_with fail
        refine (h2 _).mono ?_
        rintro e w' ⟨rfl, rfl⟩
        go_wp2_with fail
        refine (h2 _).mono ?_
        rintro e w' ⟨rfl, rfl⟩
        go_wp2_with fail
        refine (hf _).mono ?_
        rintro e w' ⟨rfl, rfl⟩
        go_wp2
        go_ret2
        exact ⟨rfl, rfl⟩
      · rw [kind_1b hn hp hs, rep_not (by rw [kind_1b hn hp hs]; decide)]
        obtain ⟨s, hss⟩ : ∃ s, s = syn n := ⟨_, rfl⟩
        rw [← hss] at h1 hs hs64
        have t0 : decide ((38 : Int) < (s : Int)) = true := by simp; omega
        have t1 : decide (38 < s) = true := by simp; omega
        clear hp2 hp hs hss hs64
        go_enter Tryd.func16, Tryd.ntmps16
        go_wp2_with fail
        refine (h1 _).mono ?_
        rintro e w' ⟨rfl, rfl⟩
        go_wp2_with fail
        refine (h2 _).mono ?_
        rintro e w' ⟨rfl, rfl⟩
        go_wp2
        go_ret2
        exact ⟨rfl, rfl⟩
  · rw [kind_far hn, rep_not (by rw [kind_far hn]; decide)]
    have tn : ((n : Int) / 549755813888 != 0) = true := by
      rw [bne_iff_ne]
      omega
    obtain ⟨s, hss⟩ : ∃ s, s = syn n := ⟨_, rfl⟩
    rw [← hss] at h1
    clear hs64 hp2 h2 hss hn
    go_enter Tryd.func16, Tryd.ntmps16
    go_wp2_with fail
    refine (h1 _).mono ?_
    rintro e w' ⟨rfl, rfl⟩
    go_wp2
    go_ret2
    exact ⟨rfl, rfl⟩

set_option maxHeartbeats 800000 in
theorem rdecode_any (n : Nat) (h : n < 18446744073709551616) (w : World) :
    Calls Tryd.prog 15 #[.int .u64 (n : Int)] w fun e w' => e = .returned (.tuple #[.int .u32 ((dcd n : Nat) : Int), .int .i64 ((kind n : Nat) : Int)]) ∧ w = w' := by
  have h1 := fun w => rrepair_any n h w
  have h2 := fun w => rdata_any (rep n) (rep_lt h) w
  have hk := kind_le n
  by_cases hb : kind n = 2
  · rw [dcd_bad hb, hb]
    rw [hb] at h1
    obtain ⟨r, hr⟩ : ∃ r, r = rep n := ⟨_, rfl⟩
    rw [← hr] at h1
    clear h2 hr hb hk
    go_enter Tryd.func15, Tryd.ntmps15
    go_wp2_with fail
    refine (h1 _).mono ?_
    rintro e w' ⟨rfl, rfl⟩
    go_wp2
    go_ret2
    exact ⟨rfl, rfl⟩
  · rw [dcd_ok hb]
    obtain ⟨r, hr⟩ : ∃ r, r = rep n := ⟨_, rfl⟩
    rw [← hr] at h1 h2 ⊢
    obtain ⟨g, hg⟩ : ∃ g, g = gatL r := ⟨_, rfl⟩
    rw [← hg] at h2 ⊢
    obtain ⟨k, hkk⟩ : ∃ k, k = kind n := ⟨_, rfl⟩
    rw [← hkk] at h1 hb hk ⊢
    have t1 : ((k : Int) == 2) = false := by simp; omega
    clear hr hb hg hkk hk
    go_enter Tryd.func15, Tryd.ntmps15
    go_wp2_with fail
    refine (h1 _).mono ?_
    rintro e w' ⟨rfl, rfl⟩
    go_wp2_with fail
    refine (h2 _).mono ?_
    rintro e w' ⟨rfl, rfl⟩
    go_wp2
    go_ret2
    exact ⟨rfl, rfl⟩
end Go.Proofs.YtbadglgekialdaaDoor.Ecc
