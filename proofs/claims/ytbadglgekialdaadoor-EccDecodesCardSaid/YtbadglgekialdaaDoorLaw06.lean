/-
  The walks of 'lives' and of the six laws of layer 6.
-/
import Derived.Test.YtbadglgekialdaaDoorRef06c
namespace Go.Proofs.YtbadglgekialdaaDoor.Ecc
open Go.RowKit

theorem dec_1 (w : World) (hT : Tabs w) : Calls Tryd.prog 10 #[.int .u64 1] w fun e w' => e = .returned (.tuple #[.int .u32 0, .int .i64 1]) ∧ w = w' := by
  have h := decode_any 1 (by decide) w hT
  rw [show dcd 1 = 0 by decide +kernel, show kind 1 = 1 by decide +kernel] at h
  exact h
theorem dec_3 (w : World) (hT : Tabs w) : Calls Tryd.prog 10 #[.int .u64 3] w fun e w' => e = .returned (.tuple #[.int .u32 0, .int .i64 2]) ∧ w = w' := by
  have h := decode_any 3 (by decide) w hT
  rw [show dcd 3 = 0 by decide +kernel, show kind 3 = 2 by decide +kernel] at h
  exact h
theorem dec_15 (w : World) (hT : Tabs w) : Calls Tryd.prog 10 #[.int .u64 15] w fun e w' => e = .returned (.tuple #[.int .u32 1, .int .i64 0]) ∧ w = w' := by
  have h := decode_any 15 (by decide) w hT
  rw [show dcd 15 = 1 by decide +kernel, show kind 15 = 0 by decide +kernel] at h
  exact h
theorem dec_7 (w : World) (hT : Tabs w) : Calls Tryd.prog 10 #[.int .u64 7] w fun e w' => e = .returned (.tuple #[.int .u32 1, .int .i64 1]) ∧ w = w' := by
  have h := decode_any 7 (by decide) w hT
  rw [show dcd 7 = 1 by decide +kernel, show kind 7 = 1 by decide +kernel] at h
  exact h
theorem rep_7 (w : World) (hT : Tabs w) : Calls Tryd.prog 11 #[.int .u64 7] w fun e w' => e = .returned (.tuple #[.int .u64 15, .int .i64 1]) ∧ w = w' := by
  have h := repair_any 7 (by decide) w hT
  rw [show rep 7 = 15 by decide +kernel, show kind 7 = 1 by decide +kernel] at h
  exact h
theorem syn_10 (w : World) (hT : Tabs w) : Calls Tryd.prog 13 #[.int .u64 10] w fun e w' => e = .returned (.int .i64 2) ∧ w = w' := by
  have h := syndrome_any 10 (by decide) w hT
  rw [show syn 10 = 2 by decide +kernel] at h
  exact h
theorem flip_38 (w : World) (_hT : Tabs w) : Calls Tryd.prog 18 #[.int .u64 0, .int .i64 38] w fun e w' => e = .returned (.int .u64 274877906944) ∧ w = w' := by
  have h := flip_any 0 38 (by decide) w
  rw [show flp 0 38 = 274877906944 by decide +kernel] at h
  exact h
theorem flip_39 (w : World) (_hT : Tabs w) : Calls Tryd.prog 18 #[.int .u64 5, .int .i64 39] w fun e w' => e = .returned (.int .u64 5) ∧ w = w' := by
  have h := flip_any 5 39 (by decide) w
  rw [show flp 5 39 = 5 by decide +kernel] at h
  exact h
theorem encl_0 (w : World) (hT : Tabs w) : Calls Tryd.prog 9 #[.int .u32 0] w fun e w' => e = .returned (.int .u64 0) ∧ Dn w w' := by
  have h := encode_any 0 (by decide) w hT
  rw [show enc 0 = 0 by decide +kernel] at h
  exact h
theorem encl_1 (w : World) (hT : Tabs w) : Calls Tryd.prog 9 #[.int .u32 1] w fun e w' => e = .returned (.int .u64 15) ∧ Dn w w' := by
  have h := encode_any 1 (by decide) w hT
  rw [show enc 1 = 15 by decide +kernel] at h
  exact h

set_option maxHeartbeats 1600000 in
theorem lives06_any (w : World) (hT : Tabs w) : Calls Tryd.prog 14 #[] w fun e w' => e = .returned (.bool true) ∧ Dn w w' := by
  have HT := Lib.hid hT
  clear hT
  go_enter Tryd.func14, Tryd.ntmps14
  go_wp2_with fail
  refine (dec_1 _ HT.out).mono ?_
  rintro e w' ⟨rfl, rfl⟩
  go_wp2_with fail
  refine (dec_3 _ HT.out).mono ?_
  rintro e w' ⟨rfl, rfl⟩
  go_wp2_with fail
  refine (dec_15 _ HT.out).mono ?_
  rintro e w' ⟨rfl, rfl⟩
  go_wp2_with fail
  refine (dec_7 _ HT.out).mono ?_
  rintro e w' ⟨rfl, rfl⟩
  go_wp2_with fail
  refine (rep_7 _ HT.out).mono ?_
  rintro e w' ⟨rfl, rfl⟩
  go_wp2_with fail
  refine (encl_0 _ HT.out).mono ?_
  rintro e w1 ⟨rfl, hd1⟩
  have HD1 := Lib.hid hd1
  have HT1 := Lib.hid (hd1.tabs HT.out)
  clear hd1
  go_wp2_with fail
  refine (encl_1 _ HT1.out).mono ?_
  rintro e w2 ⟨rfl, hd2⟩
  have HD2 := Lib.hid (HD1.out.trans hd2)
  have HT2 := Lib.hid (hd2.tabs HT1.out)
  clear hd2
  go_wp2_with fail
  refine (syn_10 _ HT2.out).mono ?_
  rintro e w' ⟨rfl, rfl⟩
  go_wp2_with fail
  refine (flip_38 _ HT2.out).mono ?_
  rintro e w' ⟨rfl, rfl⟩
  go_wp2_with fail
  refine (flip_39 _ HT2.out).mono ?_
  rintro e w' ⟨rfl, rfl⟩
  go_wp2
  go_ret
  exact ⟨rfl, HD2.out⟩

set_option maxHeartbeats 1600000 in
theorem eccFlips_walk (n : Nat) (b : Int) (h : n < 18446744073709551616) (w : World) (hT : Tabs w) :
    Calls Tryd.prog 5 #[.int .u64 (n : Int), .int .i64 b] w fun e w' => e = .returned (.bool true) ∧ Below w.heap.size w w' := by
  have h1 := fun w => flip_any n b h w
  have h2 := fun w => rflip_any n b h w
  have h3 := fun w => flip_any (flp n b) b (flp_lt n b h) w
  rw [flp_back] at h3
  obtain ⟨f, hf⟩ : ∃ f, f = flp n b := ⟨_, rfl⟩
  rw [← hf] at h1 h2 h3
  have HT := Lib.hid hT
  clear hT hf
  go_enter Tryd.func5, Tryd.ntmps5
  go_wp2_with fail
  refine (h1 _).mono ?_
  rintro e w' ⟨rfl, rfl⟩
  go_wp2_with fail
  refine (h2 _).mono ?_
  rintro e w' ⟨rfl, rfl⟩
  go_wp2_with fail
  refine (h3 _).mono ?_
  rintro e w' ⟨rfl, rfl⟩
  go_wp2_with fail
  refine (lives06_any _ HT.out).mono ?_
  rintro e w1 ⟨rfl, hd⟩
  go_wp2
  go_ret
  exact ⟨rfl, hd.below _⟩

set_option maxHeartbeats 1600000 in
theorem eccDecodes_walk (n : Nat) (h : n < 18446744073709551616) (w : World) (hT : Tabs w) :
    Calls Tryd.prog 4 #[.int .u64 (n : Int)] w fun e w' => e = .returned (.bool true) ∧ Below w.heap.size w w' := by
  have h1 := fun w hT => decode_any n h w hT
  have h2 := fun w => rdecode_any n h w
  have h3 := fun w hT => repair_any n h w hT
  have h4 := fun w => rrepair_any n h w
  have h5 := fun w hT => syndrome_any n h w hT
  have h6 := fun w => rsyndrome_any n h w
  obtain ⟨d, hd⟩ : ∃ d, d = dcd n := ⟨_, rfl⟩
  obtain ⟨k, hk⟩ : ∃ k, k = kind n := ⟨_, rfl⟩
  obtain ⟨r, hr⟩ : ∃ r, r = rep n := ⟨_, rfl⟩
  obtain ⟨s, hs⟩ : ∃ s, s = syn n := ⟨_, rfl⟩
  rw [← hd, ← hk] at h1 h2
  rw [← hr, ← hk] at h3 h4
  rw [← hs] at h5 h6
  have H1 := Lib.hid h1
  have H3 := Lib.hid h3
  have H5 := Lib.hid h5
  have HT := Lib.hid hT
  clear hT hd hk hr hs h1 h3 h5
  go_enter Tryd.func4, Tryd.ntmps4
  go_wp2_with fail
  refine (H1.out _ HT.out).mono ?_
  rintro e w' ⟨rfl, rfl⟩
  go_wp2_with fail
  refine (h2 _).mono ?_
  rintro e w' ⟨rfl, rfl⟩
  go_wp2_with fail
  refine (H3.out _ HT.out).mono ?_
  rintro e w' ⟨rfl, rfl⟩
  go_wp2_with fail
  refine (h4 _).mono ?_
  rintro e w' ⟨rfl, rfl⟩
  go_wp2_with fail
  refine (H5.out _ HT.out).mono ?_
  rintro e w' ⟨rfl, rfl⟩
  go_wp2_with fail
  refine (h6 _).mono ?_
  rintro e w' ⟨rfl, rfl⟩
  go_wp2_with fail
  refine (lives06_any _ HT.out).mono ?_
  rintro e w1 ⟨rfl, hd⟩
  go_wp2
  go_ret
  exact ⟨rfl, hd.below _⟩

set_option maxHeartbeats 1600000 in
theorem eccCodes_walk (d : Nat) (h : d < 4294967296) (w : World) (hT : Tabs w) :
    Calls Tryd.prog 3 #[.int .u32 (d : Int)] w fun e w' => e = .returned (.bool true) ∧ Below w.heap.size w w' := by
  have hl := enc_lt d h
  have h1 := fun w hT => encode_any d h w hT
  have h2 := fun w hT => decode_any (enc d) (by omega) w hT
  have h3 := fun w hT => repair_any (enc d) (by omega) w hT
  have h4 := fun w => rencode_any d h w
  have h5 := fun w hT => syndrome_any (enc d) (by omega) w hT
  rw [dcd_enc d h, kind_enc d h] at h2
  rw [rep_enc d h, kind_enc d h] at h3
  rw [enc_syn d h] at h5
  obtain ⟨x, hx⟩ : ∃ x, x = enc d := ⟨_, rfl⟩
  rw [← hx] at h1 h2 h3 h4 h5 hl
  have hq : (x : Int) / 549755813888 = 0 := by omega
  have H1 := Lib.hid h1
  have H2 := Lib.hid h2
  have H3 := Lib.hid h3
  have H5 := Lib.hid h5
  have HT := Lib.hid hT
  clear hT hx h1 h2 h3 h5
  go_enter Tryd.func3, Tryd.ntmps3
  go_wp2_with fail
  refine (H1.out _ HT.out).mono ?_
  rintro e w1 ⟨rfl, hd1⟩
  have HD1 := Lib.hid hd1
  have HT1 := Lib.hid (hd1.tabs HT.out)
  clear hd1
  go_wp2_with fail
  refine (H2.out _ HT1.out).mono ?_
  rintro e w' ⟨rfl, rfl⟩
  go_wp2_with fail
  refine (H3.out _ HT1.out).mono ?_
  rintro e w' ⟨rfl, rfl⟩
  go_wp2_with fail
  refine (h4 _).mono ?_
  rintro e w' ⟨rfl, rfl⟩
  go_wp2_with fail
  refine (H5.out _ HT1.out).mono ?_
  rintro e w' ⟨rfl, rfl⟩
  go_wp2_with fail
  refine (lives06_any _ HT1.out).mono ?_
  rintro e w2 ⟨rfl, hd2⟩
  go_wp2
  go_ret
  exact ⟨rfl, (HD1.out.trans hd2).below _⟩

set_option maxHeartbeats 1600000 in
theorem eccLinear_walk (a b : Nat) (ha : a < 4294967296) (hb : b < 4294967296) (w : World) (hT : Tabs w) :
    Calls Tryd.prog 8 #[.int .u32 (a : Int), .int .u32 (b : Int)] w fun e w' => e = .returned (.bool true) ∧ Below w.heap.size w w' := by
  have hx : a ^^^ b < 4294967296 := Nat.xor_lt_two_pow (n := 32) ha hb
  have h1 := fun w hT => encode_any (a ^^^ b) hx w hT
  have h2 := fun w hT => encode_any a ha w hT
  have h3 := fun w hT => encode_any b hb w hT
  have la := enc_lt a ha
  have lb := enc_lt b hb
  have e : enc (a ^^^ b) = enc a ^^^ enc b := lin_enc a b
  have k1 := u32_xor_nat a b ha hb
  obtain ⟨c, hc⟩ : ∃ c, c = a ^^^ b := ⟨_, rfl⟩
  obtain ⟨x, hxx⟩ : ∃ x, x = enc a := ⟨_, rfl⟩
  obtain ⟨y, hyy⟩ : ∃ y, y = enc b := ⟨_, rfl⟩
  rw [← hxx] at la h2 e
  rw [← hyy] at lb h3 e
  rw [← hc] at k1 h1 e
  have k2 := u64_xor_nat x y (by omega) (by omega)
  rw [← e] at k2
  obtain ⟨z, hz⟩ : ∃ z, z = enc c := ⟨_, rfl⟩
  rw [← hz] at h1 k2
  have H1 := Lib.hid h1
  have H2 := Lib.hid h2
  have H3 := Lib.hid h3
  have HT := Lib.hid hT
  clear hT hx h1 h2 h3 hc hxx hyy hz e
  go_enter Tryd.func8, Tryd.ntmps8
  go_wp2_with fail
  refine (H1.out _ HT.out).mono ?_
  rintro e w1 ⟨rfl, hd1⟩
  have HD1 := Lib.hid hd1
  have HT1 := Lib.hid (hd1.tabs HT.out)
  clear hd1
  go_wp2_with fail
  refine (H2.out _ HT1.out).mono ?_
  rintro e w2 ⟨rfl, hd2⟩
  have HD2 := Lib.hid (HD1.out.trans hd2)
  have HT2 := Lib.hid (hd2.tabs HT1.out)
  clear hd2
  go_wp2_with fail
  refine (H3.out _ HT2.out).mono ?_
  rintro e w3 ⟨rfl, hd3⟩
  have HD3 := Lib.hid (HD2.out.trans hd3)
  have HT3 := Lib.hid (hd3.tabs HT2.out)
  clear hd3
  go_wp2_with fail
  refine (lives06_any _ HT3.out).mono ?_
  rintro e w4 ⟨rfl, hd4⟩
  go_wp2
  go_ret
  exact ⟨rfl, (HD3.out.trans hd4).below _⟩

set_option maxHeartbeats 1600000 in
theorem eccDistance_walk (a b : Nat) (ha : a < 4294967296) (hb : b < 4294967296) (w : World) (hT : Tabs w) :
    Calls Tryd.prog 7 #[.int .u32 (a : Int), .int .u32 (b : Int)] w fun e w' => e = .returned (.bool true) ∧ Below w.heap.size w w' := by
  by_cases hab : a = b
  · subst hab
    have HT := Lib.hid hT
    clear hT
    go_enter Tryd.func7, Tryd.ntmps7
    go_wp2_with fail
    refine (lives06_any _ HT.out).mono ?_
    rintro e w1 ⟨rfl, hd⟩
    go_wp2
    go_ret
    exact ⟨rfl, hd.below _⟩
  have hne : ((a : Int) == (b : Int)) = false := by simp; omega
  have h2 := fun w hT => encode_any a ha w hT
  have h3 := fun w hT => encode_any b hb w hT
  have la := enc_lt a ha
  have lb := enc_lt b hb
  have hp := enc_apart a b ha hb hab
  obtain ⟨x, hxx⟩ : ∃ x, x = enc a := ⟨_, rfl⟩
  obtain ⟨y, hyy⟩ : ∃ y, y = enc b := ⟨_, rfl⟩
  rw [← hxx] at la h2 hp
  rw [← hyy] at lb h3 hp
  have k2 := u64_xor_nat x y (by omega) (by omega)
  have h4 := fun w => rones_any (x ^^^ y) (Nat.xor_lt_two_pow (n := 64) (by omega) (by omega)) w
  obtain ⟨z, hz⟩ : ∃ z, z = x ^^^ y := ⟨_, rfl⟩
  rw [← hz] at k2 h4 hp
  obtain ⟨p, hpp⟩ : ∃ p, p = pop z 64 := ⟨_, rfl⟩
  rw [← hpp] at h4 hp
  have t1 : decide ((4 : Int) ≤ (p : Int)) = true := by simp; omega
  have t2 : decide (4 ≤ p) = true := by simp; omega
  have H2 := Lib.hid h2
  have H3 := Lib.hid h3
  have HT := Lib.hid hT
  clear hT h2 h3 hxx hyy hz hpp hab
  go_enter Tryd.func7, Tryd.ntmps7
  go_wp2_with fail
  refine (H2.out _ HT.out).mono ?_
  rintro e w1 ⟨rfl, hd1⟩
  have HD1 := Lib.hid hd1
  have HT1 := Lib.hid (hd1.tabs HT.out)
  clear hd1
  go_wp2_with fail
  refine (H3.out _ HT1.out).mono ?_
  rintro e w2 ⟨rfl, hd2⟩
  have HD2 := Lib.hid (HD1.out.trans hd2)
  have HT2 := Lib.hid (hd2.tabs HT1.out)
  clear hd2
  go_wp2_with fail
  refine (h4 _).mono ?_
  rintro e w' ⟨rfl, rfl⟩
  go_wp2_with fail
  refine (lives06_any _ HT2.out).mono ?_
  rintro e w3 ⟨rfl, hd3⟩
  go_wp2
  go_ret
  exact ⟨rfl, (HD2.out.trans hd3).below _⟩

set_option maxHeartbeats 1600000 in
theorem eccCorrects_walk (d i k : Nat) (h : d < 4294967296) (_hi : i < 256) (_hk : k < 256) (w : World) (hT : Tabs w) :
    Calls Tryd.prog 6 #[.int .u32 (d : Int), .int .u8 (i : Int), .int .u8 (k : Int)] w fun e w' => e = .returned (.bool true) ∧ Below w.heap.size w w' := by
  have h1 := fun w hT => encode_any d h w hT
  have hl := enc_lt d h
  have hA : i % 39 < 39 := Nat.mod_lt _ (by decide)
  have hB : k % 39 < 39 := Nat.mod_lt _ (by decide)
  have mA : (i : Int).tmod 39 = ((i % 39 : Nat) : Int) := by rw [Int.tmod_eq_emod_of_nonneg (Int.natCast_nonneg _)]; rfl
  have mB : (k : Int).tmod 39 = ((k % 39 : Nat) : Int) := by rw [Int.tmod_eq_emod_of_nonneg (Int.natCast_nonneg _)]; rfl
  have eA : (i : Int) % 39 = ((i % 39 : Nat) : Int) := rfl
  have eB : (k : Int) % 39 = ((k % 39 : Nat) : Int) := rfl
  obtain ⟨a, ha⟩ : ∃ a, a = i % 39 := ⟨_, rfl⟩
  obtain ⟨b, hb⟩ : ∃ b, b = k % 39 := ⟨_, rfl⟩
  rw [← ha] at hA mA eA
  rw [← hb] at hB mB eB
  have l1 := one_lt (enc d) a hl hA
  have h2 := fun w => flip_any (enc d) a (by omega) w
  rw [flp_in _ a hA] at h2
  have h3 := fun w hT => decode_any (enc d ^^^ 2 ^ a) (by omega) w hT
  have h4 := fun w hT => repair_any (enc d ^^^ 2 ^ a) (by omega) w hT
  rw [dcd_one d a h hA, kind_one d a h hA] at h3
  rw [rep_one d a h hA, kind_one d a h hA] at h4
  have l2 := one_lt (enc d ^^^ 2 ^ a) b l1 hB
  have h5 := fun w => flip_any (enc d ^^^ 2 ^ a) b (by omega) w
  rw [flp_in _ b hB] at h5
  have h6 := fun w hT => decode_any (enc d ^^^ 2 ^ a ^^^ 2 ^ b) (by omega) w hT
  have h7 := fun w hT => repair_any (enc d ^^^ 2 ^ a ^^^ 2 ^ b) (by omega) w hT
  have q6 : a ≠ b → ∀ w, Tabs w → Calls Tryd.prog 10 #[.int .u64 ((enc d ^^^ 2 ^ a ^^^ 2 ^ b : Nat) : Int)] w fun e w' => e = .returned (.tuple #[.int .u32 0, .int .i64 2]) ∧ w = w' := by
    intro hab
    rw [dcd_bad (kind_two d a b h hA hB hab), kind_two d a b h hA hB hab] at h6
    exact h6
  have q7 : a ≠ b → ∀ w, Tabs w → Calls Tryd.prog 11 #[.int .u64 ((enc d ^^^ 2 ^ a ^^^ 2 ^ b : Nat) : Int)] w fun e w' => e = .returned (.tuple #[.int .u64 ((enc d ^^^ 2 ^ a ^^^ 2 ^ b : Nat) : Int), .int .i64 2]) ∧ w = w' := by
    intro hab
    rw [rep_not (by rw [kind_two d a b h hA hB hab]; decide), kind_two d a b h hA hB hab] at h7
    exact h7
  clear h6 h7
  obtain ⟨z, hz⟩ : ∃ z, z = enc d ^^^ 2 ^ a ^^^ 2 ^ b := ⟨_, rfl⟩
  rw [← hz] at h5 q6 q7 l2
  obtain ⟨y, hy⟩ : ∃ y, y = enc d ^^^ 2 ^ a := ⟨_, rfl⟩
  rw [← hy] at h2 h3 h4 h5 l1
  obtain ⟨x, hx⟩ : ∃ x, x = enc d := ⟨_, rfl⟩
  rw [← hx] at h1 h2 h4 hl
  have H1 := Lib.hid h1
  have H3 := Lib.hid h3
  have H4 := Lib.hid h4
  have H6 := Lib.hid q6
  have H7 := Lib.hid q7
  have HT := Lib.hid hT
  clear hT h1 h3 h4 q6 q7 hx hy hz ha hb
  by_cases hab : a = b
  · subst hab
    go_enter Tryd.func6, Tryd.ntmps6
    go_wp2_with fail
    refine (H1.out _ HT.out).mono ?_
    rintro e w1 ⟨rfl, hd1⟩
    have HD1 := Lib.hid hd1
    have HT1 := Lib.hid (hd1.tabs HT.out)
    clear hd1
    go_wp2_with fail
    refine (h2 _).mono ?_
    rintro e w' ⟨rfl, rfl⟩
    go_wp2_with fail
    refine (H3.out _ HT1.out).mono ?_
    rintro e w' ⟨rfl, rfl⟩
    go_wp2_with fail
    refine (H4.out _ HT1.out).mono ?_
    rintro e w' ⟨rfl, rfl⟩
    go_wp2_with fail
    refine (lives06_any _ HT1.out).mono ?_
    rintro e w2 ⟨rfl, hd2⟩
    go_wp2
    go_ret
    exact ⟨rfl, (HD1.out.trans hd2).below _⟩
  · have hne : ((a : Int) == (b : Int)) = false := by simp; omega
    have h6 := H6.out hab
    have h7 := H7.out hab
    have H6' := Lib.hid h6
    have H7' := Lib.hid h7
    clear h6 h7 H6 H7 hab
    go_enter Tryd.func6, Tryd.ntmps6
    go_wp2_with fail
    refine (H1.out _ HT.out).mono ?_
    rintro e w1 ⟨rfl, hd1⟩
    have HD1 := Lib.hid hd1
    have HT1 := Lib.hid (hd1.tabs HT.out)
    clear hd1
    go_wp2_with fail
    refine (h2 _).mono ?_
    rintro e w' ⟨rfl, rfl⟩
    go_wp2_with fail
    refine (H3.out _ HT1.out).mono ?_
    rintro e w' ⟨rfl, rfl⟩
    go_wp2_with fail
    refine (H4.out _ HT1.out).mono ?_
    rintro e w' ⟨rfl, rfl⟩
    go_wp2_with fail
    refine (h5 _).mono ?_
    rintro e w' ⟨rfl, rfl⟩
    go_wp2_with fail
    refine (H6'.out _ HT1.out).mono ?_
    rintro e w' ⟨rfl, rfl⟩
    go_wp2_with fail
    refine (H7'.out _ HT1.out).mono ?_
    rintro e w' ⟨rfl, rfl⟩
    go_wp2_with fail
    refine (lives06_any _ HT1.out).mono ?_
    rintro e w2 ⟨rfl, hd2⟩
    go_wp2
    go_ret
    exact ⟨rfl, (HD1.out.trans hd2).below _⟩
end Go.Proofs.YtbadglgekialdaaDoor.Ecc
