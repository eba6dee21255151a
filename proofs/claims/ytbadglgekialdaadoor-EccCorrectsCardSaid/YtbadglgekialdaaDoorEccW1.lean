/-
  The walks of package ecc's small functions and of the library's two: codeBits, runShift, OnesCount64, TrailingZeros64, parity, Flip. The two tables are as the program's text lays them.
-/
import Derived.Test.YtbadglgekialdaaDoorRows
import Derived.Test.YtbadglgekialdaaDoorEccCode
import Derived.Test.YtbadglgekialdaaDoorEccPop
import Derived.WalkKit
import Derived.WalkSpells
import Derived.WalkLawsBesides
import Derived.Lib.Hide
import Derived.Deep.QuietTactic
import Derived.Laws.Bits64b
namespace Go.Proofs.YtbadglgekialdaaDoor.Ecc
open Go.RowKit

/-- the tables that the walks read -/
structure Tabs (w : World) : Prop where
  runs : ∀ i, i < 5 → w.cell? ⟨0, i, none⟩ = some (.int .u64 (msk i : Nat))
  tab : ∀ j, j < 64 → w.cell? ⟨1, j, none⟩ = some (.int .u8 (Lib.deBruijn64tab.getD j 0 : Nat))

theorem ecc_ret {k : IntKind} {a b : Int} (h : a = b) : Ending.returned (.int k a) = .returned (.int k b) := by rw [h]
theorem ecc_val {k : IntKind} {a b : Int} (h : a = b) : Value.int k a = .int k b := by rw [h]
theorem ecc_bool {a b : Bool} (h : a = b) : Ending.returned (.bool a) = .returned (.bool b) := by rw [h]
theorem u64_lo39 (n : Nat) (h : n < 18446744073709551616) : bits .and .u64 (n : Int) 549755813887 = ((n % 549755813888 : Nat) : Int) := by
  rw [show (549755813887 : Int) = ((549755813887 : Nat) : Int) from rfl, u64_and_nat n _ h (by decide), show (549755813887 : Nat) = 2 ^ 39 - 1 from rfl, Nat.and_two_pow_sub_one_eq_mod]

theorem i64_nat (a : Nat) (ha : a < 9223372036854775808) : (BitVec.ofInt 64 (a : Int)).toNat = a := by
  rw [BitVec.ofInt_natCast, BitVec.toNat_ofNat]; exact Nat.mod_eq_of_lt (by omega)
theorem i64_and_nat (a b : Nat) (ha : a < 9223372036854775808) (hb : b < 9223372036854775808) : bits .and .i64 (a : Int) (b : Int) = ((a &&& b : Nat) : Int) := by
  have hx : a &&& b < 2 ^ 63 := Nat.and_lt_two_pow _ (by omega)
  show IntKind.i64.wrap ((BitVec.ofInt 64 (a : Int) &&& BitVec.ofInt 64 (b : Int)).toNat : Int) = _
  rw [BitVec.toNat_and, i64_nat a ha, i64_nat b hb, IntKind.wrap_i64]
  omega
theorem i64_xor_nat (a b : Nat) (ha : a < 9223372036854775808) (hb : b < 9223372036854775808) : bits .xor .i64 (a : Int) (b : Int) = ((a ^^^ b : Nat) : Int) := by
  have hx : a ^^^ b < 2 ^ 63 := Nat.xor_lt_two_pow (by omega) (by omega)
  show IntKind.i64.wrap ((BitVec.ofInt 64 (a : Int) ^^^ BitVec.ofInt 64 (b : Int)).toNat : Int) = _
  rw [BitVec.toNat_xor, i64_nat a ha, i64_nat b hb, IntKind.wrap_i64]
  omega

set_option maxHeartbeats 400000 in
theorem codeBits_any (n : Nat) (h : n < 18446744073709551616) (w : World) :
    Calls Tryd.prog 24 #[.int .u64 (n : Int)] w fun e w' => e = .returned (.int .u64 ((n % 549755813888 : Nat) : Int)) ∧ w = w' := by
  have H := u64_lo39 n h
  go_enter Tryd.func24, Tryd.ntmps24
  go_wp2
  go_ret
  exact ⟨ecc_ret (by omega), rfl⟩

set_option maxHeartbeats 400000 in
theorem runShift_any (n : Nat) (h : n < 64) (w : World) :
    Calls Tryd.prog 30 #[.int .i64 (n : Int)] w fun e w' => e = .returned (.int .i64 ((n + 3 : Nat) : Int)) ∧ w = w' := by
  go_enter Tryd.func30, Tryd.ntmps30
  go_wp2
  go_ret
  exact ⟨ecc_ret (by omega), rfl⟩

set_option maxHeartbeats 400000 in
theorem ones_any (x : Nat) (h : x < 18446744073709551616) (w : World) :
    Calls Tryd.prog 31 #[.int .u64 (x : Int)] w fun e w' => e = .returned (.int .i64 ((pop x 64 : Nat) : Int)) ∧ w = w' := by
  obtain ⟨y, hy⟩ : ∃ y, y = g3 (g2 (g1 x)) := ⟨_, rfl⟩
  obtain ⟨z, hz⟩ : ∃ z, z = y + y / 256 := ⟨_, rfl⟩
  obtain ⟨u, hu⟩ : ∃ u, u = z + z / 65536 := ⟨_, rfl⟩
  obtain ⟨v, hv⟩ : ∃ v, v = u + u / 4294967296 := ⟨_, rfl⟩
  obtain ⟨r1, r2, r3, r4, r5, r6, r7⟩ := ones x h y z u v hy hz hu hv
  obtain ⟨p, hp⟩ : ∃ p, p = g1 x := ⟨_, rfl⟩
  obtain ⟨q, hq⟩ : ∃ q, q = g2 p := ⟨_, rfl⟩
  rw [← hp] at hy r5 r6
  rw [← hq] at hy r6
  obtain ⟨a, ha⟩ : ∃ a, a = x / 2 &&& 6148914691236517205 := ⟨_, rfl⟩
  obtain ⟨b, hb⟩ : ∃ b, b = x &&& 6148914691236517205 := ⟨_, rfl⟩
  obtain ⟨c, hc⟩ : ∃ c, c = p / 4 &&& 3689348814741910323 := ⟨_, rfl⟩
  obtain ⟨d, hd⟩ : ∃ d, d = p &&& 3689348814741910323 := ⟨_, rfl⟩
  have k1 : bits .and .u64 ((x : Int) / 2) 6148914691236517205 = (a : Int) := by
    rw [ha, ← u64_and_nat _ _ (by omega) (by decide)]
    rfl
  have k2 : bits .and .u64 (x : Int) 6148914691236517205 = (b : Int) := by
    rw [hb, ← u64_and_nat _ _ (by omega) (by decide)]
    rfl
  have k3 : bits .and .u64 ((p : Int) / 4) 3689348814741910323 = (c : Int) := by
    rw [hc, ← u64_and_nat _ _ (by omega) (by decide)]
    rfl
  have k4 : bits .and .u64 (p : Int) 3689348814741910323 = (d : Int) := by
    rw [hd, ← u64_and_nat _ _ (by omega) (by decide)]
    rfl
  have k5 : bits .and .u64 ((q : Int) / 16 + (q : Int)) 1085102592571150095 = (y : Int) := by
    rw [hy, g3, ← u64_and_nat _ _ (by omega) (by decide)]
    rfl
  have j1 : (a : Int) + (b : Int) = (p : Int) := by rw [hp, g1, ← ha, ← hb]; rfl
  have j2 : (c : Int) + (d : Int) = (q : Int) := by rw [hq, g2, ← hc, ← hd]; rfl
  have j3 : (y : Int) + (y : Int) / 256 = (z : Int) := by omega
  have j4 : (z : Int) + (z : Int) / 65536 = (u : Int) := by omega
  have j5 : (u : Int) + (u : Int) / 4294967296 = (v : Int) := by omega
  have k6 : bits .and .i64 (v : Int) 127 = ((pop x 64 : Nat) : Int) := by
    rw [show (127 : Int) = ((127 : Nat) : Int) from rfl, i64_and_nat _ _ r2 (by decide), show (127 : Nat) = 2 ^ 7 - 1 from rfl, Nat.and_two_pow_sub_one_eq_mod, ← r1]
  clear hy hz hu hv hp hq ha hb hc hd r1
  go_enter Tryd.func31, Tryd.ntmps31
  go_wp2
  go_ret
  exact ⟨rfl, rfl⟩

theorem low_and (x a : Nat) (hx : x < 18446744073709551616) (hx0 : x ≠ 0) (hlow : x &&& (18446744073709551616 - x) = a) :
    bits .and .u64 (x : Int) (IntKind.u64.wrap (-(x : Int))) = (a : Int) := by
  have e1 : IntKind.u64.wrap (-(x : Int)) = ((18446744073709551616 - x : Nat) : Int) := by rw [IntKind.wrap_u64]; omega
  rw [e1, u64_and_nat x _ hx (by omega), hlow]

set_option maxHeartbeats 400000 in
theorem zeros_any (x : Nat) (h : x < 18446744073709551616) (h0 : x ≠ 0) (w : World) (hT : Tabs w) :
    Calls Tryd.prog 27 #[.int .u64 (x : Int)] w fun e w' => e = .returned (.int .i64 ((Lib.ctz 64 x : Nat) : Int)) ∧ w = w' := by
  obtain ⟨hlow, hk⟩ := Lib.lowest_bit 64 x h0 h
  obtain ⟨hi, htab⟩ := Lib.deBruijn64_at _ hk
  have hcell := hT.tab _ hi
  rw [htab] at hcell
  have k1 := low_and x _ h h0 hlow
  obtain ⟨c, hc⟩ : ∃ c, c = Lib.ctz 64 x := ⟨_, rfl⟩
  rw [← hc] at k1 hi hcell hk ⊢
  obtain ⟨a, ha⟩ : ∃ a, a = 2 ^ c := ⟨_, rfl⟩
  rw [← ha] at k1 hi hcell
  obtain ⟨i, hii⟩ : ∃ i, i = a * 285870213051353865 % 18446744073709551616 / 288230376151711744 := ⟨_, rfl⟩
  rw [← hii] at hi hcell
  have k2 : IntKind.u64.wrap ((a : Int) * 285870213051353865) / 288230376151711744 = (i : Int) := by
    rw [IntKind.wrap_u64, hii]
    clear hii hcell hi k1 htab hlow hc ha hT hk h h0
    omega
  have h1 : ((x : Int) == 0) = false := by simp; omega
  clear hii ha hc hlow htab hT h0
  go_enter Tryd.func27, Tryd.ntmps27
  go_wp2
  go_ret
  exact ⟨ecc_ret (by omega), rfl⟩

theorem par_ones (n : Nat) : pop (n % 549755813888) 64 % 2 = par n := by
  have h : n % 549755813888 < 2 ^ 39 := Nat.mod_lt _ (by decide)
  rw [show 64 = 39 + 25 from rfl, pop_small h, ← par_pop, par_mod]

set_option maxHeartbeats 400000 in
theorem parity_any (n : Nat) (h : n < 18446744073709551616) (w : World) :
    Calls Tryd.prog 22 #[.int .u64 (n : Int)] w fun e w' => e = .returned (.int .u64 ((par n : Nat) : Int)) ∧ w = w' := by
  have h1 := codeBits_any n h w
  have h2 := ones_any (n % 549755813888) (by omega) w
  have hp := par_ones n
  have hl := pop_le (n % 549755813888) 64
  obtain ⟨c, hc⟩ : ∃ c, c = n % 549755813888 := ⟨_, rfl⟩
  rw [← hc] at h1 h2 hp hl
  obtain ⟨p, hpp⟩ : ∃ p, p = pop c 64 := ⟨_, rfl⟩
  rw [← hpp] at h2 hp hl
  have HP := Lib.hid hp
  clear hp hc hpp
  go_enter Tryd.func22, Tryd.ntmps22
  go_wp2_with fail
  refine h1.mono ?_
  rintro e w' ⟨rfl, rfl⟩
  go_wp2_with fail
  refine h2.mono ?_
  rintro e w' ⟨rfl, rfl⟩
  go_wp2
  go_ret
  exact ⟨ecc_ret (by have := HP.out; omega), rfl⟩

theorem shl_one (k : Nat) (h : k < 64) : Op.shift .shl .u64 1 .i64 (k : Int) = pure (.int .u64 ((2 ^ k : Nat) : Int)) := by
  have hp : 2 ^ k < 2 ^ 64 := Nat.pow_lt_pow_right (by decide) h
  rw [shift_shl_any _ _ _ _ (Int.natCast_nonneg k), show min (k : Int).toNat IntKind.u64.bits = k from Nat.min_eq_left (by have : IntKind.u64.bits = 64 := rfl; omega)]
  have e : (1 : Int) * 2 ^ k = ((2 ^ k : Nat) : Int) := by rw [Int.one_mul, Int.natCast_pow]; rfl
  have e2 : ((2 ^ k : Nat) : Int) % 18446744073709551616 = ((2 ^ k : Nat) : Int) := by
    clear e
    generalize 2 ^ k = m at hp ⊢
    omega
  rw [e, IntKind.wrap_u64, e2]

set_option maxHeartbeats 400000 in
theorem flip_any (n : Nat) (b : Int) (h : n < 18446744073709551616) (w : World) :
    Calls Tryd.prog 18 #[.int .u64 (n : Int), .int .i64 b] w fun e w' => e = .returned (.int .u64 ((flp n b : Nat) : Int)) ∧ w = w' := by
  by_cases h0 : 0 ≤ b
  · by_cases h1 : b < 39
    · obtain ⟨k, rfl⟩ := Int.eq_ofNat_of_zero_le h0
      have hk : k < 39 := by omega
      have hs := shl_one k (by omega)
      have hp : 2 ^ k < 2 ^ 64 := Nat.pow_lt_pow_right (by decide) (by omega)
      have hx := u64_xor_nat n (2 ^ k) h hp
      rw [flp_in n k hk]
      have t1 : decide ((k : Int) < 0) = false := by simp
      have t2 : decide ((k : Int) ≥ 39) = false := by simp; omega
      have t3 : decide (k ≥ 39) = false := by simp; omega
      obtain ⟨m, hm⟩ : ∃ m, m = 2 ^ k := ⟨_, rfl⟩
      rw [← hm] at hs hx ⊢
      obtain ⟨x, hxx⟩ : ∃ x, x = n ^^^ m := ⟨_, rfl⟩
      rw [← hxx] at hx ⊢
      clear h0 h1 hk hp hm hxx h
      go_enter Tryd.func18, Tryd.ntmps18
      go_wp2
      go_ret
      exact ⟨rfl, rfl⟩
    · rw [flp_out n b (by omega)]
      have t1 : decide (b < 0) = false := by simp; omega
      have t2 : decide (39 ≤ b) = true := by simp; omega
      clear h0 h1
      go_enter Tryd.func18, Tryd.ntmps18
      go_wp2
      go_ret
      exact ⟨rfl, rfl⟩
  · rw [flp_out n b (by omega)]
    have t1 : decide (b < 0) = true := by simp; omega
    clear h0
    go_enter Tryd.func18, Tryd.ntmps18
    go_wp2
    go_ret
    exact ⟨rfl, rfl⟩

/-! ### Syndrome -/
theorem syn_step (r : Nat) (h0 : r ≠ 0) (h : r < 549755813888) : Lib.ctz 64 r < 39 ∧ r &&& (r - 1) < r ∧ ∀ s, s ^^^ syn r = (s ^^^ Lib.ctz 64 r) ^^^ syn (r &&& (r - 1)) := by
  have h64 : r < 2 ^ 64 := by omega
  obtain ⟨b, e, hl⟩ := low_one 64 r h0 h64
  have hc : Lib.ctz 64 r < 39 := by
    rcases Nat.lt_or_ge (Lib.ctz 64 r) 39 with hlt | hge
    · exact hlt
    · rw [Nat.testBit_lt_two_pow (Nat.lt_of_lt_of_le (show r < 2 ^ 39 from h) (Nat.pow_le_pow_right (by decide) hge))] at b
      cases b
  refine ⟨hc, Nat.lt_of_le_of_lt Nat.and_le_right (by omega), fun s => ?_⟩
  rw [e, lin_syn, syn_pow _ hc, Nat.xor_comm (syn r), ← Nat.xor_assoc, Nat.xor_assoc s, Nat.xor_self, Nat.xor_zero]

set_option maxHeartbeats 400000 in
theorem syndrome_any (n : Nat) (h : n < 18446744073709551616) (w : World) (hT : Tabs w) :
    Calls Tryd.prog 13 #[.int .u64 (n : Int)] w fun e w' => e = .returned (.int .i64 ((syn n : Nat) : Int)) ∧ w = w' := by
  have h1 := codeBits_any n h w
  have hs := syn_mod n
  obtain ⟨c, hc⟩ : ∃ c, c = n % 549755813888 := ⟨_, rfl⟩
  have hcl : c < 549755813888 := by omega
  rw [← hc] at h1 hs
  have HS := Lib.hid hs
  have HT := Lib.hid hT
  clear hc hs hT
  go_enter Tryd.func13, Tryd.ntmps13
  go_wp2_with fail
  refine h1.mono ?_
  rintro e w' ⟨rfl, rfl⟩
  go_wp2
  go_loop [3, 4] (fun s r => ∃ a b : Nat, a < 64 ∧ b < 549755813888 ∧ a ^^^ syn b = syn c ∧ s = .int .i64 a ∧ r = .int .u64 b) (fun _ r => (intOf r).toNat)
  case atStart => exact ⟨0, c, by decide, hcl, Nat.zero_xor _, rfl, rfl⟩
  case round =>
    obtain ⟨a, b, ha, hb, hab, rfl, rfl⟩ := hrel
    have HAB := Lib.hid hab
    clear hab
    by_cases h0 : b = 0
    · subst h0
      go_wp2
      go_ret
      exact ⟨ecc_ret (by rw [← HS.out, ← HAB.out, syn_zero, Nat.xor_zero]), rfl⟩
    · obtain ⟨hc39, hlt, hstep⟩ := syn_step b h0 hb
      have hz := fun w hT => zeros_any b (by omega) h0 w hT
      have t1 : ((b : Int) != 0) = true := by simp; omega
      obtain ⟨t, ht⟩ : ∃ t, t = Lib.ctz 64 b := ⟨_, rfl⟩
      obtain ⟨r, hr⟩ : ∃ r, r = b &&& (b - 1) := ⟨_, rfl⟩
      rw [← ht] at hc39 hstep hz
      rw [← hr] at hlt hstep
      have k1 : bits .and .u64 (b : Int) ((b : Int) - 1) = (r : Int) := by
        rw [show (b : Int) - 1 = ((b - 1 : Nat) : Int) by omega, u64_and_nat _ _ (by omega) (by omega), hr]
      have k2 := i64_xor_nat a t (by omega) (by omega)
      have hx : a ^^^ t < 64 := Nat.xor_lt_two_pow (n := 6) ha (by omega)
      obtain ⟨x, hxx⟩ : ∃ x, x = a ^^^ t := ⟨_, rfl⟩
      have HST := Lib.hid hstep
      have HX := Lib.hid hxx
      rw [← hxx] at k2 hx
      have HZ := Lib.hid hz
      clear hstep hxx hz ht hr
      go_wp2_with (go_at_call 27; refine (HZ.out _ HT.out).mono ?_; rintro e w' ⟨rfl, rfl⟩)
      go_round
      case rel => exact ⟨x, r, hx, by omega, by rw [HX.out, ← HST.out, HAB.out], rfl, rfl⟩
      case measure => simp [intOf]; omega
end Go.Proofs.YtbadglgekialdaaDoor.Ecc
