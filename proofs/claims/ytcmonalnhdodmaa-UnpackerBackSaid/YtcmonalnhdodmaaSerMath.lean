/-
  Numbers modulo a power of two: masks, Go's remainder, distances. No dump is imported.
-/
import Derived.Laws.BitsAllLaws
import Derived.Laws.Small
import Derived.WalkKit
import Derived.WalkSpells
namespace Go.Proofs.Ytcmonalnhdodmaa
open Go.RowKit

/-- 2 to the power b -/
def pw (b : Int) : Int := ((2 ^ b.toNat : Nat) : Int)

theorem pw_pos (b : Int) : 1 ≤ pw b := by
  have : 0 < 2 ^ b.toNat := Nat.two_pow_pos _
  unfold pw
  omega
theorem pw_le {b : Int} (h : b ≤ 32) : pw b ≤ 4294967296 := by
  have : 2 ^ b.toNat ≤ 2 ^ 32 := Nat.pow_le_pow_right (by decide) (by omega)
  unfold pw
  omega
theorem pw_half {b : Int} (h : 1 ≤ b) : pw b = 2 * pw (b - 1) := by
  obtain ⟨k, rfl⟩ := Int.eq_ofNat_of_zero_le (show 0 ≤ b - 1 from by omega) |>.elim fun k hk => (⟨k, by omega⟩ : ∃ k : Nat, b = (k : Int) + 1)
  unfold pw
  rw [show ((k : Int) + 1).toNat = k + 1 by omega, show ((k : Int) + 1 - 1).toNat = k by omega, Nat.pow_succ]
  omega
theorem pw_dvd {b : Int} (h : b ≤ 63) : pw b ∣ 9223372036854775808 := by
  have : 2 ^ b.toNat ∣ 2 ^ 63 := Nat.pow_dvd_pow 2 (by omega)
  unfold pw
  exact Int.natCast_dvd_natCast.2 this

theorem and_pw (x b : Int) (hb : b ≤ 32) : bits .and .i64 x (pw b - 1) = x % pw b := by
  have hd : 2 ^ b.toNat ∣ 2 ^ 64 := Nat.pow_dvd_pow 2 (by omega)
  have hle := pw_le hb
  have hp : 0 < 2 ^ b.toNat := Nat.two_pow_pos _
  have h2 : (2 : Nat) ^ 64 = 18446744073709551616 := rfl
  have hM : 2 ^ b.toNat ≤ 4294967296 := by unfold pw at hle; omega
  show IntKind.i64.wrap ((BitVec.ofInt 64 x &&& BitVec.ofInt 64 (pw b - 1)).toNat : Int) = _
  have e1 : pw b - 1 = ((2 ^ b.toNat - 1 : Nat) : Int) := by unfold pw; omega
  have e2 : (BitVec.ofInt 64 (pw b - 1)).toNat = 2 ^ b.toNat - 1 := by
    rw [e1, BitVec.ofInt_natCast, BitVec.toNat_ofNat]
    exact Nat.mod_eq_of_lt (by omega)
  have e3 : (BitVec.ofInt 64 x).toNat = (x % 18446744073709551616).toNat := by
    rw [BitVec.toNat_ofInt]
    rfl
  have hr : 0 ≤ x % 18446744073709551616 := Int.emod_nonneg _ (by decide)
  have hk : (x % 18446744073709551616).toNat % 2 ^ b.toNat < 2 ^ b.toNat := Nat.mod_lt _ hp
  rw [BitVec.toNat_and, e2, e3, Nat.and_two_pow_sub_one_eq_mod, IntKind.wrap_i64]
  have e4 : (((x % 18446744073709551616).toNat % 2 ^ b.toNat : Nat) : Int) = x % pw b := by
    rw [Int.natCast_emod, Int.toNat_of_nonneg hr]
    unfold pw
    exact Int.emod_emod_of_dvd _ (Int.natCast_dvd_natCast.2 hd)
  rw [← e4]
  omega

theorem md_nonneg (x b : Int) : 0 ≤ x % pw b := Int.emod_nonneg _ (by have := pw_pos b; omega)
theorem md_lt (x b : Int) : x % pw b < pw b := Int.emod_lt_of_pos _ (by have := pw_pos b; omega)
theorem md_self {x b : Int} (h0 : 0 ≤ x) (h1 : x < pw b) : x % pw b = x := Int.emod_eq_of_lt h0 h1
theorem md_iff {x b : Int} : x = x % pw b ↔ 0 ≤ x ∧ x < pw b :=
  ⟨fun h => by rw [h]; exact ⟨md_nonneg _ _, md_lt _ _⟩, fun h => (md_self h.1 h.2).symm⟩
theorem md_wrap (x b : Int) (hb : b ≤ 63) : IntKind.i64.wrap x % pw b = x % pw b := by
  obtain ⟨q, hq⟩ := pw_dvd hb
  rw [IntKind.wrap_i64]
  have e : (x + 9223372036854775808) % 18446744073709551616 - 9223372036854775808 = x + pw b * (-(2 * q * ((x + 9223372036854775808) / 18446744073709551616))) := by
    have h1 := Int.emod_add_mul_ediv (x + 9223372036854775808) 18446744073709551616
    have h2 : pw b * (-(2 * q * ((x + 9223372036854775808) / 18446744073709551616))) = -(18446744073709551616 * ((x + 9223372036854775808) / 18446744073709551616)) := by
      rw [show (18446744073709551616 : Int) = 2 * 9223372036854775808 from rfl, hq]
      simp only [Int.mul_neg, Int.mul_assoc, Int.mul_left_comm, Int.mul_comm]
    rw [h2]
    omega
  rw [e, Int.add_mul_emod_self_left]
theorem md_wrap64 (x b : Int) (hb : b ≤ 63) : wrap64 x % pw b = x % pw b := by
  have h := md_wrap x b hb
  have e : IntKind.i64.wrap x = wrap64 x := by rw [IntKind.wrap_i64]; unfold wrap64; omega
  rw [← e]
  exact h

/-- Go's remainder, turned into the one from 0 up -/
theorem tmod_pw (x b : Int) : (x.tmod (pw b) + pw b).tmod (pw b) = x % pw b := by
  have hp := pw_pos b
  have h1 : -pw b < x.tmod (pw b) := by
    have := Int.lt_tmod_of_pos x (show 0 < pw b by omega)
    omega
  rw [Int.tmod_eq_emod_of_nonneg (by omega), Int.add_emod_right]
  have h2 := Int.mul_tdiv_add_tmod x (pw b)
  have h3 : x = x.tmod (pw b) + pw b * x.tdiv (pw b) := by omega
  conv => rhs; rw [h3, Int.add_mul_emod_self_left]
theorem tmod_in (x b : Int) : -pw b < x.tmod (pw b) ∧ x.tmod (pw b) < pw b := by
  have hp := pw_pos b
  exact ⟨by have := Int.lt_tmod_of_pos x (show 0 < pw b by omega); omega, Int.tmod_lt_of_pos x (by omega)⟩
theorem md_add (a n b : Int) : (a + n % pw b) % pw b = (a + n) % pw b := Int.add_emod_emod a n (pw b)

/-- a number of b bits, 1 to 32 -/
def vl (n b : Int) : Bool := decide (1 ≤ b ∧ b ≤ 32 ∧ 0 ≤ n ∧ n < pw b)
def sadd (a n b : Int) : Int := if vl a b then (a + n) % pw b else 0
def sdist (x y b : Int) : Int := if vl x b && vl y b then (y - x) % pw b else 0
def sbef (x y b : Int) : Bool := decide (1 ≤ sdist x y b ∧ sdist x y b < pw (b - 1))
def swin (n f s b : Int) : Bool := vl n b && vl f b && decide (s ≤ pw b ∧ sdist f n b < s)

theorem vl_iff {n b : Int} : vl n b = true ↔ 1 ≤ b ∧ b ≤ 32 ∧ 0 ≤ n ∧ n < pw b := by unfold vl; simp
theorem vl_width {n b : Int} (h : ¬ (1 ≤ b ∧ b ≤ 32)) : vl n b = false := by unfold vl; simp; omega
theorem sadd_ok {a n b : Int} (h : vl a b = true) : sadd a n b = (a + n) % pw b := by unfold sadd; rw [if_pos h]
theorem sadd_bad {a n b : Int} (h : vl a b = false) : sadd a n b = 0 := by unfold sadd; rw [h]; rfl
theorem sdist_ok {x y b : Int} (h : vl x b = true) (h' : vl y b = true) : sdist x y b = (y - x) % pw b := by unfold sdist; rw [h, h']; rfl
theorem sdist_bad {x y b : Int} (h : (vl x b && vl y b) = false) : sdist x y b = 0 := by unfold sdist; rw [h]; rfl
theorem sdist_nonneg (x y b : Int) : 0 ≤ sdist x y b := by unfold sdist; split; exact md_nonneg _ _; exact Int.le_refl _
theorem sdist_lt {x y b : Int} : sdist x y b < pw b := by unfold sdist; split; exact md_lt _ _; have := pw_pos b; omega
end Go.Proofs.Ytcmonalnhdodmaa
