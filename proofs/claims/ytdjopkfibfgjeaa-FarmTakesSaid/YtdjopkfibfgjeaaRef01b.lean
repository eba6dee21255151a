/-
  The walk of the reference's CRC-32C, and the four sums.
-/
import Derived.Test.YtdjopkfibfgjeaaRef01a
namespace Go.Proofs.Ytdjopkfibfgjeaa
open Go.RowKit

theorem low32 (r : BitVec 32) : (r.toNat : Int) % 2 = bitI (r.getLsbD 0) := by
  have h := testBit_int r.toNat 0
  rw [Nat.pow_zero, Nat.div_one] at h
  exact h
theorem div_bit (x : Byte) (n : Nat) : (x.toNat : Int) / 2 ^ n % 2 = bitI (x.getLsbD n) := by
  have e : (x.toNat : Int) / 2 ^ n = ((x.toNat / 2 ^ n : Nat) : Int) := by rw [Int.natCast_ediv, Int.natCast_pow]; rfl
  rw [e]
  exact testBit_int _ _
theorem div_bound (x : Byte) (n : Nat) : 0 ≤ (x.toNat : Int) / 2 ^ n ∧ (x.toNat : Int) / 2 ^ n ≤ 255 := by
  have e : (x.toNat : Int) / 2 ^ n = ((x.toNat / 2 ^ n : Nat) : Int) := by rw [Int.natCast_ediv, Int.natCast_pow]; rfl
  have := x.isLt
  have h0 := Int.natCast_nonneg (x.toNat / 2 ^ n)
  have h1 : ((x.toNat / 2 ^ n : Nat) : Int) ≤ (x.toNat : Int) := Int.ofNat_le.mpr (Nat.div_le_self _ _)
  rw [e]
  exact ⟨h0, by omega⟩
theorem fd32_test (r : BitVec 32) (x : Byte) (j : Nat) : (((r.toNat : Int) + (x.toNat : Int) / 2 ^ j) % 2 == 1) = (r.getLsbD 0 != x.getLsbD j) := by
  rw [Int.add_emod, low32, div_bit]
  cases r.getLsbD 0 <;> cases x.getLsbD j <;> rfl
theorem fd32_yes (r : BitVec 32) (x : Byte) (j : Nat) (h : (((r.toNat : Int) + (x.toNat : Int) / 2 ^ j) % 2 == 1) = true) : bits .xor .i64 ((r.toNat : Int) / 2) 2197175160 = ((fd32 r (x.getLsbD j)).toNat : Int) := by
  rw [fd32_test] at h
  have hl := (r >>> 1).isLt
  rw [b32_shr1, fd32, if_pos h, show (2197175160 : Int) = ((2197175160 : Nat) : Int) from rfl, i64_xor_nat' _ _ (by omega) (by omega), BitVec.toNat_xor]
  rfl
theorem fd32_no (r : BitVec 32) (x : Byte) (j : Nat) (h : (((r.toNat : Int) + (x.toNat : Int) / 2 ^ j) % 2 == 1) = false) : (r.toNat : Int) / 2 = ((fd32 r (x.getLsbD j)).toNat : Int) := by
  rw [fd32_test] at h
  rw [b32_shr1, fd32, if_neg (by rw [h]; decide)]

end Go.Proofs.Ytdjopkfibfgjeaa
