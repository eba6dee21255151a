/-
  The walks of the reference's checksums.
-/
import Derived.Test.YtdjopkfibfgjeaaCrcW3
namespace Go.Proofs.Ytdjopkfibfgjeaa
open Go.RowKit

def bitI (b : Bool) : Int := if b then 1 else 0

theorem testBit_int (m n : Nat) : ((m / 2 ^ n : Nat) : Int) % 2 = bitI (m.testBit n) := by
  have t := Nat.toNat_testBit m n
  unfold bitI
  generalize m / 2 ^ n = q at *
  cases h : m.testBit n <;> rw [h] at t <;> simp at t <;> simp <;> omega
theorem bit_tmod (x : Byte) (n : Nat) : ((x.toNat : Int) / 2 ^ n).tmod 2 = bitI (x.getLsbD n) := by
  have e : (x.toNat : Int) / 2 ^ n = ((x.toNat / 2 ^ n : Nat) : Int) := by rw [Int.natCast_ediv, Int.natCast_pow]; rfl
  rw [e, Int.tmod_eq_emod_of_nonneg (Int.natCast_nonneg _)]
  exact testBit_int _ _

theorem i64_ofInt (a : Nat) (ha : a < 9223372036854775808) : (BitVec.ofInt 64 (a : Int)).toNat = a := by
  rw [BitVec.ofInt_natCast, BitVec.toNat_ofNat]; exact Nat.mod_eq_of_lt (by omega)
theorem i64_xor_nat' (a b : Nat) (ha : a < 9223372036854775808) (hb : b < 9223372036854775808) : bits .xor .i64 (a : Int) (b : Int) = ((a ^^^ b : Nat) : Int) := by
  have hx : a ^^^ b < 2 ^ 63 := Nat.xor_lt_two_pow (by omega) (by omega)
  show IntKind.i64.wrap ((BitVec.ofInt 64 (a : Int) ^^^ BitVec.ofInt 64 (b : Int)).toNat : Int) = _
  rw [BitVec.toNat_xor, i64_ofInt a ha, i64_ofInt b hb, IntKind.wrap_i64]
  omega

theorem top16 (r : BitVec 16) : (r.toNat : Int) / 32768 = bitI (r.getLsbD 15) := by
  have h := testBit_int r.toNat 15
  have := r.isLt
  have e : ((r.toNat / 2 ^ 15 : Nat) : Int) = (r.toNat : Int) / 32768 := by omega
  have e2 : (r.toNat : Int) / 32768 % 2 = (r.toNat : Int) / 32768 := by omega
  rw [e, e2] at h
  exact h
theorem fd_test (r : BitVec 16) (b : Bool) : (((r.toNat : Int) / 32768 + bitI b) % 2 == 1) = (r.getLsbD 15 != b) := by
  rw [top16]
  cases r.getLsbD 15 <;> cases b <;> rfl
theorem shl_mod (r : BitVec 16) : (r.toNat : Int) * (2 : Int) % (65536 : Int) = ((r <<< 1).toNat : Int) := by
  rw [← b16_shl1, IntKind.wrap_u16]
theorem fd_yes (r : BitVec 16) (b : Bool) (h : (((r.toNat : Int) / 32768 + bitI b) % 2 == 1) = true) : bits .xor .i64 ((r.toNat : Int) * 2 % 65536) 4129 = ((fd16 r b).toNat : Int) := by
  rw [fd_test] at h
  have hl := (r <<< 1).isLt
  rw [shl_mod, fd16, if_pos h, show (4129 : Int) = ((4129 : Nat) : Int) from rfl, i64_xor_nat' _ _ (by omega) (by omega), BitVec.toNat_xor]
  rfl
theorem fd_no (r : BitVec 16) (b : Bool) (h : (((r.toNat : Int) / 32768 + bitI b) % 2 == 1) = false) : (r.toNat : Int) * 2 % 65536 = ((fd16 r b).toNat : Int) := by
  rw [fd_test] at h
  rw [shl_mod, fd16, if_neg (by rw [h]; decide)]

end Go.Proofs.Ytdjopkfibfgjeaa
