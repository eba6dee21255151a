/-
  The walks of the program's CRC-32C: a step, a byte string.
-/
import Derived.Test.YtdjopkfibfgjeaaCrcW1
namespace Go.Proofs.Ytdjopkfibfgjeaa
open Go.RowKit

theorem sh32_hi (r : BitVec 32) (h : r.getLsbD 0 = true) : (bits .and .u32 (r.toNat : Int) 1 != 0) = true ∧ bits .xor .u32 ((r.toNat : Int) / 2) 2197175160 = ((sh32 r).toNat : Int) := by
  have e1 := b32_and r 1#32
  have e2 := b32_xor (r >>> 1) 0x82f63b78#32
  rw [and_low, h] at e1
  constructor
  · rw [show (1 : Int) = ((1#32).toNat : Int) from rfl, e1]; rfl
  · rw [b32_shr1, show (2197175160 : Int) = ((0x82f63b78#32).toNat : Int) from rfl, e2, sh32, if_pos h]
theorem sh32_lo (r : BitVec 32) (h : r.getLsbD 0 = false) : (bits .and .u32 (r.toNat : Int) 1 != 0) = false ∧ (r.toNat : Int) / 2 = ((sh32 r).toNat : Int) := by
  have e1 := b32_and r 1#32
  rw [and_low, h] at e1
  constructor
  · rw [show (1 : Int) = ((1#32).toNat : Int) from rfl, e1]; rfl
  · rw [b32_shr1, sh32, if_neg (by rw [h]; decide)]

theorem in32 (r : BitVec 32) (x : Byte) : bits .xor .u32 (r.toNat : Int) (x.toNat : Int) = ((r ^^^ x.setWidth 32).toNat : Int) := by
  rw [← b32_xor]
  congr 1

end Go.Proofs.Ytdjopkfibfgjeaa
