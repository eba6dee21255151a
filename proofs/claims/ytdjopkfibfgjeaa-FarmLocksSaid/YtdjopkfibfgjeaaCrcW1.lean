/-
  The walks of the program's own checksums: a step, a byte string.
-/
import Derived.Test.YtdjopkfibfgjeaaCrcMath
import Derived.Test.YtdjopkfibfgjeaaBase
namespace Go.Proofs.Ytdjopkfibfgjeaa
open Go.RowKit


theorem sh16_hi (r : BitVec 16) (h : r.getLsbD 15 = true) : (bits .and .u16 (r.toNat : Int) 32768 != 0) = true ∧ bits .xor .u16 (IntKind.u16.wrap ((r.toNat : Int) * 2)) 4129 = ((sh16 r).toNat : Int) := by
  have e1 := b16_and r 0x8000#16
  have e2 := b16_xor (r <<< 1) 0x1021#16
  rw [and_top, h] at e1
  constructor
  · rw [show (32768 : Int) = ((0x8000#16).toNat : Int) from rfl, e1]; rfl
  · rw [b16_shl1, show (4129 : Int) = ((0x1021#16).toNat : Int) from rfl, e2, sh16, if_pos h]
theorem sh16_lo (r : BitVec 16) (h : r.getLsbD 15 = false) : (bits .and .u16 (r.toNat : Int) 32768 != 0) = false ∧ IntKind.u16.wrap ((r.toNat : Int) * 2) = ((sh16 r).toNat : Int) := by
  have e1 := b16_and r 0x8000#16
  rw [and_top, h] at e1
  constructor
  · rw [show (32768 : Int) = ((0x8000#16).toNat : Int) from rfl, e1]; rfl
  · rw [b16_shl1, sh16, if_neg (by rw [h]; decide)]

theorem in16 (r : BitVec 16) (x : Byte) : bits .xor .u16 (r.toNat : Int) ((x.toNat : Int) * 256) = ((r ^^^ (x.setWidth 16 <<< 8)).toNat : Int) := by
  rw [← b16_xor]
  congr 1
  have := x.isLt
  rw [BitVec.toNat_shiftLeft, BitVec.toNat_setWidth, Nat.shiftLeft_eq]
  show (x.toNat : Int) * 256 = ((x.toNat % 65536 * 256 % 65536 : Nat) : Int)
  omega

end Go.Proofs.Ytdjopkfibfgjeaa
