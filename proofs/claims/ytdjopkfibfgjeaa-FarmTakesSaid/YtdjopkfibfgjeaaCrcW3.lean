/-
  The walks of the program's sums, of Append16 and of Check16.
-/
import Derived.Test.YtdjopkfibfgjeaaCrcW2
import Derived.Deep.QuietTactic
import Derived.BigQuiet
namespace Go.Proofs.Ytdjopkfibfgjeaa
open Go.RowKit

theorem hi_byte (r : BitVec 16) : (r.toNat : Int) / 256 = (((r >>> 8).setWidth 8 : Byte).toNat : Int) := by
  have := r.isLt
  rw [BitVec.toNat_setWidth, BitVec.toNat_ushiftRight, Nat.shiftRight_eq_div_pow]
  omega
theorem lo_byte (r : BitVec 16) : (r.toNat : Int) % 256 = ((r.setWidth 8 : Byte).toNat : Int) := by
  rw [BitVec.toNat_setWidth]
  omega

theorem or_join (x y : Byte) : bits .or .u16 ((x.toNat : Int) * 256) (y.toNat : Int) = (x.toNat : Int) * 256 + (y.toNat : Int) := by
  have hx := x.isLt
  have hy := y.isLt
  have e := u16_or_nat (2 ^ 8 * x.toNat) y.toNat (by omega) (by omega)
  rw [← Nat.two_pow_add_eq_or_of_lt hy] at e
  rw [show (x.toNat : Int) * 256 = ((2 ^ 8 * x.toNat : Nat) : Int) by omega, e]
  omega
theorem crcb_iff (r : BitVec 16) (x y : Byte) : crcb r = [x, y] ↔ (r.toNat : Int) = (x.toNat : Int) * 256 + (y.toNat : Int) := by
  have h1 := hi_byte r
  have h2 := lo_byte r
  have hy := y.isLt
  unfold crcb
  constructor
  · intro h
    injection h with ha hb
    injection hb with hb
    rw [ha] at h1
    rw [hb] at h2
    omega
  · intro h
    have ea : (r >>> 8).setWidth 8 = x := BitVec.eq_of_toNat_eq (by omega)
    have eb : r.setWidth 8 = y := BitVec.eq_of_toNat_eq (by omega)
    rw [ea, eb]
theorem ck_eq (l : List Byte) (n : Nat) (hl : l.length = n + 2) :
    (((up16 0xffff#16 (l.take n)).toNat : Int) == bits .or .u16 ((l[n].toNat : Int) * 256) (l[n + 1].toNat : Int)) = ck16 l := by
  rw [or_join, Bool.eq_iff_iff, beq_iff_eq, ← crcb_iff]
  have hs : l = l.take n ++ [l[n], l[n + 1]] := by
    have h1 := List.take_append_drop n l
    have h2 : l.drop n = [l[n], l[n + 1]] := by
      rw [List.drop_eq_getElem_cons (by omega), List.drop_eq_getElem_cons (by omega), List.drop_of_length_le (by omega)]
    rw [h2] at h1
    exact h1.symm
  unfold ck16 ap16
  rw [decide_eq_true_iff, show l.length - 2 = n by omega]
  constructor
  · intro h; exact ⟨by omega, by rw [h]; exact hs.symm⟩
  · rintro ⟨_, h⟩
    rw [hs] at h
    rw [List.take_left' (by rw [List.length_take]; omega)] at h
    exact List.append_cancel_left h

end Go.Proofs.Ytdjopkfibfgjeaa
