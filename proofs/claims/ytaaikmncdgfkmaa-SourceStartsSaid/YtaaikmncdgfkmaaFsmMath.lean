/-
  The weighted sum of bytes modulo 2^32. No dump is imported.
-/
import Derived.Test.YtaaikmncdgfkmaaBytes
namespace Go.Proofs.Ytaaikmncdgfkmaa.Fsm
open Go.RowKit

/-- what the byte x contributes at place k -/
def tm (k : Nat) (x : Byte) : BitVec 32 := x.setWidth 32 <<< (8 * (3 - k % 4))
/-- the bytes' sum, the first at place k -/
def ps : Nat → List Byte → BitVec 32
  | _, [] => 0#32
  | k, x :: l => tm k x + ps (k + 1) l

theorem tm_mod {k j : Nat} (h : k % 4 = j % 4) (x : Byte) : tm k x = tm j x := by unfold tm; rw [h]
theorem ps_mod {k j : Nat} (h : k % 4 = j % 4) (l : List Byte) : ps k l = ps j l := by
  induction l generalizing k j with
  | nil => rfl
  | cons x l ih => simp only [ps]; rw [tm_mod h, ih (k := k + 1) (j := j + 1) (by omega)]
theorem ps_append (k : Nat) (l m : List Byte) : ps k (l ++ m) = ps k l + ps (k + l.length) m := by
  induction l generalizing k with
  | nil => simp [ps]
  | cons x l ih => simp only [List.cons_append, ps, ih, List.length_cons]; rw [BitVec.add_assoc, show k + 1 + l.length = k + (l.length + 1) by omega]
theorem ps_take (k : Nat) (l : List Byte) (n : Nat) (h : n < l.length) : ps k (l.take (n + 1)) = ps k (l.take n) + tm (k + n) l[n] := by
  rw [List.take_succ_eq_append_getElem h, ps_append, List.length_take_of_le (by omega)]
  simp [ps]
theorem tm_zero (k : Nat) : tm k 0#8 = 0#32 := by simp [tm]
theorem ps_zero (k n : Nat) : ps k (List.replicate n 0#8) = 0#32 := by
  induction n generalizing k with
  | zero => rfl
  | succ n ih => simp only [List.replicate_succ, ps, tm_zero, ih]; rfl
theorem ps_four (k : Nat) (l : List Byte) : ps (k + 4) l = ps k l := ps_mod (by omega) l
/-- three pieces -/
theorem ps_three (l : List Byte) (i j : Nat) (h : i ≤ j) (hj : j ≤ l.length) : ps 0 (l.take i) + ps i ((l.drop i).take (j - i)) + ps j (l.drop j) = ps 0 l := by
  have e : l = l.take i ++ ((l.drop i).take (j - i) ++ l.drop j) := by
    have h2 : l.drop j = (l.drop i).drop (j - i) := by rw [List.drop_drop]; congr 1; omega
    rw [h2, List.take_append_drop, List.take_append_drop]
  conv => rhs; rw [e]
  rw [ps_append, ps_append, List.length_take_of_le (by omega), List.length_take_of_le (by rw [List.length_drop]; omega), ← BitVec.add_assoc]
  rw [show 0 + i = i by omega, show i + (j - i) = j by omega]
theorem add_back (a b c : BitVec 32) : c + b + a = a + b + c := by
  rw [BitVec.add_comm (c + b) a, BitVec.add_comm c b, BitVec.add_assoc]

theorem b32_add (a b : BitVec 32) : IntKind.u32.wrap ((a.toNat : Int) + (b.toNat : Int)) = ((a + b).toNat : Int) := by
  rw [IntKind.wrap_u32, BitVec.toNat_add]
  show ((a.toNat : Int) + b.toNat) % 4294967296 = (((a.toNat + b.toNat) % 4294967296 : Nat) : Int)
  omega
theorem b32_shl (a : BitVec 32) (n : Nat) : IntKind.u32.wrap ((a.toNat : Int) * 2 ^ n) = ((a <<< n).toNat : Int) := by
  have e : ((a.toNat : Int) * 2 ^ n) = ((a.toNat * 2 ^ n : Nat) : Int) := by rw [Int.natCast_mul, Int.natCast_pow]; rfl
  rw [IntKind.wrap_u32, BitVec.toNat_shiftLeft, Nat.shiftLeft_eq, e]
  generalize a.toNat * 2 ^ n = q
  show (q : Int) % 4294967296 = ((q % 4294967296 : Nat) : Int)
  omega
theorem set32 (x : Byte) : (x.toNat : Int) = ((x.setWidth 32).toNat : Int) := by
  have := x.isLt
  rw [BitVec.toNat_setWidth, Nat.mod_eq_of_lt (by omega)]
/-- the byte, n times multiplied by 256 -/
def sx (x : Byte) (n : Nat) : BitVec 32 := x.setWidth 32 <<< (8 * n)
theorem sx_zero (x : Byte) : (x.toNat : Int) = ((sx x 0).toNat : Int) := by
  rw [sx, Nat.mul_zero, BitVec.shiftLeft_zero]; exact set32 x
theorem sx_more (x : Byte) (n : Nat) : IntKind.u32.wrap (((sx x n).toNat : Int) * 256) = ((sx x (n + 1)).toNat : Int) := by
  have e := b32_shl (x.setWidth 32 <<< (8 * n)) 8
  rw [← BitVec.shiftLeft_add] at e
  exact e
theorem sx_tm (x : Byte) (p : Nat) (h : p < 4) : sx x (3 - p) = tm p x := by unfold sx tm; rw [Nat.mod_eq_of_lt h]
end Go.Proofs.Ytaaikmncdgfkmaa.Fsm
