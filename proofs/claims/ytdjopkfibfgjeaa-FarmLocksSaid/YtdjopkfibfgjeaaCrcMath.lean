/-
  Plain mathematics of the two checksums, no Go in sight: one register step, one byte, a byte string, and what the reference does bit by bit; and that both agree.
-/
import Derived.Test.YtdjopkfibfgjeaaBytes
namespace Go.Proofs.Ytdjopkfibfgjeaa

/-- f applied n times. -/
def iter {α : Type} (f : α → α) : Nat → α → α
  | 0, x => x
  | n + 1, x => f (iter f n x)

theorem iter_add {α : Type} (f : α → α) (m n : Nat) (x : α) : iter f (m + n) x = iter f m (iter f n x) := by
  induction m with
  | zero => simp [iter]
  | succ m ih => rw [Nat.succ_add]; simp only [iter]; rw [ih]

theorem iter_succ {α : Type} (f : α → α) (n : Nat) (x : α) : iter f (n + 1) x = iter f n (f x) := iter_add f n 1 x

/-! ### one step of the register -/
def sh16 (r : BitVec 16) : BitVec 16 := if r.getLsbD 15 then (r <<< 1) ^^^ 0x1021#16 else r <<< 1
def sh32 (r : BitVec 32) : BitVec 32 := if r.getLsbD 0 then (r >>> 1) ^^^ 0x82f63b78#32 else r >>> 1

theorem sh16_xor (a b : BitVec 16) : sh16 (a ^^^ b) = sh16 a ^^^ sh16 b := by
  unfold sh16
  rw [BitVec.getLsbD_xor, BitVec.shiftLeft_xor_distrib]
  cases a.getLsbD 15 <;> cases b.getLsbD 15 <;> simp [BitVec.xor_assoc]
  · rw [BitVec.xor_comm (b <<< 1)]
  · rw [BitVec.xor_comm (b <<< 1), ← BitVec.xor_assoc]
    simp

theorem sh32_xor (a b : BitVec 32) : sh32 (a ^^^ b) = sh32 a ^^^ sh32 b := by
  unfold sh32
  rw [BitVec.getLsbD_xor, BitVec.ushiftRight_xor_distrib]
  cases a.getLsbD 0 <;> cases b.getLsbD 0 <;> simp [BitVec.xor_assoc]
  · rw [BitVec.xor_comm (b >>> 1)]
  · rw [BitVec.xor_comm (b >>> 1), ← BitVec.xor_assoc]
    simp

theorem iter16_xor (n : Nat) (a b : BitVec 16) : iter sh16 n (a ^^^ b) = iter sh16 n a ^^^ iter sh16 n b := by
  induction n with
  | zero => rfl
  | succ n ih => simp only [iter, ih, sh16_xor]
theorem iter32_xor (n : Nat) (a b : BitVec 32) : iter sh32 n (a ^^^ b) = iter sh32 n a ^^^ iter sh32 n b := by
  induction n with
  | zero => rfl
  | succ n ih => simp only [iter, ih, sh32_xor]

/-! ### a byte, a byte string -/
def by16 (r : BitVec 16) (x : Byte) : BitVec 16 := iter sh16 8 (r ^^^ (x.setWidth 16 <<< 8))
def by32 (r : BitVec 32) (x : Byte) : BitVec 32 := iter sh32 8 (r ^^^ x.setWidth 32)
def up16 (r : BitVec 16) (l : List Byte) : BitVec 16 := l.foldl by16 r
def raw32 (r : BitVec 32) (l : List Byte) : BitVec 32 := l.foldl by32 r
def up32 (c : BitVec 32) (l : List Byte) : BitVec 32 := ~~~ raw32 (~~~ c) l

theorem up16_append (r : BitVec 16) (a b : List Byte) : up16 r (a ++ b) = up16 (up16 r a) b := List.foldl_append
theorem raw32_append (r : BitVec 32) (a b : List Byte) : raw32 r (a ++ b) = raw32 (raw32 r a) b := List.foldl_append
theorem up32_append (r : BitVec 32) (a b : List Byte) : up32 r (a ++ b) = up32 (up32 r a) b := by
  unfold up32; rw [raw32_append, BitVec.not_not]

theorem up16_take (r : BitVec 16) (l : List Byte) (k : Nat) (h : k < l.length) : up16 r (l.take (k + 1)) = by16 (up16 r (l.take k)) l[k] := by
  rw [List.take_succ_eq_append_getElem h, up16_append]; rfl
theorem raw32_take (r : BitVec 32) (l : List Byte) (k : Nat) (h : k < l.length) : raw32 r (l.take (k + 1)) = by32 (raw32 r (l.take k)) l[k] := by
  rw [List.take_succ_eq_append_getElem h, raw32_append]; rfl

/-! ### a string with its checksum -/
def crcb (r : BitVec 16) : List Byte := [(r >>> 8).setWidth 8, r.setWidth 8]
def ap16 (l : List Byte) : List Byte := l ++ crcb (up16 0xffff#16 l)
def ck16 (l : List Byte) : Bool := decide (2 ≤ l.length ∧ ap16 (l.take (l.length - 2)) = l)

/-! ### bit by bit, as the chapter says it -/
def fd16 (r : BitVec 16) (b : Bool) : BitVec 16 := if r.getLsbD 15 != b then (r <<< 1) ^^^ 0x1021#16 else r <<< 1
def fd32 (r : BitVec 32) (b : Bool) : BitVec 32 := if r.getLsbD 0 != b then (r >>> 1) ^^^ 0x82f63b78#32 else r >>> 1

theorem fd16_eq (r : BitVec 16) (b : Bool) : fd16 r b = sh16 (r ^^^ (if b then 0x8000#16 else 0#16)) := by
  unfold fd16 sh16
  rw [BitVec.getLsbD_xor, BitVec.shiftLeft_xor_distrib]
  cases b <;> cases r.getLsbD 15 <;> simp
theorem fd32_eq (r : BitVec 32) (b : Bool) : fd32 r b = sh32 (r ^^^ (if b then 1#32 else 0#32)) := by
  unfold fd32 sh32
  rw [BitVec.getLsbD_xor, BitVec.ushiftRight_xor_distrib]
  cases b <;> cases r.getLsbD 0 <;> simp

/-- the register behind the first k bits of a byte, most significant first (16) or least significant first (32) -/
def fb16 (r : BitVec 16) (x : Byte) : Nat → BitVec 16
  | 0 => r
  | k + 1 => fd16 (fb16 r x k) (x.getLsbD (7 - k))
def fb32 (r : BitVec 32) (x : Byte) : Nat → BitVec 32
  | 0 => r
  | k + 1 => fd32 (fb32 r x k) (x.getLsbD k)

theorem fb16_xor (r : BitVec 16) (x : Byte) (k : Nat) : fb16 r x k = iter sh16 k r ^^^ fb16 0 x k := by
  induction k with
  | zero => simp [fb16, iter]
  | succ k ih =>
    simp only [fb16, iter]
    rw [ih, fd16_eq, fd16_eq, sh16_xor, sh16_xor, sh16_xor, BitVec.xor_assoc]
theorem fb32_xor (r : BitVec 32) (x : Byte) (k : Nat) : fb32 r x k = iter sh32 k r ^^^ fb32 0 x k := by
  induction k with
  | zero => simp [fb32, iter]
  | succ k ih =>
    simp only [fb32, iter]
    rw [ih, fd32_eq, fd32_eq, sh32_xor, sh32_xor, sh32_xor, BitVec.xor_assoc]

theorem fb16_zero : ∀ x : Byte, fb16 0 x 8 = iter sh16 8 (x.setWidth 16 <<< 8) := by decide +kernel
theorem fb32_zero : ∀ x : Byte, fb32 0 x 8 = iter sh32 8 (x.setWidth 32) := by decide +kernel

theorem fb16_all (r : BitVec 16) (x : Byte) : fb16 r x 8 = by16 r x := by rw [fb16_xor, fb16_zero, by16, iter16_xor]
theorem fb32_all (r : BitVec 32) (x : Byte) : fb32 r x 8 = by32 r x := by rw [fb32_xor, fb32_zero, by32, iter32_xor]

/-- the register behind the first k bits of a byte string -/
def fbs16 (r : BitVec 16) (l : List Byte) : Nat → BitVec 16
  | 0 => r
  | k + 1 => fd16 (fbs16 r l k) ((l[k / 8]?.getD 0#8).getLsbD (7 - k % 8))

theorem fbs16_byte (r : BitVec 16) (l : List Byte) (m : Nat) (hm : m < l.length) (h : fbs16 r l (8 * m) = up16 r (l.take m)) (j : Nat) (hj : j ≤ 8) :
    fbs16 r l (8 * m + j) = fb16 (up16 r (l.take m)) l[m] j := by
  induction j with
  | zero => exact h
  | succ j ih =>
    show fd16 (fbs16 r l (8 * m + j)) ((l[(8 * m + j) / 8]?.getD 0#8).getLsbD (7 - (8 * m + j) % 8)) = _
    rw [ih (by omega), show (8 * m + j) / 8 = m by omega, show (8 * m + j) % 8 = j by omega, List.getElem?_eq_getElem hm]
    rfl
theorem fbs16_all (r : BitVec 16) (l : List Byte) (m : Nat) (hm : m ≤ l.length) : fbs16 r l (8 * m) = up16 r (l.take m) := by
  induction m with
  | zero => rfl
  | succ m ih => rw [Nat.mul_succ, fbs16_byte r l m (by omega) (ih (by omega)) 8 (by omega), fb16_all, up16_take r l m (by omega)]

/-! ### linear -/
theorem by16_xor (a b : BitVec 16) (x y : Byte) : by16 (a ^^^ b) (x ^^^ y) = by16 a x ^^^ by16 b y := by
  unfold by16
  rw [BitVec.setWidth_xor, BitVec.shiftLeft_xor_distrib, ← iter16_xor]
  congr 1
  rw [BitVec.xor_assoc, ← BitVec.xor_assoc b, BitVec.xor_comm b, BitVec.xor_assoc, ← BitVec.xor_assoc a]
theorem by32_xor (a b : BitVec 32) (x y : Byte) : by32 (a ^^^ b) (x ^^^ y) = by32 a x ^^^ by32 b y := by
  unfold by32
  rw [BitVec.setWidth_xor, ← iter32_xor]
  congr 1
  rw [BitVec.xor_assoc, ← BitVec.xor_assoc b, BitVec.xor_comm b, BitVec.xor_assoc, ← BitVec.xor_assoc a]

def xors (a b : List Byte) : List Byte := List.zipWith (· ^^^ ·) a b

theorem up16_xor (l m : List Byte) (h : l.length = m.length) (a b : BitVec 16) : up16 (a ^^^ b) (xors l m) = up16 a l ^^^ up16 b m := by
  induction l generalizing m a b with
  | nil => cases m with
    | nil => rfl
    | cons => simp at h
  | cons x l ih => cases m with
    | nil => simp at h
    | cons y m =>
      show up16 (by16 (a ^^^ b) (x ^^^ y)) (xors l m) = up16 (by16 a x) l ^^^ up16 (by16 b y) m
      rw [by16_xor, ih m (by simpa using h)]
theorem raw32_xor (l m : List Byte) (h : l.length = m.length) (a b : BitVec 32) : raw32 (a ^^^ b) (xors l m) = raw32 a l ^^^ raw32 b m := by
  induction l generalizing m a b with
  | nil => cases m with
    | nil => rfl
    | cons => simp at h
  | cons x l ih => cases m with
    | nil => simp at h
    | cons y m =>
      show raw32 (by32 (a ^^^ b) (x ^^^ y)) (xors l m) = raw32 (by32 a x) l ^^^ raw32 (by32 b y) m
      rw [by32_xor, ih m (by simpa using h)]

end Go.Proofs.Ytdjopkfibfgjeaa
