/-
  Plain mathematics of bit fields, no Go in sight: the bits of a number, of a byte string; a byte string that packs a list of bits; numbers that are read out of a byte string.
-/
import Derived.Test.YtcmonalnhdodmaaBytes
import Derived.Laws.Shifts
namespace Go.Proofs.Ytcmonalnhdodmaa

theorem getD_app {α : Type} (l m : List α) (k : Nat) (d : α) : (l ++ m).getD k d = if k < l.length then l.getD k d else m.getD (k - l.length) d := by
  rw [List.getD_eq_getElem?_getD, List.getElem?_append]
  split <;> rw [List.getD_eq_getElem?_getD]

/-- bit k of a byte string, the most significant bit of the first byte first -/
def bitAt (bs : List Byte) (k : Nat) : Bool := (bs.getD (k / 8) 0#8).getLsbD (7 - k % 8)

/-- the low w bits of n, the most significant one first -/
def bitsOf (n : Nat) : Nat → List Bool
  | 0 => []
  | k + 1 => n.testBit k :: bitsOf n k

theorem bitsOf_len (n w : Nat) : (bitsOf n w).length = w := by
  induction w with
  | zero => rfl
  | succ w ih => simp [bitsOf, ih]
theorem bitsOf_add (n a b : Nat) : bitsOf n (a + b) = bitsOf (n / 2 ^ b) a ++ bitsOf n b := by
  induction a with
  | zero => simp [bitsOf]
  | succ a ih =>
    rw [Nat.succ_add]
    simp only [bitsOf, List.cons_append, ih, Nat.testBit_div_two_pow]
theorem bitsOf_getD (n w j : Nat) : (bitsOf n w).getD j false = (decide (j < w) && n.testBit (w - 1 - j)) := by
  induction w generalizing j with
  | zero => simp [bitsOf]
  | succ w ih =>
    cases j with
    | zero => simp [bitsOf]
    | succ j =>
      rw [bitsOf, List.getD_cons_succ, ih]
      have e : w + 1 - 1 - (j + 1) = w - 1 - j := by omega
      rw [e]
      simp

theorem bitsOf_mod (n w : Nat) : bitsOf (n % 2 ^ w) w = bitsOf n w := by
  refine List.ext_getElem (by simp [bitsOf_len]) fun j h1 h2 => ?_
  have e1 := bitsOf_getD (n % 2 ^ w) w j
  have e2 := bitsOf_getD n w j
  rw [List.getD_eq_getElem?_getD, List.getElem?_eq_getElem h1, Option.getD_some] at e1
  rw [List.getD_eq_getElem?_getD, List.getElem?_eq_getElem h2, Option.getD_some] at e2
  rw [bitsOf_len] at h1
  rw [e1, e2, Nat.testBit_mod_two_pow]
  have : w - 1 - j < w := by omega
  simp [this]

/-- bs holds the bits L and then fr zero bits -/
structure Room (bs : List Byte) (L : List Bool) (fr : Nat) : Prop where
  len : 8 * bs.length = L.length + fr
  le : fr ≤ 8
  bit : ∀ k, bitAt bs k = L.getD k false

/-- bs is L, filled with zero bits to whole bytes -/
structure Packs (bs : List Byte) (L : List Bool) : Prop where
  len : bs.length = (L.length + 7) / 8
  bit : ∀ k, bitAt bs k = L.getD k false

theorem Room.packs {bs : List Byte} {L : List Bool} {fr : Nat} (h : Room bs L fr) (hf : fr < 8) : Packs bs L := ⟨by have := h.len; omega, h.bit⟩
theorem room_nil : Room [] [] 0 := ⟨rfl, by omega, fun k => by simp [bitAt]⟩
theorem packs_nil : Packs [] [] := ⟨rfl, fun k => by simp [bitAt]⟩

theorem Packs.unique {bs cs : List Byte} {L : List Bool} (h : Packs bs L) (k : Packs cs L) : bs = cs := by
  refine List.ext_getElem (by rw [h.len, k.len]) fun i h1 h2 => ?_
  refine BitVec.eq_of_getLsbD_eq fun j hj => ?_
  have e := (h.bit (8 * i + (7 - j))).trans (k.bit (8 * i + (7 - j))).symm
  unfold bitAt at e
  rw [show (8 * i + (7 - j)) / 8 = i by omega, show 7 - (8 * i + (7 - j)) % 8 = j by omega] at e
  simpa [List.getD_eq_getElem?_getD, h1, h2] using e

theorem bitAt_app (bs cs : List Byte) (k : Nat) : bitAt (bs ++ cs) k = if k < 8 * bs.length then bitAt bs k else bitAt cs (k - 8 * bs.length) := by
  unfold bitAt
  split
  · rw [getD_app, if_pos (by omega)]
  · rw [getD_app, if_neg (by omega), show k / 8 - bs.length = (k - 8 * bs.length) / 8 by omega, show k % 8 = (k - 8 * bs.length) % 8 by omega]
theorem bitAt_zero (k : Nat) : bitAt [0#8] k = false := by
  unfold bitAt
  cases h : k / 8 <;> simp
theorem bitAt_set (bs : List Byte) (i : Nat) (x : Byte) (k : Nat) (hi : i < bs.length) : bitAt (bs.set i x) k = if k / 8 = i then x.getLsbD (7 - k % 8) else bitAt bs k := by
  unfold bitAt
  rw [List.getD_eq_getElem?_getD, List.getElem?_set]
  split
  · rename_i h
    rw [if_pos h.symm]
    simp
  · rename_i h
    rw [if_neg (fun e => h e.symm), List.getD_eq_getElem?_getD]

theorem Room.grow {bs : List Byte} {L : List Bool} (h : Room bs L 0) : Room (bs ++ [0#8]) L 8 := by
  refine ⟨by have := h.len; simp; omega, by omega, fun k => ?_⟩
  rw [bitAt_app, bitAt_zero, h.bit]
  split
  · rfl
  · rw [List.getD_eq_getElem?_getD, List.getElem?_eq_none (by have := h.len; omega)]; rfl

theorem Room.put {bs : List Byte} {L : List Bool} {fr size m : Nat} (h : Room bs L fr) (hs : size ≤ fr) (hf : 0 < fr) (x piece : Byte) (hx : bs[bs.length - 1]? = some x)
    (hp : ∀ i, piece.getLsbD i = (decide (i < size) && m.testBit i)) :
    Room (bs.set (bs.length - 1) (x ||| (piece <<< (fr - size)))) (L ++ bitsOf m size) (fr - size) := by
  have hl := h.len
  have hle := h.le
  have hx0 : bs.length - 1 < bs.length := by omega
  refine ⟨by simp [bitsOf_len]; omega, by omega, fun k => ?_⟩
  rw [bitAt_set _ _ _ _ hx0]
  have hb := h.bit k
  have hxx : bs.getD (bs.length - 1) 0#8 = x := by rw [List.getD_eq_getElem?_getD, hx]; rfl
  rw [List.getD_eq_getElem?_getD, List.getElem?_append]
  by_cases hk : k < L.length
  · rw [if_pos hk, ← List.getD_eq_getElem?_getD, ← hb]
    split
    · rename_i h8
      unfold bitAt
      rw [h8, hxx, BitVec.getLsbD_or, BitVec.getLsbD_shiftLeft, hp]
      have : ¬ (7 - k % 8 - (fr - size) < size) := by omega
      simp [this]
    · rfl
  · rw [if_neg hk, ← List.getD_eq_getElem?_getD, bitsOf_getD]
    have hz : bitAt bs k = false := by rw [hb, List.getD_eq_getElem?_getD, List.getElem?_eq_none (by omega)]; rfl
    split
    · rename_i h8
      unfold bitAt at hz
      rw [h8, hxx] at hz
      rw [BitVec.getLsbD_or, BitVec.getLsbD_shiftLeft, hp, hz, Bool.false_or]
      by_cases hj : k - L.length < size
      · have e1 : ¬ (7 - k % 8 < fr - size) := by omega
        have e2 : 7 - k % 8 - (fr - size) < size := by omega
        have e3 : 7 - k % 8 - (fr - size) = size - 1 - (k - L.length) := by omega
        have e4 : 7 - k % 8 < 8 := by omega
        simp only [hj, e1, e3, e4]
        have e5 : size - 1 - (k - L.length) < size := by omega
        simp [e5]
      · have e1 : 7 - k % 8 < fr - size := by omega
        simp [hj, e1]
    · rw [hz]
      have e1 : ¬ (k - L.length < size) := by omega
      simp [e1]

/-! ### numbers out of a byte string -/
def numAt (bs : List Byte) (p : Nat) : Nat → Nat
  | 0 => 0
  | w + 1 => 2 * numAt bs p w + (bitAt bs (p + w)).toNat
theorem numAt_lt (bs : List Byte) (p w : Nat) : numAt bs p w < 2 ^ w := by
  induction w with
  | zero => simp [numAt]
  | succ w ih =>
    have := Bool.toNat_le (bitAt bs (p + w))
    simp only [numAt, Nat.pow_succ]
    omega
theorem numAt_add (bs : List Byte) (p a b : Nat) : numAt bs p (a + b) = numAt bs p a * 2 ^ b + numAt bs (p + a) b := by
  induction b with
  | zero => simp [numAt]
  | succ b ih =>
    rw [← Nat.add_assoc]
    simp only [numAt, ih, Nat.add_assoc, Nat.pow_succ]
    rw [Nat.mul_add, ← Nat.mul_assoc, Nat.mul_comm 2 (numAt bs p a), Nat.mul_assoc, Nat.mul_comm 2 (2 ^ b), Nat.add_assoc]
theorem numAt_testBit (bs : List Byte) (p w i : Nat) : (numAt bs p w).testBit i = (decide (i < w) && bitAt bs (p + (w - 1 - i))) := by
  induction w generalizing i with
  | zero => simp [numAt]
  | succ w ih =>
    cases i with
    | zero =>
      simp only [numAt, Nat.testBit_zero]
      have : (2 * numAt bs p w + (bitAt bs (p + w)).toNat) % 2 = (bitAt bs (p + w)).toNat := by
        have := Bool.toNat_le (bitAt bs (p + w))
        omega
      rw [this]
      cases hb : bitAt bs (p + w) <;> simp [hb]
    | succ i =>
      rw [Nat.testBit_succ]
      have e : numAt bs p (w + 1) / 2 = numAt bs p w := by
        have := Bool.toNat_le (bitAt bs (p + w))
        simp only [numAt]; omega
      rw [e, ih]
      have e2 : w + 1 - 1 - (i + 1) = w - 1 - i := by omega
      rw [e2]
      simp
/-- a piece of one byte -/
theorem numAt_piece (bs : List Byte) (p s : Nat) (x : Byte) (hs : p % 8 + s ≤ 8) (hx : bs[p / 8]? = some x) : x.toNat * 2 ^ (p % 8) % 256 / 2 ^ (8 - s) = numAt bs p s := by
  refine Nat.eq_of_testBit_eq fun i => ?_
  rw [numAt_testBit, Nat.testBit_div_two_pow, show 256 = 2 ^ 8 from rfl, Nat.testBit_mod_two_pow, Nat.testBit_mul_two_pow, Nat.add_comm i (8 - s)]
  by_cases hi : i < s
  · have e1 : 8 - s + i < 8 := by omega
    have e2 : p % 8 ≤ 8 - s + i := by omega
    simp only [hi, e1, e2, decide_true, Bool.true_and]
    unfold bitAt
    rw [show (p + (s - 1 - i)) / 8 = p / 8 by omega, List.getD_eq_getElem?_getD, hx, show 7 - (p + (s - 1 - i)) % 8 = 8 - s + i - p % 8 by omega]
    rfl
  · have e1 : ¬ (8 - s + i < 8) := by omega
    simp [hi, e1]
/-- one bit of one byte -/
theorem bitAt_byte (bs : List Byte) (p : Nat) (x : Byte) (hx : bs[p / 8]? = some x) : x.toNat / 2 ^ (7 - p % 8) % 2 = (bitAt bs p).toNat := by
  unfold bitAt
  rw [List.getD_eq_getElem?_getD, hx, Option.getD_some]
  have := Nat.toNat_testBit x.toNat (7 - p % 8)
  rw [← this]
  rfl

/-- what was put is read back -/
theorem numAt_bits {bs : List Byte} {pre post : List Bool} {n w : Nat} (h : ∀ k, bitAt bs k = (pre ++ bitsOf n w ++ post).getD k false) : numAt bs pre.length w = n % 2 ^ w := by
  refine Nat.eq_of_testBit_eq fun i => ?_
  rw [numAt_testBit, Nat.testBit_mod_two_pow]
  by_cases hi : i < w
  · rw [h, List.append_assoc, getD_app, if_neg (by omega), getD_app, if_pos (by rw [bitsOf_len]; omega), bitsOf_getD]
    have e1 : pre.length + (w - 1 - i) - pre.length = w - 1 - i := by omega
    have e2 : w - 1 - (w - 1 - i) = i := by omega
    have e3 : w - 1 - i < w := by omega
    rw [e1, e2]
    simp [hi, e3]
  · simp [hi]
theorem numAt_zero {bs : List Byte} {p w : Nat} (h : ∀ k, p ≤ k → bitAt bs k = false) : numAt bs p w = 0 := by
  induction w with
  | zero => rfl
  | succ w ih => simp [numAt, ih, h (p + w) (by omega)]

/-! ### numbers of the walk -/
theorem u8_or (x y : Byte) : bits .or .u8 (x.toNat : Int) (y.toNat : Int) = ((x ||| y).toNat : Int) := by
  rw [u8_or_nat _ _ x.isLt y.isLt, BitVec.toNat_or]
theorem u8_shl (x : Byte) (n : Nat) : IntKind.u8.wrap ((x.toNat : Int) * 2 ^ n) = ((x <<< n).toNat : Int) := by
  have e : ((x.toNat : Int) * 2 ^ n) = ((x.toNat * 2 ^ n : Nat) : Int) := by rw [Int.natCast_mul, Int.natCast_pow]; rfl
  rw [IntKind.wrap_u8, BitVec.toNat_shiftLeft, Nat.shiftLeft_eq, e]
  generalize x.toNat * 2 ^ n = q
  show (q : Int) % 256 = ((q % 256 : Nat) : Int)
  omega
theorem div_nat (n : BitVec 64) (j : Nat) : (n.toNat : Int) / 2 ^ j = ((n.toNat / 2 ^ j : Nat) : Int) := by
  rw [Int.natCast_ediv, Int.natCast_pow]; rfl
/-- the low s bits of q, as a byte -/
def piece (q s : Nat) : Byte := BitVec.ofNat 8 (q % 2 ^ s)
theorem piece_bit (q s : Nat) (hs : s ≤ 8) (i : Nat) : (piece q s).getLsbD i = (decide (i < s) && q.testBit i) := by
  unfold piece
  rw [BitVec.getLsbD_ofNat, Nat.testBit_mod_two_pow]
  by_cases h : i < s
  · have : i < 8 := by omega
    simp [h, this]
  · simp [h]
theorem piece_nat (q s : Nat) (hs : s ≤ 8) : (piece q s).toNat = q % 2 ^ s := by
  unfold piece
  rw [BitVec.toNat_ofNat]
  refine Nat.mod_eq_of_lt (Nat.lt_of_lt_of_le (Nat.mod_lt _ (Nat.two_pow_pos s)) (Nat.pow_le_pow_right (by decide) hs))
theorem mask_of (s : Nat) (hs : s ≤ 8) : (255 : Int) / 2 ^ (8 - s) = 2 ^ s - 1 := by
  match s, hs with
  | 0, _ | 1, _ | 2, _ | 3, _ | 4, _ | 5, _ | 6, _ | 7, _ | 8, _ => decide
theorem dvd_256 (s : Nat) (hs : s ≤ 8) : (2 : Int) ^ s ∣ 256 := by
  match s, hs with
  | 0, _ | 1, _ | 2, _ | 3, _ | 4, _ | 5, _ | 6, _ | 7, _ | 8, _ => decide
theorem piece_walk (q s : Nat) (hs : s ≤ 8) : bits .and .u8 (IntKind.u8.wrap (q : Int)) (255 / 2 ^ (8 - s)) = ((piece q s).toNat : Int) := by
  rw [mask_of s hs, IntKind.wrap_u8, piece_nat q s hs]
  rw [bits_mask .u8 8 (by decide) wraps_u8 s hs _ (by omega) (by omega)]
  have e : ((q % 2 ^ s : Nat) : Int) = (q : Int) % 2 ^ s := by rw [Int.natCast_emod, Int.natCast_pow]; rfl
  rw [e]
  exact Int.emod_emod_of_dvd _ (dvd_256 s hs)

end Go.Proofs.Ytcmonalnhdodmaa
