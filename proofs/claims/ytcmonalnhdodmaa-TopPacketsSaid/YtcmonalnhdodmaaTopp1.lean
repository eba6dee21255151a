/-
  Bytes BitsMath PacMath UnpMath Own Cel RowH RowK Mid Base PacW0 PacW1 Clone BitsW0 BitsW1 Hand PacW2 BitsR0 BitsR1 PacW3, one after another.
-/
import Derived.Laws.BitsAllLaws
import Derived.WalkKit
import Derived.WalkSpells
import Derived.Laws.Shifts
import Derived.Maps.AppendAt
import Derived.Laws.OwnMore
import Derived.Laws.IdiomStrings
import Derived.Lib.BufferRead
import Derived.OneCell
import Derived.Deep.Draws
import Derived.OwnWalk
import Derived.Laws.CopyRow
import Derived.Laws.CopyOwn
import Derived.Laws.IdiomCopy
import Derived.Lib.AppendZeros
import Derived.Lib.Overlaps
import Derived.Deep.RegionLaw
import Derived.ArgAppend
import Derived.Test.YtcmonalnhdodmaaRows
import Derived.WalkLawsBesides
import Derived.Lib.Hide
import Derived.Deep.QuietTactic
import Derived.BigQuiet
import Derived.BigRegion
import Derived.Deep.DeepCutAuto
import Derived.Deep.LoopGhost
import Derived.Deep.RegionHeld3

/-
  A byte slice that reads as a list of bytes, and the small laws that a walk over it wants. No dump is imported.
-/
namespace Go.Proofs.Ytcmonalnhdodmaa
open Go.RowKit

abbrev Byte := BitVec 8
abbrev B8 (x : Byte) : Value := .int .u8 (x.toNat : Int)

/-- 'a' leads to the bytes l, all below block B; of the empty list nothing is asked. -/
def Bs (w : World) (B : Nat) (a : Option Addr) (l : List Byte) : Prop :=
  0 < l.length → ∃ b off, a = some ⟨b, off, none⟩ ∧ b < B ∧ ∀ i x, l[i]? = some x → w.cell? ⟨b, off + i, none⟩ = some (B8 x)

section
variable {w w' : World} {B B' : Nat} {a : Option Addr} {l : List Byte}
theorem Bs.nil_ : Bs w B a [] := fun h => absurd h (by simp)
theorem Bs.keep (h : Bs w B a l) (hk : ∀ p : Addr, p.block < B → w'.cell? p = w.cell? p) : Bs w' B a l := fun hl => by
  obtain ⟨b, off, rfl, hb, hc⟩ := h hl
  exact ⟨b, off, rfl, hb, fun i x hx => (hk ⟨b, off + i, none⟩ hb).trans (hc i x hx)⟩
theorem Bs.below (h : Bs w B a l) (hb : Below B w w') : Bs w' B a l := h.keep fun _ hp => hb.cell hp
theorem Bs.more (h : Bs w B a l) (hB : B ≤ B') : Bs w B' a l := fun hl => by
  obtain ⟨b, off, rfl, hb, hc⟩ := h hl
  exact ⟨b, off, rfl, by omega, hc⟩
theorem Bs.at_ (h : Bs w B a l) {k : Nat} (hk : k < l.length) : ∃ b off, a = some ⟨b, off, none⟩ ∧ b < B ∧ w.cell? ⟨b, off + k, none⟩ = some (B8 l[k]) := by
  obtain ⟨b, off, rfl, hb, hc⟩ := h (by omega)
  exact ⟨b, off, rfl, hb, hc k _ (List.getElem?_eq_getElem hk)⟩
theorem Bs.take (h : Bs w B a l) (n : Nat) : Bs w B a (l.take n) := fun hl => by
  obtain ⟨b, off, rfl, hb, hc⟩ := h (by simp at hl; omega)
  refine ⟨b, off, rfl, hb, fun i x hx => hc i x ?_⟩
  rw [List.getElem?_take] at hx
  split at hx
  · exact hx
  · cases hx
end

/-! ### numbers of the walk as bit vectors -/
theorem b16_and (a b : BitVec 16) : bits .and .u16 (a.toNat : Int) (b.toNat : Int) = ((a &&& b).toNat : Int) := by
  rw [u16_and_nat _ _ a.isLt b.isLt, BitVec.toNat_and]
theorem b16_xor (a b : BitVec 16) : bits .xor .u16 (a.toNat : Int) (b.toNat : Int) = ((a ^^^ b).toNat : Int) := by
  rw [u16_xor_nat _ _ a.isLt b.isLt, BitVec.toNat_xor]
theorem b16_or (a b : BitVec 16) : bits .or .u16 (a.toNat : Int) (b.toNat : Int) = ((a ||| b).toNat : Int) := by
  rw [u16_or_nat _ _ a.isLt b.isLt, BitVec.toNat_or]
theorem b32_and (a b : BitVec 32) : bits .and .u32 (a.toNat : Int) (b.toNat : Int) = ((a &&& b).toNat : Int) := by
  rw [u32_and_nat _ _ a.isLt b.isLt, BitVec.toNat_and]
theorem b32_xor (a b : BitVec 32) : bits .xor .u32 (a.toNat : Int) (b.toNat : Int) = ((a ^^^ b).toNat : Int) := by
  rw [u32_xor_nat _ _ a.isLt b.isLt, BitVec.toNat_xor]
theorem b16_shl (a : BitVec 16) (n : Nat) : IntKind.u16.wrap ((a.toNat : Int) * 2 ^ n) = ((a <<< n).toNat : Int) := by
  have e : ((a.toNat : Int) * 2 ^ n) = ((a.toNat * 2 ^ n : Nat) : Int) := by rw [Int.natCast_mul, Int.natCast_pow]; rfl
  rw [IntKind.wrap_u16, BitVec.toNat_shiftLeft, Nat.shiftLeft_eq, e]
  generalize a.toNat * 2 ^ n = q
  show (q : Int) % 65536 = ((q % 65536 : Nat) : Int)
  omega
theorem b16_shl1 (a : BitVec 16) : IntKind.u16.wrap ((a.toNat : Int) * 2) = ((a <<< 1).toNat : Int) := b16_shl a 1
theorem b32_shr1 (a : BitVec 32) : (a.toNat : Int) / (2 : Int) = ((a >>> 1).toNat : Int) := by
  rw [BitVec.toNat_ushiftRight, Nat.shiftRight_eq_div_pow]
  show (a.toNat : Int) / 2 = ((a.toNat / 2 : Nat) : Int)
  omega

theorem b32_not (a : BitVec 32) : bits .xor .u32 IntKind.u32.max (a.toNat : Int) = ((~~~ a).toNat : Int) := by
  have e := b32_xor (BitVec.allOnes 32) a
  rw [BitVec.allOnes_xor] at e
  exact e
theorem and_top (r : BitVec 16) : r &&& 0x8000#16 = if r.getLsbD 15 then 0x8000#16 else 0#16 := BitVec.and_twoPow r 15
theorem and_low (r : BitVec 32) : r &&& 1#32 = if r.getLsbD 0 then 1#32 else 0#32 := BitVec.and_twoPow r 0

/-! ### an argument: what the row's shell tells of a slice of integers that came in -/
def IsRow (k : IntKind) (w : World) (a : Option Addr) (len cap : Nat) (zs : List Int) : Prop :=
  (a = none ∧ len = 0 ∧ cap = 0 ∧ zs = []) ∨
  ∃ x, a = some x ∧ len ≤ cap ∧ cap ≤ maxLen ∧ zs.length = cap ∧ (∀ i, i < zs.length → w.cell? (x.add i) = some (.int k (zs.getD i 0))) ∧ ∀ n ∈ zs, (Lit.int k n).wf = true

theorem lt_of_cell {w : World} {p : Addr} {v : Value} (h : w.cell? p = some v) : p.block < w.heap.size := by
  rcases Nat.lt_or_ge p.block w.heap.size with h' | h'
  · exact h'
  · simp [World.cell?, Array.getElem?_eq_none h'] at h

theorem u8_bounds {n : Int} (h : (Lit.int .u8 n).wf = true) : 0 ≤ n ∧ n < 256 := by
  have := (by simpa [Lit.wf, IntKind.min, IntKind.max, IntKind.bits, IntKind.signed] using h : _ ∧ _)
  omega
theorem u16_bounds {n : Int} (h : (Lit.int .u16 n).wf = true) : 0 ≤ n ∧ n < 65536 := by
  have := (by simpa [Lit.wf, IntKind.min, IntKind.max, IntKind.bits, IntKind.signed] using h : _ ∧ _)
  omega
theorem u32_bounds {n : Int} (h : (Lit.int .u32 n).wf = true) : 0 ≤ n ∧ n < 4294967296 := by
  have := (by simpa [Lit.wf, IntKind.min, IntKind.max, IntKind.bits, IntKind.signed] using h : _ ∧ _)
  omega

theorem i64_bounds {n : Int} (h : (Lit.int .i64 n).wf = true) : -9223372036854775808 ≤ n ∧ n ≤ 9223372036854775807 := by
  have := (by simpa [Lit.wf, IntKind.min, IntKind.max, IntKind.bits, IntKind.signed] using h : _ ∧ _)
  omega
theorem u64_bounds {n : Int} (h : (Lit.int .u64 n).wf = true) : 0 ≤ n ∧ n < 18446744073709551616 := by
  have := (by simpa [Lit.wf, IntKind.min, IntKind.max, IntKind.bits, IntKind.signed] using h : _ ∧ _)
  omega
theorem of_u64 {n : Int} (h : (Lit.int .u64 n).wf = true) : ∃ r : BitVec 64, n = (r.toNat : Int) := by
  have := u64_bounds h
  exact ⟨BitVec.ofNat 64 n.toNat, by rw [BitVec.toNat_ofNat, Nat.mod_eq_of_lt (by omega)]; omega⟩
theorem of_u8 {n : Int} (h : (Lit.int .u8 n).wf = true) : ∃ r : BitVec 8, n = (r.toNat : Int) := by
  have := u8_bounds h
  exact ⟨BitVec.ofNat 8 n.toNat, by rw [BitVec.toNat_ofNat, Nat.mod_eq_of_lt (by omega)]; omega⟩
theorem of_u16 {n : Int} (h : (Lit.int .u16 n).wf = true) : ∃ r : BitVec 16, n = (r.toNat : Int) := by
  have := u16_bounds h
  exact ⟨BitVec.ofNat 16 n.toNat, by rw [BitVec.toNat_ofNat, Nat.mod_eq_of_lt (by omega)]; omega⟩
theorem of_u32 {n : Int} (h : (Lit.int .u32 n).wf = true) : ∃ r : BitVec 32, n = (r.toNat : Int) := by
  have := u32_bounds h
  exact ⟨BitVec.ofNat 32 n.toNat, by rw [BitVec.toNat_ofNat, Nat.mod_eq_of_lt (by omega)]; omega⟩

theorem IsRow.bytes {w : World} {a : Option Addr} {len cap : Nat} {zs : List Int} (h : IsRow .u8 w a len cap zs) :
    ∃ l : List Byte, len = l.length ∧ Bs w w.heap.size a l ∧ (a = none → cap = 0) ∧ l.length ≤ cap ∧ cap ≤ maxLen := by
  rcases h with ⟨rfl, rfl, rfl, rfl⟩ | ⟨x, rfl, hl, hm, hz, hc, hw⟩
  · exact ⟨[], rfl, Bs.nil_, fun _ => rfl, by simp, by simp⟩
  · refine ⟨(zs.take len).map fun n => BitVec.ofNat 8 n.toNat, by simp; omega, fun hpos => ?_, by simp, by simp; omega, hm⟩
    have h0 := hc 0 (by simp at hpos; omega)
    obtain ⟨b, off, spot⟩ := x
    have hs : spot = none := by simpa [Addr.add] using World.cell?_spot h0
    subst hs
    refine ⟨b, off, rfl, lt_of_cell h0, fun i y hy => ?_⟩
    rw [List.getElem?_map, List.getElem?_take] at hy
    split at hy
    · rename_i hi
      have hzi : i < zs.length := by omega
      rw [List.getElem?_eq_getElem hzi] at hy
      injection hy with hy
      have hb := u8_bounds (hw zs[i] (List.getElem_mem hzi))
      have e : (y.toNat : Int) = zs[i] := by
        rw [← hy, BitVec.toNat_ofNat, Nat.mod_eq_of_lt (by omega)]; omega
      have := hc i hzi
      rw [List.getD_eq_getElem?_getD, List.getElem?_eq_getElem hzi] at this
      show _ = some (Value.int .u8 (y.toNat : Int))
      rw [e]
      by_cases h1 : i = 0
      · subst h1; simpa [Addr.add] using this
      · simpa [Addr.add, h1] using this
    · cases hy

end Go.Proofs.Ytcmonalnhdodmaa

/-
  Plain mathematics of bit fields, no Go in sight: the bits of a number, of a byte string; a byte string that packs a list of bits; numbers that are read out of a byte string.
-/
namespace Go.Proofs.Ytcmonalnhdodmaa

theorem getD_app {α : Type} (l m : List α) (k : Nat) (d : α) : (l ++ m).getD k d = if k < l.length then l.getD k d else m.getD (k - l.length) d := by
  rw [List.getD_eq_getElem?_getD, List.getElem?_append]
  split <;> rw [List.getD_eq_getElem?_getD]

/-- bit k of a byte string, the most significant bit of the first byte first -/
def bitAt (bs : List Byte) (k : Nat) : Bool := (bs.getD (k / 8) 0#8).getLsbD (7 - k % 8)

/-- the low w bits of n, the most significant one first -/
def bitsOf (n : Nat) : Nat → List Bool
  | 0 => []
  | k + 1 => n.testBit k :: bitsOf n k

theorem bitsOf_len (n w : Nat) : (bitsOf n w).length = w := by
  induction w with
  | zero => rfl
  | succ w ih => simp [bitsOf, ih]
theorem bitsOf_add (n a b : Nat) : bitsOf n (a + b) = bitsOf (n / 2 ^ b) a ++ bitsOf n b := by
  induction a with
  | zero => simp [bitsOf]
  | succ a ih =>
    rw [Nat.succ_add]
    simp only [bitsOf, List.cons_append, ih, Nat.testBit_div_two_pow]
theorem bitsOf_getD (n w j : Nat) : (bitsOf n w).getD j false = (decide (j < w) && n.testBit (w - 1 - j)) := by
  induction w generalizing j with
  | zero => simp [bitsOf]
  | succ w ih =>
    cases j with
    | zero => simp [bitsOf]
    | succ j =>
      rw [bitsOf, List.getD_cons_succ, ih]
      have e : w + 1 - 1 - (j + 1) = w - 1 - j := by omega
      rw [e]
      simp

theorem bitsOf_mod (n w : Nat) : bitsOf (n % 2 ^ w) w = bitsOf n w := by
  refine List.ext_getElem (by simp [bitsOf_len]) fun j h1 h2 => ?_
  have e1 := bitsOf_getD (n % 2 ^ w) w j
  have e2 := bitsOf_getD n w j
  rw [List.getD_eq_getElem?_getD, List.getElem?_eq_getElem h1, Option.getD_some] at e1
  rw [List.getD_eq_getElem?_getD, List.getElem?_eq_getElem h2, Option.getD_some] at e2
  rw [bitsOf_len] at h1
  rw [e1, e2, Nat.testBit_mod_two_pow]
  have : w - 1 - j < w := by omega
  simp [this]

/-- bs holds the bits L and then fr zero bits -/
structure Room (bs : List Byte) (L : List Bool) (fr : Nat) : Prop where
  len : 8 * bs.length = L.length + fr
  le : fr ≤ 8
  bit : ∀ k, bitAt bs k = L.getD k false

/-- bs is L, filled with zero bits to whole bytes -/
structure Packs (bs : List Byte) (L : List Bool) : Prop where
  len : bs.length = (L.length + 7) / 8
  bit : ∀ k, bitAt bs k = L.getD k false

theorem Room.packs {bs : List Byte} {L : List Bool} {fr : Nat} (h : Room bs L fr) (hf : fr < 8) : Packs bs L := ⟨by have := h.len; omega, h.bit⟩
theorem room_nil : Room [] [] 0 := ⟨rfl, by omega, fun k => by simp [bitAt]⟩
theorem packs_nil : Packs [] [] := ⟨rfl, fun k => by simp [bitAt]⟩

theorem Packs.unique {bs cs : List Byte} {L : List Bool} (h : Packs bs L) (k : Packs cs L) : bs = cs := by
  refine List.ext_getElem (by rw [h.len, k.len]) fun i h1 h2 => ?_
  refine BitVec.eq_of_getLsbD_eq fun j hj => ?_
  have e := (h.bit (8 * i + (7 - j))).trans (k.bit (8 * i + (7 - j))).symm
  unfold bitAt at e
  rw [show (8 * i + (7 - j)) / 8 = i by omega, show 7 - (8 * i + (7 - j)) % 8 = j by omega] at e
  simpa [List.getD_eq_getElem?_getD, h1, h2] using e

theorem bitAt_app (bs cs : List Byte) (k : Nat) : bitAt (bs ++ cs) k = if k < 8 * bs.length then bitAt bs k else bitAt cs (k - 8 * bs.length) := by
  unfold bitAt
  split
  · rw [getD_app, if_pos (by omega)]
  · rw [getD_app, if_neg (by omega), show k / 8 - bs.length = (k - 8 * bs.length) / 8 by omega, show k % 8 = (k - 8 * bs.length) % 8 by omega]
theorem bitAt_zero (k : Nat) : bitAt [0#8] k = false := by
  unfold bitAt
  cases h : k / 8 <;> simp
theorem bitAt_set (bs : List Byte) (i : Nat) (x : Byte) (k : Nat) (hi : i < bs.length) : bitAt (bs.set i x) k = if k / 8 = i then x.getLsbD (7 - k % 8) else bitAt bs k := by
  unfold bitAt
  rw [List.getD_eq_getElem?_getD, List.getElem?_set]
  split
  · rename_i h
    rw [if_pos h.symm]
    simp
  · rename_i h
    rw [if_neg (fun e => h e.symm), List.getD_eq_getElem?_getD]

theorem Room.grow {bs : List Byte} {L : List Bool} (h : Room bs L 0) : Room (bs ++ [0#8]) L 8 := by
  refine ⟨by have := h.len; simp; omega, by omega, fun k => ?_⟩
  rw [bitAt_app, bitAt_zero, h.bit]
  split
  · rfl
  · rw [List.getD_eq_getElem?_getD, List.getElem?_eq_none (by have := h.len; omega)]; rfl

theorem Room.put {bs : List Byte} {L : List Bool} {fr size m : Nat} (h : Room bs L fr) (hs : size ≤ fr) (hf : 0 < fr) (x piece : Byte) (hx : bs[bs.length - 1]? = some x)
    (hp : ∀ i, piece.getLsbD i = (decide (i < size) && m.testBit i)) :
    Room (bs.set (bs.length - 1) (x ||| (piece <<< (fr - size)))) (L ++ bitsOf m size) (fr - size) := by
  have hl := h.len
  have hle := h.le
  have hx0 : bs.length - 1 < bs.length := by omega
  refine ⟨by simp [bitsOf_len]; omega, by omega, fun k => ?_⟩
  rw [bitAt_set _ _ _ _ hx0]
  have hb := h.bit k
  have hxx : bs.getD (bs.length - 1) 0#8 = x := by rw [List.getD_eq_getElem?_getD, hx]; rfl
  rw [List.getD_eq_getElem?_getD, List.getElem?_append]
  by_cases hk : k < L.length
  · rw [if_pos hk, ← List.getD_eq_getElem?_getD, ← hb]
    split
    · rename_i h8
      unfold bitAt
      rw [h8, hxx, BitVec.getLsbD_or, BitVec.getLsbD_shiftLeft, hp]
      have : ¬ (7 - k % 8 - (fr - size) < size) := by omega
      simp [this]
    · rfl
  · rw [if_neg hk, ← List.getD_eq_getElem?_getD, bitsOf_getD]
    have hz : bitAt bs k = false := by rw [hb, List.getD_eq_getElem?_getD, List.getElem?_eq_none (by omega)]; rfl
    split
    · rename_i h8
      unfold bitAt at hz
      rw [h8, hxx] at hz
      rw [BitVec.getLsbD_or, BitVec.getLsbD_shiftLeft, hp, hz, Bool.false_or]
      by_cases hj : k - L.length < size
      · have e1 : ¬ (7 - k % 8 < fr - size) := by omega
        have e2 : 7 - k % 8 - (fr - size) < size := by omega
        have e3 : 7 - k % 8 - (fr - size) = size - 1 - (k - L.length) := by omega
        have e4 : 7 - k % 8 < 8 := by omega
        simp only [hj, e1, e3, e4]
        have e5 : size - 1 - (k - L.length) < size := by omega
        simp [e5]
      · have e1 : 7 - k % 8 < fr - size := by omega
        simp [hj, e1]
    · rw [hz]
      have e1 : ¬ (k - L.length < size) := by omega
      simp [e1]

/-! ### numbers out of a byte string -/
def numAt (bs : List Byte) (p : Nat) : Nat → Nat
  | 0 => 0
  | w + 1 => 2 * numAt bs p w + (bitAt bs (p + w)).toNat
theorem numAt_lt (bs : List Byte) (p w : Nat) : numAt bs p w < 2 ^ w := by
  induction w with
  | zero => simp [numAt]
  | succ w ih =>
    have := Bool.toNat_le (bitAt bs (p + w))
    simp only [numAt, Nat.pow_succ]
    omega
theorem numAt_add (bs : List Byte) (p a b : Nat) : numAt bs p (a + b) = numAt bs p a * 2 ^ b + numAt bs (p + a) b := by
  induction b with
  | zero => simp [numAt]
  | succ b ih =>
    rw [← Nat.add_assoc]
    simp only [numAt, ih, Nat.add_assoc, Nat.pow_succ]
    rw [Nat.mul_add, ← Nat.mul_assoc, Nat.mul_comm 2 (numAt bs p a), Nat.mul_assoc, Nat.mul_comm 2 (2 ^ b), Nat.add_assoc]
theorem numAt_testBit (bs : List Byte) (p w i : Nat) : (numAt bs p w).testBit i = (decide (i < w) && bitAt bs (p + (w - 1 - i))) := by
  induction w generalizing i with
  | zero => simp [numAt]
  | succ w ih =>
    cases i with
    | zero =>
      simp only [numAt, Nat.testBit_zero]
      have : (2 * numAt bs p w + (bitAt bs (p + w)).toNat) % 2 = (bitAt bs (p + w)).toNat := by
        have := Bool.toNat_le (bitAt bs (p + w))
        omega
      rw [this]
      cases hb : bitAt bs (p + w) <;> simp [hb]
    | succ i =>
      rw [Nat.testBit_succ]
      have e : numAt bs p (w + 1) / 2 = numAt bs p w := by
        have := Bool.toNat_le (bitAt bs (p + w))
        simp only [numAt]; omega
      rw [e, ih]
      have e2 : w + 1 - 1 - (i + 1) = w - 1 - i := by omega
      rw [e2]
      simp
/-- a piece of one byte -/
theorem numAt_piece (bs : List Byte) (p s : Nat) (x : Byte) (hs : p % 8 + s ≤ 8) (hx : bs[p / 8]? = some x) : x.toNat * 2 ^ (p % 8) % 256 / 2 ^ (8 - s) = numAt bs p s := by
  refine Nat.eq_of_testBit_eq fun i => ?_
  rw [numAt_testBit, Nat.testBit_div_two_pow, show 256 = 2 ^ 8 from rfl, Nat.testBit_mod_two_pow, Nat.testBit_mul_two_pow, Nat.add_comm i (8 - s)]
  by_cases hi : i < s
  · have e1 : 8 - s + i < 8 := by omega
    have e2 : p % 8 ≤ 8 - s + i := by omega
    simp only [hi, e1, e2, decide_true, Bool.true_and]
    unfold bitAt
    rw [show (p + (s - 1 - i)) / 8 = p / 8 by omega, List.getD_eq_getElem?_getD, hx, show 7 - (p + (s - 1 - i)) % 8 = 8 - s + i - p % 8 by omega]
    rfl
  · have e1 : ¬ (8 - s + i < 8) := by omega
    simp [hi, e1]
/-- one bit of one byte -/
theorem bitAt_byte (bs : List Byte) (p : Nat) (x : Byte) (hx : bs[p / 8]? = some x) : x.toNat / 2 ^ (7 - p % 8) % 2 = (bitAt bs p).toNat := by
  unfold bitAt
  rw [List.getD_eq_getElem?_getD, hx, Option.getD_some]
  have := Nat.toNat_testBit x.toNat (7 - p % 8)
  rw [← this]
  rfl

/-- what was put is read back -/
theorem numAt_bits {bs : List Byte} {pre post : List Bool} {n w : Nat} (h : ∀ k, bitAt bs k = (pre ++ bitsOf n w ++ post).getD k false) : numAt bs pre.length w = n % 2 ^ w := by
  refine Nat.eq_of_testBit_eq fun i => ?_
  rw [numAt_testBit, Nat.testBit_mod_two_pow]
  by_cases hi : i < w
  · rw [h, List.append_assoc, getD_app, if_neg (by omega), getD_app, if_pos (by rw [bitsOf_len]; omega), bitsOf_getD]
    have e1 : pre.length + (w - 1 - i) - pre.length = w - 1 - i := by omega
    have e2 : w - 1 - (w - 1 - i) = i := by omega
    have e3 : w - 1 - i < w := by omega
    rw [e1, e2]
    simp [hi, e3]
  · simp [hi]
theorem numAt_zero {bs : List Byte} {p w : Nat} (h : ∀ k, p ≤ k → bitAt bs k = false) : numAt bs p w = 0 := by
  induction w with
  | zero => rfl
  | succ w ih => simp [numAt, ih, h (p + w) (by omega)]

/-! ### numbers of the walk -/
theorem u8_or (x y : Byte) : bits .or .u8 (x.toNat : Int) (y.toNat : Int) = ((x ||| y).toNat : Int) := by
  rw [u8_or_nat _ _ x.isLt y.isLt, BitVec.toNat_or]
theorem u8_shl (x : Byte) (n : Nat) : IntKind.u8.wrap ((x.toNat : Int) * 2 ^ n) = ((x <<< n).toNat : Int) := by
  have e : ((x.toNat : Int) * 2 ^ n) = ((x.toNat * 2 ^ n : Nat) : Int) := by rw [Int.natCast_mul, Int.natCast_pow]; rfl
  rw [IntKind.wrap_u8, BitVec.toNat_shiftLeft, Nat.shiftLeft_eq, e]
  generalize x.toNat * 2 ^ n = q
  show (q : Int) % 256 = ((q % 256 : Nat) : Int)
  omega
theorem div_nat (n : BitVec 64) (j : Nat) : (n.toNat : Int) / 2 ^ j = ((n.toNat / 2 ^ j : Nat) : Int) := by
  rw [Int.natCast_ediv, Int.natCast_pow]; rfl
/-- the low s bits of q, as a byte -/
def piece (q s : Nat) : Byte := BitVec.ofNat 8 (q % 2 ^ s)
theorem piece_bit (q s : Nat) (hs : s ≤ 8) (i : Nat) : (piece q s).getLsbD i = (decide (i < s) && q.testBit i) := by
  unfold piece
  rw [BitVec.getLsbD_ofNat, Nat.testBit_mod_two_pow]
  by_cases h : i < s
  · have : i < 8 := by omega
    simp [h, this]
  · simp [h]
theorem piece_nat (q s : Nat) (hs : s ≤ 8) : (piece q s).toNat = q % 2 ^ s := by
  unfold piece
  rw [BitVec.toNat_ofNat]
  refine Nat.mod_eq_of_lt (Nat.lt_of_lt_of_le (Nat.mod_lt _ (Nat.two_pow_pos s)) (Nat.pow_le_pow_right (by decide) hs))
theorem mask_of (s : Nat) (hs : s ≤ 8) : (255 : Int) / 2 ^ (8 - s) = 2 ^ s - 1 := by
  match s, hs with
  | 0, _ | 1, _ | 2, _ | 3, _ | 4, _ | 5, _ | 6, _ | 7, _ | 8, _ => decide
theorem dvd_256 (s : Nat) (hs : s ≤ 8) : (2 : Int) ^ s ∣ 256 := by
  match s, hs with
  | 0, _ | 1, _ | 2, _ | 3, _ | 4, _ | 5, _ | 6, _ | 7, _ | 8, _ => decide
theorem piece_walk (q s : Nat) (hs : s ≤ 8) : bits .and .u8 (IntKind.u8.wrap (q : Int)) (255 / 2 ^ (8 - s)) = ((piece q s).toNat : Int) := by
  rw [mask_of s hs, IntKind.wrap_u8, piece_nat q s hs]
  rw [bits_mask .u8 8 (by decide) wraps_u8 s hs _ (by omega) (by omega)]
  have e : ((q % 2 ^ s : Nat) : Int) = (q : Int) % 2 ^ s := by rw [Int.natCast_emod, Int.natCast_pow]; rfl
  rw [e]
  exact Int.emod_emod_of_dvd _ (dvd_256 s hs)

end Go.Proofs.Ytcmonalnhdodmaa

/-
  Plain mathematics of space packets, no Go in sight: when a packet is valid, its header's six bytes, what a header states; both ways fit.
-/
namespace Go.Proofs.Ytcmonalnhdodmaa.Pac

/-- a space packet -/
structure Pk where
  com : Bool
  sec : Bool
  ap : Int
  fl : Int
  ct : Int
  d : List Byte
deriving DecidableEq

/-- are all bytes zeros? -/
def zer (l : List Byte) : Bool := l.all fun x => decide (x = 0#8)
theorem zer_nil : zer [] = true := rfl
theorem zer_take {l : List Byte} {k : Nat} {x : Byte} (hx : l[k]? = some x) : zer (l.take (k + 1)) = (zer (l.take k) && decide (x = 0#8)) := by
  rw [List.take_add_one, hx]
  simp [zer]
theorem zer_no {l : List Byte} {k : Nat} {x : Byte} (hx : l[k]? = some x) (h : x ≠ 0#8) : zer l = false := by
  unfold zer
  rw [List.all_eq_false]
  exact ⟨x, List.mem_of_getElem? hx, by simpa using h⟩
theorem zer_rep (n : Nat) : zer (List.replicate n 0#8) = true := by simp [zer]

/-- numbers and length in range -/
def Pk.Fits (p : Pk) : Prop := 0 ≤ p.ap ∧ p.ap ≤ 2047 ∧ 0 ≤ p.fl ∧ p.fl ≤ 3 ∧ 0 ≤ p.ct ∧ p.ct ≤ 16383 ∧ 1 ≤ p.d.length ∧ p.d.length ≤ 4090
instance (p : Pk) : Decidable p.Fits := by unfold Pk.Fits; infer_instance
/-- what an idle packet must be -/
def Pk.idle (p : Pk) : Bool := !p.com && (!p.sec && (decide (p.fl = 3) && (decide (p.ct = 0) && zer p.d)))
def Pk.ok (p : Pk) : Bool := decide p.Fits && (!decide (p.ap = 2047) || p.idle)

theorem Pk.ok_no {p : Pk} (h : ¬ p.Fits) : p.ok = false := by unfold Pk.ok; rw [decide_eq_false h]; rfl
theorem Pk.ok_free {p : Pk} (h : p.Fits) (h2 : p.ap ≠ 2047) : p.ok = true := by unfold Pk.ok; rw [decide_eq_true h, decide_eq_false h2]; rfl
theorem Pk.ok_idle {p : Pk} (h : p.Fits) (h2 : p.ap = 2047) : p.ok = p.idle := by unfold Pk.ok; rw [decide_eq_true h, decide_eq_true h2]; rfl
theorem Pk.ok_fits {p : Pk} (h : p.ok = true) : p.Fits := by
  unfold Pk.ok at h
  simp only [Bool.and_eq_true, decide_eq_true_eq] at h
  exact h.1

/-- the first two bytes' number, the second two's -/
def hd1 (com sec : Bool) (A : Nat) : Nat := (if com then 4096 else 0) + (if sec then 2048 else 0) + A
def hd2 (F T : Nat) : Nat := F * 16384 + T
/-- a header of three numbers -/
def hdr (H C K : Nat) : List Byte := [BitVec.ofNat 8 (H / 256), BitVec.ofNat 8 (H % 256), BitVec.ofNat 8 (C / 256), BitVec.ofNat 8 (C % 256), BitVec.ofNat 8 (K / 256), BitVec.ofNat 8 (K % 256)]
theorem hdr_len (H C K : Nat) : (hdr H C K).length = 6 := rfl
def Pk.head (p : Pk) : List Byte := hdr (hd1 p.com p.sec p.ap.toNat) (hd2 p.fl.toNat p.ct.toNat) (p.d.length - 1)
/-- what Encode hands back -/
def Pk.enc (p : Pk) : List Byte := if p.ok then p.head ++ p.d else []
def Pk.err (p : Pk) : Int := if p.ok then 0 else 1
theorem Pk.enc_yes {p : Pk} (h : p.ok = true) : p.enc = p.head ++ p.d := by unfold Pk.enc; rw [if_pos h]
theorem Pk.enc_no {p : Pk} (h : p.ok = false) : p.enc = [] := by unfold Pk.enc; rw [h]; rfl
theorem Pk.err_yes {p : Pk} (h : p.ok = true) : p.err = 0 := by unfold Pk.err; rw [if_pos h]
theorem Pk.err_no {p : Pk} (h : p.ok = false) : p.err = 1 := by unfold Pk.err; rw [h]; rfl

/-! ### the Writer's bits are the header -/
theorem bitsOf_join (x y a b : Nat) (hy : y < 2 ^ b) : bitsOf x a ++ bitsOf y b = bitsOf (x * 2 ^ b + y) (a + b) := by
  have hp := Nat.two_pow_pos b
  have e1 : (x * 2 ^ b + y) / 2 ^ b = x := by
    rw [Nat.mul_comm, Nat.mul_add_div hp, Nat.div_eq_of_lt hy]; rfl
  have e2 : (x * 2 ^ b + y) % 2 ^ b = y % 2 ^ b := by
    rw [Nat.mul_comm, Nat.mul_add_mod]
  rw [bitsOf_add, e1, ← bitsOf_mod (x * 2 ^ b + y) b, e2, bitsOf_mod]

theorem Packs.both {a b : List Byte} {L M : List Bool} (h : Packs a L) (k : Packs b M) (hL : L.length = 8 * a.length) : Packs (a ++ b) (L ++ M) := by
  refine ⟨by rw [List.length_append, List.length_append, h.len, k.len]; have := h.len; omega, fun i => ?_⟩
  rw [bitAt_app, getD_app, ← hL]
  split
  · exact h.bit i
  · exact k.bit _
theorem packs_byte (X : Nat) : Packs [BitVec.ofNat 8 X] (bitsOf X 8) := by
  refine ⟨by rw [bitsOf_len]; rfl, fun k => ?_⟩
  rw [bitsOf_getD]
  unfold bitAt
  by_cases hk : k < 8
  · rw [show k / 8 = 0 by omega, show k % 8 = k by omega]
    have h7 : 7 - k < 8 := by omega
    rw [List.getD_cons_zero, BitVec.getLsbD_ofNat, decide_eq_true h7, decide_eq_true hk]
  · have : k / 8 = (k / 8 - 1) + 1 := by omega
    rw [this]
    simp [hk]
theorem packs_word (X : Nat) (_hX : X < 65536) : Packs [BitVec.ofNat 8 (X / 256), BitVec.ofNat 8 (X % 256)] (bitsOf X 16) := by
  have h := Packs.both (packs_byte (X / 256)) (packs_byte (X % 256)) (by simp [bitsOf_len])
  rw [bitsOf_join _ _ _ _ (by omega)] at h
  rw [show X / 256 * 2 ^ 8 + X % 256 = X by omega] at h
  exact h
theorem packs_hdr (H C K : Nat) (hH : H < 65536) (hC : C < 65536) (hK : K < 65536) : Packs (hdr H C K) (bitsOf H 16 ++ bitsOf C 16 ++ bitsOf K 16) :=
  Packs.both (Packs.both (packs_word H hH) (packs_word C hC) (by simp [bitsOf_len])) (packs_word K hK) (by simp [bitsOf_len])

def nb (b : Bool) : Nat := if b then 1 else 0
theorem nb_lt (b : Bool) : nb b < 2 ^ 1 := by cases b <;> decide
/-- what the Writer has been given -/
theorem header_bits (com sec : Bool) (A F T K : Nat) (hA : A < 2048) (hT : T < 16384) :
    [] ++ bitsOf 0 3 ++ bitsOf (nb com) 1 ++ bitsOf (nb sec) 1 ++ bitsOf A 11 ++ bitsOf F 2 ++ bitsOf T 14 ++ bitsOf K 16 = bitsOf (hd1 com sec A) 16 ++ bitsOf (hd2 F T) 16 ++ bitsOf K 16 := by
  rw [List.nil_append, bitsOf_join _ _ _ _ (nb_lt com), bitsOf_join _ _ _ _ (nb_lt sec), bitsOf_join _ _ _ _ (show A < 2 ^ 11 by omega), List.append_assoc (bitsOf _ _) (bitsOf F 2), bitsOf_join _ _ _ _ (show T < 2 ^ 14 by omega)]
  have e : ((0 * 2 ^ 1 + nb com) * 2 ^ 1 + nb sec) * 2 ^ 11 + A = hd1 com sec A := by cases com <;> cases sec <;> simp [nb, hd1] <;> omega
  rw [e]
  rfl
theorem head_of {bs : List Byte} (com sec : Bool) (A F T K : Nat) (hA : A < 2048) (hF : F < 4) (hT : T < 16384) (hK : K < 65536)
    (h : Packs bs ([] ++ bitsOf 0 3 ++ bitsOf (nb com) 1 ++ bitsOf (nb sec) 1 ++ bitsOf A 11 ++ bitsOf F 2 ++ bitsOf T 14 ++ bitsOf K 16)) : bs = hdr (hd1 com sec A) (hd2 F T) K := by
  rw [header_bits com sec A F T K hA hT] at h
  have hH : hd1 com sec A < 65536 := by unfold hd1; cases com <;> cases sec <;> simp <;> omega
  have hC : hd2 F T < 65536 := by unfold hd2; omega
  exact Packs.unique h (packs_hdr _ _ _ hH hC hK)

/-! ### what a header states -/
def b8 (l : List Byte) (k : Nat) : Nat := (l.getD k 0#8).toNat
theorem b8_lt (l : List Byte) (k : Nat) : b8 l k < 256 := (l.getD k 0#8).isLt
theorem b8_at {l : List Byte} {k : Nat} {x : Byte} (h : l[k]? = some x) : b8 l k = x.toNat := by unfold b8; rw [List.getD_eq_getElem?_getD, h]; rfl
/-- the length in all -/
def tot (l : List Byte) : Nat := 7 + 256 * b8 l 4 + b8 l 5
def siE (l : List Byte) : Int := if l.length < 6 then 3 else if 32 ≤ b8 l 0 then 4 else if 4096 < tot l then 6 else 0
def siN (l : List Byte) : Nat := if l.length < 6 then 0 else if 32 ≤ b8 l 0 then 0 else if 4096 < tot l then 0 else tot l
/-- the packet that the bytes state -/
def rd (l : List Byte) : Pk :=
  ⟨decide (b8 l 0 / 16 % 2 = 1), decide (b8 l 0 / 8 % 2 = 1), ((256 * b8 l 0 + b8 l 1) % 2048 : Nat), ((256 * b8 l 2 + b8 l 3) / 16384 : Nat), ((256 * b8 l 2 + b8 l 3) % 16384 : Nat), (l.drop 6).take (tot l - 6)⟩
def noPk : Pk := ⟨false, false, 0, 0, 0, []⟩
def deE (l : List Byte) : Int := if siE l = 0 then (if l.length < tot l then 3 else if (rd l).ok then 0 else 4) else siE l
def deP (l : List Byte) : Pk := if deE l = 0 then rd l else noPk
def deN (l : List Byte) : Nat := if deE l = 0 then tot l else 0

theorem siE_short {l : List Byte} (h : l.length < 6) : siE l = 3 ∧ siN l = 0 := by unfold siE siN; rw [if_pos h, if_pos h]; exact ⟨rfl, rfl⟩
theorem siE_form {l : List Byte} (h : ¬ l.length < 6) (h2 : 32 ≤ b8 l 0) : siE l = 4 ∧ siN l = 0 := by unfold siE siN; rw [if_neg h, if_pos h2, if_neg h, if_pos h2]; exact ⟨rfl, rfl⟩
theorem siE_long {l : List Byte} (h : ¬ l.length < 6) (h2 : ¬ 32 ≤ b8 l 0) (h3 : 4096 < tot l) : siE l = 6 ∧ siN l = 0 := by
  unfold siE siN; rw [if_neg h, if_neg h2, if_pos h3, if_neg h, if_neg h2, if_pos h3]; exact ⟨rfl, rfl⟩
theorem siE_good {l : List Byte} (h : ¬ l.length < 6) (h2 : ¬ 32 ≤ b8 l 0) (h3 : ¬ 4096 < tot l) : siE l = 0 ∧ siN l = tot l := by
  unfold siE siN; rw [if_neg h, if_neg h2, if_neg h3, if_neg h, if_neg h2, if_neg h3]; exact ⟨rfl, rfl⟩
theorem siE_zero {l : List Byte} (h : siE l = 0) : ¬ l.length < 6 ∧ ¬ 32 ≤ b8 l 0 ∧ ¬ 4096 < tot l := by
  unfold siE at h
  refine ⟨fun c => ?_, fun c => ?_, fun c => ?_⟩
  · rw [if_pos c] at h; cases h
  · by_cases a : l.length < 6
    · rw [if_pos a] at h; cases h
    · rw [if_neg a, if_pos c] at h; cases h
  · by_cases a : l.length < 6
    · rw [if_pos a] at h; cases h
    · by_cases b : 32 ≤ b8 l 0
      · rw [if_neg a, if_pos b] at h; cases h
      · rw [if_neg a, if_neg b, if_pos c] at h; cases h
theorem de_err {l : List Byte} (h : siE l ≠ 0) : deE l = siE l ∧ deP l = noPk ∧ deN l = 0 := by
  have e : deE l = siE l := by unfold deE; rw [if_neg h]
  refine ⟨e, ?_, ?_⟩
  · unfold deP; rw [e, if_neg h]
  · unfold deN; rw [e, if_neg h]
theorem de_short {l : List Byte} (h : siE l = 0) (h2 : l.length < tot l) : deE l = 3 ∧ deP l = noPk ∧ deN l = 0 := by
  have e : deE l = 3 := by unfold deE; rw [if_pos h, if_pos h2]
  exact ⟨e, by unfold deP; rw [e]; rfl, by unfold deN; rw [e]; rfl⟩
theorem de_form {l : List Byte} (h : siE l = 0) (h2 : ¬ l.length < tot l) (h3 : (rd l).ok = false) : deE l = 4 ∧ deP l = noPk ∧ deN l = 0 := by
  have e : deE l = 4 := by unfold deE; rw [if_pos h, if_neg h2, h3]; rfl
  exact ⟨e, by unfold deP; rw [e]; rfl, by unfold deN; rw [e]; rfl⟩
theorem de_good {l : List Byte} (h : siE l = 0) (h2 : ¬ l.length < tot l) (h3 : (rd l).ok = true) : deE l = 0 ∧ deP l = rd l ∧ deN l = tot l := by
  have e : deE l = 0 := by unfold deE; rw [if_pos h, if_neg h2, h3]; rfl
  exact ⟨e, by unfold deP; rw [if_pos e], by unfold deN; rw [if_pos e]⟩
theorem de_zero {l : List Byte} (h : deE l = 0) : siE l = 0 ∧ ¬ l.length < tot l ∧ (rd l).ok = true := by
  unfold deE at h
  by_cases a : siE l = 0
  · by_cases b : l.length < tot l
    · rw [if_pos a, if_pos b] at h; cases h
    · cases c : (rd l).ok with
      | true => exact ⟨a, b, rfl⟩
      | false => rw [if_pos a, if_neg b, c] at h; cases h
  · rw [if_neg a] at h; exact absurd h a

/-! ### the Reader's numbers -/
section
variable {bs : List Byte} {x0 x1 x2 x3 x4 x5 : Byte}
theorem num_piece (p s : Nat) (x : Byte) (hs : p % 8 + s ≤ 8) (hx : bs[p / 8]? = some x) : numAt bs p s = x.toNat * 2 ^ (p % 8) % 256 / 2 ^ (8 - s) := (numAt_piece bs p s x hs hx).symm
theorem num_ver (h0 : bs[0]? = some x0) : numAt bs 0 3 = x0.toNat / 32 := by
  rw [num_piece 0 3 x0 (by decide) h0]
  have := x0.isLt
  simp only [Nat.reduceMod, Nat.reducePow, Nat.reduceSub]
  omega
theorem num_com (h0 : bs[0]? = some x0) : numAt bs 3 1 = x0.toNat / 16 % 2 := by
  rw [num_piece 3 1 x0 (by decide) h0]
  have := x0.isLt
  simp only [Nat.reduceMod, Nat.reducePow, Nat.reduceSub]
  omega
theorem num_sec (h0 : bs[0]? = some x0) : numAt bs 4 1 = x0.toNat / 8 % 2 := by
  rw [num_piece 4 1 x0 (by decide) h0]
  have := x0.isLt
  simp only [Nat.reduceMod, Nat.reducePow, Nat.reduceSub]
  omega
theorem num_ap (h0 : bs[0]? = some x0) (h1 : bs[1]? = some x1) : numAt bs 5 11 = (256 * x0.toNat + x1.toNat) % 2048 := by
  rw [show 11 = 3 + 8 from rfl, numAt_add, num_piece 5 3 x0 (by decide) h0, num_piece (5 + 3) 8 x1 (by decide) h1]
  have := x0.isLt
  have := x1.isLt
  simp only [Nat.reduceMod, Nat.reducePow, Nat.reduceSub, Nat.reduceAdd]
  omega
theorem num_fl (h2 : bs[2]? = some x2) : numAt bs 16 2 = (256 * x2.toNat + x3.toNat) / 16384 := by
  rw [num_piece 16 2 x2 (by decide) h2]
  have := x2.isLt
  have := x3.isLt
  simp only [Nat.reduceMod, Nat.reducePow, Nat.reduceSub]
  omega
theorem num_ct (h2 : bs[2]? = some x2) (h3 : bs[3]? = some x3) : numAt bs 18 14 = (256 * x2.toNat + x3.toNat) % 16384 := by
  rw [show 14 = 6 + 8 from rfl, numAt_add, num_piece 18 6 x2 (by decide) h2, num_piece (18 + 6) 8 x3 (by decide) h3]
  have := x2.isLt
  have := x3.isLt
  simp only [Nat.reduceMod, Nat.reducePow, Nat.reduceSub, Nat.reduceAdd]
  omega
theorem num_len (h4 : bs[4]? = some x4) (h5 : bs[5]? = some x5) : numAt bs 32 16 = 256 * x4.toNat + x5.toNat := by
  rw [show 16 = 8 + 8 from rfl, numAt_add, num_piece 32 8 x4 (by decide) h4, num_piece (32 + 8) 8 x5 (by decide) h5]
  have := x4.isLt
  have := x5.isLt
  simp only [Nat.reduceMod, Nat.reducePow, Nat.reduceSub, Nat.reduceAdd]
  omega
end

/-! ### both ways -/
theorem rd_head {p : Pk} (h : p.Fits) (r : List Byte) : rd (p.head ++ p.d ++ r) = p ∧ tot (p.head ++ p.d ++ r) = 6 + p.d.length ∧ b8 (p.head ++ p.d ++ r) 0 < 32 := by
  obtain ⟨com, sec, ap, fl, ct, d⟩ := p
  obtain ⟨h1, h2, h3, h4, h5, h6, h7, h8⟩ := h
  simp only at h1 h2 h3 h4 h5 h6 h7 h8
  obtain ⟨A, rfl⟩ := Int.eq_ofNat_of_zero_le h1
  obtain ⟨F, rfl⟩ := Int.eq_ofNat_of_zero_le h3
  obtain ⟨T, rfl⟩ := Int.eq_ofNat_of_zero_le h5
  obtain ⟨K, hK⟩ : ∃ K, d.length = K + 1 := ⟨d.length - 1, by omega⟩
  obtain ⟨H, hH⟩ : ∃ H, H = hd1 com sec A := ⟨_, rfl⟩
  obtain ⟨C, hC⟩ : ∃ C, C = hd2 F T := ⟨_, rfl⟩
  have hHl : H < 8192 := by rw [hH]; unfold hd1; cases com <;> cases sec <;> simp <;> omega
  have hCl : C < 65536 := by rw [hC]; unfold hd2; omega
  have e : (Pk.head ⟨com, sec, A, F, T, d⟩ ++ d ++ r) = hdr H C K ++ (d ++ r) := by
    unfold Pk.head
    simp only [Int.toNat_natCast, hK, Nat.add_sub_cancel, List.append_assoc, hH, hC]
  have t0 : b8 (hdr H C K ++ (d ++ r)) 0 = H / 256 := by show (BitVec.ofNat 8 (H / 256)).toNat = _; rw [BitVec.toNat_ofNat]; omega
  have t1 : b8 (hdr H C K ++ (d ++ r)) 1 = H % 256 := by show (BitVec.ofNat 8 (H % 256)).toNat = _; rw [BitVec.toNat_ofNat]; omega
  have t2 : b8 (hdr H C K ++ (d ++ r)) 2 = C / 256 := by show (BitVec.ofNat 8 (C / 256)).toNat = _; rw [BitVec.toNat_ofNat]; omega
  have t3 : b8 (hdr H C K ++ (d ++ r)) 3 = C % 256 := by show (BitVec.ofNat 8 (C % 256)).toNat = _; rw [BitVec.toNat_ofNat]; omega
  have t4 : b8 (hdr H C K ++ (d ++ r)) 4 = K / 256 := by show (BitVec.ofNat 8 (K / 256)).toNat = _; rw [BitVec.toNat_ofNat]; omega
  have t5 : b8 (hdr H C K ++ (d ++ r)) 5 = K % 256 := by show (BitVec.ofNat 8 (K % 256)).toNat = _; rw [BitVec.toNat_ofNat]; omega
  have ht : tot (hdr H C K ++ (d ++ r)) = 7 + K := by unfold tot; rw [t4, t5]; omega
  have hd : ((hdr H C K ++ (d ++ r)).drop 6).take (7 + K - 6) = d := by
    rw [List.drop_left' (hdr_len H C K), show 7 + K - 6 = d.length by omega, List.take_left]
  rw [e]
  refine ⟨?_, by rw [ht, hK]; omega, by rw [t0]; omega⟩
  unfold rd
  rw [ht, hd, t0, t1, t2, t3]
  have q1 : 256 * (H / 256) + H % 256 = H := by omega
  have q2 : 256 * (C / 256) + C % 256 = C := by omega
  rw [q1, q2]
  have q3 : H % 2048 = A := by rw [hH]; unfold hd1; cases com <;> cases sec <;> simp <;> omega
  have q4 : C / 16384 = F := by rw [hC]; unfold hd2; omega
  have q5 : C % 16384 = T := by rw [hC]; unfold hd2; omega
  have q6 : decide (H / 256 / 16 % 2 = 1) = com := by rw [hH]; unfold hd1; cases com <;> cases sec <;> simp <;> omega
  have q7 : decide (H / 256 / 8 % 2 = 1) = sec := by rw [hH]; unfold hd1; cases com <;> cases sec <;> simp <;> omega
  rw [q3, q4, q5, q6, q7]

/-- Decode inverts Encode, whatever follows -/
theorem dec_enc {p : Pk} (h : p.ok = true) (r : List Byte) : deE (p.enc ++ r) = 0 ∧ deP (p.enc ++ r) = p ∧ deN (p.enc ++ r) = p.enc.length := by
  rw [Pk.enc_yes h]
  obtain ⟨h1, h2, h3⟩ := rd_head (Pk.ok_fits h) r
  have hl : (p.head ++ p.d).length = 6 + p.d.length := by rw [List.length_append]; rfl
  have hL : (p.head ++ p.d ++ r).length = 6 + p.d.length + r.length := by rw [List.length_append, hl]
  have hd := (Pk.ok_fits h).2.2.2.2.2.2
  have hs := siE_good (l := p.head ++ p.d ++ r) (by omega) (by omega) (by omega)
  have := de_good hs.1 (by omega) (by rw [h1]; exact h)
  rw [h1, h2] at this
  rw [hl]
  exact this

theorem take_six {l : List Byte} (h : 6 ≤ l.length) : l = BitVec.ofNat 8 (b8 l 0) :: BitVec.ofNat 8 (b8 l 1) :: BitVec.ofNat 8 (b8 l 2) :: BitVec.ofNat 8 (b8 l 3) :: BitVec.ofNat 8 (b8 l 4) :: BitVec.ofNat 8 (b8 l 5) :: l.drop 6 := by
  match l, h with
  | a0 :: a1 :: a2 :: a3 :: a4 :: a5 :: r, _ => simp [b8]
/-- the bytes that Decode consumes are the encoding of the packet that it returns -/
theorem enc_dec {l : List Byte} (h : deE l = 0) : (deP l).ok = true ∧ (deP l).enc = l.take (deN l) ∧ deN l ≤ l.length := by
  obtain ⟨h1, h2, h3⟩ := de_zero h
  obtain ⟨_, e2, e3⟩ := de_good h1 h2 h3
  obtain ⟨s1, s2, s3⟩ := siE_zero h1
  rw [e2, e3]
  refine ⟨h3, ?_, by omega⟩
  rw [Pk.enc_yes h3]
  have b0 := b8_lt l 0
  have b1 := b8_lt l 1
  have b2 := b8_lt l 2
  have b3 := b8_lt l 3
  have b4 := b8_lt l 4
  have b5 := b8_lt l 5
  have hl : (rd l).d.length = tot l - 6 := by
    show ((l.drop 6).take (tot l - 6)).length = _
    rw [List.length_take, List.length_drop]; omega
  have hh : (rd l).head = hdr (256 * b8 l 0 + b8 l 1) (256 * b8 l 2 + b8 l 3) (256 * b8 l 4 + b8 l 5) := by
    unfold Pk.head
    rw [hl]
    have q1 : hd1 (rd l).com (rd l).sec (rd l).ap.toNat = 256 * b8 l 0 + b8 l 1 := by
      unfold hd1
      show (if decide (b8 l 0 / 16 % 2 = 1) = true then 4096 else 0) + (if decide (b8 l 0 / 8 % 2 = 1) = true then 2048 else 0) + (256 * b8 l 0 + b8 l 1) % 2048 = _
      simp only [decide_eq_true_eq]
      split <;> split <;> omega
    have q2 : hd2 (rd l).fl.toNat (rd l).ct.toNat = 256 * b8 l 2 + b8 l 3 := by
      unfold hd2
      show (256 * b8 l 2 + b8 l 3) / 16384 * 16384 + (256 * b8 l 2 + b8 l 3) % 16384 = _
      omega
    have q3 : tot l - 6 - 1 = 256 * b8 l 4 + b8 l 5 := by unfold tot; omega
    rw [q1, q2, q3]
  have e : l.take (tot l) = l.take 6 ++ (l.drop 6).take (tot l - 6) := by
    rw [← List.take_add]
    congr 1
    unfold tot; omega
  rw [e, hh]
  have f : hdr (256 * b8 l 0 + b8 l 1) (256 * b8 l 2 + b8 l 3) (256 * b8 l 4 + b8 l 5) = l.take 6 := by
    have g := take_six (l := l) (by omega)
    unfold hdr
    rw [show (256 * b8 l 0 + b8 l 1) / 256 = b8 l 0 by omega, show (256 * b8 l 0 + b8 l 1) % 256 = b8 l 1 by omega, show (256 * b8 l 2 + b8 l 3) / 256 = b8 l 2 by omega, show (256 * b8 l 2 + b8 l 3) % 256 = b8 l 3 by omega,
      show (256 * b8 l 4 + b8 l 5) / 256 = b8 l 4 by omega, show (256 * b8 l 4 + b8 l 5) % 256 = b8 l 5 by omega]
    conv => rhs; rw [g]
    rfl
  rw [f]
  rfl
end Go.Proofs.Ytcmonalnhdodmaa.Pac

/-
  Plain mathematics of the unpacker: the packets at the front of some bytes (prs), what Take does; the reference's state beside it.
-/
namespace Go.Proofs.Ytcmonalnhdodmaa.Unp
open Pac

/-- the packet at the front is an idle one -/
def idl (l : List Byte) : Bool := decide ((256 * b8 l 0 + b8 l 1) % 2048 = 2047)
theorem tot_seven (l : List Byte) : 7 ≤ tot l := by unfold tot; omega
theorem siE_cases (l : List Byte) : siE l = 0 ∨ siE l = 3 ∨ siE l = 4 ∨ siE l = 6 := by
  unfold siE
  split
  · simp
  · split
    · simp
    · split <;> simp
theorem siE_three {l : List Byte} : siE l = 3 ↔ l.length < 6 := by
  refine ⟨fun h => ?_, fun h => (siE_short h).1⟩
  apply Classical.byContradiction
  intro c
  unfold siE at h
  rw [if_neg c] at h
  split at h
  · cases h
  · split at h <;> cases h

/-- the packets at the front (but the idle ones), and what is left -/
def prs (l : List Byte) : List (List Byte) × List Byte :=
  if l.length < 6 then ([], l)
  else if siE l ≠ 0 then ([], [])
  else if _h : l.length < tot l then ([], l)
  else ((if idl l then [] else [l.take (tot l)]) ++ (prs (l.drop (tot l))).1, (prs (l.drop (tot l))).2)
termination_by l.length
decreasing_by all_goals (rw [List.length_drop]; have := tot_seven l; omega)
theorem prs_few {l : List Byte} (h : l.length < 6) : prs l = ([], l) := by rw [prs, if_pos h]
theorem prs_bad {l : List Byte} (h : ¬ l.length < 6) (h2 : siE l ≠ 0) : prs l = ([], []) := by rw [prs, if_neg h, if_pos h2]
theorem prs_wait {l : List Byte} (h2 : siE l = 0) (h3 : l.length < tot l) : prs l = ([], l) := by
  rw [prs]
  split
  · rfl
  · rw [if_neg (show ¬ siE l ≠ 0 by simpa using h2)]
theorem prs_one {l : List Byte} (h2 : siE l = 0) (h3 : ¬ l.length < tot l) :
    prs l = ((if idl l then [] else [l.take (tot l)]) ++ (prs (l.drop (tot l))).1, (prs (l.drop (tot l))).2) := by
  rw [prs, if_neg (siE_zero h2).1, if_neg (show ¬ siE l ≠ 0 by simpa using h2)]
  exact if_neg h3

/-- what the rest of an unpacker is: fewer bytes than the packet that they begin -/
def Rok (r : List Byte) : Prop := r.length < 6 ∨ (siE r = 0 ∧ r.length < tot r)
theorem Rok.nil_ : Rok [] := .inl (by simp)
theorem Rok.len {r : List Byte} (h : Rok r) : r.length ≤ 4095 := by
  rcases h with h | ⟨h1, h2⟩
  · omega
  · have := siE_zero h1; omega
theorem prs_ok (l : List Byte) : Rok (prs l).2 := by
  induction hn : l.length using Nat.strongRecOn generalizing l with
  | ind n ih =>
    by_cases h : l.length < 6
    · rw [prs_few h]; exact .inl h
    · by_cases h2 : siE l = 0
      · by_cases h3 : l.length < tot l
        · rw [prs_wait h2 h3]; exact .inr ⟨h2, h3⟩
        · rw [prs_one h2 h3]
          exact ih _ (by rw [List.length_drop]; have := tot_seven l; omega) _ rfl
      · rw [prs_bad h h2]; exact .nil_
theorem prs_len (l : List Byte) : (prs l).1.length ≤ l.length := by
  induction hn : l.length using Nat.strongRecOn generalizing l with
  | ind n ih =>
    by_cases h : l.length < 6
    · rw [prs_few h]; simp
    · by_cases h2 : siE l = 0
      · by_cases h3 : l.length < tot l
        · rw [prs_wait h2 h3]; simp
        · have h7 := tot_seven l
          have := ih _ (by rw [List.length_drop]; omega) (l.drop (tot l)) rfl
          rw [List.length_drop] at this
          rw [prs_one h2 h3, List.length_append]
          split <;> simp only [List.length_nil, List.length_cons] <;> omega
      · rw [prs_bad h h2]; simp
/-- one step more of the loop that removes packets -/
theorem prs_step {L l : List Byte} {O : List (List Byte)} (h : prs L = (O ++ (prs l).1, (prs l).2)) (h2 : siE l = 0) (h3 : ¬ l.length < tot l) :
    prs L = (O ++ (if idl l then [] else [l.take (tot l)]) ++ (prs (l.drop (tot l))).1, (prs (l.drop (tot l))).2) := by
  rw [h, prs_one h2 h3, List.append_assoc]

/-- what one returned packet is -/
def Few (ls : List (List Byte)) : Prop := ∀ x ∈ ls, x.length ≤ 4096

/-! ### a header may lie in two pieces -/
theorem b8_app {r d : List Byte} {k : Nat} (hk : k < 6) : b8 (r.take 6 ++ d.take 6) k = b8 (r ++ d) k := by
  unfold b8
  rw [List.getD_eq_getElem?_getD, List.getD_eq_getElem?_getD]
  by_cases h : r.length ≤ 6
  · rw [List.take_of_length_le h, List.getElem?_append, List.getElem?_append]
    split
    · rfl
    · rw [List.getElem?_take, if_pos (by omega)]
  · rw [List.getElem?_append_left (by rw [List.length_take]; omega), List.getElem?_append_left (by omega), List.getElem?_take, if_pos hk]
theorem tot_app {r d : List Byte} : tot (r.take 6 ++ d.take 6) = tot (r ++ d) := by unfold tot; rw [b8_app (by omega), b8_app (by omega)]
theorem si_app {r d : List Byte} : siE (r.take 6 ++ d.take 6) = siE (r ++ d) ∧ siN (r.take 6 ++ d.take 6) = siN (r ++ d) := by
  have hl : (r.take 6 ++ d.take 6).length < 6 ↔ (r ++ d).length < 6 := by
    rw [List.length_append, List.length_append, List.length_take, List.length_take]; omega
  unfold siE siN
  rw [tot_app, b8_app (by omega)]
  by_cases h : (r ++ d).length < 6
  · rw [if_pos h, if_pos (hl.2 h), if_pos h, if_pos (hl.2 h)]; exact ⟨rfl, rfl⟩
  · rw [if_neg h, if_neg (fun c => h (hl.1 c)), if_neg h, if_neg (fun c => h (hl.1 c))]; exact ⟨rfl, rfl⟩
theorem b8_front {r d : List Byte} {k : Nat} (hk : k < r.length) : b8 (r ++ d) k = b8 r k := by
  unfold b8
  rw [List.getD_eq_getElem?_getD, List.getD_eq_getElem?_getD, List.getElem?_append_left hk]
theorem si_front {r d : List Byte} (h : 6 ≤ r.length) : siE (r ++ d) = siE r ∧ tot (r ++ d) = tot r := by
  have ht : tot (r ++ d) = tot r := by unfold tot; rw [b8_front (by omega), b8_front (by omega)]
  refine ⟨?_, ht⟩
  unfold siE
  rw [ht, b8_front (by omega), List.length_append, if_neg (show ¬ r.length + d.length < 6 by omega), if_neg (show ¬ r.length < 6 by omega)]
theorem Rok.short {r d : List Byte} (h : Rok r) : r.length < tot (r ++ d) := by
  rcases h with h | ⟨h, h3⟩
  · have := tot_seven (r ++ d); omega
  · rw [(si_front (by have := (siE_zero h).1; omega)).2]; exact h3

/-! ### idle packets -/
theorem b8_take {l : List Byte} {k n : Nat} (hk : k < n) : b8 (l.take n) k = b8 l k := by
  unfold b8
  rw [List.getD_eq_getElem?_getD, List.getD_eq_getElem?_getD, List.getElem?_take, if_pos hk]
theorem idl_take {l : List Byte} {n : Nat} (hn : 7 ≤ n) : idl (l.take n) = idl l := by unfold idl; rw [b8_take (by omega), b8_take (by omega)]
/-- what a whole packet is found to be -/
theorem idle_is {l : List Byte} (h : siE l = 0) (h2 : tot l ≤ l.length) : (!decide (deE (l.take (tot l)) = 0) || decide ((deP (l.take (tot l))).ap = 2047)) = idl l := by
  have h7 := tot_seven l
  obtain ⟨s1, s2, s3⟩ := siE_zero h
  obtain ⟨X, hX⟩ : ∃ X, l.take (tot l) = X := ⟨_, rfl⟩
  have hl : X.length = tot l := by rw [← hX, List.length_take]; omega
  have ht : tot X = tot l := by rw [← hX]; unfold tot; rw [b8_take (by omega), b8_take (by omega)]
  have h0 : b8 X 0 = b8 l 0 := by rw [← hX, b8_take (by omega)]
  have hi : idl X = idl l := by rw [← hX, idl_take h7]
  have hs : siE X = 0 := (siE_good (by omega) (by rw [h0]; exact s2) (by rw [ht]; exact s3)).1
  rw [hX, ← hi]
  cases hok : (rd X).ok with
  | true =>
    obtain ⟨e1, e2, _⟩ := de_good hs (by omega) hok
    rw [e1, e2]
    unfold idl rd
    simp
    omega
  | false =>
    obtain ⟨e1, _, _⟩ := de_form hs (by omega) hok
    rw [e1]
    have : idl X = true := by
      apply Classical.byContradiction
      intro c
      have hf : (rd X).Fits := by
        have b2 := b8_lt X 2
        have b3 := b8_lt X 3
        unfold Pk.Fits rd
        simp only [List.length_take, List.length_drop]
        omega
      have ha : (rd X).ap ≠ 2047 := by
        unfold idl at c
        simp only [decide_eq_true_eq] at c
        show (((256 * b8 X 0 + b8 X 1) % 2048 : Nat) : Int) ≠ 2047
        omega
      rw [Pk.ok_free hf ha] at hok
      cases hok
    rw [this]
    rfl

/-! ### the unpacker -/
structure US where
  bg : Bool
  ex : Nat
  lo : Nat
  rs : List Byte
structure US.Ok (s : US) : Prop where
  r : Rok s.rs
  e : s.ex < 256
/-- the distance to the count c -/
def dst (s : US) (c : Nat) : Nat := if s.bg then (c + 256 - s.ex) % 256 else 0
theorem dst_lt (s : US) (c : Nat) : dst s c < 256 := by unfold dst; split <;> omega
def flw (s : US) (c : Nat) : US := ⟨true, (c + 1) % 256, s.lo + dst s c, if dst s c = 0 then s.rs else []⟩
/-- are the counts and the pointer such that Take works? -/
def Arg (c f : Int) (d : List Byte) : Prop := 0 ≤ c ∧ c ≤ 255 ∧ ((0 ≤ f ∧ f < (d.length : Int)) ∨ f = 2047 ∨ f = 2046)
instance (c f : Int) (d : List Byte) : Decidable (Arg c f d) := by unfold Arg; infer_instance
/-- does f fit to the rest r (that is not empty)? -/
def fts (r : List Byte) (f : Int) (d : List Byte) : Bool :=
  if siE (r ++ d) = 3 then decide (f = 2047) else if siE (r ++ d) ≠ 0 then false else if (r ++ d).length ≤ tot (r ++ d) then decide (f = 2047) else decide (f = ((tot (r ++ d) - r.length : Nat) : Int))
/-- the bytes that are looked at -/
def stm (r : List Byte) (f : Int) (d : List Byte) : List Byte := if r ≠ [] ∧ fts r f d = true then r ++ d else if f = 2047 then [] else d.drop f.toNat
/-- what Take does -/
def tkS (s : US) (c f : Int) (d : List Byte) : US :=
  if Arg c f d then (if f = 2046 then flw s c.toNat else { flw s c.toNat with rs := (prs (stm (flw s c.toNat).rs f d)).2 }) else s
def tkO (s : US) (c f : Int) (d : List Byte) : List (List Byte) :=
  if Arg c f d then (if f = 2046 then [] else (prs (stm (flw s c.toNat).rs f d)).1) else []
theorem flw_ok {s : US} (h : s.Ok) (c : Nat) : (flw s c).Ok := by
  unfold flw
  refine ⟨?_, by simp only; omega⟩
  simp only
  split
  · exact h.r
  · exact .nil_
theorem tkS_ok {s : US} (h : s.Ok) (c f : Int) (d : List Byte) : (tkS s c f d).Ok := by
  unfold tkS
  split
  · split
    · exact flw_ok h _
    · exact ⟨prs_ok _, (flw_ok h _).e⟩
  · exact h
theorem tkS_lo (s : US) (c f : Int) (d : List Byte) : (tkS s c f d).lo ≤ s.lo + 255 := by
  have := dst_lt s c.toNat
  unfold tkS flw
  split
  · split <;> simp only <;> omega
  · omega
def US0 : US := ⟨false, 0, 0, []⟩
theorem US0_ok : US0.Ok := ⟨.nil_, by decide⟩
end Go.Proofs.Ytcmonalnhdodmaa.Unp

/-
  Byte slices that the call itself makes: append, make, string(b), whatever the source. No dump is imported.
-/
namespace Go.Proofs.Ytcmonalnhdodmaa
open Go.RowKit

/-- type t is a slice of bytes, e the byte's type. -/
def IsBytes (P : Program) (t e : TypeId) : Prop :=
  P.underlying t = some (.slice e) ∧ P.underlying e = some (.int .u8) ∧ ∃ i, P.info? e = some i ∧ i.zero = some (.int .u8 0) ∧ i.size = 1 ∧ i.bytes = 1

/-- v is a slice of the call's own (blocks from base on) that holds the bytes l. -/
def Ow (w : World) (base : Nat) (e : TypeId) (v : Value) (l : List Byte) : Prop := w.ownsRow base e 1 v l.length (l.map B8)

theorem B8_one (l : List Byte) : ∀ u ∈ l.map B8, u.oneCell' = true := by
  intro u hu
  obtain ⟨x, _, rfl⟩ := List.mem_map.1 hu
  rfl

theorem Ow.base_le {w : World} {base : Nat} {e : TypeId} {v : Value} {l : List Byte} (h : Ow w base e v l) : ∀ k, v.ownBlock = some k → base ≤ k := by
  intro k hk
  rcases h.2 with ⟨rfl, _⟩ | ⟨g, cap, cur, rfl, hg, _⟩
  · cases hk
  · injection hk with hk; subst hk; exact hg

theorem Ow.reads {w : World} {base : Nat} {e : TypeId} {v : Value} {l : List Byte} (h : Ow w base e v l) :
    ∃ A c, v = .slice A l.length c ∧ Bs w w.heap.size A l ∧ (A = none → c = 0) ∧ l.length ≤ c ∧ c ≤ maxLen := by
  have hcells := fun g cap (hv : v = .slice (some ⟨g, 0, none⟩) l.length cap) => h.cells (g := g) (by rw [hv]; rfl)
  rcases h.2 with ⟨rfl, h0⟩ | ⟨g, cap, cur, rfl, _, hh, hn, hm, _⟩
  · have : l = [] := List.eq_nil_of_length_eq_zero h0
    subst this
    exact ⟨none, 0, rfl, Bs.nil_, fun _ => rfl, by simp, by simp⟩
  · refine ⟨some ⟨g, 0, none⟩, cap, rfl, fun hl => ⟨g, 0, rfl, ?_, fun i x hx => ?_⟩, by simp, hn, hm⟩
    · rcases Nat.lt_or_ge g w.heap.size with hlt | hge
      · exact hlt
      · rw [Array.getElem?_eq_none hge] at hh; cases hh
    · have := hcells g cap rfl i (B8 x) (by simp [hx])
      rcases Nat.eq_zero_or_pos i with rfl | hi
      · simpa [Addr.add] using this
      · have hne : i ≠ 0 := by omega
        simpa [Addr.add, hne] using this

section
variable {P : Program} (w : World)

theorem run_app {t e ty : TypeId} (hT : IsBytes P t e) {base : Nat} {v : Value} {m : List Byte} (hown : Ow w base e v m)
    {B : Nat} {A : Option Addr} {l : List Byte} {c : Nat} (hr : Bs w B A l) (hn : A = none → c = 0) (h47 : m.length + l.length ≤ 140737488355328) (hbase : base ≤ w.heap.size) :
    ∃ v' w', (Builtin.append_ #[t, t] ty #[v, .slice A l.length c]).run P w = .ok v' w' ∧ Ow w' base e v' (m ++ l) ∧ w.grownBy w' v.ownBlock ∧ (v'.ownBlock = v.ownBlock ∨ v'.ownBlock = some w.heap.size) := by
  obtain ⟨ht, _, i, hi, hz, h1, h2⟩ := hT
  cases A with
  | none =>
    have hl : l = [] := by
      rcases Nat.eq_zero_or_pos l.length with h0 | h0
      · exact List.eq_nil_of_length_eq_zero h0
      · obtain ⟨b, off, h, _⟩ := hr h0; cases h
    subst hl
    obtain rfl : c = 0 := hn rfl
    exact ⟨v, w, run_append_owned_none w base t ty e i 1 ht hi v m.length _ hown, by simpa using hown, World.grownBy.refl w _, .inl rfl⟩
  | some ad =>
    obtain ⟨v', w', hrun, ho, hg, _, h5⟩ := run_append_own_at (P := P) w base t ty e i (.int .u8 0) 1 1 ht hi hz h1 h2 rfl (by decide) v m.length (m.map B8) hown ad l.length c (l.map B8)
      (by simp) (fun j u hu => by
        rw [List.getElem?_map] at hu
        cases hx : l[j]? with
        | none => rw [hx] at hu; cases hu
        | some x =>
          rw [hx] at hu
          injection hu with hu
          subst hu
          have hj := (List.getElem?_eq_some_iff.1 hx).1
          obtain ⟨b, off, he, _, hc⟩ := hr (by omega)
          injection he with he
          subst he
          by_cases h0 : j = 0
          · subst h0; simpa [Addr.add] using hc 0 x hx
          · simpa [Addr.add, h0] using hc j x hx) (B8_one l) (by unfold maxLen; omega) (by omega) hbase
    exact ⟨v', w', hrun, by unfold Ow; rw [List.length_append, List.map_append]; exact ho, hg, h5⟩

theorem wp_app {t e : TypeId} (hT : IsBytes P t e) {o : Oper} {a : Act} {K : Act → World → Prop} {Q : Exit → Act → World → Prop} (s x : Operand)
    (ho : o.op = .call { callee := .builtin .append, args := #[s, x], argTypes := #[t, t] })
    {base : Nat} {v : Value} {m : List Byte} (hs : a.eval s = v) (hown : Ow w base e v m)
    {B : Nat} {A : Option Addr} {l : List Byte} {c : Nat} (hx : a.eval x = .slice A l.length c) (hr : Bs w B A l) (hn : A = none → c = 0) (h47 : m.length + l.length ≤ 140737488355328) (hbase : base ≤ w.heap.size)
    (h : ∀ v' w', Ow w' base e v' (m ++ l) → w.grownBy w' v.ownBlock → K (a.put o.dst v') w') : o.wp P a w K Q := by
  obtain ⟨v', w', hrun, h2, h3, _⟩ := run_app (P := P) (ty := o.type) w hT hown hr hn h47 hbase
  unfold Oper.wp execOp
  simp only [ho, resolve, invoke, builtin, Sem.run_bind, Sem.run_pure, Result.andThen_ok, List.map_toArray, List.map_cons, List.map_nil, hs, hx, hrun]
  exact h v' w' h2 h3

theorem wpList_app {t e : TypeId} (hT : IsBytes P t e) {ops : Array Oper} {rest : List Oper} {o : Oper} {a : Act} {Q : Exit → Act → World → Prop} (hgd : o.guard = none) (s x : Operand)
    (ho : o.op = .call { callee := .builtin .append, args := #[s, x], argTypes := #[t, t] })
    {base : Nat} {v : Value} {m : List Byte} (hs : a.eval s = v) (hown : Ow w base e v m)
    {B : Nat} {A : Option Addr} {l : List Byte} {c : Nat} (hx : a.eval x = .slice A l.length c) (hr : Bs w B A l) (hn : A = none → c = 0) (h47 : m.length + l.length ≤ 140737488355328) (hbase : base ≤ w.heap.size)
    (h : ∀ v' w', Ow w' base e v' (m ++ l) → w.grownBy w' v.ownBlock → wpList P ops Q rest (a.put o.dst v') w') : wpList P ops Q (o :: rest) a w :=
  wpList_plain hgd fun _ hK => wp_app w hT s x ho hs hown hx hr hn h47 hbase fun v' w' h2 h3 => hK _ _ (h v' w' h2 h3)

theorem wp_appAt {t e : TypeId} (hT : IsBytes P t e) {o : Oper} {a : Act} {K : Act → World → Prop} {Q : Exit → Act → World → Prop} (s x : Operand)
    (ho : o.op = .call { callee := .builtin .append, args := #[s, x], argTypes := #[t, t] })
    {base : Nat} {v : Value} {m : List Byte} (hs : a.eval s = v) (hown : Ow w base e v m)
    {B : Nat} {A : Option Addr} {l : List Byte} {c : Nat} (hx : a.eval x = .slice A l.length c) (hr : Bs w B A l) (hn : A = none → c = 0) (h47 : m.length + l.length ≤ 140737488355328) (hbase : base ≤ w.heap.size)
    (h : ∀ v' w', Ow w' base e v' (m ++ l) → w.grownBy w' v.ownBlock → (v'.ownBlock = v.ownBlock ∨ v'.ownBlock = some w.heap.size) → K (a.put o.dst v') w') : o.wp P a w K Q := by
  obtain ⟨v', w', hrun, h2, h3, h4⟩ := run_app (P := P) (ty := o.type) w hT hown hr hn h47 hbase
  unfold Oper.wp execOp
  simp only [ho, resolve, invoke, builtin, Sem.run_bind, Sem.run_pure, Result.andThen_ok, List.map_toArray, List.map_cons, List.map_nil, hs, hx, hrun]
  exact h v' w' h2 h3 h4

theorem wpList_appAt {t e : TypeId} (hT : IsBytes P t e) {ops : Array Oper} {rest : List Oper} {o : Oper} {a : Act} {Q : Exit → Act → World → Prop} (hgd : o.guard = none) (s x : Operand)
    (ho : o.op = .call { callee := .builtin .append, args := #[s, x], argTypes := #[t, t] })
    {base : Nat} {v : Value} {m : List Byte} (hs : a.eval s = v) (hown : Ow w base e v m)
    {B : Nat} {A : Option Addr} {l : List Byte} {c : Nat} (hx : a.eval x = .slice A l.length c) (hr : Bs w B A l) (hn : A = none → c = 0) (h47 : m.length + l.length ≤ 140737488355328) (hbase : base ≤ w.heap.size)
    (h : ∀ v' w', Ow w' base e v' (m ++ l) → w.grownBy w' v.ownBlock → (v'.ownBlock = v.ownBlock ∨ v'.ownBlock = some w.heap.size) → wpList P ops Q rest (a.put o.dst v') w') : wpList P ops Q (o :: rest) a w :=
  wpList_plain hgd fun _ hK => wp_appAt w hT s x ho hs hown hx hr hn h47 hbase fun v' w' h2 h3 h4 => hK _ _ (h v' w' h2 h3 h4)

theorem Bs_new2 (w : World) (e : TypeId) (x y : Byte) (m n : Int) (hm : m = (x.toNat : Int)) (hn : n = (y.toNat : Int)) :
    Bs (w.alloc (.cells #[.int .u8 m, .int .u8 n] e)) (w.heap.size + 1) (some ⟨w.heap.size, 0, none⟩) [x, y] := fun _ => by
  refine ⟨w.heap.size, 0, rfl, by omega, fun i z hz => ?_⟩
  subst hm hn
  rw [Nat.zero_add, cell_of_row _ _ i _ e (0, 0) (heap_alloc_new w _)]
  match i, hz with
  | 0, hz => simp at hz; subst hz; rfl
  | 1, hz => simp at hz; subst hz; rfl
theorem Bs_new1 (w : World) (e : TypeId) (x : Byte) (m : Int) (hm : m = (x.toNat : Int)) :
    Bs (w.alloc (.cells #[.int .u8 m] e)) (w.heap.size + 1) (some ⟨w.heap.size, 0, none⟩) [x] := fun _ => by
  refine ⟨w.heap.size, 0, rfl, by omega, fun i z hz => ?_⟩
  subst hm
  rw [Nat.zero_add, cell_of_row _ _ i _ e (0, 0) (heap_alloc_new w _)]
  match i, hz with
  | 0, hz => simp at hz; subst hz; rfl

theorem Bs_new (w : World) (e : TypeId) (l : List Byte) (C : Array Value) (hC : C = (l.map B8).toArray) (B : Nat) (hB : w.heap.size < B) (fr : Nat × Nat := (0, 0)) :
    Bs (w.alloc (.cells C e fr)) B (some ⟨w.heap.size, 0, none⟩) l := fun _ => by
  refine ⟨w.heap.size, 0, rfl, hB, fun i z hz => ?_⟩
  rw [Nat.zero_add, cell_of_row _ _ i _ e fr (heap_alloc_new w _), hC]
  simp [hz]
theorem Ow_empty (w : World) (base : Nat) (e : TypeId) (h : base ≤ w.heap.size) : Ow (w.alloc (.cells #[] e)) base e (.slice (some ⟨w.heap.size, 0, none⟩) 0 0) [] :=
  ⟨rfl, .inr ⟨w.heap.size, 0, #[], rfl, h, heap_alloc_new w _, Nat.le_refl _, by simp, rfl, rfl⟩⟩

theorem step_app {t e : TypeId} (hT : IsBytes P t e) {ops : Array Oper} {o : Oper} {a : Act} {K : Act → World → Prop} {Q : Exit → Act → World → Prop} {E : Prop} (hgd : o.guard = none) (s x : Operand)
    (ho : o.op = .call { callee := .builtin .append, args := #[s, x], argTypes := #[t, t] })
    {base : Nat} {v : Value} {m : List Byte} (hs : a.eval s = v) (hown : Ow w base e v m)
    {B : Nat} {A : Option Addr} {l : List Byte} {c : Nat} (hx : a.eval x = .slice A l.length c) (hr : Bs w B A l) (hn : A = none → c = 0) (h47 : m.length + l.length ≤ 140737488355328) (hbase : base ≤ w.heap.size)
    (h : ∀ v' w', Ow w' base e v' (m ++ l) → w.grownBy w' v.ownBlock → K (a.put o.dst v') w') :
    if Region.wanted o (yielded ops a.tmps) = true then Oper.wp P o a w K Q else E := by
  have hw : Region.wanted o (yielded ops a.tmps) = true := by simp [Region.wanted, hgd]
  rw [if_pos hw]
  exact wp_app w hT s x ho hs hown hx hr hn h47 hbase h

theorem step_appAt {t e : TypeId} (hT : IsBytes P t e) {ops : Array Oper} {o : Oper} {a : Act} {K : Act → World → Prop} {Q : Exit → Act → World → Prop} {E : Prop} (hgd : o.guard = none) (s x : Operand)
    (ho : o.op = .call { callee := .builtin .append, args := #[s, x], argTypes := #[t, t] })
    {base : Nat} {v : Value} {m : List Byte} (hs : a.eval s = v) (hown : Ow w base e v m)
    {B : Nat} {A : Option Addr} {l : List Byte} {c : Nat} (hx : a.eval x = .slice A l.length c) (hr : Bs w B A l) (hn : A = none → c = 0) (h47 : m.length + l.length ≤ 140737488355328) (hbase : base ≤ w.heap.size)
    (h : ∀ v' w', Ow w' base e v' (m ++ l) → w.grownBy w' v.ownBlock → (v'.ownBlock = v.ownBlock ∨ v'.ownBlock = some w.heap.size) → K (a.put o.dst v') w') :
    if Region.wanted o (yielded ops a.tmps) = true then Oper.wp P o a w K Q else E := by
  have hw : Region.wanted o (yielded ops a.tmps) = true := by simp [Region.wanted, hgd]
  rw [if_pos hw]
  exact wp_appAt w hT s x ho hs hown hx hr hn h47 hbase h

theorem Bs.drew {w : World} {B : Nat} {a : Option Addr} {l : List Byte} (h : Bs w B a l) : Bs w.drew B a l := h
theorem Ow.drew {w : World} {base : Nat} {e : TypeId} {v : Value} {l : List Byte} (h : Ow w base e v l) : Ow w.drew base e v l := World.ownsRow.drew h
theorem Ow.alloc {w : World} {base : Nat} {e : TypeId} {v : Value} {l : List Byte} (h : Ow w base e v l) (o : Obj) : Ow (w.alloc o) base e v l := World.ownsRow.alloc h o

/-! ### string(b) -/
def str (l : List Byte) : ByteArray := ⟨(l.map UInt8.ofBitVec).toArray⟩
theorem str_inj {l m : List Byte} (h : str l = str m) : l = m := by
  unfold str at h
  injection h with h
  have h2 : l.map UInt8.ofBitVec = m.map UInt8.ofBitVec := by simpa using congrArg Array.toList h
  exact (List.map_inj_right (fun x y e => by injection e)).1 h2

theorem str_toList (l : List Byte) : (str l).toList = l.map UInt8.ofBitVec := ByteArray.toList_mk _
theorem str_beq (l m : List Byte) : ((str l).toList == (str m).toList) = decide (l = m) := by
  rw [str_toList, str_toList, Bool.eq_iff_iff, beq_iff_eq, decide_eq_true_iff]
  exact List.map_inj_right (fun x y e => by injection e)

theorem run_str {src dst e : TypeId} (hT : IsBytes P src e) (hd : P.underlying dst = some .string) {B : Nat} {A : Option Addr} {l : List Byte} {c : Nat} (hr : Bs w B A l) (hn : A = none → c = 0) :
    (convert src dst (.slice A l.length c)).run P w = .ok (.string (str l)) w := by
  obtain ⟨hs, he, _⟩ := hT
  cases A with
  | none =>
    have hl : l = [] := by
      rcases Nat.eq_zero_or_pos l.length with h0 | h0
      · exact List.eq_nil_of_length_eq_zero h0
      · obtain ⟨b, off, h, _⟩ := hr h0; cases h
    subst hl
    exact Lib.run_convert_nil_bytes w src dst e c hs he hd
  | some ad =>
    have := run_convert_bytes_back (P := P) w src dst e ad c (l.map UInt8.ofBitVec) hs he hd (fun j hj => by
      simp only [List.length_map] at hj
      obtain ⟨b, off, he, _, hc⟩ := hr (by omega)
      injection he with he
      subst he
      have hcj := hc j l[j] (List.getElem?_eq_getElem hj)
      rw [List.getElem_map]
      by_cases h0 : j = 0
      · subst h0; simpa [Addr.add] using hcj
      · simpa [Addr.add, h0] using hcj)
    rw [List.length_map] at this
    exact this
end
end Go.Proofs.Ytcmonalnhdodmaa

/-
  Two words: a block that is known whole (Cel), and 'of the old blocks only those of a list may have turned' (Only); what a walk wants of both. No dump is imported.
-/
namespace Go.Proofs.Ytcmonalnhdodmaa
open Go.RowKit

/-- block g is just the cells cs of element type t, none of them frozen -/
def Cel (w : World) (g : Nat) (t : TypeId) (cs : Array Value) : Prop := w.heap[g]? = some (.cells cs t (0, 0))

/-- of the blocks that w has, w' may differ in those of the list S alone -/
structure Only (S : List Nat) (w w' : World) : Prop where
  os : w'.os = w.os
  tape : w'.tape = w.tape
  output : w'.output = w.output
  size : w.heap.size ≤ w'.heap.size
  block : ∀ k, k < w.heap.size → k ∉ S → w'.heap[k]? = w.heap[k]?

section
variable {w w' w2 : World} {g : Nat} {t : TypeId} {cs : Array Value} {S T : List Nat}

theorem Cel.lt (h : Cel w g t cs) : g < w.heap.size := lt_of_block h
theorem Cel.cell (h : Cel w g t cs) (i : Nat) : w.cell? ⟨g, i, none⟩ = cs[i]? := by unfold Cel at h; simp [World.cell?, h]
theorem Cel.free (h : Cel w g t cs) (i : Nat) : w.frozen? ⟨g, i, none⟩ = false := by unfold Cel at h; simp [World.frozen?, h]
theorem Cel.new (w : World) (t : TypeId) (cs : Array Value) : Cel (w.alloc (.cells cs t)) w.heap.size t cs := heap_alloc_new w _
theorem Cel.draws (h : Cel w g t cs) (n : Nat) : Cel (w.drewN n) g t cs := h
theorem Cel.put (h : Cel w g t cs) (i : Nat) (u : Value) : Cel (w.setCell ⟨g, i, none⟩ u) g t (cs.setIfInBounds i u) := by
  have hl := h.lt
  unfold Cel at h ⊢
  rw [Array.getElem?_eq_getElem hl] at h
  injection h with h
  show (w.heap.modify g _)[g]? = _
  rw [Array.getElem?_eq_getElem (by simpa using hl), Array.getElem_modify_self, h]
  rfl
theorem Cel.apart {g' : Nat} {t' : TypeId} {cs' : Array Value} (h : Cel w g t cs) (k : Cel w g' t' cs') (ht : t ≠ t') : g ≠ g' := by
  intro e
  subst e
  have : some (Obj.cells cs t (0, 0)) = some (.cells cs' t' (0, 0)) := h.symm.trans k
  simp at this
  exact ht this.2
theorem Cel.only (h : Cel w g t cs) (k : Only S w w') (hg : g ∉ S) : Cel w' g t cs := (k.block g h.lt hg).trans h

theorem Cel.grown {o : Obj} {row : Option Nat} (h : Cel w g t cs) (k : (w.alloc o).grownBy w' row) (hne : row ≠ some g) : Cel w' g t cs :=
  (k.block g (by have := h.lt; simp; omega) (fun e => hne e.symm)).trans ((Below.heap_alloc w o g h.lt).trans h)
theorem Only.refl (S : List Nat) (w : World) : Only S w w := ⟨rfl, rfl, rfl, Nat.le_refl _, fun _ _ _ => rfl⟩
theorem Only.trans (h : Only S w w') (k : Only T w' w2) (hT : ∀ x ∈ T, x ∈ S ∨ w.heap.size ≤ x) : Only S w w2 :=
  ⟨k.os.trans h.os, k.tape.trans h.tape, k.output.trans h.output, Nat.le_trans h.size k.size, fun i hi hn =>
    (k.block i (Nat.lt_of_lt_of_le hi h.size) fun hx => (hT i hx).elim (fun e => hn e) (fun e => by omega)).trans (h.block i hi hn)⟩
theorem Only.more (h : Only S w w') (hS : ∀ x ∈ S, x ∈ T ∨ w.heap.size ≤ x) : Only T w w' :=
  ⟨h.os, h.tape, h.output, h.size, fun i hi hn => h.block i hi fun hx => (hS i hx).elim (fun e => hn e) (fun e => by omega)⟩
theorem Only.below (h : Only S w w') {B : Nat} (hB : B ≤ w.heap.size) (hS : ∀ x ∈ S, B ≤ x) : Below B w w' :=
  ⟨h.os, h.tape, h.output, h.size, fun i hi => h.block i (by omega) fun hx => by have := hS i hx; omega⟩
theorem Only.of_below (h : Below w.heap.size w w') : Only S w w' := ⟨h.os, h.tape, h.output, h.size, fun i hi _ => h.block i hi⟩
theorem Only.of_grown {row : Option Nat} (h : w.grownBy w' row) : Only row.toList w w' :=
  ⟨h.os, h.tape, h.output, h.size, fun i hi hn => h.block i hi fun e => hn (by rw [← e]; simp)⟩
theorem Only.alloc (h : Only S w w') (o : Obj) : Only S w (w'.alloc o) :=
  h.trans (T := []) ⟨rfl, rfl, rfl, by simp, fun k hk _ => Below.heap_alloc _ _ _ hk⟩ (by simp)
theorem Only.put (h : Only S w w') {p : Addr} (hp : p.block ∈ S ∨ w.heap.size ≤ p.block) (u : Value) : Only S w (w'.setCell p u) :=
  h.trans (T := [p.block]) ⟨rfl, rfl, rfl, by simp [World.setCell], fun k _ hn => Below.heap_setCell _ _ _ _ (fun e => hn (by simp [e]))⟩ (by simpa using hp)
theorem Only.draws (h : Only S w w') (n : Nat) : Only S w (w'.drewN n) := ⟨h.os, h.tape, h.output, h.size, h.block⟩
theorem Only.drew (h : Only S w w') : Only S w w'.drew := ⟨h.os, h.tape, h.output, h.size, h.block⟩

variable {base size : Nat} {e : TypeId} {v : Value} {l : List Byte} {n : Nat} {xs : List Value}
theorem own_only (h : w.ownsRow base e size v n xs) (k : Only S w w') (hS : ∀ i, v.ownBlock = some i → i ∉ S) : w'.ownsRow base e size v n xs := by
  refine ⟨h.1, ?_⟩
  rcases h.2 with h2 | ⟨g, cap, cur, rfl, hb, hg, rest⟩
  · exact .inl h2
  · exact .inr ⟨g, cap, cur, rfl, hb, (k.block g (lt_of_block hg) (hS g rfl)).trans hg, rest⟩
theorem Ow.only (h : Ow w base e v l) (k : Only S w w') (hS : ∀ i, v.ownBlock = some i → i ∉ S) : Ow w' base e v l := own_only h k hS
theorem Ow.below (h : Ow w base e v l) (hb : Below w.heap.size w w') : Ow w' base e v l := h.only (Only.of_below (S := []) hb) (by simp)
theorem Ow.draws (h : Ow w base e v l) (n : Nat) : Ow (w.drewN n) base e v l := h
theorem own_lt (h : w.ownsRow base e size v n xs) : ∀ i, v.ownBlock = some i → base ≤ i ∧ i < w.heap.size := h.lt
theorem Ow.lt (h : Ow w base e v l) : ∀ i, v.ownBlock = some i → base ≤ i ∧ i < w.heap.size := World.ownsRow.lt h
theorem own_apart (h : w.ownsRow base e size v n xs) (k : Cel w g t cs) (ht : e ≠ t) : v.ownBlock ≠ some g := by
  rcases h.2 with ⟨rfl, _⟩ | ⟨g', cap, cur, rfl, _, hg, _⟩
  · simp [Value.ownBlock]
  · intro he
    injection he with he
    exact Cel.apart (t := e) hg k ht he
theorem Ow.apart (h : Ow w base e v l) (k : Cel w g t cs) (ht : e ≠ t) : v.ownBlock ≠ some g := own_apart h k ht
theorem Ow.reads_len (h : Ow w base e v l) (hl : l.length = n) : ∃ A c, v = .slice A n c ∧ Bs w w.heap.size A l ∧ (A = none → c = 0) ∧ n ≤ c ∧ c ≤ maxLen := by
  subst hl; exact h.reads
theorem Ow.form_len (h : Ow w base e v l) {m : Nat} (hl : l.length = m + 1) : ∃ gr c, v = .slice (some ⟨gr, 0, none⟩) (m + 1) c ∧ base ≤ gr ∧ gr < w.heap.size ∧ m + 1 ≤ c ∧ c ≤ maxLen ∧
    (∀ i x, l[i]? = some x → w.cell? ⟨gr, i, none⟩ = some (B8 x)) ∧ ∀ i, w.frozen? ⟨gr, i, none⟩ = false := by
  have hcells := fun g (hv : v.ownBlock = some g) => h.cells (g := g) hv
  rcases h.2 with ⟨rfl, h0⟩ | ⟨g, cap, cur, rfl, hb, hh, hn, hm, _⟩
  · omega
  · refine ⟨g, cap, by rw [hl], hb, lt_of_block hh, by omega, hm, fun i x hx => ?_, fun i => Cel.free (t := e) hh i⟩
    have := hcells g rfl i (B8 x) (by simp [hx])
    rcases Nat.eq_zero_or_pos i with rfl | hi
    · simpa [Addr.add] using this
    · have hne : i ≠ 0 := by omega
      simpa [Addr.add, hne] using this
theorem Ow.more (h : Ow w base e v l) {b' : Nat} (hb : b' ≤ base) : Ow w b' e v l := by
  refine ⟨h.1, ?_⟩
  rcases h.2 with h2 | ⟨g, cap, cur, hv, hg, rest⟩
  · exact .inl h2
  · exact .inr ⟨g, cap, cur, hv, by omega, rest⟩
theorem Bs.only {B : Nat} {a : Option Addr} (h : Bs w B a l) (k : Only S w w') (hB : B ≤ w.heap.size) (hS : ∀ x ∈ S, B ≤ x) : Bs w' B a l := h.below (k.below hB hS)

/-- the last byte of a slice of the call's own, written in place -/
theorem Ow.set_ (h : Ow w base e v l) {gr i : Nat} (hv : v.ownBlock = some gr) (x : Byte) : Ow (w.setCell ⟨gr, i, none⟩ (B8 x)) base e v (l.set i x) := by
  obtain ⟨h1, h2⟩ := h
  refine ⟨by simp, ?_⟩
  rcases h2 with ⟨rfl, _⟩ | ⟨g, cap, cur, rfl, hb, hg, hn, hm, hs, ht⟩
  · cases hv
  · injection hv with hv
    have hv' : g = gr := hv
    subst hv'
    refine .inr ⟨g, cap, cur.setIfInBounds i (B8 x), by simp, hb, Cel.put (t := e) hg i (B8 x), by simpa using hn, hm, by simpa using hs, ?_⟩
    rw [Array.toList_setIfInBounds, List.take_set, List.length_set]
    rw [ht, List.map_set]
end
end Go.Proofs.Ytcmonalnhdodmaa

/-
  Slices of elements of k cells each, whatever they are (enc x: the cells of x), in a world: Rs (reads as a list), Os (a slice of the call's own that holds a list); append. No dump is imported.
-/
namespace Go.Proofs.Ytcmonalnhdodmaa.Row
open Go.RowKit

/-- what is asked of the elements' cells -/
structure Enc {α : Type} (enc : α → List Value) (k : Nat) : Prop where
  len : ∀ x, (enc x).length = k
  one : ∀ x, ∀ u ∈ enc x, u.oneCell' = true
  pos : 0 < k

section
variable {α : Type} {enc : α → List Value} {k : Nat}
def flat (enc : α → List Value) (l : List α) : List Value := l.flatMap enc
theorem flat_append (a b : List α) : flat enc (a ++ b) = flat enc a ++ flat enc b := List.flatMap_append
theorem flat_cons (x : α) (l : List α) : flat enc (x :: l) = enc x ++ flat enc l := rfl
theorem flat_length (h : Enc enc k) : ∀ l : List α, (flat enc l).length = l.length * k
  | [] => by simp [flat]
  | x :: l => by rw [flat_cons, List.length_append, flat_length h l, h.len, List.length_cons, Nat.succ_mul]; omega
theorem flat_at (h : Enc enc k) : ∀ {l : List α} {i j : Nat} {x : α} {u : Value}, l[i]? = some x → (enc x)[j]? = some u → (flat enc l)[i * k + j]? = some u
  | [], i, j, x, u, hx, _ => by simp at hx
  | y :: l, 0, j, x, u, hx, hu => by
    simp at hx; subst hx
    have hj := (List.getElem?_eq_some_iff.1 hu).1
    rw [flat_cons, Nat.zero_mul, Nat.zero_add, List.getElem?_append_left hj, hu]
  | y :: l, i + 1, j, x, u, hx, hu => by
    rw [flat_cons, List.getElem?_append_right (by rw [h.len, Nat.succ_mul]; omega), h.len, show (i + 1) * k + j - k = i * k + j by rw [Nat.succ_mul]; omega]
    exact flat_at h (by simpa using hx) hu
theorem flat_inv (h : Enc enc k) : ∀ {l : List α} {m : Nat} {u : Value}, (flat enc l)[m]? = some u → ∃ i j x, m = i * k + j ∧ l[i]? = some x ∧ (enc x)[j]? = some u
  | [], m, u, hu => by simp [flat] at hu
  | y :: l, m, u, hu => by
    rw [flat_cons] at hu
    rcases Nat.lt_or_ge m k with hm | hm
    · rw [List.getElem?_append_left (by rw [h.len]; exact hm)] at hu
      exact ⟨0, m, y, by simp, by simp, hu⟩
    · rw [List.getElem?_append_right (by rw [h.len]; exact hm), h.len] at hu
      obtain ⟨i, j, x, e, hx, hj⟩ := flat_inv h hu
      exact ⟨i + 1, j, x, by rw [Nat.succ_mul]; omega, by simpa using hx, hj⟩
theorem flat_one (h : Enc enc k) (l : List α) : ∀ u ∈ flat enc l, u.oneCell' = true := by
  intro u hu
  obtain ⟨x, _, hx⟩ := List.mem_flatMap.1 hu
  exact h.one x u hx

/-- type t is a slice of e; e's zero value z has k cells; an element has 'bytes' bytes -/
def IsRows (P : Program) (t e : TypeId) (z : Value) (k bytes : Nat) : Prop :=
  P.underlying t = some (.slice e) ∧ z.cells.size = k ∧ ∃ i, P.info? e = some i ∧ i.zero = some z ∧ i.size = k ∧ i.bytes = bytes
theorem IsRows.of {P : Program} {t e : TypeId} {z : Value} {k bytes : Nat} (ht : P.underlying t = some (.slice e)) (hz : z.cells.size = k) (h : (P.info? e).map (fun i => (i.zero, i.size, i.bytes)) = some (some z, k, bytes)) : IsRows P t e z k bytes := by
  obtain ⟨i, h0, h1, h2, h3⟩ := info_parts h
  exact ⟨ht, hz, i, h0, h1, h2, h3⟩

/-- 'A' leads to the elements l, all below block B; of the empty list nothing is asked -/
def Rs (enc : α → List Value) (k : Nat) (w : World) (B : Nat) (A : Option Addr) (l : List α) : Prop :=
  0 < l.length → ∃ b off, A = some ⟨b, off, none⟩ ∧ b < B ∧ ∀ i x, l[i]? = some x → ∀ j u, (enc x)[j]? = some u → w.cell? ⟨b, off + i * k + j, none⟩ = some u
/-- v is a slice of the call's own (blocks from base on) that holds l -/
def Os (enc : α → List Value) (k : Nat) (w : World) (base : Nat) (e : TypeId) (v : Value) (l : List α) : Prop := w.ownsRow base e k v l.length (flat enc l)

theorem add_zero_cell (w : World) (g j : Nat) : w.cell? ((⟨g, 0, none⟩ : Addr).add j) = w.cell? ⟨g, j, none⟩ := by
  rcases Nat.eq_zero_or_pos j with rfl | hj
  · rfl
  · have hne : j ≠ 0 := by omega
    simp [Addr.add, hne]

variable {w w' : World} {B B' : Nat} {a : Option Addr} {l : List α} {base : Nat} {e : TypeId} {v : Value} {S : List Nat}
theorem Rs.nil_ : Rs enc k w B a [] := fun h => absurd h (by simp)
theorem Rs.keep (h : Rs enc k w B a l) (hk : ∀ p : Addr, p.block < B → w'.cell? p = w.cell? p) : Rs enc k w' B a l := fun hl => by
  obtain ⟨b, off, rfl, hb, hc⟩ := h hl
  exact ⟨b, off, rfl, hb, fun i x hx j u hu => (hk ⟨b, off + i * k + j, none⟩ hb).trans (hc i x hx j u hu)⟩
theorem Rs.below (h : Rs enc k w B a l) (hb : Below B w w') : Rs enc k w' B a l := h.keep fun _ hp => hb.cell hp
theorem Rs.more (h : Rs enc k w B a l) (hB : B ≤ B') : Rs enc k w B' a l := fun hl => by
  obtain ⟨b, off, rfl, hb, hc⟩ := h hl
  exact ⟨b, off, rfl, by omega, hc⟩
theorem Rs.only (h : Rs enc k w B a l) (q : Only S w w') (hB : B ≤ w.heap.size) (hS : ∀ x ∈ S, B ≤ x) : Rs enc k w' B a l := h.below (q.below hB hS)
theorem Rs.draws (h : Rs enc k w B a l) (n : Nat) : Rs enc k (w.drewN n) B a l := h
theorem Rs.drew (h : Rs enc k w B a l) : Rs enc k w.drew B a l := h
theorem Rs.at_ (h : Rs enc k w B a l) {i : Nat} (hi : i < l.length) : ∃ b off, a = some ⟨b, off, none⟩ ∧ b < B ∧ ∀ j u, (enc l[i])[j]? = some u → w.cell? ⟨b, off + i * k + j, none⟩ = some u := by
  obtain ⟨b, off, rfl, hb, hc⟩ := h (by omega)
  exact ⟨b, off, rfl, hb, hc i _ (List.getElem?_eq_getElem hi)⟩
theorem Rs.take (h : Rs enc k w B a l) (n : Nat) : Rs enc k w B a (l.take n) := fun hl => by
  obtain ⟨b, off, he, hb, hc⟩ := h (by simp at hl; omega)
  refine ⟨b, off, he, hb, fun i x hx => hc i x ?_⟩
  rw [List.getElem?_take] at hx
  split at hx
  · exact hx
  · cases hx
theorem Rs.drop {b off : Nat} (h : Rs enc k w B (some ⟨b, off, none⟩) l) (n : Nat) : Rs enc k w B (some ⟨b, off + n * k, none⟩) (l.drop n) := fun hl => by
  obtain ⟨_, _, he, hb, hc⟩ := h (by simp at hl; omega)
  cases he
  refine ⟨b, off + n * k, rfl, hb, fun i x hx j u hu => ?_⟩
  have := hc (n + i) x (by rw [List.getElem?_drop] at hx; exact hx) j u hu
  rw [show off + n * k + i * k + j = off + (n + i) * k + j by rw [Nat.add_mul]; omega]
  exact this
theorem Rs_new (h : Enc enc k) (w : World) (e : TypeId) (l : List α) (C : Array Value) (hC : C = (flat enc l).toArray) (B : Nat) (hB : w.heap.size < B) : Rs enc k (w.alloc (.cells C e)) B (some ⟨w.heap.size, 0, none⟩) l := fun _ => by
  refine ⟨w.heap.size, 0, rfl, hB, fun i x hx j u hu => ?_⟩
  rw [Nat.zero_add, cell_of_row _ _ _ _ e (0, 0) (heap_alloc_new w _), hC]
  simpa using flat_at h hx hu
theorem Rs_new1 (h : Enc enc k) (w : World) (e : TypeId) (x : α) (C : Array Value) (hC : C = (enc x).toArray) : Rs enc k (w.alloc (.cells C e)) (w.heap.size + 1) (some ⟨w.heap.size, 0, none⟩) [x] := Rs_new h w e [x] C (by rw [hC]; simp [flat]) _ (by omega)

theorem Os.nil_ (w : World) (base : Nat) (e : TypeId) : Os enc k w base e (.slice none 0 0) [] := ⟨by simp [flat], .inl ⟨rfl, rfl⟩⟩
theorem Os.empty (w : World) (base : Nat) (e : TypeId) (hb : base ≤ w.heap.size) : Os enc k (w.alloc (.cells #[] e)) base e (.slice (some ⟨w.heap.size, 0, none⟩) 0 0) [] :=
  ⟨by simp [flat], .inr ⟨w.heap.size, 0, #[], rfl, hb, heap_alloc_new w _, Nat.le_refl _, by simp, by simp, by simp [flat]⟩⟩
theorem Os.lt (h : Os enc k w base e v l) : ∀ i, v.ownBlock = some i → base ≤ i ∧ i < w.heap.size := World.ownsRow.lt h
theorem Os.base_le (h : Os enc k w base e v l) : ∀ i, v.ownBlock = some i → base ≤ i := fun i hi => (h.lt i hi).1
theorem Os.only (h : Os enc k w base e v l) (q : Only S w w') (hS : ∀ i, v.ownBlock = some i → i ∉ S) : Os enc k w' base e v l := own_only h q hS
theorem Os.below (h : Os enc k w base e v l) (hb : Below w.heap.size w w') : Os enc k w' base e v l := h.only (Only.of_below (S := []) hb) (by simp)
theorem Os.alloc (h : Os enc k w base e v l) (o : Obj) : Os enc k (w.alloc o) base e v l := World.ownsRow.alloc h o
theorem Os.draws (h : Os enc k w base e v l) (n : Nat) : Os enc k (w.drewN n) base e v l := h
theorem Os.drew (h : Os enc k w base e v l) : Os enc k w.drew base e v l := World.ownsRow.drew h
theorem Os.grown {o : Obj} {row : Option Nat} (h : Os enc k w base e v l) (q : (w.alloc o).grownBy w' row) (hne : ∀ i, v.ownBlock = some i → row ≠ some i) : Os enc k w' base e v l :=
  (h.alloc o).only (Only.of_grown q) (fun i hi hm => hne i hi (by simpa using hm))
theorem Os.more (h : Os enc k w base e v l) {b' : Nat} (hb : b' ≤ base) : Os enc k w b' e v l := by
  refine ⟨h.1, ?_⟩
  rcases h.2 with h2 | ⟨g, cap, cur, hv, hg, rest⟩
  · exact .inl h2
  · exact .inr ⟨g, cap, cur, hv, by omega, rest⟩
theorem Os.reads (hE : Enc enc k) (h : Os enc k w base e v l) : ∃ A c, v = .slice A l.length c ∧ Rs enc k w w.heap.size A l ∧ (A = none → c = 0) ∧ l.length ≤ c ∧ c ≤ maxLen := by
  have hcells := fun g cap (hv : v = .slice (some ⟨g, 0, none⟩) l.length cap) => World.ownsRow.cells h (g := g) (by rw [hv]; rfl)
  rcases h.2 with ⟨rfl, h0⟩ | ⟨g, cap, cur, rfl, _, hh, hn, hm, _⟩
  · have : l = [] := List.eq_nil_of_length_eq_zero h0
    subst this
    exact ⟨none, 0, rfl, Rs.nil_, fun _ => rfl, by simp, by simp⟩
  · refine ⟨some ⟨g, 0, none⟩, cap, rfl, fun _ => ⟨g, 0, rfl, lt_of_block hh, fun i x hx j u hu => ?_⟩, by simp, hn, hm⟩
    have := hcells g cap rfl (i * k + j) _ (flat_at hE hx hu)
    rw [add_zero_cell] at this
    rw [Nat.zero_add]; exact this
theorem Os.reads_len (hE : Enc enc k) {n : Nat} (h : Os enc k w base e v l) (hl : l.length = n) : ∃ A c, v = .slice A n c ∧ Rs enc k w w.heap.size A l ∧ (A = none → c = 0) ∧ n ≤ c ∧ c ≤ maxLen := by
  subst hl; exact h.reads hE
theorem Os.rs (hE : Enc enc k) {A : Option Addr} {n c : Nat} (h : Os enc k w base e (.slice A n c) l) : Rs enc k w w.heap.size A l := by
  obtain ⟨A', c', he, h2, _⟩ := h.reads hE
  cases he
  exact h2
theorem Os.addr {A : Option Addr} {n c : Nat} (h : Os enc k w base e (.slice A n c) l) : (A = none ∧ c = 0) ∨ ∃ g, A = some ⟨g, 0, none⟩ := by
  rcases h.2 with ⟨he, _⟩ | ⟨g, cap, cur, he, _⟩
  · cases he; exact .inl ⟨rfl, rfl⟩
  · cases he; exact .inr ⟨g, rfl⟩
theorem Os.apart {g : Nat} {t : TypeId} {cs : Array Value} (h : Os enc k w base e v l) (q : Cel w g t cs) (ht : e ≠ t) : v.ownBlock ≠ some g := own_apart h q ht
/-- a block that is known whole, as a slice of the call's own -/
theorem Os_of_cel (hE : Enc enc k) {g : Nat} (h : Cel w g e (flat enc l).toArray) (hb : base ≤ g) (hl : l.length ≤ maxLen) : Os enc k w base e (.slice (some ⟨g, 0, none⟩) l.length l.length) l :=
  ⟨flat_length hE l, .inr ⟨g, l.length, _, rfl, hb, h, Nat.le_refl _, hl, by simp [flat_length hE], List.take_of_length_le (by simp [flat_length hE])⟩⟩

/-! ### append -/
variable {P : Program} (w)
theorem run_row (hE : Enc enc k) {t e ty : TypeId} {z : Value} {bytes : Nat} (hT : IsRows P t e z k bytes) (hby : bytes ≤ 4096) {base : Nat} {v : Value} {m : List α} (hown : Os enc k w base e v m)
    {B : Nat} {A : Option Addr} {l : List α} {c : Nat} (hr : Rs enc k w B A l) (hn : A = none → c = 0) (h47 : m.length + l.length ≤ 34359738368) (hbase : base ≤ w.heap.size) :
    ∃ v' w', (Builtin.append_ #[t, t] ty #[v, .slice A l.length c]).run P w = .ok v' w' ∧ Os enc k w' base e v' (m ++ l) ∧ w.grownBy w' v.ownBlock ∧ (v'.ownBlock = v.ownBlock ∨ v'.ownBlock = some w.heap.size) := by
  obtain ⟨ht, hzc, i, hi, hz, h1, h2⟩ := hT
  cases A with
  | none =>
    have hl : l = [] := by
      rcases Nat.eq_zero_or_pos l.length with h0 | h0
      · exact List.eq_nil_of_length_eq_zero h0
      · obtain ⟨b, off, h, _⟩ := hr h0; cases h
    subst hl
    obtain rfl : c = 0 := hn rfl
    exact ⟨v, w, run_append_owned_none w base t ty e i k ht hi v m.length _ hown, by simpa using hown, World.grownBy.refl w _, .inl rfl⟩
  | some ad =>
    obtain ⟨v', w', hrun, ho, hg, _, h5⟩ := run_append_own_at (P := P) w base t ty e i z k bytes ht hi hz h1 h2 hzc hE.pos v m.length (flat enc m) hown ad l.length c (flat enc l)
      (flat_length hE l) (fun q u hu => by
        obtain ⟨i, j, x, rfl, hx, hj⟩ := flat_inv hE hu
        have hil := (List.getElem?_eq_some_iff.1 hx).1
        obtain ⟨b, off, he, _, hc⟩ := hr (by omega)
        injection he with he
        subst he
        have e2 : w.cell? ((⟨b, off, none⟩ : Addr).add (i * k + j)) = w.cell? ⟨b, off + (i * k + j), none⟩ := by
          rcases Nat.eq_zero_or_pos (i * k + j) with h0 | h0
          · rw [h0]; rfl
          · have hne : i * k + j ≠ 0 := by omega
            simp only [Addr.add, if_neg hne]
        rw [e2, ← Nat.add_assoc]
        exact hc i x hx j u hj) (flat_one hE l) (by unfold maxLen; omega) (Nat.le_trans (Nat.mul_le_mul h47 hby) (by decide)) hbase
    exact ⟨v', w', hrun, by unfold Os; rw [List.length_append, flat_append]; exact ho, hg, h5⟩
theorem wp_row (hE : Enc enc k) {t e : TypeId} {z : Value} {bytes : Nat} (hT : IsRows P t e z k bytes) (hby : bytes ≤ 4096) {o : Oper} {a : Act} {K : Act → World → Prop} {Q : Exit → Act → World → Prop} (s x : Operand)
    (ho : o.op = .call { callee := .builtin .append, args := #[s, x], argTypes := #[t, t] })
    {base : Nat} {v : Value} {m : List α} (hs : a.eval s = v) (hown : Os enc k w base e v m)
    {B n : Nat} {A : Option Addr} {l : List α} {c : Nat} (hl : l.length = n) (hx : a.eval x = .slice A n c) (hr : Rs enc k w B A l) (hn : A = none → c = 0) (h47 : m.length + l.length ≤ 34359738368) (hbase : base ≤ w.heap.size)
    (h : ∀ v' w', Os enc k w' base e v' (m ++ l) → w.grownBy w' v.ownBlock → (v'.ownBlock = v.ownBlock ∨ v'.ownBlock = some w.heap.size) → K (a.put o.dst v') w') : o.wp P a w K Q := by
  subst hl
  obtain ⟨v', w', hrun, h2, h3, h4⟩ := run_row (P := P) (ty := o.type) w hE hT hby hown hr hn h47 hbase
  unfold Oper.wp execOp
  simp only [ho, resolve, invoke, builtin, Sem.run_bind, Sem.run_pure, Result.andThen_ok, List.map_toArray, List.map_cons, List.map_nil, hs, hx, hrun]
  exact h v' w' h2 h3 h4
theorem wpList_row (hE : Enc enc k) {t e : TypeId} {z : Value} {bytes : Nat} (hT : IsRows P t e z k bytes) (hby : bytes ≤ 4096) {ops : Array Oper} {rest : List Oper} {o : Oper} {a : Act} {Q : Exit → Act → World → Prop} (hgd : o.guard = none) (s x : Operand)
    (ho : o.op = .call { callee := .builtin .append, args := #[s, x], argTypes := #[t, t] })
    {base : Nat} {v : Value} {m : List α} (hs : a.eval s = v) (hown : Os enc k w base e v m)
    {B n : Nat} {A : Option Addr} {l : List α} {c : Nat} (hl : l.length = n) (hx : a.eval x = .slice A n c) (hr : Rs enc k w B A l) (hn : A = none → c = 0) (h47 : m.length + l.length ≤ 34359738368) (hbase : base ≤ w.heap.size)
    (h : ∀ v' w', Os enc k w' base e v' (m ++ l) → w.grownBy w' v.ownBlock → (v'.ownBlock = v.ownBlock ∨ v'.ownBlock = some w.heap.size) → wpList P ops Q rest (a.put o.dst v') w') : wpList P ops Q (o :: rest) a w :=
  wpList_plain hgd fun _ hK => wp_row w hE hT hby s x ho hs hown hl hx hr hn h47 hbase fun v' w' h2 h3 h4 => hK _ _ (h v' w' h2 h3 h4)
theorem step_row (hE : Enc enc k) {t e : TypeId} {z : Value} {bytes : Nat} (hT : IsRows P t e z k bytes) (hby : bytes ≤ 4096) {ops : Array Oper} {o : Oper} {a : Act} {K : Act → World → Prop} {Q : Exit → Act → World → Prop} {E : Prop} (hgd : o.guard = none) (s x : Operand)
    (ho : o.op = .call { callee := .builtin .append, args := #[s, x], argTypes := #[t, t] })
    {base : Nat} {v : Value} {m : List α} (hs : a.eval s = v) (hown : Os enc k w base e v m)
    {B n : Nat} {A : Option Addr} {l : List α} {c : Nat} (hl : l.length = n) (hx : a.eval x = .slice A n c) (hr : Rs enc k w B A l) (hn : A = none → c = 0) (h47 : m.length + l.length ≤ 34359738368) (hbase : base ≤ w.heap.size)
    (h : ∀ v' w', Os enc k w' base e v' (m ++ l) → w.grownBy w' v.ownBlock → (v'.ownBlock = v.ownBlock ∨ v'.ownBlock = some w.heap.size) → K (a.put o.dst v') w') :
    if Region.wanted o (yielded ops a.tmps) = true then Oper.wp P o a w K Q else E := by
  have hw : Region.wanted o (yielded ops a.tmps) = true := by simp [Region.wanted, hgd]
  rw [if_pos hw]
  exact wp_row w hE hT hby s x ho hs hown hl hx hr hn h47 hbase h

/-! ### the row behind a slice of the call's own -/
variable {w}
/-- block g holds l and as many cells more as capacity c says -/
def Rw (enc : α → List Value) (k : Nat) (w : World) (e : TypeId) (g c : Nat) (l : List α) : Prop := ∃ sp : List Value, Cel w g e (flat enc l ++ sp).toArray ∧ l.length * k + sp.length = c * k ∧ c ≤ maxLen
theorem Os.row (h : Os enc k w base e v l) (hl : 0 < l.length) : ∃ g c, v = .slice (some ⟨g, 0, none⟩) l.length c ∧ base ≤ g ∧ l.length ≤ c ∧ Rw enc k w e g c l := by
  rcases h.2 with ⟨rfl, h0⟩ | ⟨g, cap, cur, rfl, hb, hh, hn, hm, hs, ht⟩
  · omega
  · refine ⟨g, cap, rfl, hb, hn, cur.toList.drop (l.length * k), ?_, ?_, hm⟩
    · have : flat enc l ++ cur.toList.drop (l.length * k) = cur.toList := by rw [← ht, List.take_append_drop]
      unfold Cel
      rw [this]; exact hh
    · have := Nat.mul_le_mul_right k hn
      rw [List.length_drop, show cur.toList.length = cap * k by simpa using hs]; omega
theorem Rw.os (hE : Enc enc k) {g c : Nat} (h : Rw enc k w e g c l) (hb : base ≤ g) (hc : l.length ≤ c) : Os enc k w base e (.slice (some ⟨g, 0, none⟩) l.length c) l := by
  obtain ⟨sp, hh, hs, hm⟩ := h
  refine ⟨flat_length hE l, .inr ⟨g, c, _, rfl, hb, hh, hc, hm, ?_, ?_⟩⟩
  · simp [flat_length hE]; omega
  · rw [List.toList_toArray, ← flat_length hE l, List.take_left]
/-- one cell of an element, written in place -/
theorem Os.set_ (hE : Enc enc k) {gr i j : Nat} {x x' : α} {u : Value} (h : Os enc k w base e v l) (hv : v.ownBlock = some gr) (hx : l[i]? = some x) (hx' : enc x' = (enc x).set j u) (hj : j < k) : Os enc k (w.setCell ⟨gr, i * k + j, none⟩ u) base e v (l.set i x') := by
  have hil := (List.getElem?_eq_some_iff.1 hx).1
  have hfl : flat enc (l.set i x') = (flat enc l).set (i * k + j) u := by
    apply List.ext_getElem?
    intro m
    by_cases hm : m < l.length * k
    · have hm2 : m < (flat enc l).length := by rw [flat_length hE]; exact hm
      obtain ⟨i2, j2, y, rfl, hy, hyj⟩ := flat_inv hE (List.getElem?_eq_getElem hm2)
      have hj2 : j2 < k := by have := (List.getElem?_eq_some_iff.1 hyj).1; rwa [hE.len] at this
      by_cases e1 : i2 = i
      · subst e1
        rw [hx] at hy
        injection hy with hy
        subst hy
        have hj2' : j2 < (enc x').length := by rw [hE.len]; exact hj2
        rw [flat_at hE (x := x') (by simp [hil]) (List.getElem?_eq_getElem hj2'), List.getElem?_set]
        by_cases e2 : j2 = j
        · subst e2
          rw [if_pos rfl, if_pos hm2]
          congr 1
          rw [List.getElem_of_eq hx', List.getElem_set_self]
        · rw [if_neg (by omega), List.getElem?_eq_getElem hm2, ← hyj, List.getElem?_eq_getElem (by rw [hE.len]; exact hj2)]
          congr 1
          rw [List.getElem_of_eq hx', List.getElem_set_ne (by omega)]
      · have hne : i2 * k + j2 ≠ i * k + j := fun e => e1 (by
          have h1 : (i2 * k + j2) / k = i2 := by rw [Nat.mul_comm, Nat.mul_add_div hE.pos, Nat.div_eq_of_lt hj2, Nat.add_zero]
          have h2 : (i * k + j) / k = i := by rw [Nat.mul_comm, Nat.mul_add_div hE.pos, Nat.div_eq_of_lt hj, Nat.add_zero]
          rw [← h1, e, h2])
        rw [List.getElem?_set_ne (by omega), List.getElem?_eq_getElem hm2]
        exact flat_at hE (by rw [List.getElem?_set_ne (by omega)]; exact hy) hyj
    · rw [List.getElem?_eq_none (by rw [flat_length hE, List.length_set]; omega), List.getElem?_eq_none (by rw [List.length_set, flat_length hE]; omega)]
  obtain ⟨h1, h2⟩ := h
  refine ⟨by rw [flat_length hE], ?_⟩
  rcases h2 with ⟨rfl, _⟩ | ⟨g, cap, cur, rfl, hb, hg, hn, hm, hs, ht⟩
  · cases hv
  · injection hv with hv
    have hv' : g = gr := hv
    subst hv'
    refine .inr ⟨g, cap, cur.setIfInBounds (i * k + j) u, by simp, hb, Cel.put (t := e) hg (i * k + j) u, by simpa using hn, hm, by simpa using hs, ?_⟩
    rw [Array.toList_setIfInBounds, List.take_set, List.length_set, ht, hfl]
end
end Go.Proofs.Ytcmonalnhdodmaa.Row

/-
  Copy, clear and append with room on a row that is known whole, at elements of whatever size; lists of cells. No dump is imported.
-/
namespace Go.Proofs.Ytcmonalnhdodmaa.Row
open Go.RowKit

section
variable {P : Program} (w : World)

theorem run_copyK (dT sT ty elem : TypeId) (size g o dLen dCap : Nat) (a : Addr) (sLen sCap n : Nat) (cur : List Value) (t : TypeId) (cs : List Value)
    (hu : P.underlying dT = some (.slice elem)) (hs : (P.info? elem).map (·.size) = some size)
    (hg : Cel w g t cur.toArray) (hm : Nat.min sLen dLen = n) (hn : cs.length = n * size)
    (hsrc : ∀ j v, cs[j]? = some v → w.cell? (a.add j) = some v) (hfit : o + cs.length ≤ cur.length) (h1 : ∀ v ∈ cs, v.oneCell' = true) :
    (Builtin.copy_ #[dT, sT] ty #[.slice (some ⟨g, o, none⟩) dLen dCap, .slice (some a) sLen sCap]).run P w =
      .ok (goInt n) (w.setRow g (splice cur o cs).toArray) := by
  have hl := run_loadCells_list (P := P) w a cs hsrc
  have hst := run_storeCells_at P g o t cs 0 cur.toArray w hg (by simpa using hfit) h1
  have esp : splice cur o cs = cur.take (o + 0) ++ cs ++ cur.drop (o + 0 + cs.length) := by simp [splice]
  rw [esp]
  cases hq : P.info? elem with
  | none => simp [hq] at hs
  | some i =>
    have hi : i.size = size := by simpa [hq] using hs
    simp [Builtin.copy_, run_underlying hu, Builtin.lenOf, Builtin.firstCells, sizeOf, typeInfo, hq, hi, ← hn, hm, hl, hst]

theorem run_clearK (tS ty elem : TypeId) (z : Value) (g o n c : Nat) (cur : List Value) (t : TypeId) (cs : List Value)
    (hu : P.underlying tS = some (.slice elem)) (hv : ∀ w, (zeroValue elem).run P w = .ok z w) (hcs : z.cells.toList = cs) (hn : n = 1)
    (hg : Cel w g t cur.toArray) (hfit : o + cs.length ≤ cur.length) (h1 : ∀ v ∈ cs, v.oneCell' = true) :
    (Builtin.clear_ #[tS] ty #[.slice (some ⟨g, o, none⟩) n c]).run P w = .ok (.tuple #[]) (w.setRow g (splice cur o cs).toArray) := by
  subst hn
  have hz : (Builtin.zeroCells z.cells 1).toList = cs := by
    rw [← hcs]
    apply List.ext_getElem
    · simp [Builtin.zeroCells]
    · intro i k1 k2
      simp [Builtin.zeroCells] at k1 k2 ⊢
      simp [Nat.mod_eq_of_lt k2]
      exact getElem!_pos z.cells i k2
  have hst := run_storeCells_at P g o t cs 0 cur.toArray w hg (by simpa using hfit) h1
  have esp : splice cur o cs = cur.take (o + 0) ++ cs ++ cur.drop (o + 0 + cs.length) := by simp [splice]
  rw [esp]
  simp [Builtin.clear_, run_underlying hu, hv, hz, hst]

theorem run_appendK (t ty e : TypeId) (size g n c : Nat) (a : Addr) (m c' r : Nat) (cur : List Value) (T : TypeId) (news : List Value)
    (hu : P.underlying t = some (.slice e)) (hs : (P.info? e).map (·.size) = some size) (hg : Cel w g T cur.toArray) (hl : news.length = m * size)
    (hsrc : ∀ j v, news[j]? = some v → w.cell? (a.add j) = some v) (hroom : n + m ≤ c) (hr : n + m = r) (hfit : n * size + news.length ≤ cur.length) (h1 : ∀ v ∈ news, v.oneCell' = true) :
    (Builtin.append_ #[t, t] ty #[.slice (some ⟨g, 0, none⟩) n c, .slice (some a) m c']).run P w = .ok (.slice (some ⟨g, 0, none⟩) r c) (w.setRow g (splice cur (n * size) news).toArray) := by
  have hst := run_storeCells_at P g (n * size) T news 0 cur.toArray w hg (by simpa using hfit) h1
  have esp : splice cur (n * size) news = cur.take (n * size + 0) ++ news ++ cur.drop (n * size + 0 + news.length) := by simp [splice]
  rw [esp]
  subst hr
  cases hq : P.info? e with
  | none => simp [hq] at hs
  | some i =>
    have hi : i.size = size := by simpa [hq] using hs
    have hfc := run_firstCells_some (P := P) w size m a m c' news hl hsrc
    simp [Builtin.append_, run_underlying hu, sizeOf, typeInfo, hq, hi, Builtin.lenOf, hroom, hfc, Addr.add_lit, hst]

/-- a builtin of two operands whose run is known -/
theorem wp_bi2 {bi : Builtin} {o : Oper} {a : Act} {K : Act → World → Prop} {Q : Exit → Act → World → Prop} (d s : Operand) (t t' : TypeId)
    (ho : o.op = .call { callee := .builtin bi, args := #[d, s], argTypes := #[t, t'] }) (v u : Value) (hd : a.eval d = v) (hs : a.eval s = u) {v' : Value} {w' : World}
    (hbi : bi = .copy ∨ bi = .append)
    (hr : (match bi with | .copy => Builtin.copy_ #[t, t'] o.type #[v, u] | _ => Builtin.append_ #[t, t'] o.type #[v, u]).run P w = .ok v' w') (h : K (a.put o.dst v') w') : o.wp P a w K Q := by
  rcases hbi with rfl | rfl
  all_goals
    unfold Oper.wp execOp
    simp only [ho, resolve, invoke, builtin, Sem.run_bind, Sem.run_pure, Result.andThen_ok, List.map_toArray, List.map_cons, List.map_nil, hd, hs, hr]
    exact h
theorem wpList_copyK {ops : Array Oper} {rest : List Oper} {o : Oper} {a : Act} {Q : Exit → Act → World → Prop} (hgd : o.guard = none) (d s : Operand) (t t' : TypeId)
    (ho : o.op = .call { callee := .builtin .copy, args := #[d, s], argTypes := #[t, t'] }) (v u : Value) (hd : a.eval d = v) (hs : a.eval s = u) {v' : Value} {w' : World}
    (hr : (Builtin.copy_ #[t, t'] o.type #[v, u]).run P w = .ok v' w') (h : wpList P ops Q rest (a.put o.dst v') w') : wpList P ops Q (o :: rest) a w :=
  wpList_plain hgd fun _ hK => wp_bi2 w d s t t' ho v u hd hs (.inl rfl) hr (hK _ _ h)
theorem step_copyK {ops : Array Oper} {o : Oper} {a : Act} {K : Act → World → Prop} {Q : Exit → Act → World → Prop} {E : Prop} (hgd : o.guard = none) (d s : Operand) (t t' : TypeId)
    (ho : o.op = .call { callee := .builtin .copy, args := #[d, s], argTypes := #[t, t'] }) (v u : Value) (hd : a.eval d = v) (hs : a.eval s = u) {v' : Value} {w' : World}
    (hr : (Builtin.copy_ #[t, t'] o.type #[v, u]).run P w = .ok v' w') (h : K (a.put o.dst v') w') : if Region.wanted o (yielded ops a.tmps) = true then Oper.wp P o a w K Q else E := by
  have hw : Region.wanted o (yielded ops a.tmps) = true := by simp [Region.wanted, hgd]
  rw [if_pos hw]
  exact wp_bi2 w d s t t' ho v u hd hs (.inl rfl) hr h
theorem wpList_appendK {ops : Array Oper} {rest : List Oper} {o : Oper} {a : Act} {Q : Exit → Act → World → Prop} (hgd : o.guard = none) (d s : Operand) (t t' : TypeId)
    (ho : o.op = .call { callee := .builtin .append, args := #[d, s], argTypes := #[t, t'] }) (v u : Value) (hd : a.eval d = v) (hs : a.eval s = u) {v' : Value} {w' : World}
    (hr : (Builtin.append_ #[t, t'] o.type #[v, u]).run P w = .ok v' w') (h : wpList P ops Q rest (a.put o.dst v') w') : wpList P ops Q (o :: rest) a w :=
  wpList_plain hgd fun _ hK => wp_bi2 w d s t t' ho v u hd hs (.inr rfl) hr (hK _ _ h)
theorem step_appendK {ops : Array Oper} {o : Oper} {a : Act} {K : Act → World → Prop} {Q : Exit → Act → World → Prop} {E : Prop} (hgd : o.guard = none) (d s : Operand) (t t' : TypeId)
    (ho : o.op = .call { callee := .builtin .append, args := #[d, s], argTypes := #[t, t'] }) (v u : Value) (hd : a.eval d = v) (hs : a.eval s = u) {v' : Value} {w' : World}
    (hr : (Builtin.append_ #[t, t'] o.type #[v, u]).run P w = .ok v' w') (h : K (a.put o.dst v') w') : if Region.wanted o (yielded ops a.tmps) = true then Oper.wp P o a w K Q else E := by
  have hw : Region.wanted o (yielded ops a.tmps) = true := by simp [Region.wanted, hgd]
  rw [if_pos hw]
  exact wp_bi2 w d s t t' ho v u hd hs (.inr rfl) hr h
end

section
variable {w w' : World} {g : Nat} {S : List Nat}
theorem Cel_row {t : TypeId} {cs : Array Value} (h : Cel w g t cs) (l : List Value) : Cel (w.setRow g l.toArray) g t l.toArray := setRow_heap w g _ _ t _ h
theorem only_setRow (w : World) (g : Nat) (cs : Array Value) : Only [g] w (w.setRow g cs) :=
  ⟨rfl, rfl, rfl, by simp [World.setRow], fun k _ hn => setRow_other w g k cs (by simpa using hn)⟩
theorem Only_row (h : Only S w w') (hg : g ∈ S ∨ w.heap.size ≤ g) (cs : Array Value) : Only S w (w'.setRow g cs) :=
  h.trans (only_setRow w' g cs) (by simpa using hg)
end

/-! ### lists of cells -/
theorem splice_delete (fa ex fb sp : List Value) (z : List Value) (hz : z.length = ex.length) :
    ∃ sp', splice (splice (fa ++ (ex ++ (fb ++ sp))) fa.length fb) (fa ++ fb).length z = (fa ++ fb) ++ sp' ∧ sp'.length = ex.length + sp.length := by
  have e1 : splice (fa ++ (ex ++ (fb ++ sp))) fa.length fb = (fa ++ fb) ++ (ex ++ (fb ++ sp)).drop fb.length := by
    unfold splice
    rw [List.take_left, List.drop_append, List.drop_eq_nil_of_le («as» := fa) (by omega), Nat.add_sub_cancel_left, List.nil_append, List.append_assoc]
  rw [e1]
  refine ⟨z ++ ((ex ++ (fb ++ sp)).drop fb.length).drop z.length, ?_, ?_⟩
  · unfold splice
    rw [List.take_left, List.drop_append, List.drop_eq_nil_of_le («as» := fa ++ fb) (by omega), Nat.add_sub_cancel_left, List.nil_append]
  · simp; omega
theorem splice_insert (fa ex fb sp : List Value) (hs : ex.length ≤ sp.length) :
    ∃ sp', splice (splice (fa ++ (fb ++ sp)) (fa.length + ex.length) fb) fa.length ex = (fa ++ (ex ++ fb)) ++ sp' ∧ sp'.length + ex.length = sp.length := by
  refine ⟨sp.drop ex.length, ?_, by simp; omega⟩
  have h1 : (splice (fa ++ (fb ++ sp)) (fa.length + ex.length) fb).take fa.length = fa := by
    unfold splice
    rw [List.take_append_of_le_length (by simp), List.take_take, Nat.min_eq_left (by omega), List.take_left]
  have h2 : (splice (fa ++ (fb ++ sp)) (fa.length + ex.length) fb).drop (fa.length + ex.length) = fb ++ sp.drop ex.length := by
    unfold splice
    rw [List.drop_append, List.drop_eq_nil_of_le (by simp; omega), List.nil_append, List.length_take, Nat.min_eq_left (by simp; omega), Nat.sub_self, List.drop_zero]
    congr 1
    rw [List.drop_append, List.drop_eq_nil_of_le (by omega), List.nil_append, List.drop_append, List.drop_eq_nil_of_le (by omega), List.nil_append]
    congr 1; omega
  rw [splice, h1, h2]; simp
theorem splice_grow (fa ex fb zs : List Value) (hz : ex.length + fb.length ≤ zs.length) :
    ∃ sp', splice (splice (fa ++ zs) fa.length ex) (fa.length + ex.length) fb = (fa ++ (ex ++ fb)) ++ sp' ∧ sp'.length + ex.length + fb.length = zs.length := by
  have e1 : splice (fa ++ zs) fa.length ex = (fa ++ ex) ++ zs.drop ex.length := by
    unfold splice
    rw [List.take_left, List.drop_append, List.drop_eq_nil_of_le («as» := fa) (by omega), Nat.add_sub_cancel_left, List.nil_append, List.append_assoc]
  refine ⟨(zs.drop ex.length).drop fb.length, ?_, by simp; omega⟩
  rw [e1, ← List.length_append]
  unfold splice
  rw [List.take_left, List.drop_append, List.drop_eq_nil_of_le («as» := fa ++ ex) (by omega), Nat.add_sub_cancel_left, List.nil_append]
  simp
end Go.Proofs.Ytcmonalnhdodmaa.Row

/-
  A byte slice of the call's own that may begin within its row: what is left where bytes were taken off its front, and append onto it. No dump is imported.
-/
namespace Go.Proofs.Ytcmonalnhdodmaa
open Go.RowKit

/-- the block that an address lies in -/
def blkA (A : Option Addr) : List Nat := (A.map (·.block)).toList
theorem blkA_own (A : Option Addr) (n c : Nat) : blkA A = (Value.slice A n c).ownBlock.toList := by cases A <;> rfl

/-- (A, n, c) is a slice of the call's own (blocks from base on, element type e) that holds the bytes l; it may begin within its row -/
def Md (w : World) (base : Nat) (e : TypeId) (A : Option Addr) (n c : Nat) (l : List Byte) : Prop := l.length = n ∧
  ((A = none ∧ n = 0 ∧ c = 0) ∨ ∃ g off, ∃ cur : List Value, A = some ⟨g, off, none⟩ ∧ base ≤ g ∧ Cel w g e cur.toArray ∧ n ≤ c ∧ c ≤ maxLen ∧ off + c ≤ cur.length ∧ ∀ i x, l[i]? = some x → cur[off + i]? = some (B8 x))
section
variable {w w' : World} {base : Nat} {e : TypeId} {A : Option Addr} {n c : Nat} {l : List Byte} {S : List Nat}
theorem Md.nil_ (w : World) (base : Nat) (e : TypeId) : Md w base e none 0 0 [] := ⟨rfl, .inl ⟨rfl, rfl, rfl⟩⟩
theorem Md.lt (h : Md w base e A n c l) : ∀ x ∈ blkA A, base ≤ x ∧ x < w.heap.size := fun x hx => by
  rcases h.2 with ⟨rfl, _⟩ | ⟨g, off, cur, rfl, hb, hg, _⟩
  · cases hx
  · have : x = g := by simpa [blkA] using hx
    subst this
    exact ⟨hb, hg.lt⟩
theorem Md.cel (h : Md w base e A n c l) : ∀ x ∈ blkA A, ∃ cs, Cel w x e cs := fun x hx => by
  rcases h.2 with ⟨rfl, _⟩ | ⟨g, off, cur, rfl, hb, hg, _⟩
  · cases hx
  · have : x = g := by simpa [blkA] using hx
    subst this
    exact ⟨_, hg⟩
theorem Md.only (h : Md w base e A n c l) (k : Only S w w') (hS : ∀ x ∈ blkA A, x ∉ S) : Md w' base e A n c l := by
  obtain ⟨h1, h2⟩ := h
  refine ⟨h1, ?_⟩
  rcases h2 with h2 | ⟨g, off, cur, rfl, hb, hg, rest⟩
  · exact .inl h2
  · exact .inr ⟨g, off, cur, rfl, hb, hg.only k (hS g (by simp [blkA])), rest⟩
theorem Md.draws (h : Md w base e A n c l) (m : Nat) : Md (w.drewN m) base e A n c l := h
theorem Md.more (h : Md w base e A n c l) {b' : Nat} (hb : b' ≤ base) : Md w b' e A n c l := by
  obtain ⟨h1, h2⟩ := h
  refine ⟨h1, ?_⟩
  rcases h2 with h2 | ⟨g, off, cur, rfl, hb', rest⟩
  · exact .inl h2
  · exact .inr ⟨g, off, cur, rfl, by omega, rest⟩
theorem Md.reads (h : Md w base e A n c l) : Bs w w.heap.size A l ∧ (A = none → c = 0) ∧ n ≤ c ∧ c ≤ maxLen := by
  rcases h.2 with ⟨rfl, rfl, rfl⟩ | ⟨g, off, cur, rfl, hb, hg, h1, h2, h3, h4⟩
  · exact ⟨fun hl => by have := h.1; omega, fun _ => rfl, Nat.le_refl _, by simp⟩
  · refine ⟨fun _ => ⟨g, off, rfl, hg.lt, fun i x hx => ?_⟩, (fun h => nomatch h), h1, h2⟩
    rw [hg.cell, List.getElem?_toArray]
    exact h4 i x hx
theorem Md.of (h : Ow w base e (.slice A n c) l) (hn : l.length = n) : Md w base e A n c l := by
  subst hn
  refine ⟨rfl, ?_⟩
  rcases h.2 with ⟨he, h0⟩ | ⟨g, cap, cur, he, hb, hg, h1, h2, h3, h4⟩
  · injection he with e1 e2 e3
    exact .inl ⟨e1, h0, e3⟩
  · cases he
    refine .inr ⟨g, 0, cur.toList, rfl, hb, hg, h1, h2, by rw [Nat.zero_add, Array.length_toList]; omega, fun i x hx => ?_⟩
    rw [Nat.zero_add]
    have h5 : (cur.toList.take (l.length * 1))[i]? = some (B8 x) := by rw [h4, List.getElem?_map, hx]; rfl
    rw [List.getElem?_take] at h5
    split at h5
    · exact h5
    · cases h5
/-- what a slice expression 's[k:]' leaves -/
theorem Md.drop (h : Md w base e A n c l) {k : Nat} (hk : k ≤ n) : Md w base e (if c = k then A else A.map (fun x => x.add k)) (n - k) (c - k) (l.drop k) := by
  obtain ⟨h1, h2⟩ := h
  refine ⟨by rw [List.length_drop, h1], ?_⟩
  rcases h2 with ⟨rfl, rfl, rfl⟩ | ⟨g, off, cur, rfl, hb, hg, h3, h4, h5, h6⟩
  · exact .inl ⟨by split <;> rfl, by omega, by omega⟩
  · by_cases hc : c = k
    · rw [if_pos hc]
      refine .inr ⟨g, off, cur, rfl, hb, hg, by omega, by omega, by omega, fun i x hx => ?_⟩
      rw [List.getElem?_eq_none (by rw [List.length_drop]; omega)] at hx
      cases hx
    · rw [if_neg hc]
      refine .inr ⟨g, off + k, cur, ?_, hb, hg, by omega, by omega, by omega, fun i x hx => ?_⟩
      · simp [Addr.add]
      · rw [List.getElem?_drop] at hx
        have := h6 _ x hx
        rw [← Nat.add_assoc] at this
        exact this
theorem blkA_drop (A : Option Addr) (c k : Nat) : blkA (if c = k then A else A.map (fun x => x.add k)) = blkA A := by
  split
  · rfl
  · cases A with
    | none => rfl
    | some a => simp [blkA, Addr.add]; split <;> rfl
end

section
variable {P : Program} (w : World)
/-- append with room, onto a slice that begins within its row -/
theorem run_appendM (t ty e : TypeId) (g o n c : Nat) (a : Addr) (m c' : Nat) (cur : List Value) (T : TypeId) (news : List Value)
    (hu : P.underlying t = some (.slice e)) (hs : (P.info? e).map (·.size) = some 1) (hg : Cel w g T cur.toArray) (hl : news.length = m)
    (hsrc : ∀ j v, news[j]? = some v → w.cell? (a.add j) = some v) (hroom : n + m ≤ c) (hfit : o + n + news.length ≤ cur.length) (h1 : ∀ v ∈ news, v.oneCell' = true) :
    (Builtin.append_ #[t, t] ty #[.slice (some ⟨g, o, none⟩) n c, .slice (some a) m c']).run P w = .ok (.slice (some ⟨g, o, none⟩) (n + m) c) (w.setRow g (splice cur (o + n) news).toArray) := by
  have hst := run_storeCells_at P g (o + n) T news 0 cur.toArray w hg (by simpa using hfit) h1
  have esp : splice cur (o + n) news = cur.take (o + n + 0) ++ news ++ cur.drop (o + n + 0 + news.length) := by simp [splice]
  rw [esp]
  cases hq : P.info? e with
  | none => simp [hq] at hs
  | some i =>
    have hi : i.size = 1 := by simpa [hq] using hs
    have hfc := run_firstCells_some (P := P) w 1 m a m c' news (by simpa using hl) hsrc
    simp [Builtin.append_, run_underlying hu, sizeOf, typeInfo, hq, hi, Builtin.lenOf, hroom, hfc, Addr.add_lit, hst]
theorem splice_mid {cur news : List Value} {off : Nat} {m l : List Byte} (hn : news = l.map B8) (hfit : off + m.length + l.length ≤ cur.length) (h : ∀ i x, m[i]? = some x → cur[off + i]? = some (B8 x)) :
    ∀ i x, (m ++ l)[i]? = some x → (splice cur (off + m.length) news)[off + i]? = some (B8 x) := by
  subst hn
  intro i x hx
  unfold splice
  by_cases hi : i < m.length
  · rw [List.getElem?_append_left hi] at hx
    rw [List.getElem?_append_left (by rw [List.length_take]; omega), List.getElem?_take, if_pos (by omega)]
    exact h i x hx
  · rw [List.getElem?_append_right (by omega)] at hx
    have hlt := (List.getElem?_eq_some_iff.1 hx).1
    rw [List.getElem?_append_right (by rw [List.length_take]; omega), List.length_take, Nat.min_eq_left (by omega), List.getElem?_append_left (by rw [List.length_map]; omega), show off + i - (off + m.length) = i - m.length by omega, List.getElem?_map, hx]
    rfl

/-- append of some bytes onto such a slice -/
theorem run_mid {t e ty : TypeId} (hT : IsBytes P t e) {base : Nat} {A : Option Addr} {n c : Nat} {m : List Byte} (hown : Md w base e A n c m)
    {B : Nat} {A2 : Option Addr} {l : List Byte} {n2 c2 : Nat} (hl : l.length = n2) (hr : Bs w B A2 l) (h0 : 0 < n2) (h47 : n + n2 ≤ 140737488355328) (hbase : base ≤ w.heap.size) :
    ∃ A' c' w', (Builtin.append_ #[t, t] ty #[.slice A n c, .slice A2 n2 c2]).run P w = .ok (.slice A' (n + n2) c') w' ∧ Md w' base e A' (n + n2) c' (m ++ l) ∧ Only (blkA A) w w' ∧ ∀ x ∈ blkA A', x ∈ blkA A ∨ w.heap.size ≤ x := by
  subst hl
  have hmn := hown.1
  subst hmn
  obtain ⟨b2, off2, rfl, _, hc2⟩ := hr h0
  obtain ⟨ht, he8, i, hi, hz, h1, h2⟩ := hT
  have hnews : ∀ j v, (l.map B8)[j]? = some v → w.cell? ((⟨b2, off2, none⟩ : Addr).add j) = some v := fun j v hv => by
    rw [List.getElem?_map] at hv
    cases hx : l[j]? with
    | none => rw [hx] at hv; cases hv
    | some x =>
      rw [hx] at hv
      injection hv with hv
      subst hv
      rw [Addr.add_lit]
      exact hc2 j x hx
  rcases hown.2 with ⟨rfl, hm0, rfl⟩ | ⟨g, off, cur, rfl, hb, hg, hle, hmax, hfit, hcur⟩
  · have hmn : m = [] := List.eq_nil_of_length_eq_zero hm0
    subst hmn
    obtain ⟨v', w', hrun, ho, hgr, hv⟩ := run_app (P := P) (ty := ty) w ⟨ht, he8, i, hi, hz, h1, h2⟩ (m := []) (World.ownsRow_nil w base e 1) hr (c := c2) (fun h => nomatch h) (by simpa using h47) hbase
    obtain ⟨A', c', rfl, _⟩ := ho.reads
    refine ⟨A', c', w', by simpa using hrun, ?_, (Only.of_grown hgr).more (fun x hx => by cases hx), fun x hx => ?_⟩
    · have := Md.of ho rfl
      simpa using this
    · rw [blkA_own A' ([] ++ l).length c'] at hx
      have hx : (Value.slice A' ([] ++ l).length c').ownBlock = some x := by simpa using hx
      rcases hv with e | e <;> rw [e] at hx
      · cases hx
      · injection hx with hx; exact .inr (by omega)
  · by_cases hroom : m.length + l.length ≤ c
    · have hrun := run_appendM (P := P) w t ty e g off m.length c ⟨b2, off2, none⟩ l.length c2 cur e (l.map B8) ht (by rw [hi]; simp [h1]) hg (by simp) hnews hroom (by rw [List.length_map]; omega) (B8_one l)
      refine ⟨_, c, _, hrun, ⟨by simp, .inr ⟨g, off, _, rfl, hb, Row.Cel_row hg _, hroom, hmax, by rw [length_splice _ _ _ (by rw [List.length_map]; omega)]; exact hfit, splice_mid rfl (by omega) hcur⟩⟩, Row.only_setRow w g _, fun x hx => .inl hx⟩
    · have holds : ∀ j u, (m.map B8)[j]? = some u → w.cell? ((⟨g, off, none⟩ : Addr).add j) = some u := fun j u hu => by
        rw [List.getElem?_map] at hu
        cases hx : m[j]? with
        | none => rw [hx] at hu; cases hu
        | some x =>
          rw [hx] at hu
          injection hu with hu
          subst hu
          rw [Addr.add_lit, hg.cell, List.getElem?_toArray]
          exact hcur j x hx
      obtain ⟨v', w', hrun, ho, hgr⟩ := run_append_arg_grows (P := P) w t ty e i (.int .u8 0) 1 1 ht hi hz h1 h2 rfl (by decide) ⟨g, off, none⟩ m.length c (m.map B8) (by simp) holds ⟨b2, off2, none⟩ l.length c2 (l.map B8) (by simp) hnews (by omega) (by unfold maxLen; omega) (by omega)
      have ho' : Ow w' w.heap.size e v' (m ++ l) := by unfold Ow; rw [List.length_append, List.map_append]; exact ho
      obtain ⟨A', c', rfl, _⟩ := ho'.reads_len (n := m.length + l.length) (by simp)
      refine ⟨A', c', w', hrun, (Md.of ho' (by simp)).more hbase, (Only.of_grown hgr).more (fun x hx => by cases hx), fun x hx => ?_⟩
      rw [blkA_own A' (m.length + l.length) c'] at hx
      exact .inr (ho'.lt x (by simpa using hx)).1
end
end Go.Proofs.Ytcmonalnhdodmaa

/-
  What the walks of every package share: the byte's type, small equations of endings.
-/
namespace Go.Proofs.Ytcmonalnhdodmaa
open Go.RowKit

theorem info_u8 : (Try.prog.info? 5).map (fun i => (i.zero, i.size, i.bytes)) = some (some (.int .u8 0), 1, 1) := by kernel_rfl
theorem is_bytes : IsBytes Try.prog 26 5 := by
  obtain ⟨i, h0, h1, h2, h3⟩ := info_parts info_u8
  exact ⟨Try.underlying26, Try.underlying5, i, h0, h1, h2, h3⟩

theorem ret_int {k : IntKind} {a b : Int} (h : a = b) : Ending.returned (.int k a) = .returned (.int k b) := by rw [h]
theorem val_int {k : IntKind} {a b : Int} (h : a = b) : Value.int k a = .int k b := by rw [h]
theorem ret_bool {a b : Bool} (h : a = b) : Ending.returned (.bool a) = .returned (.bool b) := by rw [h]
theorem drewN_below {B : Nat} (w : World) (n : Nat) : Below B w (w.drewN n) := ⟨rfl, rfl, rfl, Nat.le_refl _, fun _ _ => rfl⟩
end Go.Proofs.Ytcmonalnhdodmaa

/-
  The walks of package packet's allZero, validIdle, Valid and bit.
-/
namespace Go.Proofs.Ytcmonalnhdodmaa.Pac
open Go.RowKit

theorem bel_new (w : World) (o : Obj) : Below w.heap.size w (w.alloc o) := (Below.refl _ _).alloc (Nat.le_refl _) _
theorem Cel.later {w w' : World} {g : Nat} {t : TypeId} {cs : Array Value} (h : Cel w g t cs) (hb : Below w.heap.size w w') : Cel w' g t cs := h.only (Only.of_below (S := []) hb) (by simp)
theorem Cel.within {w w' : World} {g B : Nat} {t : TypeId} {cs : Array Value} (h : Cel w g t cs) (hg : g < B) (hb : Below B w w') : Cel w' g t cs := (hb.block g hg).trans h

theorem u8_zero (x : Byte) : ((x.toNat : Int) != 0) = !decide (x = 0#8) := by
  by_cases h : x = 0#8
  · subst h; rfl
  · have : x.toNat ≠ 0 := fun e => h (BitVec.eq_of_toNat_eq (by rw [e]; rfl))
    rw [decide_eq_false h]
    simp
    omega

set_option maxHeartbeats 400000 in
theorem allZero_any (a : Option Addr) (l : List Byte) (n c B : Nat) (w : World) (hl : Hid (l.length = n)) (hb : Bs w B a l) (hm : n ≤ maxLen) :
    Calls Try.prog 57 #[.slice a n c] w fun e w' => e = .returned (.bool (zer l)) ∧ w = w' := by
  have hL : l.length = n := hl
  subst hL
  unfold maxLen at hm
  go_enter Try.func57, Try.ntmps57
  go_wp2
  go_loop [7] (fun i => ∃ k : Nat, k ≤ l.length ∧ i = .int .i64 k ∧ zer (l.take k) = true) (fun i => l.length - (intOf i).toNat)
  case atStart => exact ⟨0, Nat.zero_le _, rfl, rfl⟩
  case round =>
    obtain ⟨k, hk, rfl, hz⟩ := hrel
    by_cases hlt : k < l.length
    · obtain ⟨b, off, rfl, _, hc⟩ := hb.at_ hlt
      have hx : l[k]? = some l[k] := List.getElem?_eq_getElem hlt
      obtain ⟨x, hxx⟩ : ∃ x, x = l[k] := ⟨_, rfl⟩
      rw [← hxx] at hc hx
      have hne := u8_zero x
      cases hd : decide (x = 0#8) with
      | true =>
        rw [hd] at hne
        have hz2 := zer_take hx
        rw [hz, hd] at hz2
        have HZ := Lib.hid hz2
        clear hz hz2 hd hx hxx
        go_wp2
        go_round
        case rel => exact ⟨k + 1, by omega, by go_num, HZ.out⟩
        case measure => simp [intOf]; omega
      | false =>
        rw [hd] at hne
        have hz2 := zer_no hx (of_decide_eq_false hd)
        have HZ := Lib.hid hz2
        clear hz hz2 hd hx hxx
        go_wp2
        go_ret
        exact ⟨ret_bool HZ.out.symm, rfl⟩
    · rw [List.take_of_length_le (by omega)] at hz
      have HZ := Lib.hid hz
      clear hz
      go_wp2
      go_ret
      exact ⟨ret_bool HZ.out.symm, rfl⟩

set_option maxHeartbeats 400000 in
theorem bit_any (b : Bool) (w : World) :
    Calls Try.prog 36 #[.bool b] w fun e w' => e = .returned (.int .u64 ((nb b : Nat) : Int)) ∧ w = w' := by
  cases b
  · go_enter Try.func36, Try.ntmps36
    go_wp2
    go_ret
    exact ⟨rfl, rfl⟩
  · go_enter Try.func36, Try.ntmps36
    go_wp2
    go_ret
    exact ⟨rfl, rfl⟩

/-- the data of a packet in a block of its own, later -/
theorem Bs.new {w : World} {a : Option Addr} {l : List Byte} (h : Bs w w.heap.size a l) (o : Obj) : Bs (w.alloc o) w.heap.size a l := h.below (bel_new w o)

set_option maxHeartbeats 1000000 in
theorem validIdle_any (com sec : Bool) (ap fl ct : Int) (a : Option Addr) (l : List Byte) (n c : Nat) (w : World) (hl : Hid (l.length = n)) (hb : Bs w w.heap.size a l) (hm : n ≤ maxLen) :
    Calls Try.prog 51 #[.agg #[.bool com, .bool sec, .int .i64 ap, .int .i64 fl, .int .i64 ct, .slice a n c]] w fun e w' => e = .returned (.bool (Pk.idle ⟨com, sec, ap, fl, ct, l⟩)) ∧ Below w.heap.size w w' := by
  unfold Pk.idle
  have hz := allZero_any a l n c w.heap.size _ hl (Bs.new hb (.cells #[.bool com, .bool sec, .int .i64 ap, .int .i64 fl, .int .i64 ct, .slice a n c] 56)) hm
  obtain ⟨z, hzz⟩ : ∃ z, z = zer l := ⟨_, rfl⟩
  simp only [← hzz] at hz ⊢
  clear hzz
  cases com with
  | true =>
    go_enter Try.func51, Try.ntmps51
    go_wp2
    go_ret
    exact ⟨rfl, bel_new _ _⟩
  | false =>
    cases sec with
    | true =>
      go_enter Try.func51, Try.ntmps51
      go_wp2
      go_ret
      exact ⟨rfl, bel_new _ _⟩
    | false =>
      by_cases h1 : fl = 3
      · subst h1
        by_cases h2 : ct = 0
        · subst h2
          go_enter Try.func51, Try.ntmps51
          go_wp2_with fail
          refine hz.mono ?_
          rintro e w' ⟨rfl, rfl⟩
          go_wp2
          go_ret
          exact ⟨ret_bool (by simp), bel_new _ _⟩
        · have h3 : (ct == 0) = false := by simpa using h2
          rw [decide_eq_true rfl, decide_eq_false h2]
          go_enter Try.func51, Try.ntmps51
          go_wp2
          go_ret
          exact ⟨rfl, bel_new _ _⟩
      · have h3 : (fl == 3) = false := by simpa using h1
        rw [decide_eq_false h1]
        go_enter Try.func51, Try.ntmps51
        go_wp2
        go_ret
        exact ⟨rfl, bel_new _ _⟩
end Go.Proofs.Ytcmonalnhdodmaa.Pac

/-
  The walk of package packet's Valid.
-/
namespace Go.Proofs.Ytcmonalnhdodmaa.Pac
open Go.RowKit

theorem ok_bad {com sec : Bool} {ap fl ct : Int} {l : List Byte} (h : ap < 0 ∨ 2047 < ap ∨ fl < 0 ∨ 3 < fl ∨ ct < 0 ∨ 16383 < ct ∨ l.length = 0 ∨ 4090 < l.length) : Pk.ok ⟨com, sec, ap, fl, ct, l⟩ = false :=
  Pk.ok_no (fun ⟨h1, h2, h3, h4, h5, h6, h7, h8⟩ => by simp only at h1 h2 h3 h4 h5 h6 h7 h8; omega)

set_option maxHeartbeats 2000000 in
theorem valid_any (com sec : Bool) (ap fl ct : Int) (a : Option Addr) (l : List Byte) (n c : Nat) (w : World) (hl : Hid (l.length = n)) (hb : Bs w w.heap.size a l) (hm : n ≤ maxLen) :
    Calls Try.prog 33 #[.agg #[.bool com, .bool sec, .int .i64 ap, .int .i64 fl, .int .i64 ct, .slice a n c]] w fun e w' => e = .returned (.bool (Pk.ok ⟨com, sec, ap, fl, ct, l⟩)) ∧ Below w.heap.size w w' := by
  have hln := hl.out
  have hm' : n ≤ 9223372036854775807 := by unfold maxLen at hm; omega
  by_cases h1 : ap < 0
  · rw [ok_bad (by simp only [hln]; omega)]
    clear hl hb hm hln
    go_enter Try.func33, Try.ntmps33
    go_wp2
    go_ret
    exact ⟨rfl, bel_new _ _⟩
  have p1 : 0 ≤ ap := by omega
  clear h1
  by_cases h2 : 2047 < ap
  · rw [ok_bad (by simp only [hln]; omega)]
    clear hl hb hm hln
    go_enter Try.func33, Try.ntmps33
    go_wp2
    go_ret
    exact ⟨rfl, bel_new _ _⟩
  have p2 : ap ≤ 2047 := by omega
  clear h2
  by_cases h3 : fl < 0
  · rw [ok_bad (by simp only [hln]; omega)]
    clear hl hb hm hln
    go_enter Try.func33, Try.ntmps33
    go_wp2
    go_ret
    exact ⟨rfl, bel_new _ _⟩
  have p3 : 0 ≤ fl := by omega
  clear h3
  by_cases h4 : 3 < fl
  · rw [ok_bad (by simp only [hln]; omega)]
    clear hl hb hm hln
    go_enter Try.func33, Try.ntmps33
    go_wp2
    go_ret
    exact ⟨rfl, bel_new _ _⟩
  have p4 : fl ≤ 3 := by omega
  clear h4
  by_cases h5 : ct < 0
  · rw [ok_bad (by simp only [hln]; omega)]
    clear hl hb hm hln
    go_enter Try.func33, Try.ntmps33
    go_wp2
    go_ret
    exact ⟨rfl, bel_new _ _⟩
  have p5 : 0 ≤ ct := by omega
  clear h5
  by_cases h6 : 16383 < ct
  · rw [ok_bad (by simp only [hln]; omega)]
    clear hl hb hm hln
    go_enter Try.func33, Try.ntmps33
    go_wp2
    go_ret
    exact ⟨rfl, bel_new _ _⟩
  have p6 : ct ≤ 16383 := by omega
  clear h6
  by_cases h7 : n = 0
  · rw [ok_bad (by simp only [hln]; omega)]
    clear hl hb hm hln
    subst h7
    go_enter Try.func33, Try.ntmps33
    go_wp2
    go_ret
    exact ⟨rfl, bel_new _ _⟩
  have p7 : 1 ≤ n := by omega
  clear h7
  by_cases h8 : 4090 < n
  · rw [ok_bad (by simp only [hln]; omega)]
    clear hl hb hm hln
    have g1 : decide ((4090 : Int) < (n : Int)) = true := by simp; omega
    have g2 : decide (4090 < n) = true := by simp; omega
    have g3 : decide ((n : Int) < 1) = false := by simp; omega
    have g4 : decide (n < 1) = false := by simp; omega
    go_enter Try.func33, Try.ntmps33
    go_wp2
    go_ret
    exact ⟨rfl, bel_new _ _⟩
  have p8 : n ≤ 4090 := by omega
  clear h8
  have hF : Pk.Fits ⟨com, sec, ap, fl, ct, l⟩ := ⟨p1, p2, p3, p4, p5, p6, by rw [hln]; exact p7, by rw [hln]; exact p8⟩
  have g1 : decide ((4090 : Int) < (n : Int)) = false := by simp; omega
  have g2 : decide (4090 < n) = false := by simp; omega
  have g3 : decide ((n : Int) < 1) = false := by simp; omega
  have g4 : decide (n < 1) = false := by simp; omega
  clear p7 p8
  by_cases h9 : ap = 2047
  · rw [Pk.ok_idle hF h9]
    have hv := validIdle_any com sec ap fl ct a l n c _ hl ((Bs.new hb (.cells #[.bool com, .bool sec, .int .i64 ap, .int .i64 fl, .int .i64 ct, .slice a n c] 56)).more (bel_new w (.cells #[.bool com, .bool sec, .int .i64 ap, .int .i64 fl, .int .i64 ct, .slice a n c] 56)).size) hm
    obtain ⟨z, hz⟩ : ∃ z, z = Pk.idle ⟨com, sec, ap, fl, ct, l⟩ := ⟨_, rfl⟩
    rw [← hz] at hv ⊢
    subst h9
    clear hl hb hm hln hF hz p1 p2
    go_enter Try.func33, Try.ntmps33
    go_wp2_with fail
    refine hv.mono ?_
    rintro e w' ⟨rfl, hbe⟩
    go_wp2
    go_ret
    exact ⟨ret_bool (by simp), (bel_new _ _).trans (hbe.mono (bel_new _ _).size)⟩
  · rw [Pk.ok_free hF h9]
    have h10 : (ap != 2047) = true := by simpa using h9
    clear hl hb hm hln hF
    go_enter Try.func33, Try.ntmps33
    go_wp2
    go_ret
    exact ⟨rfl, bel_new _ _⟩
end Go.Proofs.Ytcmonalnhdodmaa.Pac

/-
  The walk of bytes.Clone: at every slice of bytes; at nil.
-/
namespace Go.Proofs.Ytcmonalnhdodmaa
open Go.RowKit

set_option maxHeartbeats 400000 in
theorem clone_any (a : Option Addr) (l : List Byte) (n c : Nat) (w : World) (hl : Hid (l.length = n)) (hb : Bs w w.heap.size a l) (hn : a = none → c = 0) (hm : n ≤ 140737488355328) :
    Calls Try.prog 25 #[.slice a n c] w fun e w' => ∃ v, e = .returned v ∧ Ow w' w.heap.size 5 v l ∧ Below w.heap.size w w' := by
  have hL : l.length = n := hl
  subst hL
  cases a with
  | none =>
    have hl : l = [] := by
      rcases Nat.eq_zero_or_pos l.length with h0 | h0
      · exact List.eq_nil_of_length_eq_zero h0
      · obtain ⟨b, off, h, _⟩ := hb h0; cases h
    subst hl
    obtain rfl : c = 0 := hn rfl
    have hnil := fun W => Lib.run_eql_slice_nil (P := Try.prog) W 26 5 none 0 0 0 0 Try.underlying26
    go_enter Try.func25, Try.ntmps25
    go_wp2
    go_ret
    exact ⟨_, rfl, World.ownsRow_nil _ _ _ _, Below.refl _ _⟩
  | some ad =>
    have bel1 := (Below.refl w.heap.size w).alloc (Nat.le_refl _) (.cells #[] 5)
    have hown1 := Ow_empty w w.heap.size 5 (Nat.le_refl _)
    have hnil := fun W => Lib.run_eql_slice_nil (P := Try.prog) W 26 5 (some ad) l.length c 0 0 Try.underlying26
    go_enter Try.func25, Try.ntmps25
    go_wp2_with (first
      | (at_builtin; refine wpList_app _ is_bytes rfl (.tmp 5) (.tmp 6) rfl (m := []) rfl hown1 rfl (hb.below bel1) hn (by simp; omega) bel1.size ?_; intro v2 w2 hown2 hgrow2; have bel2 := bel1.grown hgrow2 bel1.size (Ow.base_le (l := []) hown1)))
    go_ret
    exact ⟨v2, rfl, hown2, bel2⟩

set_option maxHeartbeats 400000 in
theorem clone_nil (w : World) : Calls Try.prog 25 #[.slice none 0 0] w fun e w' => e = .returned (.slice none 0 0) ∧ w = w' := by
  have hnil := fun W => Lib.run_eql_slice_nil (P := Try.prog) W 26 5 none 0 0 0 0 Try.underlying26
  go_enter Try.func25, Try.ntmps25
  go_wp2
  go_ret
  exact ⟨rfl, rfl⟩

end Go.Proofs.Ytcmonalnhdodmaa

/-
  The walks of the small functions of package bits that its Writer wants: bytes.Clone, a width's test, NewWriter, Len, Bytes.
-/
namespace Go.Proofs.Ytcmonalnhdodmaa
open Go.RowKit

set_option maxHeartbeats 400000 in
theorem valid_yes (n : Int) (w : World) (h0 : 0 ≤ n) (h1 : n ≤ 64) :
    Calls Try.prog 52 #[.int .i64 n] w fun e w' => e = .returned (.bool true) ∧ w = w' := by
  go_enter Try.func52, Try.ntmps52
  go_wp2
  go_ret
  exact ⟨rfl, rfl⟩
set_option maxHeartbeats 400000 in
theorem valid_no (n : Int) (w : World) (h : n < 0 ∨ 64 < n) :
    Calls Try.prog 52 #[.int .i64 n] w fun e w' => e = .returned (.bool false) ∧ w = w' := by
  rcases h with h | h
  · go_enter Try.func52, Try.ntmps52
    go_wp2
    go_ret
    exact ⟨rfl, rfl⟩
  · have h2 : 0 ≤ n := by omega
    have h3 : decide (n ≤ 64) = false := by simpa using h
    go_enter Try.func52, Try.ntmps52
    go_wp2
    go_ret
    exact ⟨rfl, rfl⟩

/-- block g is a Writer of package bits that holds the bits L; its bytes lie in block r -/
def WAt (w : World) (base g : Nat) (r : Option Nat) (L : List Bool) : Prop :=
  ∃ v bs fr, Cel w g 86 #[.bool true, v, .int .i64 ((fr : Nat) : Int)] ∧ Ow w base 5 v bs ∧ v.ownBlock = r ∧ Room bs L fr ∧ fr < 8

set_option maxHeartbeats 400000 in
theorem newWriter_any (w : World) :
    Calls Try.prog 34 #[] w fun e w' => e = .returned (.pointer (some ⟨w.heap.size, 0, none⟩)) ∧ w.alloc (.cells #[.bool true, .slice none 0 0, .int .i64 0] 86) = w' := by
  go_enter Try.func34, Try.ntmps34
  go_wp2
  go_ret
  exact ⟨rfl, rfl⟩
theorem WAt_new (w : World) (base : Nat) : WAt (w.alloc (.cells #[.bool true, .slice none 0 0, .int .i64 0] 86)) base w.heap.size none [] :=
  ⟨_, [], 0, Cel.new _ _ _, World.ownsRow_nil _ _ _ _, rfl, room_nil, by omega⟩
theorem WAt.lt {w : World} {base g : Nat} {r : Option Nat} {L : List Bool} (h : WAt w base g r L) : g < w.heap.size := by
  obtain ⟨v, bs, fr, hc, _⟩ := h
  exact hc.lt
theorem WAt.row {w : World} {base g : Nat} {r : Option Nat} {L : List Bool} (h : WAt w base g r L) : ∀ i, r = some i → base ≤ i ∧ i < w.heap.size ∧ i ≠ g := by
  obtain ⟨v, bs, fr, hc, ho, rfl, _⟩ := h
  intro i hi
  have := ho.lt i hi
  exact ⟨this.1, this.2, fun e => ho.apart hc (by decide) (by rw [hi, e])⟩
theorem WAt.only {w w' : World} {base g : Nat} {r : Option Nat} {L : List Bool} {S : List Nat} (h : WAt w base g r L) (k : Only S w w') (hg : g ∉ S) (hr : ∀ i, r = some i → i ∉ S) : WAt w' base g r L := by
  obtain ⟨v, bs, fr, hc, ho, rfl, rest⟩ := h
  exact ⟨v, bs, fr, hc.only k hg, ho.only k hr, rfl, rest⟩
theorem WAt.draws {w : World} {base g : Nat} {r : Option Nat} {L : List Bool} (h : WAt w base g r L) (n : Nat) : WAt (w.drewN n) base g r L := h

set_option maxHeartbeats 400000 in
theorem wbytes_any (w : World) (base g : Nat) (r : Option Nat) (L : List Bool) (h : WAt w base g r L) (hL : L.length < 1000000) :
    Calls Try.prog 37 #[.pointer (some ⟨g, 0, none⟩)] w fun e w' => ∃ v bs, e = .returned v ∧ Packs bs L ∧ Ow w' w.heap.size 5 v bs ∧ Below w.heap.size w w' := by
  obtain ⟨v, bs, fr, hc, ho, _, hR, hf⟩ := h
  obtain ⟨A, c, rfl, hr, hn, _, _⟩ := ho.reads
  have c1 := hc.cell 1
  simp at c1
  have hp := hR.packs hf
  have hb : bs.length ≤ 140737488355328 := by have := hR.len; omega
  clear ho hc hR
  go_enter Try.func37, Try.ntmps37
  go_wp2_with (go_at_call 25; refine (clone_any A bs _ c _ rfl hr hn hb).mono ?_; rintro e w1 ⟨v, rfl, hown, hbel⟩)
  go_ret
  exact ⟨v, bs, rfl, hp, hown, hbel⟩

end Go.Proofs.Ytcmonalnhdodmaa

/-
  The walk of Put of package bits' Writer.
-/
namespace Go.Proofs.Ytcmonalnhdodmaa
open Go.RowKit

set_option maxHeartbeats 1000000 in
theorem put_bad (w : World) (base g : Nat) (r : Option Nat) (L : List Bool) (n : BitVec 64) (k : Int) (h : WAt w base g r L) (hk : k < 0 ∨ 64 < k) :
    Calls Try.prog 35 #[.pointer (some ⟨g, 0, none⟩), .int .u64 (n.toNat : Int), .int .i64 k] w fun e w' => e = .returned (.pointer (some ⟨g, 0, none⟩)) ∧ w = w' := by
  obtain ⟨v, bs, fr, hc, ho, _, hR, hf⟩ := h
  have c0 := hc.cell 0
  simp at c0
  clear ho hc hR
  go_enter Try.func35, Try.ntmps35
  go_wp2_with (go_at_call 52; refine (valid_no _ _ hk).mono ?_; rintro e w' ⟨rfl, rfl⟩)
  go_ret
  exact ⟨rfl, rfl⟩

/-- what Put leaves: the Writer with the bits L; of the old blocks the Writer's own alone may have turned -/
def PutAt (w : World) (base g : Nat) (r : Option Nat) (L : List Bool) (wr : World) : Prop :=
  ∃ r', WAt wr base g r' L ∧ (r' = r ∨ ∃ i, r' = some i ∧ w.heap.size ≤ i) ∧ Only (g :: r.toList) w wr
/-- the same in the middle of a round: there is a last byte, with room in it -/
def PutMid (w : World) (base g : Nat) (r : Option Nat) (L : List Bool) (wr : World) : Prop :=
  ∃ v bs fr, Cel wr g 86 #[.bool true, v, .int .i64 ((fr : Nat) : Int)] ∧ Ow wr base 5 v bs ∧ (v.ownBlock = r ∨ ∃ i, v.ownBlock = some i ∧ w.heap.size ≤ i) ∧ Room bs L fr ∧ 0 < fr ∧ Only (g :: r.toList) w wr

theorem mid_of {w wr w2 : World} {base g : Nat} {r : Option Nat} {L : List Bool} {v v2 : Value} {bs : List Byte} (hc : Cel wr g 86 #[.bool true, v, .int .i64 0])
    (ho : Ow w2 base 5 v2 (bs ++ [0#8])) (hg : (wr.alloc (.cells #[.int .u8 0] 5)).grownBy w2 v.ownBlock) (ho1 : Ow wr base 5 v bs) (hv : v.ownBlock = r ∨ ∃ i, v.ownBlock = some i ∧ w.heap.size ≤ i)
    (hv2 : v2.ownBlock = v.ownBlock ∨ v2.ownBlock = some (wr.heap.size + 1)) (hR : Room bs L 0) (hO : Only (g :: r.toList) w wr) :
    PutMid w base g r L ((w2.setCell ⟨g, 1, none⟩ v2).setCell ⟨g, 2, none⟩ (.int .i64 8)) := by
  have hr : ∀ x ∈ v.ownBlock.toList, x ∈ g :: r.toList ∨ w.heap.size ≤ x := by
    intro x hx
    rcases hv with h | ⟨i, h, hi⟩
    · rw [h] at hx; exact .inl (List.mem_cons_of_mem _ hx)
    · rw [h] at hx; simp at hx; subst hx; exact .inr hi
  have hO2 : Only (g :: r.toList) w w2 := (hO.alloc _).trans (Only.of_grown hg) hr
  have hne := ho1.apart hc (by decide)
  have hc2 : Cel w2 g 86 #[.bool true, v, .int .i64 0] := hc.grown hg hne
  have hne2 : v2.ownBlock ≠ some g := ho.apart hc2 (by decide)
  have hs : wr.heap.size + 1 ≤ w2.heap.size := by have := hg.size; simpa using this
  refine ⟨v2, bs ++ [0#8], 8, ?_, ?_, ?_, hR.grow, by omega, ?_⟩
  · have := (hc2.put 1 v2).put 2 (.int .i64 8)
    simpa using this
  · exact ownsRow_setCell_other (ownsRow_setCell_other ho (a := ⟨g, 1, none⟩) hne2 _) (a := ⟨g, 2, none⟩) hne2 _
  · rcases hv2 with h | h
    · rw [h]; exact hv
    · exact .inr ⟨_, h, by have := hO.size; omega⟩
  · exact (hO2.put (p := ⟨g, 1, none⟩) (.inl (by simp)) _).put (p := ⟨g, 2, none⟩) (.inl (by simp)) _

theorem put_close {w wc : World} {base g gr m c fr s gk k N : Nat} {r : Option Nat} {L : List Bool} {bs : List Byte} {x : Byte} (a : Nat)
    (hc : Cel wc g 86 #[.bool true, .slice (some ⟨gr, 0, none⟩) (m + 1) c, .int .i64 (fr : Int)]) (ho : Ow wc base 5 (.slice (some ⟨gr, 0, none⟩) (m + 1) c) bs)
    (hv : (Value.slice (some ⟨gr, 0, none⟩) (m + 1) c).ownBlock = r ∨ ∃ i, (Value.slice (some ⟨gr, 0, none⟩) (m + 1) c).ownBlock = some i ∧ w.heap.size ≤ i)
    (hR : Room bs (L ++ bitsOf (N / 2 ^ gk) (k - gk)) fr) (hl : bs.length = m + 1) (hx : bs[m]? = some x) (hs : s ≤ fr) (hf : 0 < fr) (hs0 : 0 < s) (hsg : s ≤ gk) (hgk : gk ≤ k) (hO : Only (g :: r.toList) w wc) :
    PutAt w base g r (L ++ bitsOf (N / 2 ^ (gk - s)) (k - (gk - s))) (((wc.setCell ⟨g, 2, none⟩ (.int .i64 ((fr - s : Nat) : Int))).drewN a).setCell ⟨gr, m, none⟩ (B8 (x ||| (piece (N / 2 ^ (gk - s)) s <<< (fr - s))))) := by
  have hne : gr ≠ g := fun e => ho.apart hc (by decide) (by rw [e]; rfl)
  have h8 := hR.le
  have hput := hR.put hs hf x (piece (N / 2 ^ (gk - s)) s) (m := N / 2 ^ (gk - s)) (by rw [hl]; exact hx) (piece_bit _ _ (by omega))
  have hq : N / 2 ^ (gk - s) / 2 ^ s = N / 2 ^ gk := by rw [Nat.div_div_eq_div_mul, ← Nat.pow_add, show gk - s + s = gk by omega]
  have hb := bitsOf_add (N / 2 ^ (gk - s)) (k - gk) s
  rw [hq, show k - gk + s = k - (gk - s) by omega] at hb
  rw [List.append_assoc, ← hb, hl] at hput
  have hc2 := (hc.put 2 (.int .i64 ((fr - s : Nat) : Int))).draws a
  have ho2 : Ow ((wc.setCell ⟨g, 2, none⟩ (.int .i64 ((fr - s : Nat) : Int))).drewN a) base 5 (.slice (some ⟨gr, 0, none⟩) (m + 1) c) bs := ownsRow_setCell_other ho (a := ⟨g, 2, none⟩) (fun e => hne (by injection e)) _
  refine ⟨some gr, ⟨.slice (some ⟨gr, 0, none⟩) (m + 1) c, _, fr - s, ?_, ho2.set_ rfl _, rfl, hput, by omega⟩, ?_, ?_⟩
  · have h3 := (Below.heap_setCell ((wc.setCell ⟨g, 2, none⟩ (.int .i64 ((fr - s : Nat) : Int))).drewN a) ⟨gr, m, none⟩ (B8 (x ||| (piece (N / 2 ^ (gk - s)) s <<< (fr - s)))) g (fun e => hne e.symm)).trans hc2
    unfold Cel
    simpa using h3
  · exact hv
  · refine ((hO.put (p := ⟨g, 2, none⟩) (.inl (by simp)) _).draws a).put (p := ⟨gr, m, none⟩) ?_ _
    rcases hv with h | ⟨i, h, hi⟩
    · rw [← h]; exact .inl (by simp [Value.ownBlock])
    · injection h with h; subst h; exact .inr hi

theorem min_of (a b : Nat) : ∃ s : Nat, (if b < a then (b : Int) else (a : Int)) = (s : Int) ∧ s ≤ a ∧ s ≤ b ∧ (0 < a → 0 < b → 0 < s) := by
  refine ⟨min a b, ?_, by omega, by omega, by omega⟩
  split <;> omega

set_option maxHeartbeats 1000000 in
theorem put_any (w : World) (base g : Nat) (r : Option Nat) (L : List Bool) (n : BitVec 64) (k : Nat) (h : WAt w base g r L) (hk : k ≤ 64) (hL : L.length < 1000000) (hbase : base ≤ w.heap.size) :
    Calls Try.prog 35 #[.pointer (some ⟨g, 0, none⟩), .int .u64 (n.toNat : Int), .int .i64 (k : Int)] w fun e w' => e = .returned (.pointer (some ⟨g, 0, none⟩)) ∧ PutAt w base g r (L ++ bitsOf n.toNat k) w' := by
  have hg := h.lt
  have c0 : w.cell? ⟨g, 0, none⟩ = some (.bool true) := by
    obtain ⟨v, bs, fr, hc, _⟩ := h
    have := hc.cell 0
    simpa using this
  go_enter Try.func35, Try.ntmps35
  go_wp2_with (go_at_call 52; refine (valid_yes _ _ (by omega) (by omega)).mono ?_; rintro e w' ⟨rfl, rfl⟩)
  go_loopg [2] k (fun j i wr => j ≤ k ∧ i = .int .i64 (j : Int) ∧ PutAt w base g r (L ++ bitsOf (n.toNat / 2 ^ j) (k - j)) wr)
  case atStart => exact ⟨Nat.le_refl _, rfl, r, by rw [Nat.sub_self]; simpa [bitsOf] using h, .inl rfl, Only.refl _ _⟩
  case round =>
    obtain ⟨hj, rfl, hP⟩ := hrel
    by_cases hj0 : gk = 0
    · subst hj0
      go_wp2
      go_ret
      exact ⟨rfl, by simpa using hP⟩
    · have hpos : 0 < gk := by omega
      obtain ⟨r', ⟨v, bs, fr, hc, ho, rfl, hR, hf⟩, hr', hO⟩ := hP
      obtain ⟨A, c, rfl, _⟩ := ho.reads
      have c1 := hc.cell 1
      have c2 := hc.cell 2
      have f1 := hc.free 1
      have f2 := hc.free 2
      simp at c1 c2
      have hbl : bs.length ≤ 2000000 := by
        have h1 := hR.len
        rw [List.length_append, bitsOf_len] at h1
        omega
      have hwr : base ≤ wr.heap.size := Nat.le_trans hbase hO.size
      go_upto_if 28 with (fail)
      go_cut [2] (fun s2 wx => s2 = .int .i64 (gk : Int) ∧ PutMid w base g r (L ++ bitsOf (n.toNat / 2 ^ gk) (k - gk)) wx)
      case first =>
        by_cases hfr : fr = 0
        · subst hfr
          have hne := ho.apart hc (by decide)
          go_wp2_with (first
            | (at_builtin; refine wpList_appAt _ is_bytes rfl (.tmp 33) (.tmp 34) rfl (v := Value.slice A bs.length c) (m := bs) rfl (ho.alloc _) (l := [0#8]) rfl (Bs_new1 _ _ _ _ rfl) (by simp) (by simp; omega) (by simp; omega) ?_; intro v2 w2 hown2 hgrow2 hat2; obtain ⟨A2, c2', rfl, _⟩ := hown2.reads_len (n := bs.length + 1) (by simp); have hcw := hc.grown hgrow2 hne; have e1 := hcw.cell 1; have e2 := hcw.cell 2; have e3 := hcw.free 1; have e4 := hcw.free 2; simp at e1 e2))
          go_meet
          case rel => exact ⟨rfl, mid_of hc hown2 hgrow2 ho hr' (by simpa using hat2) hR hO⟩
        · go_wp2
          go_meet
          case rel => exact ⟨rfl, _, bs, fr, hc, ho, hr', hR, by omega, hO⟩
      case rest =>
        clear hc ho hR hr' hO c1 c2 f1 f2 hbl hwr hf
        obtain ⟨rfl, v, bs, fr, hc, ho, hr', hR, hf, hO⟩ := hcut
        have h8 := hR.le
        obtain ⟨m, hm⟩ : ∃ m, bs.length = m + 1 := ⟨bs.length - 1, by have := hR.len; omega⟩
        have hm2 : m < 2000000 := by
          have h1 := hR.len
          rw [List.length_append, bitsOf_len] at h1
          omega
        obtain ⟨x, hx⟩ : ∃ x, bs[m]? = some x := ⟨_, List.getElem?_eq_getElem (by omega)⟩
        obtain ⟨gr, c, rfl, hgb, hgl, hmc, hcm, hcells, hfree⟩ := ho.form_len hm
        have c1 := hc.cell 1
        have c2 := hc.cell 2
        have f1 := hc.free 1
        have f2 := hc.free 2
        have c3 := hcells m x hx
        have f3 := hfree m
        have hne : gr ≠ g := fun e => ho.apart hc (by decide) (by rw [e]; rfl)
        have hne2 : g ≠ gr := fun e => hne e.symm
        simp at c1 c2
        obtain ⟨s, hmin, hsg, hsf, hs0⟩ := min_of gk fr
        have hs1 := hs0 hpos hf
        have HM := Lib.hid hm
        have HX := Lib.hid hx
        unfold maxLen at hcm
        clear hm hx hcells hfree hs0
        go_wp2
        obtain ⟨q, hq⟩ : ∃ q, q = gk - s := ⟨_, rfl⟩
        obtain ⟨p, hp⟩ : ∃ p, p = fr - s := ⟨_, rfl⟩
        rw [show ((gk : Int) - (s : Int)) = (q : Int) by omega, show ((fr : Int) - (s : Int)) = (p : Int) by omega]
        have hq1 : q ≤ 64 := by omega
        have hp1 : p + s ≤ 8 := by omega
        have hs8 : s ≤ 8 := by omega
        have HQ := Lib.hid hq
        have HP := Lib.hid hp
        clear hq hp hmin
        go_quiet (fail)
        have hpw := piece_walk (n.toNat / 2 ^ q) s hs8
        rw [IntKind.wrap_u8, ← div_nat] at hpw
        rw [hpw]
        clear hpw
        obtain ⟨y, hy⟩ : ∃ y, y = piece (n.toNat / 2 ^ q) s := ⟨_, rfl⟩
        rw [← hy]
        have HY := Lib.hid hy
        clear hy
        have hcW := (hc.put 2 (.int .i64 (p : Int))).draws nq
        have d1 := hcW.cell 1
        have d2 := hcW.cell 2
        have d3 : ((wc.setCell ⟨g, 2, none⟩ (.int .i64 (p : Int))).drewN nq).cell? ⟨gr, m, none⟩ = some (B8 x) := (World.cell?_of_block (Below.heap_setCell wc ⟨g, 2, none⟩ _ gr hne)).trans c3
        have d4 : ((wc.setCell ⟨g, 2, none⟩ (.int .i64 (p : Int))).drewN nq).frozen? ⟨gr, m, none⟩ = false := (World.frozen?_of_block (Below.heap_setCell wc ⟨g, 2, none⟩ _ gr hne)).trans f3
        obtain ⟨W, hW⟩ : ∃ W, W = (wc.setCell ⟨g, 2, none⟩ (.int .i64 (p : Int))).drewN nq := ⟨_, rfl⟩
        rw [← hW] at d1 d2 d3 d4 ⊢
        simp at d1 d2
        have HW := Lib.hid hW
        have hm0 : 0 ≤ (m : Int) := Int.natCast_nonneg _
        clear hW hcW c1 c2 c3 f1 f2 f3
        go_wp2
        go_region
        go_wp2
        go_roundg q
        case measure => have := HQ.out; omega
        case rel =>
          have hq := HQ.out
          have hp := HP.out
          have hy := HY.out
          have hW := HW.out
          subst hW
          refine ⟨by omega, rfl, ?_⟩
          have hsh := u8_shl y p
          rw [IntKind.wrap_u8] at hsh
          rw [hsh, u8_or, hy, hq, hp]
          have hfin := put_close nq hc ho hr' hR HM.out HX.out hsf hf hs1 hsg hj hO
          obtain ⟨r2, h1, h2, h3⟩ := hfin
          exact ⟨r2, h1, h2, h3.drew⟩
end Go.Proofs.Ytcmonalnhdodmaa

/-
  A region that draws its order, walked by hand: the condition on the worlds may be changed on the way. No dump is imported.
-/
namespace Go.Proofs.Ytcmonalnhdodmaa
open Go.RowKit

section
variable {P : Program} {ops : Array Oper} {Q : Exit → Act → World → Prop} {md : Region.Mode} {S S' : World → Prop}
/-- a sharper condition from here on -/
theorem wpAnyH_switch (h : ∀ w, S' w → S w) : ∀ (fuel : Nat) (listed : Array Bool) (a : Act) (w : World), wpAnyH P md ops Q S' fuel listed a w → wpAnyH P md ops Q S fuel listed a w
  | 0, _, _, _, h0 => h0
  | fuel + 1, _, _, _, h0 => ⟨h0.1, fun i hi => wpOp_mono (fun _ _ h' => ⟨h _ h'.1, wpAnyH_switch h fuel _ _ _ h'.2⟩) (h0.2 i hi)⟩
theorem wpAnyH_sharpen {fuel : Nat} {listed : Array Bool} {a : Act} {w : World} (h : ∀ w, S' w → S w) (hS : S' w) (k : S' w → wpAnyH P md ops Q S' fuel listed a w) : wpAnyH P md ops Q S fuel listed a w :=
  wpAnyH_switch h _ _ _ _ (k hS)
/-- from here on the world stays as it is -/
theorem wpAnyH_pin {fuel : Nat} {listed : Array Bool} {a : Act} {w : World} (hS : S w) (h : w = w → wpAnyH P md ops Q (fun w' => w' = w) fuel listed a w) : wpAnyH P md ops Q S fuel listed a w :=
  wpAnyH_switch (fun _ e => e ▸ hS) _ _ _ _ (h rfl)
/-- number i is taken first; the operation is read off the list itself -/
theorem wpAnyH_here {l : List Oper} (i : Nat) {oi : Oper} {v : Value} {fuel : Nat} {listed : Array Bool} {a : Act} {w : World} (hi : l[i]? = some oi)
    (hs : Region.noSelect l.toArray = true) (hf : Region.free md l.toArray listed i = true) (hr : (Region.ready md l.toArray listed).contains i = true)
    (hQ : ∀ c a w, Q (.panic c) (a.put oi.dst v) w → Q (.panic c) a w) (hy : YieldsIf P l.toArray S oi v a) (hS : S w)
    (h : wpAnyH P md l.toArray Q S fuel (listed.setIfInBounds i true) (a.put oi.dst v) w) : wpAnyH P md l.toArray Q S (fuel + 1) listed a w :=
  wpAnyH_take (by simpa using hi) hs hf hr hQ hy hS h
/-- number i alone may come up -/
theorem wpAnyH_alone {l : List Oper} (i : Nat) {o : Oper} {fuel : Nat} {listed : Array Bool} {a : Act} {w : World} (hi : l[i]? = some o) (hr : Region.ready md l.toArray listed = [i])
    (h : ∀ K' : Act → World → Prop, Shut (∀ a w, S w → (S w → wpAnyH P md l.toArray Q S fuel (listed.setIfInBounds i true) a w) → K' a w) → if Region.wanted o (yielded l.toArray a.tmps) = true then Oper.wp P o a w K' Q else K' (a.put o.dst undef) w) :
    wpAnyH P md l.toArray Q S (fuel + 1) listed a w :=
  wpAnyH_ready hr (by simp) (AllReadyH.cons (by simpa using hi) h AllReadyH.nil)
/-- numbers i and j may come up: both ways -/
theorem wpAnyH_both {l : List Oper} (i j : Nat) {o o' : Oper} {fuel : Nat} {listed : Array Bool} {a : Act} {w : World} (hi : l[i]? = some o) (hj : l[j]? = some o') (hr : Region.ready md l.toArray listed = [i, j])
    (h : ∀ K' : Act → World → Prop, Shut (∀ a w, S w → (S w → wpAnyH P md l.toArray Q S fuel (listed.setIfInBounds i true) a w) → K' a w) → if Region.wanted o (yielded l.toArray a.tmps) = true then Oper.wp P o a w K' Q else K' (a.put o.dst undef) w)
    (h' : ∀ K' : Act → World → Prop, Shut (∀ a w, S w → (S w → wpAnyH P md l.toArray Q S fuel (listed.setIfInBounds j true) a w) → K' a w) → if Region.wanted o' (yielded l.toArray a.tmps) = true then Oper.wp P o' a w K' Q else K' (a.put o'.dst undef) w) :
    wpAnyH P md l.toArray Q S (fuel + 1) listed a w :=
  wpAnyH_ready hr (by simp) (AllReadyH.cons (by simpa using hi) h (AllReadyH.cons (by simpa using hj) h' AllReadyH.nil))
end
end Go.Proofs.Ytcmonalnhdodmaa

/-
  The Writer of package bits as one state; the walk of package packet's Encode.
-/
namespace Go.Proofs.Ytcmonalnhdodmaa.Pac
open Go.RowKit

/-- block g is a Writer with the bits L, made behind w0; the blocks below B are as w0 had them -/
def WS (B : Nat) (w0 : World) (g : Nat) (L : List Bool) (w : World) : Prop := (∃ r, WAt w B g r L) ∧ B ≤ g ∧ Below B w0 w
theorem WS.new {B : Nat} {w0 w : World} (h : Below B w0 w) (hB : B ≤ w.heap.size) : WS B w0 w.heap.size [] (w.alloc (.cells #[.bool true, .slice none 0 0, .int .i64 0] 86)) :=
  ⟨⟨none, WAt_new w B⟩, hB, h.alloc hB _⟩
theorem WS.draws {B : Nat} {w0 w : World} {g : Nat} {L : List Bool} (h : WS B w0 g L w) : WS B w0 g L w.drew := by
  obtain ⟨⟨r, h1⟩, h2, h3⟩ := h
  exact ⟨⟨r, h1⟩, h2, h3.drew⟩
theorem WS.put {B : Nat} {w0 w : World} {g : Nat} {L : List Bool} (h : WS B w0 g L w) (x : Int) (X : Nat) (hx : x = (X : Int)) (y : Int) (k : Nat) (hy : y = (k : Int)) (hX : X < 18446744073709551616) (hk : k ≤ 64) (hL : L.length < 1000000) :
    Calls Try.prog 35 #[.pointer (some ⟨g, 0, none⟩), .int .u64 x, .int .i64 y] w fun e w' => e = .returned (.pointer (some ⟨g, 0, none⟩)) ∧ WS B w0 g (L ++ bitsOf X k) w' := by
  obtain ⟨⟨r, h1⟩, h2, h3⟩ := h
  subst hx hy
  have hlt := h1.lt
  have e : (BitVec.ofNat 64 X).toNat = X := by rw [BitVec.toNat_ofNat, Nat.mod_eq_of_lt (by omega)]
  have hp := put_any w B g r L (BitVec.ofNat 64 X) k h1 hk hL (by omega)
  rw [e] at hp
  refine hp.mono ?_
  rintro e w' ⟨rfl, r', h4, _, h5⟩
  refine ⟨rfl, ⟨r', h4⟩, h2, h3.trans (h5.below (by omega) fun x hx => ?_)⟩
  rcases List.mem_cons.1 hx with rfl | hx
  · exact h2
  · exact (h1.row x (by simpa using hx)).1
theorem WS.bytes {B : Nat} {w0 w : World} {g : Nat} {L : List Bool} (h : WS B w0 g L w) (hL : L.length < 1000000) :
    Calls Try.prog 37 #[.pointer (some ⟨g, 0, none⟩)] w fun e w' => ∃ v bs, e = .returned v ∧ Packs bs L ∧ Ow w' w.heap.size 5 v bs ∧ Below w.heap.size w w' := by
  obtain ⟨⟨r, h1⟩, _⟩ := h
  exact wbytes_any w B g r L h1 hL
theorem WS.size {B : Nat} {w0 w : World} {g : Nat} {L : List Bool} (h : WS B w0 g L w) : B < w.heap.size := by
  obtain ⟨⟨r, h1⟩, h2, _⟩ := h
  have := h1.lt
  omega

theorem to_u64 (X : Nat) (h : X < 1000000) : IntKind.u64.wrap (X : Int) = (X : Int) := by rw [IntKind.wrap_u64]; omega

set_option maxHeartbeats 1000000 in
theorem encode_no (com sec : Bool) (ap fl ct : Int) (a : Option Addr) (l : List Byte) (n c : Nat) (w : World) (hl : Hid (l.length = n)) (hb : Bs w w.heap.size a l) (hm : n ≤ maxLen) (hok : Pk.ok ⟨com, sec, ap, fl, ct, l⟩ = false) :
    Calls Try.prog 19 #[.agg #[.bool com, .bool sec, .int .i64 ap, .int .i64 fl, .int .i64 ct, .slice a n c]] w fun e w' => e = .returned (.tuple #[.slice none 0 0, .int .i64 1]) ∧ Below w.heap.size w w' := by
  have hv := valid_any com sec ap fl ct a l n c _ hl ((Bs.new hb (.cells #[.bool com, .bool sec, .int .i64 ap, .int .i64 fl, .int .i64 ct, .slice a n c] 56)).more (bel_new w _).size) hm
  rw [hok] at hv
  clear hok hl hb hm
  go_enter Try.func19, Try.ntmps19
  go_wp2_with fail
  refine hv.mono ?_
  rintro e w' ⟨rfl, hbe⟩
  go_wp2
  go_ret2
  exact ⟨rfl, (bel_new _ _).trans (hbe.mono (bel_new _ _).size)⟩

set_option maxHeartbeats 2000000 in
theorem encode_yes (com sec : Bool) (A F T K : Nat) (a : Option Addr) (l : List Byte) (c : Nat) (w : World) (hl : Hid (l.length = K + 1)) (hb : Bs w w.heap.size a l) (hn : a = none → c = 0) (hok : Pk.ok ⟨com, sec, A, F, T, l⟩ = true) (hA : A < 2048) (hF : F < 4) (hT : T < 16384) (hK : K < 4090) :
    Calls Try.prog 19 #[.agg #[.bool com, .bool sec, .int .i64 (A : Int), .int .i64 (F : Int), .int .i64 (T : Int), .slice a (K + 1) c]] w fun e w' => ∃ v, e = .returned (.tuple #[v, .int .i64 0]) ∧ Ow w' w.heap.size 5 v (hdr (hd1 com sec A) (hd2 F T) K ++ l) ∧ Below w.heap.size w w' := by
  have hv := valid_any com sec (A : Int) (F : Int) (T : Int) a l (K + 1) c _ hl ((Bs.new hb (.cells #[.bool com, .bool sec, .int .i64 (A : Int), .int .i64 (F : Int), .int .i64 (T : Int), .slice a (K + 1) c] 56)).more (bel_new w _).size) (by unfold maxLen; omega)
  rw [hok] at hv
  have hP0 := Cel.new w 56 #[.bool com, .bool sec, .int .i64 (A : Int), .int .i64 (F : Int), .int .i64 (T : Int), .slice a (K + 1) c]
  have k1 := to_u64 A (by omega)
  have k2 := to_u64 F (by omega)
  have k3 := to_u64 T (by omega)
  have k4 := to_u64 K (by omega)
  clear hok
  go_enter Try.func19, Try.ntmps19
  go_wp2_with fail
  refine hv.mono ?_
  rintro e w1 ⟨rfl, hbe⟩
  have hP := Cel.later hP0 hbe
  have bel1 := (bel_new w (.cells #[.bool com, .bool sec, .int .i64 (A : Int), .int .i64 (F : Int), .int .i64 (T : Int), .slice a (K + 1) c] 56)).trans (hbe.mono (bel_new w _).size)
  have hlt := hP.lt
  have c0 := hP.cell 0
  have c1 := hP.cell 1
  have c2 := hP.cell 2
  have c3 := hP.cell 3
  have c4 := hP.cell 4
  have c5 := hP.cell 5
  simp at c0 c1 c2 c3 c4 c5
  clear hv hP0 hP hbe
  go_wp2_with fail
  refine wp_region_held_drew (S := (fun w' => w'.cell? ⟨w.heap.size, 0, none⟩ = some (.bool com) ∧ w'.cell? ⟨w.heap.size, 1, none⟩ = some (.bool sec))) (by kernel_rfl) (⟨c0, c1⟩) (fun hHeld => ?_)
  refine wpAnyH_here 2 (v := ?_) rfl (by kernel_rfl) (by kernel_rfl) (by kernel_rfl) (fun _ _ _ h => h) (Or.inl ⟨by rfl, ?_⟩) hHeld ?_
  rotate_left
  · intro w hSw; (try dsimp only at hSw); go_simp; all_goals (with_reducible rfl)
  try simp only [Act.put, List.setIfInBounds_toArray, List.set_cons_zero, List.set_cons_succ]
  refine wpAnyH_here 3 (v := ?_) rfl (by kernel_rfl) (by kernel_rfl) (by kernel_rfl) (fun _ _ _ h => h) (Or.inl ⟨by rfl, ?_⟩) hHeld ?_
  rotate_left
  · intro w hSw; (try dsimp only at hSw); go_simp; all_goals (with_reducible rfl)
  try simp only [Act.put, List.setIfInBounds_toArray, List.set_cons_zero, List.set_cons_succ]
  refine wpAnyH_here 6 (v := ?_) rfl (by kernel_rfl) (by kernel_rfl) (by kernel_rfl) (fun _ _ _ h => h) (Or.inl ⟨by rfl, ?_⟩) hHeld ?_
  rotate_left
  · intro w hSw; (try dsimp only at hSw); go_simp; all_goals (with_reducible rfl)
  try simp only [Act.put, List.setIfInBounds_toArray, List.set_cons_zero, List.set_cons_succ]
  refine wpAnyH_here 7 (v := ?_) rfl (by kernel_rfl) (by kernel_rfl) (by kernel_rfl) (fun _ _ _ h => h) (Or.inl ⟨by rfl, ?_⟩) hHeld ?_
  rotate_left
  · intro w hSw; (try dsimp only at hSw); go_simp; all_goals (with_reducible rfl)
  try simp only [Act.put, List.setIfInBounds_toArray, List.set_cons_zero, List.set_cons_succ]
  refine wpAnyH_alone 0 rfl (by kernel_rfl) (fun K hK => ?_)
  go_simp
  (go_at_call 34; refine (newWriter_any _).mono ?_; rintro e W0 ⟨rfl, hW0⟩; have s0 : WS w1.heap.size w1 w1.heap.size [] W0 := by rw [← hW0]; exact WS.new (Below.refl _ _).drew (Nat.le_refl _)); clear hW0; have HB := s0.2.2
  refine hK.out _ _ (⟨(HB.cell (p := ⟨w.heap.size, 0, none⟩) hlt).trans c0, (HB.cell (p := ⟨w.heap.size, 1, none⟩) hlt).trans c1⟩) (fun hHeld => ?_)
  clear hK K
  try simp only [Act.put, List.setIfInBounds_toArray, List.set_cons_zero, List.set_cons_succ]
  refine wpAnyH_alone 1 rfl (by kernel_rfl) (fun K hK => ?_)
  go_simp
  (go_at_call 35; refine (s0.put (0) (0) rfl 3 3 rfl (by omega) (by omega) (by simp)).mono ?_; rintro e W1 ⟨rfl, s1⟩; have HB := s1.2.2)
  refine hK.out _ _ (⟨(HB.cell (p := ⟨w.heap.size, 0, none⟩) hlt).trans c0, (HB.cell (p := ⟨w.heap.size, 1, none⟩) hlt).trans c1⟩) (fun hHeld => ?_)
  clear hK K
  try simp only [Act.put, List.setIfInBounds_toArray, List.set_cons_zero, List.set_cons_succ]
  refine wpAnyH_alone 4 rfl (by kernel_rfl) (fun K hK => ?_)
  go_simp
  (go_at_call 36; refine (bit_any _ _).mono ?_; rintro e W2 ⟨rfl, rfl⟩)
  refine hK.out _ _ (⟨(HB.cell (p := ⟨w.heap.size, 0, none⟩) hlt).trans c0, (HB.cell (p := ⟨w.heap.size, 1, none⟩) hlt).trans c1⟩) (fun hHeld => ?_)
  clear hK K
  try simp only [Act.put, List.setIfInBounds_toArray, List.set_cons_zero, List.set_cons_succ]
  refine wpAnyH_alone 5 rfl (by kernel_rfl) (fun K hK => ?_)
  go_simp
  (go_at_call 35; refine (s1.put ((nb com : Nat)) (nb com) rfl 1 1 rfl (by have := nb_lt com; have := nb_lt sec; omega) (by omega) (by simp [bitsOf_len])).mono ?_; rintro e W3 ⟨rfl, s3⟩; have HB := s3.2.2)
  refine hK.out _ _ (⟨(HB.cell (p := ⟨w.heap.size, 0, none⟩) hlt).trans c0, (HB.cell (p := ⟨w.heap.size, 1, none⟩) hlt).trans c1⟩) (fun hHeld => ?_)
  clear hK K
  try simp only [Act.put, List.setIfInBounds_toArray, List.set_cons_zero, List.set_cons_succ]
  refine wpAnyH_alone 8 rfl (by kernel_rfl) (fun K hK => ?_)
  go_simp
  (go_at_call 36; refine (bit_any _ _).mono ?_; rintro e W4 ⟨rfl, rfl⟩)
  refine hK.out _ _ (⟨(HB.cell (p := ⟨w.heap.size, 0, none⟩) hlt).trans c0, (HB.cell (p := ⟨w.heap.size, 1, none⟩) hlt).trans c1⟩) (fun hHeld => ?_)
  clear hK K
  try simp only [Act.put, List.setIfInBounds_toArray, List.set_cons_zero, List.set_cons_succ]
  refine wpAnyH_alone 9 rfl (by kernel_rfl) (fun K hK => ?_)
  go_simp
  (go_at_call 35; refine (s3.put ((nb sec : Nat)) (nb sec) rfl 1 1 rfl (by have := nb_lt com; have := nb_lt sec; omega) (by omega) (by simp [bitsOf_len])).mono ?_; rintro e W5 ⟨rfl, s5⟩; have HB := s5.2.2)
  refine hK.out _ _ (⟨(HB.cell (p := ⟨w.heap.size, 0, none⟩) hlt).trans c0, (HB.cell (p := ⟨w.heap.size, 1, none⟩) hlt).trans c1⟩) (fun hHeld => ?_)
  clear hK K
  try simp only [Act.put, List.setIfInBounds_toArray, List.set_cons_zero, List.set_cons_succ]
  refine wpAnyH_here 10 (v := ?_) rfl (by kernel_rfl) (by kernel_rfl) (by kernel_rfl) (fun _ _ _ h => h) (Or.inl ⟨by rfl, ?_⟩) hHeld ?_
  rotate_left
  · intro w hSw; (try dsimp only at hSw); go_simp; all_goals (with_reducible rfl)
  try simp only [Act.put, List.setIfInBounds_toArray, List.set_cons_zero, List.set_cons_succ]
  refine wpAnyH_done (by kernel_rfl) ?_ _
  clear c0 c1
  have d2 := (HB.cell (p := ⟨w.heap.size, 2, none⟩) hlt).trans c2
  have d3 := (HB.cell (p := ⟨w.heap.size, 3, none⟩) hlt).trans c3
  have d4 := (HB.cell (p := ⟨w.heap.size, 4, none⟩) hlt).trans c4
  go_wp2_with fail
  refine wp_region_held_drew (S := (fun w' => w'.cell? ⟨w.heap.size, 2, none⟩ = some (.int .i64 (A : Int)) ∧ w'.cell? ⟨w.heap.size, 3, none⟩ = some (.int .i64 (F : Int)) ∧ w'.cell? ⟨w.heap.size, 4, none⟩ = some (.int .i64 (T : Int)))) (by kernel_rfl) (⟨d2, d3, d4⟩) (fun hHeld => ?_)
  refine wpAnyH_here 0 (v := ?_) rfl (by kernel_rfl) (by kernel_rfl) (by kernel_rfl) (fun _ _ _ h => h) (Or.inl ⟨by rfl, ?_⟩) hHeld ?_
  rotate_left
  · intro w hSw; (try dsimp only at hSw); go_simp; all_goals (with_reducible rfl)
  try simp only [Act.put, List.setIfInBounds_toArray, List.set_cons_zero, List.set_cons_succ]
  refine wpAnyH_here 1 (v := ?_) rfl (by kernel_rfl) (by kernel_rfl) (by kernel_rfl) (fun _ _ _ h => h) (Or.inl ⟨by rfl, ?_⟩) hHeld ?_
  rotate_left
  · intro w hSw; (try dsimp only at hSw); go_simp; all_goals (with_reducible rfl)
  try simp only [Act.put, List.setIfInBounds_toArray, List.set_cons_zero, List.set_cons_succ]
  refine wpAnyH_here 2 (v := ?_) rfl (by kernel_rfl) (by kernel_rfl) (by kernel_rfl) (fun _ _ _ h => h) (Or.inl ⟨by rfl, ?_⟩) hHeld ?_
  rotate_left
  · intro w hSw; (try dsimp only at hSw); go_simp; all_goals (with_reducible rfl)
  try simp only [Act.put, List.setIfInBounds_toArray, List.set_cons_zero, List.set_cons_succ]
  refine wpAnyH_here 3 (v := ?_) rfl (by kernel_rfl) (by kernel_rfl) (by kernel_rfl) (fun _ _ _ h => h) (Or.inl ⟨by rfl, ?_⟩) hHeld ?_
  rotate_left
  · intro w hSw; (try dsimp only at hSw); go_simp; all_goals (with_reducible rfl)
  try simp only [Act.put, List.setIfInBounds_toArray, List.set_cons_zero, List.set_cons_succ]
  refine wpAnyH_here 5 (v := ?_) rfl (by kernel_rfl) (by kernel_rfl) (by kernel_rfl) (fun _ _ _ h => h) (Or.inl ⟨by rfl, ?_⟩) hHeld ?_
  rotate_left
  · intro w hSw; (try dsimp only at hSw); go_simp; all_goals (with_reducible rfl)
  try simp only [Act.put, List.setIfInBounds_toArray, List.set_cons_zero, List.set_cons_succ]
  refine wpAnyH_here 6 (v := ?_) rfl (by kernel_rfl) (by kernel_rfl) (by kernel_rfl) (fun _ _ _ h => h) (Or.inl ⟨by rfl, ?_⟩) hHeld ?_
  rotate_left
  · intro w hSw; (try dsimp only at hSw); go_simp; all_goals (with_reducible rfl)
  try simp only [Act.put, List.setIfInBounds_toArray, List.set_cons_zero, List.set_cons_succ]
  refine wpAnyH_here 7 (v := ?_) rfl (by kernel_rfl) (by kernel_rfl) (by kernel_rfl) (fun _ _ _ h => h) (Or.inl ⟨by rfl, ?_⟩) hHeld ?_
  rotate_left
  · intro w hSw; (try dsimp only at hSw); go_simp; all_goals (with_reducible rfl)
  try simp only [Act.put, List.setIfInBounds_toArray, List.set_cons_zero, List.set_cons_succ]
  refine wpAnyH_here 9 (v := ?_) rfl (by kernel_rfl) (by kernel_rfl) (by kernel_rfl) (fun _ _ _ h => h) (Or.inl ⟨by rfl, ?_⟩) hHeld ?_
  rotate_left
  · intro w hSw; (try dsimp only at hSw); go_simp; all_goals (with_reducible rfl)
  try simp only [Act.put, List.setIfInBounds_toArray, List.set_cons_zero, List.set_cons_succ]
  refine wpAnyH_here 10 (v := ?_) rfl (by kernel_rfl) (by kernel_rfl) (by kernel_rfl) (fun _ _ _ h => h) (Or.inl ⟨by rfl, ?_⟩) hHeld ?_
  rotate_left
  · intro w hSw; (try dsimp only at hSw); go_simp; all_goals (with_reducible rfl)
  try simp only [Act.put, List.setIfInBounds_toArray, List.set_cons_zero, List.set_cons_succ]
  refine wpAnyH_here 11 (v := ?_) rfl (by kernel_rfl) (by kernel_rfl) (by kernel_rfl) (fun _ _ _ h => h) (Or.inl ⟨by rfl, ?_⟩) hHeld ?_
  rotate_left
  · intro w hSw; (try dsimp only at hSw); go_simp; all_goals (with_reducible rfl)
  try simp only [Act.put, List.setIfInBounds_toArray, List.set_cons_zero, List.set_cons_succ]
  refine wpAnyH_alone 4 rfl (by kernel_rfl) (fun K hK => ?_)
  go_simp
  (go_at_call 35; refine (s5.draws.put ((A : Int)) (A) rfl 11 11 rfl (by omega) (by omega) (by simp [bitsOf_len])).mono ?_; rintro e W6 ⟨rfl, s6⟩; have HB := s6.2.2)
  refine hK.out _ _ (⟨(HB.cell (p := ⟨w.heap.size, 2, none⟩) hlt).trans c2, (HB.cell (p := ⟨w.heap.size, 3, none⟩) hlt).trans c3, (HB.cell (p := ⟨w.heap.size, 4, none⟩) hlt).trans c4⟩) (fun hHeld => ?_)
  clear hK K
  try simp only [Act.put, List.setIfInBounds_toArray, List.set_cons_zero, List.set_cons_succ]
  refine wpAnyH_alone 8 rfl (by kernel_rfl) (fun K hK => ?_)
  go_simp
  (go_at_call 35; refine (s6.put ((F : Int)) (F) rfl 2 2 rfl (by omega) (by omega) (by simp [bitsOf_len])).mono ?_; rintro e W7 ⟨rfl, s7⟩; have HB := s7.2.2)
  refine hK.out _ _ (⟨(HB.cell (p := ⟨w.heap.size, 2, none⟩) hlt).trans c2, (HB.cell (p := ⟨w.heap.size, 3, none⟩) hlt).trans c3, (HB.cell (p := ⟨w.heap.size, 4, none⟩) hlt).trans c4⟩) (fun hHeld => ?_)
  clear hK K
  try simp only [Act.put, List.setIfInBounds_toArray, List.set_cons_zero, List.set_cons_succ]
  refine wpAnyH_alone 12 rfl (by kernel_rfl) (fun K hK => ?_)
  go_simp
  (go_at_call 35; refine (s7.put ((T : Int)) (T) rfl 14 14 rfl (by omega) (by omega) (by simp [bitsOf_len])).mono ?_; rintro e W8 ⟨rfl, s8⟩; have HB := s8.2.2)
  refine hK.out _ _ (⟨(HB.cell (p := ⟨w.heap.size, 2, none⟩) hlt).trans c2, (HB.cell (p := ⟨w.heap.size, 3, none⟩) hlt).trans c3, (HB.cell (p := ⟨w.heap.size, 4, none⟩) hlt).trans c4⟩) (fun hHeld => ?_)
  clear hK K
  try simp only [Act.put, List.setIfInBounds_toArray, List.set_cons_zero, List.set_cons_succ]
  refine wpAnyH_done (by kernel_rfl) ?_ _
  clear d2 d3 d4 c2 c3 c4
  have d5 := (HB.cell (p := ⟨w.heap.size, 5, none⟩) hlt).trans c5
  go_wp2_with fail
  refine (s8.put (K : Int) K rfl 16 16 rfl (by omega) (by omega) (by simp [bitsOf_len])).mono ?_
  rintro e W9 ⟨rfl, s9⟩
  have HB := s9.2.2
  clear d5
  have d5 := (HB.cell (p := ⟨w.heap.size, 5, none⟩) hlt).trans c5
  go_wp2_with fail
  refine wp_region_held_drew (S := (fun w' => w'.cell? ⟨w.heap.size, 5, none⟩ = some (.slice a (K + 1) c))) (by kernel_rfl) (d5) (fun hHeld => ?_)
  refine wpAnyH_here 0 (v := ?_) rfl (by kernel_rfl) (by kernel_rfl) (by kernel_rfl) (fun _ _ _ h => h) (Or.inl ⟨by rfl, ?_⟩) hHeld ?_
  rotate_left
  · intro w hSw; (try dsimp only at hSw); go_simp; all_goals (with_reducible rfl)
  try simp only [Act.put, List.setIfInBounds_toArray, List.set_cons_zero, List.set_cons_succ]
  refine wpAnyH_here 2 (v := ?_) rfl (by kernel_rfl) (by kernel_rfl) (by kernel_rfl) (fun _ _ _ h => h) (Or.inl ⟨by rfl, ?_⟩) hHeld ?_
  rotate_left
  · intro w hSw; (try dsimp only at hSw); go_simp; all_goals (with_reducible rfl)
  try simp only [Act.put, List.setIfInBounds_toArray, List.set_cons_zero, List.set_cons_succ]
  refine wpAnyH_here 3 (v := ?_) rfl (by kernel_rfl) (by kernel_rfl) (by kernel_rfl) (fun _ _ _ h => h) (Or.inl ⟨by rfl, ?_⟩) hHeld ?_
  rotate_left
  · intro w hSw; (try dsimp only at hSw); go_simp; all_goals (with_reducible rfl)
  try simp only [Act.put, List.setIfInBounds_toArray, List.set_cons_zero, List.set_cons_succ]
  refine wpAnyH_alone 1 rfl (by kernel_rfl) (fun K hK => ?_)
  go_simp
  (go_at_call 37; refine (s9.draws.bytes (by simp [bitsOf_len])).mono ?_; rintro e W10 ⟨v, bs, rfl, hpk, hown, hbw⟩; obtain ⟨q1, q2, rfl, _⟩ := hown.reads_len (n := bs.length) rfl; have HB2 := HB.drew.trans (hbw.mono (by have := s9.size; simp; omega)))
  refine hK.out _ _ ((HB2.cell (p := ⟨w.heap.size, 5, none⟩) hlt).trans c5) (fun hHeld => ?_)
  clear hK K
  try simp only [Act.put, List.setIfInBounds_toArray, List.set_cons_zero, List.set_cons_succ]
  have hbs := head_of com sec A F T K hA hF hT (by omega) hpk
  have hbl : Bs W10 w.heap.size a l := hb.below (bel1.trans (HB2.mono (Nat.le_of_lt hlt)))
  have hz10 : w.heap.size ≤ W10.heap.size := Nat.le_trans (Nat.le_of_lt hlt) HB2.size
  have hz9 : w1.heap.size ≤ W9.heap.size := Nat.le_of_lt s9.size
  refine wpAnyH_alone 4 rfl (by kernel_rfl) (fun K' hK' => ?_)
  refine step_app _ is_bytes rfl (.tmp 39) (.tmp 41) rfl (m := bs) rfl (hown.more (b' := w1.heap.size) hz9) (l := l) (A := a) (c := c) (by rw [hl.out]; rfl) hbl hn (by rw [hbs, hl.out, hdr_len]; omega) (Nat.le_trans hz9 hbw.size) ?_
  intro v2 W11 hown2 hgr
  have HB3 := HB2.grown hgr (Nat.le_trans hz9 hbw.size) (fun i hi => Nat.le_trans hz9 (hown.base_le i hi))
  refine hK'.out _ _ ((HB3.cell (p := ⟨w.heap.size, 5, none⟩) hlt).trans c5) (fun hHeld => ?_)
  clear hK' K'
  try simp only [Act.put, List.setIfInBounds_toArray, List.set_cons_zero, List.set_cons_succ]
  refine wpAnyH_here 5 (v := ?_) rfl (by kernel_rfl) (by kernel_rfl) (by kernel_rfl) (fun _ _ _ h => h) (Or.inl ⟨by rfl, ?_⟩) hHeld ?_
  rotate_left
  · intro w hSw; (try dsimp only at hSw); go_simp; all_goals (with_reducible rfl)
  try simp only [Act.put, List.setIfInBounds_toArray, List.set_cons_zero, List.set_cons_succ]
  refine wpAnyH_here 6 (v := ?_) rfl (by kernel_rfl) (by kernel_rfl) (by kernel_rfl) (fun _ _ _ h => h) (Or.inl ⟨by rfl, ?_⟩) hHeld ?_
  rotate_left
  · intro w hSw; (try dsimp only at hSw); go_simp; all_goals (with_reducible rfl)
  try simp only [Act.put, List.setIfInBounds_toArray, List.set_cons_zero, List.set_cons_succ]
  refine wpAnyH_done (by kernel_rfl) ?_ _
  go_wp2
  go_ret2
  exact ⟨v2, rfl, by rw [← hbs]; exact hown2.more (by omega), bel1.trans (HB3.mono (Nat.le_of_lt hlt))⟩

theorem Ow_nil (w : World) (base : Nat) : Ow w base 5 (.slice none 0 0) [] := World.ownsRow_nil _ _ _ _

theorem encode_any (com sec : Bool) (ap fl ct : Int) (a : Option Addr) (l : List Byte) (n c : Nat) (w : World) (hl : Hid (l.length = n)) (hb : Bs w w.heap.size a l) (hn : a = none → c = 0) (hm : n ≤ maxLen) :
    Calls Try.prog 19 #[.agg #[.bool com, .bool sec, .int .i64 ap, .int .i64 fl, .int .i64 ct, .slice a n c]] w fun e w' => ∃ v, e = .returned (.tuple #[v, .int .i64 (Pk.err ⟨com, sec, ap, fl, ct, l⟩)]) ∧ Ow w' w.heap.size 5 v (Pk.enc ⟨com, sec, ap, fl, ct, l⟩) ∧ Below w.heap.size w w' := by
  cases hok : Pk.ok ⟨com, sec, ap, fl, ct, l⟩ with
  | false =>
    rw [Pk.enc_no hok, Pk.err_no hok]
    exact (encode_no com sec ap fl ct a l n c w hl hb hm hok).mono fun e w' ⟨h1, h2⟩ => ⟨_, h1, Ow_nil _ _, h2⟩
  | true =>
    rw [Pk.enc_yes hok, Pk.err_yes hok]
    obtain ⟨h1, h2, h3, h4, h5, h6, h7, h8⟩ := Pk.ok_fits hok
    simp only at h1 h2 h3 h4 h5 h6 h7 h8
    have hln := hl.out
    obtain ⟨A, rfl⟩ := Int.eq_ofNat_of_zero_le h1
    obtain ⟨F, rfl⟩ := Int.eq_ofNat_of_zero_le h3
    obtain ⟨T, rfl⟩ := Int.eq_ofNat_of_zero_le h5
    obtain ⟨K, rfl⟩ : ∃ K, n = K + 1 := ⟨n - 1, by omega⟩
    have := encode_yes com sec A F T K a l c w hl hb hn hok (by omega) (by omega) (by omega) (by omega)
    unfold Pk.head
    simp only [Int.toNat_natCast, hln, Nat.add_sub_cancel]
    exact this
end Go.Proofs.Ytcmonalnhdodmaa.Pac

/-
  The walks of the small functions of package bits' Reader: works, Left, Failed, NewReader, Skip; a nil Reader and a zero value.
-/
namespace Go.Proofs.Ytcmonalnhdodmaa
open Go.RowKit

/-- block g is a Reader of package bits over the bytes bs (in block r), p bits of which have been passed -/
def RAt (w : World) (base g : Nat) (r : Option Nat) (bs : List Byte) (p : Nat) (bad : Bool) : Prop :=
  ∃ v, Cel w g 98 #[.bool true, .bool bad, v, .int .i64 (p : Int)] ∧ Ow w base 5 v bs ∧ v.ownBlock = r ∧ p ≤ 8 * bs.length

section
variable {w w' : World} {base g : Nat} {r : Option Nat} {bs : List Byte} {p : Nat} {bad : Bool} {S : List Nat}
theorem RAt.lt (h : RAt w base g r bs p bad) : g < w.heap.size := by
  obtain ⟨v, hc, _⟩ := h
  exact hc.lt
theorem RAt.row (h : RAt w base g r bs p bad) : ∀ i, r = some i → base ≤ i ∧ i < w.heap.size ∧ i ≠ g := by
  obtain ⟨v, hc, ho, rfl, _⟩ := h
  intro i hi
  have := ho.lt i hi
  exact ⟨this.1, this.2, fun e => ho.apart hc (by decide) (by rw [hi, e])⟩
theorem RAt.only (h : RAt w base g r bs p bad) (k : Only S w w') (hg : g ∉ S) (hr : ∀ i, r = some i → i ∉ S) : RAt w' base g r bs p bad := by
  obtain ⟨v, hc, ho, rfl, rest⟩ := h
  exact ⟨v, hc.only k hg, ho.only k hr, rfl, rest⟩
theorem RAt.draws (h : RAt w base g r bs p bad) (n : Nat) : RAt (w.drewN n) base g r bs p bad := h
theorem RAt.moved (h : RAt w base g r bs p bad) (q : Nat) (hq : q ≤ 8 * bs.length) : RAt (w.setCell ⟨g, 3, none⟩ (.int .i64 (q : Int))) base g r bs q bad := by
  obtain ⟨v, hc, ho, hv, _⟩ := h
  have hne := ho.apart hc (by decide)
  refine ⟨v, ?_, ownsRow_setCell_other ho (a := ⟨g, 3, none⟩) hne _, hv, hq⟩
  have := hc.put 3 (.int .i64 (q : Int))
  unfold Cel
  simpa [Cel] using this
theorem RAt.failed (h : RAt w base g r bs p bad) : RAt (w.setCell ⟨g, 1, none⟩ (.bool true)) base g r bs p true := by
  obtain ⟨v, hc, ho, hv, hp⟩ := h
  have hne := ho.apart hc (by decide)
  refine ⟨v, ?_, ownsRow_setCell_other ho (a := ⟨g, 1, none⟩) hne _, hv, hp⟩
  have := hc.put 1 (.bool true)
  unfold Cel
  simpa [Cel] using this
end

/-- bits that a Reader has left -/
def leftR (bs : List Byte) (p : Nat) (bad : Bool) : Nat := if bad then 0 else 8 * bs.length - p

set_option maxHeartbeats 400000 in
theorem works_any (w : World) (base g : Nat) (r : Option Nat) (bs : List Byte) (p : Nat) (bad : Bool) (h : RAt w base g r bs p bad) :
    Calls Try.prog 60 #[.pointer (some ⟨g, 0, none⟩)] w fun e w' => e = .returned (.bool (!bad)) ∧ w = w' := by
  obtain ⟨v, hc, ho, _, _⟩ := h
  have c0 := hc.cell 0
  have c1 := hc.cell 1
  simp at c0 c1
  clear hc ho
  go_enter Try.func60, Try.ntmps60
  go_wp2
  go_ret
  exact ⟨rfl, rfl⟩

set_option maxHeartbeats 400000 in
theorem left_any (w : World) (base g : Nat) (r : Option Nat) (bs : List Byte) (p : Nat) (bad : Bool) (h : RAt w base g r bs p bad) (hL : bs.length < 1000000) :
    Calls Try.prog 61 #[.pointer (some ⟨g, 0, none⟩)] w fun e w' => e = .returned (.int .i64 (leftR bs p bad : Int)) ∧ ∃ n, w' = w.drewN n := by
  have hw := works_any w base g r bs p bad h
  cases bad with
  | true =>
    go_enter Try.func61, Try.ntmps61
    go_wp2_with (go_at_call 60; refine hw.mono ?_; rintro e w' ⟨rfl, rfl⟩)
    go_ret
    exact ⟨rfl, 0, rfl⟩
  | false =>
    obtain ⟨v, hc, ho, _, hp⟩ := h
    obtain ⟨A, c, rfl, _⟩ := ho.reads
    have c2 := hc.cell 2
    have c3 := hc.cell 3
    simp at c2 c3
    clear hc ho
    go_enter Try.func61, Try.ntmps61
    go_wp2_with (go_at_call 60; refine hw.mono ?_; rintro e w' ⟨rfl, rfl⟩)
    go_quiet (fail)
    go_wp2
    go_ret
    exact ⟨ret_int (by unfold leftR; simp; omega), nq, rfl⟩

set_option maxHeartbeats 400000 in
theorem newReader_any (a : Option Addr) (l : List Byte) (n c : Nat) (w : World) (hl : Hid (l.length = n)) (hb : Bs w w.heap.size a l) (hn : a = none → c = 0) (hm : n ≤ 140737488355328) :
    Calls Try.prog 58 #[.slice a n c] w fun e w' => ∃ g r, e = .returned (.pointer (some ⟨g, 0, none⟩)) ∧ RAt w' w.heap.size g r l 0 false ∧ w.heap.size ≤ g ∧ Below w.heap.size w w' := by
  go_enter Try.func58, Try.ntmps58
  go_wp2_with (go_at_call 25; refine (clone_any a l _ c _ hl hb hn hm).mono ?_; rintro e w1 ⟨v, rfl, hown, hbel⟩; obtain ⟨A, c2, rfl, _⟩ := hown.reads)
  go_ret
  exact ⟨w1.heap.size, _, rfl, ⟨_, Cel.new _ _ _, hown.alloc _, rfl, by omega⟩, hbel.size, hbel.alloc hbel.size _⟩

/-- what Skip makes of a Reader -/
def skipP (bs : List Byte) (p : Nat) (bad : Bool) (k : Int) : Nat := if bad ∨ k < 0 ∨ (leftR bs p bad : Int) < k then p else p + k.toNat
def skipB (bs : List Byte) (p : Nat) (bad : Bool) (k : Int) : Bool := decide (bad ∨ k < 0 ∨ (leftR bs p bad : Int) < k)

end Go.Proofs.Ytcmonalnhdodmaa

/-
  The walk of Get of package bits' Reader.
-/
namespace Go.Proofs.Ytcmonalnhdodmaa
open Go.RowKit

/-- may Get read k bits? -/
def getBad (bs : List Byte) (p : Nat) (bad : Bool) (k : Int) : Prop := bad = true ∨ k < 0 ∨ 64 < k ∨ (leftR bs p bad : Int) < k
instance (bs : List Byte) (p : Nat) (bad : Bool) (k : Int) : Decidable (getBad bs p bad k) := by unfold getBad; infer_instance
def getP (bs : List Byte) (p : Nat) (bad : Bool) (k : Int) : Nat := if getBad bs p bad k then p else p + k.toNat
def getB (bs : List Byte) (p : Nat) (bad : Bool) (k : Int) : Bool := decide (getBad bs p bad k)
def getV (bs : List Byte) (p : Nat) (bad : Bool) (k : Int) : Nat := if getBad bs p bad k then 0 else numAt bs p k.toNat

theorem min_of' (a d : Nat) (hd : d < 8) : ∃ s : Nat, (if 8 - (d : Int) < (a : Int) then 8 - (d : Int) else (a : Int)) = (s : Int) ∧ s ≤ a ∧ d + s ≤ 8 ∧ (0 < a → 0 < s) := by
  refine ⟨min a (8 - d), ?_, by omega, by omega, by omega⟩
  split <;> omega

theorem or_shift (a s b : Nat) (hb : b < 2 ^ s) (hab : a * 2 ^ s + b < 2 ^ 64) : bits .or .u64 (IntKind.u64.wrap ((a : Int) * 2 ^ s)) (b : Int) = ((a * 2 ^ s + b : Nat) : Int) := by
  have h1 : ((a : Int) * 2 ^ s) = ((a * 2 ^ s : Nat) : Int) := by rw [Int.natCast_mul, Int.natCast_pow]; rfl
  have h2 : IntKind.u64.wrap ((a * 2 ^ s : Nat) : Int) = ((a * 2 ^ s : Nat) : Int) := by
    simp [IntKind.wrap, IntKind.bits, IntKind.signed]
    rw [h1]
    omega
  rw [h1, h2, u64_or_nat _ _ (by omega) (by omega)]
  congr 1
  rw [Nat.mul_comm, ← Nat.two_pow_add_eq_or_of_lt hb]

theorem wrap_small (a : Nat) (h : a < 2 ^ 64) : IntKind.u64.wrap (a : Int) = (a : Int) := by
  simp [IntKind.wrap, IntKind.bits, IntKind.signed]
  omega
theorem get_num (bs : List Byte) (p j s d : Nat) (x : Byte) (hs : d + s ≤ 8) (hd : d = (p + j) % 8) (hx : bs[(p + j) / 8]? = some x) (hj : j + s ≤ 64) :
    bits .or .u64 (IntKind.u64.wrap ((numAt bs p j : Int) * 2 ^ s)) (IntKind.u64.wrap ((x.toNat : Int) * 2 ^ d % 256 / 2 ^ (8 - s))) = (numAt bs p (j + s) : Int) := by
  subst hd
  have h1 := numAt_piece bs (p + j) s x hs hx
  have h2 : (x.toNat : Int) * 2 ^ ((p + j) % 8) % 256 / 2 ^ (8 - s) = ((numAt bs (p + j) s : Nat) : Int) := by
    rw [← h1, Int.natCast_ediv, Int.natCast_emod, Int.natCast_mul, Int.natCast_pow, Int.natCast_pow]
    rfl
  have h3 := numAt_lt bs (p + j) s
  have h4 : 2 ^ s ≤ 2 ^ 64 := Nat.pow_le_pow_right (by decide) (by omega)
  have h5 := numAt_lt bs p (j + s)
  have h6 : 2 ^ (j + s) ≤ 2 ^ 64 := Nat.pow_le_pow_right (by decide) hj
  have h7 := numAt_add bs p j s
  rw [h2, wrap_small _ (by omega), or_shift _ _ _ h3 (by omega), h7]

set_option maxHeartbeats 1000000 in
theorem get_ok (w : World) (base g : Nat) (r : Option Nat) (bs : List Byte) (p k : Nat) (h : RAt w base g r bs p false) (hL : bs.length < 1000000) (hk : k ≤ 64) (hpk : p + k ≤ 8 * bs.length) :
    Calls Try.prog 59 #[.pointer (some ⟨g, 0, none⟩), .int .i64 (k : Int)] w fun e w' => e = .returned (.int .u64 (numAt bs p k : Int)) ∧ RAt w' base g r bs (p + k) false ∧ Only [g] w w' := by
  have hw := works_any w base g r bs p false h
  have hl := left_any w base g r bs p false h hL
  have hl2 : leftR bs p false = 8 * bs.length - p := rfl
  obtain ⟨q, hq⟩ : ∃ q, q = leftR bs p false := ⟨_, rfl⟩
  rw [← hq] at hl
  have hkq : k ≤ q := by omega
  clear hq hl2
  go_enter Try.func59, Try.ntmps59
  go_wp2_with (first
    | (go_at_call 60; refine hw.mono ?_; rintro e w' ⟨rfl, rfl⟩)
    | (go_at_call 52; refine (valid_yes _ _ (by omega) (by omega)).mono ?_; rintro e w' ⟨rfl, rfl⟩)
    | (go_at_call 61; refine hl.mono ?_; rintro e w' ⟨rfl, a, rfl⟩))
  clear hl hw
  go_loopg [1, 5] k (fun j i t wr => j ≤ k ∧ i = .int .i64 (j : Int) ∧ t = .int .u64 (numAt bs p (k - j) : Int) ∧ RAt wr base g r bs (p + (k - j)) false ∧ Only [g] w wr)
  case atStart => exact ⟨Nat.le_refl _, rfl, by rw [Nat.sub_self]; rfl, by rw [Nat.sub_self]; exact h.draws a, (Only.refl _ _).draws a⟩
  case round =>
    obtain ⟨hj, rfl, rfl, hR, hO⟩ := hrel
    by_cases hj0 : gk = 0
    · subst hj0
      go_wp2
      go_ret
      exact ⟨rfl, hR, hO⟩
    · obtain ⟨v, hc, ho, hv, hp2⟩ := hR
      obtain ⟨P, hP⟩ : ∃ P, P = p + (k - gk) := ⟨_, rfl⟩
      rw [← hP] at hc
      have hPl : P + gk ≤ 8 * bs.length := by omega
      obtain ⟨m, hm⟩ : ∃ m, bs.length = m + 1 := ⟨bs.length - 1, by omega⟩
      obtain ⟨gr, c, rfl, hgb, hgl, hmc, hcm, hcells, hfree⟩ := ho.form_len hm
      obtain ⟨E, hE⟩ : ∃ E, E = P / 8 := ⟨_, rfl⟩
      obtain ⟨d, hd⟩ : ∃ d, d = P % 8 := ⟨_, rfl⟩
      obtain ⟨x, hx⟩ : ∃ x, bs[E]? = some x := ⟨_, List.getElem?_eq_getElem (by omega)⟩
      have c2 := hc.cell 2
      have c3 := hc.cell 3
      have f3 := hc.free 3
      simp at c2 c3
      have c4 := hcells E x hx
      have hd8 : d < 8 := by omega
      have hEm : (E : Int) < (m : Int) + 1 := by omega
      have hE0 : (0 : Int) ≤ (E : Int) := Int.natCast_nonneg _
      have hPb : P < 8000000 := by omega
      have hdI : (P : Int) % 8 = (d : Int) := by omega
      have hEI : (P : Int) / 8 = (E : Int) := by omega
      obtain ⟨s, hmin, hsg, hsd, hs0⟩ := min_of' gk d hd8
      have hs1 := hs0 (by omega)
      obtain ⟨N, hN⟩ : ∃ N, N = numAt bs p (k - gk) := ⟨_, rfl⟩
      rw [← hN]
      have HB := Lib.hid (And.intro hP (And.intro hE (And.intro hd (And.intro hx (And.intro hm hN)))))
      clear hP hE hd hx hm hN hcells hfree hs0
      unfold maxLen at hcm
      go_wp2
      clear hmin
      go_quiet (fail)
      go_wp2
      go_roundg (gk - s)
      case measure => omega
      case rel =>
        obtain ⟨hP, hE, hd, hx, hm, hN⟩ := HB.out
        have e1 : k - (gk - s) = (k - gk) + s := by omega
        have e2 : ((gk : Int) - (s : Int)) = ((gk - s : Nat) : Int) := by omega
        have e3 : ((P : Int) + (s : Int)) = ((p + (k - gk + s) : Nat) : Int) := by omega
        rw [e1, e2, e3, hN, get_num bs p (k - gk) s d x hsd (by rw [← hP]; exact hd) (by rw [← hP, ← hE]; exact hx) (by omega)]
        have hRP : RAt wr base g r bs P false := ⟨_, hc, ho, hv, by omega⟩
        exact ⟨by omega, rfl, rfl, (hRP.draws nq).moved _ (by omega), (hO.draws nq).put (.inl (by simp)) _⟩

set_option maxHeartbeats 1000000 in
theorem get_any (w : World) (base g : Nat) (r : Option Nat) (bs : List Byte) (p : Nat) (bad : Bool) (k : Int) (h : RAt w base g r bs p bad) (hL : bs.length < 1000000) (hk : (Lit.int .i64 k).wf = true) :
    Calls Try.prog 59 #[.pointer (some ⟨g, 0, none⟩), .int .i64 k] w fun e w' => e = .returned (.int .u64 (getV bs p bad k : Int)) ∧ RAt w' base g r bs (getP bs p bad k) (getB bs p bad k) ∧ Only [g] w w' := by
  have hw := works_any w base g r bs p bad h
  have hl := left_any w base g r bs p bad h hL
  have hb := i64_bounds hk
  have hf1 : w.frozen? ⟨g, 1, none⟩ = false := by obtain ⟨v, hc, _⟩ := h; exact hc.free 1
  have hc1 : w.cell? ⟨g, 1, none⟩ = some (.bool bad) := by
    obtain ⟨v, hc, _⟩ := h
    have := hc.cell 1
    simpa using this
  by_cases hgood : getBad bs p bad k
  · have hs : getP bs p bad k = p ∧ getB bs p bad k = true ∧ getV bs p bad k = 0 := by simp [getP, getB, getV, hgood]
    rw [hs.1, hs.2.1, hs.2.2]
    clear hs
    cases bad with
    | true =>
      clear hgood
      go_enter Try.func59, Try.ntmps59
      go_wp2_with (go_at_call 60; refine hw.mono ?_; rintro e w' ⟨rfl, rfl⟩)
      go_ret
      exact ⟨rfl, h, Only.refl _ _⟩
    | false =>
      by_cases h0 : k < 0 ∨ 64 < k
      · clear hgood hl
        go_enter Try.func59, Try.ntmps59
        go_wp2_with (first
          | (go_at_call 60; refine hw.mono ?_; rintro e w' ⟨rfl, rfl⟩)
          | (go_at_call 52; refine (valid_no _ _ h0).mono ?_; rintro e w' ⟨rfl, rfl⟩))
        go_ret
        exact ⟨rfl, h.failed, (Only.refl _ _).put (.inl (by simp)) _⟩
      · obtain ⟨q, hq⟩ : ∃ q, q = leftR bs p false := ⟨_, rfl⟩
        have h1 : (q : Int) < k := by
          rw [hq]
          unfold getBad at hgood
          simp at hgood
          omega
        rw [← hq] at hl
        have h2 : 0 ≤ k := by omega
        have h3 : k ≤ 64 := by omega
        clear hgood hq h0
        go_enter Try.func59, Try.ntmps59
        go_wp2_with (first
          | (go_at_call 60; refine hw.mono ?_; rintro e w' ⟨rfl, rfl⟩)
          | (go_at_call 52; refine (valid_yes _ _ h2 h3).mono ?_; rintro e w' ⟨rfl, rfl⟩)
          | (go_at_call 61; refine hl.mono ?_; rintro e w' ⟨rfl, a, rfl⟩))
        go_ret
        exact ⟨rfl, (h.draws a).failed, ((Only.refl _ _).draws a).put (.inl (by simp)) _⟩
  · have hs : getP bs p bad k = p + k.toNat ∧ getB bs p bad k = false ∧ getV bs p bad k = numAt bs p k.toNat := by simp [getP, getB, getV, hgood]
    rw [hs.1, hs.2.1, hs.2.2]
    unfold getBad at hgood
    have hbad : bad = false := by cases bad <;> simp at hgood ⊢
    subst hbad
    have hl2 : leftR bs p false = 8 * bs.length - p := rfl
    have hp : p ≤ 8 * bs.length := by obtain ⟨v, _, _, _, hp⟩ := h; exact hp
    rw [hl2] at hgood
    simp at hgood
    obtain ⟨K, rfl⟩ := Int.eq_ofNat_of_zero_le hgood.1
    rw [Int.toNat_natCast]
    exact get_ok w base g r bs p K h hL (by omega) (by omega)
end Go.Proofs.Ytcmonalnhdodmaa

/-
  The Reader of package bits beside a packet's block as one state; the walks of package packet's readHeader and Size.
-/
namespace Go.Proofs.Ytcmonalnhdodmaa.Pac
open Go.RowKit

/-- a Reader at block g over the bytes bs, p bits passed; the packet that the call fills lies in the first block behind w0's; w0's blocks are as they were -/
structure RH (w0 : World) (bs : List Byte) (p : Nat) (cs : Array Value) (g : Nat) (w : World) : Prop where
  rd : ∃ r, RAt w (w0.heap.size + 1) g r bs p false
  hg : w0.heap.size + 1 ≤ g
  cel : Cel w w0.heap.size 56 cs
  bel : Below w0.heap.size w0 w
theorem RH.draws {w0 w : World} {bs : List Byte} {p g : Nat} {cs : Array Value} (h : RH w0 bs p cs g w) : RH w0 bs p cs g w.drew := ⟨h.rd, h.hg, h.cel, h.bel.drew⟩
theorem RH.get {w0 w : World} {bs : List Byte} {p g : Nat} {cs : Array Value} (h : RH w0 bs p cs g w) (y : Int) (k N : Nat) (hy : y = (k : Int)) (hN : numAt bs p k = N) (hL : bs.length = 6) (hk : k ≤ 64) (hp : p + k ≤ 48) :
    Calls Try.prog 59 #[.pointer (some ⟨g, 0, none⟩), .int .i64 y] w fun e w' => e = .returned (.int .u64 (N : Int)) ∧ RH w0 bs (p + k) cs g w' := by
  obtain ⟨⟨r, h1⟩, h2, h3, h4⟩ := h
  subst hy hN
  refine (get_ok w _ g r bs p k h1 (by omega) hk (by omega)).mono ?_
  rintro e w' ⟨rfl, h5, h6⟩
  have hlt := h1.lt
  exact ⟨rfl, ⟨r, h5⟩, h2, h3.only h6 (by simp; omega), h4.trans (h6.below (by omega) (by simp; omega))⟩
theorem RH.put {w0 w : World} {bs : List Byte} {p g : Nat} {cs : Array Value} (h : RH w0 bs p cs g w) (i : Nat) (v : Value) : RH w0 bs p (cs.setIfInBounds i v) g (w.setCell ⟨w0.heap.size, i, none⟩ v) := by
  obtain ⟨⟨r, h1⟩, h2, h3, h4⟩ := h
  have hO : Only [w0.heap.size] w (w.setCell ⟨w0.heap.size, i, none⟩ v) := (Only.refl _ _).put (.inl (by simp)) _
  exact ⟨⟨r, h1.only hO (by simp; omega) (fun j hj => by have := (h1.row j hj).1; simp; omega)⟩, h2, h3.put i v, h4.trans (hO.below h4.size (by simp))⟩

/-- a packet's cells -/
def pcs (com sec : Bool) (ap fl ct : Int) (v : Value) : Array Value := #[.bool com, .bool sec, .int .i64 ap, .int .i64 fl, .int .i64 ct, v]

theorem rh_results {tmps : Array Value} {W : World} {g : Nat} {t n : Int} {com sec : Bool} {ap fl ct : Int} {v : Value} (h2 : tmps.getD 2 undef = .int .i64 t) (h3 : tmps.getD 3 undef = .pointer (some ⟨g, 0, none⟩)) (h4 : tmps.getD 4 undef = .int .i64 n)
    (hC : Cel W g 56 #[.bool com, .bool sec, .int .i64 ap, .int .i64 fl, .int .i64 ct, v]) :
    (results Try.f55 tmps).run Try.prog W = .ok (.tuple #[.int .i64 t, .agg #[.bool com, .bool sec, .int .i64 ap, .int .i64 fl, .int .i64 ct, v], .int .i64 n]) W := by
  have c0 := hC.cell 0
  have c1 := hC.cell 1
  have c2 := hC.cell 2
  have c3 := hC.cell 3
  have c4 := hC.cell 4
  have c5 := hC.cell 5
  simp at c0 c1 c2 c3 c4 c5
  simp only [Array.getD_eq_getD_getElem?] at h2 h3 h4
  simp [results, Try.results55, go_sem, h2, h3, h4, c0, c1, c2, c3, c4, c5]

/-- a whole packet stored over another -/
def putAll (w : World) (g : Nat) (com sec : Bool) (ap fl ct : Int) (v : Value) : World :=
  (((((w.setCell ⟨g, 0, none⟩ (.bool com)).setCell ⟨g, 1, none⟩ (.bool sec)).setCell ⟨g, 2, none⟩ (.int .i64 ap)).setCell ⟨g, 3, none⟩ (.int .i64 fl)).setCell ⟨g, 4, none⟩ (.int .i64 ct)).setCell ⟨g, 5, none⟩ v
theorem putAll_cel {w : World} {g : Nat} {t : TypeId} {x0 x1 x2 x3 x4 x5 : Value} (h : Cel w g t #[x0, x1, x2, x3, x4, x5]) (com sec : Bool) (ap fl ct : Int) (v : Value) :
    Cel (putAll w g com sec ap fl ct v) g t #[.bool com, .bool sec, .int .i64 ap, .int .i64 fl, .int .i64 ct, v] :=
  (((((h.put 0 (.bool com)).put 1 (.bool sec)).put 2 (.int .i64 ap)).put 3 (.int .i64 fl)).put 4 (.int .i64 ct)).put 5 v
theorem putAll_only (w : World) (g : Nat) (com sec : Bool) (ap fl ct : Int) (v : Value) : Only [g] w (putAll w g com sec ap fl ct v) := by
  unfold putAll
  exact ((((((Only.refl [g] w).put (p := ⟨g, 0, none⟩) (.inl (by simp)) _).put (p := ⟨g, 1, none⟩) (.inl (by simp)) _).put (p := ⟨g, 2, none⟩) (.inl (by simp)) _).put (p := ⟨g, 3, none⟩) (.inl (by simp)) _).put (p := ⟨g, 4, none⟩) (.inl (by simp)) _).put (p := ⟨g, 5, none⟩) (.inl (by simp)) _

theorem from_u64 (X : Nat) (h : X < 1000000) : IntKind.i64.wrap (X : Int) = (X : Int) := by
  simp [IntKind.wrap, IntKind.bits, IntKind.signed]
  omega
theorem wrap_tot (X : Nat) (h : X < 1000000) : IntKind.i64.wrap (IntKind.i64.wrap (6 + (X : Int)) + 1) = ((7 + X : Nat) : Int) := by
  simp [IntKind.wrap, IntKind.bits, IntKind.signed]
  omega

set_option maxHeartbeats 2000000 in
theorem readHeader_any (a : Option Addr) (l : List Byte) (n c : Nat) (w : World) (hl : Hid (l.length = n)) (hb : Bs w w.heap.size a l) (hn : a = none → c = 0) (hnc : n ≤ c) (_hcm : c ≤ maxLen) (h6 : 6 ≤ n) :
    Calls Try.prog 55 #[.slice a n c] w fun e w' => e = .returned (.tuple #[.int .i64 ((b8 l 0 / 32 : Nat) : Int), .agg #[.bool (rd l).com, .bool (rd l).sec, .int .i64 (rd l).ap, .int .i64 (rd l).fl, .int .i64 (rd l).ct, .slice none 0 0], .int .i64 ((tot l : Nat) : Int)]) ∧ Below w.heap.size w w' := by
  have hln := hl.out
  have hx : ∀ k, k < 6 → ∃ x, (l.take 6)[k]? = some x ∧ b8 l k = x.toNat := fun k hk => by
    refine ⟨l[k]'(by omega), ?_, b8_at (List.getElem?_eq_getElem (by omega))⟩
    rw [List.getElem?_take, if_pos hk]
    exact List.getElem?_eq_getElem (by omega)
  obtain ⟨x0, g0, e0⟩ := hx 0 (by decide)
  obtain ⟨x1, g1, e1⟩ := hx 1 (by decide)
  obtain ⟨x2, g2, e2⟩ := hx 2 (by decide)
  obtain ⟨x3, g3, e3⟩ := hx 3 (by decide)
  obtain ⟨x4, g4, e4⟩ := hx 4 (by decide)
  obtain ⟨x5, g5, e5⟩ := hx 5 (by decide)
  have hv : numAt (l.take 6) 0 3 = b8 l 0 / 32 := by rw [e0]; exact num_ver g0
  have hc : numAt (l.take 6) 3 1 = b8 l 0 / 16 % 2 := by rw [e0]; exact num_com g0
  have hs : numAt (l.take 6) 4 1 = b8 l 0 / 8 % 2 := by rw [e0]; exact num_sec g0
  have ha : numAt (l.take 6) 5 11 = (256 * b8 l 0 + b8 l 1) % 2048 := by rw [e0, e1]; exact num_ap g0 g1
  have hf : numAt (l.take 6) 16 2 = (256 * b8 l 2 + b8 l 3) / 16384 := by rw [e2, e3]; exact num_fl g2
  have ht : numAt (l.take 6) 18 14 = (256 * b8 l 2 + b8 l 3) % 16384 := by rw [e2, e3]; exact num_ct g2 g3
  have hk : numAt (l.take 6) 32 16 = 256 * b8 l 4 + b8 l 5 := by rw [e4, e5]; exact num_len g4 g5
  have z0 := b8_lt l 0
  have z1 := b8_lt l 1
  have z2 := b8_lt l 2
  have z3 := b8_lt l 3
  have z4 := b8_lt l 4
  have z5 := b8_lt l 5
  have htot : tot l = 7 + (256 * b8 l 4 + b8 l 5) := by unfold tot; omega
  have hrd : rd l = ⟨decide (b8 l 0 / 16 % 2 = 1), decide (b8 l 0 / 8 % 2 = 1), ((256 * b8 l 0 + b8 l 1) % 2048 : Nat), ((256 * b8 l 2 + b8 l 3) / 16384 : Nat), ((256 * b8 l 2 + b8 l 3) % 16384 : Nat), (l.drop 6).take (tot l - 6)⟩ := rfl
  rw [hrd, htot]
  simp only
  obtain ⟨V, qV⟩ : ∃ V, V = b8 l 0 / 32 := ⟨_, rfl⟩
  obtain ⟨C, qC⟩ : ∃ C, C = b8 l 0 / 16 % 2 := ⟨_, rfl⟩
  obtain ⟨S, qS⟩ : ∃ S, S = b8 l 0 / 8 % 2 := ⟨_, rfl⟩
  obtain ⟨A, qA⟩ : ∃ A, A = (256 * b8 l 0 + b8 l 1) % 2048 := ⟨_, rfl⟩
  obtain ⟨Fg, qFg⟩ : ∃ Fg, Fg = (256 * b8 l 2 + b8 l 3) / 16384 := ⟨_, rfl⟩
  obtain ⟨T, qT⟩ : ∃ T, T = (256 * b8 l 2 + b8 l 3) % 16384 := ⟨_, rfl⟩
  obtain ⟨Kq, qKq⟩ : ∃ Kq, Kq = 256 * b8 l 4 + b8 l 5 := ⟨_, rfl⟩
  rw [← qV] at hv ⊢
  rw [← qC] at hc ⊢
  rw [← qS] at hs ⊢
  rw [← qA] at ha ⊢
  rw [← qFg] at hf ⊢
  rw [← qT] at ht ⊢
  rw [← qKq] at hk ⊢
  have yV : V < 1000000 := by omega
  have yA : A < 1000000 := by omega
  have yF : Fg < 1000000 := by omega
  have yT : T < 1000000 := by omega
  have yKq : Kq < 1000000 := by omega
  obtain ⟨com, qcom⟩ : ∃ b, b = decide (C = 1) := ⟨_, rfl⟩
  obtain ⟨sec, qsec⟩ : ∃ b, b = decide (S = 1) := ⟨_, rfl⟩
  have j1 : ((C : Int) == 1) = com := by rw [qcom, Bool.eq_iff_iff]; simp; omega
  have j2 : ((S : Int) == 1) = sec := by rw [qsec, Bool.eq_iff_iff]; simp; omega
  rw [← qcom, ← qsec]
  have wV := from_u64 V yV
  have wA := from_u64 A yA
  have wFg := from_u64 Fg yF
  have wT := from_u64 T yT
  have wKq := from_u64 Kq yKq
  clear qV qC qS qA qFg qT qKq hrd htot hx g0 g1 g2 g3 g4 g5 e0 e1 e2 e3 e4 e5 qcom qsec z0 z1 z2 z3 z4 z5
  have h6c : (6 : Int) ≤ (c : Int) := by omega
  have hL6 : (l.take 6).length = 6 := by rw [List.length_take]; omega
  have hnr := fun W (hB : Bs W W.heap.size a (l.take 6)) => newReader_any a (l.take 6) 6 c W (Lib.hid hL6) hB hn (by decide)
  have b0 := bel_new w (.cells #[.bool false, .bool false, .int .i64 0, .int .i64 0, .int .i64 0, .slice none 0 0] 56)
  have p0 := Cel.new w 56 #[.bool false, .bool false, .int .i64 0, .int .i64 0, .int .i64 0, .slice none 0 0]
  have hr := hnr _ (((hb.take 6).below b0).more b0.size)
  have HW := Lib.hid (wrap_tot Kq yKq)
  have HH := Lib.hid (And.intro hv (And.intro hc (And.intro hs (And.intro ha (And.intro hf (And.intro ht hk))))))
  clear hv hc hs ha hf ht hk hnr hb hn
  go_enter Try.func55, Try.ntmps55
  go_wp2_with fail
  refine hr.mono ?_
  rintro e w1 ⟨g, r, rfl, hR, hg, hbe⟩
  have s0 : RH w (l.take 6) 0 #[.bool false, .bool false, .int .i64 0, .int .i64 0, .int .i64 0, .slice none 0 0] g w1 := ⟨⟨r, by simpa using hR⟩, by simpa using hg, Cel.later p0 hbe, b0.trans (hbe.mono b0.size)⟩
  clear hr hR hg hbe p0 b0
  go_wp2_with fail
  refine (s0.get 3 3 V rfl HH.out.1 hL6 (by decide) (by decide)).mono ?_
  rintro e w2 ⟨rfl, s1⟩
  clear s0
  go_wp2_with fail
  refine (s1.get 1 1 C rfl HH.out.2.1 hL6 (by decide) (by decide)).mono ?_
  rintro e w3 ⟨rfl, t3⟩
  clear s1
  have fr := t3.cel.free 0
  have ce := t3.cel.cell 0
  simp at ce
  go_wp2_with fail
  clear fr ce
  refine ((t3.put 0 (.bool com)).get 1 1 S rfl HH.out.2.2.1 hL6 (by decide) (by decide)).mono ?_
  rintro e w4 ⟨rfl, t4⟩
  clear t3
  have fr := t4.cel.free 1
  have ce := t4.cel.cell 1
  simp at ce
  go_wp2_with fail
  clear fr ce
  refine ((t4.put 1 (.bool sec)).get 11 11 A rfl HH.out.2.2.2.1 hL6 (by decide) (by decide)).mono ?_
  rintro e w5 ⟨rfl, t5⟩
  clear t4
  have fr := t5.cel.free 2
  have ce := t5.cel.cell 2
  simp at ce
  go_wp2_with fail
  clear fr ce
  refine ((t5.put 2 (.int .i64 (A : Int))).get 2 2 Fg rfl HH.out.2.2.2.2.1 hL6 (by decide) (by decide)).mono ?_
  rintro e w6 ⟨rfl, t6⟩
  clear t5
  have fr := t6.cel.free 3
  have ce := t6.cel.cell 3
  simp at ce
  go_wp2_with fail
  clear fr ce
  refine ((t6.put 3 (.int .i64 (Fg : Int))).get 14 14 T rfl HH.out.2.2.2.2.2.1 hL6 (by decide) (by decide)).mono ?_
  rintro e w7 ⟨rfl, t7⟩
  clear t6
  have fr := t7.cel.free 4
  have ce := t7.cel.cell 4
  simp at ce
  go_wp2_with fail
  clear fr ce
  have s6 := t7.put 4 (.int .i64 (T : Int))
  simp only [List.setIfInBounds_toArray, List.set_cons_zero, List.set_cons_succ] at s6
  have c0 := s6.cel.cell 0
  have c1 := s6.cel.cell 1
  have c2 := s6.cel.cell 2
  have c3 := s6.cel.cell 3
  have c4 := s6.cel.cell 4
  have c5 := s6.cel.cell 5
  simp at c0 c1 c2 c3 c4 c5
  have f0 := s6.cel.free 0
  have f1 := s6.cel.free 1
  have f2 := s6.cel.free 2
  have f3 := s6.cel.free 3
  have f4 := s6.cel.free 4
  have f5 := s6.cel.free 5
  obtain ⟨W6, hW6⟩ : ∃ W6, W6 = w7.setCell ⟨w.heap.size, 4, none⟩ (.int .i64 (T : Int)) := ⟨_, rfl⟩
  rw [← hW6] at s6 c0 c1 c2 c3 c4 c5 f0 f1 f2 f3 f4 f5 ⊢
  clear hW6 t7
  refine wp_region_held_drew (S := (fun w' => w'.cell? ⟨w.heap.size, 0, none⟩ = some (.bool com) ∧ w'.cell? ⟨w.heap.size, 1, none⟩ = some (.bool sec) ∧ w'.cell? ⟨w.heap.size, 2, none⟩ = some (.int .i64 (A : Int)) ∧ w'.cell? ⟨w.heap.size, 3, none⟩ = some (.int .i64 (Fg : Int)) ∧ w'.cell? ⟨w.heap.size, 4, none⟩ = some (.int .i64 (T : Int)) ∧ w'.cell? ⟨w.heap.size, 5, none⟩ = some (.slice none 0 0))) (by kernel_rfl) (⟨c0, c1, c2, c3, c4, c5⟩) (fun hHeld => ?_)
  refine wpAnyH_here 0 (v := ?_) rfl (by kernel_rfl) (by kernel_rfl) (by kernel_rfl) (fun _ _ _ h => h) (Or.inl ⟨by rfl, ?_⟩) hHeld ?_
  rotate_left
  · intro w hSw; (try dsimp only at hSw); go_simp; all_goals (with_reducible rfl)
  try simp only [Act.put, List.setIfInBounds_toArray, List.set_cons_zero, List.set_cons_succ]
  refine wpAnyH_here 1 (v := ?_) rfl (by kernel_rfl) (by kernel_rfl) (by kernel_rfl) (fun _ _ _ h => h) (Or.inl ⟨by rfl, ?_⟩) hHeld ?_
  rotate_left
  · intro w hSw; (try dsimp only at hSw); go_simp; all_goals (with_reducible rfl)
  try simp only [Act.put, List.setIfInBounds_toArray, List.set_cons_zero, List.set_cons_succ]
  refine wpAnyH_here 2 (v := ?_) rfl (by kernel_rfl) (by kernel_rfl) (by kernel_rfl) (fun _ _ _ h => h) (Or.inl ⟨by rfl, ?_⟩) hHeld ?_
  rotate_left
  · intro w hSw; (try dsimp only at hSw); go_simp; all_goals (with_reducible rfl)
  try simp only [Act.put, List.setIfInBounds_toArray, List.set_cons_zero, List.set_cons_succ]
  refine wpAnyH_alone 3 rfl (by kernel_rfl) (fun K hK => ?_)
  go_simp
  (go_at_call 59; refine (s6.draws.get 16 16 Kq rfl HH.out.2.2.2.2.2.2 hL6 (by decide) (by decide)).mono ?_; rintro e W7 ⟨rfl, s7⟩; have hC := s7.cel; have e0 := hC.free 0; have e1 := hC.free 1; have e2 := hC.free 2; have e3 := hC.free 3; have e4 := hC.free 4; have e5 := hC.free 5; have hQ := putAll_cel hC com sec (A : Int) (Fg : Int) (T : Int) (.slice none 0 0))
  refine hK.out _ _ (⟨hC.cell 0, hC.cell 1, hC.cell 2, hC.cell 3, hC.cell 4, hC.cell 5⟩) (fun hHeld => ?_)
  clear hK K
  try simp only [Act.put, List.setIfInBounds_toArray, List.set_cons_zero, List.set_cons_succ]
  refine wpAnyH_here 4 (v := ?_) rfl (by kernel_rfl) (by kernel_rfl) (by kernel_rfl) (fun _ _ _ h => h) (Or.inl ⟨by rfl, ?_⟩) hHeld ?_
  rotate_left
  · intro w hSw; (try dsimp only at hSw); go_simp; all_goals (with_reducible rfl)
  try simp only [Act.put, List.setIfInBounds_toArray, List.set_cons_zero, List.set_cons_succ]
  refine wpAnyH_here 5 (v := ?_) rfl (by kernel_rfl) (by kernel_rfl) (by kernel_rfl) (fun _ _ _ h => h) (Or.inl ⟨by rfl, ?_⟩) hHeld ?_
  rotate_left
  · intro w hSw; (try dsimp only at hSw); go_simp; all_goals (with_reducible rfl)
  try simp only [Act.put, List.setIfInBounds_toArray, List.set_cons_zero, List.set_cons_succ]
  refine wpAnyH_here 6 (v := ?_) rfl (by kernel_rfl) (by kernel_rfl) (by kernel_rfl) (fun _ _ _ h => h) (Or.inl ⟨by rfl, ?_⟩) hHeld ?_
  rotate_left
  · intro w hSw; (try dsimp only at hSw); go_simp; all_goals (with_reducible rfl)
  try simp only [Act.put, List.setIfInBounds_toArray, List.set_cons_zero, List.set_cons_succ]
  refine wpAnyH_here 7 (v := ?_) rfl (by kernel_rfl) (by kernel_rfl) (by kernel_rfl) (fun _ _ _ h => h) (Or.inl ⟨by rfl, ?_⟩) hHeld ?_
  rotate_left
  · intro w hSw; (try dsimp only at hSw); go_simp; all_goals (with_reducible rfl)
  try simp only [Act.put, List.setIfInBounds_toArray, List.set_cons_zero, List.set_cons_succ]
  refine wpAnyH_alone 8 rfl (by kernel_rfl) (fun K hK => ?_)
  go_simp
  skip
  refine hK.out _ _ (⟨hQ.cell 0, hQ.cell 1, hQ.cell 2, hQ.cell 3, hQ.cell 4, hQ.cell 5⟩) (fun hHeld => ?_)
  clear hK K
  try simp only [Act.put, List.setIfInBounds_toArray, List.set_cons_zero, List.set_cons_succ]
  refine wpAnyH_here 9 (v := ?_) rfl (by kernel_rfl) (by kernel_rfl) (by kernel_rfl) (fun _ _ _ h => h) (Or.inl ⟨by rfl, ?_⟩) hHeld ?_
  rotate_left
  · intro w hSw; (try dsimp only at hSw); go_simp; all_goals (with_reducible rfl)
  try simp only [Act.put, List.setIfInBounds_toArray, List.set_cons_zero, List.set_cons_succ]
  refine wpAnyH_done (by kernel_rfl) ?_ _
  go_wp2
  exact bodyPost_ret (rh_results rfl rfl rfl hQ) rfl ⟨by rw [HW.out], s7.bel.trans ((putAll_only _ _ _ _ _ _ _ _).below s7.bel.size (by simp))⟩

set_option maxHeartbeats 1000000 in
theorem size_any (a : Option Addr) (l : List Byte) (n c : Nat) (w : World) (hl : Hid (l.length = n)) (hb : Bs w w.heap.size a l) (hn : a = none → c = 0) (hnc : n ≤ c) (hcm : c ≤ maxLen) :
    Calls Try.prog 47 #[.slice a n c] w fun e w' => e = .returned (.tuple #[.int .i64 ((siN l : Nat) : Int), .int .i64 (siE l)]) ∧ Below w.heap.size w w' := by
  have hln := hl.out
  by_cases h6 : n < 6
  · obtain ⟨h1, h2⟩ := siE_short (l := l) (by omega)
    rw [h1, h2]
    clear h1 h2 hl hb hn hnc hcm hln
    go_enter Try.func47, Try.ntmps47
    go_wp2
    go_ret2
    exact ⟨rfl, Below.refl _ _⟩
  · have hrh := readHeader_any a l n c w hl hb hn hnc hcm (by omega)
    obtain ⟨P, hP⟩ : ∃ P, P = rd l := ⟨_, rfl⟩
    obtain ⟨com, sec, ap, fl, ct, d⟩ := P
    rw [← hP] at hrh
    simp only at hrh
    have hz := b8_lt l 0
    obtain ⟨V, hV⟩ : ∃ V, V = b8 l 0 / 32 := ⟨_, rfl⟩
    obtain ⟨T, hT⟩ : ∃ T, T = tot l := ⟨_, rfl⟩
    have hTb : T < 1000000 := by rw [hT]; unfold tot; have := b8_lt l 4; have := b8_lt l 5; omega
    rw [← hV, ← hT] at hrh
    have g1 : decide ((n : Int) < 6) = false := by simp; omega
    have g2 : decide (n < 6) = false := by simp; omega
    by_cases hv : 32 ≤ b8 l 0
    · obtain ⟨h1, h2⟩ := siE_form (l := l) (by omega) hv
      rw [h1, h2]
      have g3 : ((V : Int) != 0) = true := by simp; omega
      clear h1 h2 hl hb hn hnc hcm hln hP hV hT hv hz
      go_enter Try.func47, Try.ntmps47
      go_wp2_with fail
      refine hrh.mono ?_
      rintro e w' ⟨rfl, hbe⟩
      go_wp2
      go_ret2
      exact ⟨rfl, hbe.alloc hbe.size _⟩
    · have hV0 : V = 0 := by omega
      subst hV0
      by_cases ht : 4096 < T
      · obtain ⟨h1, h2⟩ := siE_long (l := l) (by omega) hv (by omega)
        rw [h1, h2]
        have g3 : decide ((4096 : Int) < (T : Int)) = true := by simp; omega
        have g4 : decide (4096 < T) = true := by simp; omega
        clear h1 h2 hl hb hn hnc hcm hln hP hV hT hv hz
        go_enter Try.func47, Try.ntmps47
        go_wp2_with fail
        refine hrh.mono ?_
        rintro e w' ⟨rfl, hbe⟩
        go_wp2
        go_ret2
        exact ⟨rfl, hbe.alloc hbe.size _⟩
      · obtain ⟨h1, h2⟩ := siE_good (l := l) (by omega) hv (by omega)
        rw [h1, h2, ← hT]
        have g3 : decide ((4096 : Int) < (T : Int)) = false := by simp; omega
        have g4 : decide (4096 < T) = false := by simp; omega
        clear h1 h2 hl hb hn hnc hcm hln hP hV hT hv hz
        go_enter Try.func47, Try.ntmps47
        go_wp2_with fail
        refine hrh.mono ?_
        rintro e w' ⟨rfl, hbe⟩
        go_wp2
        go_ret2
        exact ⟨rfl, hbe.alloc hbe.size _⟩
end Go.Proofs.Ytcmonalnhdodmaa.Pac
