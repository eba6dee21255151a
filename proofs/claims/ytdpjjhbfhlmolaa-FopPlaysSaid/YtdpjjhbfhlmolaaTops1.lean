/-
  Bytes BitsMath PacMath CrcMath CrcBurst TcfMath SerMath FarmMath ClcMath FopMath Own Cel Base RowH RowK StrS SerW PacW0 PacW1 Clone BitsW0 BitsW1 Hand PacW2 BitsR0 BitsR1 PacW3 PacW4, one after another.
-/
import Derived.Laws.BitsAllLaws
import Derived.WalkKit
import Derived.WalkSpells
import Derived.Laws.Shifts
import Derived.Laws.Small
import Derived.Maps.AppendAt
import Derived.Laws.OwnMore
import Derived.Laws.IdiomStrings
import Derived.Lib.BufferRead
import Derived.OneCell
import Derived.Deep.Draws
import Derived.OwnWalk
import Derived.Test.YtdpjjhbfhlmolaaRows
import Derived.WalkLawsBesides
import Derived.Lib.Hide
import Derived.Laws.CopyRow
import Derived.Laws.CopyOwn
import Derived.Laws.IdiomCopy
import Derived.Lib.AppendZeros
import Derived.Lib.Overlaps
import Derived.Deep.RegionLaw
import Derived.Shelf.Abstract
import Derived.Shelf.RegionOpenPlain
import Derived.Deep.LoopGhost
import Derived.Lib.Walk
import Derived.Deep.QuietTactic
import Derived.BigQuiet
import Derived.BigRegion
import Derived.Deep.DeepCutAuto
import Derived.Deep.RegionHeld3

/-
  A byte slice that reads as a list of bytes, and the small laws that a walk over it wants. No dump is imported.
-/
namespace Go.Proofs.Ytdpjjhbfhlmolaa
open Go.RowKit

abbrev Byte := BitVec 8
abbrev B8 (x : Byte) : Value := .int .u8 (x.toNat : Int)

/-- 'a' leads to the bytes l, all below block B; of the empty list nothing is asked. -/
def Bs (w : World) (B : Nat) (a : Option Addr) (l : List Byte) : Prop :=
  0 < l.length → ∃ b off, a = some ⟨b, off, none⟩ ∧ b < B ∧ ∀ i x, l[i]? = some x → w.cell? ⟨b, off + i, none⟩ = some (B8 x)

section
variable {w w' : World} {B B' : Nat} {a : Option Addr} {l : List Byte}
theorem Bs.nil_ : Bs w B a [] := fun h => absurd h (by simp)
theorem Bs.keep (h : Bs w B a l) (hk : ∀ p : Addr, p.block < B → w'.cell? p = w.cell? p) : Bs w' B a l := fun hl => by
  obtain ⟨b, off, rfl, hb, hc⟩ := h hl
  exact ⟨b, off, rfl, hb, fun i x hx => (hk ⟨b, off + i, none⟩ hb).trans (hc i x hx)⟩
theorem Bs.below (h : Bs w B a l) (hb : Below B w w') : Bs w' B a l := h.keep fun _ hp => hb.cell hp
theorem Bs.more (h : Bs w B a l) (hB : B ≤ B') : Bs w B' a l := fun hl => by
  obtain ⟨b, off, rfl, hb, hc⟩ := h hl
  exact ⟨b, off, rfl, by omega, hc⟩
theorem Bs.at_ (h : Bs w B a l) {k : Nat} (hk : k < l.length) : ∃ b off, a = some ⟨b, off, none⟩ ∧ b < B ∧ w.cell? ⟨b, off + k, none⟩ = some (B8 l[k]) := by
  obtain ⟨b, off, rfl, hb, hc⟩ := h (by omega)
  exact ⟨b, off, rfl, hb, hc k _ (List.getElem?_eq_getElem hk)⟩
theorem Bs.take (h : Bs w B a l) (n : Nat) : Bs w B a (l.take n) := fun hl => by
  obtain ⟨b, off, rfl, hb, hc⟩ := h (by simp at hl; omega)
  refine ⟨b, off, rfl, hb, fun i x hx => hc i x ?_⟩
  rw [List.getElem?_take] at hx
  split at hx
  · exact hx
  · cases hx
end

/-! ### numbers of the walk as bit vectors -/
theorem b16_and (a b : BitVec 16) : bits .and .u16 (a.toNat : Int) (b.toNat : Int) = ((a &&& b).toNat : Int) := by
  rw [u16_and_nat _ _ a.isLt b.isLt, BitVec.toNat_and]
theorem b16_xor (a b : BitVec 16) : bits .xor .u16 (a.toNat : Int) (b.toNat : Int) = ((a ^^^ b).toNat : Int) := by
  rw [u16_xor_nat _ _ a.isLt b.isLt, BitVec.toNat_xor]
theorem b16_or (a b : BitVec 16) : bits .or .u16 (a.toNat : Int) (b.toNat : Int) = ((a ||| b).toNat : Int) := by
  rw [u16_or_nat _ _ a.isLt b.isLt, BitVec.toNat_or]
theorem b32_and (a b : BitVec 32) : bits .and .u32 (a.toNat : Int) (b.toNat : Int) = ((a &&& b).toNat : Int) := by
  rw [u32_and_nat _ _ a.isLt b.isLt, BitVec.toNat_and]
theorem b32_xor (a b : BitVec 32) : bits .xor .u32 (a.toNat : Int) (b.toNat : Int) = ((a ^^^ b).toNat : Int) := by
  rw [u32_xor_nat _ _ a.isLt b.isLt, BitVec.toNat_xor]
theorem b16_shl (a : BitVec 16) (n : Nat) : IntKind.u16.wrap ((a.toNat : Int) * 2 ^ n) = ((a <<< n).toNat : Int) := by
  have e : ((a.toNat : Int) * 2 ^ n) = ((a.toNat * 2 ^ n : Nat) : Int) := by rw [Int.natCast_mul, Int.natCast_pow]; rfl
  rw [IntKind.wrap_u16, BitVec.toNat_shiftLeft, Nat.shiftLeft_eq, e]
  generalize a.toNat * 2 ^ n = q
  show (q : Int) % 65536 = ((q % 65536 : Nat) : Int)
  omega
theorem b16_shl1 (a : BitVec 16) : IntKind.u16.wrap ((a.toNat : Int) * 2) = ((a <<< 1).toNat : Int) := b16_shl a 1
theorem b32_shr1 (a : BitVec 32) : (a.toNat : Int) / (2 : Int) = ((a >>> 1).toNat : Int) := by
  rw [BitVec.toNat_ushiftRight, Nat.shiftRight_eq_div_pow]
  show (a.toNat : Int) / 2 = ((a.toNat / 2 : Nat) : Int)
  omega

theorem b32_not (a : BitVec 32) : bits .xor .u32 IntKind.u32.max (a.toNat : Int) = ((~~~ a).toNat : Int) := by
  have e := b32_xor (BitVec.allOnes 32) a
  rw [BitVec.allOnes_xor] at e
  exact e
theorem and_top (r : BitVec 16) : r &&& 0x8000#16 = if r.getLsbD 15 then 0x8000#16 else 0#16 := BitVec.and_twoPow r 15
theorem and_low (r : BitVec 32) : r &&& 1#32 = if r.getLsbD 0 then 1#32 else 0#32 := BitVec.and_twoPow r 0

/-! ### an argument: what the row's shell tells of a slice of integers that came in -/
def IsRow (k : IntKind) (w : World) (a : Option Addr) (len cap : Nat) (zs : List Int) : Prop :=
  (a = none ∧ len = 0 ∧ cap = 0 ∧ zs = []) ∨
  ∃ x, a = some x ∧ len ≤ cap ∧ cap ≤ maxLen ∧ zs.length = cap ∧ (∀ i, i < zs.length → w.cell? (x.add i) = some (.int k (zs.getD i 0))) ∧ ∀ n ∈ zs, (Lit.int k n).wf = true

theorem lt_of_cell {w : World} {p : Addr} {v : Value} (h : w.cell? p = some v) : p.block < w.heap.size := by
  rcases Nat.lt_or_ge p.block w.heap.size with h' | h'
  · exact h'
  · simp [World.cell?, Array.getElem?_eq_none h'] at h

theorem u8_bounds {n : Int} (h : (Lit.int .u8 n).wf = true) : 0 ≤ n ∧ n < 256 := by
  have := (by simpa [Lit.wf, IntKind.min, IntKind.max, IntKind.bits, IntKind.signed] using h : _ ∧ _)
  omega
theorem u16_bounds {n : Int} (h : (Lit.int .u16 n).wf = true) : 0 ≤ n ∧ n < 65536 := by
  have := (by simpa [Lit.wf, IntKind.min, IntKind.max, IntKind.bits, IntKind.signed] using h : _ ∧ _)
  omega
theorem u32_bounds {n : Int} (h : (Lit.int .u32 n).wf = true) : 0 ≤ n ∧ n < 4294967296 := by
  have := (by simpa [Lit.wf, IntKind.min, IntKind.max, IntKind.bits, IntKind.signed] using h : _ ∧ _)
  omega

theorem i64_bounds {n : Int} (h : (Lit.int .i64 n).wf = true) : -9223372036854775808 ≤ n ∧ n ≤ 9223372036854775807 := by
  have := (by simpa [Lit.wf, IntKind.min, IntKind.max, IntKind.bits, IntKind.signed] using h : _ ∧ _)
  omega
theorem u64_bounds {n : Int} (h : (Lit.int .u64 n).wf = true) : 0 ≤ n ∧ n < 18446744073709551616 := by
  have := (by simpa [Lit.wf, IntKind.min, IntKind.max, IntKind.bits, IntKind.signed] using h : _ ∧ _)
  omega
theorem of_u64 {n : Int} (h : (Lit.int .u64 n).wf = true) : ∃ r : BitVec 64, n = (r.toNat : Int) := by
  have := u64_bounds h
  exact ⟨BitVec.ofNat 64 n.toNat, by rw [BitVec.toNat_ofNat, Nat.mod_eq_of_lt (by omega)]; omega⟩
theorem of_u8 {n : Int} (h : (Lit.int .u8 n).wf = true) : ∃ r : BitVec 8, n = (r.toNat : Int) := by
  have := u8_bounds h
  exact ⟨BitVec.ofNat 8 n.toNat, by rw [BitVec.toNat_ofNat, Nat.mod_eq_of_lt (by omega)]; omega⟩
theorem of_u16 {n : Int} (h : (Lit.int .u16 n).wf = true) : ∃ r : BitVec 16, n = (r.toNat : Int) := by
  have := u16_bounds h
  exact ⟨BitVec.ofNat 16 n.toNat, by rw [BitVec.toNat_ofNat, Nat.mod_eq_of_lt (by omega)]; omega⟩
theorem of_u32 {n : Int} (h : (Lit.int .u32 n).wf = true) : ∃ r : BitVec 32, n = (r.toNat : Int) := by
  have := u32_bounds h
  exact ⟨BitVec.ofNat 32 n.toNat, by rw [BitVec.toNat_ofNat, Nat.mod_eq_of_lt (by omega)]; omega⟩

theorem IsRow.bytes {w : World} {a : Option Addr} {len cap : Nat} {zs : List Int} (h : IsRow .u8 w a len cap zs) :
    ∃ l : List Byte, len = l.length ∧ Bs w w.heap.size a l ∧ (a = none → cap = 0) ∧ l.length ≤ cap ∧ cap ≤ maxLen := by
  rcases h with ⟨rfl, rfl, rfl, rfl⟩ | ⟨x, rfl, hl, hm, hz, hc, hw⟩
  · exact ⟨[], rfl, Bs.nil_, fun _ => rfl, by simp, by simp⟩
  · refine ⟨(zs.take len).map fun n => BitVec.ofNat 8 n.toNat, by simp; omega, fun hpos => ?_, by simp, by simp; omega, hm⟩
    have h0 := hc 0 (by simp at hpos; omega)
    obtain ⟨b, off, spot⟩ := x
    have hs : spot = none := by simpa [Addr.add] using World.cell?_spot h0
    subst hs
    refine ⟨b, off, rfl, lt_of_cell h0, fun i y hy => ?_⟩
    rw [List.getElem?_map, List.getElem?_take] at hy
    split at hy
    · rename_i hi
      have hzi : i < zs.length := by omega
      rw [List.getElem?_eq_getElem hzi] at hy
      injection hy with hy
      have hb := u8_bounds (hw zs[i] (List.getElem_mem hzi))
      have e : (y.toNat : Int) = zs[i] := by
        rw [← hy, BitVec.toNat_ofNat, Nat.mod_eq_of_lt (by omega)]; omega
      have := hc i hzi
      rw [List.getD_eq_getElem?_getD, List.getElem?_eq_getElem hzi] at this
      show _ = some (Value.int .u8 (y.toNat : Int))
      rw [e]
      by_cases h1 : i = 0
      · subst h1; simpa [Addr.add] using this
      · simpa [Addr.add, h1] using this
    · cases hy

end Go.Proofs.Ytdpjjhbfhlmolaa

/-
  Plain mathematics of bit fields, no Go in sight: the bits of a number, of a byte string; a byte string that packs a list of bits; numbers that are read out of a byte string.
-/
namespace Go.Proofs.Ytdpjjhbfhlmolaa

theorem getD_app {α : Type} (l m : List α) (k : Nat) (d : α) : (l ++ m).getD k d = if k < l.length then l.getD k d else m.getD (k - l.length) d := by
  rw [List.getD_eq_getElem?_getD, List.getElem?_append]
  split <;> rw [List.getD_eq_getElem?_getD]

/-- bit k of a byte string, the most significant bit of the first byte first -/
def bitAt (bs : List Byte) (k : Nat) : Bool := (bs.getD (k / 8) 0#8).getLsbD (7 - k % 8)

/-- the low w bits of n, the most significant one first -/
def bitsOf (n : Nat) : Nat → List Bool
  | 0 => []
  | k + 1 => n.testBit k :: bitsOf n k

theorem bitsOf_len (n w : Nat) : (bitsOf n w).length = w := by
  induction w with
  | zero => rfl
  | succ w ih => simp [bitsOf, ih]
theorem bitsOf_add (n a b : Nat) : bitsOf n (a + b) = bitsOf (n / 2 ^ b) a ++ bitsOf n b := by
  induction a with
  | zero => simp [bitsOf]
  | succ a ih =>
    rw [Nat.succ_add]
    simp only [bitsOf, List.cons_append, ih, Nat.testBit_div_two_pow]
theorem bitsOf_getD (n w j : Nat) : (bitsOf n w).getD j false = (decide (j < w) && n.testBit (w - 1 - j)) := by
  induction w generalizing j with
  | zero => simp [bitsOf]
  | succ w ih =>
    cases j with
    | zero => simp [bitsOf]
    | succ j =>
      rw [bitsOf, List.getD_cons_succ, ih]
      have e : w + 1 - 1 - (j + 1) = w - 1 - j := by omega
      rw [e]
      simp

theorem bitsOf_mod (n w : Nat) : bitsOf (n % 2 ^ w) w = bitsOf n w := by
  refine List.ext_getElem (by simp [bitsOf_len]) fun j h1 h2 => ?_
  have e1 := bitsOf_getD (n % 2 ^ w) w j
  have e2 := bitsOf_getD n w j
  rw [List.getD_eq_getElem?_getD, List.getElem?_eq_getElem h1, Option.getD_some] at e1
  rw [List.getD_eq_getElem?_getD, List.getElem?_eq_getElem h2, Option.getD_some] at e2
  rw [bitsOf_len] at h1
  rw [e1, e2, Nat.testBit_mod_two_pow]
  have : w - 1 - j < w := by omega
  simp [this]

/-- bs holds the bits L and then fr zero bits -/
structure Room (bs : List Byte) (L : List Bool) (fr : Nat) : Prop where
  len : 8 * bs.length = L.length + fr
  le : fr ≤ 8
  bit : ∀ k, bitAt bs k = L.getD k false

/-- bs is L, filled with zero bits to whole bytes -/
structure Packs (bs : List Byte) (L : List Bool) : Prop where
  len : bs.length = (L.length + 7) / 8
  bit : ∀ k, bitAt bs k = L.getD k false

theorem Room.packs {bs : List Byte} {L : List Bool} {fr : Nat} (h : Room bs L fr) (hf : fr < 8) : Packs bs L := ⟨by have := h.len; omega, h.bit⟩
theorem room_nil : Room [] [] 0 := ⟨rfl, by omega, fun k => by simp [bitAt]⟩
theorem packs_nil : Packs [] [] := ⟨rfl, fun k => by simp [bitAt]⟩

theorem Packs.unique {bs cs : List Byte} {L : List Bool} (h : Packs bs L) (k : Packs cs L) : bs = cs := by
  refine List.ext_getElem (by rw [h.len, k.len]) fun i h1 h2 => ?_
  refine BitVec.eq_of_getLsbD_eq fun j hj => ?_
  have e := (h.bit (8 * i + (7 - j))).trans (k.bit (8 * i + (7 - j))).symm
  unfold bitAt at e
  rw [show (8 * i + (7 - j)) / 8 = i by omega, show 7 - (8 * i + (7 - j)) % 8 = j by omega] at e
  simpa [List.getD_eq_getElem?_getD, h1, h2] using e

theorem bitAt_app (bs cs : List Byte) (k : Nat) : bitAt (bs ++ cs) k = if k < 8 * bs.length then bitAt bs k else bitAt cs (k - 8 * bs.length) := by
  unfold bitAt
  split
  · rw [getD_app, if_pos (by omega)]
  · rw [getD_app, if_neg (by omega), show k / 8 - bs.length = (k - 8 * bs.length) / 8 by omega, show k % 8 = (k - 8 * bs.length) % 8 by omega]
theorem bitAt_zero (k : Nat) : bitAt [0#8] k = false := by
  unfold bitAt
  cases h : k / 8 <;> simp
theorem bitAt_set (bs : List Byte) (i : Nat) (x : Byte) (k : Nat) (hi : i < bs.length) : bitAt (bs.set i x) k = if k / 8 = i then x.getLsbD (7 - k % 8) else bitAt bs k := by
  unfold bitAt
  rw [List.getD_eq_getElem?_getD, List.getElem?_set]
  split
  · rename_i h
    rw [if_pos h.symm]
    simp
  · rename_i h
    rw [if_neg (fun e => h e.symm), List.getD_eq_getElem?_getD]

theorem Room.grow {bs : List Byte} {L : List Bool} (h : Room bs L 0) : Room (bs ++ [0#8]) L 8 := by
  refine ⟨by have := h.len; simp; omega, by omega, fun k => ?_⟩
  rw [bitAt_app, bitAt_zero, h.bit]
  split
  · rfl
  · rw [List.getD_eq_getElem?_getD, List.getElem?_eq_none (by have := h.len; omega)]; rfl

theorem Room.put {bs : List Byte} {L : List Bool} {fr size m : Nat} (h : Room bs L fr) (hs : size ≤ fr) (hf : 0 < fr) (x piece : Byte) (hx : bs[bs.length - 1]? = some x)
    (hp : ∀ i, piece.getLsbD i = (decide (i < size) && m.testBit i)) :
    Room (bs.set (bs.length - 1) (x ||| (piece <<< (fr - size)))) (L ++ bitsOf m size) (fr - size) := by
  have hl := h.len
  have hle := h.le
  have hx0 : bs.length - 1 < bs.length := by omega
  refine ⟨by simp [bitsOf_len]; omega, by omega, fun k => ?_⟩
  rw [bitAt_set _ _ _ _ hx0]
  have hb := h.bit k
  have hxx : bs.getD (bs.length - 1) 0#8 = x := by rw [List.getD_eq_getElem?_getD, hx]; rfl
  rw [List.getD_eq_getElem?_getD, List.getElem?_append]
  by_cases hk : k < L.length
  · rw [if_pos hk, ← List.getD_eq_getElem?_getD, ← hb]
    split
    · rename_i h8
      unfold bitAt
      rw [h8, hxx, BitVec.getLsbD_or, BitVec.getLsbD_shiftLeft, hp]
      have : ¬ (7 - k % 8 - (fr - size) < size) := by omega
      simp [this]
    · rfl
  · rw [if_neg hk, ← List.getD_eq_getElem?_getD, bitsOf_getD]
    have hz : bitAt bs k = false := by rw [hb, List.getD_eq_getElem?_getD, List.getElem?_eq_none (by omega)]; rfl
    split
    · rename_i h8
      unfold bitAt at hz
      rw [h8, hxx] at hz
      rw [BitVec.getLsbD_or, BitVec.getLsbD_shiftLeft, hp, hz, Bool.false_or]
      by_cases hj : k - L.length < size
      · have e1 : ¬ (7 - k % 8 < fr - size) := by omega
        have e2 : 7 - k % 8 - (fr - size) < size := by omega
        have e3 : 7 - k % 8 - (fr - size) = size - 1 - (k - L.length) := by omega
        have e4 : 7 - k % 8 < 8 := by omega
        simp only [hj, e1, e3, e4]
        have e5 : size - 1 - (k - L.length) < size := by omega
        simp [e5]
      · have e1 : 7 - k % 8 < fr - size := by omega
        simp [hj, e1]
    · rw [hz]
      have e1 : ¬ (k - L.length < size) := by omega
      simp [e1]

/-! ### numbers out of a byte string -/
def numAt (bs : List Byte) (p : Nat) : Nat → Nat
  | 0 => 0
  | w + 1 => 2 * numAt bs p w + (bitAt bs (p + w)).toNat
theorem numAt_lt (bs : List Byte) (p w : Nat) : numAt bs p w < 2 ^ w := by
  induction w with
  | zero => simp [numAt]
  | succ w ih =>
    have := Bool.toNat_le (bitAt bs (p + w))
    simp only [numAt, Nat.pow_succ]
    omega
theorem numAt_add (bs : List Byte) (p a b : Nat) : numAt bs p (a + b) = numAt bs p a * 2 ^ b + numAt bs (p + a) b := by
  induction b with
  | zero => simp [numAt]
  | succ b ih =>
    rw [← Nat.add_assoc]
    simp only [numAt, ih, Nat.add_assoc, Nat.pow_succ]
    rw [Nat.mul_add, ← Nat.mul_assoc, Nat.mul_comm 2 (numAt bs p a), Nat.mul_assoc, Nat.mul_comm 2 (2 ^ b), Nat.add_assoc]
theorem numAt_testBit (bs : List Byte) (p w i : Nat) : (numAt bs p w).testBit i = (decide (i < w) && bitAt bs (p + (w - 1 - i))) := by
  induction w generalizing i with
  | zero => simp [numAt]
  | succ w ih =>
    cases i with
    | zero =>
      simp only [numAt, Nat.testBit_zero]
      have : (2 * numAt bs p w + (bitAt bs (p + w)).toNat) % 2 = (bitAt bs (p + w)).toNat := by
        have := Bool.toNat_le (bitAt bs (p + w))
        omega
      rw [this]
      cases hb : bitAt bs (p + w) <;> simp [hb]
    | succ i =>
      rw [Nat.testBit_succ]
      have e : numAt bs p (w + 1) / 2 = numAt bs p w := by
        have := Bool.toNat_le (bitAt bs (p + w))
        simp only [numAt]; omega
      rw [e, ih]
      have e2 : w + 1 - 1 - (i + 1) = w - 1 - i := by omega
      rw [e2]
      simp
/-- a piece of one byte -/
theorem numAt_piece (bs : List Byte) (p s : Nat) (x : Byte) (hs : p % 8 + s ≤ 8) (hx : bs[p / 8]? = some x) : x.toNat * 2 ^ (p % 8) % 256 / 2 ^ (8 - s) = numAt bs p s := by
  refine Nat.eq_of_testBit_eq fun i => ?_
  rw [numAt_testBit, Nat.testBit_div_two_pow, show 256 = 2 ^ 8 from rfl, Nat.testBit_mod_two_pow, Nat.testBit_mul_two_pow, Nat.add_comm i (8 - s)]
  by_cases hi : i < s
  · have e1 : 8 - s + i < 8 := by omega
    have e2 : p % 8 ≤ 8 - s + i := by omega
    simp only [hi, e1, e2, decide_true, Bool.true_and]
    unfold bitAt
    rw [show (p + (s - 1 - i)) / 8 = p / 8 by omega, List.getD_eq_getElem?_getD, hx, show 7 - (p + (s - 1 - i)) % 8 = 8 - s + i - p % 8 by omega]
    rfl
  · have e1 : ¬ (8 - s + i < 8) := by omega
    simp [hi, e1]
/-- one bit of one byte -/
theorem bitAt_byte (bs : List Byte) (p : Nat) (x : Byte) (hx : bs[p / 8]? = some x) : x.toNat / 2 ^ (7 - p % 8) % 2 = (bitAt bs p).toNat := by
  unfold bitAt
  rw [List.getD_eq_getElem?_getD, hx, Option.getD_some]
  have := Nat.toNat_testBit x.toNat (7 - p % 8)
  rw [← this]
  rfl

/-- what was put is read back -/
theorem numAt_bits {bs : List Byte} {pre post : List Bool} {n w : Nat} (h : ∀ k, bitAt bs k = (pre ++ bitsOf n w ++ post).getD k false) : numAt bs pre.length w = n % 2 ^ w := by
  refine Nat.eq_of_testBit_eq fun i => ?_
  rw [numAt_testBit, Nat.testBit_mod_two_pow]
  by_cases hi : i < w
  · rw [h, List.append_assoc, getD_app, if_neg (by omega), getD_app, if_pos (by rw [bitsOf_len]; omega), bitsOf_getD]
    have e1 : pre.length + (w - 1 - i) - pre.length = w - 1 - i := by omega
    have e2 : w - 1 - (w - 1 - i) = i := by omega
    have e3 : w - 1 - i < w := by omega
    rw [e1, e2]
    simp [hi, e3]
  · simp [hi]
theorem numAt_zero {bs : List Byte} {p w : Nat} (h : ∀ k, p ≤ k → bitAt bs k = false) : numAt bs p w = 0 := by
  induction w with
  | zero => rfl
  | succ w ih => simp [numAt, ih, h (p + w) (by omega)]

/-! ### numbers of the walk -/
theorem u8_or (x y : Byte) : bits .or .u8 (x.toNat : Int) (y.toNat : Int) = ((x ||| y).toNat : Int) := by
  rw [u8_or_nat _ _ x.isLt y.isLt, BitVec.toNat_or]
theorem u8_shl (x : Byte) (n : Nat) : IntKind.u8.wrap ((x.toNat : Int) * 2 ^ n) = ((x <<< n).toNat : Int) := by
  have e : ((x.toNat : Int) * 2 ^ n) = ((x.toNat * 2 ^ n : Nat) : Int) := by rw [Int.natCast_mul, Int.natCast_pow]; rfl
  rw [IntKind.wrap_u8, BitVec.toNat_shiftLeft, Nat.shiftLeft_eq, e]
  generalize x.toNat * 2 ^ n = q
  show (q : Int) % 256 = ((q % 256 : Nat) : Int)
  omega
theorem div_nat (n : BitVec 64) (j : Nat) : (n.toNat : Int) / 2 ^ j = ((n.toNat / 2 ^ j : Nat) : Int) := by
  rw [Int.natCast_ediv, Int.natCast_pow]; rfl
/-- the low s bits of q, as a byte -/
def piece (q s : Nat) : Byte := BitVec.ofNat 8 (q % 2 ^ s)
theorem piece_bit (q s : Nat) (hs : s ≤ 8) (i : Nat) : (piece q s).getLsbD i = (decide (i < s) && q.testBit i) := by
  unfold piece
  rw [BitVec.getLsbD_ofNat, Nat.testBit_mod_two_pow]
  by_cases h : i < s
  · have : i < 8 := by omega
    simp [h, this]
  · simp [h]
theorem piece_nat (q s : Nat) (hs : s ≤ 8) : (piece q s).toNat = q % 2 ^ s := by
  unfold piece
  rw [BitVec.toNat_ofNat]
  refine Nat.mod_eq_of_lt (Nat.lt_of_lt_of_le (Nat.mod_lt _ (Nat.two_pow_pos s)) (Nat.pow_le_pow_right (by decide) hs))
theorem mask_of (s : Nat) (hs : s ≤ 8) : (255 : Int) / 2 ^ (8 - s) = 2 ^ s - 1 := by
  match s, hs with
  | 0, _ | 1, _ | 2, _ | 3, _ | 4, _ | 5, _ | 6, _ | 7, _ | 8, _ => decide
theorem dvd_256 (s : Nat) (hs : s ≤ 8) : (2 : Int) ^ s ∣ 256 := by
  match s, hs with
  | 0, _ | 1, _ | 2, _ | 3, _ | 4, _ | 5, _ | 6, _ | 7, _ | 8, _ => decide
theorem piece_walk (q s : Nat) (hs : s ≤ 8) : bits .and .u8 (IntKind.u8.wrap (q : Int)) (255 / 2 ^ (8 - s)) = ((piece q s).toNat : Int) := by
  rw [mask_of s hs, IntKind.wrap_u8, piece_nat q s hs]
  rw [bits_mask .u8 8 (by decide) wraps_u8 s hs _ (by omega) (by omega)]
  have e : ((q % 2 ^ s : Nat) : Int) = (q : Int) % 2 ^ s := by rw [Int.natCast_emod, Int.natCast_pow]; rfl
  rw [e]
  exact Int.emod_emod_of_dvd _ (dvd_256 s hs)

end Go.Proofs.Ytdpjjhbfhlmolaa

/-
  Plain mathematics of space packets, no Go in sight: when a packet is valid, its header's six bytes, what a header states; both ways fit.
-/
namespace Go.Proofs.Ytdpjjhbfhlmolaa.Pac

/-- a space packet -/
structure Pk where
  com : Bool
  sec : Bool
  ap : Int
  fl : Int
  ct : Int
  d : List Byte
deriving DecidableEq

/-- are all bytes zeros? -/
def zer (l : List Byte) : Bool := l.all fun x => decide (x = 0#8)
theorem zer_nil : zer [] = true := rfl
theorem zer_take {l : List Byte} {k : Nat} {x : Byte} (hx : l[k]? = some x) : zer (l.take (k + 1)) = (zer (l.take k) && decide (x = 0#8)) := by
  rw [List.take_add_one, hx]
  simp [zer]
theorem zer_no {l : List Byte} {k : Nat} {x : Byte} (hx : l[k]? = some x) (h : x ≠ 0#8) : zer l = false := by
  unfold zer
  rw [List.all_eq_false]
  exact ⟨x, List.mem_of_getElem? hx, by simpa using h⟩
theorem zer_rep (n : Nat) : zer (List.replicate n 0#8) = true := by simp [zer]

/-- numbers and length in range -/
def Pk.Fits (p : Pk) : Prop := 0 ≤ p.ap ∧ p.ap ≤ 2047 ∧ 0 ≤ p.fl ∧ p.fl ≤ 3 ∧ 0 ≤ p.ct ∧ p.ct ≤ 16383 ∧ 1 ≤ p.d.length ∧ p.d.length ≤ 4090
instance (p : Pk) : Decidable p.Fits := by unfold Pk.Fits; infer_instance
/-- what an idle packet must be -/
def Pk.idle (p : Pk) : Bool := !p.com && (!p.sec && (decide (p.fl = 3) && (decide (p.ct = 0) && zer p.d)))
def Pk.ok (p : Pk) : Bool := decide p.Fits && (!decide (p.ap = 2047) || p.idle)

theorem Pk.ok_no {p : Pk} (h : ¬ p.Fits) : p.ok = false := by unfold Pk.ok; rw [decide_eq_false h]; rfl
theorem Pk.ok_free {p : Pk} (h : p.Fits) (h2 : p.ap ≠ 2047) : p.ok = true := by unfold Pk.ok; rw [decide_eq_true h, decide_eq_false h2]; rfl
theorem Pk.ok_idle {p : Pk} (h : p.Fits) (h2 : p.ap = 2047) : p.ok = p.idle := by unfold Pk.ok; rw [decide_eq_true h, decide_eq_true h2]; rfl
theorem Pk.ok_fits {p : Pk} (h : p.ok = true) : p.Fits := by
  unfold Pk.ok at h
  simp only [Bool.and_eq_true, decide_eq_true_eq] at h
  exact h.1

/-- the first two bytes' number, the second two's -/
def hd1 (com sec : Bool) (A : Nat) : Nat := (if com then 4096 else 0) + (if sec then 2048 else 0) + A
def hd2 (F T : Nat) : Nat := F * 16384 + T
/-- a header of three numbers -/
def hdr (H C K : Nat) : List Byte := [BitVec.ofNat 8 (H / 256), BitVec.ofNat 8 (H % 256), BitVec.ofNat 8 (C / 256), BitVec.ofNat 8 (C % 256), BitVec.ofNat 8 (K / 256), BitVec.ofNat 8 (K % 256)]
theorem hdr_len (H C K : Nat) : (hdr H C K).length = 6 := rfl
def Pk.head (p : Pk) : List Byte := hdr (hd1 p.com p.sec p.ap.toNat) (hd2 p.fl.toNat p.ct.toNat) (p.d.length - 1)
/-- what Encode hands back -/
def Pk.enc (p : Pk) : List Byte := if p.ok then p.head ++ p.d else []
def Pk.err (p : Pk) : Int := if p.ok then 0 else 1
theorem Pk.enc_yes {p : Pk} (h : p.ok = true) : p.enc = p.head ++ p.d := by unfold Pk.enc; rw [if_pos h]
theorem Pk.enc_no {p : Pk} (h : p.ok = false) : p.enc = [] := by unfold Pk.enc; rw [h]; rfl
theorem Pk.err_yes {p : Pk} (h : p.ok = true) : p.err = 0 := by unfold Pk.err; rw [if_pos h]
theorem Pk.err_no {p : Pk} (h : p.ok = false) : p.err = 1 := by unfold Pk.err; rw [h]; rfl

/-! ### the Writer's bits are the header -/
theorem bitsOf_join (x y a b : Nat) (hy : y < 2 ^ b) : bitsOf x a ++ bitsOf y b = bitsOf (x * 2 ^ b + y) (a + b) := by
  have hp := Nat.two_pow_pos b
  have e1 : (x * 2 ^ b + y) / 2 ^ b = x := by
    rw [Nat.mul_comm, Nat.mul_add_div hp, Nat.div_eq_of_lt hy]; rfl
  have e2 : (x * 2 ^ b + y) % 2 ^ b = y % 2 ^ b := by
    rw [Nat.mul_comm, Nat.mul_add_mod]
  rw [bitsOf_add, e1, ← bitsOf_mod (x * 2 ^ b + y) b, e2, bitsOf_mod]

theorem Packs.both {a b : List Byte} {L M : List Bool} (h : Packs a L) (k : Packs b M) (hL : L.length = 8 * a.length) : Packs (a ++ b) (L ++ M) := by
  refine ⟨by rw [List.length_append, List.length_append, h.len, k.len]; have := h.len; omega, fun i => ?_⟩
  rw [bitAt_app, getD_app, ← hL]
  split
  · exact h.bit i
  · exact k.bit _
theorem packs_byte (X : Nat) : Packs [BitVec.ofNat 8 X] (bitsOf X 8) := by
  refine ⟨by rw [bitsOf_len]; rfl, fun k => ?_⟩
  rw [bitsOf_getD]
  unfold bitAt
  by_cases hk : k < 8
  · rw [show k / 8 = 0 by omega, show k % 8 = k by omega]
    have h7 : 7 - k < 8 := by omega
    rw [List.getD_cons_zero, BitVec.getLsbD_ofNat, decide_eq_true h7, decide_eq_true hk]
  · have : k / 8 = (k / 8 - 1) + 1 := by omega
    rw [this]
    simp [hk]
theorem packs_word (X : Nat) (_hX : X < 65536) : Packs [BitVec.ofNat 8 (X / 256), BitVec.ofNat 8 (X % 256)] (bitsOf X 16) := by
  have h := Packs.both (packs_byte (X / 256)) (packs_byte (X % 256)) (by simp [bitsOf_len])
  rw [bitsOf_join _ _ _ _ (by omega)] at h
  rw [show X / 256 * 2 ^ 8 + X % 256 = X by omega] at h
  exact h
theorem packs_hdr (H C K : Nat) (hH : H < 65536) (hC : C < 65536) (hK : K < 65536) : Packs (hdr H C K) (bitsOf H 16 ++ bitsOf C 16 ++ bitsOf K 16) :=
  Packs.both (Packs.both (packs_word H hH) (packs_word C hC) (by simp [bitsOf_len])) (packs_word K hK) (by simp [bitsOf_len])

def nb (b : Bool) : Nat := if b then 1 else 0
theorem nb_lt (b : Bool) : nb b < 2 ^ 1 := by cases b <;> decide
/-- what the Writer has been given -/
theorem header_bits (com sec : Bool) (A F T K : Nat) (hA : A < 2048) (hT : T < 16384) :
    [] ++ bitsOf 0 3 ++ bitsOf (nb com) 1 ++ bitsOf (nb sec) 1 ++ bitsOf A 11 ++ bitsOf F 2 ++ bitsOf T 14 ++ bitsOf K 16 = bitsOf (hd1 com sec A) 16 ++ bitsOf (hd2 F T) 16 ++ bitsOf K 16 := by
  rw [List.nil_append, bitsOf_join _ _ _ _ (nb_lt com), bitsOf_join _ _ _ _ (nb_lt sec), bitsOf_join _ _ _ _ (show A < 2 ^ 11 by omega), List.append_assoc (bitsOf _ _) (bitsOf F 2), bitsOf_join _ _ _ _ (show T < 2 ^ 14 by omega)]
  have e : ((0 * 2 ^ 1 + nb com) * 2 ^ 1 + nb sec) * 2 ^ 11 + A = hd1 com sec A := by cases com <;> cases sec <;> simp [nb, hd1] <;> omega
  rw [e]
  rfl
theorem head_of {bs : List Byte} (com sec : Bool) (A F T K : Nat) (hA : A < 2048) (hF : F < 4) (hT : T < 16384) (hK : K < 65536)
    (h : Packs bs ([] ++ bitsOf 0 3 ++ bitsOf (nb com) 1 ++ bitsOf (nb sec) 1 ++ bitsOf A 11 ++ bitsOf F 2 ++ bitsOf T 14 ++ bitsOf K 16)) : bs = hdr (hd1 com sec A) (hd2 F T) K := by
  rw [header_bits com sec A F T K hA hT] at h
  have hH : hd1 com sec A < 65536 := by unfold hd1; cases com <;> cases sec <;> simp <;> omega
  have hC : hd2 F T < 65536 := by unfold hd2; omega
  exact Packs.unique h (packs_hdr _ _ _ hH hC hK)

/-! ### what a header states -/
def b8 (l : List Byte) (k : Nat) : Nat := (l.getD k 0#8).toNat
theorem b8_lt (l : List Byte) (k : Nat) : b8 l k < 256 := (l.getD k 0#8).isLt
theorem b8_at {l : List Byte} {k : Nat} {x : Byte} (h : l[k]? = some x) : b8 l k = x.toNat := by unfold b8; rw [List.getD_eq_getElem?_getD, h]; rfl
/-- the length in all -/
def tot (l : List Byte) : Nat := 7 + 256 * b8 l 4 + b8 l 5
def siE (l : List Byte) : Int := if l.length < 6 then 3 else if 32 ≤ b8 l 0 then 4 else if 4096 < tot l then 6 else 0
def siN (l : List Byte) : Nat := if l.length < 6 then 0 else if 32 ≤ b8 l 0 then 0 else if 4096 < tot l then 0 else tot l
/-- the packet that the bytes state -/
def rd (l : List Byte) : Pk :=
  ⟨decide (b8 l 0 / 16 % 2 = 1), decide (b8 l 0 / 8 % 2 = 1), ((256 * b8 l 0 + b8 l 1) % 2048 : Nat), ((256 * b8 l 2 + b8 l 3) / 16384 : Nat), ((256 * b8 l 2 + b8 l 3) % 16384 : Nat), (l.drop 6).take (tot l - 6)⟩
def noPk : Pk := ⟨false, false, 0, 0, 0, []⟩
def deE (l : List Byte) : Int := if siE l = 0 then (if l.length < tot l then 3 else if (rd l).ok then 0 else 4) else siE l
def deP (l : List Byte) : Pk := if deE l = 0 then rd l else noPk
def deN (l : List Byte) : Nat := if deE l = 0 then tot l else 0

theorem siE_short {l : List Byte} (h : l.length < 6) : siE l = 3 ∧ siN l = 0 := by unfold siE siN; rw [if_pos h, if_pos h]; exact ⟨rfl, rfl⟩
theorem siE_form {l : List Byte} (h : ¬ l.length < 6) (h2 : 32 ≤ b8 l 0) : siE l = 4 ∧ siN l = 0 := by unfold siE siN; rw [if_neg h, if_pos h2, if_neg h, if_pos h2]; exact ⟨rfl, rfl⟩
theorem siE_long {l : List Byte} (h : ¬ l.length < 6) (h2 : ¬ 32 ≤ b8 l 0) (h3 : 4096 < tot l) : siE l = 6 ∧ siN l = 0 := by
  unfold siE siN; rw [if_neg h, if_neg h2, if_pos h3, if_neg h, if_neg h2, if_pos h3]; exact ⟨rfl, rfl⟩
theorem siE_good {l : List Byte} (h : ¬ l.length < 6) (h2 : ¬ 32 ≤ b8 l 0) (h3 : ¬ 4096 < tot l) : siE l = 0 ∧ siN l = tot l := by
  unfold siE siN; rw [if_neg h, if_neg h2, if_neg h3, if_neg h, if_neg h2, if_neg h3]; exact ⟨rfl, rfl⟩
theorem siE_zero {l : List Byte} (h : siE l = 0) : ¬ l.length < 6 ∧ ¬ 32 ≤ b8 l 0 ∧ ¬ 4096 < tot l := by
  unfold siE at h
  refine ⟨fun c => ?_, fun c => ?_, fun c => ?_⟩
  · rw [if_pos c] at h; cases h
  · by_cases a : l.length < 6
    · rw [if_pos a] at h; cases h
    · rw [if_neg a, if_pos c] at h; cases h
  · by_cases a : l.length < 6
    · rw [if_pos a] at h; cases h
    · by_cases b : 32 ≤ b8 l 0
      · rw [if_neg a, if_pos b] at h; cases h
      · rw [if_neg a, if_neg b, if_pos c] at h; cases h
theorem de_err {l : List Byte} (h : siE l ≠ 0) : deE l = siE l ∧ deP l = noPk ∧ deN l = 0 := by
  have e : deE l = siE l := by unfold deE; rw [if_neg h]
  refine ⟨e, ?_, ?_⟩
  · unfold deP; rw [e, if_neg h]
  · unfold deN; rw [e, if_neg h]
theorem de_short {l : List Byte} (h : siE l = 0) (h2 : l.length < tot l) : deE l = 3 ∧ deP l = noPk ∧ deN l = 0 := by
  have e : deE l = 3 := by unfold deE; rw [if_pos h, if_pos h2]
  exact ⟨e, by unfold deP; rw [e]; rfl, by unfold deN; rw [e]; rfl⟩
theorem de_form {l : List Byte} (h : siE l = 0) (h2 : ¬ l.length < tot l) (h3 : (rd l).ok = false) : deE l = 4 ∧ deP l = noPk ∧ deN l = 0 := by
  have e : deE l = 4 := by unfold deE; rw [if_pos h, if_neg h2, h3]; rfl
  exact ⟨e, by unfold deP; rw [e]; rfl, by unfold deN; rw [e]; rfl⟩
theorem de_good {l : List Byte} (h : siE l = 0) (h2 : ¬ l.length < tot l) (h3 : (rd l).ok = true) : deE l = 0 ∧ deP l = rd l ∧ deN l = tot l := by
  have e : deE l = 0 := by unfold deE; rw [if_pos h, if_neg h2, h3]; rfl
  exact ⟨e, by unfold deP; rw [if_pos e], by unfold deN; rw [if_pos e]⟩
theorem de_zero {l : List Byte} (h : deE l = 0) : siE l = 0 ∧ ¬ l.length < tot l ∧ (rd l).ok = true := by
  unfold deE at h
  by_cases a : siE l = 0
  · by_cases b : l.length < tot l
    · rw [if_pos a, if_pos b] at h; cases h
    · cases c : (rd l).ok with
      | true => exact ⟨a, b, rfl⟩
      | false => rw [if_pos a, if_neg b, c] at h; cases h
  · rw [if_neg a] at h; exact absurd h a

/-! ### the Reader's numbers -/
section
variable {bs : List Byte} {x0 x1 x2 x3 x4 x5 : Byte}
theorem num_piece (p s : Nat) (x : Byte) (hs : p % 8 + s ≤ 8) (hx : bs[p / 8]? = some x) : numAt bs p s = x.toNat * 2 ^ (p % 8) % 256 / 2 ^ (8 - s) := (numAt_piece bs p s x hs hx).symm
theorem num_ver (h0 : bs[0]? = some x0) : numAt bs 0 3 = x0.toNat / 32 := by
  rw [num_piece 0 3 x0 (by decide) h0]
  have := x0.isLt
  simp only [Nat.reduceMod, Nat.reducePow, Nat.reduceSub]
  omega
theorem num_com (h0 : bs[0]? = some x0) : numAt bs 3 1 = x0.toNat / 16 % 2 := by
  rw [num_piece 3 1 x0 (by decide) h0]
  have := x0.isLt
  simp only [Nat.reduceMod, Nat.reducePow, Nat.reduceSub]
  omega
theorem num_sec (h0 : bs[0]? = some x0) : numAt bs 4 1 = x0.toNat / 8 % 2 := by
  rw [num_piece 4 1 x0 (by decide) h0]
  have := x0.isLt
  simp only [Nat.reduceMod, Nat.reducePow, Nat.reduceSub]
  omega
theorem num_ap (h0 : bs[0]? = some x0) (h1 : bs[1]? = some x1) : numAt bs 5 11 = (256 * x0.toNat + x1.toNat) % 2048 := by
  rw [show 11 = 3 + 8 from rfl, numAt_add, num_piece 5 3 x0 (by decide) h0, num_piece (5 + 3) 8 x1 (by decide) h1]
  have := x0.isLt
  have := x1.isLt
  simp only [Nat.reduceMod, Nat.reducePow, Nat.reduceSub, Nat.reduceAdd]
  omega
theorem num_fl (h2 : bs[2]? = some x2) : numAt bs 16 2 = (256 * x2.toNat + x3.toNat) / 16384 := by
  rw [num_piece 16 2 x2 (by decide) h2]
  have := x2.isLt
  have := x3.isLt
  simp only [Nat.reduceMod, Nat.reducePow, Nat.reduceSub]
  omega
theorem num_ct (h2 : bs[2]? = some x2) (h3 : bs[3]? = some x3) : numAt bs 18 14 = (256 * x2.toNat + x3.toNat) % 16384 := by
  rw [show 14 = 6 + 8 from rfl, numAt_add, num_piece 18 6 x2 (by decide) h2, num_piece (18 + 6) 8 x3 (by decide) h3]
  have := x2.isLt
  have := x3.isLt
  simp only [Nat.reduceMod, Nat.reducePow, Nat.reduceSub, Nat.reduceAdd]
  omega
theorem num_len (h4 : bs[4]? = some x4) (h5 : bs[5]? = some x5) : numAt bs 32 16 = 256 * x4.toNat + x5.toNat := by
  rw [show 16 = 8 + 8 from rfl, numAt_add, num_piece 32 8 x4 (by decide) h4, num_piece (32 + 8) 8 x5 (by decide) h5]
  have := x4.isLt
  have := x5.isLt
  simp only [Nat.reduceMod, Nat.reducePow, Nat.reduceSub, Nat.reduceAdd]
  omega
end

/-! ### both ways -/
theorem rd_head {p : Pk} (h : p.Fits) (r : List Byte) : rd (p.head ++ p.d ++ r) = p ∧ tot (p.head ++ p.d ++ r) = 6 + p.d.length ∧ b8 (p.head ++ p.d ++ r) 0 < 32 := by
  obtain ⟨com, sec, ap, fl, ct, d⟩ := p
  obtain ⟨h1, h2, h3, h4, h5, h6, h7, h8⟩ := h
  simp only at h1 h2 h3 h4 h5 h6 h7 h8
  obtain ⟨A, rfl⟩ := Int.eq_ofNat_of_zero_le h1
  obtain ⟨F, rfl⟩ := Int.eq_ofNat_of_zero_le h3
  obtain ⟨T, rfl⟩ := Int.eq_ofNat_of_zero_le h5
  obtain ⟨K, hK⟩ : ∃ K, d.length = K + 1 := ⟨d.length - 1, by omega⟩
  obtain ⟨H, hH⟩ : ∃ H, H = hd1 com sec A := ⟨_, rfl⟩
  obtain ⟨C, hC⟩ : ∃ C, C = hd2 F T := ⟨_, rfl⟩
  have hHl : H < 8192 := by rw [hH]; unfold hd1; cases com <;> cases sec <;> simp <;> omega
  have hCl : C < 65536 := by rw [hC]; unfold hd2; omega
  have e : (Pk.head ⟨com, sec, A, F, T, d⟩ ++ d ++ r) = hdr H C K ++ (d ++ r) := by
    unfold Pk.head
    simp only [Int.toNat_natCast, hK, Nat.add_sub_cancel, List.append_assoc, hH, hC]
  have t0 : b8 (hdr H C K ++ (d ++ r)) 0 = H / 256 := by show (BitVec.ofNat 8 (H / 256)).toNat = _; rw [BitVec.toNat_ofNat]; omega
  have t1 : b8 (hdr H C K ++ (d ++ r)) 1 = H % 256 := by show (BitVec.ofNat 8 (H % 256)).toNat = _; rw [BitVec.toNat_ofNat]; omega
  have t2 : b8 (hdr H C K ++ (d ++ r)) 2 = C / 256 := by show (BitVec.ofNat 8 (C / 256)).toNat = _; rw [BitVec.toNat_ofNat]; omega
  have t3 : b8 (hdr H C K ++ (d ++ r)) 3 = C % 256 := by show (BitVec.ofNat 8 (C % 256)).toNat = _; rw [BitVec.toNat_ofNat]; omega
  have t4 : b8 (hdr H C K ++ (d ++ r)) 4 = K / 256 := by show (BitVec.ofNat 8 (K / 256)).toNat = _; rw [BitVec.toNat_ofNat]; omega
  have t5 : b8 (hdr H C K ++ (d ++ r)) 5 = K % 256 := by show (BitVec.ofNat 8 (K % 256)).toNat = _; rw [BitVec.toNat_ofNat]; omega
  have ht : tot (hdr H C K ++ (d ++ r)) = 7 + K := by unfold tot; rw [t4, t5]; omega
  have hd : ((hdr H C K ++ (d ++ r)).drop 6).take (7 + K - 6) = d := by
    rw [List.drop_left' (hdr_len H C K), show 7 + K - 6 = d.length by omega, List.take_left]
  rw [e]
  refine ⟨?_, by rw [ht, hK]; omega, by rw [t0]; omega⟩
  unfold rd
  rw [ht, hd, t0, t1, t2, t3]
  have q1 : 256 * (H / 256) + H % 256 = H := by omega
  have q2 : 256 * (C / 256) + C % 256 = C := by omega
  rw [q1, q2]
  have q3 : H % 2048 = A := by rw [hH]; unfold hd1; cases com <;> cases sec <;> simp <;> omega
  have q4 : C / 16384 = F := by rw [hC]; unfold hd2; omega
  have q5 : C % 16384 = T := by rw [hC]; unfold hd2; omega
  have q6 : decide (H / 256 / 16 % 2 = 1) = com := by rw [hH]; unfold hd1; cases com <;> cases sec <;> simp <;> omega
  have q7 : decide (H / 256 / 8 % 2 = 1) = sec := by rw [hH]; unfold hd1; cases com <;> cases sec <;> simp <;> omega
  rw [q3, q4, q5, q6, q7]

/-- Decode inverts Encode, whatever follows -/
theorem dec_enc {p : Pk} (h : p.ok = true) (r : List Byte) : deE (p.enc ++ r) = 0 ∧ deP (p.enc ++ r) = p ∧ deN (p.enc ++ r) = p.enc.length := by
  rw [Pk.enc_yes h]
  obtain ⟨h1, h2, h3⟩ := rd_head (Pk.ok_fits h) r
  have hl : (p.head ++ p.d).length = 6 + p.d.length := by rw [List.length_append]; rfl
  have hL : (p.head ++ p.d ++ r).length = 6 + p.d.length + r.length := by rw [List.length_append, hl]
  have hd := (Pk.ok_fits h).2.2.2.2.2.2
  have hs := siE_good (l := p.head ++ p.d ++ r) (by omega) (by omega) (by omega)
  have := de_good hs.1 (by omega) (by rw [h1]; exact h)
  rw [h1, h2] at this
  rw [hl]
  exact this

theorem take_six {l : List Byte} (h : 6 ≤ l.length) : l = BitVec.ofNat 8 (b8 l 0) :: BitVec.ofNat 8 (b8 l 1) :: BitVec.ofNat 8 (b8 l 2) :: BitVec.ofNat 8 (b8 l 3) :: BitVec.ofNat 8 (b8 l 4) :: BitVec.ofNat 8 (b8 l 5) :: l.drop 6 := by
  match l, h with
  | a0 :: a1 :: a2 :: a3 :: a4 :: a5 :: r, _ => simp [b8]
/-- the bytes that Decode consumes are the encoding of the packet that it returns -/
theorem enc_dec {l : List Byte} (h : deE l = 0) : (deP l).ok = true ∧ (deP l).enc = l.take (deN l) ∧ deN l ≤ l.length := by
  obtain ⟨h1, h2, h3⟩ := de_zero h
  obtain ⟨_, e2, e3⟩ := de_good h1 h2 h3
  obtain ⟨s1, s2, s3⟩ := siE_zero h1
  rw [e2, e3]
  refine ⟨h3, ?_, by omega⟩
  rw [Pk.enc_yes h3]
  have b0 := b8_lt l 0
  have b1 := b8_lt l 1
  have b2 := b8_lt l 2
  have b3 := b8_lt l 3
  have b4 := b8_lt l 4
  have b5 := b8_lt l 5
  have hl : (rd l).d.length = tot l - 6 := by
    show ((l.drop 6).take (tot l - 6)).length = _
    rw [List.length_take, List.length_drop]; omega
  have hh : (rd l).head = hdr (256 * b8 l 0 + b8 l 1) (256 * b8 l 2 + b8 l 3) (256 * b8 l 4 + b8 l 5) := by
    unfold Pk.head
    rw [hl]
    have q1 : hd1 (rd l).com (rd l).sec (rd l).ap.toNat = 256 * b8 l 0 + b8 l 1 := by
      unfold hd1
      show (if decide (b8 l 0 / 16 % 2 = 1) = true then 4096 else 0) + (if decide (b8 l 0 / 8 % 2 = 1) = true then 2048 else 0) + (256 * b8 l 0 + b8 l 1) % 2048 = _
      simp only [decide_eq_true_eq]
      split <;> split <;> omega
    have q2 : hd2 (rd l).fl.toNat (rd l).ct.toNat = 256 * b8 l 2 + b8 l 3 := by
      unfold hd2
      show (256 * b8 l 2 + b8 l 3) / 16384 * 16384 + (256 * b8 l 2 + b8 l 3) % 16384 = _
      omega
    have q3 : tot l - 6 - 1 = 256 * b8 l 4 + b8 l 5 := by unfold tot; omega
    rw [q1, q2, q3]
  have e : l.take (tot l) = l.take 6 ++ (l.drop 6).take (tot l - 6) := by
    rw [← List.take_add]
    congr 1
    unfold tot; omega
  rw [e, hh]
  have f : hdr (256 * b8 l 0 + b8 l 1) (256 * b8 l 2 + b8 l 3) (256 * b8 l 4 + b8 l 5) = l.take 6 := by
    have g := take_six (l := l) (by omega)
    unfold hdr
    rw [show (256 * b8 l 0 + b8 l 1) / 256 = b8 l 0 by omega, show (256 * b8 l 0 + b8 l 1) % 256 = b8 l 1 by omega, show (256 * b8 l 2 + b8 l 3) / 256 = b8 l 2 by omega, show (256 * b8 l 2 + b8 l 3) % 256 = b8 l 3 by omega,
      show (256 * b8 l 4 + b8 l 5) / 256 = b8 l 4 by omega, show (256 * b8 l 4 + b8 l 5) % 256 = b8 l 5 by omega]
    conv => rhs; rw [g]
    rfl
  rw [f]
  rfl
end Go.Proofs.Ytdpjjhbfhlmolaa.Pac

/-
  Plain mathematics of the two checksums, no Go in sight: one register step, one byte, a byte string, and what the reference does bit by bit; and that both agree.
-/
namespace Go.Proofs.Ytdpjjhbfhlmolaa

/-- f applied n times. -/
def iter {α : Type} (f : α → α) : Nat → α → α
  | 0, x => x
  | n + 1, x => f (iter f n x)

theorem iter_add {α : Type} (f : α → α) (m n : Nat) (x : α) : iter f (m + n) x = iter f m (iter f n x) := by
  induction m with
  | zero => simp [iter]
  | succ m ih => rw [Nat.succ_add]; simp only [iter]; rw [ih]

theorem iter_succ {α : Type} (f : α → α) (n : Nat) (x : α) : iter f (n + 1) x = iter f n (f x) := iter_add f n 1 x

/-! ### one step of the register -/
def sh16 (r : BitVec 16) : BitVec 16 := if r.getLsbD 15 then (r <<< 1) ^^^ 0x1021#16 else r <<< 1
def sh32 (r : BitVec 32) : BitVec 32 := if r.getLsbD 0 then (r >>> 1) ^^^ 0x82f63b78#32 else r >>> 1

theorem sh16_xor (a b : BitVec 16) : sh16 (a ^^^ b) = sh16 a ^^^ sh16 b := by
  unfold sh16
  rw [BitVec.getLsbD_xor, BitVec.shiftLeft_xor_distrib]
  cases a.getLsbD 15 <;> cases b.getLsbD 15 <;> simp [BitVec.xor_assoc]
  · rw [BitVec.xor_comm (b <<< 1)]
  · rw [BitVec.xor_comm (b <<< 1), ← BitVec.xor_assoc]
    simp

theorem sh32_xor (a b : BitVec 32) : sh32 (a ^^^ b) = sh32 a ^^^ sh32 b := by
  unfold sh32
  rw [BitVec.getLsbD_xor, BitVec.ushiftRight_xor_distrib]
  cases a.getLsbD 0 <;> cases b.getLsbD 0 <;> simp [BitVec.xor_assoc]
  · rw [BitVec.xor_comm (b >>> 1)]
  · rw [BitVec.xor_comm (b >>> 1), ← BitVec.xor_assoc]
    simp

theorem iter16_xor (n : Nat) (a b : BitVec 16) : iter sh16 n (a ^^^ b) = iter sh16 n a ^^^ iter sh16 n b := by
  induction n with
  | zero => rfl
  | succ n ih => simp only [iter, ih, sh16_xor]
theorem iter32_xor (n : Nat) (a b : BitVec 32) : iter sh32 n (a ^^^ b) = iter sh32 n a ^^^ iter sh32 n b := by
  induction n with
  | zero => rfl
  | succ n ih => simp only [iter, ih, sh32_xor]

/-! ### a byte, a byte string -/
def by16 (r : BitVec 16) (x : Byte) : BitVec 16 := iter sh16 8 (r ^^^ (x.setWidth 16 <<< 8))
def by32 (r : BitVec 32) (x : Byte) : BitVec 32 := iter sh32 8 (r ^^^ x.setWidth 32)
def up16 (r : BitVec 16) (l : List Byte) : BitVec 16 := l.foldl by16 r
def raw32 (r : BitVec 32) (l : List Byte) : BitVec 32 := l.foldl by32 r
def up32 (c : BitVec 32) (l : List Byte) : BitVec 32 := ~~~ raw32 (~~~ c) l

theorem up16_append (r : BitVec 16) (a b : List Byte) : up16 r (a ++ b) = up16 (up16 r a) b := List.foldl_append
theorem raw32_append (r : BitVec 32) (a b : List Byte) : raw32 r (a ++ b) = raw32 (raw32 r a) b := List.foldl_append
theorem up32_append (r : BitVec 32) (a b : List Byte) : up32 r (a ++ b) = up32 (up32 r a) b := by
  unfold up32; rw [raw32_append, BitVec.not_not]

theorem up16_take (r : BitVec 16) (l : List Byte) (k : Nat) (h : k < l.length) : up16 r (l.take (k + 1)) = by16 (up16 r (l.take k)) l[k] := by
  rw [List.take_succ_eq_append_getElem h, up16_append]; rfl
theorem raw32_take (r : BitVec 32) (l : List Byte) (k : Nat) (h : k < l.length) : raw32 r (l.take (k + 1)) = by32 (raw32 r (l.take k)) l[k] := by
  rw [List.take_succ_eq_append_getElem h, raw32_append]; rfl

/-! ### a string with its checksum -/
def crcb (r : BitVec 16) : List Byte := [(r >>> 8).setWidth 8, r.setWidth 8]
def ap16 (l : List Byte) : List Byte := l ++ crcb (up16 0xffff#16 l)
def ck16 (l : List Byte) : Bool := decide (2 ≤ l.length ∧ ap16 (l.take (l.length - 2)) = l)

/-! ### bit by bit, as the chapter says it -/
def fd16 (r : BitVec 16) (b : Bool) : BitVec 16 := if r.getLsbD 15 != b then (r <<< 1) ^^^ 0x1021#16 else r <<< 1
def fd32 (r : BitVec 32) (b : Bool) : BitVec 32 := if r.getLsbD 0 != b then (r >>> 1) ^^^ 0x82f63b78#32 else r >>> 1

theorem fd16_eq (r : BitVec 16) (b : Bool) : fd16 r b = sh16 (r ^^^ (if b then 0x8000#16 else 0#16)) := by
  unfold fd16 sh16
  rw [BitVec.getLsbD_xor, BitVec.shiftLeft_xor_distrib]
  cases b <;> cases r.getLsbD 15 <;> simp
theorem fd32_eq (r : BitVec 32) (b : Bool) : fd32 r b = sh32 (r ^^^ (if b then 1#32 else 0#32)) := by
  unfold fd32 sh32
  rw [BitVec.getLsbD_xor, BitVec.ushiftRight_xor_distrib]
  cases b <;> cases r.getLsbD 0 <;> simp

/-- the register behind the first k bits of a byte, most significant first (16) or least significant first (32) -/
def fb16 (r : BitVec 16) (x : Byte) : Nat → BitVec 16
  | 0 => r
  | k + 1 => fd16 (fb16 r x k) (x.getLsbD (7 - k))
def fb32 (r : BitVec 32) (x : Byte) : Nat → BitVec 32
  | 0 => r
  | k + 1 => fd32 (fb32 r x k) (x.getLsbD k)

theorem fb16_xor (r : BitVec 16) (x : Byte) (k : Nat) : fb16 r x k = iter sh16 k r ^^^ fb16 0 x k := by
  induction k with
  | zero => simp [fb16, iter]
  | succ k ih =>
    simp only [fb16, iter]
    rw [ih, fd16_eq, fd16_eq, sh16_xor, sh16_xor, sh16_xor, BitVec.xor_assoc]
theorem fb32_xor (r : BitVec 32) (x : Byte) (k : Nat) : fb32 r x k = iter sh32 k r ^^^ fb32 0 x k := by
  induction k with
  | zero => simp [fb32, iter]
  | succ k ih =>
    simp only [fb32, iter]
    rw [ih, fd32_eq, fd32_eq, sh32_xor, sh32_xor, sh32_xor, BitVec.xor_assoc]

theorem fb16_zero : ∀ x : Byte, fb16 0 x 8 = iter sh16 8 (x.setWidth 16 <<< 8) := by decide +kernel
theorem fb32_zero : ∀ x : Byte, fb32 0 x 8 = iter sh32 8 (x.setWidth 32) := by decide +kernel

theorem fb16_all (r : BitVec 16) (x : Byte) : fb16 r x 8 = by16 r x := by rw [fb16_xor, fb16_zero, by16, iter16_xor]
theorem fb32_all (r : BitVec 32) (x : Byte) : fb32 r x 8 = by32 r x := by rw [fb32_xor, fb32_zero, by32, iter32_xor]

/-- the register behind the first k bits of a byte string -/
def fbs16 (r : BitVec 16) (l : List Byte) : Nat → BitVec 16
  | 0 => r
  | k + 1 => fd16 (fbs16 r l k) ((l[k / 8]?.getD 0#8).getLsbD (7 - k % 8))

theorem fbs16_byte (r : BitVec 16) (l : List Byte) (m : Nat) (hm : m < l.length) (h : fbs16 r l (8 * m) = up16 r (l.take m)) (j : Nat) (hj : j ≤ 8) :
    fbs16 r l (8 * m + j) = fb16 (up16 r (l.take m)) l[m] j := by
  induction j with
  | zero => exact h
  | succ j ih =>
    show fd16 (fbs16 r l (8 * m + j)) ((l[(8 * m + j) / 8]?.getD 0#8).getLsbD (7 - (8 * m + j) % 8)) = _
    rw [ih (by omega), show (8 * m + j) / 8 = m by omega, show (8 * m + j) % 8 = j by omega, List.getElem?_eq_getElem hm]
    rfl
theorem fbs16_all (r : BitVec 16) (l : List Byte) (m : Nat) (hm : m ≤ l.length) : fbs16 r l (8 * m) = up16 r (l.take m) := by
  induction m with
  | zero => rfl
  | succ m ih => rw [Nat.mul_succ, fbs16_byte r l m (by omega) (ih (by omega)) 8 (by omega), fb16_all, up16_take r l m (by omega)]

/-! ### linear -/
theorem by16_xor (a b : BitVec 16) (x y : Byte) : by16 (a ^^^ b) (x ^^^ y) = by16 a x ^^^ by16 b y := by
  unfold by16
  rw [BitVec.setWidth_xor, BitVec.shiftLeft_xor_distrib, ← iter16_xor]
  congr 1
  rw [BitVec.xor_assoc, ← BitVec.xor_assoc b, BitVec.xor_comm b, BitVec.xor_assoc, ← BitVec.xor_assoc a]
theorem by32_xor (a b : BitVec 32) (x y : Byte) : by32 (a ^^^ b) (x ^^^ y) = by32 a x ^^^ by32 b y := by
  unfold by32
  rw [BitVec.setWidth_xor, ← iter32_xor]
  congr 1
  rw [BitVec.xor_assoc, ← BitVec.xor_assoc b, BitVec.xor_comm b, BitVec.xor_assoc, ← BitVec.xor_assoc a]

def xors (a b : List Byte) : List Byte := List.zipWith (· ^^^ ·) a b

theorem up16_xor (l m : List Byte) (h : l.length = m.length) (a b : BitVec 16) : up16 (a ^^^ b) (xors l m) = up16 a l ^^^ up16 b m := by
  induction l generalizing m a b with
  | nil => cases m with
    | nil => rfl
    | cons => simp at h
  | cons x l ih => cases m with
    | nil => simp at h
    | cons y m =>
      show up16 (by16 (a ^^^ b) (x ^^^ y)) (xors l m) = up16 (by16 a x) l ^^^ up16 (by16 b y) m
      rw [by16_xor, ih m (by simpa using h)]
theorem raw32_xor (l m : List Byte) (h : l.length = m.length) (a b : BitVec 32) : raw32 (a ^^^ b) (xors l m) = raw32 a l ^^^ raw32 b m := by
  induction l generalizing m a b with
  | nil => cases m with
    | nil => rfl
    | cons => simp at h
  | cons x l ih => cases m with
    | nil => simp at h
    | cons y m =>
      show raw32 (by32 (a ^^^ b) (x ^^^ y)) (xors l m) = raw32 (by32 a x) l ^^^ raw32 (by32 b y) m
      rw [by32_xor, ih m (by simpa using h)]

end Go.Proofs.Ytdpjjhbfhlmolaa

/-
  Plain mathematics: a string that bears its checksum leaves the register 0; errors within 16 consecutive bits leave it other than 0.
-/
namespace Go.Proofs.Ytdpjjhbfhlmolaa

theorem sh16_zero (a : BitVec 16) (h : sh16 a = 0#16) : a = 0#16 := by
  unfold sh16 at h
  split at h
  · have e : ((a <<< 1) ^^^ 0x1021#16).getLsbD 0 = (0#16).getLsbD 0 := by rw [h]
    simp at e
  · rename_i h15
    have e : (a <<< 1).toNat = 0 := by rw [h]; rfl
    rw [BitVec.toNat_shiftLeft, Nat.shiftLeft_eq] at e
    have hm : a.msb = false := by
      rw [BitVec.msb_eq_getLsbD_last]; simpa using h15
    have hl := (BitVec.msb_eq_false_iff_two_mul_lt).1 hm
    exact BitVec.eq_of_toNat_eq (by simp; omega)

theorem iter16_zero (n : Nat) (a : BitVec 16) (h : iter sh16 n a = 0#16) : a = 0#16 := by
  induction n with
  | zero => exact h
  | succ n ih => exact ih (sh16_zero _ h)
theorem iter16_of_zero (n : Nat) : iter sh16 n 0#16 = 0#16 := by
  induction n with
  | zero => rfl
  | succ n ih => simp only [iter, ih]; rfl

theorem xor_eq_zero {n : Nat} {a b : BitVec n} (h : a ^^^ b = 0#n) : a = b := by
  have : a ^^^ b ^^^ b = 0#n ^^^ b := by rw [h]
  simpa [BitVec.xor_assoc] using this

/-! ### the register behind a string and its checksum -/
theorem low_shift : ∀ y : Byte, iter sh16 8 (y.setWidth 16) = y.setWidth 16 <<< 8 := by decide +kernel
theorem up16_two (r : BitVec 16) (x y : Byte) : up16 r [x, y] = iter sh16 16 (r ^^^ (x.setWidth 16 <<< 8) ^^^ y.setWidth 16) := by
  show by16 (by16 r x) y = _
  unfold by16
  rw [← low_shift y, ← iter16_xor, ← iter_add]

theorem crcb_join (r : BitVec 16) : ((r >>> 8).setWidth 8 : Byte).setWidth 16 <<< 8 ^^^ (r.setWidth 8 : Byte).setWidth 16 = r := by
  ext i hi
  simp
  by_cases h : i < 8
  · simp [h, BitVec.getLsbD_eq_getElem hi]
  · simp [h]
    have : 8 + (i - 8) = i := by omega
    simp [this]
    rw [decide_eq_true (by omega), Bool.true_and, BitVec.getLsbD_eq_getElem hi]
theorem up16_crcb (r : BitVec 16) : up16 r (crcb r) = 0#16 := by
  unfold crcb
  rw [up16_two, BitVec.xor_assoc, crcb_join, BitVec.xor_self, iter16_of_zero]
theorem crcb_of_zero (r : BitVec 16) (x y : Byte) (h : up16 r [x, y] = 0#16) : crcb r = [x, y] := by
  rw [up16_two, BitVec.xor_assoc] at h
  have e := xor_eq_zero (iter16_zero _ _ h)
  unfold crcb
  have e1 : (r >>> 8).setWidth 8 = x := by
    rw [e]; ext i hi; simp; rw [decide_eq_true (by omega), decide_eq_false (by omega), decide_eq_true (by omega)]; simp [BitVec.getLsbD_eq_getElem hi]
  have e2 : r.setWidth 8 = y := by
    rw [e]; ext i hi; simp
  rw [e1, e2]

theorem up16_ap (l : List Byte) : up16 0xffff#16 (ap16 l) = 0#16 := by
  unfold ap16; rw [up16_append, up16_crcb]

theorem zero_of_ck (l : List Byte) (h : ck16 l = true) : up16 0xffff#16 l = 0#16 := by
  unfold ck16 at h
  obtain ⟨_, h2⟩ := of_decide_eq_true h
  rw [← h2, up16_ap]


theorem ck_of_zero (l : List Byte) (h2 : 2 ≤ l.length) (h : up16 0xffff#16 l = 0#16) : ck16 l = true := by
  unfold ck16
  rw [decide_eq_true_iff]
  refine ⟨h2, ?_⟩
  obtain ⟨m, x, y, hs⟩ : ∃ m x y, l = m ++ [x, y] := by
    refine ⟨l.take (l.length - 2), l[l.length - 2], l[l.length - 1], ?_⟩
    have h1 := List.take_append_drop (l.length - 2) l
    have e : l.drop (l.length - 2) = [l[l.length - 2], l[l.length - 1]] := by
      rw [List.drop_eq_getElem_cons (by omega), List.drop_eq_getElem_cons (by omega), List.drop_of_length_le (by omega)]
      congr 2
      congr 1
      omega
    rw [e] at h1
    exact h1.symm
  subst hs
  rw [up16_append] at h
  rw [List.length_append, show m.length + [x, y].length - 2 = m.length by simp, List.take_left]
  unfold ap16
  rw [crcb_of_zero _ _ _ h]

/-! ### a register that is fed bits -/
def run (g : Nat → Bool) (r : BitVec 16) : Nat → BitVec 16
  | 0 => r
  | k + 1 => fd16 (run g r k) (g k)

theorem fd16_zero_false : fd16 0#16 false = 0#16 := by decide
theorem fd16_false (r : BitVec 16) : fd16 r false = sh16 r := by rw [fd16_eq]; simp

theorem run_still (g : Nat → Bool) (k : Nat) (h : ∀ t, t < k → g t = false) : run g 0#16 k = 0#16 := by
  induction k with
  | zero => rfl
  | succ k ih => simp only [run]; rw [ih (fun t ht => h t (by omega)), h k (by omega), fd16_zero_false]
theorem run_add (g : Nat → Bool) (r : BitVec 16) (i j : Nat) : run g r (i + j) = run (fun t => g (i + t)) (run g r i) j := by
  induction j with
  | zero => rfl
  | succ j ih => show fd16 (run g r (i + j)) (g (i + j)) = _; rw [ih]; rfl
theorem run_quiet (g : Nat → Bool) (r : BitVec 16) (k : Nat) (h : ∀ t, t < k → g t = false) : run g r k = iter sh16 k r := by
  induction k with
  | zero => rfl
  | succ k ih => simp only [run, iter]; rw [ih (fun t ht => h t (by omega)), h k (by omega), fd16_false]

/-- the first j bits, packed from the top -/
def pack (g : Nat → Bool) : Nat → BitVec 16
  | 0 => 0#16
  | j + 1 => pack g j ^^^ (if g j then 0x8000#16 >>> j else 0#16)

theorem top_down : ∀ j : Fin 16, iter sh16 j.val (0x8000#16 >>> j.val) = 0x8000#16 := by decide +kernel
theorem run_pack (g : Nat → Bool) (j : Nat) (hj : j ≤ 16) : run g 0#16 j = iter sh16 j (pack g j) := by
  induction j with
  | zero => rfl
  | succ j ih =>
    simp only [run, pack, iter]
    rw [ih (by omega), fd16_eq, iter16_xor]
    congr 2
    cases g j
    · simp [iter16_of_zero]
    · exact (top_down ⟨j, by omega⟩).symm
theorem bit_down : ∀ j t : Fin 16, (0x8000#16 >>> j.val).getLsbD (15 - t.val) = decide (j = t) := by decide +kernel
theorem pack_bit (g : Nat → Bool) (j : Nat) (hj : j ≤ 16) (t : Nat) (ht : t < 16) : (pack g j).getLsbD (15 - t) = (decide (t < j) && g t) := by
  induction j with
  | zero => simp [pack]
  | succ j ih =>
    simp only [pack]
    rw [BitVec.getLsbD_xor, ih (by omega)]
    have hb := bit_down ⟨j, by omega⟩ ⟨t, ht⟩
    by_cases h : j = t
    · subst h
      cases hg : g j <;> simp at hb <;> simp [hb]
    · have h' : ¬ (⟨j, by omega⟩ : Fin 16) = ⟨t, ht⟩ := fun e => h (by simpa using e)
      rw [decide_eq_false h'] at hb
      have e1 : decide (t < j + 1) = decide (t < j) := by rw [decide_eq_decide]; omega
      rw [e1]
      cases g j <;> simp [hb]
theorem pack_zero (g : Nat → Bool) (j : Nat) (hj : j ≤ 16) (h : pack g j = 0#16) (t : Nat) (ht : t < j) : g t = false := by
  have := pack_bit g j hj t (by omega)
  rw [h] at this
  simpa [ht] using this.symm

/-- bits that lie within 16 places and leave no trace are none -/
theorem burst (g : Nat → Bool) (i n : Nat) (h1 : ∀ k, k < i → g k = false) (h2 : ∀ k, i + 16 ≤ k → g k = false) (h : run g 0#16 n = 0#16) (k : Nat) (hk : k < n) : g k = false := by
  by_cases hki : k < i
  · exact h1 k hki
  by_cases hk2 : i + 16 ≤ k
  · exact h2 k hk2
  have hi : run g 0#16 i = 0#16 := run_still g i h1
  by_cases hn : n ≤ i + 16
  · obtain ⟨j, rfl⟩ : ∃ j, n = i + j := ⟨n - i, by omega⟩
    rw [run_add, hi, run_pack _ j (by omega)] at h
    have := pack_zero _ j (by omega) (iter16_zero _ _ h) (k - i) (by omega)
    rwa [show i + (k - i) = k by omega] at this
  · obtain ⟨m, rfl⟩ : ∃ m, n = i + 16 + m := ⟨n - (i + 16), by omega⟩
    rw [run_add, run_quiet _ _ m (fun t _ => h2 _ (by omega)), run_add, hi, run_pack _ 16 (by omega)] at h
    have := pack_zero _ 16 (by omega) (iter16_zero _ _ (iter16_zero _ _ h)) (k - i) (by omega)
    rwa [show i + (k - i) = k by omega] at this

/-! ### byte strings -/
def bitC (l : List Byte) (k : Nat) : Bool := (l[k / 8]?.getD 0#8).getLsbD (7 - k % 8)

theorem fbs16_run (r : BitVec 16) (l : List Byte) (k : Nat) : fbs16 r l k = run (bitC l) r k := by
  induction k with
  | zero => rfl
  | succ k ih => simp only [fbs16, run]; rw [ih]; rfl
theorem up16_run (r : BitVec 16) (l : List Byte) : up16 r l = run (bitC l) r (8 * l.length) := by
  rw [← fbs16_run, fbs16_all r l _ (Nat.le_refl _), List.take_length]

theorem bitC_xors (l m : List Byte) (h : l.length = m.length) (k : Nat) : bitC (xors l m) k = (bitC l k != bitC m k) := by
  unfold bitC xors
  rw [List.getElem?_zipWith]
  by_cases hk : k / 8 < l.length
  · rw [List.getElem?_eq_getElem hk, List.getElem?_eq_getElem (by omega)]
    simp
  · rw [List.getElem?_eq_none (by omega), List.getElem?_eq_none (by omega)]
    simp
theorem bitC_out (l : List Byte) (k : Nat) (h : 8 * l.length ≤ k) : bitC l k = false := by
  unfold bitC
  rw [List.getElem?_eq_none (by omega)]
  simp
theorem bitC_ext (l m : List Byte) (h : l.length = m.length) (hb : ∀ k, k < 8 * l.length → bitC l k = bitC m k) : l = m := by
  refine List.ext_getElem h (fun q h1 h2 => ?_)
  ext t ht
  have := hb (8 * q + (7 - t)) (by omega)
  unfold bitC at this
  rw [show (8 * q + (7 - t)) / 8 = q by omega, show 7 - (8 * q + (7 - t)) % 8 = t by omega, List.getElem?_eq_getElem h1, List.getElem?_eq_getElem h2] at this
  simpa [BitVec.getLsbD_eq_getElem ht] using this

/-- x is s but for bits among the 16 from i on -/
def Near (s x : List Byte) (i k : Nat) : Prop := x.length = s.length ∧ ∀ p, p < i ∨ i + k ≤ p → bitC x p = bitC s p

theorem near_ck (l x : List Byte) (i : Nat) (h : Near (ap16 l) x i 16) (hc : ck16 x = true) : x = ap16 l := by
  obtain ⟨hl, hb⟩ := h
  have z1 := zero_of_ck x hc
  have z2 := up16_ap l
  have z3 := up16_xor x (ap16 l) hl 0xffff#16 0xffff#16
  rw [z1, z2, BitVec.xor_self, BitVec.xor_self, up16_run] at z3
  have hlen : (xors x (ap16 l)).length = x.length := by simp [xors, hl]
  refine bitC_ext x (ap16 l) hl (fun k hk => ?_)
  have hz := burst (bitC (xors x (ap16 l))) i (8 * (xors x (ap16 l)).length)
    (fun k hk => by rw [bitC_xors _ _ hl, hb k (.inl hk)]; simp) (fun k hk => by rw [bitC_xors _ _ hl, hb k (.inr hk)]; simp) z3 k (by omega)
  rw [bitC_xors _ _ hl] at hz
  simpa using hz

end Go.Proofs.Ytdpjjhbfhlmolaa

/-
  Plain mathematics of telecommand frames, no Go in sight: when a frame is valid, its header's five bytes, what a header states; both ways fit; errors within 16 bits are detected; directives.
-/
namespace Go.Proofs.Ytdpjjhbfhlmolaa.Tcf
open Go.Proofs.Ytdpjjhbfhlmolaa.Pac

/-- a telecommand frame -/
structure Fr where
  byp : Bool
  con : Bool
  cr : Int
  ch : Int
  sq : Int
  d : List Byte
deriving DecidableEq

/-- numbers and length in range -/
def Fr.Fits (f : Fr) : Prop := 0 ≤ f.cr ∧ f.cr ≤ 1023 ∧ 0 ≤ f.ch ∧ f.ch ≤ 7 ∧ 0 ≤ f.sq ∧ f.sq ≤ 255 ∧ 1 ≤ f.d.length ∧ f.d.length ≤ 1017
instance (f : Fr) : Decidable f.Fits := by unfold Fr.Fits; infer_instance
def Fr.ok (f : Fr) : Bool := decide f.Fits && (f.byp || !f.con)
theorem Fr.ok_no {f : Fr} (h : ¬ f.Fits) : f.ok = false := by unfold Fr.ok; rw [decide_eq_false h]; rfl
theorem Fr.ok_yes {f : Fr} (h : f.Fits) : f.ok = (f.byp || !f.con) := by unfold Fr.ok; rw [decide_eq_true h]; rfl
theorem Fr.ok_fits {f : Fr} (h : f.ok = true) : f.Fits := by
  unfold Fr.ok at h
  simp only [Bool.and_eq_true, decide_eq_true_eq] at h
  exact h.1

/-- the first two bytes' number, the second two's -/
def hd (byp con : Bool) (C : Nat) : Nat := (if byp then 8192 else 0) + (if con then 4096 else 0) + C
def sd (H K : Nat) : Nat := H * 1024 + K
theorem hd_lt (byp con : Bool) (C : Nat) (hC : C < 1024) : hd byp con C < 16384 := by unfold hd; cases byp <;> cases con <;> simp <;> omega
/-- a header of three numbers -/
def hdr5 (H S Q : Nat) : List Byte := [BitVec.ofNat 8 (H / 256), BitVec.ofNat 8 (H % 256), BitVec.ofNat 8 (S / 256), BitVec.ofNat 8 (S % 256), BitVec.ofNat 8 Q]
theorem hdr5_len (H S Q : Nat) : (hdr5 H S Q).length = 5 := rfl
def Fr.head (f : Fr) : List Byte := hdr5 (hd f.byp f.con f.cr.toNat) (sd f.ch.toNat (f.d.length + 6)) f.sq.toNat
theorem Fr.head_len (f : Fr) : f.head.length = 5 := rfl
/-- what Encode hands back -/
def Fr.enc (f : Fr) : List Byte := if f.ok then ap16 (f.head ++ f.d) else []
def Fr.err (f : Fr) : Int := if f.ok then 0 else 1
theorem Fr.enc_yes {f : Fr} (h : f.ok = true) : f.enc = ap16 (f.head ++ f.d) := by unfold Fr.enc; rw [if_pos h]
theorem Fr.enc_no {f : Fr} (h : f.ok = false) : f.enc = [] := by unfold Fr.enc; rw [h]; rfl
theorem Fr.err_yes {f : Fr} (h : f.ok = true) : f.err = 0 := by unfold Fr.err; rw [if_pos h]
theorem Fr.err_no {f : Fr} (h : f.ok = false) : f.err = 1 := by unfold Fr.err; rw [h]; rfl

theorem ap16_len (l : List Byte) : (ap16 l).length = l.length + 2 := by unfold ap16; rw [List.length_append]; rfl
theorem ap16_take (l : List Byte) : (ap16 l).take l.length = l := by unfold ap16; rw [List.take_left]
theorem ck16_ap (l : List Byte) : ck16 (ap16 l) = true := by
  unfold ck16
  rw [decide_eq_true_iff, ap16_len]
  refine ⟨by omega, ?_⟩
  rw [show l.length + 2 - 2 = l.length by omega, ap16_take]
theorem Fr.enc_len {f : Fr} (h : f.ok = true) : f.enc.length = f.d.length + 7 := by
  rw [Fr.enc_yes h, ap16_len, List.length_append, Fr.head_len]
  omega

/-! ### the Writer's bits are the header -/
theorem packs_hdr5 (H S Q : Nat) (hH : H < 65536) (hS : S < 65536) : Packs (hdr5 H S Q) (bitsOf H 16 ++ bitsOf S 16 ++ bitsOf Q 8) :=
  Packs.both (Packs.both (packs_word H hH) (packs_word S hS) (by simp [bitsOf_len])) (packs_byte Q) (by simp [bitsOf_len])
/-- what the Writer has been given -/
theorem header_bits (byp con : Bool) (C H K Q : Nat) (hC : C < 1024) (hK : K < 1024) :
    [] ++ bitsOf 0 2 ++ bitsOf (nb byp) 1 ++ bitsOf (nb con) 1 ++ bitsOf 0 2 ++ bitsOf C 10 ++ bitsOf H 6 ++ bitsOf K 10 ++ bitsOf Q 8 = bitsOf (hd byp con C) 16 ++ bitsOf (sd H K) 16 ++ bitsOf Q 8 := by
  rw [List.nil_append, bitsOf_join _ _ _ _ (nb_lt byp), bitsOf_join _ _ _ _ (nb_lt con), bitsOf_join _ _ _ _ (show 0 < 2 ^ 2 by omega), bitsOf_join _ _ _ _ (show C < 2 ^ 10 by omega), List.append_assoc (bitsOf _ _) (bitsOf H 6), bitsOf_join _ _ _ _ (show K < 2 ^ 10 by omega)]
  have e : (((0 * 2 ^ 1 + nb byp) * 2 ^ 1 + nb con) * 2 ^ 2 + 0) * 2 ^ 10 + C = hd byp con C := by cases byp <;> cases con <;> simp [nb, hd]
  rw [e]
  rfl
theorem head_of {bs : List Byte} (byp con : Bool) (C H K Q : Nat) (hC : C < 1024) (hH : H < 8) (hK : K < 1024)
    (h : Packs bs ([] ++ bitsOf 0 2 ++ bitsOf (nb byp) 1 ++ bitsOf (nb con) 1 ++ bitsOf 0 2 ++ bitsOf C 10 ++ bitsOf H 6 ++ bitsOf K 10 ++ bitsOf Q 8)) : bs = hdr5 (hd byp con C) (sd H K) Q := by
  rw [header_bits byp con C H K Q hC hK] at h
  have h1 := hd_lt byp con C hC
  have h2 : sd H K < 65536 := by unfold sd; omega
  exact Packs.unique h (packs_hdr5 _ _ _ (by omega) h2)

/-! ### what a header states -/
def fst2 (l : List Byte) : Nat := 256 * b8 l 0 + b8 l 1
def snd2 (l : List Byte) : Nat := 256 * b8 l 2 + b8 l 3
/-- the frame that the bytes state -/
def rd (l : List Byte) : Fr :=
  ⟨decide (b8 l 0 / 32 % 2 = 1), decide (b8 l 0 / 16 % 2 = 1), ((fst2 l % 1024 : Nat) : Int), ((snd2 l / 1024 : Nat) : Int), ((b8 l 4 : Nat) : Int), (l.drop 5).take (l.length - 7)⟩
def noFr : Fr := ⟨false, false, 0, 0, 0, []⟩
/-- version and spare are zero -/
def zr (l : List Byte) : Bool := decide (b8 l 0 / 64 = 0) && decide (b8 l 0 / 4 % 4 = 0)
def sz (l : List Byte) : Nat := snd2 l % 1024 + 1
def gd (l : List Byte) : Bool := zr l && decide (sz l = l.length) && (rd l).ok
def deE (l : List Byte) : Int := if l.length < 8 then 3 else if 1024 < l.length then 6 else if ck16 l then (if gd l then 0 else 4) else 5
def deP (l : List Byte) : Fr := if deE l = 0 then rd l else noFr
theorem de_short {l : List Byte} (h : l.length < 8) : deE l = 3 ∧ deP l = noFr := by
  have e : deE l = 3 := by unfold deE; rw [if_pos h]
  exact ⟨e, by unfold deP; rw [e]; rfl⟩
theorem de_long {l : List Byte} (h : 1024 < l.length) : deE l = 6 ∧ deP l = noFr := by
  have e : deE l = 6 := by unfold deE; rw [if_neg (by omega), if_pos h]
  exact ⟨e, by unfold deP; rw [e]; rfl⟩
theorem de_sum {l : List Byte} (h : 8 ≤ l.length) (h2 : l.length ≤ 1024) (h3 : ck16 l = false) : deE l = 5 ∧ deP l = noFr := by
  have e : deE l = 5 := by unfold deE; rw [if_neg (by omega), if_neg (by omega), h3]; rfl
  exact ⟨e, by unfold deP; rw [e]; rfl⟩
theorem de_form {l : List Byte} (h : 8 ≤ l.length) (h2 : l.length ≤ 1024) (h3 : ck16 l = true) (h4 : gd l = false) : deE l = 4 ∧ deP l = noFr := by
  have e : deE l = 4 := by unfold deE; rw [if_neg (by omega), if_neg (by omega), h3, h4]; rfl
  exact ⟨e, by unfold deP; rw [e]; rfl⟩
theorem de_good {l : List Byte} (h : 8 ≤ l.length) (h2 : l.length ≤ 1024) (h3 : ck16 l = true) (h4 : gd l = true) : deE l = 0 ∧ deP l = rd l := by
  have e : deE l = 0 := by unfold deE; rw [if_neg (by omega), if_neg (by omega), h3, h4]; rfl
  exact ⟨e, by unfold deP; rw [if_pos e]⟩
theorem de_zero {l : List Byte} (h : deE l = 0) : 8 ≤ l.length ∧ l.length ≤ 1024 ∧ ck16 l = true ∧ gd l = true := by
  by_cases a : l.length < 8
  · rw [(de_short a).1] at h; cases h
  by_cases b : 1024 < l.length
  · rw [(de_long b).1] at h; cases h
  cases c : ck16 l with
  | false => rw [(de_sum (by omega) (by omega) c).1] at h; cases h
  | true =>
    cases e : gd l with
    | false => rw [(de_form (by omega) (by omega) c e).1] at h; cases h
    | true => exact ⟨by omega, by omega, rfl, rfl⟩

/-! ### the Reader's numbers -/
section
variable {bs : List Byte} {x0 x1 x2 x3 x4 : Byte}
theorem n_ver (h0 : bs[0]? = some x0) : numAt bs 0 2 = x0.toNat / 64 := by
  rw [num_piece 0 2 x0 (by decide) h0]
  have := x0.isLt
  simp only [Nat.reduceMod, Nat.reducePow, Nat.reduceSub]
  omega
theorem n_byp (h0 : bs[0]? = some x0) : numAt bs 2 1 = x0.toNat / 32 % 2 := by
  rw [num_piece 2 1 x0 (by decide) h0]
  have := x0.isLt
  simp only [Nat.reduceMod, Nat.reducePow, Nat.reduceSub]
  omega
theorem n_con (h0 : bs[0]? = some x0) : numAt bs 3 1 = x0.toNat / 16 % 2 := by
  rw [num_piece 3 1 x0 (by decide) h0]
  have := x0.isLt
  simp only [Nat.reduceMod, Nat.reducePow, Nat.reduceSub]
  omega
theorem n_spare (h0 : bs[0]? = some x0) : numAt bs 4 2 = x0.toNat / 4 % 4 := by
  rw [num_piece 4 2 x0 (by decide) h0]
  have := x0.isLt
  simp only [Nat.reduceMod, Nat.reducePow, Nat.reduceSub]
  omega
theorem n_craft (h0 : bs[0]? = some x0) (h1 : bs[1]? = some x1) : numAt bs 6 10 = (256 * x0.toNat + x1.toNat) % 1024 := by
  rw [show 10 = 2 + 8 from rfl, numAt_add, num_piece 6 2 x0 (by decide) h0, num_piece (6 + 2) 8 x1 (by decide) h1]
  have := x0.isLt
  have := x1.isLt
  simp only [Nat.reduceMod, Nat.reducePow, Nat.reduceSub, Nat.reduceAdd]
  omega
theorem n_chan (h2 : bs[2]? = some x2) : numAt bs 16 6 = (256 * x2.toNat + x3.toNat) / 1024 := by
  rw [num_piece 16 6 x2 (by decide) h2]
  have := x2.isLt
  have := x3.isLt
  simp only [Nat.reduceMod, Nat.reducePow, Nat.reduceSub]
  omega
theorem n_len (h2 : bs[2]? = some x2) (h3 : bs[3]? = some x3) : numAt bs 22 10 = (256 * x2.toNat + x3.toNat) % 1024 := by
  rw [show 10 = 2 + 8 from rfl, numAt_add, num_piece 22 2 x2 (by decide) h2, num_piece (22 + 2) 8 x3 (by decide) h3]
  have := x2.isLt
  have := x3.isLt
  simp only [Nat.reduceMod, Nat.reducePow, Nat.reduceSub, Nat.reduceAdd]
  omega
theorem n_seq (h4 : bs[4]? = some x4) : numAt bs 32 8 = x4.toNat := by
  rw [num_piece 32 8 x4 (by decide) h4]
  have := x4.isLt
  simp only [Nat.reduceMod, Nat.reducePow, Nat.reduceSub]
  omega
end

/-! ### both ways -/
theorem rd_len {l : List Byte} (h : 7 ≤ l.length) : (rd l).d.length = l.length - 7 := by
  show ((l.drop 5).take (l.length - 7)).length = _
  rw [List.length_take, List.length_drop]
  omega
theorem take_five {l : List Byte} (h : 5 ≤ l.length) : l.take 5 = [BitVec.ofNat 8 (b8 l 0), BitVec.ofNat 8 (b8 l 1), BitVec.ofNat 8 (b8 l 2), BitVec.ofNat 8 (b8 l 3), BitVec.ofNat 8 (b8 l 4)] := by
  match l, h with
  | a0 :: a1 :: a2 :: a3 :: a4 :: r, _ => simp [b8]
/-- a header is that of the frame that it states just if its spare bits and length are right -/
theorem head_rd {l : List Byte} (h : 8 ≤ l.length) (h2 : l.length ≤ 1024) : (rd l).head = l.take 5 ↔ zr l = true ∧ sz l = l.length := by
  have b0 := b8_lt l 0
  have b1 := b8_lt l 1
  have b2 := b8_lt l 2
  have b3 := b8_lt l 3
  have b4 := b8_lt l 4
  obtain ⟨H, hH⟩ : ∃ H, H = hd (rd l).byp (rd l).con (rd l).cr.toNat := ⟨_, rfl⟩
  obtain ⟨S, hS⟩ : ∃ S, S = sd (rd l).ch.toNat ((rd l).d.length + 6) := ⟨_, rfl⟩
  have eH : H = (if b8 l 0 / 32 % 2 = 1 then 8192 else 0) + (if b8 l 0 / 16 % 2 = 1 then 4096 else 0) + (256 * b8 l 0 + b8 l 1) % 1024 := by
    rw [hH]
    unfold hd
    show (if decide (b8 l 0 / 32 % 2 = 1) = true then 8192 else 0) + (if decide (b8 l 0 / 16 % 2 = 1) = true then 4096 else 0) + (256 * b8 l 0 + b8 l 1) % 1024 = _
    simp only [decide_eq_true_eq]
  have eS : S = (256 * b8 l 2 + b8 l 3) / 1024 * 1024 + (l.length - 7 + 6) := by
    rw [hS, rd_len (by omega)]
    rfl
  have hle : (rd l).head = hdr5 H S (b8 l 4) := by
    unfold Fr.head
    rw [← hH, ← hS]
    rfl
  have hH2 : H < 16384 := by rw [eH]; split <;> split <;> omega
  have hS2 : S < 66560 := by rw [eS]; omega
  rw [hle, take_five (by omega)]
  unfold hdr5
  have key : (H / 256 % 256 = b8 l 0 ∧ H % 256 = b8 l 1 ∧ S / 256 % 256 = b8 l 2 ∧ S % 256 = b8 l 3) ↔ zr l = true ∧ sz l = l.length := by
    unfold zr sz snd2
    simp only [Bool.and_eq_true, decide_eq_true_eq]
    rw [eH, eS]
    constructor
    · rintro ⟨k1, k2, k3, k4⟩
      refine ⟨?_, by omega⟩
      clear k3 k4 eS hS2
      split at k1 <;> split at k1 <;> omega
    · rintro ⟨⟨k1, k2⟩, k3⟩
      refine ⟨?_, ?_, by omega, by omega⟩
      · clear k3 eS hS2; split <;> split <;> omega
      · clear k3 eS hS2; split <;> split <;> omega
  have of8 : ∀ x y : Nat, y < 256 → (BitVec.ofNat 8 x = BitVec.ofNat 8 y ↔ x % 256 = y) := fun x y hy => by
    constructor
    · intro e
      have := congrArg BitVec.toNat e
      simp only [BitVec.toNat_ofNat] at this
      omega
    · intro e
      apply BitVec.eq_of_toNat_eq
      simp only [BitVec.toNat_ofNat]
      omega
  rw [← key]
  simp only [List.cons.injEq, and_true, of8 _ _ b0, of8 _ _ b1, of8 _ _ b2, of8 _ _ b3]
  omega
theorem take_split {l : List Byte} (h : 8 ≤ l.length) : l.take (l.length - 2) = l.take 5 ++ (rd l).d := by
  show _ = l.take 5 ++ (l.drop 5).take (l.length - 7)
  rw [← List.take_add]
  congr 1
  omega
/-- the encoding of the frame that the bytes state is the bytes just if the header is right -/
theorem enc_rd {l : List Byte} (h : 8 ≤ l.length) (h2 : l.length ≤ 1024) (h3 : ck16 l = true) (h4 : (rd l).ok = true) : (rd l).enc = l ↔ zr l = true ∧ sz l = l.length := by
  rw [Fr.enc_yes h4, ← head_rd h h2]
  unfold ck16 at h3
  have hc := (of_decide_eq_true h3).2
  constructor
  · intro e
    have e2 := congrArg (List.take 5) e
    rw [← e2]
    unfold ap16
    rw [List.append_assoc, List.take_left' (Fr.head_len _)]
  · intro e
    rw [e, ← take_split h]
    exact hc
theorem gd_enc {l : List Byte} (h : 8 ≤ l.length) (h2 : l.length ≤ 1024) (h3 : ck16 l = true) (h4 : (rd l).ok = true) : gd l = decide ((rd l).enc = l) := by
  rw [Bool.eq_iff_iff, decide_eq_true_iff, enc_rd h h2 h3 h4]
  unfold gd
  rw [h4, Bool.and_true, Bool.and_eq_true, decide_eq_true_iff]
/-- what is accepted is the encoding of a valid frame -/
theorem enc_dec {l : List Byte} (h : deE l = 0) : (deP l).ok = true ∧ (deP l).enc = l := by
  obtain ⟨h1, h2, h3, h4⟩ := de_zero h
  rw [(de_good h1 h2 h3 h4).2]
  have h5 : (rd l).ok = true := by
    unfold gd at h4
    simp only [Bool.and_eq_true] at h4
    exact h4.2
  refine ⟨h5, ?_⟩
  rw [gd_enc h1 h2 h3 h5] at h4
  exact of_decide_eq_true h4

/-- a header and what follows it state the frame -/
theorem rd_head {f : Fr} (h : f.Fits) (r : List Byte) (hr : r.length = 2) : rd (f.head ++ f.d ++ r) = f := by
  obtain ⟨byp, con, cr, ch, sq, d⟩ := f
  obtain ⟨h1, h2, h3, h4, h5, h6, h7, h8⟩ := h
  simp only at h1 h2 h3 h4 h5 h6 h7 h8
  obtain ⟨C, rfl⟩ := Int.eq_ofNat_of_zero_le h1
  obtain ⟨A, rfl⟩ := Int.eq_ofNat_of_zero_le h3
  obtain ⟨Q, rfl⟩ := Int.eq_ofNat_of_zero_le h5
  obtain ⟨H, hH⟩ : ∃ H, H = hd byp con C := ⟨_, rfl⟩
  obtain ⟨S, hS⟩ : ∃ S, S = sd A (d.length + 6) := ⟨_, rfl⟩
  have hHl : H < 16384 := by rw [hH]; exact hd_lt _ _ _ (by omega)
  have hSl : S < 65536 := by rw [hS]; unfold sd; omega
  have e : (Fr.head ⟨byp, con, C, A, Q, d⟩ ++ d ++ r) = hdr5 H S Q ++ (d ++ r) := by
    unfold Fr.head
    simp only [Int.toNat_natCast, List.append_assoc, hH, hS]
  have hl : (hdr5 H S Q ++ (d ++ r)).length = 7 + d.length := by rw [List.length_append, List.length_append, hr, hdr5_len]; omega
  have t0 : b8 (hdr5 H S Q ++ (d ++ r)) 0 = H / 256 := by show (BitVec.ofNat 8 (H / 256)).toNat = _; rw [BitVec.toNat_ofNat]; omega
  have t1 : b8 (hdr5 H S Q ++ (d ++ r)) 1 = H % 256 := by show (BitVec.ofNat 8 (H % 256)).toNat = _; rw [BitVec.toNat_ofNat]; omega
  have t2 : b8 (hdr5 H S Q ++ (d ++ r)) 2 = S / 256 := by show (BitVec.ofNat 8 (S / 256)).toNat = _; rw [BitVec.toNat_ofNat]; omega
  have t3 : b8 (hdr5 H S Q ++ (d ++ r)) 3 = S % 256 := by show (BitVec.ofNat 8 (S % 256)).toNat = _; rw [BitVec.toNat_ofNat]; omega
  have t4 : b8 (hdr5 H S Q ++ (d ++ r)) 4 = Q := by show (BitVec.ofNat 8 Q).toNat = _; rw [BitVec.toNat_ofNat]; omega
  have hdd : ((hdr5 H S Q ++ (d ++ r)).drop 5).take (7 + d.length - 7) = d := by
    rw [List.drop_left' (hdr5_len H S Q), show 7 + d.length - 7 = d.length by omega, List.take_left]
  rw [e]
  unfold rd fst2 snd2
  rw [hl, hdd, t0, t1, t2, t3, t4]
  have q1 : 256 * (H / 256) + H % 256 = H := by omega
  have q2 : 256 * (S / 256) + S % 256 = S := by omega
  rw [q1, q2]
  have q3 : H % 1024 = C := by rw [hH]; unfold hd; cases byp <;> cases con <;> simp <;> omega
  have q4 : S / 1024 = A := by rw [hS]; unfold sd; omega
  have q6 : decide (H / 256 / 32 % 2 = 1) = byp := by rw [hH]; unfold hd; cases byp <;> cases con <;> simp <;> omega
  have q7 : decide (H / 256 / 16 % 2 = 1) = con := by rw [hH]; unfold hd; cases byp <;> cases con <;> simp <;> omega
  rw [q3, q4, q6, q7]
/-- Decode returns every valid frame from its encoding -/
theorem dec_enc {f : Fr} (h : f.ok = true) : deE f.enc = 0 ∧ deP f.enc = f := by
  have hl := Fr.enc_len h
  have hf := Fr.ok_fits h
  have hd := hf.2.2.2.2.2.2
  have hc : ck16 f.enc = true := by rw [Fr.enc_yes h]; exact ck16_ap _
  have hr : rd f.enc = f := by rw [Fr.enc_yes h]; exact rd_head hf _ rfl
  have hg : gd f.enc = true := by
    rw [gd_enc (by omega) (by omega) hc (by rw [hr]; exact h), hr]
    exact decide_eq_true rfl
  have := de_good (by omega) (by omega) hc hg
  rw [hr] at this
  exact this
/-- errors within 16 consecutive bits are detected -/
theorem dec_near {f : Fr} (h : f.ok = true) {x : List Byte} {i : Nat} (hn : Near f.enc x i 16) (hx : x ≠ f.enc) : deE x = 5 := by
  have hl := Fr.enc_len h
  have hd := (Fr.ok_fits h).2.2.2.2.2.2
  have hxl := hn.1
  cases hc : ck16 x with
  | false => exact (de_sum (by omega) (by omega) hc).1
  | true =>
    rw [Fr.enc_yes h] at hn hx
    exact absurd (near_ck _ _ _ hn hc) hx

/-! ### directives -/
/-- what Directive hands back -/
def dir (byp con : Bool) (d : List Byte) : Int × Int × Bool :=
  if byp && con then (if d = [0#8] then (0, 0, true) else match d with
    | [x, y, z] => if x = 130#8 ∧ y = 0#8 then (1, (z.toNat : Int), true) else (0, 0, false)
    | _ => (0, 0, false)) else (0, 0, false)
theorem dir_off {byp con : Bool} (h : (byp && con) = false) (d : List Byte) : dir byp con d = (0, 0, false) := by unfold dir; rw [h]; rfl
theorem dir_unlock : dir true true [0#8] = (0, 0, true) := rfl
theorem dir_next (z : Byte) : dir true true [130#8, 0#8, z] = (1, (z.toNat : Int), true) := by unfold dir; simp
theorem dir_else {d : List Byte} (h : d ≠ [0#8]) (h2 : ∀ z, d ≠ [130#8, 0#8, z]) : dir true true d = (0, 0, false) := by
  unfold dir
  rw [if_pos (show (true && true) = true from rfl), if_neg h]
  split
  · rename_i x y z
    rw [if_neg]
    rintro ⟨rfl, rfl⟩
    exact h2 z rfl
  · rfl
end Go.Proofs.Ytdpjjhbfhlmolaa.Tcf

/-
  Numbers modulo a power of two: masks, Go's remainder, distances. No dump is imported.
-/
namespace Go.Proofs.Ytdpjjhbfhlmolaa
open Go.RowKit

/-- 2 to the power b -/
def pw (b : Int) : Int := ((2 ^ b.toNat : Nat) : Int)

theorem pw_pos (b : Int) : 1 ≤ pw b := by
  have : 0 < 2 ^ b.toNat := Nat.two_pow_pos _
  unfold pw
  omega
theorem pw_le {b : Int} (h : b ≤ 32) : pw b ≤ 4294967296 := by
  have : 2 ^ b.toNat ≤ 2 ^ 32 := Nat.pow_le_pow_right (by decide) (by omega)
  unfold pw
  omega
theorem pw_half {b : Int} (h : 1 ≤ b) : pw b = 2 * pw (b - 1) := by
  obtain ⟨k, rfl⟩ := Int.eq_ofNat_of_zero_le (show 0 ≤ b - 1 from by omega) |>.elim fun k hk => (⟨k, by omega⟩ : ∃ k : Nat, b = (k : Int) + 1)
  unfold pw
  rw [show ((k : Int) + 1).toNat = k + 1 by omega, show ((k : Int) + 1 - 1).toNat = k by omega, Nat.pow_succ]
  omega
theorem pw_dvd {b : Int} (h : b ≤ 63) : pw b ∣ 9223372036854775808 := by
  have : 2 ^ b.toNat ∣ 2 ^ 63 := Nat.pow_dvd_pow 2 (by omega)
  unfold pw
  exact Int.natCast_dvd_natCast.2 this

theorem and_pw (x b : Int) (hb : b ≤ 32) : bits .and .i64 x (pw b - 1) = x % pw b := by
  have hd : 2 ^ b.toNat ∣ 2 ^ 64 := Nat.pow_dvd_pow 2 (by omega)
  have hle := pw_le hb
  have hp : 0 < 2 ^ b.toNat := Nat.two_pow_pos _
  have h2 : (2 : Nat) ^ 64 = 18446744073709551616 := rfl
  have hM : 2 ^ b.toNat ≤ 4294967296 := by unfold pw at hle; omega
  show IntKind.i64.wrap ((BitVec.ofInt 64 x &&& BitVec.ofInt 64 (pw b - 1)).toNat : Int) = _
  have e1 : pw b - 1 = ((2 ^ b.toNat - 1 : Nat) : Int) := by unfold pw; omega
  have e2 : (BitVec.ofInt 64 (pw b - 1)).toNat = 2 ^ b.toNat - 1 := by
    rw [e1, BitVec.ofInt_natCast, BitVec.toNat_ofNat]
    exact Nat.mod_eq_of_lt (by omega)
  have e3 : (BitVec.ofInt 64 x).toNat = (x % 18446744073709551616).toNat := by
    rw [BitVec.toNat_ofInt]
    rfl
  have hr : 0 ≤ x % 18446744073709551616 := Int.emod_nonneg _ (by decide)
  have hk : (x % 18446744073709551616).toNat % 2 ^ b.toNat < 2 ^ b.toNat := Nat.mod_lt _ hp
  rw [BitVec.toNat_and, e2, e3, Nat.and_two_pow_sub_one_eq_mod, IntKind.wrap_i64]
  have e4 : (((x % 18446744073709551616).toNat % 2 ^ b.toNat : Nat) : Int) = x % pw b := by
    rw [Int.natCast_emod, Int.toNat_of_nonneg hr]
    unfold pw
    exact Int.emod_emod_of_dvd _ (Int.natCast_dvd_natCast.2 hd)
  rw [← e4]
  omega

theorem md_nonneg (x b : Int) : 0 ≤ x % pw b := Int.emod_nonneg _ (by have := pw_pos b; omega)
theorem md_lt (x b : Int) : x % pw b < pw b := Int.emod_lt_of_pos _ (by have := pw_pos b; omega)
theorem md_self {x b : Int} (h0 : 0 ≤ x) (h1 : x < pw b) : x % pw b = x := Int.emod_eq_of_lt h0 h1
theorem md_iff {x b : Int} : x = x % pw b ↔ 0 ≤ x ∧ x < pw b :=
  ⟨fun h => by rw [h]; exact ⟨md_nonneg _ _, md_lt _ _⟩, fun h => (md_self h.1 h.2).symm⟩
theorem md_wrap (x b : Int) (hb : b ≤ 63) : IntKind.i64.wrap x % pw b = x % pw b := by
  obtain ⟨q, hq⟩ := pw_dvd hb
  rw [IntKind.wrap_i64]
  have e : (x + 9223372036854775808) % 18446744073709551616 - 9223372036854775808 = x + pw b * (-(2 * q * ((x + 9223372036854775808) / 18446744073709551616))) := by
    have h1 := Int.emod_add_mul_ediv (x + 9223372036854775808) 18446744073709551616
    have h2 : pw b * (-(2 * q * ((x + 9223372036854775808) / 18446744073709551616))) = -(18446744073709551616 * ((x + 9223372036854775808) / 18446744073709551616)) := by
      rw [show (18446744073709551616 : Int) = 2 * 9223372036854775808 from rfl, hq]
      simp only [Int.mul_neg, Int.mul_assoc, Int.mul_left_comm, Int.mul_comm]
    rw [h2]
    omega
  rw [e, Int.add_mul_emod_self_left]
theorem md_wrap64 (x b : Int) (hb : b ≤ 63) : wrap64 x % pw b = x % pw b := by
  have h := md_wrap x b hb
  have e : IntKind.i64.wrap x = wrap64 x := by rw [IntKind.wrap_i64]; unfold wrap64; omega
  rw [← e]
  exact h

/-- Go's remainder, turned into the one from 0 up -/
theorem tmod_pw (x b : Int) : (x.tmod (pw b) + pw b).tmod (pw b) = x % pw b := by
  have hp := pw_pos b
  have h1 : -pw b < x.tmod (pw b) := by
    have := Int.lt_tmod_of_pos x (show 0 < pw b by omega)
    omega
  rw [Int.tmod_eq_emod_of_nonneg (by omega), Int.add_emod_right]
  have h2 := Int.mul_tdiv_add_tmod x (pw b)
  have h3 : x = x.tmod (pw b) + pw b * x.tdiv (pw b) := by omega
  conv => rhs; rw [h3, Int.add_mul_emod_self_left]
theorem tmod_in (x b : Int) : -pw b < x.tmod (pw b) ∧ x.tmod (pw b) < pw b := by
  have hp := pw_pos b
  exact ⟨by have := Int.lt_tmod_of_pos x (show 0 < pw b by omega); omega, Int.tmod_lt_of_pos x (by omega)⟩
theorem md_add (a n b : Int) : (a + n % pw b) % pw b = (a + n) % pw b := Int.add_emod_emod a n (pw b)

/-- a number of b bits, 1 to 32 -/
def vl (n b : Int) : Bool := decide (1 ≤ b ∧ b ≤ 32 ∧ 0 ≤ n ∧ n < pw b)
def sadd (a n b : Int) : Int := if vl a b then (a + n) % pw b else 0
def sdist (x y b : Int) : Int := if vl x b && vl y b then (y - x) % pw b else 0
def sbef (x y b : Int) : Bool := decide (1 ≤ sdist x y b ∧ sdist x y b < pw (b - 1))
def swin (n f s b : Int) : Bool := vl n b && vl f b && decide (s ≤ pw b ∧ sdist f n b < s)

theorem vl_iff {n b : Int} : vl n b = true ↔ 1 ≤ b ∧ b ≤ 32 ∧ 0 ≤ n ∧ n < pw b := by unfold vl; simp
theorem vl_width {n b : Int} (h : ¬ (1 ≤ b ∧ b ≤ 32)) : vl n b = false := by unfold vl; simp; omega
theorem sadd_ok {a n b : Int} (h : vl a b = true) : sadd a n b = (a + n) % pw b := by unfold sadd; rw [if_pos h]
theorem sadd_bad {a n b : Int} (h : vl a b = false) : sadd a n b = 0 := by unfold sadd; rw [h]; rfl
theorem sdist_ok {x y b : Int} (h : vl x b = true) (h' : vl y b = true) : sdist x y b = (y - x) % pw b := by unfold sdist; rw [h, h']; rfl
theorem sdist_bad {x y b : Int} (h : (vl x b && vl y b) = false) : sdist x y b = 0 := by unfold sdist; rw [h]; rfl
theorem sdist_nonneg (x y b : Int) : 0 ≤ sdist x y b := by unfold sdist; split; exact md_nonneg _ _; exact Int.le_refl _
theorem sdist_lt {x y b : Int} : sdist x y b < pw b := by unfold sdist; split; exact md_lt _ _; have := pw_pos b; omega
end Go.Proofs.Ytdpjjhbfhlmolaa

/-
  Plain mathematics of a receiving end: its state, the eight rules as one step, both readings of its windows; no Go in sight.
-/
namespace Go.Proofs.Ytdpjjhbfhlmolaa.Far
open Go.Proofs.Ytdpjjhbfhlmolaa.Tcf (Fr dir)

/-- the flags, the bypass counter and the next number -/
structure St where
  lk : Bool
  wt : Bool
  rt : Bool
  bc : Int
  nx : Int
deriving DecidableEq

def St.Ok (s : St) : Prop := 0 ≤ s.bc ∧ s.bc ≤ 3 ∧ 0 ≤ s.nx ∧ s.nx ≤ 255
/-- the clamped window -/
def clw (w : Int) : Int := min (max w 1) 127
theorem clw_in (w : Int) : 1 ≤ clw w ∧ clw w ≤ 127 := by unfold clw; omega
/-- a new receiving end -/
def st0 : St := ⟨false, false, false, 0, 0⟩
theorem st0_ok : st0.Ok := ⟨by decide, by decide, by decide, by decide⟩

/-- the number of a frame (rules 5 to 8) -/
def rcv (W : Int) (s : St) (q : Int) (room : Bool) : Int × St :=
  if q = s.nx then (if room then (1, ⟨s.lk, false, false, s.bc, (s.nx + 1) % 256⟩) else (6, ⟨s.lk, true, true, s.bc, s.nx⟩))
  else if (q - s.nx) % 256 < W then (3, ⟨s.lk, s.wt, true, s.bc, s.nx⟩)
  else if (q - s.nx + W) % 256 < W then (2, s)
  else (4, ⟨true, s.wt, s.rt, s.bc, s.nx⟩)
/-- a directive (rule 2) -/
def oby (s : St) (d : Int × Int × Bool) : Int × St :=
  if d.2.2 = false then (0, s)
  else if d.1 = 0 then (5, ⟨false, false, false, (s.bc + 1) % 4, s.nx⟩)
  else if s.lk then (4, s)
  else (5, ⟨false, false, false, (s.bc + 1) % 4, d.2.1⟩)
/-- a frame of the channel (rules 2 to 8) -/
def jdg (W : Int) (s : St) (x : Fr) (room : Bool) : Int × St :=
  if x.con then oby s (dir x.byp x.con x.d)
  else if x.byp then (1, ⟨s.lk, s.wt, s.rt, (s.bc + 1) % 4, s.nx⟩)
  else if s.lk then (4, s)
  else rcv W s x.sq room
/-- a frame of the channel (rule 1) -/
def mine (K H : Int) (x : Fr) : Bool := x.ok && x.cr == K && x.ch == H
/-- all eight rules -/
def tke (K H W : Int) (s : St) (x : Fr) (room : Bool) : Int × St := if mine K H x then jdg W s x room else (0, s)
/-- what is delivered -/
def dat (v : Int) (l : List Byte) : List Byte := if v = 1 then l else []

theorem dir_in (byp con : Bool) (d : List Byte) : (dir byp con d).1 = 0 ∨ (dir byp con d).1 = 1 ∧ 0 ≤ (dir byp con d).2.1 ∧ (dir byp con d).2.1 ≤ 255 := by
  unfold dir
  split
  · split
    · exact .inl rfl
    · split
      · split
        · rename_i z _ _
          have := z.isLt
          refine .inr ⟨rfl, ?_, ?_⟩ <;> simp only <;> omega
        · exact .inl rfl
      · exact .inl rfl
  · exact .inl rfl

theorem rcv_ok {W : Int} {s : St} (h : s.Ok) (q : Int) (room : Bool) : (rcv W s q room).2.Ok := by
  obtain ⟨h1, h2, h3, h4⟩ := h
  unfold rcv
  split
  · split
    · exact ⟨h1, h2, by simp only; omega, by simp only; omega⟩
    · exact ⟨h1, h2, h3, h4⟩
  · split
    · exact ⟨h1, h2, h3, h4⟩
    · split <;> exact ⟨h1, h2, h3, h4⟩
theorem oby_ok {s : St} (h : s.Ok) {d : Int × Int × Bool} (hd : d.1 = 0 ∨ d.1 = 1 ∧ 0 ≤ d.2.1 ∧ d.2.1 ≤ 255) : (oby s d).2.Ok := by
  obtain ⟨h1, h2, h3, h4⟩ := h
  unfold oby
  split
  · exact ⟨h1, h2, h3, h4⟩
  · split
    · exact ⟨by simp only; omega, by simp only; omega, h3, h4⟩
    · rename_i hn
      have hd := hd.resolve_left hn
      split
      · exact ⟨h1, h2, h3, h4⟩
      · exact ⟨by simp only; omega, by simp only; omega, hd.2.1, hd.2.2⟩
theorem jdg_ok {W : Int} {s : St} (h : s.Ok) (x : Fr) (room : Bool) : (jdg W s x room).2.Ok := by
  unfold jdg
  split
  · exact oby_ok h (dir_in _ _ _)
  · split
    · obtain ⟨h1, h2, h3, h4⟩ := h
      exact ⟨by simp only; omega, by simp only; omega, h3, h4⟩
    · split
      · exact h
      · exact rcv_ok h _ _
theorem tke_ok {K H W : Int} {s : St} (h : s.Ok) (x : Fr) (room : Bool) : (tke K H W s x room).2.Ok := by
  unfold tke
  split
  · exact jdg_ok h _ _
  · exact h
theorem mine_fits {K H : Int} {x : Fr} (h : mine K H x = true) : x.ok = true ∧ x.Fits ∧ x.cr = K ∧ x.ch = H := by
  unfold mine at h
  simp only [Bool.and_eq_true, beq_iff_eq] at h
  exact ⟨h.1.1, Fr.ok_fits h.1.1, h.1.2, h.2⟩
theorem mine_no {K H : Int} {x : Fr} (h : x.ok = false ∨ x.cr ≠ K ∨ x.ch ≠ H) : mine K H x = false := by
  unfold mine
  rcases h with h | h | h
  · rw [h]; rfl
  · rw [show (x.cr == K) = false by simpa using h]; simp
  · rw [show (x.ch == H) = false by simpa using h]; simp

/-! ### the windows as package serial reads them -/
theorem pw8 : pw 8 = 256 := by decide
theorem vl8 {n : Int} (h0 : 0 ≤ n) (h1 : n ≤ 255) : vl n 8 = true := by rw [vl_iff, pw8]; omega
theorem swin8 {q f s : Int} (h0 : 0 ≤ q) (h1 : q ≤ 255) (h2 : 0 ≤ f) (h3 : f ≤ 255) (hs : s ≤ 256) : swin q f s 8 = decide ((q - f) % 256 < s) := by
  unfold swin
  rw [vl8 h0 h1, vl8 h2 h3, sdist_ok (vl8 h2 h3) (vl8 h0 h1), pw8, Bool.eq_iff_iff]
  simp [hs]
theorem sadd8 {a n : Int} (h2 : 0 ≤ a) (h3 : a ≤ 255) : sadd a n 8 = (a + n) % 256 := by rw [sadd_ok (vl8 h2 h3), pw8]
theorem sadd2 {a n : Int} (h2 : 0 ≤ a) (h3 : a ≤ 3) : sadd a n 2 = (a + n) % 4 := by
  have e : pw 2 = 4 := by decide
  rw [sadd_ok (by rw [vl_iff, e]; omega), e]
section
variable {W q n : Int}
theorem gap_p (h0 : 0 ≤ q) (h1 : q ≤ 255) (h2 : 0 ≤ n) (h3 : n ≤ 255) (hw : W ≤ 127) : swin q n W 8 = decide ((q - n) % 256 < W) := swin8 h0 h1 h2 h3 (by omega)
theorem rep_p (h0 : 0 ≤ q) (h1 : q ≤ 255) (h2 : 0 ≤ n) (h3 : n ≤ 255) (hw : W ≤ 127) : swin q (sadd n (-W) 8) W 8 = decide ((q - n + W) % 256 < W) := by
  rw [sadd8 h2 h3, swin8 h0 h1 (by omega) (by omega) (by omega)]
  exact decide_eq_decide.2 (by omega)
theorem gap_x (h0 : 0 ≤ q) (h1 : q ≤ 255) (h2 : 0 ≤ n) (h3 : n ≤ 255) (hw : W ≤ 127) (hw1 : 1 ≤ W) (hq : q ≠ n) : swin q ((n + 1) % 256) (W - 1) 8 = decide ((q - n) % 256 < W) := by
  rw [swin8 h0 h1 (by omega) (by omega) (by omega)]
  exact decide_eq_decide.2 (by omega)
theorem rep_x (h0 : 0 ≤ q) (h1 : q ≤ 255) (hw : W ≤ 127) (hw1 : 1 ≤ W) : swin q ((n - W + 256) % 256) W 8 = decide ((q - n + W) % 256 < W) := by
  rw [swin8 h0 h1 (by omega) (by omega) (by omega)]
  exact decide_eq_decide.2 (by omega)
end
end Go.Proofs.Ytdpjjhbfhlmolaa.Far

/-
  Plain mathematics of link control words, no Go in sight: when a word is valid, its four bytes, what four bytes state; both ways fit.
-/
namespace Go.Proofs.Ytdpjjhbfhlmolaa.Clc
open Go.Proofs.Ytdpjjhbfhlmolaa.Pac

/-- a control word -/
structure Cw where
  ch : Int
  lk : Bool
  wt : Bool
  rt : Bool
  bp : Int
  nx : Int
deriving DecidableEq

def Cw.Fits (c : Cw) : Prop := 0 ≤ c.ch ∧ c.ch ≤ 7 ∧ 0 ≤ c.bp ∧ c.bp ≤ 3 ∧ 0 ≤ c.nx ∧ c.nx ≤ 255
instance (c : Cw) : Decidable c.Fits := by unfold Cw.Fits; infer_instance
def Cw.ok (c : Cw) : Bool := decide c.Fits
theorem Cw.ok_fits {c : Cw} (h : c.ok = true) : c.Fits := of_decide_eq_true h
theorem Cw.ok_yes {c : Cw} (h : c.Fits) : c.ok = true := decide_eq_true h
theorem Cw.ok_no {c : Cw} (h : ¬ c.Fits) : c.ok = false := decide_eq_false h

/-- the third byte's number -/
def fl3 (lk wt rt : Bool) (B : Nat) : Nat := (if lk then 32 else 0) + (if wt then 16 else 0) + (if rt then 8 else 0) + 2 * B
theorem fl3_lt (lk wt rt : Bool) (B : Nat) (h : B < 4) : fl3 lk wt rt B < 64 := by unfold fl3; cases lk <;> cases wt <;> cases rt <;> simp <;> omega
/-- four bytes of three numbers -/
def wd4 (C F Q : Nat) : List Byte := [1#8, BitVec.ofNat 8 (4 * C), BitVec.ofNat 8 F, BitVec.ofNat 8 Q]
theorem wd4_len (C F Q : Nat) : (wd4 C F Q).length = 4 := rfl
def Cw.word (c : Cw) : List Byte := wd4 c.ch.toNat (fl3 c.lk c.wt c.rt c.bp.toNat) c.nx.toNat
/-- what Encode hands back -/
def Cw.enc (c : Cw) : List Byte := if c.ok then c.word else []
def Cw.err (c : Cw) : Int := if c.ok then 0 else 1
theorem Cw.enc_yes {c : Cw} (h : c.ok = true) : c.enc = c.word := by unfold Cw.enc; rw [if_pos h]
theorem Cw.enc_no {c : Cw} (h : c.ok = false) : c.enc = [] := by unfold Cw.enc; rw [h]; rfl
theorem Cw.err_yes {c : Cw} (h : c.ok = true) : c.err = 0 := by unfold Cw.err; rw [if_pos h]
theorem Cw.err_no {c : Cw} (h : c.ok = false) : c.err = 1 := by unfold Cw.err; rw [h]; rfl
theorem Cw.enc_len {c : Cw} (h : c.ok = true) : c.enc.length = 4 := by rw [Cw.enc_yes h]; rfl

/-! ### the Writer's bits are the word -/
theorem packs_wd4 (C F Q : Nat) : Packs (wd4 C F Q) (bitsOf 1 8 ++ bitsOf (4 * C) 8 ++ bitsOf F 8 ++ bitsOf Q 8) :=
  Packs.both (Packs.both (Packs.both (packs_byte 1) (packs_byte (4 * C)) (by simp [bitsOf_len])) (packs_byte F) (by simp [bitsOf_len])) (packs_byte Q) (by simp [bitsOf_len])
theorem word_bits (C B Q : Nat) (lk wt rt : Bool) (hC : C < 8) (hB : B < 4) :
    [] ++ bitsOf 0 1 ++ bitsOf 0 2 ++ bitsOf 0 3 ++ bitsOf 1 2 ++ bitsOf C 6 ++ bitsOf 0 4 ++ bitsOf (nb lk) 1 ++ bitsOf (nb wt) 1 ++ bitsOf (nb rt) 1 ++ bitsOf B 2 ++ bitsOf 0 1 ++ bitsOf Q 8
      = bitsOf 1 8 ++ bitsOf (4 * C) 8 ++ bitsOf (fl3 lk wt rt B) 8 ++ bitsOf Q 8 := by
  have hF := fl3_lt lk wt rt B hB
  have e1 : [] ++ bitsOf 0 1 ++ bitsOf 0 2 ++ bitsOf 0 3 ++ bitsOf 1 2 ++ bitsOf C 6 ++ bitsOf 0 4 ++ bitsOf (nb lk) 1 ++ bitsOf (nb wt) 1 ++ bitsOf (nb rt) 1 ++ bitsOf B 2 ++ bitsOf 0 1
      = bitsOf (65536 + 1024 * C + fl3 lk wt rt B) 24 := by
    rw [List.nil_append, bitsOf_join _ _ _ _ (show 0 < 2 ^ 2 by omega), bitsOf_join _ _ _ _ (show 0 < 2 ^ 3 by omega), bitsOf_join _ _ _ _ (show 1 < 2 ^ 2 by omega), bitsOf_join _ _ _ _ (show C < 2 ^ 6 by omega), bitsOf_join _ _ _ _ (show 0 < 2 ^ 4 by omega),
      bitsOf_join _ _ _ _ (nb_lt lk), bitsOf_join _ _ _ _ (nb_lt wt), bitsOf_join _ _ _ _ (nb_lt rt), bitsOf_join _ _ _ _ (show B < 2 ^ 2 by omega), bitsOf_join _ _ _ _ (show 0 < 2 ^ 1 by omega)]
    congr 1
    cases lk <;> cases wt <;> cases rt <;> simp [nb, fl3] <;> omega
  have e2 : bitsOf 1 8 ++ bitsOf (4 * C) 8 ++ bitsOf (fl3 lk wt rt B) 8 = bitsOf (65536 + 1024 * C + fl3 lk wt rt B) 24 := by
    rw [bitsOf_join _ _ _ _ (show 4 * C < 2 ^ 8 by omega), bitsOf_join _ _ _ _ (show fl3 lk wt rt B < 2 ^ 8 by omega)]
    congr 1
    omega
  rw [e1, e2]
theorem word_of {bs : List Byte} (C B Q : Nat) (lk wt rt : Bool) (hC : C < 8) (hB : B < 4)
    (h : Packs bs ([] ++ bitsOf 0 1 ++ bitsOf 0 2 ++ bitsOf 0 3 ++ bitsOf 1 2 ++ bitsOf C 6 ++ bitsOf 0 4 ++ bitsOf (nb lk) 1 ++ bitsOf (nb wt) 1 ++ bitsOf (nb rt) 1 ++ bitsOf B 2 ++ bitsOf 0 1 ++ bitsOf Q 8)) : bs = wd4 C (fl3 lk wt rt B) Q := by
  rw [word_bits C B Q lk wt rt hC hB] at h
  exact Packs.unique h (packs_wd4 _ _ _)

/-! ### what four bytes state -/
def rd (l : List Byte) : Cw := ⟨((b8 l 1 / 4 : Nat) : Int), decide (b8 l 2 / 32 % 2 = 1), decide (b8 l 2 / 16 % 2 = 1), decide (b8 l 2 / 8 % 2 = 1), ((b8 l 2 / 2 % 4 : Nat) : Int), ((b8 l 3 : Nat) : Int)⟩
def noCw : Cw := ⟨0, false, false, false, 0, 0⟩
/-- the fields that every word has in common -/
def fm (l : List Byte) : Bool := decide (b8 l 0 = 1 ∧ b8 l 1 % 4 = 0 ∧ b8 l 2 / 64 = 0 ∧ b8 l 2 % 2 = 0)
def gd (l : List Byte) : Bool := fm l && (rd l).ok
def deE (l : List Byte) : Int := if l.length < 4 then 3 else if 4 < l.length then 6 else if gd l then 0 else 4
def deP (l : List Byte) : Cw := if deE l = 0 then rd l else noCw
theorem de_short {l : List Byte} (h : l.length < 4) : deE l = 3 ∧ deP l = noCw := by
  have e : deE l = 3 := by unfold deE; rw [if_pos h]
  exact ⟨e, by unfold deP; rw [e]; rfl⟩
theorem de_long {l : List Byte} (h : 4 < l.length) : deE l = 6 ∧ deP l = noCw := by
  have e : deE l = 6 := by unfold deE; rw [if_neg (by omega), if_pos h]
  exact ⟨e, by unfold deP; rw [e]; rfl⟩
theorem de_form {l : List Byte} (h : l.length = 4) (h4 : gd l = false) : deE l = 4 ∧ deP l = noCw := by
  have e : deE l = 4 := by unfold deE; rw [if_neg (by omega), if_neg (by omega), h4]; rfl
  exact ⟨e, by unfold deP; rw [e]; rfl⟩
theorem de_good {l : List Byte} (h : l.length = 4) (h4 : gd l = true) : deE l = 0 ∧ deP l = rd l := by
  have e : deE l = 0 := by unfold deE; rw [if_neg (by omega), if_neg (by omega), h4]; rfl
  exact ⟨e, by unfold deP; rw [if_pos e]⟩
theorem de_zero {l : List Byte} (h : deE l = 0) : l.length = 4 ∧ gd l = true := by
  by_cases a : l.length < 4
  · rw [(de_short a).1] at h; cases h
  by_cases b : 4 < l.length
  · rw [(de_long b).1] at h; cases h
  cases c : gd l with
  | false => rw [(de_form (by omega) c).1] at h; cases h
  | true => exact ⟨by omega, rfl⟩
theorem de_else {l : List Byte} (h : deE l ≠ 0) : deP l = noCw := by unfold deP; rw [if_neg h]

/-! ### the Reader's numbers -/
section
variable {bs : List Byte} {x0 x1 x2 x3 : Byte}
theorem n_kind (h0 : bs[0]? = some x0) : numAt bs 0 1 = x0.toNat / 128 := by
  rw [num_piece 0 1 x0 (by decide) h0]
  have := x0.isLt
  simp only [Nat.reduceMod, Nat.reducePow, Nat.reduceSub]
  omega
theorem n_vers (h0 : bs[0]? = some x0) : numAt bs 1 2 = x0.toNat / 32 % 4 := by
  rw [num_piece 1 2 x0 (by decide) h0]
  have := x0.isLt
  simp only [Nat.reduceMod, Nat.reducePow, Nat.reduceSub]
  omega
theorem n_stat (h0 : bs[0]? = some x0) : numAt bs 3 3 = x0.toNat / 4 % 8 := by
  rw [num_piece 3 3 x0 (by decide) h0]
  have := x0.isLt
  simp only [Nat.reduceMod, Nat.reducePow, Nat.reduceSub]
  omega
theorem n_proc (h0 : bs[0]? = some x0) : numAt bs 6 2 = x0.toNat % 4 := by
  rw [num_piece 6 2 x0 (by decide) h0]
  have := x0.isLt
  simp only [Nat.reduceMod, Nat.reducePow, Nat.reduceSub]
  omega
theorem n_chan (h1 : bs[1]? = some x1) : numAt bs 8 6 = x1.toNat / 4 := by
  rw [num_piece 8 6 x1 (by decide) h1]
  have := x1.isLt
  simp only [Nat.reduceMod, Nat.reducePow, Nat.reduceSub]
  omega
theorem n_spare (h1 : bs[1]? = some x1) (h2 : bs[2]? = some x2) : numAt bs 14 4 = x1.toNat % 4 * 4 + x2.toNat / 64 := by
  rw [show 4 = 2 + 2 from rfl, numAt_add, num_piece 14 2 x1 (by decide) h1, num_piece (14 + 2) 2 x2 (by decide) h2]
  have := x1.isLt
  have := x2.isLt
  simp only [Nat.reduceMod, Nat.reducePow, Nat.reduceSub, Nat.reduceAdd]
  omega
theorem n_lock (h2 : bs[2]? = some x2) : numAt bs 18 1 = x2.toNat / 32 % 2 := by
  rw [num_piece 18 1 x2 (by decide) h2]
  have := x2.isLt
  simp only [Nat.reduceMod, Nat.reducePow, Nat.reduceSub]
  omega
theorem n_wait (h2 : bs[2]? = some x2) : numAt bs 19 1 = x2.toNat / 16 % 2 := by
  rw [num_piece 19 1 x2 (by decide) h2]
  have := x2.isLt
  simp only [Nat.reduceMod, Nat.reducePow, Nat.reduceSub]
  omega
theorem n_retr (h2 : bs[2]? = some x2) : numAt bs 20 1 = x2.toNat / 8 % 2 := by
  rw [num_piece 20 1 x2 (by decide) h2]
  have := x2.isLt
  simp only [Nat.reduceMod, Nat.reducePow, Nat.reduceSub]
  omega
theorem n_byp (h2 : bs[2]? = some x2) : numAt bs 21 2 = x2.toNat / 2 % 4 := by
  rw [num_piece 21 2 x2 (by decide) h2]
  have := x2.isLt
  simp only [Nat.reduceMod, Nat.reducePow, Nat.reduceSub]
  omega
theorem n_last (h2 : bs[2]? = some x2) : numAt bs 23 1 = x2.toNat % 2 := by
  rw [num_piece 23 1 x2 (by decide) h2]
  have := x2.isLt
  simp only [Nat.reduceMod, Nat.reducePow, Nat.reduceSub]
  omega
theorem n_next (h3 : bs[3]? = some x3) : numAt bs 24 8 = x3.toNat := by
  rw [num_piece 24 8 x3 (by decide) h3]
  have := x3.isLt
  simp only [Nat.reduceMod, Nat.reducePow, Nat.reduceSub]
  omega
end
/-- the fields that must be zero, joined -/
def zs (l : List Byte) : Nat := (((b8 l 0 / 128 ||| b8 l 0 / 32 % 4) ||| b8 l 0 / 4 % 8) ||| (b8 l 1 % 4 * 4 + b8 l 2 / 64)) ||| b8 l 2 % 2
theorem fm_zs (l : List Byte) : fm l = (decide (zs l = 0) && decide (b8 l 0 % 4 = 1)) := by
  have b0 := b8_lt l 0
  have b1 := b8_lt l 1
  have b2 := b8_lt l 2
  unfold fm zs
  rw [Bool.eq_iff_iff]
  simp only [Bool.and_eq_true, decide_eq_true_eq, Nat.or_eq_zero_iff]
  omega

/-! ### both ways -/
theorem all8 {p : BitVec 8 → Prop} (h : ∀ n : Fin 256, p (BitVec.ofFin n)) (x : BitVec 8) : p x := h x.toFin
theorem byte1 : ∀ x : BitVec 8, (BitVec.ofNat 8 (4 * (x.toNat / 4)) = x ↔ x.toNat % 4 = 0) := all8 (by decide +kernel)
theorem byte2 : ∀ x : BitVec 8, (BitVec.ofNat 8 (fl3 (decide (x.toNat / 32 % 2 = 1)) (decide (x.toNat / 16 % 2 = 1)) (decide (x.toNat / 8 % 2 = 1)) (x.toNat / 2 % 4)) = x ↔ x.toNat / 64 = 0 ∧ x.toNat % 2 = 0) := all8 (by decide +kernel)
theorem byte0 : ∀ x : BitVec 8, (1#8 = x ↔ x.toNat = 1) := all8 (by decide +kernel)
theorem word_rd {l : List Byte} (h : l.length = 4) : (rd l).word = l ↔ fm l = true := by
  match l, h with
  | [x0, x1, x2, x3], _ =>
    have e : (rd [x0, x1, x2, x3]).word = [1#8, BitVec.ofNat 8 (4 * (x1.toNat / 4)), BitVec.ofNat 8 (fl3 (decide (x2.toNat / 32 % 2 = 1)) (decide (x2.toNat / 16 % 2 = 1)) (decide (x2.toNat / 8 % 2 = 1)) (x2.toNat / 2 % 4)), BitVec.ofNat 8 x3.toNat] := rfl
    rw [e]
    have e3 : BitVec.ofNat 8 x3.toNat = x3 := by simp
    simp only [List.cons.injEq, and_true, byte0, byte1, byte2, e3]
    unfold fm
    rw [decide_eq_true_iff]
    show _ ↔ x0.toNat = 1 ∧ x1.toNat % 4 = 0 ∧ x2.toNat / 64 = 0 ∧ x2.toNat % 2 = 0
    exact Iff.rfl
theorem gd_enc {l : List Byte} (h : l.length = 4) (h4 : (rd l).ok = true) : gd l = decide ((rd l).enc = l) := by
  rw [Bool.eq_iff_iff, decide_eq_true_iff, Cw.enc_yes h4, word_rd h]
  unfold gd
  rw [h4, Bool.and_true]
/-- what is accepted is the encoding of a valid word -/
theorem enc_dec {l : List Byte} (h : deE l = 0) : (deP l).ok = true ∧ (deP l).enc = l := by
  obtain ⟨h1, h4⟩ := de_zero h
  rw [(de_good h1 h4).2]
  have h5 : (rd l).ok = true := by
    unfold gd at h4
    simp only [Bool.and_eq_true] at h4
    exact h4.2
  refine ⟨h5, ?_⟩
  rw [gd_enc h1 h5] at h4
  exact of_decide_eq_true h4
/-- Decode returns every valid word from its encoding -/
theorem rd_word {c : Cw} (h : c.Fits) : rd c.word = c := by
  obtain ⟨ch, lk, wt, rt, bp, nx⟩ := c
  obtain ⟨h1, h2, h3, h4, h5, h6⟩ := h
  simp only at h1 h2 h3 h4 h5 h6
  obtain ⟨C, rfl⟩ := Int.eq_ofNat_of_zero_le h1
  obtain ⟨B, rfl⟩ := Int.eq_ofNat_of_zero_le h3
  obtain ⟨Q, rfl⟩ := Int.eq_ofNat_of_zero_le h5
  have hF := fl3_lt lk wt rt B (by omega)
  show rd (wd4 C (fl3 lk wt rt B) Q) = _
  have t1 : b8 (wd4 C (fl3 lk wt rt B) Q) 1 = 4 * C := by show (BitVec.ofNat 8 (4 * C)).toNat = _; rw [BitVec.toNat_ofNat]; omega
  have t2 : b8 (wd4 C (fl3 lk wt rt B) Q) 2 = fl3 lk wt rt B := by show (BitVec.ofNat 8 (fl3 lk wt rt B)).toNat = _; rw [BitVec.toNat_ofNat]; omega
  have t3 : b8 (wd4 C (fl3 lk wt rt B) Q) 3 = Q := by show (BitVec.ofNat 8 Q).toNat = _; rw [BitVec.toNat_ofNat]; omega
  unfold rd
  rw [t1, t2, t3]
  have q1 : 4 * C / 4 = C := by omega
  have q2 : decide (fl3 lk wt rt B / 32 % 2 = 1) = lk := by unfold fl3; cases lk <;> cases wt <;> cases rt <;> simp <;> omega
  have q3 : decide (fl3 lk wt rt B / 16 % 2 = 1) = wt := by unfold fl3; cases lk <;> cases wt <;> cases rt <;> simp <;> omega
  have q4 : decide (fl3 lk wt rt B / 8 % 2 = 1) = rt := by unfold fl3; cases lk <;> cases wt <;> cases rt <;> simp <;> omega
  have q5 : fl3 lk wt rt B / 2 % 4 = B := by unfold fl3; cases lk <;> cases wt <;> cases rt <;> simp <;> omega
  rw [q1, q2, q3, q4, q5]
theorem dec_enc {c : Cw} (h : c.ok = true) : deE c.enc = 0 ∧ deP c.enc = c := by
  have hr : rd c.enc = c := by rw [Cw.enc_yes h]; exact rd_word (Cw.ok_fits h)
  have hg : gd c.enc = true := by
    rw [gd_enc (Cw.enc_len h) (by rw [hr]; exact h), hr]
    exact decide_eq_true rfl
  have := de_good (Cw.enc_len h) hg
  rw [hr] at this
  exact this
end Go.Proofs.Ytdpjjhbfhlmolaa.Clc

/-
  Plain mathematics of a sending end: its state and one step for each call; no Go in sight.
-/
namespace Go.Proofs.Ytdpjjhbfhlmolaa.Fop
open Go.Proofs.Ytdpjjhbfhlmolaa.Tcf (Fr)
open Go.Proofs.Ytdpjjhbfhlmolaa.Clc (Cw)

/-- the units that are not acknowledged; flight, frontier, acked, state, control frames to be sent, count of repetitions, timer, time -/
structure Fs where
  us : List (List Byte)
  fl : Int
  fr : Int
  ac : Int
  st : Int
  ct : Int
  rp : Int
  tm : Int
  nw : Int
deriving DecidableEq

structure Fs.Ok (R : Int) (s : Fs) : Prop where
  f0 : 0 ≤ s.fl
  f1 : s.fl ≤ s.fr
  f2 : s.fr ≤ s.us.length
  u : s.us.length ≤ 256
  a0 : 0 ≤ s.ac
  s1 : 1 ≤ s.st
  s4 : s.st ≤ 4
  c0 : 0 ≤ s.ct
  c2 : s.ct ≤ 2
  cf : 0 < s.ct → s.fr = 0
  r0 : 0 ≤ s.rp
  r1 : s.rp ≤ R
  t0 : 0 ≤ s.tm
  t1 : s.tm ≤ s.nw
  n1 : s.nw ≤ 1099511627776
  ul : ∀ d ∈ s.us, 1 ≤ d.length ∧ d.length ≤ 1017

/-- a number brought into a range -/
def clp (n lo hi : Int) : Int := min (max n lo) hi
theorem clp_in {n lo hi : Int} (h : lo ≤ hi) : lo ≤ clp n lo hi ∧ clp n lo hi ≤ hi := by unfold clp; omega
def fs0 : Fs := ⟨[], 0, 0, 0, 1, 0, 0, 0, 0⟩
theorem fs0_ok {R : Int} (h : 0 ≤ R) : fs0.Ok R := ⟨by decide, by decide, by decide, by decide, by decide, by decide, by decide, by decide, by decide, fun _ => rfl, by decide, h, by decide, by decide, by decide, fun d hd => by cases hd⟩

/-- the time of a call -/
def adv (n : Int) (s : Fs) : Fs := if s.nw < n ∧ n ≤ 1099511627776 then { s with nw := n } else s
/-- Send -/
def snd (d : List Byte) (s : Fs) : Int × Fs := if d.length < 1 ∨ 1017 < d.length then (1, s) else if 256 ≤ s.us.length then (7, s) else (0, { s with us := s.us ++ [d] })
/-- the frame that is none -/
def zr : Fr := ⟨false, false, 0, 0, 0, []⟩
/-- the control frame that is next -/
def ctl (K H : Int) (s : Fs) : Fr := if 1 < s.ct then ⟨true, true, K, H, 0, [0#8]⟩ else ⟨true, true, K, H, 0, [130#8, 0#8, BitVec.ofNat 8 (s.ac % 256).toNat]⟩
/-- the first due unit -/
def lau (K H : Int) (s : Fs) : Fr := ⟨false, false, K, H, (s.ac + s.fl) % 256, s.us.getD s.fl.toNat []⟩
def fly (s : Fs) : Fs := { s with fl := s.fl + 1, fr := max s.fr (s.fl + 1), tm := s.nw }
def rew (s : Fs) : Fs := { s with fl := 0 }
/-- Next (rules 2 to 5) -/
def nxd (K H W T R : Int) (s : Fs) : (Fr × Bool) × Fs :=
  if s.st ≠ 1 ∨ s.us.length = 0 then ((zr, false), s)
  else if s.fl < min W s.us.length then ((lau K H s, true), fly s)
  else if s.nw - s.tm < T then ((zr, false), s)
  else if s.rp = R then ((zr, false), { s with st := 4 })
  else ((lau K H { s with rp := s.rp + 1, fl := 0 }, true), fly { s with rp := s.rp + 1, fl := 0 })
def nxc (K H W T R : Int) (s : Fs) : (Fr × Bool) × Fs := if 0 < s.ct then ((ctl K H s, true), { s with ct := s.ct - 1 }) else nxd K H W T R s
def nxt (K H W T R n : Int) (s : Fs) : (Fr × Bool) × Fs := nxc K H W T R (adv n s)
/-- Report (rule 4) -/
def prg (d : Int) (s : Fs) : Fs := if d = 0 then s else { s with us := s.us.drop d.toNat, ac := s.ac + d, fr := s.fr - d, fl := max (s.fl - d) 0, rp := 0, tm := s.nw }
def rtx (b : Bool) (s : Fs) : Fs := if b then rew s else s
def hld (b : Bool) (s : Fs) : Fs := if s.st = 1 ∨ s.st = 2 then { s with st := if b then 2 else 1 } else s
def rpd (c : Cw) (s : Fs) : Int × Fs :=
  if s.fr < (c.nx - s.ac) % 256 then (12, { s with st := 4 }) else (0, hld c.wt (rtx c.rt (prg ((c.nx - s.ac) % 256) s)))
def rpc (H : Int) (c : Cw) (s : Fs) : Int × Fs :=
  if c.ok = false ∨ c.ch ≠ H then (1, s) else if c.lk then (14, { s with st := 3 }) else rpd c s
def rpt (H : Int) (c : Cw) (n : Int) (s : Fs) : Int × Fs := rpc H c (adv n s)
/-- what repeat does -/
def rpe (T R : Int) (s : Fs) : Bool × Fs := if s.nw - s.tm < T then (false, s) else if s.rp = R then (false, { s with st := 4 }) else (true, { s with rp := s.rp + 1, fl := 0 })
def unl (n : Int) (s : Fs) : Fs := { adv n s with ct := 2, fl := 0, fr := 0, rp := 0, tm := (adv n s).nw, st := 1 }
/-- all units that were ever queued -/
def tot (s : Fs) : Int := s.ac + s.us.length

section
variable {K H W T R n : Int} {s : Fs}
theorem adv_ok (h : s.Ok R) : (adv n s).Ok R := by
  unfold adv
  split
  · exact ⟨h.f0, h.f1, h.f2, h.u, h.a0, h.s1, h.s4, h.c0, h.c2, h.cf, h.r0, h.r1, h.t0, by have := h.t1; simp only; omega, by simp only; omega, h.ul⟩
  · exact h
theorem adv_us : (adv n s).us = s.us := by unfold adv; split <;> rfl
theorem adv_ac : (adv n s).ac = s.ac := by unfold adv; split <;> rfl
theorem adv_st : (adv n s).st = s.st := by unfold adv; split <;> rfl
theorem adv_ct : (adv n s).ct = s.ct := by unfold adv; split <;> rfl
theorem adv_fl : (adv n s).fl = s.fl := by unfold adv; split <;> rfl
theorem adv_fr : (adv n s).fr = s.fr := by unfold adv; split <;> rfl
theorem adv_rp : (adv n s).rp = s.rp := by unfold adv; split <;> rfl
theorem adv_tm : (adv n s).tm = s.tm := by unfold adv; split <;> rfl
theorem snd_ok {d : List Byte} (h : s.Ok R) : (snd d s).2.Ok R := by
  unfold snd
  split
  · exact h
  · split
    · exact h
    · have h2 := h.f2
      exact ⟨h.f0, h.f1, by simp only [List.length_append, List.length_cons, List.length_nil]; omega, by simp only [List.length_append, List.length_cons, List.length_nil]; omega, h.a0, h.s1, h.s4, h.c0, h.c2, h.cf, h.r0, h.r1, h.t0, h.t1, h.n1, fun x hx => by
        rcases List.mem_append.1 hx with hx | hx
        · exact h.ul x hx
        · rw [List.mem_singleton] at hx; subst hx; omega⟩
theorem fly_ok (h : s.Ok R) (hl : s.fl < s.us.length) (hc : ¬ 0 < s.ct) : (fly s).Ok R := by
  unfold fly
  have h0 := h.f0
  have h1 := h.f1
  have h2 := h.f2
  exact ⟨by simp only; omega, by simp only; omega, by simp only; omega, h.u, h.a0, h.s1, h.s4, h.c0, h.c2, fun hx => absurd hx hc, h.r0, h.r1, by have := h.t0; have := h.t1; simp only; omega, Int.le_refl _, h.n1, h.ul⟩
theorem nxd_ok (h : s.Ok R) (hW : 1 ≤ W) (hc : ¬ 0 < s.ct) : (nxd K H W T R s).2.Ok R := by
  have h0 := h.f0
  have h1 := h.f1
  have h2 := h.f2
  have hr := h.r1
  have hr0 := h.r0
  unfold nxd
  split
  · exact h
  · rename_i hn
    split
    · exact fly_ok h (by omega) hc
    · split
      · exact h
      · split
        · exact ⟨h.f0, h.f1, h.f2, h.u, h.a0, (by decide : (1:Int) ≤ 4), (by decide : (4:Int) ≤ 4), h.c0, h.c2, h.cf, h.r0, h.r1, h.t0, h.t1, h.n1, h.ul⟩
        · refine fly_ok ⟨Int.le_refl _, by simp only; omega, h.f2, h.u, h.a0, h.s1, h.s4, h.c0, h.c2, h.cf, by simp only; omega, by simp only; omega, h.t0, h.t1, h.n1, h.ul⟩ (by simp only; omega) hc
theorem rpe_ok (h : s.Ok R) : (rpe T R s).2.Ok R := by
  have h0 := h.f0
  have h1 := h.f1
  have hr := h.r1
  have hr0 := h.r0
  unfold rpe
  split
  · exact h
  · split
    · exact ⟨h.f0, h.f1, h.f2, h.u, h.a0, (by decide : (1:Int) ≤ 4), (by decide : (4:Int) ≤ 4), h.c0, h.c2, h.cf, h.r0, h.r1, h.t0, h.t1, h.n1, h.ul⟩
    · exact ⟨Int.le_refl _, by simp only; omega, h.f2, h.u, h.a0, h.s1, h.s4, h.c0, h.c2, h.cf, by simp only; omega, by simp only; omega, h.t0, h.t1, h.n1, h.ul⟩
theorem nxc_ok (h : s.Ok R) (hW : 1 ≤ W) : (nxc K H W T R s).2.Ok R := by
  unfold nxc
  split
  · have h0 := h.c0
    have h2 := h.c2
    exact ⟨h.f0, h.f1, h.f2, h.u, h.a0, h.s1, h.s4, by simp only; omega, by simp only; omega, fun _ => h.cf (by omega), h.r0, h.r1, h.t0, h.t1, h.n1, h.ul⟩
  · rename_i hc
    exact nxd_ok h hW hc
theorem nxt_ok (h : s.Ok R) (hW : 1 ≤ W) : (nxt K H W T R n s).2.Ok R := nxc_ok (adv_ok h) hW
theorem prg_ok {d : Int} (h : s.Ok R) (h0 : 0 ≤ d) (hd : d ≤ s.fr) (hR : 0 ≤ R) : (prg d s).Ok R := by
  have h0' := h.f0
  have h1 := h.f1
  have h2 := h.f2
  have hu := h.u
  have ha := h.a0
  have ht := h.t0
  have ht1 := h.t1
  unfold prg
  split
  · exact h
  · refine ⟨by simp only; omega, by simp only; omega, by simp only [List.length_drop]; omega, by simp only [List.length_drop]; omega, by simp only; omega, h.s1, h.s4, h.c0, h.c2, fun hx => ?_, Int.le_refl _, hR, by simp only; omega, Int.le_refl _, h.n1, fun x hx => h.ul x (List.mem_of_mem_drop hx)⟩
    have := h.cf hx
    simp only; omega
theorem rtx_ok {b : Bool} (h : s.Ok R) : (rtx b s).Ok R := by
  unfold rtx rew
  split
  · exact ⟨Int.le_refl _, by have := h.f0; have := h.f1; simp only; omega, h.f2, h.u, h.a0, h.s1, h.s4, h.c0, h.c2, h.cf, h.r0, h.r1, h.t0, h.t1, h.n1, h.ul⟩
  · exact h
theorem hld_ok {b : Bool} (h : s.Ok R) : (hld b s).Ok R := by
  unfold hld
  split
  · exact ⟨h.f0, h.f1, h.f2, h.u, h.a0, (by cases b <;> simp), (by cases b <;> simp), h.c0, h.c2, h.cf, h.r0, h.r1, h.t0, h.t1, h.n1, h.ul⟩
  · exact h
theorem st_ok {x : Int} (h : s.Ok R) (h1 : 1 ≤ x) (h4 : x ≤ 4) : ({ s with st := x } : Fs).Ok R := ⟨h.f0, h.f1, h.f2, h.u, h.a0, h1, h4, h.c0, h.c2, h.cf, h.r0, h.r1, h.t0, h.t1, h.n1, h.ul⟩
theorem rpc_ok {c : Cw} (h : s.Ok R) (hR : 0 ≤ R) : (rpc H c s).2.Ok R := by
  unfold rpc
  split
  · exact h
  · split
    · exact st_ok h (by decide) (by decide)
    · unfold rpd
      split
      · exact st_ok h (by decide) (by decide)
      · exact hld_ok (rtx_ok (prg_ok h (by omega) (by omega) hR))
theorem rpt_ok {c : Cw} (h : s.Ok R) (hR : 0 ≤ R) : (rpt H c n s).2.Ok R := rpc_ok (adv_ok h) hR
theorem unl_ok (h : s.Ok R) (hR : 0 ≤ R) : (unl n s).Ok R := by
  have h := adv_ok (n := n) h
  have h2 := h.t0
  have h3 := h.t1
  unfold unl
  exact ⟨Int.le_refl _, Int.le_refl _, by simp only; omega, h.u, h.a0, (by decide : (1:Int) ≤ 1), (by decide : (1:Int) ≤ 4), (by decide : (0:Int) ≤ 2), (by decide : (2:Int) ≤ 2), fun _ => rfl, Int.le_refl _, hR, by simp only; omega, Int.le_refl _, h.n1, h.ul⟩

theorem tot_adv : tot (adv n s) = tot s := by unfold tot; rw [adv_us, adv_ac]
theorem tot_snd {d : List Byte} : tot (snd d s).2 ≤ tot s + 1 := by
  unfold snd tot
  split
  · simp only; omega
  · split
    · simp only; omega
    · simp only [List.length_append, List.length_cons, List.length_nil]; omega
theorem tot_nxc : tot (nxc K H W T R s).2 = tot s := by
  unfold nxc nxd fly tot
  repeat' split
  all_goals rfl
theorem tot_nxt : tot (nxt K H W T R n s).2 = tot s := by unfold nxt; rw [tot_nxc, tot_adv]
theorem tot_prg {d : Int} (h : s.Ok R) (h0 : 0 ≤ d) (hd : d ≤ s.fr) : tot (prg d s) = tot s := by
  have := h.f2
  unfold prg tot
  split
  · rfl
  · simp only [List.length_drop]; omega
theorem tot_rpc {c : Cw} (h : s.Ok R) : tot (rpc H c s).2 = tot s := by
  unfold rpc
  split
  · rfl
  · split
    · rfl
    · unfold rpd
      split
      · rfl
      · have e := tot_prg (d := (c.nx - s.ac) % 256) h (by omega) (by omega)
        rw [← e]
        unfold hld rtx rew tot
        repeat' split
        all_goals rfl
theorem tot_rpt {c : Cw} (h : s.Ok R) : tot (rpt H c n s).2 = tot s := by unfold rpt; rw [tot_rpc (adv_ok h), tot_adv]
theorem tot_unl : tot (unl n s) = tot s := by
  have e : tot (unl n s) = tot (adv n s) := rfl
  rw [e, tot_adv]

theorem sdist8 {x y : Int} (h0 : 0 ≤ x) (h1 : x ≤ 255) (h2 : 0 ≤ y) (h3 : y ≤ 255) : sdist x y 8 = (y - x) % 256 := by
  rw [sdist_ok (Far.vl8 h0 h1) (Far.vl8 h2 h3), Far.pw8]
/-- Distance from the first unit's number -/
theorem dist_first {a y : Int} (h2 : 0 ≤ y) (h3 : y ≤ 255) : sdist (a % 256) y 8 = (y - a) % 256 := by
  rw [sdist8 (by omega) (by omega) h2 h3]
  omega
theorem add_first {a : Int} : sadd 0 a 8 = a % 256 := by
  rw [Far.sadd8 (by decide) (by decide), Int.zero_add]
theorem add_unit {a i : Int} : sadd (a % 256) i 8 = (a + i) % 256 := by
  rw [Far.sadd8 (by omega) (by omega)]
  omega
end
end Go.Proofs.Ytdpjjhbfhlmolaa.Fop

/-
  Byte slices that the call itself makes: append, make, string(b), whatever the source. No dump is imported.
-/
namespace Go.Proofs.Ytdpjjhbfhlmolaa
open Go.RowKit

/-- type t is a slice of bytes, e the byte's type. -/
def IsBytes (P : Program) (t e : TypeId) : Prop :=
  P.underlying t = some (.slice e) ∧ P.underlying e = some (.int .u8) ∧ ∃ i, P.info? e = some i ∧ i.zero = some (.int .u8 0) ∧ i.size = 1 ∧ i.bytes = 1

/-- v is a slice of the call's own (blocks from base on) that holds the bytes l. -/
def Ow (w : World) (base : Nat) (e : TypeId) (v : Value) (l : List Byte) : Prop := w.ownsRow base e 1 v l.length (l.map B8)

theorem B8_one (l : List Byte) : ∀ u ∈ l.map B8, u.oneCell' = true := by
  intro u hu
  obtain ⟨x, _, rfl⟩ := List.mem_map.1 hu
  rfl

theorem Ow.base_le {w : World} {base : Nat} {e : TypeId} {v : Value} {l : List Byte} (h : Ow w base e v l) : ∀ k, v.ownBlock = some k → base ≤ k := by
  intro k hk
  rcases h.2 with ⟨rfl, _⟩ | ⟨g, cap, cur, rfl, hg, _⟩
  · cases hk
  · injection hk with hk; subst hk; exact hg

theorem Ow.reads {w : World} {base : Nat} {e : TypeId} {v : Value} {l : List Byte} (h : Ow w base e v l) :
    ∃ A c, v = .slice A l.length c ∧ Bs w w.heap.size A l ∧ (A = none → c = 0) ∧ l.length ≤ c ∧ c ≤ maxLen := by
  have hcells := fun g cap (hv : v = .slice (some ⟨g, 0, none⟩) l.length cap) => h.cells (g := g) (by rw [hv]; rfl)
  rcases h.2 with ⟨rfl, h0⟩ | ⟨g, cap, cur, rfl, _, hh, hn, hm, _⟩
  · have : l = [] := List.eq_nil_of_length_eq_zero h0
    subst this
    exact ⟨none, 0, rfl, Bs.nil_, fun _ => rfl, by simp, by simp⟩
  · refine ⟨some ⟨g, 0, none⟩, cap, rfl, fun hl => ⟨g, 0, rfl, ?_, fun i x hx => ?_⟩, by simp, hn, hm⟩
    · rcases Nat.lt_or_ge g w.heap.size with hlt | hge
      · exact hlt
      · rw [Array.getElem?_eq_none hge] at hh; cases hh
    · have := hcells g cap rfl i (B8 x) (by simp [hx])
      rcases Nat.eq_zero_or_pos i with rfl | hi
      · simpa [Addr.add] using this
      · have hne : i ≠ 0 := by omega
        simpa [Addr.add, hne] using this

section
variable {P : Program} (w : World)

theorem run_app {t e ty : TypeId} (hT : IsBytes P t e) {base : Nat} {v : Value} {m : List Byte} (hown : Ow w base e v m)
    {B : Nat} {A : Option Addr} {l : List Byte} {c : Nat} (hr : Bs w B A l) (hn : A = none → c = 0) (h47 : m.length + l.length ≤ 140737488355328) (hbase : base ≤ w.heap.size) :
    ∃ v' w', (Builtin.append_ #[t, t] ty #[v, .slice A l.length c]).run P w = .ok v' w' ∧ Ow w' base e v' (m ++ l) ∧ w.grownBy w' v.ownBlock ∧ (v'.ownBlock = v.ownBlock ∨ v'.ownBlock = some w.heap.size) := by
  obtain ⟨ht, _, i, hi, hz, h1, h2⟩ := hT
  cases A with
  | none =>
    have hl : l = [] := by
      rcases Nat.eq_zero_or_pos l.length with h0 | h0
      · exact List.eq_nil_of_length_eq_zero h0
      · obtain ⟨b, off, h, _⟩ := hr h0; cases h
    subst hl
    obtain rfl : c = 0 := hn rfl
    exact ⟨v, w, run_append_owned_none w base t ty e i 1 ht hi v m.length _ hown, by simpa using hown, World.grownBy.refl w _, .inl rfl⟩
  | some ad =>
    obtain ⟨v', w', hrun, ho, hg, _, h5⟩ := run_append_own_at (P := P) w base t ty e i (.int .u8 0) 1 1 ht hi hz h1 h2 rfl (by decide) v m.length (m.map B8) hown ad l.length c (l.map B8)
      (by simp) (fun j u hu => by
        rw [List.getElem?_map] at hu
        cases hx : l[j]? with
        | none => rw [hx] at hu; cases hu
        | some x =>
          rw [hx] at hu
          injection hu with hu
          subst hu
          have hj := (List.getElem?_eq_some_iff.1 hx).1
          obtain ⟨b, off, he, _, hc⟩ := hr (by omega)
          injection he with he
          subst he
          by_cases h0 : j = 0
          · subst h0; simpa [Addr.add] using hc 0 x hx
          · simpa [Addr.add, h0] using hc j x hx) (B8_one l) (by unfold maxLen; omega) (by omega) hbase
    exact ⟨v', w', hrun, by unfold Ow; rw [List.length_append, List.map_append]; exact ho, hg, h5⟩

theorem wp_app {t e : TypeId} (hT : IsBytes P t e) {o : Oper} {a : Act} {K : Act → World → Prop} {Q : Exit → Act → World → Prop} (s x : Operand)
    (ho : o.op = .call { callee := .builtin .append, args := #[s, x], argTypes := #[t, t] })
    {base : Nat} {v : Value} {m : List Byte} (hs : a.eval s = v) (hown : Ow w base e v m)
    {B : Nat} {A : Option Addr} {l : List Byte} {c : Nat} (hx : a.eval x = .slice A l.length c) (hr : Bs w B A l) (hn : A = none → c = 0) (h47 : m.length + l.length ≤ 140737488355328) (hbase : base ≤ w.heap.size)
    (h : ∀ v' w', Ow w' base e v' (m ++ l) → w.grownBy w' v.ownBlock → K (a.put o.dst v') w') : o.wp P a w K Q := by
  obtain ⟨v', w', hrun, h2, h3, _⟩ := run_app (P := P) (ty := o.type) w hT hown hr hn h47 hbase
  unfold Oper.wp execOp
  simp only [ho, resolve, invoke, builtin, Sem.run_bind, Sem.run_pure, Result.andThen_ok, List.map_toArray, List.map_cons, List.map_nil, hs, hx, hrun]
  exact h v' w' h2 h3

theorem wpList_app {t e : TypeId} (hT : IsBytes P t e) {ops : Array Oper} {rest : List Oper} {o : Oper} {a : Act} {Q : Exit → Act → World → Prop} (hgd : o.guard = none) (s x : Operand)
    (ho : o.op = .call { callee := .builtin .append, args := #[s, x], argTypes := #[t, t] })
    {base : Nat} {v : Value} {m : List Byte} (hs : a.eval s = v) (hown : Ow w base e v m)
    {B : Nat} {A : Option Addr} {l : List Byte} {c : Nat} (hx : a.eval x = .slice A l.length c) (hr : Bs w B A l) (hn : A = none → c = 0) (h47 : m.length + l.length ≤ 140737488355328) (hbase : base ≤ w.heap.size)
    (h : ∀ v' w', Ow w' base e v' (m ++ l) → w.grownBy w' v.ownBlock → wpList P ops Q rest (a.put o.dst v') w') : wpList P ops Q (o :: rest) a w :=
  wpList_plain hgd fun _ hK => wp_app w hT s x ho hs hown hx hr hn h47 hbase fun v' w' h2 h3 => hK _ _ (h v' w' h2 h3)

theorem wp_appAt {t e : TypeId} (hT : IsBytes P t e) {o : Oper} {a : Act} {K : Act → World → Prop} {Q : Exit → Act → World → Prop} (s x : Operand)
    (ho : o.op = .call { callee := .builtin .append, args := #[s, x], argTypes := #[t, t] })
    {base : Nat} {v : Value} {m : List Byte} (hs : a.eval s = v) (hown : Ow w base e v m)
    {B : Nat} {A : Option Addr} {l : List Byte} {c : Nat} (hx : a.eval x = .slice A l.length c) (hr : Bs w B A l) (hn : A = none → c = 0) (h47 : m.length + l.length ≤ 140737488355328) (hbase : base ≤ w.heap.size)
    (h : ∀ v' w', Ow w' base e v' (m ++ l) → w.grownBy w' v.ownBlock → (v'.ownBlock = v.ownBlock ∨ v'.ownBlock = some w.heap.size) → K (a.put o.dst v') w') : o.wp P a w K Q := by
  obtain ⟨v', w', hrun, h2, h3, h4⟩ := run_app (P := P) (ty := o.type) w hT hown hr hn h47 hbase
  unfold Oper.wp execOp
  simp only [ho, resolve, invoke, builtin, Sem.run_bind, Sem.run_pure, Result.andThen_ok, List.map_toArray, List.map_cons, List.map_nil, hs, hx, hrun]
  exact h v' w' h2 h3 h4

theorem wpList_appAt {t e : TypeId} (hT : IsBytes P t e) {ops : Array Oper} {rest : List Oper} {o : Oper} {a : Act} {Q : Exit → Act → World → Prop} (hgd : o.guard = none) (s x : Operand)
    (ho : o.op = .call { callee := .builtin .append, args := #[s, x], argTypes := #[t, t] })
    {base : Nat} {v : Value} {m : List Byte} (hs : a.eval s = v) (hown : Ow w base e v m)
    {B : Nat} {A : Option Addr} {l : List Byte} {c : Nat} (hx : a.eval x = .slice A l.length c) (hr : Bs w B A l) (hn : A = none → c = 0) (h47 : m.length + l.length ≤ 140737488355328) (hbase : base ≤ w.heap.size)
    (h : ∀ v' w', Ow w' base e v' (m ++ l) → w.grownBy w' v.ownBlock → (v'.ownBlock = v.ownBlock ∨ v'.ownBlock = some w.heap.size) → wpList P ops Q rest (a.put o.dst v') w') : wpList P ops Q (o :: rest) a w :=
  wpList_plain hgd fun _ hK => wp_appAt w hT s x ho hs hown hx hr hn h47 hbase fun v' w' h2 h3 h4 => hK _ _ (h v' w' h2 h3 h4)

theorem Bs_new2 (w : World) (e : TypeId) (x y : Byte) (m n : Int) (hm : m = (x.toNat : Int)) (hn : n = (y.toNat : Int)) :
    Bs (w.alloc (.cells #[.int .u8 m, .int .u8 n] e)) (w.heap.size + 1) (some ⟨w.heap.size, 0, none⟩) [x, y] := fun _ => by
  refine ⟨w.heap.size, 0, rfl, by omega, fun i z hz => ?_⟩
  subst hm hn
  rw [Nat.zero_add, cell_of_row _ _ i _ e (0, 0) (heap_alloc_new w _)]
  match i, hz with
  | 0, hz => simp at hz; subst hz; rfl
  | 1, hz => simp at hz; subst hz; rfl
theorem Bs_new1 (w : World) (e : TypeId) (x : Byte) (m : Int) (hm : m = (x.toNat : Int)) :
    Bs (w.alloc (.cells #[.int .u8 m] e)) (w.heap.size + 1) (some ⟨w.heap.size, 0, none⟩) [x] := fun _ => by
  refine ⟨w.heap.size, 0, rfl, by omega, fun i z hz => ?_⟩
  subst hm
  rw [Nat.zero_add, cell_of_row _ _ i _ e (0, 0) (heap_alloc_new w _)]
  match i, hz with
  | 0, hz => simp at hz; subst hz; rfl

theorem Bs_new (w : World) (e : TypeId) (l : List Byte) (C : Array Value) (hC : C = (l.map B8).toArray) (B : Nat) (hB : w.heap.size < B) (fr : Nat × Nat := (0, 0)) :
    Bs (w.alloc (.cells C e fr)) B (some ⟨w.heap.size, 0, none⟩) l := fun _ => by
  refine ⟨w.heap.size, 0, rfl, hB, fun i z hz => ?_⟩
  rw [Nat.zero_add, cell_of_row _ _ i _ e fr (heap_alloc_new w _), hC]
  simp [hz]
theorem Ow_empty (w : World) (base : Nat) (e : TypeId) (h : base ≤ w.heap.size) : Ow (w.alloc (.cells #[] e)) base e (.slice (some ⟨w.heap.size, 0, none⟩) 0 0) [] :=
  ⟨rfl, .inr ⟨w.heap.size, 0, #[], rfl, h, heap_alloc_new w _, Nat.le_refl _, by simp, rfl, rfl⟩⟩

theorem step_app {t e : TypeId} (hT : IsBytes P t e) {ops : Array Oper} {o : Oper} {a : Act} {K : Act → World → Prop} {Q : Exit → Act → World → Prop} {E : Prop} (hgd : o.guard = none) (s x : Operand)
    (ho : o.op = .call { callee := .builtin .append, args := #[s, x], argTypes := #[t, t] })
    {base : Nat} {v : Value} {m : List Byte} (hs : a.eval s = v) (hown : Ow w base e v m)
    {B : Nat} {A : Option Addr} {l : List Byte} {c : Nat} (hx : a.eval x = .slice A l.length c) (hr : Bs w B A l) (hn : A = none → c = 0) (h47 : m.length + l.length ≤ 140737488355328) (hbase : base ≤ w.heap.size)
    (h : ∀ v' w', Ow w' base e v' (m ++ l) → w.grownBy w' v.ownBlock → K (a.put o.dst v') w') :
    if Region.wanted o (yielded ops a.tmps) = true then Oper.wp P o a w K Q else E := by
  have hw : Region.wanted o (yielded ops a.tmps) = true := by simp [Region.wanted, hgd]
  rw [if_pos hw]
  exact wp_app w hT s x ho hs hown hx hr hn h47 hbase h

theorem step_appAt {t e : TypeId} (hT : IsBytes P t e) {ops : Array Oper} {o : Oper} {a : Act} {K : Act → World → Prop} {Q : Exit → Act → World → Prop} {E : Prop} (hgd : o.guard = none) (s x : Operand)
    (ho : o.op = .call { callee := .builtin .append, args := #[s, x], argTypes := #[t, t] })
    {base : Nat} {v : Value} {m : List Byte} (hs : a.eval s = v) (hown : Ow w base e v m)
    {B : Nat} {A : Option Addr} {l : List Byte} {c : Nat} (hx : a.eval x = .slice A l.length c) (hr : Bs w B A l) (hn : A = none → c = 0) (h47 : m.length + l.length ≤ 140737488355328) (hbase : base ≤ w.heap.size)
    (h : ∀ v' w', Ow w' base e v' (m ++ l) → w.grownBy w' v.ownBlock → (v'.ownBlock = v.ownBlock ∨ v'.ownBlock = some w.heap.size) → K (a.put o.dst v') w') :
    if Region.wanted o (yielded ops a.tmps) = true then Oper.wp P o a w K Q else E := by
  have hw : Region.wanted o (yielded ops a.tmps) = true := by simp [Region.wanted, hgd]
  rw [if_pos hw]
  exact wp_appAt w hT s x ho hs hown hx hr hn h47 hbase h

theorem Bs.drew {w : World} {B : Nat} {a : Option Addr} {l : List Byte} (h : Bs w B a l) : Bs w.drew B a l := h
theorem Ow.drew {w : World} {base : Nat} {e : TypeId} {v : Value} {l : List Byte} (h : Ow w base e v l) : Ow w.drew base e v l := World.ownsRow.drew h
theorem Ow.alloc {w : World} {base : Nat} {e : TypeId} {v : Value} {l : List Byte} (h : Ow w base e v l) (o : Obj) : Ow (w.alloc o) base e v l := World.ownsRow.alloc h o

/-! ### string(b) -/
def str (l : List Byte) : ByteArray := ⟨(l.map UInt8.ofBitVec).toArray⟩
theorem str_inj {l m : List Byte} (h : str l = str m) : l = m := by
  unfold str at h
  injection h with h
  have h2 : l.map UInt8.ofBitVec = m.map UInt8.ofBitVec := by simpa using congrArg Array.toList h
  exact (List.map_inj_right (fun x y e => by injection e)).1 h2

theorem str_toList (l : List Byte) : (str l).toList = l.map UInt8.ofBitVec := ByteArray.toList_mk _
theorem str_beq (l m : List Byte) : ((str l).toList == (str m).toList) = decide (l = m) := by
  rw [str_toList, str_toList, Bool.eq_iff_iff, beq_iff_eq, decide_eq_true_iff]
  exact List.map_inj_right (fun x y e => by injection e)

theorem run_str {src dst e : TypeId} (hT : IsBytes P src e) (hd : P.underlying dst = some .string) {B : Nat} {A : Option Addr} {l : List Byte} {c : Nat} (hr : Bs w B A l) (hn : A = none → c = 0) :
    (convert src dst (.slice A l.length c)).run P w = .ok (.string (str l)) w := by
  obtain ⟨hs, he, _⟩ := hT
  cases A with
  | none =>
    have hl : l = [] := by
      rcases Nat.eq_zero_or_pos l.length with h0 | h0
      · exact List.eq_nil_of_length_eq_zero h0
      · obtain ⟨b, off, h, _⟩ := hr h0; cases h
    subst hl
    exact Lib.run_convert_nil_bytes w src dst e c hs he hd
  | some ad =>
    have := run_convert_bytes_back (P := P) w src dst e ad c (l.map UInt8.ofBitVec) hs he hd (fun j hj => by
      simp only [List.length_map] at hj
      obtain ⟨b, off, he, _, hc⟩ := hr (by omega)
      injection he with he
      subst he
      have hcj := hc j l[j] (List.getElem?_eq_getElem hj)
      rw [List.getElem_map]
      by_cases h0 : j = 0
      · subst h0; simpa [Addr.add] using hcj
      · simpa [Addr.add, h0] using hcj)
    rw [List.length_map] at this
    exact this
end
end Go.Proofs.Ytdpjjhbfhlmolaa

/-
  Two words: a block that is known whole (Cel), and 'of the old blocks only those of a list may have turned' (Only); what a walk wants of both. No dump is imported.
-/
namespace Go.Proofs.Ytdpjjhbfhlmolaa
open Go.RowKit

/-- block g is just the cells cs of element type t, none of them frozen -/
def Cel (w : World) (g : Nat) (t : TypeId) (cs : Array Value) : Prop := w.heap[g]? = some (.cells cs t (0, 0))

/-- of the blocks that w has, w' may differ in those of the list S alone -/
structure Only (S : List Nat) (w w' : World) : Prop where
  os : w'.os = w.os
  tape : w'.tape = w.tape
  output : w'.output = w.output
  size : w.heap.size ≤ w'.heap.size
  block : ∀ k, k < w.heap.size → k ∉ S → w'.heap[k]? = w.heap[k]?

section
variable {w w' w2 : World} {g : Nat} {t : TypeId} {cs : Array Value} {S T : List Nat}

theorem Cel.lt (h : Cel w g t cs) : g < w.heap.size := lt_of_block h
theorem Cel.cell (h : Cel w g t cs) (i : Nat) : w.cell? ⟨g, i, none⟩ = cs[i]? := by unfold Cel at h; simp [World.cell?, h]
theorem Cel.free (h : Cel w g t cs) (i : Nat) : w.frozen? ⟨g, i, none⟩ = false := by unfold Cel at h; simp [World.frozen?, h]
theorem Cel.new (w : World) (t : TypeId) (cs : Array Value) : Cel (w.alloc (.cells cs t)) w.heap.size t cs := heap_alloc_new w _
theorem Cel.draws (h : Cel w g t cs) (n : Nat) : Cel (w.drewN n) g t cs := h
theorem Cel.put (h : Cel w g t cs) (i : Nat) (u : Value) : Cel (w.setCell ⟨g, i, none⟩ u) g t (cs.setIfInBounds i u) := by
  have hl := h.lt
  unfold Cel at h ⊢
  rw [Array.getElem?_eq_getElem hl] at h
  injection h with h
  show (w.heap.modify g _)[g]? = _
  rw [Array.getElem?_eq_getElem (by simpa using hl), Array.getElem_modify_self, h]
  rfl
theorem Cel.apart {g' : Nat} {t' : TypeId} {cs' : Array Value} (h : Cel w g t cs) (k : Cel w g' t' cs') (ht : t ≠ t') : g ≠ g' := by
  intro e
  subst e
  have : some (Obj.cells cs t (0, 0)) = some (.cells cs' t' (0, 0)) := h.symm.trans k
  simp at this
  exact ht this.2
theorem Cel.only (h : Cel w g t cs) (k : Only S w w') (hg : g ∉ S) : Cel w' g t cs := (k.block g h.lt hg).trans h

theorem Cel.grown {o : Obj} {row : Option Nat} (h : Cel w g t cs) (k : (w.alloc o).grownBy w' row) (hne : row ≠ some g) : Cel w' g t cs :=
  (k.block g (by have := h.lt; simp; omega) (fun e => hne e.symm)).trans ((Below.heap_alloc w o g h.lt).trans h)
theorem Only.refl (S : List Nat) (w : World) : Only S w w := ⟨rfl, rfl, rfl, Nat.le_refl _, fun _ _ _ => rfl⟩
theorem Only.trans (h : Only S w w') (k : Only T w' w2) (hT : ∀ x ∈ T, x ∈ S ∨ w.heap.size ≤ x) : Only S w w2 :=
  ⟨k.os.trans h.os, k.tape.trans h.tape, k.output.trans h.output, Nat.le_trans h.size k.size, fun i hi hn =>
    (k.block i (Nat.lt_of_lt_of_le hi h.size) fun hx => (hT i hx).elim (fun e => hn e) (fun e => by omega)).trans (h.block i hi hn)⟩
theorem Only.more (h : Only S w w') (hS : ∀ x ∈ S, x ∈ T ∨ w.heap.size ≤ x) : Only T w w' :=
  ⟨h.os, h.tape, h.output, h.size, fun i hi hn => h.block i hi fun hx => (hS i hx).elim (fun e => hn e) (fun e => by omega)⟩
theorem Only.below (h : Only S w w') {B : Nat} (hB : B ≤ w.heap.size) (hS : ∀ x ∈ S, B ≤ x) : Below B w w' :=
  ⟨h.os, h.tape, h.output, h.size, fun i hi => h.block i (by omega) fun hx => by have := hS i hx; omega⟩
theorem Only.of_below (h : Below w.heap.size w w') : Only S w w' := ⟨h.os, h.tape, h.output, h.size, fun i hi _ => h.block i hi⟩
theorem Only.of_grown {row : Option Nat} (h : w.grownBy w' row) : Only row.toList w w' :=
  ⟨h.os, h.tape, h.output, h.size, fun i hi hn => h.block i hi fun e => hn (by rw [← e]; simp)⟩
theorem Only.alloc (h : Only S w w') (o : Obj) : Only S w (w'.alloc o) :=
  h.trans (T := []) ⟨rfl, rfl, rfl, by simp, fun k hk _ => Below.heap_alloc _ _ _ hk⟩ (by simp)
theorem Only.put (h : Only S w w') {p : Addr} (hp : p.block ∈ S ∨ w.heap.size ≤ p.block) (u : Value) : Only S w (w'.setCell p u) :=
  h.trans (T := [p.block]) ⟨rfl, rfl, rfl, by simp [World.setCell], fun k _ hn => Below.heap_setCell _ _ _ _ (fun e => hn (by simp [e]))⟩ (by simpa using hp)
theorem Only.draws (h : Only S w w') (n : Nat) : Only S w (w'.drewN n) := ⟨h.os, h.tape, h.output, h.size, h.block⟩
theorem Only.drew (h : Only S w w') : Only S w w'.drew := ⟨h.os, h.tape, h.output, h.size, h.block⟩

variable {base size : Nat} {e : TypeId} {v : Value} {l : List Byte} {n : Nat} {xs : List Value}
theorem own_only (h : w.ownsRow base e size v n xs) (k : Only S w w') (hS : ∀ i, v.ownBlock = some i → i ∉ S) : w'.ownsRow base e size v n xs := by
  refine ⟨h.1, ?_⟩
  rcases h.2 with h2 | ⟨g, cap, cur, rfl, hb, hg, rest⟩
  · exact .inl h2
  · exact .inr ⟨g, cap, cur, rfl, hb, (k.block g (lt_of_block hg) (hS g rfl)).trans hg, rest⟩
theorem Ow.only (h : Ow w base e v l) (k : Only S w w') (hS : ∀ i, v.ownBlock = some i → i ∉ S) : Ow w' base e v l := own_only h k hS
theorem Ow.below (h : Ow w base e v l) (hb : Below w.heap.size w w') : Ow w' base e v l := h.only (Only.of_below (S := []) hb) (by simp)
theorem Ow.draws (h : Ow w base e v l) (n : Nat) : Ow (w.drewN n) base e v l := h
theorem own_lt (h : w.ownsRow base e size v n xs) : ∀ i, v.ownBlock = some i → base ≤ i ∧ i < w.heap.size := h.lt
theorem Ow.lt (h : Ow w base e v l) : ∀ i, v.ownBlock = some i → base ≤ i ∧ i < w.heap.size := World.ownsRow.lt h
theorem own_apart (h : w.ownsRow base e size v n xs) (k : Cel w g t cs) (ht : e ≠ t) : v.ownBlock ≠ some g := by
  rcases h.2 with ⟨rfl, _⟩ | ⟨g', cap, cur, rfl, _, hg, _⟩
  · simp [Value.ownBlock]
  · intro he
    injection he with he
    exact Cel.apart (t := e) hg k ht he
theorem Ow.apart (h : Ow w base e v l) (k : Cel w g t cs) (ht : e ≠ t) : v.ownBlock ≠ some g := own_apart h k ht
theorem Ow.reads_len (h : Ow w base e v l) (hl : l.length = n) : ∃ A c, v = .slice A n c ∧ Bs w w.heap.size A l ∧ (A = none → c = 0) ∧ n ≤ c ∧ c ≤ maxLen := by
  subst hl; exact h.reads
theorem Ow.form_len (h : Ow w base e v l) {m : Nat} (hl : l.length = m + 1) : ∃ gr c, v = .slice (some ⟨gr, 0, none⟩) (m + 1) c ∧ base ≤ gr ∧ gr < w.heap.size ∧ m + 1 ≤ c ∧ c ≤ maxLen ∧
    (∀ i x, l[i]? = some x → w.cell? ⟨gr, i, none⟩ = some (B8 x)) ∧ ∀ i, w.frozen? ⟨gr, i, none⟩ = false := by
  have hcells := fun g (hv : v.ownBlock = some g) => h.cells (g := g) hv
  rcases h.2 with ⟨rfl, h0⟩ | ⟨g, cap, cur, rfl, hb, hh, hn, hm, _⟩
  · omega
  · refine ⟨g, cap, by rw [hl], hb, lt_of_block hh, by omega, hm, fun i x hx => ?_, fun i => Cel.free (t := e) hh i⟩
    have := hcells g rfl i (B8 x) (by simp [hx])
    rcases Nat.eq_zero_or_pos i with rfl | hi
    · simpa [Addr.add] using this
    · have hne : i ≠ 0 := by omega
      simpa [Addr.add, hne] using this
theorem Ow.more (h : Ow w base e v l) {b' : Nat} (hb : b' ≤ base) : Ow w b' e v l := by
  refine ⟨h.1, ?_⟩
  rcases h.2 with h2 | ⟨g, cap, cur, hv, hg, rest⟩
  · exact .inl h2
  · exact .inr ⟨g, cap, cur, hv, by omega, rest⟩
theorem Bs.only {B : Nat} {a : Option Addr} (h : Bs w B a l) (k : Only S w w') (hB : B ≤ w.heap.size) (hS : ∀ x ∈ S, B ≤ x) : Bs w' B a l := h.below (k.below hB hS)

/-- the last byte of a slice of the call's own, written in place -/
theorem Ow.set_ (h : Ow w base e v l) {gr i : Nat} (hv : v.ownBlock = some gr) (x : Byte) : Ow (w.setCell ⟨gr, i, none⟩ (B8 x)) base e v (l.set i x) := by
  obtain ⟨h1, h2⟩ := h
  refine ⟨by simp, ?_⟩
  rcases h2 with ⟨rfl, _⟩ | ⟨g, cap, cur, rfl, hb, hg, hn, hm, hs, ht⟩
  · cases hv
  · injection hv with hv
    have hv' : g = gr := hv
    subst hv'
    refine .inr ⟨g, cap, cur.setIfInBounds i (B8 x), by simp, hb, Cel.put (t := e) hg i (B8 x), by simpa using hn, hm, by simpa using hs, ?_⟩
    rw [Array.toList_setIfInBounds, List.take_set, List.length_set]
    rw [ht, List.map_set]
end
end Go.Proofs.Ytdpjjhbfhlmolaa

/-
  What the walks of every package share: the byte's type, small equations of endings.
-/
namespace Go.Proofs.Ytdpjjhbfhlmolaa
open Go.RowKit

theorem info_u8 : (Try.prog.info? 5).map (fun i => (i.zero, i.size, i.bytes)) = some (some (.int .u8 0), 1, 1) := by kernel_rfl
theorem is_bytes : IsBytes Try.prog 33 5 := by
  obtain ⟨i, h0, h1, h2, h3⟩ := info_parts info_u8
  exact ⟨Try.underlying33, Try.underlying5, i, h0, h1, h2, h3⟩

theorem ret_int {k : IntKind} {a b : Int} (h : a = b) : Ending.returned (.int k a) = .returned (.int k b) := by rw [h]
theorem val_int {k : IntKind} {a b : Int} (h : a = b) : Value.int k a = .int k b := by rw [h]
theorem ret_bool {a b : Bool} (h : a = b) : Ending.returned (.bool a) = .returned (.bool b) := by rw [h]
theorem drewN_below {B : Nat} (w : World) (n : Nat) : Below B w (w.drewN n) := ⟨rfl, rfl, rfl, Nat.le_refl _, fun _ _ => rfl⟩
end Go.Proofs.Ytdpjjhbfhlmolaa

/-
  Slices of elements of k cells each, whatever they are (enc x: the cells of x), in a world: Rs (reads as a list), Os (a slice of the call's own that holds a list); append. No dump is imported.
-/
namespace Go.Proofs.Ytdpjjhbfhlmolaa.Row
open Go.RowKit

/-- what is asked of the elements' cells -/
structure Enc {α : Type} (enc : α → List Value) (k : Nat) : Prop where
  len : ∀ x, (enc x).length = k
  one : ∀ x, ∀ u ∈ enc x, u.oneCell' = true
  pos : 0 < k

section
variable {α : Type} {enc : α → List Value} {k : Nat}
def flat (enc : α → List Value) (l : List α) : List Value := l.flatMap enc
theorem flat_append (a b : List α) : flat enc (a ++ b) = flat enc a ++ flat enc b := List.flatMap_append
theorem flat_cons (x : α) (l : List α) : flat enc (x :: l) = enc x ++ flat enc l := rfl
theorem flat_length (h : Enc enc k) : ∀ l : List α, (flat enc l).length = l.length * k
  | [] => by simp [flat]
  | x :: l => by rw [flat_cons, List.length_append, flat_length h l, h.len, List.length_cons, Nat.succ_mul]; omega
theorem flat_at (h : Enc enc k) : ∀ {l : List α} {i j : Nat} {x : α} {u : Value}, l[i]? = some x → (enc x)[j]? = some u → (flat enc l)[i * k + j]? = some u
  | [], i, j, x, u, hx, _ => by simp at hx
  | y :: l, 0, j, x, u, hx, hu => by
    simp at hx; subst hx
    have hj := (List.getElem?_eq_some_iff.1 hu).1
    rw [flat_cons, Nat.zero_mul, Nat.zero_add, List.getElem?_append_left hj, hu]
  | y :: l, i + 1, j, x, u, hx, hu => by
    rw [flat_cons, List.getElem?_append_right (by rw [h.len, Nat.succ_mul]; omega), h.len, show (i + 1) * k + j - k = i * k + j by rw [Nat.succ_mul]; omega]
    exact flat_at h (by simpa using hx) hu
theorem flat_inv (h : Enc enc k) : ∀ {l : List α} {m : Nat} {u : Value}, (flat enc l)[m]? = some u → ∃ i j x, m = i * k + j ∧ l[i]? = some x ∧ (enc x)[j]? = some u
  | [], m, u, hu => by simp [flat] at hu
  | y :: l, m, u, hu => by
    rw [flat_cons] at hu
    rcases Nat.lt_or_ge m k with hm | hm
    · rw [List.getElem?_append_left (by rw [h.len]; exact hm)] at hu
      exact ⟨0, m, y, by simp, by simp, hu⟩
    · rw [List.getElem?_append_right (by rw [h.len]; exact hm), h.len] at hu
      obtain ⟨i, j, x, e, hx, hj⟩ := flat_inv h hu
      exact ⟨i + 1, j, x, by rw [Nat.succ_mul]; omega, by simpa using hx, hj⟩
theorem flat_one (h : Enc enc k) (l : List α) : ∀ u ∈ flat enc l, u.oneCell' = true := by
  intro u hu
  obtain ⟨x, _, hx⟩ := List.mem_flatMap.1 hu
  exact h.one x u hx

/-- type t is a slice of e; e's zero value z has k cells; an element has 'bytes' bytes -/
def IsRows (P : Program) (t e : TypeId) (z : Value) (k bytes : Nat) : Prop :=
  P.underlying t = some (.slice e) ∧ z.cells.size = k ∧ ∃ i, P.info? e = some i ∧ i.zero = some z ∧ i.size = k ∧ i.bytes = bytes
theorem IsRows.of {P : Program} {t e : TypeId} {z : Value} {k bytes : Nat} (ht : P.underlying t = some (.slice e)) (hz : z.cells.size = k) (h : (P.info? e).map (fun i => (i.zero, i.size, i.bytes)) = some (some z, k, bytes)) : IsRows P t e z k bytes := by
  obtain ⟨i, h0, h1, h2, h3⟩ := info_parts h
  exact ⟨ht, hz, i, h0, h1, h2, h3⟩

/-- 'A' leads to the elements l, all below block B; of the empty list nothing is asked -/
def Rs (enc : α → List Value) (k : Nat) (w : World) (B : Nat) (A : Option Addr) (l : List α) : Prop :=
  0 < l.length → ∃ b off, A = some ⟨b, off, none⟩ ∧ b < B ∧ ∀ i x, l[i]? = some x → ∀ j u, (enc x)[j]? = some u → w.cell? ⟨b, off + i * k + j, none⟩ = some u
/-- v is a slice of the call's own (blocks from base on) that holds l -/
def Os (enc : α → List Value) (k : Nat) (w : World) (base : Nat) (e : TypeId) (v : Value) (l : List α) : Prop := w.ownsRow base e k v l.length (flat enc l)

theorem add_zero_cell (w : World) (g j : Nat) : w.cell? ((⟨g, 0, none⟩ : Addr).add j) = w.cell? ⟨g, j, none⟩ := by
  rcases Nat.eq_zero_or_pos j with rfl | hj
  · rfl
  · have hne : j ≠ 0 := by omega
    simp [Addr.add, hne]

variable {w w' : World} {B B' : Nat} {a : Option Addr} {l : List α} {base : Nat} {e : TypeId} {v : Value} {S : List Nat}
theorem Rs.nil_ : Rs enc k w B a [] := fun h => absurd h (by simp)
theorem Rs.keep (h : Rs enc k w B a l) (hk : ∀ p : Addr, p.block < B → w'.cell? p = w.cell? p) : Rs enc k w' B a l := fun hl => by
  obtain ⟨b, off, rfl, hb, hc⟩ := h hl
  exact ⟨b, off, rfl, hb, fun i x hx j u hu => (hk ⟨b, off + i * k + j, none⟩ hb).trans (hc i x hx j u hu)⟩
theorem Rs.below (h : Rs enc k w B a l) (hb : Below B w w') : Rs enc k w' B a l := h.keep fun _ hp => hb.cell hp
theorem Rs.more (h : Rs enc k w B a l) (hB : B ≤ B') : Rs enc k w B' a l := fun hl => by
  obtain ⟨b, off, rfl, hb, hc⟩ := h hl
  exact ⟨b, off, rfl, by omega, hc⟩
theorem Rs.only (h : Rs enc k w B a l) (q : Only S w w') (hB : B ≤ w.heap.size) (hS : ∀ x ∈ S, B ≤ x) : Rs enc k w' B a l := h.below (q.below hB hS)
theorem Rs.draws (h : Rs enc k w B a l) (n : Nat) : Rs enc k (w.drewN n) B a l := h
theorem Rs.drew (h : Rs enc k w B a l) : Rs enc k w.drew B a l := h
theorem Rs.at_ (h : Rs enc k w B a l) {i : Nat} (hi : i < l.length) : ∃ b off, a = some ⟨b, off, none⟩ ∧ b < B ∧ ∀ j u, (enc l[i])[j]? = some u → w.cell? ⟨b, off + i * k + j, none⟩ = some u := by
  obtain ⟨b, off, rfl, hb, hc⟩ := h (by omega)
  exact ⟨b, off, rfl, hb, hc i _ (List.getElem?_eq_getElem hi)⟩
theorem Rs.take (h : Rs enc k w B a l) (n : Nat) : Rs enc k w B a (l.take n) := fun hl => by
  obtain ⟨b, off, he, hb, hc⟩ := h (by simp at hl; omega)
  refine ⟨b, off, he, hb, fun i x hx => hc i x ?_⟩
  rw [List.getElem?_take] at hx
  split at hx
  · exact hx
  · cases hx
theorem Rs.drop {b off : Nat} (h : Rs enc k w B (some ⟨b, off, none⟩) l) (n : Nat) : Rs enc k w B (some ⟨b, off + n * k, none⟩) (l.drop n) := fun hl => by
  obtain ⟨_, _, he, hb, hc⟩ := h (by simp at hl; omega)
  cases he
  refine ⟨b, off + n * k, rfl, hb, fun i x hx j u hu => ?_⟩
  have := hc (n + i) x (by rw [List.getElem?_drop] at hx; exact hx) j u hu
  rw [show off + n * k + i * k + j = off + (n + i) * k + j by rw [Nat.add_mul]; omega]
  exact this
theorem Rs_new (h : Enc enc k) (w : World) (e : TypeId) (l : List α) (C : Array Value) (hC : C = (flat enc l).toArray) (B : Nat) (hB : w.heap.size < B) : Rs enc k (w.alloc (.cells C e)) B (some ⟨w.heap.size, 0, none⟩) l := fun _ => by
  refine ⟨w.heap.size, 0, rfl, hB, fun i x hx j u hu => ?_⟩
  rw [Nat.zero_add, cell_of_row _ _ _ _ e (0, 0) (heap_alloc_new w _), hC]
  simpa using flat_at h hx hu
theorem Rs_new1 (h : Enc enc k) (w : World) (e : TypeId) (x : α) (C : Array Value) (hC : C = (enc x).toArray) : Rs enc k (w.alloc (.cells C e)) (w.heap.size + 1) (some ⟨w.heap.size, 0, none⟩) [x] := Rs_new h w e [x] C (by rw [hC]; simp [flat]) _ (by omega)

theorem Os.nil_ (w : World) (base : Nat) (e : TypeId) : Os enc k w base e (.slice none 0 0) [] := ⟨by simp [flat], .inl ⟨rfl, rfl⟩⟩
theorem Os.empty (w : World) (base : Nat) (e : TypeId) (hb : base ≤ w.heap.size) : Os enc k (w.alloc (.cells #[] e)) base e (.slice (some ⟨w.heap.size, 0, none⟩) 0 0) [] :=
  ⟨by simp [flat], .inr ⟨w.heap.size, 0, #[], rfl, hb, heap_alloc_new w _, Nat.le_refl _, by simp, by simp, by simp [flat]⟩⟩
theorem Os.lt (h : Os enc k w base e v l) : ∀ i, v.ownBlock = some i → base ≤ i ∧ i < w.heap.size := World.ownsRow.lt h
theorem Os.base_le (h : Os enc k w base e v l) : ∀ i, v.ownBlock = some i → base ≤ i := fun i hi => (h.lt i hi).1
theorem Os.only (h : Os enc k w base e v l) (q : Only S w w') (hS : ∀ i, v.ownBlock = some i → i ∉ S) : Os enc k w' base e v l := own_only h q hS
theorem Os.below (h : Os enc k w base e v l) (hb : Below w.heap.size w w') : Os enc k w' base e v l := h.only (Only.of_below (S := []) hb) (by simp)
theorem Os.alloc (h : Os enc k w base e v l) (o : Obj) : Os enc k (w.alloc o) base e v l := World.ownsRow.alloc h o
theorem Os.draws (h : Os enc k w base e v l) (n : Nat) : Os enc k (w.drewN n) base e v l := h
theorem Os.drew (h : Os enc k w base e v l) : Os enc k w.drew base e v l := World.ownsRow.drew h
theorem Os.grown {o : Obj} {row : Option Nat} (h : Os enc k w base e v l) (q : (w.alloc o).grownBy w' row) (hne : ∀ i, v.ownBlock = some i → row ≠ some i) : Os enc k w' base e v l :=
  (h.alloc o).only (Only.of_grown q) (fun i hi hm => hne i hi (by simpa using hm))
theorem Os.more (h : Os enc k w base e v l) {b' : Nat} (hb : b' ≤ base) : Os enc k w b' e v l := by
  refine ⟨h.1, ?_⟩
  rcases h.2 with h2 | ⟨g, cap, cur, hv, hg, rest⟩
  · exact .inl h2
  · exact .inr ⟨g, cap, cur, hv, by omega, rest⟩
theorem Os.reads (hE : Enc enc k) (h : Os enc k w base e v l) : ∃ A c, v = .slice A l.length c ∧ Rs enc k w w.heap.size A l ∧ (A = none → c = 0) ∧ l.length ≤ c ∧ c ≤ maxLen := by
  have hcells := fun g cap (hv : v = .slice (some ⟨g, 0, none⟩) l.length cap) => World.ownsRow.cells h (g := g) (by rw [hv]; rfl)
  rcases h.2 with ⟨rfl, h0⟩ | ⟨g, cap, cur, rfl, _, hh, hn, hm, _⟩
  · have : l = [] := List.eq_nil_of_length_eq_zero h0
    subst this
    exact ⟨none, 0, rfl, Rs.nil_, fun _ => rfl, by simp, by simp⟩
  · refine ⟨some ⟨g, 0, none⟩, cap, rfl, fun _ => ⟨g, 0, rfl, lt_of_block hh, fun i x hx j u hu => ?_⟩, by simp, hn, hm⟩
    have := hcells g cap rfl (i * k + j) _ (flat_at hE hx hu)
    rw [add_zero_cell] at this
    rw [Nat.zero_add]; exact this
theorem Os.reads_len (hE : Enc enc k) {n : Nat} (h : Os enc k w base e v l) (hl : l.length = n) : ∃ A c, v = .slice A n c ∧ Rs enc k w w.heap.size A l ∧ (A = none → c = 0) ∧ n ≤ c ∧ c ≤ maxLen := by
  subst hl; exact h.reads hE
theorem Os.rs (hE : Enc enc k) {A : Option Addr} {n c : Nat} (h : Os enc k w base e (.slice A n c) l) : Rs enc k w w.heap.size A l := by
  obtain ⟨A', c', he, h2, _⟩ := h.reads hE
  cases he
  exact h2
theorem Os.addr {A : Option Addr} {n c : Nat} (h : Os enc k w base e (.slice A n c) l) : (A = none ∧ c = 0) ∨ ∃ g, A = some ⟨g, 0, none⟩ := by
  rcases h.2 with ⟨he, _⟩ | ⟨g, cap, cur, he, _⟩
  · cases he; exact .inl ⟨rfl, rfl⟩
  · cases he; exact .inr ⟨g, rfl⟩
theorem Os.apart {g : Nat} {t : TypeId} {cs : Array Value} (h : Os enc k w base e v l) (q : Cel w g t cs) (ht : e ≠ t) : v.ownBlock ≠ some g := own_apart h q ht
/-- a block that is known whole, as a slice of the call's own -/
theorem Os_of_cel (hE : Enc enc k) {g : Nat} (h : Cel w g e (flat enc l).toArray) (hb : base ≤ g) (hl : l.length ≤ maxLen) : Os enc k w base e (.slice (some ⟨g, 0, none⟩) l.length l.length) l :=
  ⟨flat_length hE l, .inr ⟨g, l.length, _, rfl, hb, h, Nat.le_refl _, hl, by simp [flat_length hE], List.take_of_length_le (by simp [flat_length hE])⟩⟩

/-! ### append -/
variable {P : Program} (w)
theorem run_row (hE : Enc enc k) {t e ty : TypeId} {z : Value} {bytes : Nat} (hT : IsRows P t e z k bytes) (hby : bytes ≤ 4096) {base : Nat} {v : Value} {m : List α} (hown : Os enc k w base e v m)
    {B : Nat} {A : Option Addr} {l : List α} {c : Nat} (hr : Rs enc k w B A l) (hn : A = none → c = 0) (h47 : m.length + l.length ≤ 34359738368) (hbase : base ≤ w.heap.size) :
    ∃ v' w', (Builtin.append_ #[t, t] ty #[v, .slice A l.length c]).run P w = .ok v' w' ∧ Os enc k w' base e v' (m ++ l) ∧ w.grownBy w' v.ownBlock ∧ (v'.ownBlock = v.ownBlock ∨ v'.ownBlock = some w.heap.size) := by
  obtain ⟨ht, hzc, i, hi, hz, h1, h2⟩ := hT
  cases A with
  | none =>
    have hl : l = [] := by
      rcases Nat.eq_zero_or_pos l.length with h0 | h0
      · exact List.eq_nil_of_length_eq_zero h0
      · obtain ⟨b, off, h, _⟩ := hr h0; cases h
    subst hl
    obtain rfl : c = 0 := hn rfl
    exact ⟨v, w, run_append_owned_none w base t ty e i k ht hi v m.length _ hown, by simpa using hown, World.grownBy.refl w _, .inl rfl⟩
  | some ad =>
    obtain ⟨v', w', hrun, ho, hg, _, h5⟩ := run_append_own_at (P := P) w base t ty e i z k bytes ht hi hz h1 h2 hzc hE.pos v m.length (flat enc m) hown ad l.length c (flat enc l)
      (flat_length hE l) (fun q u hu => by
        obtain ⟨i, j, x, rfl, hx, hj⟩ := flat_inv hE hu
        have hil := (List.getElem?_eq_some_iff.1 hx).1
        obtain ⟨b, off, he, _, hc⟩ := hr (by omega)
        injection he with he
        subst he
        have e2 : w.cell? ((⟨b, off, none⟩ : Addr).add (i * k + j)) = w.cell? ⟨b, off + (i * k + j), none⟩ := by
          rcases Nat.eq_zero_or_pos (i * k + j) with h0 | h0
          · rw [h0]; rfl
          · have hne : i * k + j ≠ 0 := by omega
            simp only [Addr.add, if_neg hne]
        rw [e2, ← Nat.add_assoc]
        exact hc i x hx j u hj) (flat_one hE l) (by unfold maxLen; omega) (Nat.le_trans (Nat.mul_le_mul h47 hby) (by decide)) hbase
    exact ⟨v', w', hrun, by unfold Os; rw [List.length_append, flat_append]; exact ho, hg, h5⟩
theorem wp_row (hE : Enc enc k) {t e : TypeId} {z : Value} {bytes : Nat} (hT : IsRows P t e z k bytes) (hby : bytes ≤ 4096) {o : Oper} {a : Act} {K : Act → World → Prop} {Q : Exit → Act → World → Prop} (s x : Operand)
    (ho : o.op = .call { callee := .builtin .append, args := #[s, x], argTypes := #[t, t] })
    {base : Nat} {v : Value} {m : List α} (hs : a.eval s = v) (hown : Os enc k w base e v m)
    {B n : Nat} {A : Option Addr} {l : List α} {c : Nat} (hl : l.length = n) (hx : a.eval x = .slice A n c) (hr : Rs enc k w B A l) (hn : A = none → c = 0) (h47 : m.length + l.length ≤ 34359738368) (hbase : base ≤ w.heap.size)
    (h : ∀ v' w', Os enc k w' base e v' (m ++ l) → w.grownBy w' v.ownBlock → (v'.ownBlock = v.ownBlock ∨ v'.ownBlock = some w.heap.size) → K (a.put o.dst v') w') : o.wp P a w K Q := by
  subst hl
  obtain ⟨v', w', hrun, h2, h3, h4⟩ := run_row (P := P) (ty := o.type) w hE hT hby hown hr hn h47 hbase
  unfold Oper.wp execOp
  simp only [ho, resolve, invoke, builtin, Sem.run_bind, Sem.run_pure, Result.andThen_ok, List.map_toArray, List.map_cons, List.map_nil, hs, hx, hrun]
  exact h v' w' h2 h3 h4
theorem wpList_row (hE : Enc enc k) {t e : TypeId} {z : Value} {bytes : Nat} (hT : IsRows P t e z k bytes) (hby : bytes ≤ 4096) {ops : Array Oper} {rest : List Oper} {o : Oper} {a : Act} {Q : Exit → Act → World → Prop} (hgd : o.guard = none) (s x : Operand)
    (ho : o.op = .call { callee := .builtin .append, args := #[s, x], argTypes := #[t, t] })
    {base : Nat} {v : Value} {m : List α} (hs : a.eval s = v) (hown : Os enc k w base e v m)
    {B n : Nat} {A : Option Addr} {l : List α} {c : Nat} (hl : l.length = n) (hx : a.eval x = .slice A n c) (hr : Rs enc k w B A l) (hn : A = none → c = 0) (h47 : m.length + l.length ≤ 34359738368) (hbase : base ≤ w.heap.size)
    (h : ∀ v' w', Os enc k w' base e v' (m ++ l) → w.grownBy w' v.ownBlock → (v'.ownBlock = v.ownBlock ∨ v'.ownBlock = some w.heap.size) → wpList P ops Q rest (a.put o.dst v') w') : wpList P ops Q (o :: rest) a w :=
  wpList_plain hgd fun _ hK => wp_row w hE hT hby s x ho hs hown hl hx hr hn h47 hbase fun v' w' h2 h3 h4 => hK _ _ (h v' w' h2 h3 h4)
theorem step_row (hE : Enc enc k) {t e : TypeId} {z : Value} {bytes : Nat} (hT : IsRows P t e z k bytes) (hby : bytes ≤ 4096) {ops : Array Oper} {o : Oper} {a : Act} {K : Act → World → Prop} {Q : Exit → Act → World → Prop} {E : Prop} (hgd : o.guard = none) (s x : Operand)
    (ho : o.op = .call { callee := .builtin .append, args := #[s, x], argTypes := #[t, t] })
    {base : Nat} {v : Value} {m : List α} (hs : a.eval s = v) (hown : Os enc k w base e v m)
    {B n : Nat} {A : Option Addr} {l : List α} {c : Nat} (hl : l.length = n) (hx : a.eval x = .slice A n c) (hr : Rs enc k w B A l) (hn : A = none → c = 0) (h47 : m.length + l.length ≤ 34359738368) (hbase : base ≤ w.heap.size)
    (h : ∀ v' w', Os enc k w' base e v' (m ++ l) → w.grownBy w' v.ownBlock → (v'.ownBlock = v.ownBlock ∨ v'.ownBlock = some w.heap.size) → K (a.put o.dst v') w') :
    if Region.wanted o (yielded ops a.tmps) = true then Oper.wp P o a w K Q else E := by
  have hw : Region.wanted o (yielded ops a.tmps) = true := by simp [Region.wanted, hgd]
  rw [if_pos hw]
  exact wp_row w hE hT hby s x ho hs hown hl hx hr hn h47 hbase h

/-! ### the row behind a slice of the call's own -/
variable {w}
/-- block g holds l and as many cells more as capacity c says -/
def Rw (enc : α → List Value) (k : Nat) (w : World) (e : TypeId) (g c : Nat) (l : List α) : Prop := ∃ sp : List Value, Cel w g e (flat enc l ++ sp).toArray ∧ l.length * k + sp.length = c * k ∧ c ≤ maxLen
theorem Os.row (h : Os enc k w base e v l) (hl : 0 < l.length) : ∃ g c, v = .slice (some ⟨g, 0, none⟩) l.length c ∧ base ≤ g ∧ l.length ≤ c ∧ Rw enc k w e g c l := by
  rcases h.2 with ⟨rfl, h0⟩ | ⟨g, cap, cur, rfl, hb, hh, hn, hm, hs, ht⟩
  · omega
  · refine ⟨g, cap, rfl, hb, hn, cur.toList.drop (l.length * k), ?_, ?_, hm⟩
    · have : flat enc l ++ cur.toList.drop (l.length * k) = cur.toList := by rw [← ht, List.take_append_drop]
      unfold Cel
      rw [this]; exact hh
    · have := Nat.mul_le_mul_right k hn
      rw [List.length_drop, show cur.toList.length = cap * k by simpa using hs]; omega
theorem Rw.os (hE : Enc enc k) {g c : Nat} (h : Rw enc k w e g c l) (hb : base ≤ g) (hc : l.length ≤ c) : Os enc k w base e (.slice (some ⟨g, 0, none⟩) l.length c) l := by
  obtain ⟨sp, hh, hs, hm⟩ := h
  refine ⟨flat_length hE l, .inr ⟨g, c, _, rfl, hb, hh, hc, hm, ?_, ?_⟩⟩
  · simp [flat_length hE]; omega
  · rw [List.toList_toArray, ← flat_length hE l, List.take_left]
/-- one cell of an element, written in place -/
theorem Os.set_ (hE : Enc enc k) {gr i j : Nat} {x x' : α} {u : Value} (h : Os enc k w base e v l) (hv : v.ownBlock = some gr) (hx : l[i]? = some x) (hx' : enc x' = (enc x).set j u) (hj : j < k) : Os enc k (w.setCell ⟨gr, i * k + j, none⟩ u) base e v (l.set i x') := by
  have hil := (List.getElem?_eq_some_iff.1 hx).1
  have hfl : flat enc (l.set i x') = (flat enc l).set (i * k + j) u := by
    apply List.ext_getElem?
    intro m
    by_cases hm : m < l.length * k
    · have hm2 : m < (flat enc l).length := by rw [flat_length hE]; exact hm
      obtain ⟨i2, j2, y, rfl, hy, hyj⟩ := flat_inv hE (List.getElem?_eq_getElem hm2)
      have hj2 : j2 < k := by have := (List.getElem?_eq_some_iff.1 hyj).1; rwa [hE.len] at this
      by_cases e1 : i2 = i
      · subst e1
        rw [hx] at hy
        injection hy with hy
        subst hy
        have hj2' : j2 < (enc x').length := by rw [hE.len]; exact hj2
        rw [flat_at hE (x := x') (by simp [hil]) (List.getElem?_eq_getElem hj2'), List.getElem?_set]
        by_cases e2 : j2 = j
        · subst e2
          rw [if_pos rfl, if_pos hm2]
          congr 1
          rw [List.getElem_of_eq hx', List.getElem_set_self]
        · rw [if_neg (by omega), List.getElem?_eq_getElem hm2, ← hyj, List.getElem?_eq_getElem (by rw [hE.len]; exact hj2)]
          congr 1
          rw [List.getElem_of_eq hx', List.getElem_set_ne (by omega)]
      · have hne : i2 * k + j2 ≠ i * k + j := fun e => e1 (by
          have h1 : (i2 * k + j2) / k = i2 := by rw [Nat.mul_comm, Nat.mul_add_div hE.pos, Nat.div_eq_of_lt hj2, Nat.add_zero]
          have h2 : (i * k + j) / k = i := by rw [Nat.mul_comm, Nat.mul_add_div hE.pos, Nat.div_eq_of_lt hj, Nat.add_zero]
          rw [← h1, e, h2])
        rw [List.getElem?_set_ne (by omega), List.getElem?_eq_getElem hm2]
        exact flat_at hE (by rw [List.getElem?_set_ne (by omega)]; exact hy) hyj
    · rw [List.getElem?_eq_none (by rw [flat_length hE, List.length_set]; omega), List.getElem?_eq_none (by rw [List.length_set, flat_length hE]; omega)]
  obtain ⟨h1, h2⟩ := h
  refine ⟨by rw [flat_length hE], ?_⟩
  rcases h2 with ⟨rfl, _⟩ | ⟨g, cap, cur, rfl, hb, hg, hn, hm, hs, ht⟩
  · cases hv
  · injection hv with hv
    have hv' : g = gr := hv
    subst hv'
    refine .inr ⟨g, cap, cur.setIfInBounds (i * k + j) u, by simp, hb, Cel.put (t := e) hg (i * k + j) u, by simpa using hn, hm, by simpa using hs, ?_⟩
    rw [Array.toList_setIfInBounds, List.take_set, List.length_set, ht, hfl]
end
end Go.Proofs.Ytdpjjhbfhlmolaa.Row

/-
  Copy, clear and append with room on a row that is known whole, at elements of whatever size; lists of cells. No dump is imported.
-/
namespace Go.Proofs.Ytdpjjhbfhlmolaa.Row
open Go.RowKit

section
variable {P : Program} (w : World)

theorem run_copyK (dT sT ty elem : TypeId) (size g o dLen dCap : Nat) (a : Addr) (sLen sCap n : Nat) (cur : List Value) (t : TypeId) (cs : List Value)
    (hu : P.underlying dT = some (.slice elem)) (hs : (P.info? elem).map (·.size) = some size)
    (hg : Cel w g t cur.toArray) (hm : Nat.min sLen dLen = n) (hn : cs.length = n * size)
    (hsrc : ∀ j v, cs[j]? = some v → w.cell? (a.add j) = some v) (hfit : o + cs.length ≤ cur.length) (h1 : ∀ v ∈ cs, v.oneCell' = true) :
    (Builtin.copy_ #[dT, sT] ty #[.slice (some ⟨g, o, none⟩) dLen dCap, .slice (some a) sLen sCap]).run P w =
      .ok (goInt n) (w.setRow g (splice cur o cs).toArray) := by
  have hl := run_loadCells_list (P := P) w a cs hsrc
  have hst := run_storeCells_at P g o t cs 0 cur.toArray w hg (by simpa using hfit) h1
  have esp : splice cur o cs = cur.take (o + 0) ++ cs ++ cur.drop (o + 0 + cs.length) := by simp [splice]
  rw [esp]
  cases hq : P.info? elem with
  | none => simp [hq] at hs
  | some i =>
    have hi : i.size = size := by simpa [hq] using hs
    simp [Builtin.copy_, run_underlying hu, Builtin.lenOf, Builtin.firstCells, sizeOf, typeInfo, hq, hi, ← hn, hm, hl, hst]

theorem run_clearK (tS ty elem : TypeId) (z : Value) (g o n c : Nat) (cur : List Value) (t : TypeId) (cs : List Value)
    (hu : P.underlying tS = some (.slice elem)) (hv : ∀ w, (zeroValue elem).run P w = .ok z w) (hcs : z.cells.toList = cs) (hn : n = 1)
    (hg : Cel w g t cur.toArray) (hfit : o + cs.length ≤ cur.length) (h1 : ∀ v ∈ cs, v.oneCell' = true) :
    (Builtin.clear_ #[tS] ty #[.slice (some ⟨g, o, none⟩) n c]).run P w = .ok (.tuple #[]) (w.setRow g (splice cur o cs).toArray) := by
  subst hn
  have hz : (Builtin.zeroCells z.cells 1).toList = cs := by
    rw [← hcs]
    apply List.ext_getElem
    · simp [Builtin.zeroCells]
    · intro i k1 k2
      simp [Builtin.zeroCells] at k1 k2 ⊢
      simp [Nat.mod_eq_of_lt k2]
      exact getElem!_pos z.cells i k2
  have hst := run_storeCells_at P g o t cs 0 cur.toArray w hg (by simpa using hfit) h1
  have esp : splice cur o cs = cur.take (o + 0) ++ cs ++ cur.drop (o + 0 + cs.length) := by simp [splice]
  rw [esp]
  simp [Builtin.clear_, run_underlying hu, hv, hz, hst]

theorem run_appendK (t ty e : TypeId) (size g n c : Nat) (a : Addr) (m c' r : Nat) (cur : List Value) (T : TypeId) (news : List Value)
    (hu : P.underlying t = some (.slice e)) (hs : (P.info? e).map (·.size) = some size) (hg : Cel w g T cur.toArray) (hl : news.length = m * size)
    (hsrc : ∀ j v, news[j]? = some v → w.cell? (a.add j) = some v) (hroom : n + m ≤ c) (hr : n + m = r) (hfit : n * size + news.length ≤ cur.length) (h1 : ∀ v ∈ news, v.oneCell' = true) :
    (Builtin.append_ #[t, t] ty #[.slice (some ⟨g, 0, none⟩) n c, .slice (some a) m c']).run P w = .ok (.slice (some ⟨g, 0, none⟩) r c) (w.setRow g (splice cur (n * size) news).toArray) := by
  have hst := run_storeCells_at P g (n * size) T news 0 cur.toArray w hg (by simpa using hfit) h1
  have esp : splice cur (n * size) news = cur.take (n * size + 0) ++ news ++ cur.drop (n * size + 0 + news.length) := by simp [splice]
  rw [esp]
  subst hr
  cases hq : P.info? e with
  | none => simp [hq] at hs
  | some i =>
    have hi : i.size = size := by simpa [hq] using hs
    have hfc := run_firstCells_some (P := P) w size m a m c' news hl hsrc
    simp [Builtin.append_, run_underlying hu, sizeOf, typeInfo, hq, hi, Builtin.lenOf, hroom, hfc, Addr.add_lit, hst]

/-- a builtin of two operands whose run is known -/
theorem wp_bi2 {bi : Builtin} {o : Oper} {a : Act} {K : Act → World → Prop} {Q : Exit → Act → World → Prop} (d s : Operand) (t t' : TypeId)
    (ho : o.op = .call { callee := .builtin bi, args := #[d, s], argTypes := #[t, t'] }) (v u : Value) (hd : a.eval d = v) (hs : a.eval s = u) {v' : Value} {w' : World}
    (hbi : bi = .copy ∨ bi = .append)
    (hr : (match bi with | .copy => Builtin.copy_ #[t, t'] o.type #[v, u] | _ => Builtin.append_ #[t, t'] o.type #[v, u]).run P w = .ok v' w') (h : K (a.put o.dst v') w') : o.wp P a w K Q := by
  rcases hbi with rfl | rfl
  all_goals
    unfold Oper.wp execOp
    simp only [ho, resolve, invoke, builtin, Sem.run_bind, Sem.run_pure, Result.andThen_ok, List.map_toArray, List.map_cons, List.map_nil, hd, hs, hr]
    exact h
theorem wpList_copyK {ops : Array Oper} {rest : List Oper} {o : Oper} {a : Act} {Q : Exit → Act → World → Prop} (hgd : o.guard = none) (d s : Operand) (t t' : TypeId)
    (ho : o.op = .call { callee := .builtin .copy, args := #[d, s], argTypes := #[t, t'] }) (v u : Value) (hd : a.eval d = v) (hs : a.eval s = u) {v' : Value} {w' : World}
    (hr : (Builtin.copy_ #[t, t'] o.type #[v, u]).run P w = .ok v' w') (h : wpList P ops Q rest (a.put o.dst v') w') : wpList P ops Q (o :: rest) a w :=
  wpList_plain hgd fun _ hK => wp_bi2 w d s t t' ho v u hd hs (.inl rfl) hr (hK _ _ h)
theorem step_copyK {ops : Array Oper} {o : Oper} {a : Act} {K : Act → World → Prop} {Q : Exit → Act → World → Prop} {E : Prop} (hgd : o.guard = none) (d s : Operand) (t t' : TypeId)
    (ho : o.op = .call { callee := .builtin .copy, args := #[d, s], argTypes := #[t, t'] }) (v u : Value) (hd : a.eval d = v) (hs : a.eval s = u) {v' : Value} {w' : World}
    (hr : (Builtin.copy_ #[t, t'] o.type #[v, u]).run P w = .ok v' w') (h : K (a.put o.dst v') w') : if Region.wanted o (yielded ops a.tmps) = true then Oper.wp P o a w K Q else E := by
  have hw : Region.wanted o (yielded ops a.tmps) = true := by simp [Region.wanted, hgd]
  rw [if_pos hw]
  exact wp_bi2 w d s t t' ho v u hd hs (.inl rfl) hr h
theorem wpList_appendK {ops : Array Oper} {rest : List Oper} {o : Oper} {a : Act} {Q : Exit → Act → World → Prop} (hgd : o.guard = none) (d s : Operand) (t t' : TypeId)
    (ho : o.op = .call { callee := .builtin .append, args := #[d, s], argTypes := #[t, t'] }) (v u : Value) (hd : a.eval d = v) (hs : a.eval s = u) {v' : Value} {w' : World}
    (hr : (Builtin.append_ #[t, t'] o.type #[v, u]).run P w = .ok v' w') (h : wpList P ops Q rest (a.put o.dst v') w') : wpList P ops Q (o :: rest) a w :=
  wpList_plain hgd fun _ hK => wp_bi2 w d s t t' ho v u hd hs (.inr rfl) hr (hK _ _ h)
theorem step_appendK {ops : Array Oper} {o : Oper} {a : Act} {K : Act → World → Prop} {Q : Exit → Act → World → Prop} {E : Prop} (hgd : o.guard = none) (d s : Operand) (t t' : TypeId)
    (ho : o.op = .call { callee := .builtin .append, args := #[d, s], argTypes := #[t, t'] }) (v u : Value) (hd : a.eval d = v) (hs : a.eval s = u) {v' : Value} {w' : World}
    (hr : (Builtin.append_ #[t, t'] o.type #[v, u]).run P w = .ok v' w') (h : K (a.put o.dst v') w') : if Region.wanted o (yielded ops a.tmps) = true then Oper.wp P o a w K Q else E := by
  have hw : Region.wanted o (yielded ops a.tmps) = true := by simp [Region.wanted, hgd]
  rw [if_pos hw]
  exact wp_bi2 w d s t t' ho v u hd hs (.inr rfl) hr h
end

section
variable {w w' : World} {g : Nat} {S : List Nat}
theorem Cel_row {t : TypeId} {cs : Array Value} (h : Cel w g t cs) (l : List Value) : Cel (w.setRow g l.toArray) g t l.toArray := setRow_heap w g _ _ t _ h
theorem only_setRow (w : World) (g : Nat) (cs : Array Value) : Only [g] w (w.setRow g cs) :=
  ⟨rfl, rfl, rfl, by simp [World.setRow], fun k _ hn => setRow_other w g k cs (by simpa using hn)⟩
theorem Only_row (h : Only S w w') (hg : g ∈ S ∨ w.heap.size ≤ g) (cs : Array Value) : Only S w (w'.setRow g cs) :=
  h.trans (only_setRow w' g cs) (by simpa using hg)
end

/-! ### lists of cells -/
theorem splice_delete (fa ex fb sp : List Value) (z : List Value) (hz : z.length = ex.length) :
    ∃ sp', splice (splice (fa ++ (ex ++ (fb ++ sp))) fa.length fb) (fa ++ fb).length z = (fa ++ fb) ++ sp' ∧ sp'.length = ex.length + sp.length := by
  have e1 : splice (fa ++ (ex ++ (fb ++ sp))) fa.length fb = (fa ++ fb) ++ (ex ++ (fb ++ sp)).drop fb.length := by
    unfold splice
    rw [List.take_left, List.drop_append, List.drop_eq_nil_of_le («as» := fa) (by omega), Nat.add_sub_cancel_left, List.nil_append, List.append_assoc]
  rw [e1]
  refine ⟨z ++ ((ex ++ (fb ++ sp)).drop fb.length).drop z.length, ?_, ?_⟩
  · unfold splice
    rw [List.take_left, List.drop_append, List.drop_eq_nil_of_le («as» := fa ++ fb) (by omega), Nat.add_sub_cancel_left, List.nil_append]
  · simp; omega
theorem splice_insert (fa ex fb sp : List Value) (hs : ex.length ≤ sp.length) :
    ∃ sp', splice (splice (fa ++ (fb ++ sp)) (fa.length + ex.length) fb) fa.length ex = (fa ++ (ex ++ fb)) ++ sp' ∧ sp'.length + ex.length = sp.length := by
  refine ⟨sp.drop ex.length, ?_, by simp; omega⟩
  have h1 : (splice (fa ++ (fb ++ sp)) (fa.length + ex.length) fb).take fa.length = fa := by
    unfold splice
    rw [List.take_append_of_le_length (by simp), List.take_take, Nat.min_eq_left (by omega), List.take_left]
  have h2 : (splice (fa ++ (fb ++ sp)) (fa.length + ex.length) fb).drop (fa.length + ex.length) = fb ++ sp.drop ex.length := by
    unfold splice
    rw [List.drop_append, List.drop_eq_nil_of_le (by simp; omega), List.nil_append, List.length_take, Nat.min_eq_left (by simp; omega), Nat.sub_self, List.drop_zero]
    congr 1
    rw [List.drop_append, List.drop_eq_nil_of_le (by omega), List.nil_append, List.drop_append, List.drop_eq_nil_of_le (by omega), List.nil_append]
    congr 1; omega
  rw [splice, h1, h2]; simp
theorem splice_grow (fa ex fb zs : List Value) (hz : ex.length + fb.length ≤ zs.length) :
    ∃ sp', splice (splice (fa ++ zs) fa.length ex) (fa.length + ex.length) fb = (fa ++ (ex ++ fb)) ++ sp' ∧ sp'.length + ex.length + fb.length = zs.length := by
  have e1 : splice (fa ++ zs) fa.length ex = (fa ++ ex) ++ zs.drop ex.length := by
    unfold splice
    rw [List.take_left, List.drop_append, List.drop_eq_nil_of_le («as» := fa) (by omega), Nat.add_sub_cancel_left, List.nil_append, List.append_assoc]
  refine ⟨(zs.drop ex.length).drop fb.length, ?_, by simp; omega⟩
  rw [e1, ← List.length_append]
  unfold splice
  rw [List.take_left, List.drop_append, List.drop_eq_nil_of_le («as» := fa ++ ex) (by omega), Nat.add_sub_cancel_left, List.nil_append]
  simp
end Go.Proofs.Ytdpjjhbfhlmolaa.Row

/-
  Slices of strings: how a string lies, what the type is; package slices at strings: Clone, Delete of the first n.
-/
namespace Go.Proofs.Ytdpjjhbfhlmolaa.Strs
open Go.RowKit Go.Shelf

/-- a string's cell -/
def senc (l : List Byte) : List Value := [.string (str l)]
theorem senc_ok : Row.Enc senc 1 := ⟨fun _ => rfl, fun x u hu => by
  simp only [senc, List.mem_cons, List.not_mem_nil, or_false] at hu
  subst hu; rfl, by decide⟩
theorem info_str : (Try.prog.info? 9).map (fun i => (i.zero, i.size, i.bytes)) = some (some (.string ⟨#[]⟩), 1, 16) := by kernel_rfl
theorem is_strs : Row.IsRows Try.prog 66 9 (.string ⟨#[]⟩) 1 16 := Row.IsRows.of Try.underlying66 rfl info_str
/-- v is a slice of the call's own that holds the strings l -/
abbrev So (w : World) (base : Nat) (v : Value) (l : List (List Byte)) : Prop := Row.Os senc 1 w base 9 v l

theorem flat_map (l : List (List Byte)) : Row.flat senc l = l.map fun x => Value.string (str x) := by
  induction l with
  | nil => rfl
  | cons x l ih => rw [Row.flat_cons, ih]; rfl

theorem run_clearN {P : Program} (w : World) (tS ty elem : TypeId) (z : Value) (g o n c : Nat) (cur : List Value) (t : TypeId)
    (hu : P.underlying tS = some (.slice elem)) (hv : ∀ w, (zeroValue elem).run P w = .ok z w) (hz1 : z.cells = #[z])
    (hg : Cel w g t cur.toArray) (hfit : o + n ≤ cur.length) (h1 : z.oneCell' = true) (hn : 1 ≤ n) :
    (Builtin.clear_ #[tS] ty #[.slice (some ⟨g, o, none⟩) n c]).run P w = .ok (.tuple #[]) (w.setRow g (splice cur o (List.replicate n z)).toArray) := by
  have hz : (Builtin.zeroCells z.cells n).toList = List.replicate n z := by
    rw [hz1]
    apply List.ext_getElem
    · simp [Builtin.zeroCells]
    · intro i k1 k2
      simp [Builtin.zeroCells, Nat.mod_one]
  have hst := run_storeCells_at P g o t (List.replicate n z) 0 cur.toArray w hg (by simpa using hfit) (fun u hu => by rw [List.eq_of_mem_replicate hu]; exact h1)
  have esp : splice cur o (List.replicate n z) = cur.take (o + 0) ++ List.replicate n z ++ cur.drop (o + 0 + (List.replicate n z).length) := by simp [splice]
  rw [esp]
  obtain ⟨k, rfl⟩ : ∃ k, n = k + 1 := ⟨n - 1, by omega⟩
  simp [Builtin.clear_, run_underlying hu, hv, hz, hst]

set_option maxHeartbeats 1000000 in
theorem sclone_any (L : List (List Byte)) (n : Nat) (w : World) (A : Option Addr) (c : Nat) (hL : L.length = n) (hr : Row.Rs senc 1 w w.heap.size A L) (hn : A = none → c = 0) (hl : n ≤ 1000000) :
    Calls Try.prog 52 #[.slice A n c] w fun e w' => ∃ v, e = .returned v ∧ So w' w.heap.size v L ∧ Below w.heap.size w w' := by
  subst hL
  have q := fun (w : World) (a : Option Addr) (n c n' c' : Nat) => Lib.run_eql_slice_nil w 66 9 a n c n' c' Try.underlying66
  cases A with
  | none =>
    have hL : L = [] := by
      rcases Nat.eq_zero_or_pos L.length with h0 | h0
      · exact List.eq_nil_of_length_eq_zero h0
      · obtain ⟨b, off, h, _⟩ := hr h0; cases h
    subst hL
    clear hr
    go_enter Try.func52, Try.ntmps52
    go_wp2
    go_ret
    exact ⟨_, rfl, Row.Os.nil_ _ _ _, Below.refl _ _⟩
  | some a =>
    obtain ⟨ab, ao, asp⟩ := a
    have b1 : Below w.heap.size w (w.alloc (.cells #[] 9)) := (Below.refl _ w).alloc (Nat.le_refl _) _
    have hr1 := (hr.below b1)
    have ho1 : So (w.alloc (.cells #[] 9)) w.heap.size (.slice (some ⟨w.heap.size, 0, none⟩) 0 0) [] := Row.Os.empty _ _ _ (Nat.le_refl _)
    clear hr
    go_enter Try.func52, Try.ntmps52
    go_wp2_with (at_builtin; refine Row.wpList_row _ senc_ok is_strs (by decide) rfl (.tmp 5) (.tmp 6) rfl rfl ho1 (l := L) rfl rfl hr1 hn (by simp; omega) (by simp) ?_; intro v2 w2 hown2 hg2 hv2)
    go_ret
    exact ⟨_, rfl, by simpa using hown2, b1.grown hg2 (by simp) (fun i hi => by have := ho1.base_le i hi; omega)⟩

set_option maxHeartbeats 4000000 in
set_option maxRecDepth 100000 in
theorem sdelete_any (EX FB : List (List Byte)) (n : Nat) (w : World) (base : Nat) (v : Value) (hn : EX.length = n) (h1 : 1 ≤ n) (h : So w base v (EX ++ FB)) (hl : (EX ++ FB).length ≤ 1000000) :
    Calls Try.prog 67 #[v, .int .i64 0, .int .i64 (n : Int)] w fun e w' => ∃ v', e = .returned v' ∧ So w' base v' FB ∧ v'.ownBlock = v.ownBlock ∧ Only v.ownBlock.toList w w' := by
  obtain ⟨g, c, rfl, hb, hcl, sp, hg, hs, hm⟩ := h.row (by rw [List.length_append]; omega)
  clear h
  obtain ⟨m, hmm⟩ : ∃ m, m = FB.length := ⟨_, rfl⟩
  have hnm : (EX ++ FB).length = n + m := by rw [List.length_append]; omega
  rw [hnm] at hs hl hcl ⊢
  rw [Nat.mul_one, Nat.mul_one] at hs
  obtain ⟨SE, hSE⟩ : ∃ SE, SE = Row.flat senc EX := ⟨_, rfl⟩
  obtain ⟨SF, hSF⟩ : ∃ SF, SF = Row.flat senc FB := ⟨_, rfl⟩
  have hlE : SE.length = n := by rw [hSE, Row.flat_length senc_ok, Nat.mul_one, hn]
  have hlF : SF.length = m := by rw [hSF, Row.flat_length senc_ok, Nat.mul_one, hmm]
  have h1F : ∀ u ∈ SF, u.oneCell' = true := by rw [hSF]; exact Row.flat_one senc_ok _
  rw [Row.flat_append, ← hSE, ← hSF, List.append_assoc] at hg
  obtain ⟨sp', hY, hsp'⟩ := Row.splice_delete [] SE SF sp (List.replicate n (.string ⟨#[]⟩)) (by rw [List.length_replicate, hlE])
  simp only [List.nil_append, List.length_nil] at hY
  rw [hlF] at hY
  obtain ⟨X0, hX0⟩ : ∃ X0, X0 = SE ++ (SF ++ sp) := ⟨_, rfl⟩
  have hXl : X0.length = (n + m) + sp.length := by rw [hX0]; simp only [List.length_append, hlE, hlF]; omega
  have hXB : ∀ j u, SF[j]? = some u → X0[n + j]? = some u := fun j u hu => by
    have hj := (List.getElem?_eq_some_iff.1 hu).1
    rw [hX0, List.getElem?_append_right (by rw [hlE]; omega), hlE, show n + j - n = j by omega, List.getElem?_append_left hj, hu]
  rw [← hX0] at hg hY
  obtain ⟨Y1, hY1⟩ : ∃ Y1, Y1 = splice X0 0 SF := ⟨_, rfl⟩
  rw [← hY1] at hY
  have hYl : Y1.length = X0.length := by rw [hY1]; exact length_splice _ _ _ (by rw [hlF]; omega)
  obtain ⟨A, hA, hsrc⟩ : ∃ A : Addr, (if c = n then (some (⟨g, 0, none⟩ : Addr)) else some ⟨g, n, none⟩) = some A ∧ Hid (∀ j u, SF[j]? = some u → w.drew.cell? (A.add j) = some u) := by
    by_cases hc : c = n
    · refine ⟨⟨g, 0, none⟩, by simp [hc], Lib.hid fun j u hu => ?_⟩
      have := (List.getElem?_eq_some_iff.1 hu).1
      rw [hlF] at this; omega
    · refine ⟨⟨g, n, none⟩, by simp [hc], Lib.hid fun j u hu => ?_⟩
      rw [Addr.add_lit]
      have := hg.cell (n + j)
      rw [List.getElem?_toArray, hXB j u hu] at this
      exact this
  obtain ⟨W1, hW1⟩ : ∃ W1, W1 = w.drew.setRow g Y1.toArray := ⟨_, rfl⟩
  have hg1 : Cel W1 g 9 Y1.toArray := by rw [hW1]; exact Row.Cel_row (hg.draws 1) Y1
  have hap : ∀ ty c', (Builtin.append_ #[66, 66] ty #[.slice (some ⟨g, 0, none⟩) 0 c, .slice (some A) m c']).run Try.prog w.drew = .ok (.slice (some ⟨g, 0, none⟩) m c) W1 := fun ty c' => by
    rw [hW1, hY1]
    have := Row.run_appendK w.drew _ ty 9 1 g 0 c A m c' m X0 9 SF Try.underlying66 (by obtain ⟨i, h0, h1, h2, h3⟩ := info_parts info_str; rw [h0]; simp [h2]) (hg.draws 1) (by rw [hlF]; omega) hsrc.out (by omega) (by omega) (by rw [hlF]; omega) h1F
    rw [Nat.zero_mul] at this
    exact this
  have hcl : ∀ ty c', (Builtin.clear_ #[66] ty #[.slice (some ⟨g, m, none⟩) n c']).run Try.prog W1 = .ok (.tuple #[]) (W1.setRow g (splice Y1 m (List.replicate n (.string ⟨#[]⟩))).toArray) := fun ty c' => by
    exact run_clearN W1 _ ty 9 (.string ⟨#[]⟩) g m n c' Y1 9 Try.underlying66 Try.zeroValue9 rfl hg1 (by rw [hYl, hXl]; omega) rfl h1
  have hfin : So (W1.setRow g (splice Y1 m (List.replicate n (.string ⟨#[]⟩))).toArray) base (.slice (some ⟨g, 0, none⟩) m c) FB ∧ Only [g] w (W1.setRow g (splice Y1 m (List.replicate n (.string ⟨#[]⟩))).toArray) := by
    constructor
    · have : Row.Rw senc 1 (W1.setRow g (splice Y1 m (List.replicate n (.string ⟨#[]⟩))).toArray) 9 g c FB := ⟨sp', by rw [← hSF, ← hY]; exact Row.Cel_row hg1 _, by rw [Nat.mul_one, Nat.mul_one, hsp', hlE]; omega, hm⟩
      have := this.os senc_ok hb (by omega)
      rwa [← hmm] at this
    · rw [hW1]
      exact Row.Only_row (Row.Only_row ((Only.refl [g] w).drew) (.inl (by simp)) _) (.inl (by simp)) _
  obtain ⟨W2, hW2⟩ : ∃ W2, W2 = W1.setRow g (splice Y1 m (List.replicate n (.string ⟨#[]⟩))).toArray := ⟨_, rfl⟩
  rw [← hW2] at hcl hfin
  have hcb : n + m ≤ c := by omega
  have HF := Lib.hid hfin
  have hbig : c ≤ 9223372036854775807 := by simp only [maxLen] at hm; omega
  have z0 : decide ((0 : Int) = (n : Int)) = false := by simp; omega
  have z1 : decide (0 = n) = false := by simp; omega
  have hck : c ≠ m := by omega
  have hkc1 : n ≤ c := by omega
  have hkc2 : (n : Int) ≤ (c : Int) := by omega
  have hkm : n + m - n = m := by omega
  have hkk : (n : Int) ≤ (n : Int) + (m : Int) := by omega
  have hq0 : n ≤ n + m := by omega
  have hq1 : (m : Int) ≤ (n : Int) + (m : Int) := by omega
  have hq2 : (n : Int) + (m : Int) ≤ (c : Int) := by omega
  have hq3 : ((n : Int) + (m : Int)).toNat = n + m := by omega
  have hq5 : m ≤ n + m := by omega
  have hq6 : (0 : Int) ≤ (n : Int) + (m : Int) := by omega
  have mixed : Try.prog.follows Departure.mixedOrders = true := by kernel_rfl
  clear hmm hn
  clear hfin hW2 hW1 hg1 hsrc hY hY1 hX0 hXl hXB hYl hs hlE hlF hsp' hg hnm hm hSE hSF h1F
  go_enter Try.func67, Try.ntmps67
  go_wp2_with fail
  go_region_law (refine Row.step_appendK _ rfl (.tmp 22) (.tmp 25) 66 66 rfl (.slice (some ⟨g, 0, none⟩) 0 c) (.slice (some A) m (c - n)) (by simp [Act.eval, Act.put]) (by simp [Act.eval, Act.put]) (hap _ (c - n)) ?_)
  go_wp2
  go_ret
  exact ⟨_, rfl, HF.out.1, rfl, HF.out.2⟩
end Go.Proofs.Ytdpjjhbfhlmolaa.Strs

/-
  The walks of package serial: low, Valid, Add, Distance, Before, Within.
-/
namespace Go.Proofs.Ytdpjjhbfhlmolaa
open Go.RowKit

theorem shl_pw (b : Int) (h0 : 0 ≤ b) (h1 : b ≤ 32) : Op.shift .shl .i64 1 .i64 b = pure (.int .i64 (pw b)) := by
  have hle := pw_le h1
  have hp := pw_pos b
  rw [shift_shl_any _ _ _ _ h0, show min b.toNat IntKind.i64.bits = b.toNat from Nat.min_eq_left (by have : IntKind.i64.bits = 64 := rfl; omega)]
  have e : (1 : Int) * 2 ^ b.toNat = pw b := by unfold pw; rw [Int.one_mul, Int.natCast_pow]; rfl
  rw [e, IntKind.wrap_i64, show (pw b + 9223372036854775808) % 18446744073709551616 - 9223372036854775808 = pw b by omega]

theorem ret_of {k : IntKind} {a b : Int} (h : a = b) : Ending.returned (.int k a) = .returned (.int k b) := by rw [h]
theorem bool_of {a b : Bool} (h : a = b) : Ending.returned (.bool a) = .returned (.bool b) := by rw [h]
theorem w64_pw (b : Int) (h1 : 1 ≤ b) (h2 : b ≤ 32) : wrap64 (2 ^ (b.toNat - 1)) = pw (b - 1) := by
  have hle := pw_le (b := b - 1) (by omega)
  have hp := pw_pos (b - 1)
  have e : (2 : Int) ^ (b.toNat - 1) = pw (b - 1) := by unfold pw; rw [show (b - 1).toNat = b.toNat - 1 by omega, Int.natCast_pow]; rfl
  rw [e]
  unfold wrap64
  omega

set_option maxHeartbeats 400000 in
theorem low_any (n b : Int) (w : World) (h1 : 1 ≤ b) (h2 : b ≤ 32) :
    Calls Try.prog 61 #[.int .i64 n, .int .i64 b] w fun e w' => e = .returned (.int .i64 (n % pw b)) ∧ w = w' := by
  have hs := shl_pw b (by omega) h2
  have hm := and_pw n b h2
  obtain ⟨M, hM⟩ : ∃ M, M = pw b := ⟨_, rfl⟩
  have hl := pw_le h2
  have hp := pw_pos b
  rw [← hM] at hs hm hl hp ⊢
  have HM := Lib.hid hm
  clear hM hm h1 h2
  go_enter Try.func61, Try.ntmps61
  go_wp2
  go_ret
  exact ⟨ret_of HM.out, rfl⟩

set_option maxHeartbeats 400000 in
theorem valid_any (n b : Int) (w : World) :
    Calls Try.prog 60 #[.int .i64 n, .int .i64 b] w fun e w' => e = .returned (.bool (vl n b)) ∧ w = w' := by
  by_cases h1 : 1 ≤ b
  · by_cases h2 : b ≤ 32
    · have hlow := low_any n b w h1 h2
      have e : vl n b = (n == n % pw b) := by
        rw [Bool.eq_iff_iff, vl_iff, beq_iff_eq, md_iff]
        simp [h1, h2]
      rw [e]
      obtain ⟨d, hd⟩ : ∃ d, d = n % pw b := ⟨_, rfl⟩
      rw [← hd] at hlow ⊢
      clear hd e
      go_enter Try.func60, Try.ntmps60
      go_wp2_with (go_at_call 61; refine hlow.mono ?_; rintro e w' ⟨rfl, rfl⟩)
      go_ret
      exact ⟨rfl, rfl⟩
    · rw [vl_width (by omega)]
      have h3 : decide (b ≤ 32) = false := by simpa using h2
      go_enter Try.func60, Try.ntmps60
      go_wp2
      go_ret
      exact ⟨rfl, rfl⟩
  · rw [vl_width (by omega)]
    have h3 : decide (1 ≤ b) = false := by simpa using h1
    go_enter Try.func60, Try.ntmps60
    go_wp2
    go_ret
    exact ⟨rfl, rfl⟩

set_option maxHeartbeats 400000 in
theorem add_any (a n b : Int) (w : World) :
    Calls Try.prog 59 #[.int .i64 a, .int .i64 n, .int .i64 b] w fun e w' => e = .returned (.int .i64 (sadd a n b)) ∧ w = w' := by
  have hv := valid_any a b w
  cases h : vl a b with
  | true =>
    obtain ⟨h1, h2, _, _⟩ := vl_iff.1 h
    have hlow := low_any (wrap64 (a + n)) b w h1 h2
    rw [md_wrap64 _ _ (by omega), ← sadd_ok h] at hlow
    rw [h] at hv
    clear h h1 h2
    go_enter Try.func59, Try.ntmps59
    go_wp2_with (first
      | (go_at_call 60; refine hv.mono ?_; rintro e w' ⟨rfl, rfl⟩)
      | (go_at_call 61; refine hlow.mono ?_; rintro e w' ⟨rfl, rfl⟩))
    go_ret
    exact ⟨rfl, rfl⟩
  | false =>
    rw [sadd_bad h]
    rw [h] at hv
    clear h
    go_enter Try.func59, Try.ntmps59
    go_wp2_with (first
      | (go_at_call 60; refine hv.mono ?_; rintro e w' ⟨rfl, rfl⟩))
    go_ret
    exact ⟨rfl, rfl⟩

set_option maxHeartbeats 400000 in
theorem distance_any (x y b : Int) (w : World) :
    Calls Try.prog 46 #[.int .i64 x, .int .i64 y, .int .i64 b] w fun e w' => e = .returned (.int .i64 (sdist x y b)) ∧ w = w' := by
  have hv := valid_any x b w
  have hu := valid_any y b w
  cases h : vl x b with
  | false =>
    rw [sdist_bad (by rw [h]; rfl)]
    rw [h] at hv
    clear h hu
    go_enter Try.func46, Try.ntmps46
    go_wp2_with fail
    refine hv.mono ?_
    rintro e w' ⟨rfl, rfl⟩
    go_wp2
    go_ret
    exact ⟨rfl, rfl⟩
  | true =>
    cases h' : vl y b with
    | false =>
      rw [sdist_bad (by rw [h, h']; rfl)]
      rw [h] at hv
      rw [h'] at hu
      clear h h'
      go_enter Try.func46, Try.ntmps46
      go_wp2_with fail
      refine hv.mono ?_
      rintro e w' ⟨rfl, rfl⟩
      go_wp2_with fail
      refine hu.mono ?_
      rintro e w' ⟨rfl, rfl⟩
      go_wp2
      go_ret
      exact ⟨rfl, rfl⟩
    | true =>
      obtain ⟨h1, h2, h3, h4⟩ := vl_iff.1 h
      obtain ⟨_, _, h5, h6⟩ := vl_iff.1 h'
      have hle := pw_le h2
      have h7 : x < 4294967296 := by omega
      have h8 : y < 4294967296 := by omega
      have hlow := low_any (y - x) b w h1 h2
      rw [← sdist_ok h h'] at hlow
      rw [h] at hv
      rw [h'] at hu
      clear h h' h1 h2 h4 h6 hle
      go_enter Try.func46, Try.ntmps46
      go_wp2_with fail
      refine hv.mono ?_
      rintro e w' ⟨rfl, rfl⟩
      go_wp2_with fail
      refine hu.mono ?_
      rintro e w' ⟨rfl, rfl⟩
      go_wp2_with fail
      refine hlow.mono ?_
      rintro e w' ⟨rfl, rfl⟩
      go_wp2
      go_ret
      exact ⟨rfl, rfl⟩

theorem sbef_low {x y b : Int} (h : sdist x y b < 1) : sbef x y b = false := by unfold sbef; simp; omega
theorem sdist_valid {x y b : Int} (h : 1 ≤ sdist x y b) : vl x b = true ∧ vl y b = true := by
  unfold sdist at h
  split at h
  · rename_i e; simpa using e
  · omega

theorem swin_bad1 {n f s b : Int} (h : vl n b = false) : swin n f s b = false := by unfold swin; rw [h]; rfl
theorem swin_bad2 {n f s b : Int} (h : vl f b = false) : swin n f s b = false := by unfold swin; rw [h]; simp
theorem swin_bad3 {n f s b : Int} (h : ¬ s ≤ pw b) : swin n f s b = false := by unfold swin; simp [h]
theorem swin_ok {n f s b : Int} (h : vl n b = true) (h' : vl f b = true) (hs : s ≤ pw b) : swin n f s b = decide (sdist f n b < s) := by unfold swin; rw [h, h']; simp [hs]

set_option maxHeartbeats 400000 in
theorem within_any (n f s b : Int) (w : World) :
    Calls Try.prog 70 #[.int .i64 n, .int .i64 f, .int .i64 s, .int .i64 b] w fun e w' => e = .returned (.bool (swin n f s b)) ∧ w = w' := by
  have hv := valid_any n b w
  have hu := valid_any f b w
  have hd := distance_any f n b w
  cases h : vl n b with
  | false =>
    rw [swin_bad1 h]
    rw [h] at hv
    clear h hu hd
    go_enter Try.func70, Try.ntmps70
    go_wp2_with fail
    refine hv.mono ?_
    rintro e w' ⟨rfl, rfl⟩
    go_wp2
    go_ret
    exact ⟨rfl, rfl⟩
  | true =>
    cases h' : vl f b with
    | false =>
      rw [swin_bad2 h']
      rw [h] at hv
      rw [h'] at hu
      clear h h' hd
      go_enter Try.func70, Try.ntmps70
      go_wp2_with fail
      refine hv.mono ?_
      rintro e w' ⟨rfl, rfl⟩
      go_wp2_with fail
      refine hu.mono ?_
      rintro e w' ⟨rfl, rfl⟩
      go_wp2
      go_ret
      exact ⟨rfl, rfl⟩
    | true =>
      obtain ⟨h1, h2, _, _⟩ := vl_iff.1 h
      have hs := shl_pw b (by omega) h2
      by_cases hl : s ≤ pw b
      · rw [swin_ok h h' hl]
        have hl2 : decide (pw b < s) = false := by simpa using hl
        rw [h] at hv
        rw [h'] at hu
        obtain ⟨d, hd'⟩ : ∃ d, d = sdist f n b := ⟨_, rfl⟩
        obtain ⟨M, hM⟩ : ∃ M, M = pw b := ⟨_, rfl⟩
        rw [← hd'] at hd ⊢
        rw [← hM] at hs hl2
        clear h h' hl hd' hM h1 h2
        go_enter Try.func70, Try.ntmps70
        go_wp2_with fail
        refine hv.mono ?_
        rintro e w' ⟨rfl, rfl⟩
        go_wp2_with fail
        refine hu.mono ?_
        rintro e w' ⟨rfl, rfl⟩
        go_wp2_with fail
        refine hd.mono ?_
        rintro e w' ⟨rfl, rfl⟩
        go_wp2
        go_ret
        exact ⟨rfl, rfl⟩
      · rw [swin_bad3 hl]
        have hl2 : decide (pw b < s) = true := by simpa using hl
        rw [h] at hv
        rw [h'] at hu
        obtain ⟨M, hM⟩ : ∃ M, M = pw b := ⟨_, rfl⟩
        rw [← hM] at hs hl2
        clear h h' hl hd hM h1 h2
        go_enter Try.func70, Try.ntmps70
        go_wp2_with fail
        refine hv.mono ?_
        rintro e w' ⟨rfl, rfl⟩
        go_wp2_with fail
        refine hu.mono ?_
        rintro e w' ⟨rfl, rfl⟩
        go_wp2
        go_ret
        exact ⟨rfl, rfl⟩
end Go.Proofs.Ytdpjjhbfhlmolaa

/-
  The walks of package packet's allZero, validIdle, Valid and bit.
-/
namespace Go.Proofs.Ytdpjjhbfhlmolaa.Pac
open Go.RowKit

theorem bel_new (w : World) (o : Obj) : Below w.heap.size w (w.alloc o) := (Below.refl _ _).alloc (Nat.le_refl _) _
theorem Cel.later {w w' : World} {g : Nat} {t : TypeId} {cs : Array Value} (h : Cel w g t cs) (hb : Below w.heap.size w w') : Cel w' g t cs := h.only (Only.of_below (S := []) hb) (by simp)
theorem Cel.within {w w' : World} {g B : Nat} {t : TypeId} {cs : Array Value} (h : Cel w g t cs) (hg : g < B) (hb : Below B w w') : Cel w' g t cs := (hb.block g hg).trans h

theorem u8_zero (x : Byte) : ((x.toNat : Int) != 0) = !decide (x = 0#8) := by
  by_cases h : x = 0#8
  · subst h; rfl
  · have : x.toNat ≠ 0 := fun e => h (BitVec.eq_of_toNat_eq (by rw [e]; rfl))
    rw [decide_eq_false h]
    simp
    omega

/-- the data of a packet in a block of its own, later -/
theorem Bs.new {w : World} {a : Option Addr} {l : List Byte} (h : Bs w w.heap.size a l) (o : Obj) : Bs (w.alloc o) w.heap.size a l := h.below (bel_new w o)

end Go.Proofs.Ytdpjjhbfhlmolaa.Pac

/-
  The walk of package packet's Valid.
-/
namespace Go.Proofs.Ytdpjjhbfhlmolaa.Pac
open Go.RowKit

theorem ok_bad {com sec : Bool} {ap fl ct : Int} {l : List Byte} (h : ap < 0 ∨ 2047 < ap ∨ fl < 0 ∨ 3 < fl ∨ ct < 0 ∨ 16383 < ct ∨ l.length = 0 ∨ 4090 < l.length) : Pk.ok ⟨com, sec, ap, fl, ct, l⟩ = false :=
  Pk.ok_no (fun ⟨h1, h2, h3, h4, h5, h6, h7, h8⟩ => by simp only at h1 h2 h3 h4 h5 h6 h7 h8; omega)

end Go.Proofs.Ytdpjjhbfhlmolaa.Pac

/-
  The walk of bytes.Clone: at every slice of bytes; at nil.
-/
namespace Go.Proofs.Ytdpjjhbfhlmolaa
open Go.RowKit

set_option maxHeartbeats 400000 in
theorem clone_any (a : Option Addr) (l : List Byte) (n c : Nat) (w : World) (hl : Hid (l.length = n)) (hb : Bs w w.heap.size a l) (hn : a = none → c = 0) (hm : n ≤ 140737488355328) :
    Calls Try.prog 56 #[.slice a n c] w fun e w' => ∃ v, e = .returned v ∧ Ow w' w.heap.size 5 v l ∧ Below w.heap.size w w' := by
  have hL : l.length = n := hl
  subst hL
  cases a with
  | none =>
    have hl : l = [] := by
      rcases Nat.eq_zero_or_pos l.length with h0 | h0
      · exact List.eq_nil_of_length_eq_zero h0
      · obtain ⟨b, off, h, _⟩ := hb h0; cases h
    subst hl
    obtain rfl : c = 0 := hn rfl
    have hnil := fun W => Lib.run_eql_slice_nil (P := Try.prog) W 33 5 none 0 0 0 0 Try.underlying33
    go_enter Try.func56, Try.ntmps56
    go_wp2
    go_ret
    exact ⟨_, rfl, World.ownsRow_nil _ _ _ _, Below.refl _ _⟩
  | some ad =>
    have bel1 := (Below.refl w.heap.size w).alloc (Nat.le_refl _) (.cells #[] 5)
    have hown1 := Ow_empty w w.heap.size 5 (Nat.le_refl _)
    have hnil := fun W => Lib.run_eql_slice_nil (P := Try.prog) W 33 5 (some ad) l.length c 0 0 Try.underlying33
    go_enter Try.func56, Try.ntmps56
    go_wp2_with (first
      | (at_builtin; refine wpList_app _ is_bytes rfl (.tmp 5) (.tmp 6) rfl (m := []) rfl hown1 rfl (hb.below bel1) hn (by simp; omega) bel1.size ?_; intro v2 w2 hown2 hgrow2; have bel2 := bel1.grown hgrow2 bel1.size (Ow.base_le (l := []) hown1)))
    go_ret
    exact ⟨v2, rfl, hown2, bel2⟩

set_option maxHeartbeats 400000 in
theorem clone_nil (w : World) : Calls Try.prog 56 #[.slice none 0 0] w fun e w' => e = .returned (.slice none 0 0) ∧ w = w' := by
  have hnil := fun W => Lib.run_eql_slice_nil (P := Try.prog) W 33 5 none 0 0 0 0 Try.underlying33
  go_enter Try.func56, Try.ntmps56
  go_wp2
  go_ret
  exact ⟨rfl, rfl⟩

end Go.Proofs.Ytdpjjhbfhlmolaa

/-
  The walks of the small functions of package bits that its Writer wants: bytes.Clone, a width's test, NewWriter, Len, Bytes.
-/
namespace Go.Proofs.Ytdpjjhbfhlmolaa
open Go.RowKit

end Go.Proofs.Ytdpjjhbfhlmolaa

/-
  The walk of Put of package bits' Writer.
-/
namespace Go.Proofs.Ytdpjjhbfhlmolaa
open Go.RowKit

theorem min_of (a b : Nat) : ∃ s : Nat, (if b < a then (b : Int) else (a : Int)) = (s : Int) ∧ s ≤ a ∧ s ≤ b ∧ (0 < a → 0 < b → 0 < s) := by
  refine ⟨min a b, ?_, by omega, by omega, by omega⟩
  split <;> omega

end Go.Proofs.Ytdpjjhbfhlmolaa

/-
  A region that draws its order, walked by hand: the condition on the worlds may be changed on the way. No dump is imported.
-/
namespace Go.Proofs.Ytdpjjhbfhlmolaa
open Go.RowKit

section
variable {P : Program} {ops : Array Oper} {Q : Exit → Act → World → Prop} {md : Region.Mode} {S S' : World → Prop}
/-- a sharper condition from here on -/
theorem wpAnyH_switch (h : ∀ w, S' w → S w) : ∀ (fuel : Nat) (listed : Array Bool) (a : Act) (w : World), wpAnyH P md ops Q S' fuel listed a w → wpAnyH P md ops Q S fuel listed a w
  | 0, _, _, _, h0 => h0
  | fuel + 1, _, _, _, h0 => ⟨h0.1, fun i hi => wpOp_mono (fun _ _ h' => ⟨h _ h'.1, wpAnyH_switch h fuel _ _ _ h'.2⟩) (h0.2 i hi)⟩
theorem wpAnyH_sharpen {fuel : Nat} {listed : Array Bool} {a : Act} {w : World} (h : ∀ w, S' w → S w) (hS : S' w) (k : S' w → wpAnyH P md ops Q S' fuel listed a w) : wpAnyH P md ops Q S fuel listed a w :=
  wpAnyH_switch h _ _ _ _ (k hS)
/-- from here on the world stays as it is -/
theorem wpAnyH_pin {fuel : Nat} {listed : Array Bool} {a : Act} {w : World} (hS : S w) (h : w = w → wpAnyH P md ops Q (fun w' => w' = w) fuel listed a w) : wpAnyH P md ops Q S fuel listed a w :=
  wpAnyH_switch (fun _ e => e ▸ hS) _ _ _ _ (h rfl)
/-- number i is taken first; the operation is read off the list itself -/
theorem wpAnyH_here {l : List Oper} (i : Nat) {oi : Oper} {v : Value} {fuel : Nat} {listed : Array Bool} {a : Act} {w : World} (hi : l[i]? = some oi)
    (hs : Region.noSelect l.toArray = true) (hf : Region.free md l.toArray listed i = true) (hr : (Region.ready md l.toArray listed).contains i = true)
    (hQ : ∀ c a w, Q (.panic c) (a.put oi.dst v) w → Q (.panic c) a w) (hy : YieldsIf P l.toArray S oi v a) (hS : S w)
    (h : wpAnyH P md l.toArray Q S fuel (listed.setIfInBounds i true) (a.put oi.dst v) w) : wpAnyH P md l.toArray Q S (fuel + 1) listed a w :=
  wpAnyH_take (by simpa using hi) hs hf hr hQ hy hS h
/-- number i alone may come up -/
theorem wpAnyH_alone {l : List Oper} (i : Nat) {o : Oper} {fuel : Nat} {listed : Array Bool} {a : Act} {w : World} (hi : l[i]? = some o) (hr : Region.ready md l.toArray listed = [i])
    (h : ∀ K' : Act → World → Prop, Shut (∀ a w, S w → (S w → wpAnyH P md l.toArray Q S fuel (listed.setIfInBounds i true) a w) → K' a w) → if Region.wanted o (yielded l.toArray a.tmps) = true then Oper.wp P o a w K' Q else K' (a.put o.dst undef) w) :
    wpAnyH P md l.toArray Q S (fuel + 1) listed a w :=
  wpAnyH_ready hr (by simp) (AllReadyH.cons (by simpa using hi) h AllReadyH.nil)
/-- numbers i and j may come up: both ways -/
theorem wpAnyH_both {l : List Oper} (i j : Nat) {o o' : Oper} {fuel : Nat} {listed : Array Bool} {a : Act} {w : World} (hi : l[i]? = some o) (hj : l[j]? = some o') (hr : Region.ready md l.toArray listed = [i, j])
    (h : ∀ K' : Act → World → Prop, Shut (∀ a w, S w → (S w → wpAnyH P md l.toArray Q S fuel (listed.setIfInBounds i true) a w) → K' a w) → if Region.wanted o (yielded l.toArray a.tmps) = true then Oper.wp P o a w K' Q else K' (a.put o.dst undef) w)
    (h' : ∀ K' : Act → World → Prop, Shut (∀ a w, S w → (S w → wpAnyH P md l.toArray Q S fuel (listed.setIfInBounds j true) a w) → K' a w) → if Region.wanted o' (yielded l.toArray a.tmps) = true then Oper.wp P o' a w K' Q else K' (a.put o'.dst undef) w) :
    wpAnyH P md l.toArray Q S (fuel + 1) listed a w :=
  wpAnyH_ready hr (by simp) (AllReadyH.cons (by simpa using hi) h (AllReadyH.cons (by simpa using hj) h' AllReadyH.nil))
end
end Go.Proofs.Ytdpjjhbfhlmolaa

/-
  The Writer of package bits as one state; the walk of package packet's Encode.
-/
namespace Go.Proofs.Ytdpjjhbfhlmolaa.Pac
open Go.RowKit

theorem to_u64 (X : Nat) (h : X < 1000000) : IntKind.u64.wrap (X : Int) = (X : Int) := by rw [IntKind.wrap_u64]; omega

theorem Ow_nil (w : World) (base : Nat) : Ow w base 5 (.slice none 0 0) [] := World.ownsRow_nil _ _ _ _

end Go.Proofs.Ytdpjjhbfhlmolaa.Pac

/-
  The walks of the small functions of package bits' Reader: works, Left, Failed, NewReader, Skip; a nil Reader and a zero value.
-/
namespace Go.Proofs.Ytdpjjhbfhlmolaa
open Go.RowKit

section
variable {w w' : World} {base g : Nat} {r : Option Nat} {bs : List Byte} {p : Nat} {bad : Bool} {S : List Nat}
end

/-- bits that a Reader has left -/
def leftR (bs : List Byte) (p : Nat) (bad : Bool) : Nat := if bad then 0 else 8 * bs.length - p

/-- what Skip makes of a Reader -/
def skipP (bs : List Byte) (p : Nat) (bad : Bool) (k : Int) : Nat := if bad ∨ k < 0 ∨ (leftR bs p bad : Int) < k then p else p + k.toNat
def skipB (bs : List Byte) (p : Nat) (bad : Bool) (k : Int) : Bool := decide (bad ∨ k < 0 ∨ (leftR bs p bad : Int) < k)

end Go.Proofs.Ytdpjjhbfhlmolaa

/-
  The walk of Get of package bits' Reader.
-/
namespace Go.Proofs.Ytdpjjhbfhlmolaa
open Go.RowKit

/-- may Get read k bits? -/
def getBad (bs : List Byte) (p : Nat) (bad : Bool) (k : Int) : Prop := bad = true ∨ k < 0 ∨ 64 < k ∨ (leftR bs p bad : Int) < k
instance (bs : List Byte) (p : Nat) (bad : Bool) (k : Int) : Decidable (getBad bs p bad k) := by unfold getBad; infer_instance
def getP (bs : List Byte) (p : Nat) (bad : Bool) (k : Int) : Nat := if getBad bs p bad k then p else p + k.toNat
def getB (bs : List Byte) (p : Nat) (bad : Bool) (k : Int) : Bool := decide (getBad bs p bad k)
def getV (bs : List Byte) (p : Nat) (bad : Bool) (k : Int) : Nat := if getBad bs p bad k then 0 else numAt bs p k.toNat

theorem min_of' (a d : Nat) (hd : d < 8) : ∃ s : Nat, (if 8 - (d : Int) < (a : Int) then 8 - (d : Int) else (a : Int)) = (s : Int) ∧ s ≤ a ∧ d + s ≤ 8 ∧ (0 < a → 0 < s) := by
  refine ⟨min a (8 - d), ?_, by omega, by omega, by omega⟩
  split <;> omega

theorem or_shift (a s b : Nat) (hb : b < 2 ^ s) (hab : a * 2 ^ s + b < 2 ^ 64) : bits .or .u64 (IntKind.u64.wrap ((a : Int) * 2 ^ s)) (b : Int) = ((a * 2 ^ s + b : Nat) : Int) := by
  have h1 : ((a : Int) * 2 ^ s) = ((a * 2 ^ s : Nat) : Int) := by rw [Int.natCast_mul, Int.natCast_pow]; rfl
  have h2 : IntKind.u64.wrap ((a * 2 ^ s : Nat) : Int) = ((a * 2 ^ s : Nat) : Int) := by
    simp [IntKind.wrap, IntKind.bits, IntKind.signed]
    rw [h1]
    omega
  rw [h1, h2, u64_or_nat _ _ (by omega) (by omega)]
  congr 1
  rw [Nat.mul_comm, ← Nat.two_pow_add_eq_or_of_lt hb]

theorem wrap_small (a : Nat) (h : a < 2 ^ 64) : IntKind.u64.wrap (a : Int) = (a : Int) := by
  simp [IntKind.wrap, IntKind.bits, IntKind.signed]
  omega
theorem get_num (bs : List Byte) (p j s d : Nat) (x : Byte) (hs : d + s ≤ 8) (hd : d = (p + j) % 8) (hx : bs[(p + j) / 8]? = some x) (hj : j + s ≤ 64) :
    bits .or .u64 (IntKind.u64.wrap ((numAt bs p j : Int) * 2 ^ s)) (IntKind.u64.wrap ((x.toNat : Int) * 2 ^ d % 256 / 2 ^ (8 - s))) = (numAt bs p (j + s) : Int) := by
  subst hd
  have h1 := numAt_piece bs (p + j) s x hs hx
  have h2 : (x.toNat : Int) * 2 ^ ((p + j) % 8) % 256 / 2 ^ (8 - s) = ((numAt bs (p + j) s : Nat) : Int) := by
    rw [← h1, Int.natCast_ediv, Int.natCast_emod, Int.natCast_mul, Int.natCast_pow, Int.natCast_pow]
    rfl
  have h3 := numAt_lt bs (p + j) s
  have h4 : 2 ^ s ≤ 2 ^ 64 := Nat.pow_le_pow_right (by decide) (by omega)
  have h5 := numAt_lt bs p (j + s)
  have h6 : 2 ^ (j + s) ≤ 2 ^ 64 := Nat.pow_le_pow_right (by decide) hj
  have h7 := numAt_add bs p j s
  rw [h2, wrap_small _ (by omega), or_shift _ _ _ h3 (by omega), h7]

end Go.Proofs.Ytdpjjhbfhlmolaa

/-
  The Reader of package bits beside a packet's block as one state; the walks of package packet's readHeader and Size.
-/
namespace Go.Proofs.Ytdpjjhbfhlmolaa.Pac
open Go.RowKit

/-- a packet's cells -/
def pcs (com sec : Bool) (ap fl ct : Int) (v : Value) : Array Value := #[.bool com, .bool sec, .int .i64 ap, .int .i64 fl, .int .i64 ct, v]

/-- a whole packet stored over another -/
def putAll (w : World) (g : Nat) (com sec : Bool) (ap fl ct : Int) (v : Value) : World :=
  (((((w.setCell ⟨g, 0, none⟩ (.bool com)).setCell ⟨g, 1, none⟩ (.bool sec)).setCell ⟨g, 2, none⟩ (.int .i64 ap)).setCell ⟨g, 3, none⟩ (.int .i64 fl)).setCell ⟨g, 4, none⟩ (.int .i64 ct)).setCell ⟨g, 5, none⟩ v
theorem putAll_cel {w : World} {g : Nat} {t : TypeId} {x0 x1 x2 x3 x4 x5 : Value} (h : Cel w g t #[x0, x1, x2, x3, x4, x5]) (com sec : Bool) (ap fl ct : Int) (v : Value) :
    Cel (putAll w g com sec ap fl ct v) g t #[.bool com, .bool sec, .int .i64 ap, .int .i64 fl, .int .i64 ct, v] :=
  (((((h.put 0 (.bool com)).put 1 (.bool sec)).put 2 (.int .i64 ap)).put 3 (.int .i64 fl)).put 4 (.int .i64 ct)).put 5 v
theorem putAll_only (w : World) (g : Nat) (com sec : Bool) (ap fl ct : Int) (v : Value) : Only [g] w (putAll w g com sec ap fl ct v) := by
  unfold putAll
  exact ((((((Only.refl [g] w).put (p := ⟨g, 0, none⟩) (.inl (by simp)) _).put (p := ⟨g, 1, none⟩) (.inl (by simp)) _).put (p := ⟨g, 2, none⟩) (.inl (by simp)) _).put (p := ⟨g, 3, none⟩) (.inl (by simp)) _).put (p := ⟨g, 4, none⟩) (.inl (by simp)) _).put (p := ⟨g, 5, none⟩) (.inl (by simp)) _

theorem from_u64 (X : Nat) (h : X < 1000000) : IntKind.i64.wrap (X : Int) = (X : Int) := by
  simp [IntKind.wrap, IntKind.bits, IntKind.signed]
  omega
theorem wrap_tot (X : Nat) (h : X < 1000000) : IntKind.i64.wrap (IntKind.i64.wrap (6 + (X : Int)) + 1) = ((7 + X : Nat) : Int) := by
  simp [IntKind.wrap, IntKind.bits, IntKind.signed]
  omega

end Go.Proofs.Ytdpjjhbfhlmolaa.Pac

/-
  The walk of package packet's Decode.
-/
namespace Go.Proofs.Ytdpjjhbfhlmolaa.Pac
open Go.RowKit

theorem Bs_sub {w : World} {B : Nat} {a : Option Addr} {l : List Byte} (h : Bs w B a l) {b off : Nat} (ha : a = some ⟨b, off, none⟩) (k m : Nat) : Bs w B (some ⟨b, off + k, none⟩) ((l.drop k).take m) := fun hl => by
  have hk : k < l.length := by simp at hl; omega
  obtain ⟨b', off', ha', hb, hc⟩ := h (by omega)
  rw [ha] at ha'
  injection ha' with ha'
  injection ha' with e1 e2
  subst e1 e2
  refine ⟨b, off + k, rfl, hb, fun i x hx => ?_⟩
  rw [List.getElem?_take] at hx
  split at hx
  · rw [List.getElem?_drop] at hx
    rw [Nat.add_assoc]
    exact hc _ _ hx
  · cases hx

theorem putAll_below {w W : World} {g : Nat} (h : Below w.heap.size w W) (hg : w.heap.size ≤ g) (com sec : Bool) (ap fl ct : Int) (v : Value) : Below w.heap.size w (putAll W g com sec ap fl ct v) :=
  h.trans ((putAll_only _ _ _ _ _ _ _ _).below h.size (by simpa using hg))

end Go.Proofs.Ytdpjjhbfhlmolaa.Pac
