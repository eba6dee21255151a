/-
  Bytes BitsMath PacMath ClcMath CrcMath CrcBurst TmfMath Own Cel Base PacW0 PacW1 Clone BitsW0 BitsW1 Hand PacW2 BitsR0 BitsR1 PacW3 PacW4 Rd ClcW0 TmfW0 ClcW1 CrcW1 CrcW2, one after another.
-/
import Derived.Laws.BitsAllLaws
import Derived.WalkKit
import Derived.WalkSpells
import Derived.Laws.Shifts
import Derived.Maps.AppendAt
import Derived.Laws.OwnMore
import Derived.Laws.IdiomStrings
import Derived.Lib.BufferRead
import Derived.OneCell
import Derived.Deep.Draws
import Derived.OwnWalk
import Derived.Test.YtmkmojhhfbokdaaRows
import Derived.WalkLawsBesides
import Derived.Lib.Hide
import Derived.Deep.QuietTactic
import Derived.BigQuiet
import Derived.BigRegion
import Derived.Deep.DeepCutAuto
import Derived.Deep.LoopGhost
import Derived.Deep.RegionHeld3

/-
  A byte slice that reads as a list of bytes, and the small laws that a walk over it wants. No dump is imported.
-/
namespace Go.Proofs.Ytmkmojhhfbokdaa
open Go.RowKit

abbrev Byte := BitVec 8
abbrev B8 (x : Byte) : Value := .int .u8 (x.toNat : Int)

/-- 'a' leads to the bytes l, all below block B; of the empty list nothing is asked. -/
def Bs (w : World) (B : Nat) (a : Option Addr) (l : List Byte) : Prop :=
  0 < l.length → ∃ b off, a = some ⟨b, off, none⟩ ∧ b < B ∧ ∀ i x, l[i]? = some x → w.cell? ⟨b, off + i, none⟩ = some (B8 x)

section
variable {w w' : World} {B B' : Nat} {a : Option Addr} {l : List Byte}
theorem Bs.nil_ : Bs w B a [] := fun h => absurd h (by simp)
theorem Bs.keep (h : Bs w B a l) (hk : ∀ p : Addr, p.block < B → w'.cell? p = w.cell? p) : Bs w' B a l := fun hl => by
  obtain ⟨b, off, rfl, hb, hc⟩ := h hl
  exact ⟨b, off, rfl, hb, fun i x hx => (hk ⟨b, off + i, none⟩ hb).trans (hc i x hx)⟩
theorem Bs.below (h : Bs w B a l) (hb : Below B w w') : Bs w' B a l := h.keep fun _ hp => hb.cell hp
theorem Bs.more (h : Bs w B a l) (hB : B ≤ B') : Bs w B' a l := fun hl => by
  obtain ⟨b, off, rfl, hb, hc⟩ := h hl
  exact ⟨b, off, rfl, by omega, hc⟩
theorem Bs.at_ (h : Bs w B a l) {k : Nat} (hk : k < l.length) : ∃ b off, a = some ⟨b, off, none⟩ ∧ b < B ∧ w.cell? ⟨b, off + k, none⟩ = some (B8 l[k]) := by
  obtain ⟨b, off, rfl, hb, hc⟩ := h (by omega)
  exact ⟨b, off, rfl, hb, hc k _ (List.getElem?_eq_getElem hk)⟩
theorem Bs.take (h : Bs w B a l) (n : Nat) : Bs w B a (l.take n) := fun hl => by
  obtain ⟨b, off, rfl, hb, hc⟩ := h (by simp at hl; omega)
  refine ⟨b, off, rfl, hb, fun i x hx => hc i x ?_⟩
  rw [List.getElem?_take] at hx
  split at hx
  · exact hx
  · cases hx
end

/-! ### numbers of the walk as bit vectors -/
theorem b16_and (a b : BitVec 16) : bits .and .u16 (a.toNat : Int) (b.toNat : Int) = ((a &&& b).toNat : Int) := by
  rw [u16_and_nat _ _ a.isLt b.isLt, BitVec.toNat_and]
theorem b16_xor (a b : BitVec 16) : bits .xor .u16 (a.toNat : Int) (b.toNat : Int) = ((a ^^^ b).toNat : Int) := by
  rw [u16_xor_nat _ _ a.isLt b.isLt, BitVec.toNat_xor]
theorem b16_or (a b : BitVec 16) : bits .or .u16 (a.toNat : Int) (b.toNat : Int) = ((a ||| b).toNat : Int) := by
  rw [u16_or_nat _ _ a.isLt b.isLt, BitVec.toNat_or]
theorem b32_and (a b : BitVec 32) : bits .and .u32 (a.toNat : Int) (b.toNat : Int) = ((a &&& b).toNat : Int) := by
  rw [u32_and_nat _ _ a.isLt b.isLt, BitVec.toNat_and]
theorem b32_xor (a b : BitVec 32) : bits .xor .u32 (a.toNat : Int) (b.toNat : Int) = ((a ^^^ b).toNat : Int) := by
  rw [u32_xor_nat _ _ a.isLt b.isLt, BitVec.toNat_xor]
theorem b16_shl (a : BitVec 16) (n : Nat) : IntKind.u16.wrap ((a.toNat : Int) * 2 ^ n) = ((a <<< n).toNat : Int) := by
  have e : ((a.toNat : Int) * 2 ^ n) = ((a.toNat * 2 ^ n : Nat) : Int) := by rw [Int.natCast_mul, Int.natCast_pow]; rfl
  rw [IntKind.wrap_u16, BitVec.toNat_shiftLeft, Nat.shiftLeft_eq, e]
  generalize a.toNat * 2 ^ n = q
  show (q : Int) % 65536 = ((q % 65536 : Nat) : Int)
  omega
theorem b16_shl1 (a : BitVec 16) : IntKind.u16.wrap ((a.toNat : Int) * 2) = ((a <<< 1).toNat : Int) := b16_shl a 1
theorem b32_shr1 (a : BitVec 32) : (a.toNat : Int) / (2 : Int) = ((a >>> 1).toNat : Int) := by
  rw [BitVec.toNat_ushiftRight, Nat.shiftRight_eq_div_pow]
  show (a.toNat : Int) / 2 = ((a.toNat / 2 : Nat) : Int)
  omega

theorem b32_not (a : BitVec 32) : bits .xor .u32 IntKind.u32.max (a.toNat : Int) = ((~~~ a).toNat : Int) := by
  have e := b32_xor (BitVec.allOnes 32) a
  rw [BitVec.allOnes_xor] at e
  exact e
theorem and_top (r : BitVec 16) : r &&& 0x8000#16 = if r.getLsbD 15 then 0x8000#16 else 0#16 := BitVec.and_twoPow r 15
theorem and_low (r : BitVec 32) : r &&& 1#32 = if r.getLsbD 0 then 1#32 else 0#32 := BitVec.and_twoPow r 0

/-! ### an argument: what the row's shell tells of a slice of integers that came in -/
def IsRow (k : IntKind) (w : World) (a : Option Addr) (len cap : Nat) (zs : List Int) : Prop :=
  (a = none ∧ len = 0 ∧ cap = 0 ∧ zs = []) ∨
  ∃ x, a = some x ∧ len ≤ cap ∧ cap ≤ maxLen ∧ zs.length = cap ∧ (∀ i, i < zs.length → w.cell? (x.add i) = some (.int k (zs.getD i 0))) ∧ ∀ n ∈ zs, (Lit.int k n).wf = true

theorem lt_of_cell {w : World} {p : Addr} {v : Value} (h : w.cell? p = some v) : p.block < w.heap.size := by
  rcases Nat.lt_or_ge p.block w.heap.size with h' | h'
  · exact h'
  · simp [World.cell?, Array.getElem?_eq_none h'] at h

theorem u8_bounds {n : Int} (h : (Lit.int .u8 n).wf = true) : 0 ≤ n ∧ n < 256 := by
  have := (by simpa [Lit.wf, IntKind.min, IntKind.max, IntKind.bits, IntKind.signed] using h : _ ∧ _)
  omega
theorem u16_bounds {n : Int} (h : (Lit.int .u16 n).wf = true) : 0 ≤ n ∧ n < 65536 := by
  have := (by simpa [Lit.wf, IntKind.min, IntKind.max, IntKind.bits, IntKind.signed] using h : _ ∧ _)
  omega
theorem u32_bounds {n : Int} (h : (Lit.int .u32 n).wf = true) : 0 ≤ n ∧ n < 4294967296 := by
  have := (by simpa [Lit.wf, IntKind.min, IntKind.max, IntKind.bits, IntKind.signed] using h : _ ∧ _)
  omega

theorem i64_bounds {n : Int} (h : (Lit.int .i64 n).wf = true) : -9223372036854775808 ≤ n ∧ n ≤ 9223372036854775807 := by
  have := (by simpa [Lit.wf, IntKind.min, IntKind.max, IntKind.bits, IntKind.signed] using h : _ ∧ _)
  omega
theorem u64_bounds {n : Int} (h : (Lit.int .u64 n).wf = true) : 0 ≤ n ∧ n < 18446744073709551616 := by
  have := (by simpa [Lit.wf, IntKind.min, IntKind.max, IntKind.bits, IntKind.signed] using h : _ ∧ _)
  omega
theorem of_u64 {n : Int} (h : (Lit.int .u64 n).wf = true) : ∃ r : BitVec 64, n = (r.toNat : Int) := by
  have := u64_bounds h
  exact ⟨BitVec.ofNat 64 n.toNat, by rw [BitVec.toNat_ofNat, Nat.mod_eq_of_lt (by omega)]; omega⟩
theorem of_u8 {n : Int} (h : (Lit.int .u8 n).wf = true) : ∃ r : BitVec 8, n = (r.toNat : Int) := by
  have := u8_bounds h
  exact ⟨BitVec.ofNat 8 n.toNat, by rw [BitVec.toNat_ofNat, Nat.mod_eq_of_lt (by omega)]; omega⟩
theorem of_u16 {n : Int} (h : (Lit.int .u16 n).wf = true) : ∃ r : BitVec 16, n = (r.toNat : Int) := by
  have := u16_bounds h
  exact ⟨BitVec.ofNat 16 n.toNat, by rw [BitVec.toNat_ofNat, Nat.mod_eq_of_lt (by omega)]; omega⟩
theorem of_u32 {n : Int} (h : (Lit.int .u32 n).wf = true) : ∃ r : BitVec 32, n = (r.toNat : Int) := by
  have := u32_bounds h
  exact ⟨BitVec.ofNat 32 n.toNat, by rw [BitVec.toNat_ofNat, Nat.mod_eq_of_lt (by omega)]; omega⟩

theorem IsRow.bytes {w : World} {a : Option Addr} {len cap : Nat} {zs : List Int} (h : IsRow .u8 w a len cap zs) :
    ∃ l : List Byte, len = l.length ∧ Bs w w.heap.size a l ∧ (a = none → cap = 0) ∧ l.length ≤ cap ∧ cap ≤ maxLen := by
  rcases h with ⟨rfl, rfl, rfl, rfl⟩ | ⟨x, rfl, hl, hm, hz, hc, hw⟩
  · exact ⟨[], rfl, Bs.nil_, fun _ => rfl, by simp, by simp⟩
  · refine ⟨(zs.take len).map fun n => BitVec.ofNat 8 n.toNat, by simp; omega, fun hpos => ?_, by simp, by simp; omega, hm⟩
    have h0 := hc 0 (by simp at hpos; omega)
    obtain ⟨b, off, spot⟩ := x
    have hs : spot = none := by simpa [Addr.add] using World.cell?_spot h0
    subst hs
    refine ⟨b, off, rfl, lt_of_cell h0, fun i y hy => ?_⟩
    rw [List.getElem?_map, List.getElem?_take] at hy
    split at hy
    · rename_i hi
      have hzi : i < zs.length := by omega
      rw [List.getElem?_eq_getElem hzi] at hy
      injection hy with hy
      have hb := u8_bounds (hw zs[i] (List.getElem_mem hzi))
      have e : (y.toNat : Int) = zs[i] := by
        rw [← hy, BitVec.toNat_ofNat, Nat.mod_eq_of_lt (by omega)]; omega
      have := hc i hzi
      rw [List.getD_eq_getElem?_getD, List.getElem?_eq_getElem hzi] at this
      show _ = some (Value.int .u8 (y.toNat : Int))
      rw [e]
      by_cases h1 : i = 0
      · subst h1; simpa [Addr.add] using this
      · simpa [Addr.add, h1] using this
    · cases hy

end Go.Proofs.Ytmkmojhhfbokdaa

/-
  Plain mathematics of bit fields, no Go in sight: the bits of a number, of a byte string; a byte string that packs a list of bits; numbers that are read out of a byte string.
-/
namespace Go.Proofs.Ytmkmojhhfbokdaa

theorem getD_app {α : Type} (l m : List α) (k : Nat) (d : α) : (l ++ m).getD k d = if k < l.length then l.getD k d else m.getD (k - l.length) d := by
  rw [List.getD_eq_getElem?_getD, List.getElem?_append]
  split <;> rw [List.getD_eq_getElem?_getD]

/-- bit k of a byte string, the most significant bit of the first byte first -/
def bitAt (bs : List Byte) (k : Nat) : Bool := (bs.getD (k / 8) 0#8).getLsbD (7 - k % 8)

/-- the low w bits of n, the most significant one first -/
def bitsOf (n : Nat) : Nat → List Bool
  | 0 => []
  | k + 1 => n.testBit k :: bitsOf n k

theorem bitsOf_len (n w : Nat) : (bitsOf n w).length = w := by
  induction w with
  | zero => rfl
  | succ w ih => simp [bitsOf, ih]
theorem bitsOf_add (n a b : Nat) : bitsOf n (a + b) = bitsOf (n / 2 ^ b) a ++ bitsOf n b := by
  induction a with
  | zero => simp [bitsOf]
  | succ a ih =>
    rw [Nat.succ_add]
    simp only [bitsOf, List.cons_append, ih, Nat.testBit_div_two_pow]
theorem bitsOf_getD (n w j : Nat) : (bitsOf n w).getD j false = (decide (j < w) && n.testBit (w - 1 - j)) := by
  induction w generalizing j with
  | zero => simp [bitsOf]
  | succ w ih =>
    cases j with
    | zero => simp [bitsOf]
    | succ j =>
      rw [bitsOf, List.getD_cons_succ, ih]
      have e : w + 1 - 1 - (j + 1) = w - 1 - j := by omega
      rw [e]
      simp

theorem bitsOf_mod (n w : Nat) : bitsOf (n % 2 ^ w) w = bitsOf n w := by
  refine List.ext_getElem (by simp [bitsOf_len]) fun j h1 h2 => ?_
  have e1 := bitsOf_getD (n % 2 ^ w) w j
  have e2 := bitsOf_getD n w j
  rw [List.getD_eq_getElem?_getD, List.getElem?_eq_getElem h1, Option.getD_some] at e1
  rw [List.getD_eq_getElem?_getD, List.getElem?_eq_getElem h2, Option.getD_some] at e2
  rw [bitsOf_len] at h1
  rw [e1, e2, Nat.testBit_mod_two_pow]
  have : w - 1 - j < w := by omega
  simp [this]

/-- bs holds the bits L and then fr zero bits -/
structure Room (bs : List Byte) (L : List Bool) (fr : Nat) : Prop where
  len : 8 * bs.length = L.length + fr
  le : fr ≤ 8
  bit : ∀ k, bitAt bs k = L.getD k false

/-- bs is L, filled with zero bits to whole bytes -/
structure Packs (bs : List Byte) (L : List Bool) : Prop where
  len : bs.length = (L.length + 7) / 8
  bit : ∀ k, bitAt bs k = L.getD k false

theorem Room.packs {bs : List Byte} {L : List Bool} {fr : Nat} (h : Room bs L fr) (hf : fr < 8) : Packs bs L := ⟨by have := h.len; omega, h.bit⟩
theorem room_nil : Room [] [] 0 := ⟨rfl, by omega, fun k => by simp [bitAt]⟩
theorem packs_nil : Packs [] [] := ⟨rfl, fun k => by simp [bitAt]⟩

theorem Packs.unique {bs cs : List Byte} {L : List Bool} (h : Packs bs L) (k : Packs cs L) : bs = cs := by
  refine List.ext_getElem (by rw [h.len, k.len]) fun i h1 h2 => ?_
  refine BitVec.eq_of_getLsbD_eq fun j hj => ?_
  have e := (h.bit (8 * i + (7 - j))).trans (k.bit (8 * i + (7 - j))).symm
  unfold bitAt at e
  rw [show (8 * i + (7 - j)) / 8 = i by omega, show 7 - (8 * i + (7 - j)) % 8 = j by omega] at e
  simpa [List.getD_eq_getElem?_getD, h1, h2] using e

theorem bitAt_app (bs cs : List Byte) (k : Nat) : bitAt (bs ++ cs) k = if k < 8 * bs.length then bitAt bs k else bitAt cs (k - 8 * bs.length) := by
  unfold bitAt
  split
  · rw [getD_app, if_pos (by omega)]
  · rw [getD_app, if_neg (by omega), show k / 8 - bs.length = (k - 8 * bs.length) / 8 by omega, show k % 8 = (k - 8 * bs.length) % 8 by omega]
theorem bitAt_zero (k : Nat) : bitAt [0#8] k = false := by
  unfold bitAt
  cases h : k / 8 <;> simp
theorem bitAt_set (bs : List Byte) (i : Nat) (x : Byte) (k : Nat) (hi : i < bs.length) : bitAt (bs.set i x) k = if k / 8 = i then x.getLsbD (7 - k % 8) else bitAt bs k := by
  unfold bitAt
  rw [List.getD_eq_getElem?_getD, List.getElem?_set]
  split
  · rename_i h
    rw [if_pos h.symm]
    simp
  · rename_i h
    rw [if_neg (fun e => h e.symm), List.getD_eq_getElem?_getD]

theorem Room.grow {bs : List Byte} {L : List Bool} (h : Room bs L 0) : Room (bs ++ [0#8]) L 8 := by
  refine ⟨by have := h.len; simp; omega, by omega, fun k => ?_⟩
  rw [bitAt_app, bitAt_zero, h.bit]
  split
  · rfl
  · rw [List.getD_eq_getElem?_getD, List.getElem?_eq_none (by have := h.len; omega)]; rfl

theorem Room.put {bs : List Byte} {L : List Bool} {fr size m : Nat} (h : Room bs L fr) (hs : size ≤ fr) (hf : 0 < fr) (x piece : Byte) (hx : bs[bs.length - 1]? = some x)
    (hp : ∀ i, piece.getLsbD i = (decide (i < size) && m.testBit i)) :
    Room (bs.set (bs.length - 1) (x ||| (piece <<< (fr - size)))) (L ++ bitsOf m size) (fr - size) := by
  have hl := h.len
  have hle := h.le
  have hx0 : bs.length - 1 < bs.length := by omega
  refine ⟨by simp [bitsOf_len]; omega, by omega, fun k => ?_⟩
  rw [bitAt_set _ _ _ _ hx0]
  have hb := h.bit k
  have hxx : bs.getD (bs.length - 1) 0#8 = x := by rw [List.getD_eq_getElem?_getD, hx]; rfl
  rw [List.getD_eq_getElem?_getD, List.getElem?_append]
  by_cases hk : k < L.length
  · rw [if_pos hk, ← List.getD_eq_getElem?_getD, ← hb]
    split
    · rename_i h8
      unfold bitAt
      rw [h8, hxx, BitVec.getLsbD_or, BitVec.getLsbD_shiftLeft, hp]
      have : ¬ (7 - k % 8 - (fr - size) < size) := by omega
      simp [this]
    · rfl
  · rw [if_neg hk, ← List.getD_eq_getElem?_getD, bitsOf_getD]
    have hz : bitAt bs k = false := by rw [hb, List.getD_eq_getElem?_getD, List.getElem?_eq_none (by omega)]; rfl
    split
    · rename_i h8
      unfold bitAt at hz
      rw [h8, hxx] at hz
      rw [BitVec.getLsbD_or, BitVec.getLsbD_shiftLeft, hp, hz, Bool.false_or]
      by_cases hj : k - L.length < size
      · have e1 : ¬ (7 - k % 8 < fr - size) := by omega
        have e2 : 7 - k % 8 - (fr - size) < size := by omega
        have e3 : 7 - k % 8 - (fr - size) = size - 1 - (k - L.length) := by omega
        have e4 : 7 - k % 8 < 8 := by omega
        simp only [hj, e1, e3, e4]
        have e5 : size - 1 - (k - L.length) < size := by omega
        simp [e5]
      · have e1 : 7 - k % 8 < fr - size := by omega
        simp [hj, e1]
    · rw [hz]
      have e1 : ¬ (k - L.length < size) := by omega
      simp [e1]

/-! ### numbers out of a byte string -/
def numAt (bs : List Byte) (p : Nat) : Nat → Nat
  | 0 => 0
  | w + 1 => 2 * numAt bs p w + (bitAt bs (p + w)).toNat
theorem numAt_lt (bs : List Byte) (p w : Nat) : numAt bs p w < 2 ^ w := by
  induction w with
  | zero => simp [numAt]
  | succ w ih =>
    have := Bool.toNat_le (bitAt bs (p + w))
    simp only [numAt, Nat.pow_succ]
    omega
theorem numAt_add (bs : List Byte) (p a b : Nat) : numAt bs p (a + b) = numAt bs p a * 2 ^ b + numAt bs (p + a) b := by
  induction b with
  | zero => simp [numAt]
  | succ b ih =>
    rw [← Nat.add_assoc]
    simp only [numAt, ih, Nat.add_assoc, Nat.pow_succ]
    rw [Nat.mul_add, ← Nat.mul_assoc, Nat.mul_comm 2 (numAt bs p a), Nat.mul_assoc, Nat.mul_comm 2 (2 ^ b), Nat.add_assoc]
theorem numAt_testBit (bs : List Byte) (p w i : Nat) : (numAt bs p w).testBit i = (decide (i < w) && bitAt bs (p + (w - 1 - i))) := by
  induction w generalizing i with
  | zero => simp [numAt]
  | succ w ih =>
    cases i with
    | zero =>
      simp only [numAt, Nat.testBit_zero]
      have : (2 * numAt bs p w + (bitAt bs (p + w)).toNat) % 2 = (bitAt bs (p + w)).toNat := by
        have := Bool.toNat_le (bitAt bs (p + w))
        omega
      rw [this]
      cases hb : bitAt bs (p + w) <;> simp [hb]
    | succ i =>
      rw [Nat.testBit_succ]
      have e : numAt bs p (w + 1) / 2 = numAt bs p w := by
        have := Bool.toNat_le (bitAt bs (p + w))
        simp only [numAt]; omega
      rw [e, ih]
      have e2 : w + 1 - 1 - (i + 1) = w - 1 - i := by omega
      rw [e2]
      simp
/-- a piece of one byte -/
theorem numAt_piece (bs : List Byte) (p s : Nat) (x : Byte) (hs : p % 8 + s ≤ 8) (hx : bs[p / 8]? = some x) : x.toNat * 2 ^ (p % 8) % 256 / 2 ^ (8 - s) = numAt bs p s := by
  refine Nat.eq_of_testBit_eq fun i => ?_
  rw [numAt_testBit, Nat.testBit_div_two_pow, show 256 = 2 ^ 8 from rfl, Nat.testBit_mod_two_pow, Nat.testBit_mul_two_pow, Nat.add_comm i (8 - s)]
  by_cases hi : i < s
  · have e1 : 8 - s + i < 8 := by omega
    have e2 : p % 8 ≤ 8 - s + i := by omega
    simp only [hi, e1, e2, decide_true, Bool.true_and]
    unfold bitAt
    rw [show (p + (s - 1 - i)) / 8 = p / 8 by omega, List.getD_eq_getElem?_getD, hx, show 7 - (p + (s - 1 - i)) % 8 = 8 - s + i - p % 8 by omega]
    rfl
  · have e1 : ¬ (8 - s + i < 8) := by omega
    simp [hi, e1]
/-- one bit of one byte -/
theorem bitAt_byte (bs : List Byte) (p : Nat) (x : Byte) (hx : bs[p / 8]? = some x) : x.toNat / 2 ^ (7 - p % 8) % 2 = (bitAt bs p).toNat := by
  unfold bitAt
  rw [List.getD_eq_getElem?_getD, hx, Option.getD_some]
  have := Nat.toNat_testBit x.toNat (7 - p % 8)
  rw [← this]
  rfl

/-- what was put is read back -/
theorem numAt_bits {bs : List Byte} {pre post : List Bool} {n w : Nat} (h : ∀ k, bitAt bs k = (pre ++ bitsOf n w ++ post).getD k false) : numAt bs pre.length w = n % 2 ^ w := by
  refine Nat.eq_of_testBit_eq fun i => ?_
  rw [numAt_testBit, Nat.testBit_mod_two_pow]
  by_cases hi : i < w
  · rw [h, List.append_assoc, getD_app, if_neg (by omega), getD_app, if_pos (by rw [bitsOf_len]; omega), bitsOf_getD]
    have e1 : pre.length + (w - 1 - i) - pre.length = w - 1 - i := by omega
    have e2 : w - 1 - (w - 1 - i) = i := by omega
    have e3 : w - 1 - i < w := by omega
    rw [e1, e2]
    simp [hi, e3]
  · simp [hi]
theorem numAt_zero {bs : List Byte} {p w : Nat} (h : ∀ k, p ≤ k → bitAt bs k = false) : numAt bs p w = 0 := by
  induction w with
  | zero => rfl
  | succ w ih => simp [numAt, ih, h (p + w) (by omega)]

/-! ### numbers of the walk -/
theorem u8_or (x y : Byte) : bits .or .u8 (x.toNat : Int) (y.toNat : Int) = ((x ||| y).toNat : Int) := by
  rw [u8_or_nat _ _ x.isLt y.isLt, BitVec.toNat_or]
theorem u8_shl (x : Byte) (n : Nat) : IntKind.u8.wrap ((x.toNat : Int) * 2 ^ n) = ((x <<< n).toNat : Int) := by
  have e : ((x.toNat : Int) * 2 ^ n) = ((x.toNat * 2 ^ n : Nat) : Int) := by rw [Int.natCast_mul, Int.natCast_pow]; rfl
  rw [IntKind.wrap_u8, BitVec.toNat_shiftLeft, Nat.shiftLeft_eq, e]
  generalize x.toNat * 2 ^ n = q
  show (q : Int) % 256 = ((q % 256 : Nat) : Int)
  omega
theorem div_nat (n : BitVec 64) (j : Nat) : (n.toNat : Int) / 2 ^ j = ((n.toNat / 2 ^ j : Nat) : Int) := by
  rw [Int.natCast_ediv, Int.natCast_pow]; rfl
/-- the low s bits of q, as a byte -/
def piece (q s : Nat) : Byte := BitVec.ofNat 8 (q % 2 ^ s)
theorem piece_bit (q s : Nat) (hs : s ≤ 8) (i : Nat) : (piece q s).getLsbD i = (decide (i < s) && q.testBit i) := by
  unfold piece
  rw [BitVec.getLsbD_ofNat, Nat.testBit_mod_two_pow]
  by_cases h : i < s
  · have : i < 8 := by omega
    simp [h, this]
  · simp [h]
theorem piece_nat (q s : Nat) (hs : s ≤ 8) : (piece q s).toNat = q % 2 ^ s := by
  unfold piece
  rw [BitVec.toNat_ofNat]
  refine Nat.mod_eq_of_lt (Nat.lt_of_lt_of_le (Nat.mod_lt _ (Nat.two_pow_pos s)) (Nat.pow_le_pow_right (by decide) hs))
theorem mask_of (s : Nat) (hs : s ≤ 8) : (255 : Int) / 2 ^ (8 - s) = 2 ^ s - 1 := by
  match s, hs with
  | 0, _ | 1, _ | 2, _ | 3, _ | 4, _ | 5, _ | 6, _ | 7, _ | 8, _ => decide
theorem dvd_256 (s : Nat) (hs : s ≤ 8) : (2 : Int) ^ s ∣ 256 := by
  match s, hs with
  | 0, _ | 1, _ | 2, _ | 3, _ | 4, _ | 5, _ | 6, _ | 7, _ | 8, _ => decide
theorem piece_walk (q s : Nat) (hs : s ≤ 8) : bits .and .u8 (IntKind.u8.wrap (q : Int)) (255 / 2 ^ (8 - s)) = ((piece q s).toNat : Int) := by
  rw [mask_of s hs, IntKind.wrap_u8, piece_nat q s hs]
  rw [bits_mask .u8 8 (by decide) wraps_u8 s hs _ (by omega) (by omega)]
  have e : ((q % 2 ^ s : Nat) : Int) = (q : Int) % 2 ^ s := by rw [Int.natCast_emod, Int.natCast_pow]; rfl
  rw [e]
  exact Int.emod_emod_of_dvd _ (dvd_256 s hs)

end Go.Proofs.Ytmkmojhhfbokdaa

/-
  Plain mathematics of space packets, no Go in sight: when a packet is valid, its header's six bytes, what a header states; both ways fit.
-/
namespace Go.Proofs.Ytmkmojhhfbokdaa.Pac

/-- a space packet -/
structure Pk where
  com : Bool
  sec : Bool
  ap : Int
  fl : Int
  ct : Int
  d : List Byte
deriving DecidableEq

/-- are all bytes zeros? -/
def zer (l : List Byte) : Bool := l.all fun x => decide (x = 0#8)
theorem zer_nil : zer [] = true := rfl
theorem zer_take {l : List Byte} {k : Nat} {x : Byte} (hx : l[k]? = some x) : zer (l.take (k + 1)) = (zer (l.take k) && decide (x = 0#8)) := by
  rw [List.take_add_one, hx]
  simp [zer]
theorem zer_no {l : List Byte} {k : Nat} {x : Byte} (hx : l[k]? = some x) (h : x ≠ 0#8) : zer l = false := by
  unfold zer
  rw [List.all_eq_false]
  exact ⟨x, List.mem_of_getElem? hx, by simpa using h⟩
theorem zer_rep (n : Nat) : zer (List.replicate n 0#8) = true := by simp [zer]

/-- numbers and length in range -/
def Pk.Fits (p : Pk) : Prop := 0 ≤ p.ap ∧ p.ap ≤ 2047 ∧ 0 ≤ p.fl ∧ p.fl ≤ 3 ∧ 0 ≤ p.ct ∧ p.ct ≤ 16383 ∧ 1 ≤ p.d.length ∧ p.d.length ≤ 4090
instance (p : Pk) : Decidable p.Fits := by unfold Pk.Fits; infer_instance
/-- what an idle packet must be -/
def Pk.idle (p : Pk) : Bool := !p.com && (!p.sec && (decide (p.fl = 3) && (decide (p.ct = 0) && zer p.d)))
def Pk.ok (p : Pk) : Bool := decide p.Fits && (!decide (p.ap = 2047) || p.idle)

theorem Pk.ok_no {p : Pk} (h : ¬ p.Fits) : p.ok = false := by unfold Pk.ok; rw [decide_eq_false h]; rfl
theorem Pk.ok_free {p : Pk} (h : p.Fits) (h2 : p.ap ≠ 2047) : p.ok = true := by unfold Pk.ok; rw [decide_eq_true h, decide_eq_false h2]; rfl
theorem Pk.ok_idle {p : Pk} (h : p.Fits) (h2 : p.ap = 2047) : p.ok = p.idle := by unfold Pk.ok; rw [decide_eq_true h, decide_eq_true h2]; rfl
theorem Pk.ok_fits {p : Pk} (h : p.ok = true) : p.Fits := by
  unfold Pk.ok at h
  simp only [Bool.and_eq_true, decide_eq_true_eq] at h
  exact h.1

/-- the first two bytes' number, the second two's -/
def hd1 (com sec : Bool) (A : Nat) : Nat := (if com then 4096 else 0) + (if sec then 2048 else 0) + A
def hd2 (F T : Nat) : Nat := F * 16384 + T
/-- a header of three numbers -/
def hdr (H C K : Nat) : List Byte := [BitVec.ofNat 8 (H / 256), BitVec.ofNat 8 (H % 256), BitVec.ofNat 8 (C / 256), BitVec.ofNat 8 (C % 256), BitVec.ofNat 8 (K / 256), BitVec.ofNat 8 (K % 256)]
theorem hdr_len (H C K : Nat) : (hdr H C K).length = 6 := rfl
def Pk.head (p : Pk) : List Byte := hdr (hd1 p.com p.sec p.ap.toNat) (hd2 p.fl.toNat p.ct.toNat) (p.d.length - 1)
/-- what Encode hands back -/
def Pk.enc (p : Pk) : List Byte := if p.ok then p.head ++ p.d else []
def Pk.err (p : Pk) : Int := if p.ok then 0 else 1
theorem Pk.enc_yes {p : Pk} (h : p.ok = true) : p.enc = p.head ++ p.d := by unfold Pk.enc; rw [if_pos h]
theorem Pk.enc_no {p : Pk} (h : p.ok = false) : p.enc = [] := by unfold Pk.enc; rw [h]; rfl
theorem Pk.err_yes {p : Pk} (h : p.ok = true) : p.err = 0 := by unfold Pk.err; rw [if_pos h]
theorem Pk.err_no {p : Pk} (h : p.ok = false) : p.err = 1 := by unfold Pk.err; rw [h]; rfl

/-! ### the Writer's bits are the header -/
theorem bitsOf_join (x y a b : Nat) (hy : y < 2 ^ b) : bitsOf x a ++ bitsOf y b = bitsOf (x * 2 ^ b + y) (a + b) := by
  have hp := Nat.two_pow_pos b
  have e1 : (x * 2 ^ b + y) / 2 ^ b = x := by
    rw [Nat.mul_comm, Nat.mul_add_div hp, Nat.div_eq_of_lt hy]; rfl
  have e2 : (x * 2 ^ b + y) % 2 ^ b = y % 2 ^ b := by
    rw [Nat.mul_comm, Nat.mul_add_mod]
  rw [bitsOf_add, e1, ← bitsOf_mod (x * 2 ^ b + y) b, e2, bitsOf_mod]

theorem Packs.both {a b : List Byte} {L M : List Bool} (h : Packs a L) (k : Packs b M) (hL : L.length = 8 * a.length) : Packs (a ++ b) (L ++ M) := by
  refine ⟨by rw [List.length_append, List.length_append, h.len, k.len]; have := h.len; omega, fun i => ?_⟩
  rw [bitAt_app, getD_app, ← hL]
  split
  · exact h.bit i
  · exact k.bit _
theorem packs_byte (X : Nat) : Packs [BitVec.ofNat 8 X] (bitsOf X 8) := by
  refine ⟨by rw [bitsOf_len]; rfl, fun k => ?_⟩
  rw [bitsOf_getD]
  unfold bitAt
  by_cases hk : k < 8
  · rw [show k / 8 = 0 by omega, show k % 8 = k by omega]
    have h7 : 7 - k < 8 := by omega
    rw [List.getD_cons_zero, BitVec.getLsbD_ofNat, decide_eq_true h7, decide_eq_true hk]
  · have : k / 8 = (k / 8 - 1) + 1 := by omega
    rw [this]
    simp [hk]
theorem packs_word (X : Nat) (_hX : X < 65536) : Packs [BitVec.ofNat 8 (X / 256), BitVec.ofNat 8 (X % 256)] (bitsOf X 16) := by
  have h := Packs.both (packs_byte (X / 256)) (packs_byte (X % 256)) (by simp [bitsOf_len])
  rw [bitsOf_join _ _ _ _ (by omega)] at h
  rw [show X / 256 * 2 ^ 8 + X % 256 = X by omega] at h
  exact h
theorem packs_hdr (H C K : Nat) (hH : H < 65536) (hC : C < 65536) (hK : K < 65536) : Packs (hdr H C K) (bitsOf H 16 ++ bitsOf C 16 ++ bitsOf K 16) :=
  Packs.both (Packs.both (packs_word H hH) (packs_word C hC) (by simp [bitsOf_len])) (packs_word K hK) (by simp [bitsOf_len])

def nb (b : Bool) : Nat := if b then 1 else 0
theorem nb_lt (b : Bool) : nb b < 2 ^ 1 := by cases b <;> decide
/-- what the Writer has been given -/
theorem header_bits (com sec : Bool) (A F T K : Nat) (hA : A < 2048) (hT : T < 16384) :
    [] ++ bitsOf 0 3 ++ bitsOf (nb com) 1 ++ bitsOf (nb sec) 1 ++ bitsOf A 11 ++ bitsOf F 2 ++ bitsOf T 14 ++ bitsOf K 16 = bitsOf (hd1 com sec A) 16 ++ bitsOf (hd2 F T) 16 ++ bitsOf K 16 := by
  rw [List.nil_append, bitsOf_join _ _ _ _ (nb_lt com), bitsOf_join _ _ _ _ (nb_lt sec), bitsOf_join _ _ _ _ (show A < 2 ^ 11 by omega), List.append_assoc (bitsOf _ _) (bitsOf F 2), bitsOf_join _ _ _ _ (show T < 2 ^ 14 by omega)]
  have e : ((0 * 2 ^ 1 + nb com) * 2 ^ 1 + nb sec) * 2 ^ 11 + A = hd1 com sec A := by cases com <;> cases sec <;> simp [nb, hd1] <;> omega
  rw [e]
  rfl
theorem head_of {bs : List Byte} (com sec : Bool) (A F T K : Nat) (hA : A < 2048) (hF : F < 4) (hT : T < 16384) (hK : K < 65536)
    (h : Packs bs ([] ++ bitsOf 0 3 ++ bitsOf (nb com) 1 ++ bitsOf (nb sec) 1 ++ bitsOf A 11 ++ bitsOf F 2 ++ bitsOf T 14 ++ bitsOf K 16)) : bs = hdr (hd1 com sec A) (hd2 F T) K := by
  rw [header_bits com sec A F T K hA hT] at h
  have hH : hd1 com sec A < 65536 := by unfold hd1; cases com <;> cases sec <;> simp <;> omega
  have hC : hd2 F T < 65536 := by unfold hd2; omega
  exact Packs.unique h (packs_hdr _ _ _ hH hC hK)

/-! ### what a header states -/
def b8 (l : List Byte) (k : Nat) : Nat := (l.getD k 0#8).toNat
theorem b8_lt (l : List Byte) (k : Nat) : b8 l k < 256 := (l.getD k 0#8).isLt
theorem b8_at {l : List Byte} {k : Nat} {x : Byte} (h : l[k]? = some x) : b8 l k = x.toNat := by unfold b8; rw [List.getD_eq_getElem?_getD, h]; rfl
/-- the length in all -/
def tot (l : List Byte) : Nat := 7 + 256 * b8 l 4 + b8 l 5
def siE (l : List Byte) : Int := if l.length < 6 then 3 else if 32 ≤ b8 l 0 then 4 else if 4096 < tot l then 6 else 0
def siN (l : List Byte) : Nat := if l.length < 6 then 0 else if 32 ≤ b8 l 0 then 0 else if 4096 < tot l then 0 else tot l
/-- the packet that the bytes state -/
def rd (l : List Byte) : Pk :=
  ⟨decide (b8 l 0 / 16 % 2 = 1), decide (b8 l 0 / 8 % 2 = 1), ((256 * b8 l 0 + b8 l 1) % 2048 : Nat), ((256 * b8 l 2 + b8 l 3) / 16384 : Nat), ((256 * b8 l 2 + b8 l 3) % 16384 : Nat), (l.drop 6).take (tot l - 6)⟩
def noPk : Pk := ⟨false, false, 0, 0, 0, []⟩
def deE (l : List Byte) : Int := if siE l = 0 then (if l.length < tot l then 3 else if (rd l).ok then 0 else 4) else siE l
def deP (l : List Byte) : Pk := if deE l = 0 then rd l else noPk
def deN (l : List Byte) : Nat := if deE l = 0 then tot l else 0

theorem siE_short {l : List Byte} (h : l.length < 6) : siE l = 3 ∧ siN l = 0 := by unfold siE siN; rw [if_pos h, if_pos h]; exact ⟨rfl, rfl⟩
theorem siE_form {l : List Byte} (h : ¬ l.length < 6) (h2 : 32 ≤ b8 l 0) : siE l = 4 ∧ siN l = 0 := by unfold siE siN; rw [if_neg h, if_pos h2, if_neg h, if_pos h2]; exact ⟨rfl, rfl⟩
theorem siE_long {l : List Byte} (h : ¬ l.length < 6) (h2 : ¬ 32 ≤ b8 l 0) (h3 : 4096 < tot l) : siE l = 6 ∧ siN l = 0 := by
  unfold siE siN; rw [if_neg h, if_neg h2, if_pos h3, if_neg h, if_neg h2, if_pos h3]; exact ⟨rfl, rfl⟩
theorem siE_good {l : List Byte} (h : ¬ l.length < 6) (h2 : ¬ 32 ≤ b8 l 0) (h3 : ¬ 4096 < tot l) : siE l = 0 ∧ siN l = tot l := by
  unfold siE siN; rw [if_neg h, if_neg h2, if_neg h3, if_neg h, if_neg h2, if_neg h3]; exact ⟨rfl, rfl⟩
theorem siE_zero {l : List Byte} (h : siE l = 0) : ¬ l.length < 6 ∧ ¬ 32 ≤ b8 l 0 ∧ ¬ 4096 < tot l := by
  unfold siE at h
  refine ⟨fun c => ?_, fun c => ?_, fun c => ?_⟩
  · rw [if_pos c] at h; cases h
  · by_cases a : l.length < 6
    · rw [if_pos a] at h; cases h
    · rw [if_neg a, if_pos c] at h; cases h
  · by_cases a : l.length < 6
    · rw [if_pos a] at h; cases h
    · by_cases b : 32 ≤ b8 l 0
      · rw [if_neg a, if_pos b] at h; cases h
      · rw [if_neg a, if_neg b, if_pos c] at h; cases h
theorem de_err {l : List Byte} (h : siE l ≠ 0) : deE l = siE l ∧ deP l = noPk ∧ deN l = 0 := by
  have e : deE l = siE l := by unfold deE; rw [if_neg h]
  refine ⟨e, ?_, ?_⟩
  · unfold deP; rw [e, if_neg h]
  · unfold deN; rw [e, if_neg h]
theorem de_short {l : List Byte} (h : siE l = 0) (h2 : l.length < tot l) : deE l = 3 ∧ deP l = noPk ∧ deN l = 0 := by
  have e : deE l = 3 := by unfold deE; rw [if_pos h, if_pos h2]
  exact ⟨e, by unfold deP; rw [e]; rfl, by unfold deN; rw [e]; rfl⟩
theorem de_form {l : List Byte} (h : siE l = 0) (h2 : ¬ l.length < tot l) (h3 : (rd l).ok = false) : deE l = 4 ∧ deP l = noPk ∧ deN l = 0 := by
  have e : deE l = 4 := by unfold deE; rw [if_pos h, if_neg h2, h3]; rfl
  exact ⟨e, by unfold deP; rw [e]; rfl, by unfold deN; rw [e]; rfl⟩
theorem de_good {l : List Byte} (h : siE l = 0) (h2 : ¬ l.length < tot l) (h3 : (rd l).ok = true) : deE l = 0 ∧ deP l = rd l ∧ deN l = tot l := by
  have e : deE l = 0 := by unfold deE; rw [if_pos h, if_neg h2, h3]; rfl
  exact ⟨e, by unfold deP; rw [if_pos e], by unfold deN; rw [if_pos e]⟩
theorem de_zero {l : List Byte} (h : deE l = 0) : siE l = 0 ∧ ¬ l.length < tot l ∧ (rd l).ok = true := by
  unfold deE at h
  by_cases a : siE l = 0
  · by_cases b : l.length < tot l
    · rw [if_pos a, if_pos b] at h; cases h
    · cases c : (rd l).ok with
      | true => exact ⟨a, b, rfl⟩
      | false => rw [if_pos a, if_neg b, c] at h; cases h
  · rw [if_neg a] at h; exact absurd h a

/-! ### the Reader's numbers -/
section
variable {bs : List Byte} {x0 x1 x2 x3 x4 x5 : Byte}
theorem num_piece (p s : Nat) (x : Byte) (hs : p % 8 + s ≤ 8) (hx : bs[p / 8]? = some x) : numAt bs p s = x.toNat * 2 ^ (p % 8) % 256 / 2 ^ (8 - s) := (numAt_piece bs p s x hs hx).symm
theorem num_ver (h0 : bs[0]? = some x0) : numAt bs 0 3 = x0.toNat / 32 := by
  rw [num_piece 0 3 x0 (by decide) h0]
  have := x0.isLt
  simp only [Nat.reduceMod, Nat.reducePow, Nat.reduceSub]
  omega
theorem num_com (h0 : bs[0]? = some x0) : numAt bs 3 1 = x0.toNat / 16 % 2 := by
  rw [num_piece 3 1 x0 (by decide) h0]
  have := x0.isLt
  simp only [Nat.reduceMod, Nat.reducePow, Nat.reduceSub]
  omega
theorem num_sec (h0 : bs[0]? = some x0) : numAt bs 4 1 = x0.toNat / 8 % 2 := by
  rw [num_piece 4 1 x0 (by decide) h0]
  have := x0.isLt
  simp only [Nat.reduceMod, Nat.reducePow, Nat.reduceSub]
  omega
theorem num_ap (h0 : bs[0]? = some x0) (h1 : bs[1]? = some x1) : numAt bs 5 11 = (256 * x0.toNat + x1.toNat) % 2048 := by
  rw [show 11 = 3 + 8 from rfl, numAt_add, num_piece 5 3 x0 (by decide) h0, num_piece (5 + 3) 8 x1 (by decide) h1]
  have := x0.isLt
  have := x1.isLt
  simp only [Nat.reduceMod, Nat.reducePow, Nat.reduceSub, Nat.reduceAdd]
  omega
theorem num_fl (h2 : bs[2]? = some x2) : numAt bs 16 2 = (256 * x2.toNat + x3.toNat) / 16384 := by
  rw [num_piece 16 2 x2 (by decide) h2]
  have := x2.isLt
  have := x3.isLt
  simp only [Nat.reduceMod, Nat.reducePow, Nat.reduceSub]
  omega
theorem num_ct (h2 : bs[2]? = some x2) (h3 : bs[3]? = some x3) : numAt bs 18 14 = (256 * x2.toNat + x3.toNat) % 16384 := by
  rw [show 14 = 6 + 8 from rfl, numAt_add, num_piece 18 6 x2 (by decide) h2, num_piece (18 + 6) 8 x3 (by decide) h3]
  have := x2.isLt
  have := x3.isLt
  simp only [Nat.reduceMod, Nat.reducePow, Nat.reduceSub, Nat.reduceAdd]
  omega
theorem num_len (h4 : bs[4]? = some x4) (h5 : bs[5]? = some x5) : numAt bs 32 16 = 256 * x4.toNat + x5.toNat := by
  rw [show 16 = 8 + 8 from rfl, numAt_add, num_piece 32 8 x4 (by decide) h4, num_piece (32 + 8) 8 x5 (by decide) h5]
  have := x4.isLt
  have := x5.isLt
  simp only [Nat.reduceMod, Nat.reducePow, Nat.reduceSub, Nat.reduceAdd]
  omega
end

/-! ### both ways -/
theorem rd_head {p : Pk} (h : p.Fits) (r : List Byte) : rd (p.head ++ p.d ++ r) = p ∧ tot (p.head ++ p.d ++ r) = 6 + p.d.length ∧ b8 (p.head ++ p.d ++ r) 0 < 32 := by
  obtain ⟨com, sec, ap, fl, ct, d⟩ := p
  obtain ⟨h1, h2, h3, h4, h5, h6, h7, h8⟩ := h
  simp only at h1 h2 h3 h4 h5 h6 h7 h8
  obtain ⟨A, rfl⟩ := Int.eq_ofNat_of_zero_le h1
  obtain ⟨F, rfl⟩ := Int.eq_ofNat_of_zero_le h3
  obtain ⟨T, rfl⟩ := Int.eq_ofNat_of_zero_le h5
  obtain ⟨K, hK⟩ : ∃ K, d.length = K + 1 := ⟨d.length - 1, by omega⟩
  obtain ⟨H, hH⟩ : ∃ H, H = hd1 com sec A := ⟨_, rfl⟩
  obtain ⟨C, hC⟩ : ∃ C, C = hd2 F T := ⟨_, rfl⟩
  have hHl : H < 8192 := by rw [hH]; unfold hd1; cases com <;> cases sec <;> simp <;> omega
  have hCl : C < 65536 := by rw [hC]; unfold hd2; omega
  have e : (Pk.head ⟨com, sec, A, F, T, d⟩ ++ d ++ r) = hdr H C K ++ (d ++ r) := by
    unfold Pk.head
    simp only [Int.toNat_natCast, hK, Nat.add_sub_cancel, List.append_assoc, hH, hC]
  have t0 : b8 (hdr H C K ++ (d ++ r)) 0 = H / 256 := by show (BitVec.ofNat 8 (H / 256)).toNat = _; rw [BitVec.toNat_ofNat]; omega
  have t1 : b8 (hdr H C K ++ (d ++ r)) 1 = H % 256 := by show (BitVec.ofNat 8 (H % 256)).toNat = _; rw [BitVec.toNat_ofNat]; omega
  have t2 : b8 (hdr H C K ++ (d ++ r)) 2 = C / 256 := by show (BitVec.ofNat 8 (C / 256)).toNat = _; rw [BitVec.toNat_ofNat]; omega
  have t3 : b8 (hdr H C K ++ (d ++ r)) 3 = C % 256 := by show (BitVec.ofNat 8 (C % 256)).toNat = _; rw [BitVec.toNat_ofNat]; omega
  have t4 : b8 (hdr H C K ++ (d ++ r)) 4 = K / 256 := by show (BitVec.ofNat 8 (K / 256)).toNat = _; rw [BitVec.toNat_ofNat]; omega
  have t5 : b8 (hdr H C K ++ (d ++ r)) 5 = K % 256 := by show (BitVec.ofNat 8 (K % 256)).toNat = _; rw [BitVec.toNat_ofNat]; omega
  have ht : tot (hdr H C K ++ (d ++ r)) = 7 + K := by unfold tot; rw [t4, t5]; omega
  have hd : ((hdr H C K ++ (d ++ r)).drop 6).take (7 + K - 6) = d := by
    rw [List.drop_left' (hdr_len H C K), show 7 + K - 6 = d.length by omega, List.take_left]
  rw [e]
  refine ⟨?_, by rw [ht, hK]; omega, by rw [t0]; omega⟩
  unfold rd
  rw [ht, hd, t0, t1, t2, t3]
  have q1 : 256 * (H / 256) + H % 256 = H := by omega
  have q2 : 256 * (C / 256) + C % 256 = C := by omega
  rw [q1, q2]
  have q3 : H % 2048 = A := by rw [hH]; unfold hd1; cases com <;> cases sec <;> simp <;> omega
  have q4 : C / 16384 = F := by rw [hC]; unfold hd2; omega
  have q5 : C % 16384 = T := by rw [hC]; unfold hd2; omega
  have q6 : decide (H / 256 / 16 % 2 = 1) = com := by rw [hH]; unfold hd1; cases com <;> cases sec <;> simp <;> omega
  have q7 : decide (H / 256 / 8 % 2 = 1) = sec := by rw [hH]; unfold hd1; cases com <;> cases sec <;> simp <;> omega
  rw [q3, q4, q5, q6, q7]

/-- Decode inverts Encode, whatever follows -/
theorem dec_enc {p : Pk} (h : p.ok = true) (r : List Byte) : deE (p.enc ++ r) = 0 ∧ deP (p.enc ++ r) = p ∧ deN (p.enc ++ r) = p.enc.length := by
  rw [Pk.enc_yes h]
  obtain ⟨h1, h2, h3⟩ := rd_head (Pk.ok_fits h) r
  have hl : (p.head ++ p.d).length = 6 + p.d.length := by rw [List.length_append]; rfl
  have hL : (p.head ++ p.d ++ r).length = 6 + p.d.length + r.length := by rw [List.length_append, hl]
  have hd := (Pk.ok_fits h).2.2.2.2.2.2
  have hs := siE_good (l := p.head ++ p.d ++ r) (by omega) (by omega) (by omega)
  have := de_good hs.1 (by omega) (by rw [h1]; exact h)
  rw [h1, h2] at this
  rw [hl]
  exact this

theorem take_six {l : List Byte} (h : 6 ≤ l.length) : l = BitVec.ofNat 8 (b8 l 0) :: BitVec.ofNat 8 (b8 l 1) :: BitVec.ofNat 8 (b8 l 2) :: BitVec.ofNat 8 (b8 l 3) :: BitVec.ofNat 8 (b8 l 4) :: BitVec.ofNat 8 (b8 l 5) :: l.drop 6 := by
  match l, h with
  | a0 :: a1 :: a2 :: a3 :: a4 :: a5 :: r, _ => simp [b8]
/-- the bytes that Decode consumes are the encoding of the packet that it returns -/
theorem enc_dec {l : List Byte} (h : deE l = 0) : (deP l).ok = true ∧ (deP l).enc = l.take (deN l) ∧ deN l ≤ l.length := by
  obtain ⟨h1, h2, h3⟩ := de_zero h
  obtain ⟨_, e2, e3⟩ := de_good h1 h2 h3
  obtain ⟨s1, s2, s3⟩ := siE_zero h1
  rw [e2, e3]
  refine ⟨h3, ?_, by omega⟩
  rw [Pk.enc_yes h3]
  have b0 := b8_lt l 0
  have b1 := b8_lt l 1
  have b2 := b8_lt l 2
  have b3 := b8_lt l 3
  have b4 := b8_lt l 4
  have b5 := b8_lt l 5
  have hl : (rd l).d.length = tot l - 6 := by
    show ((l.drop 6).take (tot l - 6)).length = _
    rw [List.length_take, List.length_drop]; omega
  have hh : (rd l).head = hdr (256 * b8 l 0 + b8 l 1) (256 * b8 l 2 + b8 l 3) (256 * b8 l 4 + b8 l 5) := by
    unfold Pk.head
    rw [hl]
    have q1 : hd1 (rd l).com (rd l).sec (rd l).ap.toNat = 256 * b8 l 0 + b8 l 1 := by
      unfold hd1
      show (if decide (b8 l 0 / 16 % 2 = 1) = true then 4096 else 0) + (if decide (b8 l 0 / 8 % 2 = 1) = true then 2048 else 0) + (256 * b8 l 0 + b8 l 1) % 2048 = _
      simp only [decide_eq_true_eq]
      split <;> split <;> omega
    have q2 : hd2 (rd l).fl.toNat (rd l).ct.toNat = 256 * b8 l 2 + b8 l 3 := by
      unfold hd2
      show (256 * b8 l 2 + b8 l 3) / 16384 * 16384 + (256 * b8 l 2 + b8 l 3) % 16384 = _
      omega
    have q3 : tot l - 6 - 1 = 256 * b8 l 4 + b8 l 5 := by unfold tot; omega
    rw [q1, q2, q3]
  have e : l.take (tot l) = l.take 6 ++ (l.drop 6).take (tot l - 6) := by
    rw [← List.take_add]
    congr 1
    unfold tot; omega
  rw [e, hh]
  have f : hdr (256 * b8 l 0 + b8 l 1) (256 * b8 l 2 + b8 l 3) (256 * b8 l 4 + b8 l 5) = l.take 6 := by
    have g := take_six (l := l) (by omega)
    unfold hdr
    rw [show (256 * b8 l 0 + b8 l 1) / 256 = b8 l 0 by omega, show (256 * b8 l 0 + b8 l 1) % 256 = b8 l 1 by omega, show (256 * b8 l 2 + b8 l 3) / 256 = b8 l 2 by omega, show (256 * b8 l 2 + b8 l 3) % 256 = b8 l 3 by omega,
      show (256 * b8 l 4 + b8 l 5) / 256 = b8 l 4 by omega, show (256 * b8 l 4 + b8 l 5) % 256 = b8 l 5 by omega]
    conv => rhs; rw [g]
    rfl
  rw [f]
  rfl
end Go.Proofs.Ytmkmojhhfbokdaa.Pac

/-
  Plain mathematics of link control words, no Go in sight: when a word is valid, its four bytes, what four bytes state; both ways fit.
-/
namespace Go.Proofs.Ytmkmojhhfbokdaa.Clc
open Go.Proofs.Ytmkmojhhfbokdaa.Pac

/-- a control word -/
structure Cw where
  ch : Int
  lk : Bool
  wt : Bool
  rt : Bool
  bp : Int
  nx : Int
deriving DecidableEq

def Cw.Fits (c : Cw) : Prop := 0 ≤ c.ch ∧ c.ch ≤ 7 ∧ 0 ≤ c.bp ∧ c.bp ≤ 3 ∧ 0 ≤ c.nx ∧ c.nx ≤ 255
instance (c : Cw) : Decidable c.Fits := by unfold Cw.Fits; infer_instance
def Cw.ok (c : Cw) : Bool := decide c.Fits
theorem Cw.ok_fits {c : Cw} (h : c.ok = true) : c.Fits := of_decide_eq_true h
theorem Cw.ok_yes {c : Cw} (h : c.Fits) : c.ok = true := decide_eq_true h
theorem Cw.ok_no {c : Cw} (h : ¬ c.Fits) : c.ok = false := decide_eq_false h

/-- the third byte's number -/
def fl3 (lk wt rt : Bool) (B : Nat) : Nat := (if lk then 32 else 0) + (if wt then 16 else 0) + (if rt then 8 else 0) + 2 * B
theorem fl3_lt (lk wt rt : Bool) (B : Nat) (h : B < 4) : fl3 lk wt rt B < 64 := by unfold fl3; cases lk <;> cases wt <;> cases rt <;> simp <;> omega
/-- four bytes of three numbers -/
def wd4 (C F Q : Nat) : List Byte := [1#8, BitVec.ofNat 8 (4 * C), BitVec.ofNat 8 F, BitVec.ofNat 8 Q]
theorem wd4_len (C F Q : Nat) : (wd4 C F Q).length = 4 := rfl
def Cw.word (c : Cw) : List Byte := wd4 c.ch.toNat (fl3 c.lk c.wt c.rt c.bp.toNat) c.nx.toNat
/-- what Encode hands back -/
def Cw.enc (c : Cw) : List Byte := if c.ok then c.word else []
def Cw.err (c : Cw) : Int := if c.ok then 0 else 1
theorem Cw.enc_yes {c : Cw} (h : c.ok = true) : c.enc = c.word := by unfold Cw.enc; rw [if_pos h]
theorem Cw.enc_no {c : Cw} (h : c.ok = false) : c.enc = [] := by unfold Cw.enc; rw [h]; rfl
theorem Cw.err_yes {c : Cw} (h : c.ok = true) : c.err = 0 := by unfold Cw.err; rw [if_pos h]
theorem Cw.err_no {c : Cw} (h : c.ok = false) : c.err = 1 := by unfold Cw.err; rw [h]; rfl
theorem Cw.enc_len {c : Cw} (h : c.ok = true) : c.enc.length = 4 := by rw [Cw.enc_yes h]; rfl

/-! ### the Writer's bits are the word -/
theorem packs_wd4 (C F Q : Nat) : Packs (wd4 C F Q) (bitsOf 1 8 ++ bitsOf (4 * C) 8 ++ bitsOf F 8 ++ bitsOf Q 8) :=
  Packs.both (Packs.both (Packs.both (packs_byte 1) (packs_byte (4 * C)) (by simp [bitsOf_len])) (packs_byte F) (by simp [bitsOf_len])) (packs_byte Q) (by simp [bitsOf_len])
theorem word_bits (C B Q : Nat) (lk wt rt : Bool) (hC : C < 8) (hB : B < 4) :
    [] ++ bitsOf 0 1 ++ bitsOf 0 2 ++ bitsOf 0 3 ++ bitsOf 1 2 ++ bitsOf C 6 ++ bitsOf 0 4 ++ bitsOf (nb lk) 1 ++ bitsOf (nb wt) 1 ++ bitsOf (nb rt) 1 ++ bitsOf B 2 ++ bitsOf 0 1 ++ bitsOf Q 8
      = bitsOf 1 8 ++ bitsOf (4 * C) 8 ++ bitsOf (fl3 lk wt rt B) 8 ++ bitsOf Q 8 := by
  have hF := fl3_lt lk wt rt B hB
  have e1 : [] ++ bitsOf 0 1 ++ bitsOf 0 2 ++ bitsOf 0 3 ++ bitsOf 1 2 ++ bitsOf C 6 ++ bitsOf 0 4 ++ bitsOf (nb lk) 1 ++ bitsOf (nb wt) 1 ++ bitsOf (nb rt) 1 ++ bitsOf B 2 ++ bitsOf 0 1
      = bitsOf (65536 + 1024 * C + fl3 lk wt rt B) 24 := by
    rw [List.nil_append, bitsOf_join _ _ _ _ (show 0 < 2 ^ 2 by omega), bitsOf_join _ _ _ _ (show 0 < 2 ^ 3 by omega), bitsOf_join _ _ _ _ (show 1 < 2 ^ 2 by omega), bitsOf_join _ _ _ _ (show C < 2 ^ 6 by omega), bitsOf_join _ _ _ _ (show 0 < 2 ^ 4 by omega),
      bitsOf_join _ _ _ _ (nb_lt lk), bitsOf_join _ _ _ _ (nb_lt wt), bitsOf_join _ _ _ _ (nb_lt rt), bitsOf_join _ _ _ _ (show B < 2 ^ 2 by omega), bitsOf_join _ _ _ _ (show 0 < 2 ^ 1 by omega)]
    congr 1
    cases lk <;> cases wt <;> cases rt <;> simp [nb, fl3] <;> omega
  have e2 : bitsOf 1 8 ++ bitsOf (4 * C) 8 ++ bitsOf (fl3 lk wt rt B) 8 = bitsOf (65536 + 1024 * C + fl3 lk wt rt B) 24 := by
    rw [bitsOf_join _ _ _ _ (show 4 * C < 2 ^ 8 by omega), bitsOf_join _ _ _ _ (show fl3 lk wt rt B < 2 ^ 8 by omega)]
    congr 1
    omega
  rw [e1, e2]
theorem word_of {bs : List Byte} (C B Q : Nat) (lk wt rt : Bool) (hC : C < 8) (hB : B < 4)
    (h : Packs bs ([] ++ bitsOf 0 1 ++ bitsOf 0 2 ++ bitsOf 0 3 ++ bitsOf 1 2 ++ bitsOf C 6 ++ bitsOf 0 4 ++ bitsOf (nb lk) 1 ++ bitsOf (nb wt) 1 ++ bitsOf (nb rt) 1 ++ bitsOf B 2 ++ bitsOf 0 1 ++ bitsOf Q 8)) : bs = wd4 C (fl3 lk wt rt B) Q := by
  rw [word_bits C B Q lk wt rt hC hB] at h
  exact Packs.unique h (packs_wd4 _ _ _)

/-! ### what four bytes state -/
def rd (l : List Byte) : Cw := ⟨((b8 l 1 / 4 : Nat) : Int), decide (b8 l 2 / 32 % 2 = 1), decide (b8 l 2 / 16 % 2 = 1), decide (b8 l 2 / 8 % 2 = 1), ((b8 l 2 / 2 % 4 : Nat) : Int), ((b8 l 3 : Nat) : Int)⟩
def noCw : Cw := ⟨0, false, false, false, 0, 0⟩
/-- the fields that every word has in common -/
def fm (l : List Byte) : Bool := decide (b8 l 0 = 1 ∧ b8 l 1 % 4 = 0 ∧ b8 l 2 / 64 = 0 ∧ b8 l 2 % 2 = 0)
def gd (l : List Byte) : Bool := fm l && (rd l).ok
def deE (l : List Byte) : Int := if l.length < 4 then 3 else if 4 < l.length then 6 else if gd l then 0 else 4
def deP (l : List Byte) : Cw := if deE l = 0 then rd l else noCw
theorem de_short {l : List Byte} (h : l.length < 4) : deE l = 3 ∧ deP l = noCw := by
  have e : deE l = 3 := by unfold deE; rw [if_pos h]
  exact ⟨e, by unfold deP; rw [e]; rfl⟩
theorem de_long {l : List Byte} (h : 4 < l.length) : deE l = 6 ∧ deP l = noCw := by
  have e : deE l = 6 := by unfold deE; rw [if_neg (by omega), if_pos h]
  exact ⟨e, by unfold deP; rw [e]; rfl⟩
theorem de_form {l : List Byte} (h : l.length = 4) (h4 : gd l = false) : deE l = 4 ∧ deP l = noCw := by
  have e : deE l = 4 := by unfold deE; rw [if_neg (by omega), if_neg (by omega), h4]; rfl
  exact ⟨e, by unfold deP; rw [e]; rfl⟩
theorem de_good {l : List Byte} (h : l.length = 4) (h4 : gd l = true) : deE l = 0 ∧ deP l = rd l := by
  have e : deE l = 0 := by unfold deE; rw [if_neg (by omega), if_neg (by omega), h4]; rfl
  exact ⟨e, by unfold deP; rw [if_pos e]⟩
theorem de_zero {l : List Byte} (h : deE l = 0) : l.length = 4 ∧ gd l = true := by
  by_cases a : l.length < 4
  · rw [(de_short a).1] at h; cases h
  by_cases b : 4 < l.length
  · rw [(de_long b).1] at h; cases h
  cases c : gd l with
  | false => rw [(de_form (by omega) c).1] at h; cases h
  | true => exact ⟨by omega, rfl⟩
theorem de_else {l : List Byte} (h : deE l ≠ 0) : deP l = noCw := by unfold deP; rw [if_neg h]

/-! ### the Reader's numbers -/
section
variable {bs : List Byte} {x0 x1 x2 x3 : Byte}
theorem n_kind (h0 : bs[0]? = some x0) : numAt bs 0 1 = x0.toNat / 128 := by
  rw [num_piece 0 1 x0 (by decide) h0]
  have := x0.isLt
  simp only [Nat.reduceMod, Nat.reducePow, Nat.reduceSub]
  omega
theorem n_vers (h0 : bs[0]? = some x0) : numAt bs 1 2 = x0.toNat / 32 % 4 := by
  rw [num_piece 1 2 x0 (by decide) h0]
  have := x0.isLt
  simp only [Nat.reduceMod, Nat.reducePow, Nat.reduceSub]
  omega
theorem n_stat (h0 : bs[0]? = some x0) : numAt bs 3 3 = x0.toNat / 4 % 8 := by
  rw [num_piece 3 3 x0 (by decide) h0]
  have := x0.isLt
  simp only [Nat.reduceMod, Nat.reducePow, Nat.reduceSub]
  omega
theorem n_proc (h0 : bs[0]? = some x0) : numAt bs 6 2 = x0.toNat % 4 := by
  rw [num_piece 6 2 x0 (by decide) h0]
  have := x0.isLt
  simp only [Nat.reduceMod, Nat.reducePow, Nat.reduceSub]
  omega
theorem n_chan (h1 : bs[1]? = some x1) : numAt bs 8 6 = x1.toNat / 4 := by
  rw [num_piece 8 6 x1 (by decide) h1]
  have := x1.isLt
  simp only [Nat.reduceMod, Nat.reducePow, Nat.reduceSub]
  omega
theorem n_spare (h1 : bs[1]? = some x1) (h2 : bs[2]? = some x2) : numAt bs 14 4 = x1.toNat % 4 * 4 + x2.toNat / 64 := by
  rw [show 4 = 2 + 2 from rfl, numAt_add, num_piece 14 2 x1 (by decide) h1, num_piece (14 + 2) 2 x2 (by decide) h2]
  have := x1.isLt
  have := x2.isLt
  simp only [Nat.reduceMod, Nat.reducePow, Nat.reduceSub, Nat.reduceAdd]
  omega
theorem n_lock (h2 : bs[2]? = some x2) : numAt bs 18 1 = x2.toNat / 32 % 2 := by
  rw [num_piece 18 1 x2 (by decide) h2]
  have := x2.isLt
  simp only [Nat.reduceMod, Nat.reducePow, Nat.reduceSub]
  omega
theorem n_wait (h2 : bs[2]? = some x2) : numAt bs 19 1 = x2.toNat / 16 % 2 := by
  rw [num_piece 19 1 x2 (by decide) h2]
  have := x2.isLt
  simp only [Nat.reduceMod, Nat.reducePow, Nat.reduceSub]
  omega
theorem n_retr (h2 : bs[2]? = some x2) : numAt bs 20 1 = x2.toNat / 8 % 2 := by
  rw [num_piece 20 1 x2 (by decide) h2]
  have := x2.isLt
  simp only [Nat.reduceMod, Nat.reducePow, Nat.reduceSub]
  omega
theorem n_byp (h2 : bs[2]? = some x2) : numAt bs 21 2 = x2.toNat / 2 % 4 := by
  rw [num_piece 21 2 x2 (by decide) h2]
  have := x2.isLt
  simp only [Nat.reduceMod, Nat.reducePow, Nat.reduceSub]
  omega
theorem n_last (h2 : bs[2]? = some x2) : numAt bs 23 1 = x2.toNat % 2 := by
  rw [num_piece 23 1 x2 (by decide) h2]
  have := x2.isLt
  simp only [Nat.reduceMod, Nat.reducePow, Nat.reduceSub]
  omega
theorem n_next (h3 : bs[3]? = some x3) : numAt bs 24 8 = x3.toNat := by
  rw [num_piece 24 8 x3 (by decide) h3]
  have := x3.isLt
  simp only [Nat.reduceMod, Nat.reducePow, Nat.reduceSub]
  omega
end
/-- the fields that must be zero, joined -/
def zs (l : List Byte) : Nat := (((b8 l 0 / 128 ||| b8 l 0 / 32 % 4) ||| b8 l 0 / 4 % 8) ||| (b8 l 1 % 4 * 4 + b8 l 2 / 64)) ||| b8 l 2 % 2
theorem fm_zs (l : List Byte) : fm l = (decide (zs l = 0) && decide (b8 l 0 % 4 = 1)) := by
  have b0 := b8_lt l 0
  have b1 := b8_lt l 1
  have b2 := b8_lt l 2
  unfold fm zs
  rw [Bool.eq_iff_iff]
  simp only [Bool.and_eq_true, decide_eq_true_eq, Nat.or_eq_zero_iff]
  omega

/-! ### both ways -/
theorem all8 {p : BitVec 8 → Prop} (h : ∀ n : Fin 256, p (BitVec.ofFin n)) (x : BitVec 8) : p x := h x.toFin
theorem byte1 : ∀ x : BitVec 8, (BitVec.ofNat 8 (4 * (x.toNat / 4)) = x ↔ x.toNat % 4 = 0) := all8 (by decide +kernel)
theorem byte2 : ∀ x : BitVec 8, (BitVec.ofNat 8 (fl3 (decide (x.toNat / 32 % 2 = 1)) (decide (x.toNat / 16 % 2 = 1)) (decide (x.toNat / 8 % 2 = 1)) (x.toNat / 2 % 4)) = x ↔ x.toNat / 64 = 0 ∧ x.toNat % 2 = 0) := all8 (by decide +kernel)
theorem byte0 : ∀ x : BitVec 8, (1#8 = x ↔ x.toNat = 1) := all8 (by decide +kernel)
theorem word_rd {l : List Byte} (h : l.length = 4) : (rd l).word = l ↔ fm l = true := by
  match l, h with
  | [x0, x1, x2, x3], _ =>
    have e : (rd [x0, x1, x2, x3]).word = [1#8, BitVec.ofNat 8 (4 * (x1.toNat / 4)), BitVec.ofNat 8 (fl3 (decide (x2.toNat / 32 % 2 = 1)) (decide (x2.toNat / 16 % 2 = 1)) (decide (x2.toNat / 8 % 2 = 1)) (x2.toNat / 2 % 4)), BitVec.ofNat 8 x3.toNat] := rfl
    rw [e]
    have e3 : BitVec.ofNat 8 x3.toNat = x3 := by simp
    simp only [List.cons.injEq, and_true, byte0, byte1, byte2, e3]
    unfold fm
    rw [decide_eq_true_iff]
    show _ ↔ x0.toNat = 1 ∧ x1.toNat % 4 = 0 ∧ x2.toNat / 64 = 0 ∧ x2.toNat % 2 = 0
    exact Iff.rfl
theorem gd_enc {l : List Byte} (h : l.length = 4) (h4 : (rd l).ok = true) : gd l = decide ((rd l).enc = l) := by
  rw [Bool.eq_iff_iff, decide_eq_true_iff, Cw.enc_yes h4, word_rd h]
  unfold gd
  rw [h4, Bool.and_true]
/-- what is accepted is the encoding of a valid word -/
theorem enc_dec {l : List Byte} (h : deE l = 0) : (deP l).ok = true ∧ (deP l).enc = l := by
  obtain ⟨h1, h4⟩ := de_zero h
  rw [(de_good h1 h4).2]
  have h5 : (rd l).ok = true := by
    unfold gd at h4
    simp only [Bool.and_eq_true] at h4
    exact h4.2
  refine ⟨h5, ?_⟩
  rw [gd_enc h1 h5] at h4
  exact of_decide_eq_true h4
/-- Decode returns every valid word from its encoding -/
theorem rd_word {c : Cw} (h : c.Fits) : rd c.word = c := by
  obtain ⟨ch, lk, wt, rt, bp, nx⟩ := c
  obtain ⟨h1, h2, h3, h4, h5, h6⟩ := h
  simp only at h1 h2 h3 h4 h5 h6
  obtain ⟨C, rfl⟩ := Int.eq_ofNat_of_zero_le h1
  obtain ⟨B, rfl⟩ := Int.eq_ofNat_of_zero_le h3
  obtain ⟨Q, rfl⟩ := Int.eq_ofNat_of_zero_le h5
  have hF := fl3_lt lk wt rt B (by omega)
  show rd (wd4 C (fl3 lk wt rt B) Q) = _
  have t1 : b8 (wd4 C (fl3 lk wt rt B) Q) 1 = 4 * C := by show (BitVec.ofNat 8 (4 * C)).toNat = _; rw [BitVec.toNat_ofNat]; omega
  have t2 : b8 (wd4 C (fl3 lk wt rt B) Q) 2 = fl3 lk wt rt B := by show (BitVec.ofNat 8 (fl3 lk wt rt B)).toNat = _; rw [BitVec.toNat_ofNat]; omega
  have t3 : b8 (wd4 C (fl3 lk wt rt B) Q) 3 = Q := by show (BitVec.ofNat 8 Q).toNat = _; rw [BitVec.toNat_ofNat]; omega
  unfold rd
  rw [t1, t2, t3]
  have q1 : 4 * C / 4 = C := by omega
  have q2 : decide (fl3 lk wt rt B / 32 % 2 = 1) = lk := by unfold fl3; cases lk <;> cases wt <;> cases rt <;> simp <;> omega
  have q3 : decide (fl3 lk wt rt B / 16 % 2 = 1) = wt := by unfold fl3; cases lk <;> cases wt <;> cases rt <;> simp <;> omega
  have q4 : decide (fl3 lk wt rt B / 8 % 2 = 1) = rt := by unfold fl3; cases lk <;> cases wt <;> cases rt <;> simp <;> omega
  have q5 : fl3 lk wt rt B / 2 % 4 = B := by unfold fl3; cases lk <;> cases wt <;> cases rt <;> simp <;> omega
  rw [q1, q2, q3, q4, q5]
theorem dec_enc {c : Cw} (h : c.ok = true) : deE c.enc = 0 ∧ deP c.enc = c := by
  have hr : rd c.enc = c := by rw [Cw.enc_yes h]; exact rd_word (Cw.ok_fits h)
  have hg : gd c.enc = true := by
    rw [gd_enc (Cw.enc_len h) (by rw [hr]; exact h), hr]
    exact decide_eq_true rfl
  have := de_good (Cw.enc_len h) hg
  rw [hr] at this
  exact this
end Go.Proofs.Ytmkmojhhfbokdaa.Clc

/-
  Plain mathematics of the two checksums, no Go in sight: one register step, one byte, a byte string, and what the reference does bit by bit; and that both agree.
-/
namespace Go.Proofs.Ytmkmojhhfbokdaa

/-- f applied n times. -/
def iter {α : Type} (f : α → α) : Nat → α → α
  | 0, x => x
  | n + 1, x => f (iter f n x)

theorem iter_add {α : Type} (f : α → α) (m n : Nat) (x : α) : iter f (m + n) x = iter f m (iter f n x) := by
  induction m with
  | zero => simp [iter]
  | succ m ih => rw [Nat.succ_add]; simp only [iter]; rw [ih]

theorem iter_succ {α : Type} (f : α → α) (n : Nat) (x : α) : iter f (n + 1) x = iter f n (f x) := iter_add f n 1 x

/-! ### one step of the register -/
def sh16 (r : BitVec 16) : BitVec 16 := if r.getLsbD 15 then (r <<< 1) ^^^ 0x1021#16 else r <<< 1
def sh32 (r : BitVec 32) : BitVec 32 := if r.getLsbD 0 then (r >>> 1) ^^^ 0x82f63b78#32 else r >>> 1

theorem sh16_xor (a b : BitVec 16) : sh16 (a ^^^ b) = sh16 a ^^^ sh16 b := by
  unfold sh16
  rw [BitVec.getLsbD_xor, BitVec.shiftLeft_xor_distrib]
  cases a.getLsbD 15 <;> cases b.getLsbD 15 <;> simp [BitVec.xor_assoc]
  · rw [BitVec.xor_comm (b <<< 1)]
  · rw [BitVec.xor_comm (b <<< 1), ← BitVec.xor_assoc]
    simp

theorem sh32_xor (a b : BitVec 32) : sh32 (a ^^^ b) = sh32 a ^^^ sh32 b := by
  unfold sh32
  rw [BitVec.getLsbD_xor, BitVec.ushiftRight_xor_distrib]
  cases a.getLsbD 0 <;> cases b.getLsbD 0 <;> simp [BitVec.xor_assoc]
  · rw [BitVec.xor_comm (b >>> 1)]
  · rw [BitVec.xor_comm (b >>> 1), ← BitVec.xor_assoc]
    simp

theorem iter16_xor (n : Nat) (a b : BitVec 16) : iter sh16 n (a ^^^ b) = iter sh16 n a ^^^ iter sh16 n b := by
  induction n with
  | zero => rfl
  | succ n ih => simp only [iter, ih, sh16_xor]
theorem iter32_xor (n : Nat) (a b : BitVec 32) : iter sh32 n (a ^^^ b) = iter sh32 n a ^^^ iter sh32 n b := by
  induction n with
  | zero => rfl
  | succ n ih => simp only [iter, ih, sh32_xor]

/-! ### a byte, a byte string -/
def by16 (r : BitVec 16) (x : Byte) : BitVec 16 := iter sh16 8 (r ^^^ (x.setWidth 16 <<< 8))
def by32 (r : BitVec 32) (x : Byte) : BitVec 32 := iter sh32 8 (r ^^^ x.setWidth 32)
def up16 (r : BitVec 16) (l : List Byte) : BitVec 16 := l.foldl by16 r
def raw32 (r : BitVec 32) (l : List Byte) : BitVec 32 := l.foldl by32 r
def up32 (c : BitVec 32) (l : List Byte) : BitVec 32 := ~~~ raw32 (~~~ c) l

theorem up16_append (r : BitVec 16) (a b : List Byte) : up16 r (a ++ b) = up16 (up16 r a) b := List.foldl_append
theorem raw32_append (r : BitVec 32) (a b : List Byte) : raw32 r (a ++ b) = raw32 (raw32 r a) b := List.foldl_append
theorem up32_append (r : BitVec 32) (a b : List Byte) : up32 r (a ++ b) = up32 (up32 r a) b := by
  unfold up32; rw [raw32_append, BitVec.not_not]

theorem up16_take (r : BitVec 16) (l : List Byte) (k : Nat) (h : k < l.length) : up16 r (l.take (k + 1)) = by16 (up16 r (l.take k)) l[k] := by
  rw [List.take_succ_eq_append_getElem h, up16_append]; rfl
theorem raw32_take (r : BitVec 32) (l : List Byte) (k : Nat) (h : k < l.length) : raw32 r (l.take (k + 1)) = by32 (raw32 r (l.take k)) l[k] := by
  rw [List.take_succ_eq_append_getElem h, raw32_append]; rfl

/-! ### a string with its checksum -/
def crcb (r : BitVec 16) : List Byte := [(r >>> 8).setWidth 8, r.setWidth 8]
def ap16 (l : List Byte) : List Byte := l ++ crcb (up16 0xffff#16 l)
def ck16 (l : List Byte) : Bool := decide (2 ≤ l.length ∧ ap16 (l.take (l.length - 2)) = l)

/-! ### bit by bit, as the chapter says it -/
def fd16 (r : BitVec 16) (b : Bool) : BitVec 16 := if r.getLsbD 15 != b then (r <<< 1) ^^^ 0x1021#16 else r <<< 1
def fd32 (r : BitVec 32) (b : Bool) : BitVec 32 := if r.getLsbD 0 != b then (r >>> 1) ^^^ 0x82f63b78#32 else r >>> 1

theorem fd16_eq (r : BitVec 16) (b : Bool) : fd16 r b = sh16 (r ^^^ (if b then 0x8000#16 else 0#16)) := by
  unfold fd16 sh16
  rw [BitVec.getLsbD_xor, BitVec.shiftLeft_xor_distrib]
  cases b <;> cases r.getLsbD 15 <;> simp
theorem fd32_eq (r : BitVec 32) (b : Bool) : fd32 r b = sh32 (r ^^^ (if b then 1#32 else 0#32)) := by
  unfold fd32 sh32
  rw [BitVec.getLsbD_xor, BitVec.ushiftRight_xor_distrib]
  cases b <;> cases r.getLsbD 0 <;> simp

/-- the register behind the first k bits of a byte, most significant first (16) or least significant first (32) -/
def fb16 (r : BitVec 16) (x : Byte) : Nat → BitVec 16
  | 0 => r
  | k + 1 => fd16 (fb16 r x k) (x.getLsbD (7 - k))
def fb32 (r : BitVec 32) (x : Byte) : Nat → BitVec 32
  | 0 => r
  | k + 1 => fd32 (fb32 r x k) (x.getLsbD k)

theorem fb16_xor (r : BitVec 16) (x : Byte) (k : Nat) : fb16 r x k = iter sh16 k r ^^^ fb16 0 x k := by
  induction k with
  | zero => simp [fb16, iter]
  | succ k ih =>
    simp only [fb16, iter]
    rw [ih, fd16_eq, fd16_eq, sh16_xor, sh16_xor, sh16_xor, BitVec.xor_assoc]
theorem fb32_xor (r : BitVec 32) (x : Byte) (k : Nat) : fb32 r x k = iter sh32 k r ^^^ fb32 0 x k := by
  induction k with
  | zero => simp [fb32, iter]
  | succ k ih =>
    simp only [fb32, iter]
    rw [ih, fd32_eq, fd32_eq, sh32_xor, sh32_xor, sh32_xor, BitVec.xor_assoc]

theorem fb16_zero : ∀ x : Byte, fb16 0 x 8 = iter sh16 8 (x.setWidth 16 <<< 8) := by decide +kernel
theorem fb32_zero : ∀ x : Byte, fb32 0 x 8 = iter sh32 8 (x.setWidth 32) := by decide +kernel

theorem fb16_all (r : BitVec 16) (x : Byte) : fb16 r x 8 = by16 r x := by rw [fb16_xor, fb16_zero, by16, iter16_xor]
theorem fb32_all (r : BitVec 32) (x : Byte) : fb32 r x 8 = by32 r x := by rw [fb32_xor, fb32_zero, by32, iter32_xor]

/-- the register behind the first k bits of a byte string -/
def fbs16 (r : BitVec 16) (l : List Byte) : Nat → BitVec 16
  | 0 => r
  | k + 1 => fd16 (fbs16 r l k) ((l[k / 8]?.getD 0#8).getLsbD (7 - k % 8))

theorem fbs16_byte (r : BitVec 16) (l : List Byte) (m : Nat) (hm : m < l.length) (h : fbs16 r l (8 * m) = up16 r (l.take m)) (j : Nat) (hj : j ≤ 8) :
    fbs16 r l (8 * m + j) = fb16 (up16 r (l.take m)) l[m] j := by
  induction j with
  | zero => exact h
  | succ j ih =>
    show fd16 (fbs16 r l (8 * m + j)) ((l[(8 * m + j) / 8]?.getD 0#8).getLsbD (7 - (8 * m + j) % 8)) = _
    rw [ih (by omega), show (8 * m + j) / 8 = m by omega, show (8 * m + j) % 8 = j by omega, List.getElem?_eq_getElem hm]
    rfl
theorem fbs16_all (r : BitVec 16) (l : List Byte) (m : Nat) (hm : m ≤ l.length) : fbs16 r l (8 * m) = up16 r (l.take m) := by
  induction m with
  | zero => rfl
  | succ m ih => rw [Nat.mul_succ, fbs16_byte r l m (by omega) (ih (by omega)) 8 (by omega), fb16_all, up16_take r l m (by omega)]

/-! ### linear -/
theorem by16_xor (a b : BitVec 16) (x y : Byte) : by16 (a ^^^ b) (x ^^^ y) = by16 a x ^^^ by16 b y := by
  unfold by16
  rw [BitVec.setWidth_xor, BitVec.shiftLeft_xor_distrib, ← iter16_xor]
  congr 1
  rw [BitVec.xor_assoc, ← BitVec.xor_assoc b, BitVec.xor_comm b, BitVec.xor_assoc, ← BitVec.xor_assoc a]
theorem by32_xor (a b : BitVec 32) (x y : Byte) : by32 (a ^^^ b) (x ^^^ y) = by32 a x ^^^ by32 b y := by
  unfold by32
  rw [BitVec.setWidth_xor, ← iter32_xor]
  congr 1
  rw [BitVec.xor_assoc, ← BitVec.xor_assoc b, BitVec.xor_comm b, BitVec.xor_assoc, ← BitVec.xor_assoc a]

def xors (a b : List Byte) : List Byte := List.zipWith (· ^^^ ·) a b

theorem up16_xor (l m : List Byte) (h : l.length = m.length) (a b : BitVec 16) : up16 (a ^^^ b) (xors l m) = up16 a l ^^^ up16 b m := by
  induction l generalizing m a b with
  | nil => cases m with
    | nil => rfl
    | cons => simp at h
  | cons x l ih => cases m with
    | nil => simp at h
    | cons y m =>
      show up16 (by16 (a ^^^ b) (x ^^^ y)) (xors l m) = up16 (by16 a x) l ^^^ up16 (by16 b y) m
      rw [by16_xor, ih m (by simpa using h)]
theorem raw32_xor (l m : List Byte) (h : l.length = m.length) (a b : BitVec 32) : raw32 (a ^^^ b) (xors l m) = raw32 a l ^^^ raw32 b m := by
  induction l generalizing m a b with
  | nil => cases m with
    | nil => rfl
    | cons => simp at h
  | cons x l ih => cases m with
    | nil => simp at h
    | cons y m =>
      show raw32 (by32 (a ^^^ b) (x ^^^ y)) (xors l m) = raw32 (by32 a x) l ^^^ raw32 (by32 b y) m
      rw [by32_xor, ih m (by simpa using h)]

end Go.Proofs.Ytmkmojhhfbokdaa

/-
  Plain mathematics: a string that bears its checksum leaves the register 0; errors within 16 consecutive bits leave it other than 0.
-/
namespace Go.Proofs.Ytmkmojhhfbokdaa

theorem sh16_zero (a : BitVec 16) (h : sh16 a = 0#16) : a = 0#16 := by
  unfold sh16 at h
  split at h
  · have e : ((a <<< 1) ^^^ 0x1021#16).getLsbD 0 = (0#16).getLsbD 0 := by rw [h]
    simp at e
  · rename_i h15
    have e : (a <<< 1).toNat = 0 := by rw [h]; rfl
    rw [BitVec.toNat_shiftLeft, Nat.shiftLeft_eq] at e
    have hm : a.msb = false := by
      rw [BitVec.msb_eq_getLsbD_last]; simpa using h15
    have hl := (BitVec.msb_eq_false_iff_two_mul_lt).1 hm
    exact BitVec.eq_of_toNat_eq (by simp; omega)

theorem iter16_zero (n : Nat) (a : BitVec 16) (h : iter sh16 n a = 0#16) : a = 0#16 := by
  induction n with
  | zero => exact h
  | succ n ih => exact ih (sh16_zero _ h)
theorem iter16_of_zero (n : Nat) : iter sh16 n 0#16 = 0#16 := by
  induction n with
  | zero => rfl
  | succ n ih => simp only [iter, ih]; rfl

theorem xor_eq_zero {n : Nat} {a b : BitVec n} (h : a ^^^ b = 0#n) : a = b := by
  have : a ^^^ b ^^^ b = 0#n ^^^ b := by rw [h]
  simpa [BitVec.xor_assoc] using this

/-! ### the register behind a string and its checksum -/
theorem low_shift : ∀ y : Byte, iter sh16 8 (y.setWidth 16) = y.setWidth 16 <<< 8 := by decide +kernel
theorem up16_two (r : BitVec 16) (x y : Byte) : up16 r [x, y] = iter sh16 16 (r ^^^ (x.setWidth 16 <<< 8) ^^^ y.setWidth 16) := by
  show by16 (by16 r x) y = _
  unfold by16
  rw [← low_shift y, ← iter16_xor, ← iter_add]

theorem crcb_join (r : BitVec 16) : ((r >>> 8).setWidth 8 : Byte).setWidth 16 <<< 8 ^^^ (r.setWidth 8 : Byte).setWidth 16 = r := by
  ext i hi
  simp
  by_cases h : i < 8
  · simp [h, BitVec.getLsbD_eq_getElem hi]
  · simp [h]
    have : 8 + (i - 8) = i := by omega
    simp [this]
    rw [decide_eq_true (by omega), Bool.true_and, BitVec.getLsbD_eq_getElem hi]
theorem up16_crcb (r : BitVec 16) : up16 r (crcb r) = 0#16 := by
  unfold crcb
  rw [up16_two, BitVec.xor_assoc, crcb_join, BitVec.xor_self, iter16_of_zero]
theorem crcb_of_zero (r : BitVec 16) (x y : Byte) (h : up16 r [x, y] = 0#16) : crcb r = [x, y] := by
  rw [up16_two, BitVec.xor_assoc] at h
  have e := xor_eq_zero (iter16_zero _ _ h)
  unfold crcb
  have e1 : (r >>> 8).setWidth 8 = x := by
    rw [e]; ext i hi; simp; rw [decide_eq_true (by omega), decide_eq_false (by omega), decide_eq_true (by omega)]; simp [BitVec.getLsbD_eq_getElem hi]
  have e2 : r.setWidth 8 = y := by
    rw [e]; ext i hi; simp
  rw [e1, e2]

theorem up16_ap (l : List Byte) : up16 0xffff#16 (ap16 l) = 0#16 := by
  unfold ap16; rw [up16_append, up16_crcb]

theorem zero_of_ck (l : List Byte) (h : ck16 l = true) : up16 0xffff#16 l = 0#16 := by
  unfold ck16 at h
  obtain ⟨_, h2⟩ := of_decide_eq_true h
  rw [← h2, up16_ap]


theorem ck_of_zero (l : List Byte) (h2 : 2 ≤ l.length) (h : up16 0xffff#16 l = 0#16) : ck16 l = true := by
  unfold ck16
  rw [decide_eq_true_iff]
  refine ⟨h2, ?_⟩
  obtain ⟨m, x, y, hs⟩ : ∃ m x y, l = m ++ [x, y] := by
    refine ⟨l.take (l.length - 2), l[l.length - 2], l[l.length - 1], ?_⟩
    have h1 := List.take_append_drop (l.length - 2) l
    have e : l.drop (l.length - 2) = [l[l.length - 2], l[l.length - 1]] := by
      rw [List.drop_eq_getElem_cons (by omega), List.drop_eq_getElem_cons (by omega), List.drop_of_length_le (by omega)]
      congr 2
      congr 1
      omega
    rw [e] at h1
    exact h1.symm
  subst hs
  rw [up16_append] at h
  rw [List.length_append, show m.length + [x, y].length - 2 = m.length by simp, List.take_left]
  unfold ap16
  rw [crcb_of_zero _ _ _ h]

/-! ### a register that is fed bits -/
def run (g : Nat → Bool) (r : BitVec 16) : Nat → BitVec 16
  | 0 => r
  | k + 1 => fd16 (run g r k) (g k)

theorem fd16_zero_false : fd16 0#16 false = 0#16 := by decide
theorem fd16_false (r : BitVec 16) : fd16 r false = sh16 r := by rw [fd16_eq]; simp

theorem run_still (g : Nat → Bool) (k : Nat) (h : ∀ t, t < k → g t = false) : run g 0#16 k = 0#16 := by
  induction k with
  | zero => rfl
  | succ k ih => simp only [run]; rw [ih (fun t ht => h t (by omega)), h k (by omega), fd16_zero_false]
theorem run_add (g : Nat → Bool) (r : BitVec 16) (i j : Nat) : run g r (i + j) = run (fun t => g (i + t)) (run g r i) j := by
  induction j with
  | zero => rfl
  | succ j ih => show fd16 (run g r (i + j)) (g (i + j)) = _; rw [ih]; rfl
theorem run_quiet (g : Nat → Bool) (r : BitVec 16) (k : Nat) (h : ∀ t, t < k → g t = false) : run g r k = iter sh16 k r := by
  induction k with
  | zero => rfl
  | succ k ih => simp only [run, iter]; rw [ih (fun t ht => h t (by omega)), h k (by omega), fd16_false]

/-- the first j bits, packed from the top -/
def pack (g : Nat → Bool) : Nat → BitVec 16
  | 0 => 0#16
  | j + 1 => pack g j ^^^ (if g j then 0x8000#16 >>> j else 0#16)

theorem top_down : ∀ j : Fin 16, iter sh16 j.val (0x8000#16 >>> j.val) = 0x8000#16 := by decide +kernel
theorem run_pack (g : Nat → Bool) (j : Nat) (hj : j ≤ 16) : run g 0#16 j = iter sh16 j (pack g j) := by
  induction j with
  | zero => rfl
  | succ j ih =>
    simp only [run, pack, iter]
    rw [ih (by omega), fd16_eq, iter16_xor]
    congr 2
    cases g j
    · simp [iter16_of_zero]
    · exact (top_down ⟨j, by omega⟩).symm
theorem bit_down : ∀ j t : Fin 16, (0x8000#16 >>> j.val).getLsbD (15 - t.val) = decide (j = t) := by decide +kernel
theorem pack_bit (g : Nat → Bool) (j : Nat) (hj : j ≤ 16) (t : Nat) (ht : t < 16) : (pack g j).getLsbD (15 - t) = (decide (t < j) && g t) := by
  induction j with
  | zero => simp [pack]
  | succ j ih =>
    simp only [pack]
    rw [BitVec.getLsbD_xor, ih (by omega)]
    have hb := bit_down ⟨j, by omega⟩ ⟨t, ht⟩
    by_cases h : j = t
    · subst h
      cases hg : g j <;> simp at hb <;> simp [hb]
    · have h' : ¬ (⟨j, by omega⟩ : Fin 16) = ⟨t, ht⟩ := fun e => h (by simpa using e)
      rw [decide_eq_false h'] at hb
      have e1 : decide (t < j + 1) = decide (t < j) := by rw [decide_eq_decide]; omega
      rw [e1]
      cases g j <;> simp [hb]
theorem pack_zero (g : Nat → Bool) (j : Nat) (hj : j ≤ 16) (h : pack g j = 0#16) (t : Nat) (ht : t < j) : g t = false := by
  have := pack_bit g j hj t (by omega)
  rw [h] at this
  simpa [ht] using this.symm

/-- bits that lie within 16 places and leave no trace are none -/
theorem burst (g : Nat → Bool) (i n : Nat) (h1 : ∀ k, k < i → g k = false) (h2 : ∀ k, i + 16 ≤ k → g k = false) (h : run g 0#16 n = 0#16) (k : Nat) (hk : k < n) : g k = false := by
  by_cases hki : k < i
  · exact h1 k hki
  by_cases hk2 : i + 16 ≤ k
  · exact h2 k hk2
  have hi : run g 0#16 i = 0#16 := run_still g i h1
  by_cases hn : n ≤ i + 16
  · obtain ⟨j, rfl⟩ : ∃ j, n = i + j := ⟨n - i, by omega⟩
    rw [run_add, hi, run_pack _ j (by omega)] at h
    have := pack_zero _ j (by omega) (iter16_zero _ _ h) (k - i) (by omega)
    rwa [show i + (k - i) = k by omega] at this
  · obtain ⟨m, rfl⟩ : ∃ m, n = i + 16 + m := ⟨n - (i + 16), by omega⟩
    rw [run_add, run_quiet _ _ m (fun t _ => h2 _ (by omega)), run_add, hi, run_pack _ 16 (by omega)] at h
    have := pack_zero _ 16 (by omega) (iter16_zero _ _ (iter16_zero _ _ h)) (k - i) (by omega)
    rwa [show i + (k - i) = k by omega] at this

/-! ### byte strings -/
def bitC (l : List Byte) (k : Nat) : Bool := (l[k / 8]?.getD 0#8).getLsbD (7 - k % 8)

theorem fbs16_run (r : BitVec 16) (l : List Byte) (k : Nat) : fbs16 r l k = run (bitC l) r k := by
  induction k with
  | zero => rfl
  | succ k ih => simp only [fbs16, run]; rw [ih]; rfl
theorem up16_run (r : BitVec 16) (l : List Byte) : up16 r l = run (bitC l) r (8 * l.length) := by
  rw [← fbs16_run, fbs16_all r l _ (Nat.le_refl _), List.take_length]

theorem bitC_xors (l m : List Byte) (h : l.length = m.length) (k : Nat) : bitC (xors l m) k = (bitC l k != bitC m k) := by
  unfold bitC xors
  rw [List.getElem?_zipWith]
  by_cases hk : k / 8 < l.length
  · rw [List.getElem?_eq_getElem hk, List.getElem?_eq_getElem (by omega)]
    simp
  · rw [List.getElem?_eq_none (by omega), List.getElem?_eq_none (by omega)]
    simp
theorem bitC_out (l : List Byte) (k : Nat) (h : 8 * l.length ≤ k) : bitC l k = false := by
  unfold bitC
  rw [List.getElem?_eq_none (by omega)]
  simp
theorem bitC_ext (l m : List Byte) (h : l.length = m.length) (hb : ∀ k, k < 8 * l.length → bitC l k = bitC m k) : l = m := by
  refine List.ext_getElem h (fun q h1 h2 => ?_)
  ext t ht
  have := hb (8 * q + (7 - t)) (by omega)
  unfold bitC at this
  rw [show (8 * q + (7 - t)) / 8 = q by omega, show 7 - (8 * q + (7 - t)) % 8 = t by omega, List.getElem?_eq_getElem h1, List.getElem?_eq_getElem h2] at this
  simpa [BitVec.getLsbD_eq_getElem ht] using this

/-- x is s but for bits among the 16 from i on -/
def Near (s x : List Byte) (i k : Nat) : Prop := x.length = s.length ∧ ∀ p, p < i ∨ i + k ≤ p → bitC x p = bitC s p

theorem near_ck (l x : List Byte) (i : Nat) (h : Near (ap16 l) x i 16) (hc : ck16 x = true) : x = ap16 l := by
  obtain ⟨hl, hb⟩ := h
  have z1 := zero_of_ck x hc
  have z2 := up16_ap l
  have z3 := up16_xor x (ap16 l) hl 0xffff#16 0xffff#16
  rw [z1, z2, BitVec.xor_self, BitVec.xor_self, up16_run] at z3
  have hlen : (xors x (ap16 l)).length = x.length := by simp [xors, hl]
  refine bitC_ext x (ap16 l) hl (fun k hk => ?_)
  have hz := burst (bitC (xors x (ap16 l))) i (8 * (xors x (ap16 l)).length)
    (fun k hk => by rw [bitC_xors _ _ hl, hb k (.inl hk)]; simp) (fun k hk => by rw [bitC_xors _ _ hl, hb k (.inr hk)]; simp) z3 k (by omega)
  rw [bitC_xors _ _ hl] at hz
  simpa using hz

end Go.Proofs.Ytmkmojhhfbokdaa

/-
  Plain mathematics of telemetry frames, no Go in sight: when a frame is valid, its header's six bytes, what a header states; both ways fit; an inverted bit is detected.
-/
namespace Go.Proofs.Ytmkmojhhfbokdaa.Tmf
open Go.Proofs.Ytmkmojhhfbokdaa.Pac
open Clc (Cw)

/-- a telemetry frame -/
structure Fr where
  cr : Int
  ch : Int
  ma : Int
  ct : Int
  fi : Int
  d : List Byte
  cw : Cw
deriving DecidableEq

/-- numbers and length in range -/
def Fr.Fits (f : Fr) : Prop := (0 ≤ f.cr ∧ f.cr ≤ 1023 ∧ 0 ≤ f.ch ∧ f.ch ≤ 7) ∧ (0 ≤ f.ma ∧ f.ma ≤ 255 ∧ 0 ≤ f.ct ∧ f.ct ≤ 255 ∧ 0 ≤ f.fi ∧ f.fi ≤ 2047) ∧ (1 ≤ f.d.length ∧ f.d.length ≤ 1012) ∧ f.cw.Fits
instance (f : Fr) : Decidable f.Fits := by unfold Fr.Fits; infer_instance
def Fr.ok (f : Fr) : Bool := decide f.Fits
theorem Fr.ok_no {f : Fr} (h : ¬ f.Fits) : f.ok = false := decide_eq_false h
theorem Fr.ok_yes {f : Fr} (h : f.Fits) : f.ok = true := decide_eq_true h
theorem Fr.ok_fits {f : Fr} (h : f.ok = true) : f.Fits := of_decide_eq_true h

/-- the first two bytes' number, the last two's -/
def hw (C A : Nat) : Nat := 16 * C + 2 * A + 1
def sw (F : Nat) : Nat := 6144 + F
/-- a header of four numbers -/
def hdr6 (H M K S : Nat) : List Byte := [BitVec.ofNat 8 (H / 256), BitVec.ofNat 8 (H % 256), BitVec.ofNat 8 M, BitVec.ofNat 8 K, BitVec.ofNat 8 (S / 256), BitVec.ofNat 8 (S % 256)]
theorem hdr6_len (H M K S : Nat) : (hdr6 H M K S).length = 6 := rfl
def Fr.head (f : Fr) : List Byte := hdr6 (hw f.cr.toNat f.ch.toNat) f.ma.toNat f.ct.toNat (sw f.fi.toNat)
theorem Fr.head_len (f : Fr) : f.head.length = 6 := rfl
/-- what lies ahead of the checksum -/
def Fr.body (f : Fr) : List Byte := f.head ++ f.d ++ f.cw.word
theorem word_len (c : Cw) : c.word.length = 4 := rfl
theorem Fr.body_len (f : Fr) : f.body.length = f.d.length + 10 := by
  unfold Fr.body
  rw [List.length_append, List.length_append, Fr.head_len, word_len]
  omega
/-- what Encode hands back -/
def Fr.enc (f : Fr) : List Byte := if f.ok then ap16 f.body else []
def Fr.err (f : Fr) : Int := if f.ok then 0 else 1
theorem Fr.enc_yes {f : Fr} (h : f.ok = true) : f.enc = ap16 f.body := by unfold Fr.enc; rw [if_pos h]
theorem Fr.enc_no {f : Fr} (h : f.ok = false) : f.enc = [] := by unfold Fr.enc; rw [h]; rfl
theorem Fr.err_yes {f : Fr} (h : f.ok = true) : f.err = 0 := by unfold Fr.err; rw [if_pos h]
theorem Fr.err_no {f : Fr} (h : f.ok = false) : f.err = 1 := by unfold Fr.err; rw [h]; rfl

theorem ap16_len (l : List Byte) : (ap16 l).length = l.length + 2 := by unfold ap16; rw [List.length_append]; rfl
theorem ap16_take (l : List Byte) : (ap16 l).take l.length = l := by unfold ap16; rw [List.take_left]
theorem ck16_ap (l : List Byte) : ck16 (ap16 l) = true := by
  unfold ck16
  rw [decide_eq_true_iff, ap16_len]
  refine ⟨by omega, ?_⟩
  rw [show l.length + 2 - 2 = l.length by omega, ap16_take]
theorem Fr.enc_len {f : Fr} (h : f.ok = true) : f.enc.length = f.d.length + 12 := by
  rw [Fr.enc_yes h, ap16_len, Fr.body_len]

/-! ### the Writer's bits are the header -/
theorem packs_hdr6 (H M K S : Nat) (hH : H < 65536) (hS : S < 65536) : Packs (hdr6 H M K S) (bitsOf H 16 ++ bitsOf M 8 ++ bitsOf K 8 ++ bitsOf S 16) :=
  Packs.both (Packs.both (Packs.both (packs_word H hH) (packs_byte M) (by simp [bitsOf_len])) (packs_byte K) (by simp [bitsOf_len])) (packs_word S hS) (by simp [bitsOf_len])
/-- what the Writer has been given -/
theorem header_bits (C A M K F : Nat) (hC : C < 1024) (hA : A < 8) (hF : F < 2048) :
    [] ++ bitsOf 0 2 ++ bitsOf C 10 ++ bitsOf A 3 ++ bitsOf 1 1 ++ bitsOf M 8 ++ bitsOf K 8 ++ bitsOf 3 5 ++ bitsOf F 11 = bitsOf (hw C A) 16 ++ bitsOf M 8 ++ bitsOf K 8 ++ bitsOf (sw F) 16 := by
  rw [List.nil_append, bitsOf_join _ _ _ _ (show C < 2 ^ 10 by omega), bitsOf_join _ _ _ _ (show A < 2 ^ 3 by omega), bitsOf_join _ _ _ _ (show 1 < 2 ^ 1 by omega),
    List.append_assoc _ (bitsOf 3 5), bitsOf_join _ _ _ _ (show F < 2 ^ 11 by omega)]
  have e : ((0 * 2 ^ 10 + C) * 2 ^ 3 + A) * 2 ^ 1 + 1 = hw C A := by unfold hw; omega
  have e2 : 3 * 2 ^ 11 + F = sw F := by unfold sw; omega
  rw [e, e2]
theorem head_of {bs : List Byte} (C A M K F : Nat) (hC : C < 1024) (hA : A < 8) (hF : F < 2048)
    (h : Packs bs ([] ++ bitsOf 0 2 ++ bitsOf C 10 ++ bitsOf A 3 ++ bitsOf 1 1 ++ bitsOf M 8 ++ bitsOf K 8 ++ bitsOf 3 5 ++ bitsOf F 11)) : bs = hdr6 (hw C A) M K (sw F) := by
  rw [header_bits C A M K F hC hA hF] at h
  exact Packs.unique h (packs_hdr6 _ _ _ _ (by unfold hw; omega) (by unfold sw; omega))

/-! ### what the bytes state -/
/-- the control word's four bytes -/
def ctl (l : List Byte) : List Byte := (l.drop (l.length - 6)).take 4
/-- the frame that the bytes state -/
def rd (l : List Byte) : Fr :=
  ⟨((b8 l 0 % 64 * 16 + b8 l 1 / 16 : Nat) : Int), ((b8 l 1 / 2 % 8 : Nat) : Int), ((b8 l 2 : Nat) : Int), ((b8 l 3 : Nat) : Int), ((b8 l 4 % 8 * 256 + b8 l 5 : Nat) : Int), (l.drop 6).take (l.length - 12), Clc.deP (ctl l)⟩
def noFr : Fr := ⟨0, 0, 0, 0, 0, [], Clc.noCw⟩
/-- the fields that every frame has in common -/
def hf (l : List Byte) : Bool := decide (b8 l 0 / 64 = 0) && decide (b8 l 1 % 2 = 1) && decide (b8 l 4 / 8 = 3)
def gd (l : List Byte) : Bool := hf l && decide (Clc.deE (ctl l) = 0)
def deE (l : List Byte) : Int := if l.length < 13 then 3 else if 1024 < l.length then 6 else if ck16 l then (if gd l then 0 else 4) else 5
def deP (l : List Byte) : Fr := if deE l = 0 then rd l else noFr
theorem de_short {l : List Byte} (h : l.length < 13) : deE l = 3 ∧ deP l = noFr := by
  have e : deE l = 3 := by unfold deE; rw [if_pos h]
  exact ⟨e, by unfold deP; rw [e]; rfl⟩
theorem de_long {l : List Byte} (h : 1024 < l.length) : deE l = 6 ∧ deP l = noFr := by
  have e : deE l = 6 := by unfold deE; rw [if_neg (by omega), if_pos h]
  exact ⟨e, by unfold deP; rw [e]; rfl⟩
theorem de_sum {l : List Byte} (h : 13 ≤ l.length) (h2 : l.length ≤ 1024) (h3 : ck16 l = false) : deE l = 5 ∧ deP l = noFr := by
  have e : deE l = 5 := by unfold deE; rw [if_neg (by omega), if_neg (by omega), h3]; rfl
  exact ⟨e, by unfold deP; rw [e]; rfl⟩
theorem de_form {l : List Byte} (h : 13 ≤ l.length) (h2 : l.length ≤ 1024) (h3 : ck16 l = true) (h4 : gd l = false) : deE l = 4 ∧ deP l = noFr := by
  have e : deE l = 4 := by unfold deE; rw [if_neg (by omega), if_neg (by omega), h3, h4]; rfl
  exact ⟨e, by unfold deP; rw [e]; rfl⟩
theorem de_good {l : List Byte} (h : 13 ≤ l.length) (h2 : l.length ≤ 1024) (h3 : ck16 l = true) (h4 : gd l = true) : deE l = 0 ∧ deP l = rd l := by
  have e : deE l = 0 := by unfold deE; rw [if_neg (by omega), if_neg (by omega), h3, h4]; rfl
  exact ⟨e, by unfold deP; rw [if_pos e]⟩
theorem de_zero {l : List Byte} (h : deE l = 0) : 13 ≤ l.length ∧ l.length ≤ 1024 ∧ ck16 l = true ∧ gd l = true := by
  by_cases a : l.length < 13
  · rw [(de_short a).1] at h; cases h
  by_cases b : 1024 < l.length
  · rw [(de_long b).1] at h; cases h
  cases c : ck16 l with
  | false => rw [(de_sum (by omega) (by omega) c).1] at h; cases h
  | true =>
    cases e : gd l with
    | false => rw [(de_form (by omega) (by omega) c e).1] at h; cases h
    | true => exact ⟨by omega, by omega, rfl, rfl⟩
theorem de_else {l : List Byte} (h : deE l ≠ 0) : deP l = noFr := by unfold deP; rw [if_neg h]
theorem gd_parts {l : List Byte} (h : gd l = true) : hf l = true ∧ Clc.deE (ctl l) = 0 := by
  unfold gd at h
  simp only [Bool.and_eq_true, decide_eq_true_eq] at h
  exact h

/-! ### the Reader's numbers -/
section
variable {bs : List Byte} {x0 x1 x2 x3 x4 x5 : Byte}
theorem n_ver (h0 : bs[0]? = some x0) : numAt bs 0 2 = x0.toNat / 64 := by
  rw [num_piece 0 2 x0 (by decide) h0]
  have := x0.isLt
  simp only [Nat.reduceMod, Nat.reducePow, Nat.reduceSub]
  omega
theorem n_craft (h0 : bs[0]? = some x0) (h1 : bs[1]? = some x1) : numAt bs 2 10 = x0.toNat % 64 * 16 + x1.toNat / 16 := by
  rw [show 10 = 6 + 4 from rfl, numAt_add, num_piece 2 6 x0 (by decide) h0, num_piece (2 + 6) 4 x1 (by decide) h1]
  have := x0.isLt
  have := x1.isLt
  simp only [Nat.reduceMod, Nat.reducePow, Nat.reduceSub, Nat.reduceAdd]
  omega
theorem n_chan (h1 : bs[1]? = some x1) : numAt bs 12 3 = x1.toNat / 2 % 8 := by
  rw [num_piece 12 3 x1 (by decide) h1]
  have := x1.isLt
  simp only [Nat.reduceMod, Nat.reducePow, Nat.reduceSub]
  omega
theorem n_flag (h1 : bs[1]? = some x1) : numAt bs 15 1 = x1.toNat % 2 := by
  rw [num_piece 15 1 x1 (by decide) h1]
  have := x1.isLt
  simp only [Nat.reduceMod, Nat.reducePow, Nat.reduceSub]
  omega
theorem n_mast (h2 : bs[2]? = some x2) : numAt bs 16 8 = x2.toNat := by
  rw [num_piece 16 8 x2 (by decide) h2]
  have := x2.isLt
  simp only [Nat.reduceMod, Nat.reducePow, Nat.reduceSub]
  omega
theorem n_count (h3 : bs[3]? = some x3) : numAt bs 24 8 = x3.toNat := by
  rw [num_piece 24 8 x3 (by decide) h3]
  have := x3.isLt
  simp only [Nat.reduceMod, Nat.reducePow, Nat.reduceSub]
  omega
theorem n_stat (h4 : bs[4]? = some x4) : numAt bs 32 5 = x4.toNat / 8 := by
  rw [num_piece 32 5 x4 (by decide) h4]
  have := x4.isLt
  simp only [Nat.reduceMod, Nat.reducePow, Nat.reduceSub]
  omega
theorem n_first (h4 : bs[4]? = some x4) (h5 : bs[5]? = some x5) : numAt bs 37 11 = x4.toNat % 8 * 256 + x5.toNat := by
  rw [show 11 = 3 + 8 from rfl, numAt_add, num_piece 37 3 x4 (by decide) h4, num_piece (37 + 3) 8 x5 (by decide) h5]
  have := x4.isLt
  have := x5.isLt
  simp only [Nat.reduceMod, Nat.reducePow, Nat.reduceSub, Nat.reduceAdd]
  omega
end

/-! ### both ways -/
theorem rd_len {l : List Byte} (h : 13 ≤ l.length) : (rd l).d.length = l.length - 12 := by
  show ((l.drop 6).take (l.length - 12)).length = _
  rw [List.length_take, List.length_drop]
  omega
theorem ctl_len {l : List Byte} (h : 13 ≤ l.length) : (ctl l).length = 4 := by
  unfold ctl
  rw [List.length_take, List.length_drop]
  omega
/-- a word that a Decode hands back is in range -/
theorem deP_fits (l : List Byte) : (Clc.deP l).Fits := by
  by_cases h : Clc.deE l = 0
  · exact Cw.ok_fits (Clc.enc_dec h).1
  · rw [Clc.de_else h]
    exact of_decide_eq_true rfl
theorem rd_fits {l : List Byte} (h : 13 ≤ l.length) (h2 : l.length ≤ 1024) : (rd l).Fits := by
  have b0 := b8_lt l 0
  have b1 := b8_lt l 1
  have b2 := b8_lt l 2
  have b3 := b8_lt l 3
  have b4 := b8_lt l 4
  have b5 := b8_lt l 5
  have hl := rd_len h
  refine ⟨?_, ?_, by omega, deP_fits _⟩
  · show (0 : Int) ≤ ((b8 l 0 % 64 * 16 + b8 l 1 / 16 : Nat) : Int) ∧ ((b8 l 0 % 64 * 16 + b8 l 1 / 16 : Nat) : Int) ≤ 1023 ∧ (0 : Int) ≤ ((b8 l 1 / 2 % 8 : Nat) : Int) ∧ ((b8 l 1 / 2 % 8 : Nat) : Int) ≤ 7
    omega
  · show (0 : Int) ≤ ((b8 l 2 : Nat) : Int) ∧ ((b8 l 2 : Nat) : Int) ≤ 255 ∧ (0 : Int) ≤ ((b8 l 3 : Nat) : Int) ∧ ((b8 l 3 : Nat) : Int) ≤ 255 ∧ (0 : Int) ≤ ((b8 l 4 % 8 * 256 + b8 l 5 : Nat) : Int) ∧ ((b8 l 4 % 8 * 256 + b8 l 5 : Nat) : Int) ≤ 2047
    omega
theorem rd_ok {l : List Byte} (h : 13 ≤ l.length) (h2 : l.length ≤ 1024) : (rd l).ok = true := Fr.ok_yes (rd_fits h h2)
theorem take_six {l : List Byte} (h : 6 ≤ l.length) : l.take 6 = [BitVec.ofNat 8 (b8 l 0), BitVec.ofNat 8 (b8 l 1), BitVec.ofNat 8 (b8 l 2), BitVec.ofNat 8 (b8 l 3), BitVec.ofNat 8 (b8 l 4), BitVec.ofNat 8 (b8 l 5)] := by
  match l, h with
  | a0 :: a1 :: a2 :: a3 :: a4 :: a5 :: r, _ => simp [b8]
/-- a header is that of the frame that it states just if the common fields are right -/
theorem head_rd {l : List Byte} (h : 13 ≤ l.length) : (rd l).head = l.take 6 ↔ hf l = true := by
  have b0 := b8_lt l 0
  have b1 := b8_lt l 1
  have b2 := b8_lt l 2
  have b3 := b8_lt l 3
  have b4 := b8_lt l 4
  have b5 := b8_lt l 5
  obtain ⟨H, hH⟩ : ∃ H, H = hw (b8 l 0 % 64 * 16 + b8 l 1 / 16) (b8 l 1 / 2 % 8) := ⟨_, rfl⟩
  obtain ⟨S, hS⟩ : ∃ S, S = sw (b8 l 4 % 8 * 256 + b8 l 5) := ⟨_, rfl⟩
  have hle : (rd l).head = hdr6 H (b8 l 2) (b8 l 3) S := by rw [hH, hS]; rfl
  rw [hle, take_six (by omega)]
  unfold hdr6
  unfold hw at hH
  unfold sw at hS
  have key : (H / 256 % 256 = b8 l 0 ∧ H % 256 = b8 l 1 ∧ S / 256 % 256 = b8 l 4 ∧ S % 256 = b8 l 5) ↔ hf l = true := by
    unfold hf
    simp only [Bool.and_eq_true, decide_eq_true_eq]
    rw [hH, hS]
    clear hle hH hS
    generalize b8 l 0 = y0 at *
    generalize b8 l 1 = y1 at *
    generalize b8 l 4 = y4 at *
    generalize b8 l 5 = y5 at *
    omega
  have of8 : ∀ x y : Nat, y < 256 → (BitVec.ofNat 8 x = BitVec.ofNat 8 y ↔ x % 256 = y) := fun x y hy => by
    constructor
    · intro e
      have := congrArg BitVec.toNat e
      simp only [BitVec.toNat_ofNat] at this
      omega
    · intro e
      apply BitVec.eq_of_toNat_eq
      simp only [BitVec.toNat_ofNat]
      omega
  rw [← key]
  simp only [List.cons.injEq, and_true, of8 _ _ b0, of8 _ _ b1, of8 _ _ b4, of8 _ _ b5, Nat.mod_mod, true_and]
theorem take_split {l : List Byte} (h : 13 ≤ l.length) : l.take (l.length - 2) = l.take 6 ++ (rd l).d ++ ctl l := by
  have e1 : l.take (l.length - 6) = l.take 6 ++ (rd l).d := by
    show _ = l.take 6 ++ (l.drop 6).take (l.length - 12)
    rw [← List.take_add]
    congr 1
    omega
  rw [← e1]
  unfold ctl
  rw [← List.take_add]
  congr 1
  omega
/-- the control word is the one that its bytes state -/
theorem word_ctl {l : List Byte} (h : Clc.deE (ctl l) = 0) : (rd l).cw.word = ctl l := by
  obtain ⟨h1, h2⟩ := Clc.enc_dec h
  have e := Cw.enc_yes h1
  rw [h2] at e
  exact e.symm
/-- the encoding of the frame that the bytes state is the bytes just if the common fields are right -/
theorem enc_rd {l : List Byte} (h : 13 ≤ l.length) (h2 : l.length ≤ 1024) (h3 : ck16 l = true) (h4 : Clc.deE (ctl l) = 0) : (rd l).enc = l ↔ hf l = true := by
  rw [Fr.enc_yes (rd_ok h h2), ← head_rd h]
  unfold ck16 at h3
  have hc := (of_decide_eq_true h3).2
  unfold Fr.body
  rw [word_ctl h4]
  constructor
  · intro e
    have e2 := congrArg (List.take 6) e
    rw [← e2]
    unfold ap16
    rw [List.append_assoc, List.append_assoc, List.take_left' (Fr.head_len _)]
  · intro e
    rw [e, ← take_split h]
    exact hc
theorem gd_enc {l : List Byte} (h : 13 ≤ l.length) (h2 : l.length ≤ 1024) (h3 : ck16 l = true) (h4 : Clc.deE (ctl l) = 0) : gd l = decide ((rd l).enc = l) := by
  rw [Bool.eq_iff_iff, decide_eq_true_iff, enc_rd h h2 h3 h4]
  unfold gd
  rw [decide_eq_true h4, Bool.and_true]
/-- what is accepted is the encoding of a valid frame -/
theorem enc_dec {l : List Byte} (h : deE l = 0) : (deP l).ok = true ∧ (deP l).enc = l := by
  obtain ⟨h1, h2, h3, h4⟩ := de_zero h
  rw [(de_good h1 h2 h3 h4).2]
  obtain ⟨h5, h6⟩ := gd_parts h4
  exact ⟨rd_ok h1 h2, (enc_rd h1 h2 h3 h6).2 h5⟩

/-- a header and what follows it state the frame -/
theorem rd_body {f : Fr} (h : f.Fits) (r : List Byte) (hr : r.length = 2) : rd (f.body ++ r) = f ∧ hf (f.body ++ r) = true ∧ Clc.deE (ctl (f.body ++ r)) = 0 := by
  have hcw : Clc.deE f.cw.word = 0 ∧ Clc.deP f.cw.word = f.cw := by
    have := Clc.dec_enc (Cw.ok_yes h.2.2.2)
    rw [Cw.enc_yes (Cw.ok_yes h.2.2.2)] at this
    exact this
  have hctl : ctl (f.body ++ r) = f.cw.word := by
    unfold ctl
    have e1 : (f.body ++ r).length - 6 = (f.head ++ f.d).length := by
      rw [List.length_append, Fr.body_len, hr, List.length_append, Fr.head_len]
      omega
    rw [e1]
    unfold Fr.body
    rw [List.append_assoc, List.drop_left, List.take_left' (word_len _)]
  rw [hctl]
  obtain ⟨cr, ch, ma, ct, fi, d, cw⟩ := f
  obtain ⟨⟨h1, h2, h3, h4⟩, ⟨h5, h6, h7, h8, h9, h10⟩, ⟨h11, h12⟩, h13⟩ := h
  simp only at h1 h2 h3 h4 h5 h6 h7 h8 h9 h10 h11 h12 h13 hcw
  obtain ⟨C, rfl⟩ := Int.eq_ofNat_of_zero_le h1
  obtain ⟨A, rfl⟩ := Int.eq_ofNat_of_zero_le h3
  obtain ⟨M, rfl⟩ := Int.eq_ofNat_of_zero_le h5
  obtain ⟨K, rfl⟩ := Int.eq_ofNat_of_zero_le h7
  obtain ⟨F, rfl⟩ := Int.eq_ofNat_of_zero_le h9
  obtain ⟨H, hH⟩ : ∃ H, H = hw C A := ⟨_, rfl⟩
  obtain ⟨S, hS⟩ : ∃ S, S = sw F := ⟨_, rfl⟩
  have e : (Fr.body ⟨C, A, M, K, F, d, cw⟩ ++ r) = hdr6 H M K S ++ (d ++ (cw.word ++ r)) := by
    unfold Fr.body Fr.head
    simp only [Int.toNat_natCast, List.append_assoc, hH, hS]
  have hl : (hdr6 H M K S ++ (d ++ (cw.word ++ r))).length = 12 + d.length := by rw [List.length_append, List.length_append, List.length_append, hr, hdr6_len, word_len]; omega
  unfold hw at hH
  unfold sw at hS
  have t0 : b8 (hdr6 H M K S ++ (d ++ (cw.word ++ r))) 0 = H / 256 := by show (BitVec.ofNat 8 (H / 256)).toNat = _; rw [BitVec.toNat_ofNat]; omega
  have t1 : b8 (hdr6 H M K S ++ (d ++ (cw.word ++ r))) 1 = H % 256 := by show (BitVec.ofNat 8 (H % 256)).toNat = _; rw [BitVec.toNat_ofNat]; omega
  have t2 : b8 (hdr6 H M K S ++ (d ++ (cw.word ++ r))) 2 = M := by show (BitVec.ofNat 8 M).toNat = _; rw [BitVec.toNat_ofNat]; omega
  have t3 : b8 (hdr6 H M K S ++ (d ++ (cw.word ++ r))) 3 = K := by show (BitVec.ofNat 8 K).toNat = _; rw [BitVec.toNat_ofNat]; omega
  have t4 : b8 (hdr6 H M K S ++ (d ++ (cw.word ++ r))) 4 = S / 256 := by show (BitVec.ofNat 8 (S / 256)).toNat = _; rw [BitVec.toNat_ofNat]; omega
  have t5 : b8 (hdr6 H M K S ++ (d ++ (cw.word ++ r))) 5 = S % 256 := by show (BitVec.ofNat 8 (S % 256)).toNat = _; rw [BitVec.toNat_ofNat]; omega
  have hdd : ((hdr6 H M K S ++ (d ++ (cw.word ++ r))).drop 6).take (12 + d.length - 12) = d := by
    rw [List.drop_left' (hdr6_len H M K S), show 12 + d.length - 12 = d.length by omega, List.take_left]
  rw [e] at hctl ⊢
  refine ⟨?_, ?_, hcw.1⟩
  · unfold rd
    rw [hctl, hcw.2, hl, hdd, t0, t1, t2, t3, t4, t5]
    have q1 : H / 256 % 64 * 16 + H % 256 / 16 = C := by omega
    have q2 : H % 256 / 2 % 8 = A := by omega
    have q3 : S / 256 % 8 * 256 + S % 256 = F := by omega
    rw [q1, q2, q3]
  · unfold hf
    rw [t0, t1, t4]
    simp only [Bool.and_eq_true, decide_eq_true_eq]
    omega
/-- Decode returns every valid frame from its encoding -/
theorem dec_enc {f : Fr} (h : f.ok = true) : deE f.enc = 0 ∧ deP f.enc = f := by
  have hl := Fr.enc_len h
  have hfit := Fr.ok_fits h
  have hd := hfit.2.2.1
  have hc : ck16 f.enc = true := by rw [Fr.enc_yes h]; exact ck16_ap _
  obtain ⟨r1, r2, r3⟩ := rd_body hfit (crcb (up16 0xffff#16 f.body)) rfl
  have e : f.body ++ crcb (up16 0xffff#16 f.body) = f.enc := by rw [Fr.enc_yes h]; rfl
  rw [e] at r1 r2 r3
  have hg : gd f.enc = true := by unfold gd; rw [r2, r3]; rfl
  have := de_good (l := f.enc) (by omega) (by omega) hc hg
  rw [r1] at this
  exact this
/-- a frame but for bits among sixteen is rejected for its checksum -/
theorem dec_near {f : Fr} (h : f.ok = true) {x : List Byte} {i : Nat} (hx : Near f.enc x i 16) (hne : x ≠ f.enc) : deE x = 5 := by
  have hl := Fr.enc_len h
  have hd := (Fr.ok_fits h).2.2.1
  have hxl := hx.1
  have hck : ck16 x = false := by
    cases hc : ck16 x with
    | false => rfl
    | true =>
      rw [Fr.enc_yes h] at hx hne
      exact absurd (near_ck _ _ _ hx hc) hne
  exact (de_sum (by omega) (by omega) hck).1
end Go.Proofs.Ytmkmojhhfbokdaa.Tmf

/-
  Byte slices that the call itself makes: append, make, string(b), whatever the source. No dump is imported.
-/
namespace Go.Proofs.Ytmkmojhhfbokdaa
open Go.RowKit

/-- type t is a slice of bytes, e the byte's type. -/
def IsBytes (P : Program) (t e : TypeId) : Prop :=
  P.underlying t = some (.slice e) ∧ P.underlying e = some (.int .u8) ∧ ∃ i, P.info? e = some i ∧ i.zero = some (.int .u8 0) ∧ i.size = 1 ∧ i.bytes = 1

/-- v is a slice of the call's own (blocks from base on) that holds the bytes l. -/
def Ow (w : World) (base : Nat) (e : TypeId) (v : Value) (l : List Byte) : Prop := w.ownsRow base e 1 v l.length (l.map B8)

theorem B8_one (l : List Byte) : ∀ u ∈ l.map B8, u.oneCell' = true := by
  intro u hu
  obtain ⟨x, _, rfl⟩ := List.mem_map.1 hu
  rfl

theorem Ow.base_le {w : World} {base : Nat} {e : TypeId} {v : Value} {l : List Byte} (h : Ow w base e v l) : ∀ k, v.ownBlock = some k → base ≤ k := by
  intro k hk
  rcases h.2 with ⟨rfl, _⟩ | ⟨g, cap, cur, rfl, hg, _⟩
  · cases hk
  · injection hk with hk; subst hk; exact hg

theorem Ow.reads {w : World} {base : Nat} {e : TypeId} {v : Value} {l : List Byte} (h : Ow w base e v l) :
    ∃ A c, v = .slice A l.length c ∧ Bs w w.heap.size A l ∧ (A = none → c = 0) ∧ l.length ≤ c ∧ c ≤ maxLen := by
  have hcells := fun g cap (hv : v = .slice (some ⟨g, 0, none⟩) l.length cap) => h.cells (g := g) (by rw [hv]; rfl)
  rcases h.2 with ⟨rfl, h0⟩ | ⟨g, cap, cur, rfl, _, hh, hn, hm, _⟩
  · have : l = [] := List.eq_nil_of_length_eq_zero h0
    subst this
    exact ⟨none, 0, rfl, Bs.nil_, fun _ => rfl, by simp, by simp⟩
  · refine ⟨some ⟨g, 0, none⟩, cap, rfl, fun hl => ⟨g, 0, rfl, ?_, fun i x hx => ?_⟩, by simp, hn, hm⟩
    · rcases Nat.lt_or_ge g w.heap.size with hlt | hge
      · exact hlt
      · rw [Array.getElem?_eq_none hge] at hh; cases hh
    · have := hcells g cap rfl i (B8 x) (by simp [hx])
      rcases Nat.eq_zero_or_pos i with rfl | hi
      · simpa [Addr.add] using this
      · have hne : i ≠ 0 := by omega
        simpa [Addr.add, hne] using this

section
variable {P : Program} (w : World)

theorem run_app {t e ty : TypeId} (hT : IsBytes P t e) {base : Nat} {v : Value} {m : List Byte} (hown : Ow w base e v m)
    {B : Nat} {A : Option Addr} {l : List Byte} {c : Nat} (hr : Bs w B A l) (hn : A = none → c = 0) (h47 : m.length + l.length ≤ 140737488355328) (hbase : base ≤ w.heap.size) :
    ∃ v' w', (Builtin.append_ #[t, t] ty #[v, .slice A l.length c]).run P w = .ok v' w' ∧ Ow w' base e v' (m ++ l) ∧ w.grownBy w' v.ownBlock ∧ (v'.ownBlock = v.ownBlock ∨ v'.ownBlock = some w.heap.size) := by
  obtain ⟨ht, _, i, hi, hz, h1, h2⟩ := hT
  cases A with
  | none =>
    have hl : l = [] := by
      rcases Nat.eq_zero_or_pos l.length with h0 | h0
      · exact List.eq_nil_of_length_eq_zero h0
      · obtain ⟨b, off, h, _⟩ := hr h0; cases h
    subst hl
    obtain rfl : c = 0 := hn rfl
    exact ⟨v, w, run_append_owned_none w base t ty e i 1 ht hi v m.length _ hown, by simpa using hown, World.grownBy.refl w _, .inl rfl⟩
  | some ad =>
    obtain ⟨v', w', hrun, ho, hg, _, h5⟩ := run_append_own_at (P := P) w base t ty e i (.int .u8 0) 1 1 ht hi hz h1 h2 rfl (by decide) v m.length (m.map B8) hown ad l.length c (l.map B8)
      (by simp) (fun j u hu => by
        rw [List.getElem?_map] at hu
        cases hx : l[j]? with
        | none => rw [hx] at hu; cases hu
        | some x =>
          rw [hx] at hu
          injection hu with hu
          subst hu
          have hj := (List.getElem?_eq_some_iff.1 hx).1
          obtain ⟨b, off, he, _, hc⟩ := hr (by omega)
          injection he with he
          subst he
          by_cases h0 : j = 0
          · subst h0; simpa [Addr.add] using hc 0 x hx
          · simpa [Addr.add, h0] using hc j x hx) (B8_one l) (by unfold maxLen; omega) (by omega) hbase
    exact ⟨v', w', hrun, by unfold Ow; rw [List.length_append, List.map_append]; exact ho, hg, h5⟩

theorem wp_app {t e : TypeId} (hT : IsBytes P t e) {o : Oper} {a : Act} {K : Act → World → Prop} {Q : Exit → Act → World → Prop} (s x : Operand)
    (ho : o.op = .call { callee := .builtin .append, args := #[s, x], argTypes := #[t, t] })
    {base : Nat} {v : Value} {m : List Byte} (hs : a.eval s = v) (hown : Ow w base e v m)
    {B : Nat} {A : Option Addr} {l : List Byte} {c : Nat} (hx : a.eval x = .slice A l.length c) (hr : Bs w B A l) (hn : A = none → c = 0) (h47 : m.length + l.length ≤ 140737488355328) (hbase : base ≤ w.heap.size)
    (h : ∀ v' w', Ow w' base e v' (m ++ l) → w.grownBy w' v.ownBlock → K (a.put o.dst v') w') : o.wp P a w K Q := by
  obtain ⟨v', w', hrun, h2, h3, _⟩ := run_app (P := P) (ty := o.type) w hT hown hr hn h47 hbase
  unfold Oper.wp execOp
  simp only [ho, resolve, invoke, builtin, Sem.run_bind, Sem.run_pure, Result.andThen_ok, List.map_toArray, List.map_cons, List.map_nil, hs, hx, hrun]
  exact h v' w' h2 h3

theorem wpList_app {t e : TypeId} (hT : IsBytes P t e) {ops : Array Oper} {rest : List Oper} {o : Oper} {a : Act} {Q : Exit → Act → World → Prop} (hgd : o.guard = none) (s x : Operand)
    (ho : o.op = .call { callee := .builtin .append, args := #[s, x], argTypes := #[t, t] })
    {base : Nat} {v : Value} {m : List Byte} (hs : a.eval s = v) (hown : Ow w base e v m)
    {B : Nat} {A : Option Addr} {l : List Byte} {c : Nat} (hx : a.eval x = .slice A l.length c) (hr : Bs w B A l) (hn : A = none → c = 0) (h47 : m.length + l.length ≤ 140737488355328) (hbase : base ≤ w.heap.size)
    (h : ∀ v' w', Ow w' base e v' (m ++ l) → w.grownBy w' v.ownBlock → wpList P ops Q rest (a.put o.dst v') w') : wpList P ops Q (o :: rest) a w :=
  wpList_plain hgd fun _ hK => wp_app w hT s x ho hs hown hx hr hn h47 hbase fun v' w' h2 h3 => hK _ _ (h v' w' h2 h3)

theorem wp_appAt {t e : TypeId} (hT : IsBytes P t e) {o : Oper} {a : Act} {K : Act → World → Prop} {Q : Exit → Act → World → Prop} (s x : Operand)
    (ho : o.op = .call { callee := .builtin .append, args := #[s, x], argTypes := #[t, t] })
    {base : Nat} {v : Value} {m : List Byte} (hs : a.eval s = v) (hown : Ow w base e v m)
    {B : Nat} {A : Option Addr} {l : List Byte} {c : Nat} (hx : a.eval x = .slice A l.length c) (hr : Bs w B A l) (hn : A = none → c = 0) (h47 : m.length + l.length ≤ 140737488355328) (hbase : base ≤ w.heap.size)
    (h : ∀ v' w', Ow w' base e v' (m ++ l) → w.grownBy w' v.ownBlock → (v'.ownBlock = v.ownBlock ∨ v'.ownBlock = some w.heap.size) → K (a.put o.dst v') w') : o.wp P a w K Q := by
  obtain ⟨v', w', hrun, h2, h3, h4⟩ := run_app (P := P) (ty := o.type) w hT hown hr hn h47 hbase
  unfold Oper.wp execOp
  simp only [ho, resolve, invoke, builtin, Sem.run_bind, Sem.run_pure, Result.andThen_ok, List.map_toArray, List.map_cons, List.map_nil, hs, hx, hrun]
  exact h v' w' h2 h3 h4

theorem wpList_appAt {t e : TypeId} (hT : IsBytes P t e) {ops : Array Oper} {rest : List Oper} {o : Oper} {a : Act} {Q : Exit → Act → World → Prop} (hgd : o.guard = none) (s x : Operand)
    (ho : o.op = .call { callee := .builtin .append, args := #[s, x], argTypes := #[t, t] })
    {base : Nat} {v : Value} {m : List Byte} (hs : a.eval s = v) (hown : Ow w base e v m)
    {B : Nat} {A : Option Addr} {l : List Byte} {c : Nat} (hx : a.eval x = .slice A l.length c) (hr : Bs w B A l) (hn : A = none → c = 0) (h47 : m.length + l.length ≤ 140737488355328) (hbase : base ≤ w.heap.size)
    (h : ∀ v' w', Ow w' base e v' (m ++ l) → w.grownBy w' v.ownBlock → (v'.ownBlock = v.ownBlock ∨ v'.ownBlock = some w.heap.size) → wpList P ops Q rest (a.put o.dst v') w') : wpList P ops Q (o :: rest) a w :=
  wpList_plain hgd fun _ hK => wp_appAt w hT s x ho hs hown hx hr hn h47 hbase fun v' w' h2 h3 h4 => hK _ _ (h v' w' h2 h3 h4)

theorem Bs_new2 (w : World) (e : TypeId) (x y : Byte) (m n : Int) (hm : m = (x.toNat : Int)) (hn : n = (y.toNat : Int)) :
    Bs (w.alloc (.cells #[.int .u8 m, .int .u8 n] e)) (w.heap.size + 1) (some ⟨w.heap.size, 0, none⟩) [x, y] := fun _ => by
  refine ⟨w.heap.size, 0, rfl, by omega, fun i z hz => ?_⟩
  subst hm hn
  rw [Nat.zero_add, cell_of_row _ _ i _ e (0, 0) (heap_alloc_new w _)]
  match i, hz with
  | 0, hz => simp at hz; subst hz; rfl
  | 1, hz => simp at hz; subst hz; rfl
theorem Bs_new1 (w : World) (e : TypeId) (x : Byte) (m : Int) (hm : m = (x.toNat : Int)) :
    Bs (w.alloc (.cells #[.int .u8 m] e)) (w.heap.size + 1) (some ⟨w.heap.size, 0, none⟩) [x] := fun _ => by
  refine ⟨w.heap.size, 0, rfl, by omega, fun i z hz => ?_⟩
  subst hm
  rw [Nat.zero_add, cell_of_row _ _ i _ e (0, 0) (heap_alloc_new w _)]
  match i, hz with
  | 0, hz => simp at hz; subst hz; rfl

theorem Bs_new (w : World) (e : TypeId) (l : List Byte) (C : Array Value) (hC : C = (l.map B8).toArray) (B : Nat) (hB : w.heap.size < B) (fr : Nat × Nat := (0, 0)) :
    Bs (w.alloc (.cells C e fr)) B (some ⟨w.heap.size, 0, none⟩) l := fun _ => by
  refine ⟨w.heap.size, 0, rfl, hB, fun i z hz => ?_⟩
  rw [Nat.zero_add, cell_of_row _ _ i _ e fr (heap_alloc_new w _), hC]
  simp [hz]
theorem Ow_empty (w : World) (base : Nat) (e : TypeId) (h : base ≤ w.heap.size) : Ow (w.alloc (.cells #[] e)) base e (.slice (some ⟨w.heap.size, 0, none⟩) 0 0) [] :=
  ⟨rfl, .inr ⟨w.heap.size, 0, #[], rfl, h, heap_alloc_new w _, Nat.le_refl _, by simp, rfl, rfl⟩⟩

theorem step_app {t e : TypeId} (hT : IsBytes P t e) {ops : Array Oper} {o : Oper} {a : Act} {K : Act → World → Prop} {Q : Exit → Act → World → Prop} {E : Prop} (hgd : o.guard = none) (s x : Operand)
    (ho : o.op = .call { callee := .builtin .append, args := #[s, x], argTypes := #[t, t] })
    {base : Nat} {v : Value} {m : List Byte} (hs : a.eval s = v) (hown : Ow w base e v m)
    {B : Nat} {A : Option Addr} {l : List Byte} {c : Nat} (hx : a.eval x = .slice A l.length c) (hr : Bs w B A l) (hn : A = none → c = 0) (h47 : m.length + l.length ≤ 140737488355328) (hbase : base ≤ w.heap.size)
    (h : ∀ v' w', Ow w' base e v' (m ++ l) → w.grownBy w' v.ownBlock → K (a.put o.dst v') w') :
    if Region.wanted o (yielded ops a.tmps) = true then Oper.wp P o a w K Q else E := by
  have hw : Region.wanted o (yielded ops a.tmps) = true := by simp [Region.wanted, hgd]
  rw [if_pos hw]
  exact wp_app w hT s x ho hs hown hx hr hn h47 hbase h

theorem step_appAt {t e : TypeId} (hT : IsBytes P t e) {ops : Array Oper} {o : Oper} {a : Act} {K : Act → World → Prop} {Q : Exit → Act → World → Prop} {E : Prop} (hgd : o.guard = none) (s x : Operand)
    (ho : o.op = .call { callee := .builtin .append, args := #[s, x], argTypes := #[t, t] })
    {base : Nat} {v : Value} {m : List Byte} (hs : a.eval s = v) (hown : Ow w base e v m)
    {B : Nat} {A : Option Addr} {l : List Byte} {c : Nat} (hx : a.eval x = .slice A l.length c) (hr : Bs w B A l) (hn : A = none → c = 0) (h47 : m.length + l.length ≤ 140737488355328) (hbase : base ≤ w.heap.size)
    (h : ∀ v' w', Ow w' base e v' (m ++ l) → w.grownBy w' v.ownBlock → (v'.ownBlock = v.ownBlock ∨ v'.ownBlock = some w.heap.size) → K (a.put o.dst v') w') :
    if Region.wanted o (yielded ops a.tmps) = true then Oper.wp P o a w K Q else E := by
  have hw : Region.wanted o (yielded ops a.tmps) = true := by simp [Region.wanted, hgd]
  rw [if_pos hw]
  exact wp_appAt w hT s x ho hs hown hx hr hn h47 hbase h

theorem Bs.drew {w : World} {B : Nat} {a : Option Addr} {l : List Byte} (h : Bs w B a l) : Bs w.drew B a l := h
theorem Ow.drew {w : World} {base : Nat} {e : TypeId} {v : Value} {l : List Byte} (h : Ow w base e v l) : Ow w.drew base e v l := World.ownsRow.drew h
theorem Ow.alloc {w : World} {base : Nat} {e : TypeId} {v : Value} {l : List Byte} (h : Ow w base e v l) (o : Obj) : Ow (w.alloc o) base e v l := World.ownsRow.alloc h o

/-! ### string(b) -/
def str (l : List Byte) : ByteArray := ⟨(l.map UInt8.ofBitVec).toArray⟩
theorem str_inj {l m : List Byte} (h : str l = str m) : l = m := by
  unfold str at h
  injection h with h
  have h2 : l.map UInt8.ofBitVec = m.map UInt8.ofBitVec := by simpa using congrArg Array.toList h
  exact (List.map_inj_right (fun x y e => by injection e)).1 h2

theorem str_toList (l : List Byte) : (str l).toList = l.map UInt8.ofBitVec := ByteArray.toList_mk _
theorem str_beq (l m : List Byte) : ((str l).toList == (str m).toList) = decide (l = m) := by
  rw [str_toList, str_toList, Bool.eq_iff_iff, beq_iff_eq, decide_eq_true_iff]
  exact List.map_inj_right (fun x y e => by injection e)

theorem run_str {src dst e : TypeId} (hT : IsBytes P src e) (hd : P.underlying dst = some .string) {B : Nat} {A : Option Addr} {l : List Byte} {c : Nat} (hr : Bs w B A l) (hn : A = none → c = 0) :
    (convert src dst (.slice A l.length c)).run P w = .ok (.string (str l)) w := by
  obtain ⟨hs, he, _⟩ := hT
  cases A with
  | none =>
    have hl : l = [] := by
      rcases Nat.eq_zero_or_pos l.length with h0 | h0
      · exact List.eq_nil_of_length_eq_zero h0
      · obtain ⟨b, off, h, _⟩ := hr h0; cases h
    subst hl
    exact Lib.run_convert_nil_bytes w src dst e c hs he hd
  | some ad =>
    have := run_convert_bytes_back (P := P) w src dst e ad c (l.map UInt8.ofBitVec) hs he hd (fun j hj => by
      simp only [List.length_map] at hj
      obtain ⟨b, off, he, _, hc⟩ := hr (by omega)
      injection he with he
      subst he
      have hcj := hc j l[j] (List.getElem?_eq_getElem hj)
      rw [List.getElem_map]
      by_cases h0 : j = 0
      · subst h0; simpa [Addr.add] using hcj
      · simpa [Addr.add, h0] using hcj)
    rw [List.length_map] at this
    exact this
end
end Go.Proofs.Ytmkmojhhfbokdaa

/-
  Two words: a block that is known whole (Cel), and 'of the old blocks only those of a list may have turned' (Only); what a walk wants of both. No dump is imported.
-/
namespace Go.Proofs.Ytmkmojhhfbokdaa
open Go.RowKit

/-- block g is just the cells cs of element type t, none of them frozen -/
def Cel (w : World) (g : Nat) (t : TypeId) (cs : Array Value) : Prop := w.heap[g]? = some (.cells cs t (0, 0))

/-- of the blocks that w has, w' may differ in those of the list S alone -/
structure Only (S : List Nat) (w w' : World) : Prop where
  os : w'.os = w.os
  tape : w'.tape = w.tape
  output : w'.output = w.output
  size : w.heap.size ≤ w'.heap.size
  block : ∀ k, k < w.heap.size → k ∉ S → w'.heap[k]? = w.heap[k]?

section
variable {w w' w2 : World} {g : Nat} {t : TypeId} {cs : Array Value} {S T : List Nat}

theorem Cel.lt (h : Cel w g t cs) : g < w.heap.size := lt_of_block h
theorem Cel.cell (h : Cel w g t cs) (i : Nat) : w.cell? ⟨g, i, none⟩ = cs[i]? := by unfold Cel at h; simp [World.cell?, h]
theorem Cel.free (h : Cel w g t cs) (i : Nat) : w.frozen? ⟨g, i, none⟩ = false := by unfold Cel at h; simp [World.frozen?, h]
theorem Cel.new (w : World) (t : TypeId) (cs : Array Value) : Cel (w.alloc (.cells cs t)) w.heap.size t cs := heap_alloc_new w _
theorem Cel.draws (h : Cel w g t cs) (n : Nat) : Cel (w.drewN n) g t cs := h
theorem Cel.put (h : Cel w g t cs) (i : Nat) (u : Value) : Cel (w.setCell ⟨g, i, none⟩ u) g t (cs.setIfInBounds i u) := by
  have hl := h.lt
  unfold Cel at h ⊢
  rw [Array.getElem?_eq_getElem hl] at h
  injection h with h
  show (w.heap.modify g _)[g]? = _
  rw [Array.getElem?_eq_getElem (by simpa using hl), Array.getElem_modify_self, h]
  rfl
theorem Cel.apart {g' : Nat} {t' : TypeId} {cs' : Array Value} (h : Cel w g t cs) (k : Cel w g' t' cs') (ht : t ≠ t') : g ≠ g' := by
  intro e
  subst e
  have : some (Obj.cells cs t (0, 0)) = some (.cells cs' t' (0, 0)) := h.symm.trans k
  simp at this
  exact ht this.2
theorem Cel.only (h : Cel w g t cs) (k : Only S w w') (hg : g ∉ S) : Cel w' g t cs := (k.block g h.lt hg).trans h

theorem Cel.grown {o : Obj} {row : Option Nat} (h : Cel w g t cs) (k : (w.alloc o).grownBy w' row) (hne : row ≠ some g) : Cel w' g t cs :=
  (k.block g (by have := h.lt; simp; omega) (fun e => hne e.symm)).trans ((Below.heap_alloc w o g h.lt).trans h)
theorem Only.refl (S : List Nat) (w : World) : Only S w w := ⟨rfl, rfl, rfl, Nat.le_refl _, fun _ _ _ => rfl⟩
theorem Only.trans (h : Only S w w') (k : Only T w' w2) (hT : ∀ x ∈ T, x ∈ S ∨ w.heap.size ≤ x) : Only S w w2 :=
  ⟨k.os.trans h.os, k.tape.trans h.tape, k.output.trans h.output, Nat.le_trans h.size k.size, fun i hi hn =>
    (k.block i (Nat.lt_of_lt_of_le hi h.size) fun hx => (hT i hx).elim (fun e => hn e) (fun e => by omega)).trans (h.block i hi hn)⟩
theorem Only.more (h : Only S w w') (hS : ∀ x ∈ S, x ∈ T ∨ w.heap.size ≤ x) : Only T w w' :=
  ⟨h.os, h.tape, h.output, h.size, fun i hi hn => h.block i hi fun hx => (hS i hx).elim (fun e => hn e) (fun e => by omega)⟩
theorem Only.below (h : Only S w w') {B : Nat} (hB : B ≤ w.heap.size) (hS : ∀ x ∈ S, B ≤ x) : Below B w w' :=
  ⟨h.os, h.tape, h.output, h.size, fun i hi => h.block i (by omega) fun hx => by have := hS i hx; omega⟩
theorem Only.of_below (h : Below w.heap.size w w') : Only S w w' := ⟨h.os, h.tape, h.output, h.size, fun i hi _ => h.block i hi⟩
theorem Only.of_grown {row : Option Nat} (h : w.grownBy w' row) : Only row.toList w w' :=
  ⟨h.os, h.tape, h.output, h.size, fun i hi hn => h.block i hi fun e => hn (by rw [← e]; simp)⟩
theorem Only.alloc (h : Only S w w') (o : Obj) : Only S w (w'.alloc o) :=
  h.trans (T := []) ⟨rfl, rfl, rfl, by simp, fun k hk _ => Below.heap_alloc _ _ _ hk⟩ (by simp)
theorem Only.put (h : Only S w w') {p : Addr} (hp : p.block ∈ S ∨ w.heap.size ≤ p.block) (u : Value) : Only S w (w'.setCell p u) :=
  h.trans (T := [p.block]) ⟨rfl, rfl, rfl, by simp [World.setCell], fun k _ hn => Below.heap_setCell _ _ _ _ (fun e => hn (by simp [e]))⟩ (by simpa using hp)
theorem Only.draws (h : Only S w w') (n : Nat) : Only S w (w'.drewN n) := ⟨h.os, h.tape, h.output, h.size, h.block⟩
theorem Only.drew (h : Only S w w') : Only S w w'.drew := ⟨h.os, h.tape, h.output, h.size, h.block⟩

variable {base size : Nat} {e : TypeId} {v : Value} {l : List Byte} {n : Nat} {xs : List Value}
theorem own_only (h : w.ownsRow base e size v n xs) (k : Only S w w') (hS : ∀ i, v.ownBlock = some i → i ∉ S) : w'.ownsRow base e size v n xs := by
  refine ⟨h.1, ?_⟩
  rcases h.2 with h2 | ⟨g, cap, cur, rfl, hb, hg, rest⟩
  · exact .inl h2
  · exact .inr ⟨g, cap, cur, rfl, hb, (k.block g (lt_of_block hg) (hS g rfl)).trans hg, rest⟩
theorem Ow.only (h : Ow w base e v l) (k : Only S w w') (hS : ∀ i, v.ownBlock = some i → i ∉ S) : Ow w' base e v l := own_only h k hS
theorem Ow.below (h : Ow w base e v l) (hb : Below w.heap.size w w') : Ow w' base e v l := h.only (Only.of_below (S := []) hb) (by simp)
theorem Ow.draws (h : Ow w base e v l) (n : Nat) : Ow (w.drewN n) base e v l := h
theorem own_lt (h : w.ownsRow base e size v n xs) : ∀ i, v.ownBlock = some i → base ≤ i ∧ i < w.heap.size := h.lt
theorem Ow.lt (h : Ow w base e v l) : ∀ i, v.ownBlock = some i → base ≤ i ∧ i < w.heap.size := World.ownsRow.lt h
theorem own_apart (h : w.ownsRow base e size v n xs) (k : Cel w g t cs) (ht : e ≠ t) : v.ownBlock ≠ some g := by
  rcases h.2 with ⟨rfl, _⟩ | ⟨g', cap, cur, rfl, _, hg, _⟩
  · simp [Value.ownBlock]
  · intro he
    injection he with he
    exact Cel.apart (t := e) hg k ht he
theorem Ow.apart (h : Ow w base e v l) (k : Cel w g t cs) (ht : e ≠ t) : v.ownBlock ≠ some g := own_apart h k ht
theorem Ow.reads_len (h : Ow w base e v l) (hl : l.length = n) : ∃ A c, v = .slice A n c ∧ Bs w w.heap.size A l ∧ (A = none → c = 0) ∧ n ≤ c ∧ c ≤ maxLen := by
  subst hl; exact h.reads
theorem Ow.form_len (h : Ow w base e v l) {m : Nat} (hl : l.length = m + 1) : ∃ gr c, v = .slice (some ⟨gr, 0, none⟩) (m + 1) c ∧ base ≤ gr ∧ gr < w.heap.size ∧ m + 1 ≤ c ∧ c ≤ maxLen ∧
    (∀ i x, l[i]? = some x → w.cell? ⟨gr, i, none⟩ = some (B8 x)) ∧ ∀ i, w.frozen? ⟨gr, i, none⟩ = false := by
  have hcells := fun g (hv : v.ownBlock = some g) => h.cells (g := g) hv
  rcases h.2 with ⟨rfl, h0⟩ | ⟨g, cap, cur, rfl, hb, hh, hn, hm, _⟩
  · omega
  · refine ⟨g, cap, by rw [hl], hb, lt_of_block hh, by omega, hm, fun i x hx => ?_, fun i => Cel.free (t := e) hh i⟩
    have := hcells g rfl i (B8 x) (by simp [hx])
    rcases Nat.eq_zero_or_pos i with rfl | hi
    · simpa [Addr.add] using this
    · have hne : i ≠ 0 := by omega
      simpa [Addr.add, hne] using this
theorem Ow.more (h : Ow w base e v l) {b' : Nat} (hb : b' ≤ base) : Ow w b' e v l := by
  refine ⟨h.1, ?_⟩
  rcases h.2 with h2 | ⟨g, cap, cur, hv, hg, rest⟩
  · exact .inl h2
  · exact .inr ⟨g, cap, cur, hv, by omega, rest⟩
theorem Bs.only {B : Nat} {a : Option Addr} (h : Bs w B a l) (k : Only S w w') (hB : B ≤ w.heap.size) (hS : ∀ x ∈ S, B ≤ x) : Bs w' B a l := h.below (k.below hB hS)

/-- the last byte of a slice of the call's own, written in place -/
theorem Ow.set_ (h : Ow w base e v l) {gr i : Nat} (hv : v.ownBlock = some gr) (x : Byte) : Ow (w.setCell ⟨gr, i, none⟩ (B8 x)) base e v (l.set i x) := by
  obtain ⟨h1, h2⟩ := h
  refine ⟨by simp, ?_⟩
  rcases h2 with ⟨rfl, _⟩ | ⟨g, cap, cur, rfl, hb, hg, hn, hm, hs, ht⟩
  · cases hv
  · injection hv with hv
    have hv' : g = gr := hv
    subst hv'
    refine .inr ⟨g, cap, cur.setIfInBounds i (B8 x), by simp, hb, Cel.put (t := e) hg i (B8 x), by simpa using hn, hm, by simpa using hs, ?_⟩
    rw [Array.toList_setIfInBounds, List.take_set, List.length_set]
    rw [ht, List.map_set]
end
end Go.Proofs.Ytmkmojhhfbokdaa

/-
  What the walks of every package share: the byte's type, small equations of endings.
-/
namespace Go.Proofs.Ytmkmojhhfbokdaa
open Go.RowKit

theorem info_u8 : (Try.prog.info? 5).map (fun i => (i.zero, i.size, i.bytes)) = some (some (.int .u8 0), 1, 1) := by kernel_rfl
theorem is_bytes : IsBytes Try.prog 22 5 := by
  obtain ⟨i, h0, h1, h2, h3⟩ := info_parts info_u8
  exact ⟨Try.underlying22, Try.underlying5, i, h0, h1, h2, h3⟩

theorem ret_int {k : IntKind} {a b : Int} (h : a = b) : Ending.returned (.int k a) = .returned (.int k b) := by rw [h]
theorem val_int {k : IntKind} {a b : Int} (h : a = b) : Value.int k a = .int k b := by rw [h]
theorem ret_bool {a b : Bool} (h : a = b) : Ending.returned (.bool a) = .returned (.bool b) := by rw [h]
theorem drewN_below {B : Nat} (w : World) (n : Nat) : Below B w (w.drewN n) := ⟨rfl, rfl, rfl, Nat.le_refl _, fun _ _ => rfl⟩
end Go.Proofs.Ytmkmojhhfbokdaa

/-
  The walks of package packet's allZero, validIdle, Valid and bit.
-/
namespace Go.Proofs.Ytmkmojhhfbokdaa.Pac
open Go.RowKit

theorem bel_new (w : World) (o : Obj) : Below w.heap.size w (w.alloc o) := (Below.refl _ _).alloc (Nat.le_refl _) _
theorem Cel.later {w w' : World} {g : Nat} {t : TypeId} {cs : Array Value} (h : Cel w g t cs) (hb : Below w.heap.size w w') : Cel w' g t cs := h.only (Only.of_below (S := []) hb) (by simp)
theorem Cel.within {w w' : World} {g B : Nat} {t : TypeId} {cs : Array Value} (h : Cel w g t cs) (hg : g < B) (hb : Below B w w') : Cel w' g t cs := (hb.block g hg).trans h

theorem u8_zero (x : Byte) : ((x.toNat : Int) != 0) = !decide (x = 0#8) := by
  by_cases h : x = 0#8
  · subst h; rfl
  · have : x.toNat ≠ 0 := fun e => h (BitVec.eq_of_toNat_eq (by rw [e]; rfl))
    rw [decide_eq_false h]
    simp
    omega

/-- the data of a packet in a block of its own, later -/
theorem Bs.new {w : World} {a : Option Addr} {l : List Byte} (h : Bs w w.heap.size a l) (o : Obj) : Bs (w.alloc o) w.heap.size a l := h.below (bel_new w o)

end Go.Proofs.Ytmkmojhhfbokdaa.Pac

/-
  The walk of package packet's Valid.
-/
namespace Go.Proofs.Ytmkmojhhfbokdaa.Pac
open Go.RowKit

theorem ok_bad {com sec : Bool} {ap fl ct : Int} {l : List Byte} (h : ap < 0 ∨ 2047 < ap ∨ fl < 0 ∨ 3 < fl ∨ ct < 0 ∨ 16383 < ct ∨ l.length = 0 ∨ 4090 < l.length) : Pk.ok ⟨com, sec, ap, fl, ct, l⟩ = false :=
  Pk.ok_no (fun ⟨h1, h2, h3, h4, h5, h6, h7, h8⟩ => by simp only at h1 h2 h3 h4 h5 h6 h7 h8; omega)

end Go.Proofs.Ytmkmojhhfbokdaa.Pac

/-
  The walk of bytes.Clone: at every slice of bytes; at nil.
-/
namespace Go.Proofs.Ytmkmojhhfbokdaa
open Go.RowKit

set_option maxHeartbeats 400000 in
theorem clone_any (a : Option Addr) (l : List Byte) (n c : Nat) (w : World) (hl : Hid (l.length = n)) (hb : Bs w w.heap.size a l) (hn : a = none → c = 0) (hm : n ≤ 140737488355328) :
    Calls Try.prog 29 #[.slice a n c] w fun e w' => ∃ v, e = .returned v ∧ Ow w' w.heap.size 5 v l ∧ Below w.heap.size w w' := by
  have hL : l.length = n := hl
  subst hL
  cases a with
  | none =>
    have hl : l = [] := by
      rcases Nat.eq_zero_or_pos l.length with h0 | h0
      · exact List.eq_nil_of_length_eq_zero h0
      · obtain ⟨b, off, h, _⟩ := hb h0; cases h
    subst hl
    obtain rfl : c = 0 := hn rfl
    have hnil := fun W => Lib.run_eql_slice_nil (P := Try.prog) W 22 5 none 0 0 0 0 Try.underlying22
    go_enter Try.func29, Try.ntmps29
    go_wp2
    go_ret
    exact ⟨_, rfl, World.ownsRow_nil _ _ _ _, Below.refl _ _⟩
  | some ad =>
    have bel1 := (Below.refl w.heap.size w).alloc (Nat.le_refl _) (.cells #[] 5)
    have hown1 := Ow_empty w w.heap.size 5 (Nat.le_refl _)
    have hnil := fun W => Lib.run_eql_slice_nil (P := Try.prog) W 22 5 (some ad) l.length c 0 0 Try.underlying22
    go_enter Try.func29, Try.ntmps29
    go_wp2_with (first
      | (at_builtin; refine wpList_app _ is_bytes rfl (.tmp 5) (.tmp 6) rfl (m := []) rfl hown1 rfl (hb.below bel1) hn (by simp; omega) bel1.size ?_; intro v2 w2 hown2 hgrow2; have bel2 := bel1.grown hgrow2 bel1.size (Ow.base_le (l := []) hown1)))
    go_ret
    exact ⟨v2, rfl, hown2, bel2⟩

set_option maxHeartbeats 400000 in
theorem clone_nil (w : World) : Calls Try.prog 29 #[.slice none 0 0] w fun e w' => e = .returned (.slice none 0 0) ∧ w = w' := by
  have hnil := fun W => Lib.run_eql_slice_nil (P := Try.prog) W 22 5 none 0 0 0 0 Try.underlying22
  go_enter Try.func29, Try.ntmps29
  go_wp2
  go_ret
  exact ⟨rfl, rfl⟩

end Go.Proofs.Ytmkmojhhfbokdaa

/-
  The walks of the small functions of package bits that its Writer wants: bytes.Clone, a width's test, NewWriter, Len, Bytes.
-/
namespace Go.Proofs.Ytmkmojhhfbokdaa
open Go.RowKit

set_option maxHeartbeats 400000 in
theorem valid_yes (n : Int) (w : World) (h0 : 0 ≤ n) (h1 : n ≤ 64) :
    Calls Try.prog 44 #[.int .i64 n] w fun e w' => e = .returned (.bool true) ∧ w = w' := by
  go_enter Try.func44, Try.ntmps44
  go_wp2
  go_ret
  exact ⟨rfl, rfl⟩
set_option maxHeartbeats 400000 in
theorem valid_no (n : Int) (w : World) (h : n < 0 ∨ 64 < n) :
    Calls Try.prog 44 #[.int .i64 n] w fun e w' => e = .returned (.bool false) ∧ w = w' := by
  rcases h with h | h
  · go_enter Try.func44, Try.ntmps44
    go_wp2
    go_ret
    exact ⟨rfl, rfl⟩
  · have h2 : 0 ≤ n := by omega
    have h3 : decide (n ≤ 64) = false := by simpa using h
    go_enter Try.func44, Try.ntmps44
    go_wp2
    go_ret
    exact ⟨rfl, rfl⟩

/-- block g is a Writer of package bits that holds the bits L; its bytes lie in block r -/
def WAt (w : World) (base g : Nat) (r : Option Nat) (L : List Bool) : Prop :=
  ∃ v bs fr, Cel w g 72 #[.bool true, v, .int .i64 ((fr : Nat) : Int)] ∧ Ow w base 5 v bs ∧ v.ownBlock = r ∧ Room bs L fr ∧ fr < 8

set_option maxHeartbeats 400000 in
theorem newWriter_any (w : World) :
    Calls Try.prog 33 #[] w fun e w' => e = .returned (.pointer (some ⟨w.heap.size, 0, none⟩)) ∧ w.alloc (.cells #[.bool true, .slice none 0 0, .int .i64 0] 72) = w' := by
  go_enter Try.func33, Try.ntmps33
  go_wp2
  go_ret
  exact ⟨rfl, rfl⟩
theorem WAt_new (w : World) (base : Nat) : WAt (w.alloc (.cells #[.bool true, .slice none 0 0, .int .i64 0] 72)) base w.heap.size none [] :=
  ⟨_, [], 0, Cel.new _ _ _, World.ownsRow_nil _ _ _ _, rfl, room_nil, by omega⟩
theorem WAt.lt {w : World} {base g : Nat} {r : Option Nat} {L : List Bool} (h : WAt w base g r L) : g < w.heap.size := by
  obtain ⟨v, bs, fr, hc, _⟩ := h
  exact hc.lt
theorem WAt.row {w : World} {base g : Nat} {r : Option Nat} {L : List Bool} (h : WAt w base g r L) : ∀ i, r = some i → base ≤ i ∧ i < w.heap.size ∧ i ≠ g := by
  obtain ⟨v, bs, fr, hc, ho, rfl, _⟩ := h
  intro i hi
  have := ho.lt i hi
  exact ⟨this.1, this.2, fun e => ho.apart hc (by decide) (by rw [hi, e])⟩
theorem WAt.only {w w' : World} {base g : Nat} {r : Option Nat} {L : List Bool} {S : List Nat} (h : WAt w base g r L) (k : Only S w w') (hg : g ∉ S) (hr : ∀ i, r = some i → i ∉ S) : WAt w' base g r L := by
  obtain ⟨v, bs, fr, hc, ho, rfl, rest⟩ := h
  exact ⟨v, bs, fr, hc.only k hg, ho.only k hr, rfl, rest⟩
theorem WAt.draws {w : World} {base g : Nat} {r : Option Nat} {L : List Bool} (h : WAt w base g r L) (n : Nat) : WAt (w.drewN n) base g r L := h

set_option maxHeartbeats 400000 in
theorem wbytes_any (w : World) (base g : Nat) (r : Option Nat) (L : List Bool) (h : WAt w base g r L) (hL : L.length < 1000000) :
    Calls Try.prog 36 #[.pointer (some ⟨g, 0, none⟩)] w fun e w' => ∃ v bs, e = .returned v ∧ Packs bs L ∧ Ow w' w.heap.size 5 v bs ∧ Below w.heap.size w w' := by
  obtain ⟨v, bs, fr, hc, ho, _, hR, hf⟩ := h
  obtain ⟨A, c, rfl, hr, hn, _, _⟩ := ho.reads
  have c1 := hc.cell 1
  simp at c1
  have hp := hR.packs hf
  have hb : bs.length ≤ 140737488355328 := by have := hR.len; omega
  clear ho hc hR
  go_enter Try.func36, Try.ntmps36
  go_wp2_with (go_at_call 29; refine (clone_any A bs _ c _ rfl hr hn hb).mono ?_; rintro e w1 ⟨v, rfl, hown, hbel⟩)
  go_ret
  exact ⟨v, bs, rfl, hp, hown, hbel⟩

end Go.Proofs.Ytmkmojhhfbokdaa

/-
  The walk of Put of package bits' Writer.
-/
namespace Go.Proofs.Ytmkmojhhfbokdaa
open Go.RowKit

set_option maxHeartbeats 1000000 in
theorem put_bad (w : World) (base g : Nat) (r : Option Nat) (L : List Bool) (n : BitVec 64) (k : Int) (h : WAt w base g r L) (hk : k < 0 ∨ 64 < k) :
    Calls Try.prog 34 #[.pointer (some ⟨g, 0, none⟩), .int .u64 (n.toNat : Int), .int .i64 k] w fun e w' => e = .returned (.pointer (some ⟨g, 0, none⟩)) ∧ w = w' := by
  obtain ⟨v, bs, fr, hc, ho, _, hR, hf⟩ := h
  have c0 := hc.cell 0
  simp at c0
  clear ho hc hR
  go_enter Try.func34, Try.ntmps34
  go_wp2_with (go_at_call 44; refine (valid_no _ _ hk).mono ?_; rintro e w' ⟨rfl, rfl⟩)
  go_ret
  exact ⟨rfl, rfl⟩

/-- what Put leaves: the Writer with the bits L; of the old blocks the Writer's own alone may have turned -/
def PutAt (w : World) (base g : Nat) (r : Option Nat) (L : List Bool) (wr : World) : Prop :=
  ∃ r', WAt wr base g r' L ∧ (r' = r ∨ ∃ i, r' = some i ∧ w.heap.size ≤ i) ∧ Only (g :: r.toList) w wr
/-- the same in the middle of a round: there is a last byte, with room in it -/
def PutMid (w : World) (base g : Nat) (r : Option Nat) (L : List Bool) (wr : World) : Prop :=
  ∃ v bs fr, Cel wr g 72 #[.bool true, v, .int .i64 ((fr : Nat) : Int)] ∧ Ow wr base 5 v bs ∧ (v.ownBlock = r ∨ ∃ i, v.ownBlock = some i ∧ w.heap.size ≤ i) ∧ Room bs L fr ∧ 0 < fr ∧ Only (g :: r.toList) w wr

theorem mid_of {w wr w2 : World} {base g : Nat} {r : Option Nat} {L : List Bool} {v v2 : Value} {bs : List Byte} (hc : Cel wr g 72 #[.bool true, v, .int .i64 0])
    (ho : Ow w2 base 5 v2 (bs ++ [0#8])) (hg : (wr.alloc (.cells #[.int .u8 0] 5)).grownBy w2 v.ownBlock) (ho1 : Ow wr base 5 v bs) (hv : v.ownBlock = r ∨ ∃ i, v.ownBlock = some i ∧ w.heap.size ≤ i)
    (hv2 : v2.ownBlock = v.ownBlock ∨ v2.ownBlock = some (wr.heap.size + 1)) (hR : Room bs L 0) (hO : Only (g :: r.toList) w wr) :
    PutMid w base g r L ((w2.setCell ⟨g, 1, none⟩ v2).setCell ⟨g, 2, none⟩ (.int .i64 8)) := by
  have hr : ∀ x ∈ v.ownBlock.toList, x ∈ g :: r.toList ∨ w.heap.size ≤ x := by
    intro x hx
    rcases hv with h | ⟨i, h, hi⟩
    · rw [h] at hx; exact .inl (List.mem_cons_of_mem _ hx)
    · rw [h] at hx; simp at hx; subst hx; exact .inr hi
  have hO2 : Only (g :: r.toList) w w2 := (hO.alloc _).trans (Only.of_grown hg) hr
  have hne := ho1.apart hc (by decide)
  have hc2 : Cel w2 g 72 #[.bool true, v, .int .i64 0] := hc.grown hg hne
  have hne2 : v2.ownBlock ≠ some g := ho.apart hc2 (by decide)
  have hs : wr.heap.size + 1 ≤ w2.heap.size := by have := hg.size; simpa using this
  refine ⟨v2, bs ++ [0#8], 8, ?_, ?_, ?_, hR.grow, by omega, ?_⟩
  · have := (hc2.put 1 v2).put 2 (.int .i64 8)
    simpa using this
  · exact ownsRow_setCell_other (ownsRow_setCell_other ho (a := ⟨g, 1, none⟩) hne2 _) (a := ⟨g, 2, none⟩) hne2 _
  · rcases hv2 with h | h
    · rw [h]; exact hv
    · exact .inr ⟨_, h, by have := hO.size; omega⟩
  · exact (hO2.put (p := ⟨g, 1, none⟩) (.inl (by simp)) _).put (p := ⟨g, 2, none⟩) (.inl (by simp)) _

theorem put_close {w wc : World} {base g gr m c fr s gk k N : Nat} {r : Option Nat} {L : List Bool} {bs : List Byte} {x : Byte} (a : Nat)
    (hc : Cel wc g 72 #[.bool true, .slice (some ⟨gr, 0, none⟩) (m + 1) c, .int .i64 (fr : Int)]) (ho : Ow wc base 5 (.slice (some ⟨gr, 0, none⟩) (m + 1) c) bs)
    (hv : (Value.slice (some ⟨gr, 0, none⟩) (m + 1) c).ownBlock = r ∨ ∃ i, (Value.slice (some ⟨gr, 0, none⟩) (m + 1) c).ownBlock = some i ∧ w.heap.size ≤ i)
    (hR : Room bs (L ++ bitsOf (N / 2 ^ gk) (k - gk)) fr) (hl : bs.length = m + 1) (hx : bs[m]? = some x) (hs : s ≤ fr) (hf : 0 < fr) (hs0 : 0 < s) (hsg : s ≤ gk) (hgk : gk ≤ k) (hO : Only (g :: r.toList) w wc) :
    PutAt w base g r (L ++ bitsOf (N / 2 ^ (gk - s)) (k - (gk - s))) (((wc.setCell ⟨g, 2, none⟩ (.int .i64 ((fr - s : Nat) : Int))).drewN a).setCell ⟨gr, m, none⟩ (B8 (x ||| (piece (N / 2 ^ (gk - s)) s <<< (fr - s))))) := by
  have hne : gr ≠ g := fun e => ho.apart hc (by decide) (by rw [e]; rfl)
  have h8 := hR.le
  have hput := hR.put hs hf x (piece (N / 2 ^ (gk - s)) s) (m := N / 2 ^ (gk - s)) (by rw [hl]; exact hx) (piece_bit _ _ (by omega))
  have hq : N / 2 ^ (gk - s) / 2 ^ s = N / 2 ^ gk := by rw [Nat.div_div_eq_div_mul, ← Nat.pow_add, show gk - s + s = gk by omega]
  have hb := bitsOf_add (N / 2 ^ (gk - s)) (k - gk) s
  rw [hq, show k - gk + s = k - (gk - s) by omega] at hb
  rw [List.append_assoc, ← hb, hl] at hput
  have hc2 := (hc.put 2 (.int .i64 ((fr - s : Nat) : Int))).draws a
  have ho2 : Ow ((wc.setCell ⟨g, 2, none⟩ (.int .i64 ((fr - s : Nat) : Int))).drewN a) base 5 (.slice (some ⟨gr, 0, none⟩) (m + 1) c) bs := ownsRow_setCell_other ho (a := ⟨g, 2, none⟩) (fun e => hne (by injection e)) _
  refine ⟨some gr, ⟨.slice (some ⟨gr, 0, none⟩) (m + 1) c, _, fr - s, ?_, ho2.set_ rfl _, rfl, hput, by omega⟩, ?_, ?_⟩
  · have h3 := (Below.heap_setCell ((wc.setCell ⟨g, 2, none⟩ (.int .i64 ((fr - s : Nat) : Int))).drewN a) ⟨gr, m, none⟩ (B8 (x ||| (piece (N / 2 ^ (gk - s)) s <<< (fr - s)))) g (fun e => hne e.symm)).trans hc2
    unfold Cel
    simpa using h3
  · exact hv
  · refine ((hO.put (p := ⟨g, 2, none⟩) (.inl (by simp)) _).draws a).put (p := ⟨gr, m, none⟩) ?_ _
    rcases hv with h | ⟨i, h, hi⟩
    · rw [← h]; exact .inl (by simp [Value.ownBlock])
    · injection h with h; subst h; exact .inr hi

theorem min_of (a b : Nat) : ∃ s : Nat, (if b < a then (b : Int) else (a : Int)) = (s : Int) ∧ s ≤ a ∧ s ≤ b ∧ (0 < a → 0 < b → 0 < s) := by
  refine ⟨min a b, ?_, by omega, by omega, by omega⟩
  split <;> omega

set_option maxHeartbeats 1000000 in
theorem put_any (w : World) (base g : Nat) (r : Option Nat) (L : List Bool) (n : BitVec 64) (k : Nat) (h : WAt w base g r L) (hk : k ≤ 64) (hL : L.length < 1000000) (hbase : base ≤ w.heap.size) :
    Calls Try.prog 34 #[.pointer (some ⟨g, 0, none⟩), .int .u64 (n.toNat : Int), .int .i64 (k : Int)] w fun e w' => e = .returned (.pointer (some ⟨g, 0, none⟩)) ∧ PutAt w base g r (L ++ bitsOf n.toNat k) w' := by
  have hg := h.lt
  have c0 : w.cell? ⟨g, 0, none⟩ = some (.bool true) := by
    obtain ⟨v, bs, fr, hc, _⟩ := h
    have := hc.cell 0
    simpa using this
  go_enter Try.func34, Try.ntmps34
  go_wp2_with (go_at_call 44; refine (valid_yes _ _ (by omega) (by omega)).mono ?_; rintro e w' ⟨rfl, rfl⟩)
  go_loopg [2] k (fun j i wr => j ≤ k ∧ i = .int .i64 (j : Int) ∧ PutAt w base g r (L ++ bitsOf (n.toNat / 2 ^ j) (k - j)) wr)
  case atStart => exact ⟨Nat.le_refl _, rfl, r, by rw [Nat.sub_self]; simpa [bitsOf] using h, .inl rfl, Only.refl _ _⟩
  case round =>
    obtain ⟨hj, rfl, hP⟩ := hrel
    by_cases hj0 : gk = 0
    · subst hj0
      go_wp2
      go_ret
      exact ⟨rfl, by simpa using hP⟩
    · have hpos : 0 < gk := by omega
      obtain ⟨r', ⟨v, bs, fr, hc, ho, rfl, hR, hf⟩, hr', hO⟩ := hP
      obtain ⟨A, c, rfl, _⟩ := ho.reads
      have c1 := hc.cell 1
      have c2 := hc.cell 2
      have f1 := hc.free 1
      have f2 := hc.free 2
      simp at c1 c2
      have hbl : bs.length ≤ 2000000 := by
        have h1 := hR.len
        rw [List.length_append, bitsOf_len] at h1
        omega
      have hwr : base ≤ wr.heap.size := Nat.le_trans hbase hO.size
      go_upto_if 28 with (fail)
      go_cut [2] (fun s2 wx => s2 = .int .i64 (gk : Int) ∧ PutMid w base g r (L ++ bitsOf (n.toNat / 2 ^ gk) (k - gk)) wx)
      case first =>
        by_cases hfr : fr = 0
        · subst hfr
          have hne := ho.apart hc (by decide)
          go_wp2_with (first
            | (at_builtin; refine wpList_appAt _ is_bytes rfl (.tmp 33) (.tmp 34) rfl (v := Value.slice A bs.length c) (m := bs) rfl (ho.alloc _) (l := [0#8]) rfl (Bs_new1 _ _ _ _ rfl) (by simp) (by simp; omega) (by simp; omega) ?_; intro v2 w2 hown2 hgrow2 hat2; obtain ⟨A2, c2', rfl, _⟩ := hown2.reads_len (n := bs.length + 1) (by simp); have hcw := hc.grown hgrow2 hne; have e1 := hcw.cell 1; have e2 := hcw.cell 2; have e3 := hcw.free 1; have e4 := hcw.free 2; simp at e1 e2))
          go_meet
          case rel => exact ⟨rfl, mid_of hc hown2 hgrow2 ho hr' (by simpa using hat2) hR hO⟩
        · go_wp2
          go_meet
          case rel => exact ⟨rfl, _, bs, fr, hc, ho, hr', hR, by omega, hO⟩
      case rest =>
        clear hc ho hR hr' hO c1 c2 f1 f2 hbl hwr hf
        obtain ⟨rfl, v, bs, fr, hc, ho, hr', hR, hf, hO⟩ := hcut
        have h8 := hR.le
        obtain ⟨m, hm⟩ : ∃ m, bs.length = m + 1 := ⟨bs.length - 1, by have := hR.len; omega⟩
        have hm2 : m < 2000000 := by
          have h1 := hR.len
          rw [List.length_append, bitsOf_len] at h1
          omega
        obtain ⟨x, hx⟩ : ∃ x, bs[m]? = some x := ⟨_, List.getElem?_eq_getElem (by omega)⟩
        obtain ⟨gr, c, rfl, hgb, hgl, hmc, hcm, hcells, hfree⟩ := ho.form_len hm
        have c1 := hc.cell 1
        have c2 := hc.cell 2
        have f1 := hc.free 1
        have f2 := hc.free 2
        have c3 := hcells m x hx
        have f3 := hfree m
        have hne : gr ≠ g := fun e => ho.apart hc (by decide) (by rw [e]; rfl)
        have hne2 : g ≠ gr := fun e => hne e.symm
        simp at c1 c2
        obtain ⟨s, hmin, hsg, hsf, hs0⟩ := min_of gk fr
        have hs1 := hs0 hpos hf
        have HM := Lib.hid hm
        have HX := Lib.hid hx
        unfold maxLen at hcm
        clear hm hx hcells hfree hs0
        go_wp2
        obtain ⟨q, hq⟩ : ∃ q, q = gk - s := ⟨_, rfl⟩
        obtain ⟨p, hp⟩ : ∃ p, p = fr - s := ⟨_, rfl⟩
        rw [show ((gk : Int) - (s : Int)) = (q : Int) by omega, show ((fr : Int) - (s : Int)) = (p : Int) by omega]
        have hq1 : q ≤ 64 := by omega
        have hp1 : p + s ≤ 8 := by omega
        have hs8 : s ≤ 8 := by omega
        have HQ := Lib.hid hq
        have HP := Lib.hid hp
        clear hq hp hmin
        go_quiet (fail)
        have hpw := piece_walk (n.toNat / 2 ^ q) s hs8
        rw [IntKind.wrap_u8, ← div_nat] at hpw
        rw [hpw]
        clear hpw
        obtain ⟨y, hy⟩ : ∃ y, y = piece (n.toNat / 2 ^ q) s := ⟨_, rfl⟩
        rw [← hy]
        have HY := Lib.hid hy
        clear hy
        have hcW := (hc.put 2 (.int .i64 (p : Int))).draws nq
        have d1 := hcW.cell 1
        have d2 := hcW.cell 2
        have d3 : ((wc.setCell ⟨g, 2, none⟩ (.int .i64 (p : Int))).drewN nq).cell? ⟨gr, m, none⟩ = some (B8 x) := (World.cell?_of_block (Below.heap_setCell wc ⟨g, 2, none⟩ _ gr hne)).trans c3
        have d4 : ((wc.setCell ⟨g, 2, none⟩ (.int .i64 (p : Int))).drewN nq).frozen? ⟨gr, m, none⟩ = false := (World.frozen?_of_block (Below.heap_setCell wc ⟨g, 2, none⟩ _ gr hne)).trans f3
        obtain ⟨W, hW⟩ : ∃ W, W = (wc.setCell ⟨g, 2, none⟩ (.int .i64 (p : Int))).drewN nq := ⟨_, rfl⟩
        rw [← hW] at d1 d2 d3 d4 ⊢
        simp at d1 d2
        have HW := Lib.hid hW
        have hm0 : 0 ≤ (m : Int) := Int.natCast_nonneg _
        clear hW hcW c1 c2 c3 f1 f2 f3
        go_wp2
        go_region
        go_wp2
        go_roundg q
        case measure => have := HQ.out; omega
        case rel =>
          have hq := HQ.out
          have hp := HP.out
          have hy := HY.out
          have hW := HW.out
          subst hW
          refine ⟨by omega, rfl, ?_⟩
          have hsh := u8_shl y p
          rw [IntKind.wrap_u8] at hsh
          rw [hsh, u8_or, hy, hq, hp]
          have hfin := put_close nq hc ho hr' hR HM.out HX.out hsf hf hs1 hsg hj hO
          obtain ⟨r2, h1, h2, h3⟩ := hfin
          exact ⟨r2, h1, h2, h3.drew⟩
end Go.Proofs.Ytmkmojhhfbokdaa

/-
  A region that draws its order, walked by hand: the condition on the worlds may be changed on the way. No dump is imported.
-/
namespace Go.Proofs.Ytmkmojhhfbokdaa
open Go.RowKit

section
variable {P : Program} {ops : Array Oper} {Q : Exit → Act → World → Prop} {md : Region.Mode} {S S' : World → Prop}
/-- a sharper condition from here on -/
theorem wpAnyH_switch (h : ∀ w, S' w → S w) : ∀ (fuel : Nat) (listed : Array Bool) (a : Act) (w : World), wpAnyH P md ops Q S' fuel listed a w → wpAnyH P md ops Q S fuel listed a w
  | 0, _, _, _, h0 => h0
  | fuel + 1, _, _, _, h0 => ⟨h0.1, fun i hi => wpOp_mono (fun _ _ h' => ⟨h _ h'.1, wpAnyH_switch h fuel _ _ _ h'.2⟩) (h0.2 i hi)⟩
theorem wpAnyH_sharpen {fuel : Nat} {listed : Array Bool} {a : Act} {w : World} (h : ∀ w, S' w → S w) (hS : S' w) (k : S' w → wpAnyH P md ops Q S' fuel listed a w) : wpAnyH P md ops Q S fuel listed a w :=
  wpAnyH_switch h _ _ _ _ (k hS)
/-- from here on the world stays as it is -/
theorem wpAnyH_pin {fuel : Nat} {listed : Array Bool} {a : Act} {w : World} (hS : S w) (h : w = w → wpAnyH P md ops Q (fun w' => w' = w) fuel listed a w) : wpAnyH P md ops Q S fuel listed a w :=
  wpAnyH_switch (fun _ e => e ▸ hS) _ _ _ _ (h rfl)
/-- number i is taken first; the operation is read off the list itself -/
theorem wpAnyH_here {l : List Oper} (i : Nat) {oi : Oper} {v : Value} {fuel : Nat} {listed : Array Bool} {a : Act} {w : World} (hi : l[i]? = some oi)
    (hs : Region.noSelect l.toArray = true) (hf : Region.free md l.toArray listed i = true) (hr : (Region.ready md l.toArray listed).contains i = true)
    (hQ : ∀ c a w, Q (.panic c) (a.put oi.dst v) w → Q (.panic c) a w) (hy : YieldsIf P l.toArray S oi v a) (hS : S w)
    (h : wpAnyH P md l.toArray Q S fuel (listed.setIfInBounds i true) (a.put oi.dst v) w) : wpAnyH P md l.toArray Q S (fuel + 1) listed a w :=
  wpAnyH_take (by simpa using hi) hs hf hr hQ hy hS h
/-- number i alone may come up -/
theorem wpAnyH_alone {l : List Oper} (i : Nat) {o : Oper} {fuel : Nat} {listed : Array Bool} {a : Act} {w : World} (hi : l[i]? = some o) (hr : Region.ready md l.toArray listed = [i])
    (h : ∀ K' : Act → World → Prop, Shut (∀ a w, S w → (S w → wpAnyH P md l.toArray Q S fuel (listed.setIfInBounds i true) a w) → K' a w) → if Region.wanted o (yielded l.toArray a.tmps) = true then Oper.wp P o a w K' Q else K' (a.put o.dst undef) w) :
    wpAnyH P md l.toArray Q S (fuel + 1) listed a w :=
  wpAnyH_ready hr (by simp) (AllReadyH.cons (by simpa using hi) h AllReadyH.nil)
/-- numbers i and j may come up: both ways -/
theorem wpAnyH_both {l : List Oper} (i j : Nat) {o o' : Oper} {fuel : Nat} {listed : Array Bool} {a : Act} {w : World} (hi : l[i]? = some o) (hj : l[j]? = some o') (hr : Region.ready md l.toArray listed = [i, j])
    (h : ∀ K' : Act → World → Prop, Shut (∀ a w, S w → (S w → wpAnyH P md l.toArray Q S fuel (listed.setIfInBounds i true) a w) → K' a w) → if Region.wanted o (yielded l.toArray a.tmps) = true then Oper.wp P o a w K' Q else K' (a.put o.dst undef) w)
    (h' : ∀ K' : Act → World → Prop, Shut (∀ a w, S w → (S w → wpAnyH P md l.toArray Q S fuel (listed.setIfInBounds j true) a w) → K' a w) → if Region.wanted o' (yielded l.toArray a.tmps) = true then Oper.wp P o' a w K' Q else K' (a.put o'.dst undef) w) :
    wpAnyH P md l.toArray Q S (fuel + 1) listed a w :=
  wpAnyH_ready hr (by simp) (AllReadyH.cons (by simpa using hi) h (AllReadyH.cons (by simpa using hj) h' AllReadyH.nil))
end
end Go.Proofs.Ytmkmojhhfbokdaa

/-
  The Writer of package bits as one state; the walk of package packet's Encode.
-/
namespace Go.Proofs.Ytmkmojhhfbokdaa.Pac
open Go.RowKit

/-- block g is a Writer with the bits L, made behind w0; the blocks below B are as w0 had them -/
def WS (B : Nat) (w0 : World) (g : Nat) (L : List Bool) (w : World) : Prop := (∃ r, WAt w B g r L) ∧ B ≤ g ∧ Below B w0 w
theorem WS.new {B : Nat} {w0 w : World} (h : Below B w0 w) (hB : B ≤ w.heap.size) : WS B w0 w.heap.size [] (w.alloc (.cells #[.bool true, .slice none 0 0, .int .i64 0] 72)) :=
  ⟨⟨none, WAt_new w B⟩, hB, h.alloc hB _⟩
theorem WS.draws {B : Nat} {w0 w : World} {g : Nat} {L : List Bool} (h : WS B w0 g L w) : WS B w0 g L w.drew := by
  obtain ⟨⟨r, h1⟩, h2, h3⟩ := h
  exact ⟨⟨r, h1⟩, h2, h3.drew⟩
theorem WS.put {B : Nat} {w0 w : World} {g : Nat} {L : List Bool} (h : WS B w0 g L w) (x : Int) (X : Nat) (hx : x = (X : Int)) (y : Int) (k : Nat) (hy : y = (k : Int)) (hX : X < 18446744073709551616) (hk : k ≤ 64) (hL : L.length < 1000000) :
    Calls Try.prog 34 #[.pointer (some ⟨g, 0, none⟩), .int .u64 x, .int .i64 y] w fun e w' => e = .returned (.pointer (some ⟨g, 0, none⟩)) ∧ WS B w0 g (L ++ bitsOf X k) w' := by
  obtain ⟨⟨r, h1⟩, h2, h3⟩ := h
  subst hx hy
  have hlt := h1.lt
  have e : (BitVec.ofNat 64 X).toNat = X := by rw [BitVec.toNat_ofNat, Nat.mod_eq_of_lt (by omega)]
  have hp := put_any w B g r L (BitVec.ofNat 64 X) k h1 hk hL (by omega)
  rw [e] at hp
  refine hp.mono ?_
  rintro e w' ⟨rfl, r', h4, _, h5⟩
  refine ⟨rfl, ⟨r', h4⟩, h2, h3.trans (h5.below (by omega) fun x hx => ?_)⟩
  rcases List.mem_cons.1 hx with rfl | hx
  · exact h2
  · exact (h1.row x (by simpa using hx)).1
theorem WS.bytes {B : Nat} {w0 w : World} {g : Nat} {L : List Bool} (h : WS B w0 g L w) (hL : L.length < 1000000) :
    Calls Try.prog 36 #[.pointer (some ⟨g, 0, none⟩)] w fun e w' => ∃ v bs, e = .returned v ∧ Packs bs L ∧ Ow w' w.heap.size 5 v bs ∧ Below w.heap.size w w' := by
  obtain ⟨⟨r, h1⟩, _⟩ := h
  exact wbytes_any w B g r L h1 hL
theorem WS.size {B : Nat} {w0 w : World} {g : Nat} {L : List Bool} (h : WS B w0 g L w) : B < w.heap.size := by
  obtain ⟨⟨r, h1⟩, h2, _⟩ := h
  have := h1.lt
  omega

theorem to_u64 (X : Nat) (h : X < 1000000) : IntKind.u64.wrap (X : Int) = (X : Int) := by rw [IntKind.wrap_u64]; omega

theorem Ow_nil (w : World) (base : Nat) : Ow w base 5 (.slice none 0 0) [] := World.ownsRow_nil _ _ _ _

end Go.Proofs.Ytmkmojhhfbokdaa.Pac

/-
  The walks of the small functions of package bits' Reader: works, Left, Failed, NewReader, Skip; a nil Reader and a zero value.
-/
namespace Go.Proofs.Ytmkmojhhfbokdaa
open Go.RowKit

/-- block g is a Reader of package bits over the bytes bs (in block r), p bits of which have been passed -/
def RAt (w : World) (base g : Nat) (r : Option Nat) (bs : List Byte) (p : Nat) (bad : Bool) : Prop :=
  ∃ v, Cel w g 76 #[.bool true, .bool bad, v, .int .i64 (p : Int)] ∧ Ow w base 5 v bs ∧ v.ownBlock = r ∧ p ≤ 8 * bs.length

section
variable {w w' : World} {base g : Nat} {r : Option Nat} {bs : List Byte} {p : Nat} {bad : Bool} {S : List Nat}
theorem RAt.lt (h : RAt w base g r bs p bad) : g < w.heap.size := by
  obtain ⟨v, hc, _⟩ := h
  exact hc.lt
theorem RAt.row (h : RAt w base g r bs p bad) : ∀ i, r = some i → base ≤ i ∧ i < w.heap.size ∧ i ≠ g := by
  obtain ⟨v, hc, ho, rfl, _⟩ := h
  intro i hi
  have := ho.lt i hi
  exact ⟨this.1, this.2, fun e => ho.apart hc (by decide) (by rw [hi, e])⟩
theorem RAt.only (h : RAt w base g r bs p bad) (k : Only S w w') (hg : g ∉ S) (hr : ∀ i, r = some i → i ∉ S) : RAt w' base g r bs p bad := by
  obtain ⟨v, hc, ho, rfl, rest⟩ := h
  exact ⟨v, hc.only k hg, ho.only k hr, rfl, rest⟩
theorem RAt.draws (h : RAt w base g r bs p bad) (n : Nat) : RAt (w.drewN n) base g r bs p bad := h
theorem RAt.moved (h : RAt w base g r bs p bad) (q : Nat) (hq : q ≤ 8 * bs.length) : RAt (w.setCell ⟨g, 3, none⟩ (.int .i64 (q : Int))) base g r bs q bad := by
  obtain ⟨v, hc, ho, hv, _⟩ := h
  have hne := ho.apart hc (by decide)
  refine ⟨v, ?_, ownsRow_setCell_other ho (a := ⟨g, 3, none⟩) hne _, hv, hq⟩
  have := hc.put 3 (.int .i64 (q : Int))
  unfold Cel
  simpa [Cel] using this
theorem RAt.failed (h : RAt w base g r bs p bad) : RAt (w.setCell ⟨g, 1, none⟩ (.bool true)) base g r bs p true := by
  obtain ⟨v, hc, ho, hv, hp⟩ := h
  have hne := ho.apart hc (by decide)
  refine ⟨v, ?_, ownsRow_setCell_other ho (a := ⟨g, 1, none⟩) hne _, hv, hp⟩
  have := hc.put 1 (.bool true)
  unfold Cel
  simpa [Cel] using this
end

/-- bits that a Reader has left -/
def leftR (bs : List Byte) (p : Nat) (bad : Bool) : Nat := if bad then 0 else 8 * bs.length - p

set_option maxHeartbeats 400000 in
theorem works_any (w : World) (base g : Nat) (r : Option Nat) (bs : List Byte) (p : Nat) (bad : Bool) (h : RAt w base g r bs p bad) :
    Calls Try.prog 47 #[.pointer (some ⟨g, 0, none⟩)] w fun e w' => e = .returned (.bool (!bad)) ∧ w = w' := by
  obtain ⟨v, hc, ho, _, _⟩ := h
  have c0 := hc.cell 0
  have c1 := hc.cell 1
  simp at c0 c1
  clear hc ho
  go_enter Try.func47, Try.ntmps47
  go_wp2
  go_ret
  exact ⟨rfl, rfl⟩

set_option maxHeartbeats 400000 in
theorem left_any (w : World) (base g : Nat) (r : Option Nat) (bs : List Byte) (p : Nat) (bad : Bool) (h : RAt w base g r bs p bad) (hL : bs.length < 1000000) :
    Calls Try.prog 48 #[.pointer (some ⟨g, 0, none⟩)] w fun e w' => e = .returned (.int .i64 (leftR bs p bad : Int)) ∧ ∃ n, w' = w.drewN n := by
  have hw := works_any w base g r bs p bad h
  cases bad with
  | true =>
    go_enter Try.func48, Try.ntmps48
    go_wp2_with (go_at_call 47; refine hw.mono ?_; rintro e w' ⟨rfl, rfl⟩)
    go_ret
    exact ⟨rfl, 0, rfl⟩
  | false =>
    obtain ⟨v, hc, ho, _, hp⟩ := h
    obtain ⟨A, c, rfl, _⟩ := ho.reads
    have c2 := hc.cell 2
    have c3 := hc.cell 3
    simp at c2 c3
    clear hc ho
    go_enter Try.func48, Try.ntmps48
    go_wp2_with (go_at_call 47; refine hw.mono ?_; rintro e w' ⟨rfl, rfl⟩)
    go_quiet (fail)
    go_wp2
    go_ret
    exact ⟨ret_int (by unfold leftR; simp; omega), nq, rfl⟩

set_option maxHeartbeats 400000 in
theorem newReader_any (a : Option Addr) (l : List Byte) (n c : Nat) (w : World) (hl : Hid (l.length = n)) (hb : Bs w w.heap.size a l) (hn : a = none → c = 0) (hm : n ≤ 140737488355328) :
    Calls Try.prog 40 #[.slice a n c] w fun e w' => ∃ g r, e = .returned (.pointer (some ⟨g, 0, none⟩)) ∧ RAt w' w.heap.size g r l 0 false ∧ w.heap.size ≤ g ∧ Below w.heap.size w w' := by
  go_enter Try.func40, Try.ntmps40
  go_wp2_with (go_at_call 29; refine (clone_any a l _ c _ hl hb hn hm).mono ?_; rintro e w1 ⟨v, rfl, hown, hbel⟩; obtain ⟨A, c2, rfl, _⟩ := hown.reads)
  go_ret
  exact ⟨w1.heap.size, _, rfl, ⟨_, Cel.new _ _ _, hown.alloc _, rfl, by omega⟩, hbel.size, hbel.alloc hbel.size _⟩

/-- what Skip makes of a Reader -/
def skipP (bs : List Byte) (p : Nat) (bad : Bool) (k : Int) : Nat := if bad ∨ k < 0 ∨ (leftR bs p bad : Int) < k then p else p + k.toNat
def skipB (bs : List Byte) (p : Nat) (bad : Bool) (k : Int) : Bool := decide (bad ∨ k < 0 ∨ (leftR bs p bad : Int) < k)

end Go.Proofs.Ytmkmojhhfbokdaa

/-
  The walk of Get of package bits' Reader.
-/
namespace Go.Proofs.Ytmkmojhhfbokdaa
open Go.RowKit

/-- may Get read k bits? -/
def getBad (bs : List Byte) (p : Nat) (bad : Bool) (k : Int) : Prop := bad = true ∨ k < 0 ∨ 64 < k ∨ (leftR bs p bad : Int) < k
instance (bs : List Byte) (p : Nat) (bad : Bool) (k : Int) : Decidable (getBad bs p bad k) := by unfold getBad; infer_instance
def getP (bs : List Byte) (p : Nat) (bad : Bool) (k : Int) : Nat := if getBad bs p bad k then p else p + k.toNat
def getB (bs : List Byte) (p : Nat) (bad : Bool) (k : Int) : Bool := decide (getBad bs p bad k)
def getV (bs : List Byte) (p : Nat) (bad : Bool) (k : Int) : Nat := if getBad bs p bad k then 0 else numAt bs p k.toNat

theorem min_of' (a d : Nat) (hd : d < 8) : ∃ s : Nat, (if 8 - (d : Int) < (a : Int) then 8 - (d : Int) else (a : Int)) = (s : Int) ∧ s ≤ a ∧ d + s ≤ 8 ∧ (0 < a → 0 < s) := by
  refine ⟨min a (8 - d), ?_, by omega, by omega, by omega⟩
  split <;> omega

theorem or_shift (a s b : Nat) (hb : b < 2 ^ s) (hab : a * 2 ^ s + b < 2 ^ 64) : bits .or .u64 (IntKind.u64.wrap ((a : Int) * 2 ^ s)) (b : Int) = ((a * 2 ^ s + b : Nat) : Int) := by
  have h1 : ((a : Int) * 2 ^ s) = ((a * 2 ^ s : Nat) : Int) := by rw [Int.natCast_mul, Int.natCast_pow]; rfl
  have h2 : IntKind.u64.wrap ((a * 2 ^ s : Nat) : Int) = ((a * 2 ^ s : Nat) : Int) := by
    simp [IntKind.wrap, IntKind.bits, IntKind.signed]
    rw [h1]
    omega
  rw [h1, h2, u64_or_nat _ _ (by omega) (by omega)]
  congr 1
  rw [Nat.mul_comm, ← Nat.two_pow_add_eq_or_of_lt hb]

theorem wrap_small (a : Nat) (h : a < 2 ^ 64) : IntKind.u64.wrap (a : Int) = (a : Int) := by
  simp [IntKind.wrap, IntKind.bits, IntKind.signed]
  omega
theorem get_num (bs : List Byte) (p j s d : Nat) (x : Byte) (hs : d + s ≤ 8) (hd : d = (p + j) % 8) (hx : bs[(p + j) / 8]? = some x) (hj : j + s ≤ 64) :
    bits .or .u64 (IntKind.u64.wrap ((numAt bs p j : Int) * 2 ^ s)) (IntKind.u64.wrap ((x.toNat : Int) * 2 ^ d % 256 / 2 ^ (8 - s))) = (numAt bs p (j + s) : Int) := by
  subst hd
  have h1 := numAt_piece bs (p + j) s x hs hx
  have h2 : (x.toNat : Int) * 2 ^ ((p + j) % 8) % 256 / 2 ^ (8 - s) = ((numAt bs (p + j) s : Nat) : Int) := by
    rw [← h1, Int.natCast_ediv, Int.natCast_emod, Int.natCast_mul, Int.natCast_pow, Int.natCast_pow]
    rfl
  have h3 := numAt_lt bs (p + j) s
  have h4 : 2 ^ s ≤ 2 ^ 64 := Nat.pow_le_pow_right (by decide) (by omega)
  have h5 := numAt_lt bs p (j + s)
  have h6 : 2 ^ (j + s) ≤ 2 ^ 64 := Nat.pow_le_pow_right (by decide) hj
  have h7 := numAt_add bs p j s
  rw [h2, wrap_small _ (by omega), or_shift _ _ _ h3 (by omega), h7]

set_option maxHeartbeats 1000000 in
theorem get_ok (w : World) (base g : Nat) (r : Option Nat) (bs : List Byte) (p k : Nat) (h : RAt w base g r bs p false) (hL : bs.length < 1000000) (hk : k ≤ 64) (hpk : p + k ≤ 8 * bs.length) :
    Calls Try.prog 41 #[.pointer (some ⟨g, 0, none⟩), .int .i64 (k : Int)] w fun e w' => e = .returned (.int .u64 (numAt bs p k : Int)) ∧ RAt w' base g r bs (p + k) false ∧ Only [g] w w' := by
  have hw := works_any w base g r bs p false h
  have hl := left_any w base g r bs p false h hL
  have hl2 : leftR bs p false = 8 * bs.length - p := rfl
  obtain ⟨q, hq⟩ : ∃ q, q = leftR bs p false := ⟨_, rfl⟩
  rw [← hq] at hl
  have hkq : k ≤ q := by omega
  clear hq hl2
  go_enter Try.func41, Try.ntmps41
  go_wp2_with (first
    | (go_at_call 47; refine hw.mono ?_; rintro e w' ⟨rfl, rfl⟩)
    | (go_at_call 44; refine (valid_yes _ _ (by omega) (by omega)).mono ?_; rintro e w' ⟨rfl, rfl⟩)
    | (go_at_call 48; refine hl.mono ?_; rintro e w' ⟨rfl, a, rfl⟩))
  clear hl hw
  go_loopg [1, 5] k (fun j i t wr => j ≤ k ∧ i = .int .i64 (j : Int) ∧ t = .int .u64 (numAt bs p (k - j) : Int) ∧ RAt wr base g r bs (p + (k - j)) false ∧ Only [g] w wr)
  case atStart => exact ⟨Nat.le_refl _, rfl, by rw [Nat.sub_self]; rfl, by rw [Nat.sub_self]; exact h.draws a, (Only.refl _ _).draws a⟩
  case round =>
    obtain ⟨hj, rfl, rfl, hR, hO⟩ := hrel
    by_cases hj0 : gk = 0
    · subst hj0
      go_wp2
      go_ret
      exact ⟨rfl, hR, hO⟩
    · obtain ⟨v, hc, ho, hv, hp2⟩ := hR
      obtain ⟨P, hP⟩ : ∃ P, P = p + (k - gk) := ⟨_, rfl⟩
      rw [← hP] at hc
      have hPl : P + gk ≤ 8 * bs.length := by omega
      obtain ⟨m, hm⟩ : ∃ m, bs.length = m + 1 := ⟨bs.length - 1, by omega⟩
      obtain ⟨gr, c, rfl, hgb, hgl, hmc, hcm, hcells, hfree⟩ := ho.form_len hm
      obtain ⟨E, hE⟩ : ∃ E, E = P / 8 := ⟨_, rfl⟩
      obtain ⟨d, hd⟩ : ∃ d, d = P % 8 := ⟨_, rfl⟩
      obtain ⟨x, hx⟩ : ∃ x, bs[E]? = some x := ⟨_, List.getElem?_eq_getElem (by omega)⟩
      have c2 := hc.cell 2
      have c3 := hc.cell 3
      have f3 := hc.free 3
      simp at c2 c3
      have c4 := hcells E x hx
      have hd8 : d < 8 := by omega
      have hEm : (E : Int) < (m : Int) + 1 := by omega
      have hE0 : (0 : Int) ≤ (E : Int) := Int.natCast_nonneg _
      have hPb : P < 8000000 := by omega
      have hdI : (P : Int) % 8 = (d : Int) := by omega
      have hEI : (P : Int) / 8 = (E : Int) := by omega
      obtain ⟨s, hmin, hsg, hsd, hs0⟩ := min_of' gk d hd8
      have hs1 := hs0 (by omega)
      obtain ⟨N, hN⟩ : ∃ N, N = numAt bs p (k - gk) := ⟨_, rfl⟩
      rw [← hN]
      have HB := Lib.hid (And.intro hP (And.intro hE (And.intro hd (And.intro hx (And.intro hm hN)))))
      clear hP hE hd hx hm hN hcells hfree hs0
      unfold maxLen at hcm
      go_wp2
      clear hmin
      go_quiet (fail)
      go_wp2
      go_roundg (gk - s)
      case measure => omega
      case rel =>
        obtain ⟨hP, hE, hd, hx, hm, hN⟩ := HB.out
        have e1 : k - (gk - s) = (k - gk) + s := by omega
        have e2 : ((gk : Int) - (s : Int)) = ((gk - s : Nat) : Int) := by omega
        have e3 : ((P : Int) + (s : Int)) = ((p + (k - gk + s) : Nat) : Int) := by omega
        rw [e1, e2, e3, hN, get_num bs p (k - gk) s d x hsd (by rw [← hP]; exact hd) (by rw [← hP, ← hE]; exact hx) (by omega)]
        have hRP : RAt wr base g r bs P false := ⟨_, hc, ho, hv, by omega⟩
        exact ⟨by omega, rfl, rfl, (hRP.draws nq).moved _ (by omega), (hO.draws nq).put (.inl (by simp)) _⟩

set_option maxHeartbeats 1000000 in
theorem get_any (w : World) (base g : Nat) (r : Option Nat) (bs : List Byte) (p : Nat) (bad : Bool) (k : Int) (h : RAt w base g r bs p bad) (hL : bs.length < 1000000) (hk : (Lit.int .i64 k).wf = true) :
    Calls Try.prog 41 #[.pointer (some ⟨g, 0, none⟩), .int .i64 k] w fun e w' => e = .returned (.int .u64 (getV bs p bad k : Int)) ∧ RAt w' base g r bs (getP bs p bad k) (getB bs p bad k) ∧ Only [g] w w' := by
  have hw := works_any w base g r bs p bad h
  have hl := left_any w base g r bs p bad h hL
  have hb := i64_bounds hk
  have hf1 : w.frozen? ⟨g, 1, none⟩ = false := by obtain ⟨v, hc, _⟩ := h; exact hc.free 1
  have hc1 : w.cell? ⟨g, 1, none⟩ = some (.bool bad) := by
    obtain ⟨v, hc, _⟩ := h
    have := hc.cell 1
    simpa using this
  by_cases hgood : getBad bs p bad k
  · have hs : getP bs p bad k = p ∧ getB bs p bad k = true ∧ getV bs p bad k = 0 := by simp [getP, getB, getV, hgood]
    rw [hs.1, hs.2.1, hs.2.2]
    clear hs
    cases bad with
    | true =>
      clear hgood
      go_enter Try.func41, Try.ntmps41
      go_wp2_with (go_at_call 47; refine hw.mono ?_; rintro e w' ⟨rfl, rfl⟩)
      go_ret
      exact ⟨rfl, h, Only.refl _ _⟩
    | false =>
      by_cases h0 : k < 0 ∨ 64 < k
      · clear hgood hl
        go_enter Try.func41, Try.ntmps41
        go_wp2_with (first
          | (go_at_call 47; refine hw.mono ?_; rintro e w' ⟨rfl, rfl⟩)
          | (go_at_call 44; refine (valid_no _ _ h0).mono ?_; rintro e w' ⟨rfl, rfl⟩))
        go_ret
        exact ⟨rfl, h.failed, (Only.refl _ _).put (.inl (by simp)) _⟩
      · obtain ⟨q, hq⟩ : ∃ q, q = leftR bs p false := ⟨_, rfl⟩
        have h1 : (q : Int) < k := by
          rw [hq]
          unfold getBad at hgood
          simp at hgood
          omega
        rw [← hq] at hl
        have h2 : 0 ≤ k := by omega
        have h3 : k ≤ 64 := by omega
        clear hgood hq h0
        go_enter Try.func41, Try.ntmps41
        go_wp2_with (first
          | (go_at_call 47; refine hw.mono ?_; rintro e w' ⟨rfl, rfl⟩)
          | (go_at_call 44; refine (valid_yes _ _ h2 h3).mono ?_; rintro e w' ⟨rfl, rfl⟩)
          | (go_at_call 48; refine hl.mono ?_; rintro e w' ⟨rfl, a, rfl⟩))
        go_ret
        exact ⟨rfl, (h.draws a).failed, ((Only.refl _ _).draws a).put (.inl (by simp)) _⟩
  · have hs : getP bs p bad k = p + k.toNat ∧ getB bs p bad k = false ∧ getV bs p bad k = numAt bs p k.toNat := by simp [getP, getB, getV, hgood]
    rw [hs.1, hs.2.1, hs.2.2]
    unfold getBad at hgood
    have hbad : bad = false := by cases bad <;> simp at hgood ⊢
    subst hbad
    have hl2 : leftR bs p false = 8 * bs.length - p := rfl
    have hp : p ≤ 8 * bs.length := by obtain ⟨v, _, _, _, hp⟩ := h; exact hp
    rw [hl2] at hgood
    simp at hgood
    obtain ⟨K, rfl⟩ := Int.eq_ofNat_of_zero_le hgood.1
    rw [Int.toNat_natCast]
    exact get_ok w base g r bs p K h hL (by omega) (by omega)
end Go.Proofs.Ytmkmojhhfbokdaa

/-
  The Reader of package bits beside a packet's block as one state; the walks of package packet's readHeader and Size.
-/
namespace Go.Proofs.Ytmkmojhhfbokdaa.Pac
open Go.RowKit

/-- a packet's cells -/
def pcs (com sec : Bool) (ap fl ct : Int) (v : Value) : Array Value := #[.bool com, .bool sec, .int .i64 ap, .int .i64 fl, .int .i64 ct, v]

/-- a whole packet stored over another -/
def putAll (w : World) (g : Nat) (com sec : Bool) (ap fl ct : Int) (v : Value) : World :=
  (((((w.setCell ⟨g, 0, none⟩ (.bool com)).setCell ⟨g, 1, none⟩ (.bool sec)).setCell ⟨g, 2, none⟩ (.int .i64 ap)).setCell ⟨g, 3, none⟩ (.int .i64 fl)).setCell ⟨g, 4, none⟩ (.int .i64 ct)).setCell ⟨g, 5, none⟩ v
theorem putAll_cel {w : World} {g : Nat} {t : TypeId} {x0 x1 x2 x3 x4 x5 : Value} (h : Cel w g t #[x0, x1, x2, x3, x4, x5]) (com sec : Bool) (ap fl ct : Int) (v : Value) :
    Cel (putAll w g com sec ap fl ct v) g t #[.bool com, .bool sec, .int .i64 ap, .int .i64 fl, .int .i64 ct, v] :=
  (((((h.put 0 (.bool com)).put 1 (.bool sec)).put 2 (.int .i64 ap)).put 3 (.int .i64 fl)).put 4 (.int .i64 ct)).put 5 v
theorem putAll_only (w : World) (g : Nat) (com sec : Bool) (ap fl ct : Int) (v : Value) : Only [g] w (putAll w g com sec ap fl ct v) := by
  unfold putAll
  exact ((((((Only.refl [g] w).put (p := ⟨g, 0, none⟩) (.inl (by simp)) _).put (p := ⟨g, 1, none⟩) (.inl (by simp)) _).put (p := ⟨g, 2, none⟩) (.inl (by simp)) _).put (p := ⟨g, 3, none⟩) (.inl (by simp)) _).put (p := ⟨g, 4, none⟩) (.inl (by simp)) _).put (p := ⟨g, 5, none⟩) (.inl (by simp)) _

theorem from_u64 (X : Nat) (h : X < 1000000) : IntKind.i64.wrap (X : Int) = (X : Int) := by
  simp [IntKind.wrap, IntKind.bits, IntKind.signed]
  omega
theorem wrap_tot (X : Nat) (h : X < 1000000) : IntKind.i64.wrap (IntKind.i64.wrap (6 + (X : Int)) + 1) = ((7 + X : Nat) : Int) := by
  simp [IntKind.wrap, IntKind.bits, IntKind.signed]
  omega

end Go.Proofs.Ytmkmojhhfbokdaa.Pac

/-
  The walk of package packet's Decode.
-/
namespace Go.Proofs.Ytmkmojhhfbokdaa.Pac
open Go.RowKit

theorem Bs_sub {w : World} {B : Nat} {a : Option Addr} {l : List Byte} (h : Bs w B a l) {b off : Nat} (ha : a = some ⟨b, off, none⟩) (k m : Nat) : Bs w B (some ⟨b, off + k, none⟩) ((l.drop k).take m) := fun hl => by
  have hk : k < l.length := by simp at hl; omega
  obtain ⟨b', off', ha', hb, hc⟩ := h (by omega)
  rw [ha] at ha'
  injection ha' with ha'
  injection ha' with e1 e2
  subst e1 e2
  refine ⟨b, off + k, rfl, hb, fun i x hx => ?_⟩
  rw [List.getElem?_take] at hx
  split at hx
  · rw [List.getElem?_drop] at hx
    rw [Nat.add_assoc]
    exact hc _ _ hx
  · cases hx

theorem putAll_below {w W : World} {g : Nat} (h : Below w.heap.size w W) (hg : w.heap.size ≤ g) (com sec : Bool) (ap fl ct : Int) (v : Value) : Below w.heap.size w (putAll W g com sec ap fl ct v) :=
  h.trans ((putAll_only _ _ _ _ _ _ _ _).below h.size (by simpa using hg))

end Go.Proofs.Ytmkmojhhfbokdaa.Pac

/-
  One word for 'this slice value reads as these bytes', with its length, its nil rule and its bounds; a Reader of package bits beside a struct's block, as one state; a struct of six cells stored whole.
-/
namespace Go.Proofs.Ytmkmojhhfbokdaa
open Go.RowKit

/-- A leads to the bytes l, n of them, in w -/
structure Rd (w : World) (A : Option Addr) (l : List Byte) (n c : Nat) : Prop where
  len : l.length = n
  bs : Bs w w.heap.size A l
  nil : A = none → c = 0
  le : n ≤ c
  max : c ≤ maxLen
theorem Rd.later {w w' : World} {A : Option Addr} {l : List Byte} {n c : Nat} (h : Rd w A l n c) (hb : Below w.heap.size w w') : Rd w' A l n c := ⟨h.len, (h.bs.below hb).more hb.size, h.nil, h.le, h.max⟩
theorem Rd.of {w : World} {base n : Nat} {v : Value} {l : List Byte} (h : Ow w base 5 v l) (hl : l.length = n) : ∃ A c, v = .slice A n c ∧ Rd w A l n c := by
  obtain ⟨A, c, h1, h2, h3, h4, h5⟩ := h.reads_len hl
  exact ⟨A, c, h1, hl, h2, h3, h4, h5⟩
theorem Rd.only {w w' : World} {b off : Nat} {l : List Byte} {n c : Nat} {S : List Nat} (h : Rd w (some ⟨b, off, none⟩) l n c) (k : Only S w w') (hb : b ∉ S) : Rd w' (some ⟨b, off, none⟩) l n c := by
  refine ⟨h.len, fun hl => ?_, h.nil, h.le, h.max⟩
  obtain ⟨b', o', e, hlt, hc⟩ := h.bs hl
  injection e with e
  injection e with e1 e2
  subst e1 e2
  refine ⟨b, off, rfl, Nat.lt_of_lt_of_le hlt k.size, fun i x hx => ?_⟩
  have h1 := hc i x hx
  have h2 := k.block b hlt hb
  unfold World.cell? at h1 ⊢
  simp only at h1 ⊢
  rw [h2]
  exact h1
theorem Rd.conv {w w' : World} {A : Option Addr} {l : List Byte} {n c : Nat} (h : Rd w A l n c) (hb : Below w.heap.size w w') : (convert 22 9 (.slice A n c)).run Try.prog w' = .ok (.string (str l)) w' := by
  have hl := h.len
  subst hl
  exact run_str w' is_bytes Try.underlying9 (h.bs.below hb) h.nil
/-- the cells of what a slice leads to, in every later world -/
theorem Rd.at_ {w : World} {A : Option Addr} {l : List Byte} {n c : Nat} (h : Rd w A l n c) (hl : 0 < n) : ∃ b off, A = some ⟨b, off, none⟩ ∧ b < w.heap.size ∧ ∀ i x, l[i]? = some x → w.cell? ⟨b, off + i, none⟩ = some (B8 x) := h.bs (by rw [h.len]; exact hl)

/-- a row that the call lays is an own slice -/
theorem Ow_new (w : World) (base : Nat) (e : TypeId) (l : List Byte) (n : Nat) (C : Array Value) (hn : l.length = n) (hC : C = (l.map B8).toArray) (h : base ≤ w.heap.size) (hm : n ≤ maxLen) (g : Nat) (hg : w.heap.size = g) : Ow (w.alloc (.cells C e)) base e (.slice (some ⟨g, 0, none⟩) n n) l := by
  subst hn hg
  exact ⟨by simp, .inr ⟨w.heap.size, l.length, C, rfl, h, heap_alloc_new w _, Nat.le_refl _, hm, by rw [hC]; simp, by rw [hC]; simp [← List.map_take]⟩⟩

/-- a Reader at block g over the bytes bs, p bits passed; the struct of type T that the call fills lies in the first block behind w0's; w0's blocks are as they were -/
structure RS (T : TypeId) (w0 : World) (bs : List Byte) (p : Nat) (cs : Array Value) (g : Nat) (w : World) : Prop where
  rd : ∃ r, RAt w (w0.heap.size + 1) g r bs p false
  hg : w0.heap.size + 1 ≤ g
  cel : Cel w w0.heap.size T cs
  bel : Below w0.heap.size w0 w
theorem RS.get {T : TypeId} {w0 w : World} {bs : List Byte} {p g : Nat} {cs : Array Value} (h : RS T w0 bs p cs g w) (y : Int) (k N : Nat) (hy : y = (k : Int)) (hN : numAt bs p k = N) (hL : bs.length < 1000000) (hk : k ≤ 64) (hp : p + k ≤ 8 * bs.length) :
    Calls Try.prog 41 #[.pointer (some ⟨g, 0, none⟩), .int .i64 y] w fun e w' => e = .returned (.int .u64 (N : Int)) ∧ RS T w0 bs (p + k) cs g w' := by
  obtain ⟨⟨r, h1⟩, h2, h3, h4⟩ := h
  subst hy hN
  refine (get_ok w _ g r bs p k h1 hL hk hp).mono ?_
  rintro e w' ⟨rfl, h5, h6⟩
  have hlt := h1.lt
  exact ⟨rfl, ⟨r, h5⟩, h2, h3.only h6 (by simp; omega), h4.trans (h6.below (by omega) (by simp; omega))⟩
theorem RS.put {T : TypeId} {w0 w : World} {bs : List Byte} {p g : Nat} {cs : Array Value} (h : RS T w0 bs p cs g w) (i : Nat) (v : Value) : RS T w0 bs p (cs.setIfInBounds i v) g (w.setCell ⟨w0.heap.size, i, none⟩ v) := by
  obtain ⟨⟨r, h1⟩, h2, h3, h4⟩ := h
  have hO : Only [w0.heap.size] w (w.setCell ⟨w0.heap.size, i, none⟩ v) := (Only.refl _ _).put (.inl (by simp)) _
  exact ⟨⟨r, h1.only hO (by simp; omega) (fun j hj => by have := (h1.row j hj).1; simp; omega)⟩, h2, h3.put i v, h4.trans (hO.below h4.size (by simp))⟩

/-- a struct of six cells stored whole over another -/
def put6 (w : World) (g : Nat) (v0 v1 v2 v3 v4 v5 : Value) : World :=
  (((((w.setCell ⟨g, 0, none⟩ v0).setCell ⟨g, 1, none⟩ v1).setCell ⟨g, 2, none⟩ v2).setCell ⟨g, 3, none⟩ v3).setCell ⟨g, 4, none⟩ v4).setCell ⟨g, 5, none⟩ v5
theorem put6_cel {w : World} {g : Nat} {t : TypeId} {x0 x1 x2 x3 x4 x5 : Value} (h : Cel w g t #[x0, x1, x2, x3, x4, x5]) (v0 v1 v2 v3 v4 v5 : Value) : Cel (put6 w g v0 v1 v2 v3 v4 v5) g t #[v0, v1, v2, v3, v4, v5] :=
  (((((h.put 0 v0).put 1 v1).put 2 v2).put 3 v3).put 4 v4).put 5 v5
theorem put6_only (w : World) (g : Nat) (v0 v1 v2 v3 v4 v5 : Value) : Only [g] w (put6 w g v0 v1 v2 v3 v4 v5) := by
  unfold put6
  exact ((((((Only.refl [g] w).put (p := ⟨g, 0, none⟩) (.inl (by simp)) _).put (p := ⟨g, 1, none⟩) (.inl (by simp)) _).put (p := ⟨g, 2, none⟩) (.inl (by simp)) _).put (p := ⟨g, 3, none⟩) (.inl (by simp)) _).put (p := ⟨g, 4, none⟩) (.inl (by simp)) _).put (p := ⟨g, 5, none⟩) (.inl (by simp)) _
theorem put6_below {w W : World} {g : Nat} (h : Below w.heap.size w W) (hg : w.heap.size ≤ g) (v0 v1 v2 v3 v4 v5 : Value) : Below w.heap.size w (put6 W g v0 v1 v2 v3 v4 v5) :=
  h.trans ((put6_only _ _ _ _ _ _ _ _).below h.size (by simpa using hg))
end Go.Proofs.Ytmkmojhhfbokdaa

/-
  The walks of package clcw's bit and Valid, of the reference's flag and Valid.
-/
namespace Go.Proofs.Ytmkmojhhfbokdaa.Clc
open Go.RowKit Go.Proofs.Ytmkmojhhfbokdaa.Pac

theorem ok_bad {ch bp nx : Int} {lk wt rt : Bool} (h : ch < 0 ∨ 7 < ch ∨ bp < 0 ∨ 3 < bp ∨ nx < 0 ∨ 255 < nx) : Cw.ok ⟨ch, lk, wt, rt, bp, nx⟩ = false :=
  Cw.ok_no (fun ⟨h1, h2, h3, h4, h5, h6⟩ => by simp only at h1 h2 h3 h4 h5 h6; omega)

set_option maxHeartbeats 400000 in
theorem cbit_any (b : Bool) (w : World) :
    Calls Try.prog 35 #[.bool b] w fun e w' => e = .returned (.int .u64 ((nb b : Nat) : Int)) ∧ w = w' := by
  cases b
  · go_enter Try.func35, Try.ntmps35
    go_wp2
    go_ret
    exact ⟨rfl, rfl⟩
  · go_enter Try.func35, Try.ntmps35
    go_wp2
    go_ret
    exact ⟨rfl, rfl⟩

def flg (b : Bool) (n : Int) : Int := if b then n else 0
set_option maxHeartbeats 400000 in
theorem zflag_any (b : Bool) (n : Int) (w : World) :
    Calls Try.prog 38 #[.bool b, .int .i64 n] w fun e w' => e = .returned (.int .i64 (flg b n)) ∧ w = w' := by
  cases b
  · go_enter Try.func38, Try.ntmps38
    go_wp2
    go_ret
    exact ⟨rfl, rfl⟩
  · go_enter Try.func38, Try.ntmps38
    go_wp2
    go_ret
    exact ⟨rfl, rfl⟩

set_option maxHeartbeats 2000000 in
theorem cvalid_any (ch : Int) (lk wt rt : Bool) (bp nx : Int) (w : World) :
    Calls Try.prog 24 #[.agg #[.int .i64 ch, .bool lk, .bool wt, .bool rt, .int .i64 bp, .int .i64 nx]] w fun e w' => e = .returned (.bool (Cw.ok ⟨ch, lk, wt, rt, bp, nx⟩)) ∧ Below w.heap.size w w' := by
  by_cases h1 : ch < 0
  · rw [ok_bad (by omega)]
    go_enter Try.func24, Try.ntmps24
    go_wp2
    go_ret
    exact ⟨rfl, bel_new _ _⟩
  have p1 : 0 ≤ ch := by omega
  clear h1
  by_cases h2 : 7 < ch
  · rw [ok_bad (by omega)]
    go_enter Try.func24, Try.ntmps24
    go_wp2
    go_ret
    exact ⟨rfl, bel_new _ _⟩
  have p2 : ch ≤ 7 := by omega
  clear h2
  by_cases h3 : bp < 0
  · rw [ok_bad (by omega)]
    go_enter Try.func24, Try.ntmps24
    go_wp2
    go_ret
    exact ⟨rfl, bel_new _ _⟩
  have p3 : 0 ≤ bp := by omega
  clear h3
  by_cases h4 : 3 < bp
  · rw [ok_bad (by omega)]
    go_enter Try.func24, Try.ntmps24
    go_wp2
    go_ret
    exact ⟨rfl, bel_new _ _⟩
  have p4 : bp ≤ 3 := by omega
  clear h4
  by_cases h5 : nx < 0
  · rw [ok_bad (by omega)]
    go_enter Try.func24, Try.ntmps24
    go_wp2
    go_ret
    exact ⟨rfl, bel_new _ _⟩
  have p5 : 0 ≤ nx := by omega
  clear h5
  by_cases h6 : 255 < nx
  · rw [ok_bad (by omega)]
    go_enter Try.func24, Try.ntmps24
    go_wp2
    go_ret
    first
    | exact ⟨rfl, bel_new _ _⟩
    | exact ⟨ret_bool (decide_eq_false (by omega)), bel_new _ _⟩
  have p6 : nx ≤ 255 := by omega
  clear h6
  rw [Cw.ok_yes ⟨p1, p2, p3, p4, p5, p6⟩]
  go_enter Try.func24, Try.ntmps24
  go_wp2
  go_ret
  exact ⟨rfl, bel_new _ _⟩

set_option maxHeartbeats 2000000 in
theorem zvalid_any (ch : Int) (lk wt rt : Bool) (bp nx : Int) (w : World) :
    Calls Try.prog 25 #[.agg #[.int .i64 ch, .bool lk, .bool wt, .bool rt, .int .i64 bp, .int .i64 nx]] w fun e w' => e = .returned (.bool (Cw.ok ⟨ch, lk, wt, rt, bp, nx⟩)) ∧ Below w.heap.size w w' := by
  by_cases h1 : ch < 0
  · rw [ok_bad (by omega)]
    go_enter Try.func25, Try.ntmps25
    go_wp2
    go_ret
    exact ⟨rfl, bel_new _ _⟩
  have p1 : 0 ≤ ch := by omega
  clear h1
  by_cases h2 : 7 < ch
  · rw [ok_bad (by omega)]
    go_enter Try.func25, Try.ntmps25
    go_wp2
    go_ret
    exact ⟨rfl, bel_new _ _⟩
  have p2 : ch ≤ 7 := by omega
  clear h2
  by_cases h3 : bp < 0
  · rw [ok_bad (by omega)]
    go_enter Try.func25, Try.ntmps25
    go_wp2
    go_ret
    exact ⟨rfl, bel_new _ _⟩
  have p3 : 0 ≤ bp := by omega
  clear h3
  by_cases h4 : 3 < bp
  · rw [ok_bad (by omega)]
    go_enter Try.func25, Try.ntmps25
    go_wp2
    go_ret
    exact ⟨rfl, bel_new _ _⟩
  have p4 : bp ≤ 3 := by omega
  clear h4
  by_cases h5 : nx < 0
  · rw [ok_bad (by omega)]
    go_enter Try.func25, Try.ntmps25
    go_wp2
    go_ret
    exact ⟨rfl, bel_new _ _⟩
  have p5 : 0 ≤ nx := by omega
  clear h5
  by_cases h6 : 255 < nx
  · rw [ok_bad (by omega)]
    go_enter Try.func25, Try.ntmps25
    go_wp2
    go_ret
    first
    | exact ⟨rfl, bel_new _ _⟩
    | exact ⟨ret_bool (decide_eq_false (by omega)), bel_new _ _⟩
  have p6 : nx ≤ 255 := by omega
  clear h6
  rw [Cw.ok_yes ⟨p1, p2, p3, p4, p5, p6⟩]
  go_enter Try.func25, Try.ntmps25
  go_wp2
  go_ret
  exact ⟨rfl, bel_new _ _⟩
end Go.Proofs.Ytmkmojhhfbokdaa.Clc

/-
  The walks of package tmframe's upTo and Valid, and of the reference's Valid.
-/
namespace Go.Proofs.Ytmkmojhhfbokdaa.Tmf
open Go.RowKit Go.Proofs.Ytmkmojhhfbokdaa.Pac
open Clc (Cw)

theorem ok_bad {cr ch ma ct fi : Int} {l : List Byte} {k : Cw} (h : (cr < 0 ∨ 1023 < cr ∨ ch < 0 ∨ 7 < ch) ∨ (ma < 0 ∨ 255 < ma ∨ ct < 0 ∨ 255 < ct ∨ fi < 0 ∨ 2047 < fi) ∨ (l.length = 0 ∨ 1012 < l.length)) : Fr.ok ⟨cr, ch, ma, ct, fi, l, k⟩ = false :=
  Fr.ok_no (fun ⟨⟨h1, h2, h3, h4⟩, ⟨h5, h6, h7, h8, h9, h10⟩, ⟨h11, h12⟩, _⟩ => by simp only at h1 h2 h3 h4 h5 h6 h7 h8 h9 h10 h11 h12; omega)
theorem ok_cw {cr ch ma ct fi : Int} {l : List Byte} {k : Cw} (h : (0 ≤ cr ∧ cr ≤ 1023 ∧ 0 ≤ ch ∧ ch ≤ 7) ∧ (0 ≤ ma ∧ ma ≤ 255 ∧ 0 ≤ ct ∧ ct ≤ 255 ∧ 0 ≤ fi ∧ fi ≤ 2047) ∧ (1 ≤ l.length ∧ l.length ≤ 1012)) : Fr.ok ⟨cr, ch, ma, ct, fi, l, k⟩ = k.ok := by
  cases hk : k.ok with
  | true => exact Fr.ok_yes ⟨h.1, h.2.1, h.2.2, Cw.ok_fits hk⟩
  | false => exact Fr.ok_no (fun hf => by have e := Cw.ok_yes hf.2.2.2; simp only at e; rw [hk] at e; cases e)

set_option maxHeartbeats 400000 in
theorem upTo_yes (n g : Int) (w : World) (h0 : 0 ≤ n) (h1 : n ≤ g) :
    Calls Try.prog 23 #[.int .i64 n, .int .i64 g] w fun e w' => e = .returned (.bool true) ∧ w = w' := by
  go_enter Try.func23, Try.ntmps23
  go_wp2
  go_ret
  exact ⟨rfl, rfl⟩
set_option maxHeartbeats 400000 in
theorem upTo_no (n g : Int) (w : World) (h : n < 0 ∨ g < n) :
    Calls Try.prog 23 #[.int .i64 n, .int .i64 g] w fun e w' => e = .returned (.bool false) ∧ w = w' := by
  by_cases h0 : n < 0
  · clear h
    go_enter Try.func23, Try.ntmps23
    go_wp2
    go_ret
    exact ⟨rfl, rfl⟩
  · have h1 : g < n := by omega
    have h2 : 0 ≤ n := by omega
    clear h h0
    go_enter Try.func23, Try.ntmps23
    go_wp2
    go_ret
    exact ⟨ret_bool (decide_eq_false (by omega)), rfl⟩

set_option maxHeartbeats 2000000 in
theorem mvalid_any (cr ch ma ct fi : Int) (a : Option Addr) (l : List Byte) (n c : Nat) (wc : Int) (lk wt rt : Bool) (wb wn : Int) (w : World) (hl : Hid (l.length = n)) (hm : n ≤ maxLen) :
    Calls Try.prog 11 #[.agg #[.int .i64 cr, .int .i64 ch, .int .i64 ma, .int .i64 ct, .int .i64 fi, .slice a n c, .int .i64 wc, .bool lk, .bool wt, .bool rt, .int .i64 wb, .int .i64 wn]] w fun e w' => e = .returned (.bool (Fr.ok ⟨cr, ch, ma, ct, fi, l, ⟨wc, lk, wt, rt, wb, wn⟩⟩)) ∧ Below w.heap.size w w' := by
  have hln := hl.out
  have hm' : n ≤ 9223372036854775807 := by unfold maxLen at hm; omega
  by_cases h1 : cr < 0 ∨ 1023 < cr
  · rw [ok_bad (by omega)]
    have u1 := fun W => upTo_no cr 1023 W h1
    clear hl hm hln h1 
    go_enter Try.func11, Try.ntmps11
    go_wp2_with fail
    refine (u1 _).mono ?_
    rintro e w1 ⟨rfl, rfl⟩
    go_wp2
    go_ret
    exact ⟨rfl, bel_new _ _⟩
  have p1 : 0 ≤ cr := by omega
  have q1 : cr ≤ 1023 := by omega
  have u1 := fun W => upTo_yes cr 1023 W p1 q1
  clear h1
  by_cases h2 : ch < 0 ∨ 7 < ch
  · rw [ok_bad (by omega)]
    have u2 := fun W => upTo_no ch 7 W h2
    clear hl hm hln h2 p1 q1
    go_enter Try.func11, Try.ntmps11
    go_wp2_with fail
    refine (u1 _).mono ?_
    rintro e w1 ⟨rfl, rfl⟩
    go_wp2_with fail
    refine (u2 _).mono ?_
    rintro e w2 ⟨rfl, rfl⟩
    go_wp2
    go_ret
    exact ⟨rfl, bel_new _ _⟩
  have p2 : 0 ≤ ch := by omega
  have q2 : ch ≤ 7 := by omega
  have u2 := fun W => upTo_yes ch 7 W p2 q2
  clear h2
  by_cases h3 : ma < 0 ∨ 255 < ma
  · rw [ok_bad (by omega)]
    have u3 := fun W => upTo_no ma 255 W h3
    clear hl hm hln h3 p1 q1 p2 q2
    go_enter Try.func11, Try.ntmps11
    go_wp2_with fail
    refine (u1 _).mono ?_
    rintro e w1 ⟨rfl, rfl⟩
    go_wp2_with fail
    refine (u2 _).mono ?_
    rintro e w2 ⟨rfl, rfl⟩
    go_wp2_with fail
    refine (u3 _).mono ?_
    rintro e w3 ⟨rfl, rfl⟩
    go_wp2
    go_ret
    exact ⟨rfl, bel_new _ _⟩
  have p3 : 0 ≤ ma := by omega
  have q3 : ma ≤ 255 := by omega
  have u3 := fun W => upTo_yes ma 255 W p3 q3
  clear h3
  by_cases h4 : ct < 0 ∨ 255 < ct
  · rw [ok_bad (by omega)]
    have u4 := fun W => upTo_no ct 255 W h4
    clear hl hm hln h4 p1 q1 p2 q2 p3 q3
    go_enter Try.func11, Try.ntmps11
    go_wp2_with fail
    refine (u1 _).mono ?_
    rintro e w1 ⟨rfl, rfl⟩
    go_wp2_with fail
    refine (u2 _).mono ?_
    rintro e w2 ⟨rfl, rfl⟩
    go_wp2_with fail
    refine (u3 _).mono ?_
    rintro e w3 ⟨rfl, rfl⟩
    go_wp2_with fail
    refine (u4 _).mono ?_
    rintro e w4 ⟨rfl, rfl⟩
    go_wp2
    go_ret
    exact ⟨rfl, bel_new _ _⟩
  have p4 : 0 ≤ ct := by omega
  have q4 : ct ≤ 255 := by omega
  have u4 := fun W => upTo_yes ct 255 W p4 q4
  clear h4
  by_cases h5 : fi < 0 ∨ 2047 < fi
  · rw [ok_bad (by omega)]
    have u5 := fun W => upTo_no fi 2047 W h5
    clear hl hm hln h5 p1 q1 p2 q2 p3 q3 p4 q4
    go_enter Try.func11, Try.ntmps11
    go_wp2_with fail
    refine (u1 _).mono ?_
    rintro e w1 ⟨rfl, rfl⟩
    go_wp2_with fail
    refine (u2 _).mono ?_
    rintro e w2 ⟨rfl, rfl⟩
    go_wp2_with fail
    refine (u3 _).mono ?_
    rintro e w3 ⟨rfl, rfl⟩
    go_wp2_with fail
    refine (u4 _).mono ?_
    rintro e w4 ⟨rfl, rfl⟩
    go_wp2_with fail
    refine (u5 _).mono ?_
    rintro e w5 ⟨rfl, rfl⟩
    go_wp2
    go_ret
    exact ⟨rfl, bel_new _ _⟩
  have p5 : 0 ≤ fi := by omega
  have q5 : fi ≤ 2047 := by omega
  have u5 := fun W => upTo_yes fi 2047 W p5 q5
  clear h5
  by_cases h7 : n = 0
  · rw [ok_bad (by omega)]
    clear hl hm hln p1 q1 p2 q2 p3 q3 p4 q4 p5 q5
    subst h7
    go_enter Try.func11, Try.ntmps11
    go_wp2_with fail
    refine (u1 _).mono ?_
    rintro e w1 ⟨rfl, rfl⟩
    go_wp2_with fail
    refine (u2 _).mono ?_
    rintro e w2 ⟨rfl, rfl⟩
    go_wp2_with fail
    refine (u3 _).mono ?_
    rintro e w3 ⟨rfl, rfl⟩
    go_wp2_with fail
    refine (u4 _).mono ?_
    rintro e w4 ⟨rfl, rfl⟩
    go_wp2_with fail
    refine (u5 _).mono ?_
    rintro e w5 ⟨rfl, rfl⟩
    go_wp2
    go_ret
    exact ⟨rfl, bel_new _ _⟩
  have p7 : 1 ≤ n := by omega
  clear h7
  have g3 : decide ((1 : Int) ≤ (n : Int)) = true := by simp; omega
  have g4 : decide (1 ≤ n) = true := by simp; omega
  by_cases h8 : 1012 < n
  · rw [ok_bad (by omega)]
    clear hl hm hln p1 q1 p2 q2 p3 q3 p4 q4 p5 q5
    have g1 : decide ((n : Int) ≤ 1012) = false := by simp; omega
    have g2 : decide (n ≤ 1012) = false := by simp; omega
    go_enter Try.func11, Try.ntmps11
    go_wp2_with fail
    refine (u1 _).mono ?_
    rintro e w1 ⟨rfl, rfl⟩
    go_wp2_with fail
    refine (u2 _).mono ?_
    rintro e w2 ⟨rfl, rfl⟩
    go_wp2_with fail
    refine (u3 _).mono ?_
    rintro e w3 ⟨rfl, rfl⟩
    go_wp2_with fail
    refine (u4 _).mono ?_
    rintro e w4 ⟨rfl, rfl⟩
    go_wp2_with fail
    refine (u5 _).mono ?_
    rintro e w5 ⟨rfl, rfl⟩
    go_wp2
    go_ret
    exact ⟨rfl, bel_new _ _⟩
  have g1 : decide ((n : Int) ≤ 1012) = true := by simp; omega
  have g2 : decide (n ≤ 1012) = true := by simp; omega
  rw [ok_cw ⟨⟨p1, q1, p2, q2⟩, ⟨p3, q3, p4, q4, p5, q5⟩, ⟨by omega, by omega⟩⟩]
  have hv := fun W => Clc.cvalid_any wc lk wt rt wb wn W
  obtain ⟨ok, hok⟩ : ∃ ok, ok = Cw.ok ⟨wc, lk, wt, rt, wb, wn⟩ := ⟨_, rfl⟩
  rw [← hok] at hv ⊢
  clear hl hm hln h8 hok p1 q1 p2 q2 p3 q3 p4 q4 p5 q5
  go_enter Try.func11, Try.ntmps11
  go_wp2_with fail
  refine (u1 _).mono ?_
  rintro e w1 ⟨rfl, rfl⟩
  go_wp2_with fail
  refine (u2 _).mono ?_
  rintro e w2 ⟨rfl, rfl⟩
  go_wp2_with fail
  refine (u3 _).mono ?_
  rintro e w3 ⟨rfl, rfl⟩
  go_wp2_with fail
  refine (u4 _).mono ?_
  rintro e w4 ⟨rfl, rfl⟩
  go_wp2_with fail
  refine (u5 _).mono ?_
  rintro e w5 ⟨rfl, rfl⟩
  go_wp2_with fail
  refine (hv _).mono ?_
  rintro e w6 ⟨rfl, hb⟩
  go_wp2
  go_ret
  exact ⟨rfl, (bel_new _ _).trans (hb.mono (bel_new _ _).size)⟩

set_option maxHeartbeats 2000000 in
theorem rvalid_any (cr ch ma ct fi : Int) (a : Option Addr) (l : List Byte) (n c : Nat) (wc : Int) (lk wt rt : Bool) (wb wn : Int) (w : World) (hl : Hid (l.length = n)) (hm : n ≤ maxLen) :
    Calls Try.prog 12 #[.agg #[.int .i64 cr, .int .i64 ch, .int .i64 ma, .int .i64 ct, .int .i64 fi, .slice a n c, .int .i64 wc, .bool lk, .bool wt, .bool rt, .int .i64 wb, .int .i64 wn]] w fun e w' => e = .returned (.bool (Fr.ok ⟨cr, ch, ma, ct, fi, l, ⟨wc, lk, wt, rt, wb, wn⟩⟩)) ∧ Below w.heap.size w w' := by
  have hln := hl.out
  have hm' : n ≤ 9223372036854775807 := by unfold maxLen at hm; omega
  by_cases h1 : cr < 0
  · rw [ok_bad (by omega)]
    clear hl hm hln
    go_enter Try.func12, Try.ntmps12
    go_wp2
    go_ret
    exact ⟨rfl, bel_new _ _⟩
  have p1 : 0 ≤ cr := by omega
  clear h1
  by_cases h2 : 1023 < cr
  · rw [ok_bad (by omega)]
    clear hl hm hln
    go_enter Try.func12, Try.ntmps12
    go_wp2
    go_ret
    exact ⟨rfl, bel_new _ _⟩
  have p2 : cr ≤ 1023 := by omega
  clear h2
  by_cases h3 : ch < 0
  · rw [ok_bad (by omega)]
    clear hl hm hln
    go_enter Try.func12, Try.ntmps12
    go_wp2
    go_ret
    exact ⟨rfl, bel_new _ _⟩
  have p3 : 0 ≤ ch := by omega
  clear h3
  by_cases h4 : 7 < ch
  · rw [ok_bad (by omega)]
    clear hl hm hln
    go_enter Try.func12, Try.ntmps12
    go_wp2
    go_ret
    exact ⟨rfl, bel_new _ _⟩
  have p4 : ch ≤ 7 := by omega
  clear h4
  by_cases h5 : ma < 0
  · rw [ok_bad (by omega)]
    clear hl hm hln
    go_enter Try.func12, Try.ntmps12
    go_wp2
    go_ret
    exact ⟨rfl, bel_new _ _⟩
  have p5 : 0 ≤ ma := by omega
  clear h5
  by_cases h6 : 255 < ma
  · rw [ok_bad (by omega)]
    clear hl hm hln
    go_enter Try.func12, Try.ntmps12
    go_wp2
    go_ret
    exact ⟨rfl, bel_new _ _⟩
  have p6 : ma ≤ 255 := by omega
  clear h6
  by_cases h7 : ct < 0
  · rw [ok_bad (by omega)]
    clear hl hm hln
    go_enter Try.func12, Try.ntmps12
    go_wp2
    go_ret
    exact ⟨rfl, bel_new _ _⟩
  have p7 : 0 ≤ ct := by omega
  clear h7
  by_cases h8 : 255 < ct
  · rw [ok_bad (by omega)]
    clear hl hm hln
    go_enter Try.func12, Try.ntmps12
    go_wp2
    go_ret
    exact ⟨rfl, bel_new _ _⟩
  have p8 : ct ≤ 255 := by omega
  clear h8
  by_cases h9 : fi < 0
  · rw [ok_bad (by omega)]
    clear hl hm hln
    go_enter Try.func12, Try.ntmps12
    go_wp2
    go_ret
    exact ⟨rfl, bel_new _ _⟩
  have p9 : 0 ≤ fi := by omega
  clear h9
  by_cases h10 : 2047 < fi
  · rw [ok_bad (by omega)]
    clear hl hm hln
    go_enter Try.func12, Try.ntmps12
    go_wp2
    go_ret
    exact ⟨rfl, bel_new _ _⟩
  have p10 : fi ≤ 2047 := by omega
  clear h10
  by_cases h11 : n = 0
  · rw [ok_bad (by omega)]
    clear hl hm hln
    subst h11
    go_enter Try.func12, Try.ntmps12
    go_wp2
    go_ret
    exact ⟨rfl, bel_new _ _⟩
  have p11 : 1 ≤ n := by omega
  clear h11
  have g3 : decide ((1 : Int) ≤ (n : Int)) = true := by simp; omega
  have g4 : decide (1 ≤ n) = true := by simp; omega
  by_cases h12 : 1012 < n
  · rw [ok_bad (by omega)]
    clear hl hm hln
    have g1 : decide ((n : Int) ≤ 1012) = false := by simp; omega
    have g2 : decide (n ≤ 1012) = false := by simp; omega
    go_enter Try.func12, Try.ntmps12
    go_wp2
    go_ret
    exact ⟨rfl, bel_new _ _⟩
  have g1 : decide ((n : Int) ≤ 1012) = true := by simp; omega
  have g2 : decide (n ≤ 1012) = true := by simp; omega
  rw [ok_cw ⟨⟨p1, p2, p3, p4⟩, ⟨p5, p6, p7, p8, p9, p10⟩, ⟨by omega, by omega⟩⟩]
  have hv := fun W => Clc.zvalid_any wc lk wt rt wb wn W
  obtain ⟨ok, hok⟩ : ∃ ok, ok = Cw.ok ⟨wc, lk, wt, rt, wb, wn⟩ := ⟨_, rfl⟩
  rw [← hok] at hv ⊢
  clear hl hm hln h12 hok
  go_enter Try.func12, Try.ntmps12
  go_wp2_with fail
  refine (hv _).mono ?_
  rintro e w6 ⟨rfl, hb⟩
  go_wp2
  go_ret
  exact ⟨rfl, (bel_new _ _).trans (hb.mono (bel_new _ _).size)⟩
end Go.Proofs.Ytmkmojhhfbokdaa.Tmf

/-
  The walk of package clcw's Encode.
-/
namespace Go.Proofs.Ytmkmojhhfbokdaa.Clc
open Go.RowKit Go.Proofs.Ytmkmojhhfbokdaa.Pac

set_option maxHeartbeats 1000000 in
theorem cencode_no (ch : Int) (lk wt rt : Bool) (bp nx : Int) (w : World) (hok : Cw.ok ⟨ch, lk, wt, rt, bp, nx⟩ = false) :
    Calls Try.prog 16 #[.agg #[.int .i64 ch, .bool lk, .bool wt, .bool rt, .int .i64 bp, .int .i64 nx]] w fun e w' => e = .returned (.tuple #[.slice none 0 0, .int .i64 1]) ∧ Below w.heap.size w w' := by
  have hv := fun W => cvalid_any ch lk wt rt bp nx W
  rw [hok] at hv
  clear hok
  go_enter Try.func16, Try.ntmps16
  go_wp2_with fail
  refine (hv _).mono ?_
  rintro e w' ⟨rfl, hbe⟩
  go_wp2
  go_ret2
  exact ⟨rfl, (bel_new _ _).trans (hbe.mono (bel_new _ _).size)⟩

set_option maxHeartbeats 2000000 in
theorem cencode_yes (C B Q : Nat) (lk wt rt : Bool) (w : World) (hok : Cw.ok ⟨C, lk, wt, rt, B, Q⟩ = true) (hC : C < 8) (hB : B < 4) (hQ : Q < 256) :
    Calls Try.prog 16 #[.agg #[.int .i64 (C : Int), .bool lk, .bool wt, .bool rt, .int .i64 (B : Int), .int .i64 (Q : Int)]] w fun e w' => ∃ v, e = .returned (.tuple #[v, .int .i64 0]) ∧ Ow w' w.heap.size 5 v (wd4 C (fl3 lk wt rt B) Q) ∧ Below w.heap.size w w' := by
  have hv := fun W => cvalid_any (C : Int) lk wt rt (B : Int) (Q : Int) W
  rw [hok] at hv
  have hP0 := Cel.new w 24 #[.int .i64 (C : Int), .bool lk, .bool wt, .bool rt, .int .i64 (B : Int), .int .i64 (Q : Int)]
  have k1 := to_u64 C (by omega)
  have k2 := to_u64 B (by omega)
  have k3 := to_u64 Q (by omega)
  have n1 := nb_lt lk
  have n2 := nb_lt wt
  have n3 := nb_lt rt
  obtain ⟨E, hE⟩ : ∃ E, E = wd4 C (fl3 lk wt rt B) Q := ⟨_, rfl⟩
  rw [← hE]
  have HE := Lib.hid hE
  clear hok hE
  go_enter Try.func16, Try.ntmps16
  go_wp2_with fail
  refine (hv _).mono ?_
  rintro e w1 ⟨rfl, hbe⟩
  have hP := Cel.later hP0 hbe
  have bel1 := (bel_new w (.cells #[.int .i64 (C : Int), .bool lk, .bool wt, .bool rt, .int .i64 (B : Int), .int .i64 (Q : Int)] 24)).trans (hbe.mono (bel_new w _).size)
  have hlt := hP.lt
  have c0 := hP.cell 0
  have c1 := hP.cell 1
  have c2 := hP.cell 2
  have c3 := hP.cell 3
  have c4 := hP.cell 4
  have c5 := hP.cell 5
  simp at c0 c1 c2 c3 c4 c5
  clear hv hP0 hP hbe
  go_wp2_with fail
  refine (newWriter_any _).mono ?_
  rintro e W0 ⟨rfl, hW0⟩
  have s0 : WS w1.heap.size w1 w1.heap.size [] W0 := by rw [← hW0]; exact WS.new (Below.refl _ _) (Nat.le_refl _)
  clear hW0
  go_wp2_with fail
  refine (s0.put (0) (0) rfl 1 1 rfl (by omega) (by omega) (by simp)).mono ?_
  rintro e W1 ⟨rfl, s1⟩
  clear s0
  go_wp2_with fail
  refine (s1.put (0) (0) rfl 2 2 rfl (by omega) (by omega) (by simp [bitsOf_len])).mono ?_
  rintro e W2 ⟨rfl, s2⟩
  clear s1
  go_wp2_with fail
  refine (s2.put (0) (0) rfl 3 3 rfl (by omega) (by omega) (by simp [bitsOf_len])).mono ?_
  rintro e W3 ⟨rfl, s3⟩
  clear s2
  go_wp2_with fail
  refine (s3.put (1) (1) rfl 2 2 rfl (by omega) (by omega) (by simp [bitsOf_len])).mono ?_
  rintro e W4 ⟨rfl, s4⟩
  clear s3
  have HB := s4.2.2
  have d0 := (HB.cell (p := ⟨w.heap.size, 0, none⟩) hlt).trans c0
  go_wp2_with fail
  refine (s4.put (C : Int) C rfl 6 6 rfl (by omega) (by omega) (by simp [bitsOf_len])).mono ?_
  rintro e W5 ⟨rfl, s5⟩
  clear d0 HB s4
  go_wp2_with fail
  refine (s5.put (0) (0) rfl 4 4 rfl (by omega) (by omega) (by simp [bitsOf_len])).mono ?_
  rintro e W6 ⟨rfl, s6⟩
  clear s5
  have HB := s6.2.2
  have d1 := (HB.cell (p := ⟨w.heap.size, 1, none⟩) hlt).trans c1
  have d2 := (HB.cell (p := ⟨w.heap.size, 2, none⟩) hlt).trans c2
  have d3 := (HB.cell (p := ⟨w.heap.size, 3, none⟩) hlt).trans c3
  have d4 := (HB.cell (p := ⟨w.heap.size, 4, none⟩) hlt).trans c4
  go_wp2_with fail
  refine wp_region_held_drew (S := (fun w' => w'.cell? ⟨w.heap.size, 1, none⟩ = some (.bool lk) ∧ w'.cell? ⟨w.heap.size, 2, none⟩ = some (.bool wt) ∧ w'.cell? ⟨w.heap.size, 3, none⟩ = some (.bool rt) ∧ w'.cell? ⟨w.heap.size, 4, none⟩ = some (.int .i64 (B : Int)))) (by kernel_rfl) (⟨d1, d2, d3, d4⟩) (fun hHeld => ?_)
  refine wpAnyH_here 0 (v := ?_) rfl (by kernel_rfl) (by kernel_rfl) (by kernel_rfl) (fun _ _ _ h => h) (Or.inl ⟨by rfl, ?_⟩) hHeld ?_
  rotate_left
  · intro w hSw; (try dsimp only at hSw); go_simp; all_goals (with_reducible rfl)
  try simp only [Act.put, List.setIfInBounds_toArray, List.set_cons_zero, List.set_cons_succ]
  refine wpAnyH_here 1 (v := ?_) rfl (by kernel_rfl) (by kernel_rfl) (by kernel_rfl) (fun _ _ _ h => h) (Or.inl ⟨by rfl, ?_⟩) hHeld ?_
  rotate_left
  · intro w hSw; (try dsimp only at hSw); go_simp; all_goals (with_reducible rfl)
  try simp only [Act.put, List.setIfInBounds_toArray, List.set_cons_zero, List.set_cons_succ]
  refine wpAnyH_here 2 (v := ?_) rfl (by kernel_rfl) (by kernel_rfl) (by kernel_rfl) (fun _ _ _ h => h) (Or.inl ⟨by rfl, ?_⟩) hHeld ?_
  rotate_left
  · intro w hSw; (try dsimp only at hSw); go_simp; all_goals (with_reducible rfl)
  try simp only [Act.put, List.setIfInBounds_toArray, List.set_cons_zero, List.set_cons_succ]
  refine wpAnyH_here 5 (v := ?_) rfl (by kernel_rfl) (by kernel_rfl) (by kernel_rfl) (fun _ _ _ h => h) (Or.inl ⟨by rfl, ?_⟩) hHeld ?_
  rotate_left
  · intro w hSw; (try dsimp only at hSw); go_simp; all_goals (with_reducible rfl)
  try simp only [Act.put, List.setIfInBounds_toArray, List.set_cons_zero, List.set_cons_succ]
  refine wpAnyH_here 6 (v := ?_) rfl (by kernel_rfl) (by kernel_rfl) (by kernel_rfl) (fun _ _ _ h => h) (Or.inl ⟨by rfl, ?_⟩) hHeld ?_
  rotate_left
  · intro w hSw; (try dsimp only at hSw); go_simp; all_goals (with_reducible rfl)
  try simp only [Act.put, List.setIfInBounds_toArray, List.set_cons_zero, List.set_cons_succ]
  refine wpAnyH_here 9 (v := ?_) rfl (by kernel_rfl) (by kernel_rfl) (by kernel_rfl) (fun _ _ _ h => h) (Or.inl ⟨by rfl, ?_⟩) hHeld ?_
  rotate_left
  · intro w hSw; (try dsimp only at hSw); go_simp; all_goals (with_reducible rfl)
  try simp only [Act.put, List.setIfInBounds_toArray, List.set_cons_zero, List.set_cons_succ]
  refine wpAnyH_here 10 (v := ?_) rfl (by kernel_rfl) (by kernel_rfl) (by kernel_rfl) (fun _ _ _ h => h) (Or.inl ⟨by rfl, ?_⟩) hHeld ?_
  rotate_left
  · intro w hSw; (try dsimp only at hSw); go_simp; all_goals (with_reducible rfl)
  try simp only [Act.put, List.setIfInBounds_toArray, List.set_cons_zero, List.set_cons_succ]
  refine wpAnyH_here 13 (v := ?_) rfl (by kernel_rfl) (by kernel_rfl) (by kernel_rfl) (fun _ _ _ h => h) (Or.inl ⟨by rfl, ?_⟩) hHeld ?_
  rotate_left
  · intro w hSw; (try dsimp only at hSw); go_simp; all_goals (with_reducible rfl)
  try simp only [Act.put, List.setIfInBounds_toArray, List.set_cons_zero, List.set_cons_succ]
  refine wpAnyH_here 14 (v := ?_) rfl (by kernel_rfl) (by kernel_rfl) (by kernel_rfl) (fun _ _ _ h => h) (Or.inl ⟨by rfl, ?_⟩) hHeld ?_
  rotate_left
  · intro w hSw; (try dsimp only at hSw); go_simp; all_goals (with_reducible rfl)
  try simp only [Act.put, List.setIfInBounds_toArray, List.set_cons_zero, List.set_cons_succ]
  refine wpAnyH_here 15 (v := ?_) rfl (by kernel_rfl) (by kernel_rfl) (by kernel_rfl) (fun _ _ _ h => h) (Or.inl ⟨by rfl, ?_⟩) hHeld ?_
  rotate_left
  · intro w hSw; (try dsimp only at hSw); go_simp; all_goals (with_reducible rfl)
  try simp only [Act.put, List.setIfInBounds_toArray, List.set_cons_zero, List.set_cons_succ]
  refine wpAnyH_alone 3 rfl (by kernel_rfl) (fun K hK => ?_)
  go_simp
  (go_at_call 35; refine (cbit_any _ _).mono ?_; rintro e V3 ⟨rfl, rfl⟩)
  refine hK.out _ _ (⟨(HB.cell (p := ⟨w.heap.size, 1, none⟩) hlt).trans c1, (HB.cell (p := ⟨w.heap.size, 2, none⟩) hlt).trans c2, (HB.cell (p := ⟨w.heap.size, 3, none⟩) hlt).trans c3, (HB.cell (p := ⟨w.heap.size, 4, none⟩) hlt).trans c4⟩) (fun hHeld => ?_)
  clear hK K
  try simp only [Act.put, List.setIfInBounds_toArray, List.set_cons_zero, List.set_cons_succ]
  refine wpAnyH_alone 4 rfl (by kernel_rfl) (fun K hK => ?_)
  go_simp
  (go_at_call 34; refine (s6.draws.put ((nb lk : Nat)) (nb lk) rfl 1 1 rfl (by omega) (by omega) (by simp [bitsOf_len])).mono ?_; rintro e W7 ⟨rfl, s7⟩; have HB := s7.2.2)
  refine hK.out _ _ (⟨(HB.cell (p := ⟨w.heap.size, 1, none⟩) hlt).trans c1, (HB.cell (p := ⟨w.heap.size, 2, none⟩) hlt).trans c2, (HB.cell (p := ⟨w.heap.size, 3, none⟩) hlt).trans c3, (HB.cell (p := ⟨w.heap.size, 4, none⟩) hlt).trans c4⟩) (fun hHeld => ?_)
  clear hK K
  try simp only [Act.put, List.setIfInBounds_toArray, List.set_cons_zero, List.set_cons_succ]
  refine wpAnyH_alone 7 rfl (by kernel_rfl) (fun K hK => ?_)
  go_simp
  (go_at_call 35; refine (cbit_any _ _).mono ?_; rintro e V7 ⟨rfl, rfl⟩)
  refine hK.out _ _ (⟨(HB.cell (p := ⟨w.heap.size, 1, none⟩) hlt).trans c1, (HB.cell (p := ⟨w.heap.size, 2, none⟩) hlt).trans c2, (HB.cell (p := ⟨w.heap.size, 3, none⟩) hlt).trans c3, (HB.cell (p := ⟨w.heap.size, 4, none⟩) hlt).trans c4⟩) (fun hHeld => ?_)
  clear hK K
  try simp only [Act.put, List.setIfInBounds_toArray, List.set_cons_zero, List.set_cons_succ]
  refine wpAnyH_alone 8 rfl (by kernel_rfl) (fun K hK => ?_)
  go_simp
  (go_at_call 34; refine (s7.put ((nb wt : Nat)) (nb wt) rfl 1 1 rfl (by omega) (by omega) (by simp [bitsOf_len])).mono ?_; rintro e W8 ⟨rfl, s8⟩; have HB := s8.2.2)
  refine hK.out _ _ (⟨(HB.cell (p := ⟨w.heap.size, 1, none⟩) hlt).trans c1, (HB.cell (p := ⟨w.heap.size, 2, none⟩) hlt).trans c2, (HB.cell (p := ⟨w.heap.size, 3, none⟩) hlt).trans c3, (HB.cell (p := ⟨w.heap.size, 4, none⟩) hlt).trans c4⟩) (fun hHeld => ?_)
  clear hK K
  try simp only [Act.put, List.setIfInBounds_toArray, List.set_cons_zero, List.set_cons_succ]
  refine wpAnyH_alone 11 rfl (by kernel_rfl) (fun K hK => ?_)
  go_simp
  (go_at_call 35; refine (cbit_any _ _).mono ?_; rintro e V11 ⟨rfl, rfl⟩)
  refine hK.out _ _ (⟨(HB.cell (p := ⟨w.heap.size, 1, none⟩) hlt).trans c1, (HB.cell (p := ⟨w.heap.size, 2, none⟩) hlt).trans c2, (HB.cell (p := ⟨w.heap.size, 3, none⟩) hlt).trans c3, (HB.cell (p := ⟨w.heap.size, 4, none⟩) hlt).trans c4⟩) (fun hHeld => ?_)
  clear hK K
  try simp only [Act.put, List.setIfInBounds_toArray, List.set_cons_zero, List.set_cons_succ]
  refine wpAnyH_alone 12 rfl (by kernel_rfl) (fun K hK => ?_)
  go_simp
  (go_at_call 34; refine (s8.put ((nb rt : Nat)) (nb rt) rfl 1 1 rfl (by omega) (by omega) (by simp [bitsOf_len])).mono ?_; rintro e W9 ⟨rfl, s9⟩; have HB := s9.2.2)
  refine hK.out _ _ (⟨(HB.cell (p := ⟨w.heap.size, 1, none⟩) hlt).trans c1, (HB.cell (p := ⟨w.heap.size, 2, none⟩) hlt).trans c2, (HB.cell (p := ⟨w.heap.size, 3, none⟩) hlt).trans c3, (HB.cell (p := ⟨w.heap.size, 4, none⟩) hlt).trans c4⟩) (fun hHeld => ?_)
  clear hK K
  try simp only [Act.put, List.setIfInBounds_toArray, List.set_cons_zero, List.set_cons_succ]
  refine wpAnyH_alone 16 rfl (by kernel_rfl) (fun K hK => ?_)
  go_simp
  (go_at_call 34; refine (s9.put (B : Int) B rfl 2 2 rfl (by omega) (by omega) (by simp [bitsOf_len])).mono ?_; rintro e W10 ⟨rfl, s10⟩; have HB := s10.2.2)
  refine hK.out _ _ (⟨(HB.cell (p := ⟨w.heap.size, 1, none⟩) hlt).trans c1, (HB.cell (p := ⟨w.heap.size, 2, none⟩) hlt).trans c2, (HB.cell (p := ⟨w.heap.size, 3, none⟩) hlt).trans c3, (HB.cell (p := ⟨w.heap.size, 4, none⟩) hlt).trans c4⟩) (fun hHeld => ?_)
  clear hK K
  try simp only [Act.put, List.setIfInBounds_toArray, List.set_cons_zero, List.set_cons_succ]
  refine wpAnyH_done (by kernel_rfl) ?_ _
  clear d1 d2 d3 d4 c1 c2 c3 c4
  have d5 := (HB.cell (p := ⟨w.heap.size, 5, none⟩) hlt).trans c5
  go_wp2_with fail
  refine wp_region_held_drew (S := (fun w' => w'.cell? ⟨w.heap.size, 5, none⟩ = some (.int .i64 (Q : Int)))) (by kernel_rfl) (d5) (fun hHeld => ?_)
  refine wpAnyH_here 0 (v := ?_) rfl (by kernel_rfl) (by kernel_rfl) (by kernel_rfl) (fun _ _ _ h => h) (Or.inl ⟨by rfl, ?_⟩) hHeld ?_
  rotate_left
  · intro w hSw; (try dsimp only at hSw); go_simp; all_goals (with_reducible rfl)
  try simp only [Act.put, List.setIfInBounds_toArray, List.set_cons_zero, List.set_cons_succ]
  refine wpAnyH_here 2 (v := ?_) rfl (by kernel_rfl) (by kernel_rfl) (by kernel_rfl) (fun _ _ _ h => h) (Or.inl ⟨by rfl, ?_⟩) hHeld ?_
  rotate_left
  · intro w hSw; (try dsimp only at hSw); go_simp; all_goals (with_reducible rfl)
  try simp only [Act.put, List.setIfInBounds_toArray, List.set_cons_zero, List.set_cons_succ]
  refine wpAnyH_here 3 (v := ?_) rfl (by kernel_rfl) (by kernel_rfl) (by kernel_rfl) (fun _ _ _ h => h) (Or.inl ⟨by rfl, ?_⟩) hHeld ?_
  rotate_left
  · intro w hSw; (try dsimp only at hSw); go_simp; all_goals (with_reducible rfl)
  try simp only [Act.put, List.setIfInBounds_toArray, List.set_cons_zero, List.set_cons_succ]
  refine wpAnyH_here 4 (v := ?_) rfl (by kernel_rfl) (by kernel_rfl) (by kernel_rfl) (fun _ _ _ h => h) (Or.inl ⟨by rfl, ?_⟩) hHeld ?_
  rotate_left
  · intro w hSw; (try dsimp only at hSw); go_simp; all_goals (with_reducible rfl)
  try simp only [Act.put, List.setIfInBounds_toArray, List.set_cons_zero, List.set_cons_succ]
  refine wpAnyH_alone 1 rfl (by kernel_rfl) (fun K hK => ?_)
  go_simp
  (go_at_call 34; refine (s10.draws.put (0) (0) rfl 1 1 rfl (by omega) (by omega) (by simp [bitsOf_len])).mono ?_; rintro e W11 ⟨rfl, s11⟩; have HB := s11.2.2)
  refine hK.out _ _ ((HB.cell (p := ⟨w.heap.size, 5, none⟩) hlt).trans c5) (fun hHeld => ?_)
  clear hK K
  try simp only [Act.put, List.setIfInBounds_toArray, List.set_cons_zero, List.set_cons_succ]
  refine wpAnyH_alone 5 rfl (by kernel_rfl) (fun K hK => ?_)
  go_simp
  (go_at_call 34; refine (s11.put (Q : Int) Q rfl 8 8 rfl (by omega) (by omega) (by simp [bitsOf_len])).mono ?_; rintro e W12 ⟨rfl, s12⟩; have HB := s12.2.2)
  refine hK.out _ _ ((HB.cell (p := ⟨w.heap.size, 5, none⟩) hlt).trans c5) (fun hHeld => ?_)
  clear hK K
  try simp only [Act.put, List.setIfInBounds_toArray, List.set_cons_zero, List.set_cons_succ]
  refine wpAnyH_alone 6 rfl (by kernel_rfl) (fun K hK => ?_)
  go_simp
  (go_at_call 36; refine (s12.bytes (by simp [bitsOf_len])).mono ?_; rintro e W13 ⟨v, bs, rfl, hpk, hown, hb13⟩; have HB := HB.trans (hb13.mono (Nat.le_of_lt s12.size)))
  refine hK.out _ _ ((HB.cell (p := ⟨w.heap.size, 5, none⟩) hlt).trans c5) (fun hHeld => ?_)
  clear hK K
  try simp only [Act.put, List.setIfInBounds_toArray, List.set_cons_zero, List.set_cons_succ]
  refine wpAnyH_here 7 (v := ?_) rfl (by kernel_rfl) (by kernel_rfl) (by kernel_rfl) (fun _ _ _ h => h) (Or.inl ⟨by rfl, ?_⟩) hHeld ?_
  rotate_left
  · intro w hSw; (try dsimp only at hSw); go_simp; all_goals (with_reducible rfl)
  try simp only [Act.put, List.setIfInBounds_toArray, List.set_cons_zero, List.set_cons_succ]
  refine wpAnyH_here 8 (v := ?_) rfl (by kernel_rfl) (by kernel_rfl) (by kernel_rfl) (fun _ _ _ h => h) (Or.inl ⟨by rfl, ?_⟩) hHeld ?_
  rotate_left
  · intro w hSw; (try dsimp only at hSw); go_simp; all_goals (with_reducible rfl)
  try simp only [Act.put, List.setIfInBounds_toArray, List.set_cons_zero, List.set_cons_succ]
  refine wpAnyH_done (by kernel_rfl) ?_ _
  go_wp2
  go_ret2
  have hbs := word_of C B Q lk wt rt hC hB hpk
  rw [← HE.out] at hbs
  subst hbs
  have hz := s12.size
  exact ⟨v, rfl, hown.more (by omega), bel1.trans (HB.mono (by omega))⟩

theorem cencode_any (ch : Int) (lk wt rt : Bool) (bp nx : Int) (w : World) :
    Calls Try.prog 16 #[.agg #[.int .i64 ch, .bool lk, .bool wt, .bool rt, .int .i64 bp, .int .i64 nx]] w fun e w' => ∃ v, e = .returned (.tuple #[v, .int .i64 (Cw.err ⟨ch, lk, wt, rt, bp, nx⟩)]) ∧ Ow w' w.heap.size 5 v (Cw.enc ⟨ch, lk, wt, rt, bp, nx⟩) ∧ Below w.heap.size w w' := by
  cases hok : Cw.ok ⟨ch, lk, wt, rt, bp, nx⟩ with
  | false =>
    rw [Cw.enc_no hok, Cw.err_no hok]
    exact (cencode_no ch lk wt rt bp nx w hok).mono fun e w' ⟨h1, h2⟩ => ⟨_, h1, Ow_nil _ _, h2⟩
  | true =>
    rw [Cw.enc_yes hok, Cw.err_yes hok]
    obtain ⟨h1, h2, h3, h4, h5, h6⟩ := Cw.ok_fits hok
    simp only at h1 h2 h3 h4 h5 h6
    obtain ⟨C, rfl⟩ := Int.eq_ofNat_of_zero_le h1
    obtain ⟨B, rfl⟩ := Int.eq_ofNat_of_zero_le h3
    obtain ⟨Q, rfl⟩ := Int.eq_ofNat_of_zero_le h5
    exact cencode_yes C B Q lk wt rt w hok (by omega) (by omega) (by omega)
end Go.Proofs.Ytmkmojhhfbokdaa.Clc

/-
  The walks of the program's own checksums: a step, a byte string.
-/
namespace Go.Proofs.Ytmkmojhhfbokdaa
open Go.RowKit


theorem sh16_hi (r : BitVec 16) (h : r.getLsbD 15 = true) : (bits .and .u16 (r.toNat : Int) 32768 != 0) = true ∧ bits .xor .u16 (IntKind.u16.wrap ((r.toNat : Int) * 2)) 4129 = ((sh16 r).toNat : Int) := by
  have e1 := b16_and r 0x8000#16
  have e2 := b16_xor (r <<< 1) 0x1021#16
  rw [and_top, h] at e1
  constructor
  · rw [show (32768 : Int) = ((0x8000#16).toNat : Int) from rfl, e1]; rfl
  · rw [b16_shl1, show (4129 : Int) = ((0x1021#16).toNat : Int) from rfl, e2, sh16, if_pos h]
theorem sh16_lo (r : BitVec 16) (h : r.getLsbD 15 = false) : (bits .and .u16 (r.toNat : Int) 32768 != 0) = false ∧ IntKind.u16.wrap ((r.toNat : Int) * 2) = ((sh16 r).toNat : Int) := by
  have e1 := b16_and r 0x8000#16
  rw [and_top, h] at e1
  constructor
  · rw [show (32768 : Int) = ((0x8000#16).toNat : Int) from rfl, e1]; rfl
  · rw [b16_shl1, sh16, if_neg (by rw [h]; decide)]

set_option maxHeartbeats 400000 in
theorem shift16_any (r : BitVec 16) (w : World) :
    Calls Try.prog 49 #[.int .u16 (r.toNat : Int)] w fun e w' => e = .returned (.int .u16 ((sh16 r).toNat : Int)) ∧ w = w' := by
  cases h : r.getLsbD 15
  · obtain ⟨h1, h2⟩ := sh16_lo r h
    have H := Lib.hid h2
    clear h h2
    go_enter Try.func49, Try.ntmps49
    go_wp2
    go_ret
    exact ⟨ret_int H.out, rfl⟩
  · obtain ⟨h1, h2⟩ := sh16_hi r h
    have H := Lib.hid h2
    clear h h2
    go_enter Try.func49, Try.ntmps49
    go_wp2
    go_ret
    exact ⟨ret_int H.out, rfl⟩

theorem in16 (r : BitVec 16) (x : Byte) : bits .xor .u16 (r.toNat : Int) ((x.toNat : Int) * 256) = ((r ^^^ (x.setWidth 16 <<< 8)).toNat : Int) := by
  rw [← b16_xor]
  congr 1
  have := x.isLt
  rw [BitVec.toNat_shiftLeft, BitVec.toNat_setWidth, Nat.shiftLeft_eq]
  show (x.toNat : Int) * 256 = ((x.toNat % 65536 * 256 % 65536 : Nat) : Int)
  omega

set_option maxHeartbeats 400000 in
theorem update16_any (r : BitVec 16) (a : Option Addr) (l : List Byte) (c B : Nat) (w : World) (hb : Bs w B a l) (hm : l.length ≤ maxLen) :
    Calls Try.prog 45 #[.int .u16 (r.toNat : Int), .slice a l.length c] w fun e w' => e = .returned (.int .u16 ((up16 r l).toNat : Int)) ∧ w = w' := by
  unfold maxLen at hm
  go_enter Try.func45, Try.ntmps45
  go_wp2
  go_loop [0, 9] (fun t i => ∃ k : Nat, k ≤ l.length ∧ i = .int .i64 k ∧ t = .int .u16 ((up16 r (l.take k)).toNat : Int)) (fun _ i => l.length - (intOf i).toNat)
  case atStart => exact ⟨0, Nat.zero_le _, rfl, rfl⟩
  case round =>
    obtain ⟨k, hk, rfl, rfl⟩ := hrel
    by_cases hlt : k < l.length
    · obtain ⟨b, off, rfl, _, hc⟩ := hb.at_ hlt
      have HS : Hid (up16 r (l.take (k + 1)) = by16 (up16 r (l.take k)) l[k]) := up16_take r l k hlt
      have H16 := Lib.hid (in16 (up16 r (l.take k)) l[k])
      go_wp2
      go_loop [0, 18] (fun t i => ∃ j : Nat, j ≤ 8 ∧ i = .int .i64 j ∧ t = .int .u16 ((iter sh16 j (up16 r (l.take k) ^^^ (l[k].setWidth 16 <<< 8))).toNat : Int)) (fun _ i => 8 - (intOf i).toNat)
      case atStart => exact ⟨0, Nat.zero_le _, rfl, val_int H16.out⟩
      case round =>
        obtain ⟨j, hj, rfl, rfl⟩ := hrel
        by_cases hj8 : j < 8
        · go_wp2_with (go_at_call 49; refine (shift16_any _ _).mono ?_; rintro e w' ⟨rfl, rfl⟩)
          go_round
          case rel => exact ⟨j + 1, by omega, by go_num, rfl⟩
          case measure => simp [intOf]; omega
        · go_wp2
          go_round
          case rel => exact ⟨k + 1, by omega, by go_num, val_int (by rw [HS.out, by16, show j = 8 by omega])⟩
          case measure => simp [intOf]; omega
    · go_wp2
      go_ret
      exact ⟨ret_int (by rw [List.take_of_length_le (by omega)]), rfl⟩

end Go.Proofs.Ytmkmojhhfbokdaa

/-
  The walks of the program's CRC-32C: a step, a byte string.
-/
namespace Go.Proofs.Ytmkmojhhfbokdaa
open Go.RowKit

theorem sh32_hi (r : BitVec 32) (h : r.getLsbD 0 = true) : (bits .and .u32 (r.toNat : Int) 1 != 0) = true ∧ bits .xor .u32 ((r.toNat : Int) / 2) 2197175160 = ((sh32 r).toNat : Int) := by
  have e1 := b32_and r 1#32
  have e2 := b32_xor (r >>> 1) 0x82f63b78#32
  rw [and_low, h] at e1
  constructor
  · rw [show (1 : Int) = ((1#32).toNat : Int) from rfl, e1]; rfl
  · rw [b32_shr1, show (2197175160 : Int) = ((0x82f63b78#32).toNat : Int) from rfl, e2, sh32, if_pos h]
theorem sh32_lo (r : BitVec 32) (h : r.getLsbD 0 = false) : (bits .and .u32 (r.toNat : Int) 1 != 0) = false ∧ (r.toNat : Int) / 2 = ((sh32 r).toNat : Int) := by
  have e1 := b32_and r 1#32
  rw [and_low, h] at e1
  constructor
  · rw [show (1 : Int) = ((1#32).toNat : Int) from rfl, e1]; rfl
  · rw [b32_shr1, sh32, if_neg (by rw [h]; decide)]

theorem in32 (r : BitVec 32) (x : Byte) : bits .xor .u32 (r.toNat : Int) (x.toNat : Int) = ((r ^^^ x.setWidth 32).toNat : Int) := by
  rw [← b32_xor]
  congr 1

end Go.Proofs.Ytmkmojhhfbokdaa
