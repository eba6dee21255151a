/-
  A byte slice that reads as a list of bytes, and the small laws that a walk over it wants. No dump is imported.
-/
import Derived.Laws.BitsAllLaws
import Derived.WalkKit
import Derived.WalkSpells
namespace Go.Proofs.Ytaaikmncdgfkmaa
open Go.RowKit

abbrev Byte := BitVec 8
abbrev B8 (x : Byte) : Value := .int .u8 (x.toNat : Int)

/-- 'a' leads to the bytes l, all below block B; of the empty list nothing is asked. -/
def Bs (w : World) (B : Nat) (a : Option Addr) (l : List Byte) : Prop :=
  0 < l.length → ∃ b off, a = some ⟨b, off, none⟩ ∧ b < B ∧ ∀ i x, l[i]? = some x → w.cell? ⟨b, off + i, none⟩ = some (B8 x)

section
variable {w w' : World} {B B' : Nat} {a : Option Addr} {l : List Byte}
theorem Bs.nil_ : Bs w B a [] := fun h => absurd h (by simp)
theorem Bs.keep (h : Bs w B a l) (hk : ∀ p : Addr, p.block < B → w'.cell? p = w.cell? p) : Bs w' B a l := fun hl => by
  obtain ⟨b, off, rfl, hb, hc⟩ := h hl
  exact ⟨b, off, rfl, hb, fun i x hx => (hk ⟨b, off + i, none⟩ hb).trans (hc i x hx)⟩
theorem Bs.below (h : Bs w B a l) (hb : Below B w w') : Bs w' B a l := h.keep fun _ hp => hb.cell hp
theorem Bs.more (h : Bs w B a l) (hB : B ≤ B') : Bs w B' a l := fun hl => by
  obtain ⟨b, off, rfl, hb, hc⟩ := h hl
  exact ⟨b, off, rfl, by omega, hc⟩
theorem Bs.at_ (h : Bs w B a l) {k : Nat} (hk : k < l.length) : ∃ b off, a = some ⟨b, off, none⟩ ∧ b < B ∧ w.cell? ⟨b, off + k, none⟩ = some (B8 l[k]) := by
  obtain ⟨b, off, rfl, hb, hc⟩ := h (by omega)
  exact ⟨b, off, rfl, hb, hc k _ (List.getElem?_eq_getElem hk)⟩
theorem Bs.take (h : Bs w B a l) (n : Nat) : Bs w B a (l.take n) := fun hl => by
  obtain ⟨b, off, rfl, hb, hc⟩ := h (by simp at hl; omega)
  refine ⟨b, off, rfl, hb, fun i x hx => hc i x ?_⟩
  rw [List.getElem?_take] at hx
  split at hx
  · exact hx
  · cases hx
end

/-! ### numbers of the walk as bit vectors -/
theorem b16_and (a b : BitVec 16) : bits .and .u16 (a.toNat : Int) (b.toNat : Int) = ((a &&& b).toNat : Int) := by
  rw [u16_and_nat _ _ a.isLt b.isLt, BitVec.toNat_and]
theorem b16_xor (a b : BitVec 16) : bits .xor .u16 (a.toNat : Int) (b.toNat : Int) = ((a ^^^ b).toNat : Int) := by
  rw [u16_xor_nat _ _ a.isLt b.isLt, BitVec.toNat_xor]
theorem b16_or (a b : BitVec 16) : bits .or .u16 (a.toNat : Int) (b.toNat : Int) = ((a ||| b).toNat : Int) := by
  rw [u16_or_nat _ _ a.isLt b.isLt, BitVec.toNat_or]
theorem b32_and (a b : BitVec 32) : bits .and .u32 (a.toNat : Int) (b.toNat : Int) = ((a &&& b).toNat : Int) := by
  rw [u32_and_nat _ _ a.isLt b.isLt, BitVec.toNat_and]
theorem b32_xor (a b : BitVec 32) : bits .xor .u32 (a.toNat : Int) (b.toNat : Int) = ((a ^^^ b).toNat : Int) := by
  rw [u32_xor_nat _ _ a.isLt b.isLt, BitVec.toNat_xor]
theorem b16_shl (a : BitVec 16) (n : Nat) : IntKind.u16.wrap ((a.toNat : Int) * 2 ^ n) = ((a <<< n).toNat : Int) := by
  have e : ((a.toNat : Int) * 2 ^ n) = ((a.toNat * 2 ^ n : Nat) : Int) := by rw [Int.natCast_mul, Int.natCast_pow]; rfl
  rw [IntKind.wrap_u16, BitVec.toNat_shiftLeft, Nat.shiftLeft_eq, e]
  generalize a.toNat * 2 ^ n = q
  show (q : Int) % 65536 = ((q % 65536 : Nat) : Int)
  omega
theorem b16_shl1 (a : BitVec 16) : IntKind.u16.wrap ((a.toNat : Int) * 2) = ((a <<< 1).toNat : Int) := b16_shl a 1
theorem b32_shr1 (a : BitVec 32) : (a.toNat : Int) / (2 : Int) = ((a >>> 1).toNat : Int) := by
  rw [BitVec.toNat_ushiftRight, Nat.shiftRight_eq_div_pow]
  show (a.toNat : Int) / 2 = ((a.toNat / 2 : Nat) : Int)
  omega

theorem b32_not (a : BitVec 32) : bits .xor .u32 IntKind.u32.max (a.toNat : Int) = ((~~~ a).toNat : Int) := by
  have e := b32_xor (BitVec.allOnes 32) a
  rw [BitVec.allOnes_xor] at e
  exact e
theorem and_top (r : BitVec 16) : r &&& 0x8000#16 = if r.getLsbD 15 then 0x8000#16 else 0#16 := BitVec.and_twoPow r 15
theorem and_low (r : BitVec 32) : r &&& 1#32 = if r.getLsbD 0 then 1#32 else 0#32 := BitVec.and_twoPow r 0

/-! ### an argument: what the row's shell tells of a slice of integers that came in -/
def IsRow (k : IntKind) (w : World) (a : Option Addr) (len cap : Nat) (zs : List Int) : Prop :=
  (a = none ∧ len = 0 ∧ cap = 0 ∧ zs = []) ∨
  ∃ x, a = some x ∧ len ≤ cap ∧ cap ≤ maxLen ∧ zs.length = cap ∧ (∀ i, i < zs.length → w.cell? (x.add i) = some (.int k (zs.getD i 0))) ∧ ∀ n ∈ zs, (Lit.int k n).wf = true

theorem lt_of_cell {w : World} {p : Addr} {v : Value} (h : w.cell? p = some v) : p.block < w.heap.size := by
  rcases Nat.lt_or_ge p.block w.heap.size with h' | h'
  · exact h'
  · simp [World.cell?, Array.getElem?_eq_none h'] at h

theorem u8_bounds {n : Int} (h : (Lit.int .u8 n).wf = true) : 0 ≤ n ∧ n < 256 := by
  have := (by simpa [Lit.wf, IntKind.min, IntKind.max, IntKind.bits, IntKind.signed] using h : _ ∧ _)
  omega
theorem u16_bounds {n : Int} (h : (Lit.int .u16 n).wf = true) : 0 ≤ n ∧ n < 65536 := by
  have := (by simpa [Lit.wf, IntKind.min, IntKind.max, IntKind.bits, IntKind.signed] using h : _ ∧ _)
  omega
theorem u32_bounds {n : Int} (h : (Lit.int .u32 n).wf = true) : 0 ≤ n ∧ n < 4294967296 := by
  have := (by simpa [Lit.wf, IntKind.min, IntKind.max, IntKind.bits, IntKind.signed] using h : _ ∧ _)
  omega

theorem i64_bounds {n : Int} (h : (Lit.int .i64 n).wf = true) : -9223372036854775808 ≤ n ∧ n ≤ 9223372036854775807 := by
  have := (by simpa [Lit.wf, IntKind.min, IntKind.max, IntKind.bits, IntKind.signed] using h : _ ∧ _)
  omega
theorem u64_bounds {n : Int} (h : (Lit.int .u64 n).wf = true) : 0 ≤ n ∧ n < 18446744073709551616 := by
  have := (by simpa [Lit.wf, IntKind.min, IntKind.max, IntKind.bits, IntKind.signed] using h : _ ∧ _)
  omega
theorem of_u64 {n : Int} (h : (Lit.int .u64 n).wf = true) : ∃ r : BitVec 64, n = (r.toNat : Int) := by
  have := u64_bounds h
  exact ⟨BitVec.ofNat 64 n.toNat, by rw [BitVec.toNat_ofNat, Nat.mod_eq_of_lt (by omega)]; omega⟩
theorem of_u8 {n : Int} (h : (Lit.int .u8 n).wf = true) : ∃ r : BitVec 8, n = (r.toNat : Int) := by
  have := u8_bounds h
  exact ⟨BitVec.ofNat 8 n.toNat, by rw [BitVec.toNat_ofNat, Nat.mod_eq_of_lt (by omega)]; omega⟩
theorem of_u16 {n : Int} (h : (Lit.int .u16 n).wf = true) : ∃ r : BitVec 16, n = (r.toNat : Int) := by
  have := u16_bounds h
  exact ⟨BitVec.ofNat 16 n.toNat, by rw [BitVec.toNat_ofNat, Nat.mod_eq_of_lt (by omega)]; omega⟩
theorem of_u32 {n : Int} (h : (Lit.int .u32 n).wf = true) : ∃ r : BitVec 32, n = (r.toNat : Int) := by
  have := u32_bounds h
  exact ⟨BitVec.ofNat 32 n.toNat, by rw [BitVec.toNat_ofNat, Nat.mod_eq_of_lt (by omega)]; omega⟩

theorem IsRow.bytes {w : World} {a : Option Addr} {len cap : Nat} {zs : List Int} (h : IsRow .u8 w a len cap zs) :
    ∃ l : List Byte, len = l.length ∧ Bs w w.heap.size a l ∧ (a = none → cap = 0) ∧ l.length ≤ cap ∧ cap ≤ maxLen := by
  rcases h with ⟨rfl, rfl, rfl, rfl⟩ | ⟨x, rfl, hl, hm, hz, hc, hw⟩
  · exact ⟨[], rfl, Bs.nil_, fun _ => rfl, by simp, by simp⟩
  · refine ⟨(zs.take len).map fun n => BitVec.ofNat 8 n.toNat, by simp; omega, fun hpos => ?_, by simp, by simp; omega, hm⟩
    have h0 := hc 0 (by simp at hpos; omega)
    obtain ⟨b, off, spot⟩ := x
    have hs : spot = none := by simpa [Addr.add] using World.cell?_spot h0
    subst hs
    refine ⟨b, off, rfl, lt_of_cell h0, fun i y hy => ?_⟩
    rw [List.getElem?_map, List.getElem?_take] at hy
    split at hy
    · rename_i hi
      have hzi : i < zs.length := by omega
      rw [List.getElem?_eq_getElem hzi] at hy
      injection hy with hy
      have hb := u8_bounds (hw zs[i] (List.getElem_mem hzi))
      have e : (y.toNat : Int) = zs[i] := by
        rw [← hy, BitVec.toNat_ofNat, Nat.mod_eq_of_lt (by omega)]; omega
      have := hc i hzi
      rw [List.getD_eq_getElem?_getD, List.getElem?_eq_getElem hzi] at this
      show _ = some (Value.int .u8 (y.toNat : Int))
      rw [e]
      by_cases h1 : i = 0
      · subst h1; simpa [Addr.add] using this
      · simpa [Addr.add, h1] using this
    · cases hy

end Go.Proofs.Ytaaikmncdgfkmaa
