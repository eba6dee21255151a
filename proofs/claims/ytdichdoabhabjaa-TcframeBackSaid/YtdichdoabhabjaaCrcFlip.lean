/-
  Plain mathematics: one bit of a byte string inverted; bits within k places. No Go in sight.
-/
import Derived.Test.YtdichdoabhabjaaCrcBurst
namespace Go.Proofs.Ytdichdoabhabjaa
open Go.RowKit

theorem Near.step {s x : List Byte} {i k : Nat} (h : Near s x i k) : Near s x i (k + 1) := ⟨h.1, fun p hp => h.2 p (by omega)⟩
theorem one_bit : ∀ m t : Fin 8, (1#8 <<< m.val).getLsbD t.val = decide (m = t) := by decide +kernel
theorem Near.flip {s x : List Byte} {i k : Nat} (h : Near s x i k) (hq : (i + k) / 8 < x.length) :
    Near s (x.set ((i + k) / 8) (x[(i + k) / 8] ^^^ (1#8 <<< (7 - (i + k) % 8)))) i (k + 1) := by
  refine ⟨by rw [List.length_set]; exact h.1, fun p hp => ?_⟩
  rw [← h.2 p (by omega)]
  unfold bitC
  rw [List.getElem?_set]
  by_cases e : (i + k) / 8 = p / 8
  · rw [if_pos e]
    have hp8 : p / 8 < x.length := by omega
    rw [if_pos hq, List.getElem?_eq_getElem hp8]
    simp only [Option.getD_some, BitVec.getLsbD_xor]
    have hb := one_bit ⟨7 - (i + k) % 8, by omega⟩ ⟨7 - p % 8, by omega⟩
    rw [decide_eq_false (by simp; omega)] at hb
    simp only at hb
    rw [hb]
    simp [e]
  · rw [if_neg e]

theorem flip_byte (x : Byte) (m : Nat) (hm : m < 8) : bits .xor .u8 (x.toNat : Int) (2 ^ m % 256) = ((x ^^^ (1#8 <<< m)).toNat : Int) := by
  have e : (2 ^ m % 256 : Int) = ((1#8 <<< m).toNat : Int) := by
    have : ∀ m : Fin 8, (2 ^ m.val % 256 : Int) = ((1#8 <<< m.val).toNat : Int) := by decide +kernel
    exact this ⟨m, hm⟩
  rw [e, u8_xor_nat _ _ x.isLt (BitVec.isLt _), BitVec.toNat_xor]

end Go.Proofs.Ytdichdoabhabjaa
