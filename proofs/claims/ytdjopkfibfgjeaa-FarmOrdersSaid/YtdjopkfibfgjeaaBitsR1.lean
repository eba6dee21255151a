/-
  The walk of Get of package bits' Reader.
-/
import Derived.Test.YtdjopkfibfgjeaaBitsR0
namespace Go.Proofs.Ytdjopkfibfgjeaa
open Go.RowKit

/-- may Get read k bits? -/
def getBad (bs : List Byte) (p : Nat) (bad : Bool) (k : Int) : Prop := bad = true ∨ k < 0 ∨ 64 < k ∨ (leftR bs p bad : Int) < k
instance (bs : List Byte) (p : Nat) (bad : Bool) (k : Int) : Decidable (getBad bs p bad k) := by unfold getBad; infer_instance
def getP (bs : List Byte) (p : Nat) (bad : Bool) (k : Int) : Nat := if getBad bs p bad k then p else p + k.toNat
def getB (bs : List Byte) (p : Nat) (bad : Bool) (k : Int) : Bool := decide (getBad bs p bad k)
def getV (bs : List Byte) (p : Nat) (bad : Bool) (k : Int) : Nat := if getBad bs p bad k then 0 else numAt bs p k.toNat

theorem min_of' (a d : Nat) (hd : d < 8) : ∃ s : Nat, (if 8 - (d : Int) < (a : Int) then 8 - (d : Int) else (a : Int)) = (s : Int) ∧ s ≤ a ∧ d + s ≤ 8 ∧ (0 < a → 0 < s) := by
  refine ⟨min a (8 - d), ?_, by omega, by omega, by omega⟩
  split <;> omega

theorem or_shift (a s b : Nat) (hb : b < 2 ^ s) (hab : a * 2 ^ s + b < 2 ^ 64) : bits .or .u64 (IntKind.u64.wrap ((a : Int) * 2 ^ s)) (b : Int) = ((a * 2 ^ s + b : Nat) : Int) := by
  have h1 : ((a : Int) * 2 ^ s) = ((a * 2 ^ s : Nat) : Int) := by rw [Int.natCast_mul, Int.natCast_pow]; rfl
  have h2 : IntKind.u64.wrap ((a * 2 ^ s : Nat) : Int) = ((a * 2 ^ s : Nat) : Int) := by
    simp [IntKind.wrap, IntKind.bits, IntKind.signed]
    rw [h1]
    omega
  rw [h1, h2, u64_or_nat _ _ (by omega) (by omega)]
  congr 1
  rw [Nat.mul_comm, ← Nat.two_pow_add_eq_or_of_lt hb]

theorem wrap_small (a : Nat) (h : a < 2 ^ 64) : IntKind.u64.wrap (a : Int) = (a : Int) := by
  simp [IntKind.wrap, IntKind.bits, IntKind.signed]
  omega
theorem get_num (bs : List Byte) (p j s d : Nat) (x : Byte) (hs : d + s ≤ 8) (hd : d = (p + j) % 8) (hx : bs[(p + j) / 8]? = some x) (hj : j + s ≤ 64) :
    bits .or .u64 (IntKind.u64.wrap ((numAt bs p j : Int) * 2 ^ s)) (IntKind.u64.wrap ((x.toNat : Int) * 2 ^ d % 256 / 2 ^ (8 - s))) = (numAt bs p (j + s) : Int) := by
  subst hd
  have h1 := numAt_piece bs (p + j) s x hs hx
  have h2 : (x.toNat : Int) * 2 ^ ((p + j) % 8) % 256 / 2 ^ (8 - s) = ((numAt bs (p + j) s : Nat) : Int) := by
    rw [← h1, Int.natCast_ediv, Int.natCast_emod, Int.natCast_mul, Int.natCast_pow, Int.natCast_pow]
    rfl
  have h3 := numAt_lt bs (p + j) s
  have h4 : 2 ^ s ≤ 2 ^ 64 := Nat.pow_le_pow_right (by decide) (by omega)
  have h5 := numAt_lt bs p (j + s)
  have h6 : 2 ^ (j + s) ≤ 2 ^ 64 := Nat.pow_le_pow_right (by decide) hj
  have h7 := numAt_add bs p j s
  rw [h2, wrap_small _ (by omega), or_shift _ _ _ h3 (by omega), h7]

end Go.Proofs.Ytdjopkfibfgjeaa
