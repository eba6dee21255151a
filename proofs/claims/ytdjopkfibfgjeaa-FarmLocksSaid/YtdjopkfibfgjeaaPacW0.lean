/-
  The walks of package packet's allZero, validIdle, Valid and bit.
-/
import Derived.Test.YtdjopkfibfgjeaaPacMath
import Derived.Test.YtdjopkfibfgjeaaBase
import Derived.Deep.QuietTactic
namespace Go.Proofs.Ytdjopkfibfgjeaa.Pac
open Go.RowKit

theorem bel_new (w : World) (o : Obj) : Below w.heap.size w (w.alloc o) := (Below.refl _ _).alloc (Nat.le_refl _) _
theorem Cel.later {w w' : World} {g : Nat} {t : TypeId} {cs : Array Value} (h : Cel w g t cs) (hb : Below w.heap.size w w') : Cel w' g t cs := h.only (Only.of_below (S := []) hb) (by simp)
theorem Cel.within {w w' : World} {g B : Nat} {t : TypeId} {cs : Array Value} (h : Cel w g t cs) (hg : g < B) (hb : Below B w w') : Cel w' g t cs := (hb.block g hg).trans h

theorem u8_zero (x : Byte) : ((x.toNat : Int) != 0) = !decide (x = 0#8) := by
  by_cases h : x = 0#8
  · subst h; rfl
  · have : x.toNat ≠ 0 := fun e => h (BitVec.eq_of_toNat_eq (by rw [e]; rfl))
    rw [decide_eq_false h]
    simp
    omega

/-- the data of a packet in a block of its own, later -/
theorem Bs.new {w : World} {a : Option Addr} {l : List Byte} (h : Bs w w.heap.size a l) (o : Obj) : Bs (w.alloc o) w.heap.size a l := h.below (bel_new w o)

end Go.Proofs.Ytdjopkfibfgjeaa.Pac
