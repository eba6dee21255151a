/-
  The Reader of package bits beside a packet's block as one state; the walks of package packet's readHeader and Size.
-/
import Derived.Test.YtdjopkfibfgjeaaPacW2
import Derived.Test.YtdjopkfibfgjeaaBitsR1
namespace Go.Proofs.Ytdjopkfibfgjeaa.Pac
open Go.RowKit

/-- a packet's cells -/
def pcs (com sec : Bool) (ap fl ct : Int) (v : Value) : Array Value := #[.bool com, .bool sec, .int .i64 ap, .int .i64 fl, .int .i64 ct, v]

/-- a whole packet stored over another -/
def putAll (w : World) (g : Nat) (com sec : Bool) (ap fl ct : Int) (v : Value) : World :=
  (((((w.setCell ⟨g, 0, none⟩ (.bool com)).setCell ⟨g, 1, none⟩ (.bool sec)).setCell ⟨g, 2, none⟩ (.int .i64 ap)).setCell ⟨g, 3, none⟩ (.int .i64 fl)).setCell ⟨g, 4, none⟩ (.int .i64 ct)).setCell ⟨g, 5, none⟩ v
theorem putAll_cel {w : World} {g : Nat} {t : TypeId} {x0 x1 x2 x3 x4 x5 : Value} (h : Cel w g t #[x0, x1, x2, x3, x4, x5]) (com sec : Bool) (ap fl ct : Int) (v : Value) :
    Cel (putAll w g com sec ap fl ct v) g t #[.bool com, .bool sec, .int .i64 ap, .int .i64 fl, .int .i64 ct, v] :=
  (((((h.put 0 (.bool com)).put 1 (.bool sec)).put 2 (.int .i64 ap)).put 3 (.int .i64 fl)).put 4 (.int .i64 ct)).put 5 v
theorem putAll_only (w : World) (g : Nat) (com sec : Bool) (ap fl ct : Int) (v : Value) : Only [g] w (putAll w g com sec ap fl ct v) := by
  unfold putAll
  exact ((((((Only.refl [g] w).put (p := ⟨g, 0, none⟩) (.inl (by simp)) _).put (p := ⟨g, 1, none⟩) (.inl (by simp)) _).put (p := ⟨g, 2, none⟩) (.inl (by simp)) _).put (p := ⟨g, 3, none⟩) (.inl (by simp)) _).put (p := ⟨g, 4, none⟩) (.inl (by simp)) _).put (p := ⟨g, 5, none⟩) (.inl (by simp)) _

theorem from_u64 (X : Nat) (h : X < 1000000) : IntKind.i64.wrap (X : Int) = (X : Int) := by
  simp [IntKind.wrap, IntKind.bits, IntKind.signed]
  omega
theorem wrap_tot (X : Nat) (h : X < 1000000) : IntKind.i64.wrap (IntKind.i64.wrap (6 + (X : Int)) + 1) = ((7 + X : Nat) : Int) := by
  simp [IntKind.wrap, IntKind.bits, IntKind.signed]
  omega

end Go.Proofs.Ytdjopkfibfgjeaa.Pac
