/-
  An argument opened: a struct of two integers, by value. No dump is imported.
-/
import Derived.Test.YtllhdgllgoanbaaBytes
import Derived.OpenShut
import Derived.Lib.SmallJoins
namespace Go.Proofs.Ytllhdgllgoanbaa
open Go.Joins Go.ChangeShapes Go.WideShapes Go.RowKit Go.Deep

section
variable {H : Type} {enc : TypeId × Value → H} {P : Program} {w : World} {base : Nat} {spare : Nat → Bool} {held : Bool}
theorem open_pair_ints {r : Reach} {b0 : Nat} {t : TypeId} {f0 f1 : Field} {k0 k1 : IntKind} {v : Value} {d : DataW H} {ps : List MemPlace} (hs : P.underlying t = some (.struct #[f0, f1])) (hone : oneCellFields P #[f0, f1] = true) (hC : P.cellsOf t = 2)
    (h0 : P.underlying f0.type = some (.int k0)) (h1 : P.underlying f1.type = some (.int k1)) (hval : Value.okWide P w r b0 t v) (hd : DataW.Trod enc P w base spare held t v d ps) :
    ∃ x y : Int, v = .agg #[.int k0 x, .int k1 y] ∧ (Lit.int k0 x).wf = true ∧ (Lit.int k1 y).wf = true := by
  obtain ⟨v0, v1, y0, y1, n, rfl, _, _, g0, g1⟩ := open_agg2 hs hone hC hval hd
  obtain ⟨x, hx, _, hwx⟩ := DataW.trod_int h0 g0
  obtain ⟨y, hy, _, hwy⟩ := DataW.trod_int h1 g1
  injection hx with hx
  injection hy with hy
  subst hx hy
  exact ⟨x, y, rfl, hwx, hwy⟩
end
end Go.Proofs.Ytllhdgllgoanbaa
