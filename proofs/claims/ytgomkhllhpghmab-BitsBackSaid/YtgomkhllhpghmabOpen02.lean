/-
  The arguments of the laws of chapter 2 opened: a slice of fields, a slice of steps.
-/
import Derived.Test.YtgomkhllhpghmabRows
import Derived.Test.YtgomkhllhpghmabFields02
namespace Go.Proofs.Ytgomkhllhpghmab
open Go.RowKit Go.ChangeShapes Go.WideShapes Go.Deep
section
variable {H : Type} {enc : TypeId × Value → H} {w : World} {base : Nat} {spare : Nat → Bool} {held : Bool}
theorem open_fields {r : Reach} {b0 : Nat} {v : Value} {d : DataW H} {ps : List MemPlace} (hval : Value.okWide Try.prog w r b0 22 v) (hd : DataW.Trod enc Try.prog w base spare held 22 v d ps) :
    ∃ a cap, ∃ l : List (BitVec 64 × Int), v = .slice a l.length cap ∧ (a = none → cap = 0) ∧ l.length ≤ cap ∧ cap ≤ maxLen ∧ Prs w a fN fK l ∧ ∀ f ∈ l, True ∧ (Lit.int .i64 f.2).wf = true :=
  open_pairs (p0 := fun _ => True) (p1 := fun k => (Lit.int .i64 k).wf = true) Try.underlying22 Try.underlying33 (by kernel_rfl) rfl rfl (by kernel_rfl) (by kernel_rfl)
    (fun n V y h => by
      obtain ⟨x, hx, _, hw⟩ := DataW.trod_int Try.underlying31 h
      injection hx with hx
      obtain ⟨b, rfl⟩ := of_u64 hw
      exact ⟨b, hx, trivial⟩)
    (fun n V y h => by
      obtain ⟨x, hx, _, hw⟩ := DataW.trod_int Try.underlying3 h
      injection hx with hx
      exact ⟨x, hx, hw⟩) hval hd
theorem open_steps {r : Reach} {b0 : Nat} {v : Value} {d : DataW H} {ps : List MemPlace} (hval : Value.okWide Try.prog w r b0 38 v) (hd : DataW.Trod enc Try.prog w base spare held 38 v d ps) :
    ∃ a cap, ∃ l : List (Bool × Int), v = .slice a l.length cap ∧ (a = none → cap = 0) ∧ l.length ≤ cap ∧ cap ≤ maxLen ∧ Prs w a Value.bool fK l ∧ ∀ f ∈ l, True ∧ (Lit.int .i64 f.2).wf = true :=
  open_pairs (p0 := fun _ => True) (p1 := fun k => (Lit.int .i64 k).wf = true) Try.underlying38 Try.underlying44 (by kernel_rfl) rfl rfl (by kernel_rfl) (by kernel_rfl)
    (fun n V y h => by
      obtain ⟨x, hx, _⟩ := DataW.trod_bool Try.underlying4 h
      injection hx with hx
      exact ⟨x, hx, trivial⟩)
    (fun n V y h => by
      obtain ⟨x, hx, _, hw⟩ := DataW.trod_int Try.underlying3 h
      injection hx with hx
      exact ⟨x, hx, hw⟩) hval hd
end
end Go.Proofs.Ytgomkhllhpghmab
