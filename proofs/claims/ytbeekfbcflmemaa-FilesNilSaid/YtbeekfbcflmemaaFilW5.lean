/-
  Package files: the methods of a nil Store and of a zero value.
-/
import Derived.Test.YtbeekfbcflmemaaFilW1
namespace Go.Proofs.Ytbeekfbcflmemaa.Fil
open Go.RowKit Go.Proofs.Ytbeekfbcflmemaa.Row

/-- p is no Store of New -/
def Dead (w : World) (p : Value) : Prop := Calls Try.prog 24 #[p] w fun e w' => e = .returned (.bool false) ∧ w = w'
theorem dead_nil (w : World) : Dead w (.pointer none) := works_nil w
theorem dead_zero {w : World} {g : Nat} {a b c : Value} (h : Cel w g 56 #[.bool false, a, b, c]) : Dead w (.pointer (some ⟨g, 0, none⟩)) := works_any w g false a b c h

section
variable (w : World) (p : Value) (h : Dead w p)
include h
theorem check_dead (x : Value) : Calls Try.prog 28 #[p, x] w fun e w' => e = .returned (I 2) ∧ w = w' := by
  go_enter Try.func28, Try.ntmps28
  go_wp2_with (go_at_call 24; refine Calls.mono h ?_; rintro e w' ⟨rfl, rfl⟩)
  go_ret
  exact ⟨rfl, rfl⟩
theorem get_dead (x : Value) : Calls Try.prog 15 #[p, x] w fun e w' => e = .returned (.tuple #[.slice none 0 0, I 2]) ∧ w = w' := by
  have hc := check_dead w p h x
  go_enter Try.func15, Try.ntmps15
  go_wp2_with (go_at_call 28; refine hc.mono ?_; rintro e w' ⟨rfl, rfl⟩)
  go_ret2
  exact ⟨rfl, rfl⟩
theorem dele_dead (x : Value) : Calls Try.prog 12 #[p, x] w fun e w' => e = .returned (I 2) ∧ w = w' := by
  have hc := check_dead w p h x
  go_enter Try.func12, Try.ntmps12
  go_wp2_with (go_at_call 28; refine hc.mono ?_; rintro e w' ⟨rfl, rfl⟩)
  go_ret
  exact ⟨rfl, rfl⟩
theorem put_dead (x y : Value) : Calls Try.prog 10 #[p, x, y] w fun e w' => e = .returned (I 2) ∧ w = w' := by
  go_enter Try.func10, Try.ntmps10
  go_wp2_with (go_at_call 24; refine Calls.mono h ?_; rintro e w' ⟨rfl, rfl⟩)
  go_ret
  exact ⟨rfl, rfl⟩
theorem names_dead : Calls Try.prog 22 #[p] w fun e w' => e = .returned (.slice none 0 0) ∧ w = w' := by
  go_enter Try.func22, Try.ntmps22
  go_wp2_with (go_at_call 24; refine Calls.mono h ?_; rintro e w' ⟨rfl, rfl⟩)
  go_ret
  exact ⟨rfl, rfl⟩
theorem free_dead : Calls Try.prog 19 #[p] w fun e w' => e = .returned (I 0) ∧ w = w' := by
  go_enter Try.func19, Try.ntmps19
  go_wp2_with (go_at_call 24; refine Calls.mono h ?_; rintro e w' ⟨rfl, rfl⟩)
  go_ret
  exact ⟨rfl, rfl⟩
theorem copy_dead : Calls Try.prog 14 #[p] w fun e w' => e = .returned (.pointer none) ∧ w = w' := by
  go_enter Try.func14, Try.ntmps14
  go_wp2_with (go_at_call 24; refine Calls.mono h ?_; rintro e w' ⟨rfl, rfl⟩)
  go_ret
  exact ⟨rfl, rfl⟩
end
end Go.Proofs.Ytbeekfbcflmemaa.Fil
