/-
  The walk of the law SerialWindows.
-/
import Derived.Test.YtcbohpmmppdplaaLaw04a
import Derived.Deep.RegionHeld3
import Derived.BigRegion
namespace Go.Proofs.Ytcbohpmmppdplaa
open Go.RowKit

set_option maxHeartbeats 2000000 in
theorem serialWindows_walk (n f s b : Int) (w : World) :
    Calls Try.prog 5 #[.int .i64 n, .int .i64 f, .agg #[.int .i64 s, .int .i64 b]] w fun e w' => e = .returned (.bool true) ∧ Below w.heap.size w w' := by
  obtain ⟨v0, hv0⟩ : ∃ v0, v0 = w.alloc (.cells #[.int .i64 s, .int .i64 b] 26) := ⟨_, rfl⟩
  have h1 := within_any n f s b v0.drew
  have h2 := xwithin_any n f s b v0.drew
  have h3 := alive04_any v0.drew
  obtain ⟨u, hu⟩ : ∃ u, u = swin n f s b := ⟨_, rfl⟩
  rw [← hu] at h1 h2
  have bel0 : Below w.heap.size w v0.drew := by rw [hv0]; exact ((Below.refl _ _).alloc (Nat.le_refl _) _).drew
  have c0 : v0.drew.cell? ⟨w.heap.size, 0, none⟩ = some (.int .i64 s) := by rw [hv0]; simp
  have c1 : v0.drew.cell? ⟨w.heap.size, 1, none⟩ = some (.int .i64 b) := by rw [hv0]; simp
  rw [hv0] at h1 h2 h3 bel0 c0 c1
  clear hu hv0
  go_enter Try.func5, Try.ntmps5
  go_wp2_with fail
  go_region_held3 (fun w' => w'.cell? ⟨w.heap.size, 0, none⟩ = some (.int .i64 s) ∧ w'.cell? ⟨w.heap.size, 1, none⟩ = some (.int .i64 b)) (first | go_keep | exact ⟨c0, c1⟩)
    (first
      | (go_at_call 16; refine h1.mono ?_; rintro e w1 ⟨rfl, rfl⟩)
      | (go_at_call 17; refine h2.mono ?_; rintro e w1 ⟨rfl, rfl⟩)
      | (go_at_call 11; refine h3.mono ?_; rintro e w1 ⟨rfl, rfl⟩))
  go_wp2_with fail
  go_ret
  exact ⟨rfl, bel0⟩
end Go.Proofs.Ytcbohpmmppdplaa
