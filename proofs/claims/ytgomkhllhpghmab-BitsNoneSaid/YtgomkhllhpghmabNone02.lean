/-
  The walk of the law BitsNone.
-/
import Derived.Test.YtgomkhllhpghmabLives02
import Derived.Test.YtgomkhllhpghmabBitsR2
namespace Go.Proofs.Ytgomkhllhpghmab
open Go.RowKit

set_option maxHeartbeats 2000000 in
theorem bitsNone_walk (n k : Int) (w : World) :
    Calls Try.prog 7 #[.int .u64 n, .int .i64 k] w fun e w' => e = .returned (.bool true) ∧ Below w.heap.size w w' := by
  have hZW : ZW ((w.alloc (.cells #[.bool false, .slice none 0 0, .int .i64 0] 53)).alloc (.cells #[.bool false, .bool false, .slice none 0 0, .int .i64 0] 55)) w.heap.size :=
    (Below.heap_alloc _ _ _ (by simp)).trans (heap_alloc_new w _)
  have hZR : ZR ((w.alloc (.cells #[.bool false, .slice none 0 0, .int .i64 0] 53)).alloc (.cells #[.bool false, .bool false, .slice none 0 0, .int .i64 0] 55)) (w.heap.size + 1) := by
    have := heap_alloc_new (w.alloc (.cells #[.bool false, .slice none 0 0, .int .i64 0] 53)) (.cells #[.bool false, .bool false, .slice none 0 0, .int .i64 0] 55)
    simpa [ZR, Cel] using this
  have hbel : Below w.heap.size w ((w.alloc (.cells #[.bool false, .slice none 0 0, .int .i64 0] 53)).alloc (.cells #[.bool false, .bool false, .slice none 0 0, .int .i64 0] 55)) :=
    ((Below.refl _ _).alloc (Nat.le_refl _) _).alloc (by simp) _
  go_enter Try.func7, Try.ntmps7
  go_wp2_with fail
  obtain ⟨W, hW⟩ : ∃ W, W = (w.alloc (.cells #[.bool false, .slice none 0 0, .int .i64 0] 53)).alloc (.cells #[.bool false, .bool false, .slice none 0 0, .int .i64 0] 55) := ⟨_, rfl⟩
  rw [← hW] at hZW hZR hbel ⊢
  clear hW
  have hI : Idle W (some ⟨w.heap.size + 1, 0, none⟩) := .inr ⟨_, rfl, hZR⟩
  refine (skip_idle k (.inl rfl)).mono ?_
  rintro e w1 ⟨rfl, rfl⟩
  go_wp2_with fail
  refine (skip_idle k hI).mono ?_
  rintro e w1 ⟨rfl, rfl⟩
  go_wp2_with fail
  refine (put_nil _ _ _).mono ?_
  rintro e w1 ⟨rfl, rfl⟩
  go_wp2_with fail
  refine (put_zero _ _ _ _ hZW).mono ?_
  rintro e w1 ⟨rfl, rfl⟩
  go_wp2_with fail
  refine (len_nil _).mono ?_
  rintro e w1 ⟨rfl, rfl⟩
  go_wp2_with fail
  refine (len_zero _ _ hZW).mono ?_
  rintro e w1 ⟨rfl, a, rfl⟩
  have hZW2 : ZW (W.drewN a) w.heap.size := hZW
  have hI2 : Idle (W.drewN a) (some ⟨w.heap.size + 1, 0, none⟩) := .inr ⟨_, rfl, hZR⟩
  have hZR2 : ZR (W.drewN a) (w.heap.size + 1) := hZR
  have hbel2 := hbel.trans (drewN_below (B := w.heap.size) W a)
  clear hZW hI hZR hbel
  go_wp2_with fail
  refine (wbytes_nil _).mono ?_
  rintro e w1 ⟨rfl, rfl⟩
  go_wp2_with fail
  refine (wbytes_zero _ _ hZW2).mono ?_
  rintro e w1 ⟨rfl, rfl⟩
  go_wp2_with fail
  refine (get_idle k (.inl rfl)).mono ?_
  rintro e w1 ⟨rfl, rfl⟩
  go_wp2_with fail
  refine (get_idle k hI2).mono ?_
  rintro e w1 ⟨rfl, rfl⟩
  go_wp2_with fail
  refine (left_idle (.inl rfl)).mono ?_
  rintro e w1 ⟨rfl, rfl⟩
  go_wp2_with fail
  refine (left_idle hI2).mono ?_
  rintro e w1 ⟨rfl, rfl⟩
  go_wp2_with fail
  refine (failed_nil _).mono ?_
  rintro e w1 ⟨rfl, rfl⟩
  go_wp2_with fail
  refine (failed_zero _ _ hZR2).mono ?_
  rintro e w1 ⟨rfl, rfl⟩
  go_wp2_with fail
  refine (lives_any _).mono ?_
  rintro e w1 ⟨rfl, hb⟩
  have hbel3 := hbel2.trans (hb.mono hbel2.size)
  go_wp2_with fail
  go_ret
  exact ⟨rfl, hbel3⟩
end Go.Proofs.Ytgomkhllhpghmab
