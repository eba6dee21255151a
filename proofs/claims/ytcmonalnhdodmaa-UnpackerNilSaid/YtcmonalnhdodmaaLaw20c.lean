/-
  The law UnpackerNil.
-/
import Derived.Test.YtcmonalnhdodmaaLaw20b
namespace Go.Proofs.Ytcmonalnhdodmaa.Unp
open Go.RowKit
open Pac (bel_new)

set_option maxRecDepth 100000 in
set_option maxHeartbeats 4000000 in
theorem unpackerNil_walk (ct f : Int) (a : Option Addr) (n c : Nat) (w : World) :
    Calls Try.prog 6 #[.int .i64 ct, .int .i64 f, .slice a n c] w fun e w' => e = .returned (.bool true) ∧ Below w.heap.size w w' := by
  by_cases h : 100 < n
  · have t1 : decide ((100 : Int) < (n : Int)) = true := by simp; omega
    have t1' : decide (100 < n) = true := by simpa using h
    clear h
    go_enter Try.func6, Try.ntmps6
    go_wp2_with fail
    refine (alive20_any _).mono ?_
    rintro e w1 ⟨rfl, b1⟩
    go_wp2
    go_ret
    exact ⟨rfl, b1⟩
  · have t1 : decide ((100 : Int) < (n : Int)) = false := by simp; omega
    have t1' : decide (100 < n) = false := by simpa using h
    clear h
    obtain ⟨w1, hw1⟩ : ∃ w1, w1 = w.alloc (.cells #[.bool false, .bool false, .int .i64 0, .int .i64 0, .slice none 0 0] 48) := ⟨_, rfl⟩
    have b1 : Below w.heap.size w w1 := by rw [hw1]; exact bel_new _ _
    have d1 : Dead w1 (some ⟨w.heap.size, 0, none⟩) := .inr ⟨_, rfl, by rw [hw1]; exact (Cel.new _ _ _).cell 0, by rw [hw1]; simp⟩
    have d0 : Dead w1 none := .inl rfl
    have HD := Lib.hid (And.intro d1 (And.intro d0 b1))
    clear d1 d0 b1
    go_enter Try.func6, Try.ntmps6
    go_wp2_with fail
    rw [← hw1]
    clear hw1
    refine (utake_dead _ _ HD.out.2.1 _ _ _ _ _).mono ?_
    rintro e w2 ⟨rfl, rfl⟩
    go_wp2_with fail
    refine (utake_dead _ _ HD.out.1 _ _ _ _ _).mono ?_
    rintro e w2 ⟨rfl, rfl⟩
    go_wp2_with fail
    refine (ulost_dead _ _ HD.out.2.1).mono ?_
    rintro e w2 ⟨rfl, rfl⟩
    go_wp2_with fail
    refine (ulost_dead _ _ HD.out.1).mono ?_
    rintro e w2 ⟨rfl, rfl⟩
    go_wp2_with fail
    refine (uclone_dead _ _ HD.out.2.1).mono ?_
    rintro e w2 ⟨rfl, rfl⟩
    go_wp2_with fail
    refine (uclone_dead _ _ HD.out.1).mono ?_
    rintro e w2 ⟨rfl, rfl⟩
    go_wp2_with fail
    refine (alive20_any _).mono ?_
    rintro e w3 ⟨rfl, b3⟩
    go_wp2
    go_ret
    exact ⟨rfl, HD.out.2.2.trans (b3.mono HD.out.2.2.size)⟩
end Go.Proofs.Ytcmonalnhdodmaa.Unp
