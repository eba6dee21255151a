/-
  The walk of the law LinkNil.
-/
import Derived.Test.YtllhdgllgoanbaaLaw23a
namespace Go.Proofs.Ytllhdgllgoanbaa.Lnk
open Go.RowKit

set_option maxHeartbeats 4000000 in
set_option maxRecDepth 100000 in
theorem linkNil_walk (now : Int) (a : Option Addr) (n k : Nat) (w : World) (hn : n ≤ maxLen) :
    Calls Try.prog 6 #[I now, .slice a n k] w fun e w' => e = .returned (.bool true) ∧ Below w.heap.size w w' := by
  unfold maxLen at hn
  by_cases hb : 100 < n
  · have t1 : decide ((100 : Int) < (n : Int)) = true := by simp; omega
    have t1' : decide (100 < n) = true := by simpa using hb
    clear hb
    go_enter Try.func6, Try.ntmps6
    go_wp2_with fail
    refine (alive_any _).mono ?_
    rintro e w1 ⟨rfl, b1⟩
    go_wp2
    go_ret
    exact ⟨rfl, b1⟩
  · have t1 : decide ((100 : Int) < (n : Int)) = false := by simp; omega
    have t1' : decide (100 < n) = false := by simpa using hb
    have b1 := bel_new w (.cells #[.bool false, I 0, .slice none 0 0, .slice none 0 0, .slice none 0 0, I 0, I 0, .slice none 0 0] 61)
    have c0 : (w.alloc (.cells #[.bool false, I 0, .slice none 0 0, .slice none 0 0, .slice none 0 0, I 0, I 0, .slice none 0 0] 61)).cell? ⟨w.heap.size, 0, none⟩ = some (.bool false) := (Cel.new w 61 #[.bool false, I 0, .slice none 0 0, .slice none 0 0, .slice none 0 0, I 0, I 0, .slice none 0 0]).cell 0
    obtain ⟨w1, hw1⟩ : ∃ w1, w1 = w.alloc (.cells #[.bool false, I 0, .slice none 0 0, .slice none 0 0, .slice none 0 0, I 0, I 0, .slice none 0 0] 61) := ⟨_, rfl⟩
    rw [← hw1] at b1 c0
    clear hb
    go_enter Try.func6, Try.ntmps6
    go_wp2_with fail
    rw [← hw1]
    clear hw1
    refine (send_nil _ now a n k).mono ?_
    rintro e _ ⟨rfl, rfl⟩
    go_wp2_with fail
    refine (send_zero c0 now a n k).mono ?_
    rintro e _ ⟨rfl, rfl⟩
    go_wp2_with fail
    refine (recv_nil _ now).mono ?_
    rintro e _ ⟨rfl, rfl⟩
    go_wp2_with fail
    refine (recv_zero c0 now).mono ?_
    rintro e _ ⟨rfl, rfl⟩
    go_wp2_with fail
    refine (sent_nil _).mono ?_
    rintro e _ ⟨rfl, rfl⟩
    go_wp2_with fail
    refine (sent_zero c0).mono ?_
    rintro e _ ⟨rfl, rfl⟩
    go_wp2_with fail
    refine (pend_zero c0).mono ?_
    rintro e _ ⟨rfl, rfl⟩
    go_wp2_with fail
    refine (clone_nil _).mono ?_
    rintro e _ ⟨rfl, rfl⟩
    go_wp2_with fail
    refine (clone_zero c0).mono ?_
    rintro e _ ⟨rfl, rfl⟩
    go_wp2_with fail
    refine (alive_any _).mono ?_
    rintro e w2 ⟨rfl, b2⟩
    go_wp2
    go_ret
    exact ⟨rfl, b1.trans (b2.mono b1.size)⟩
end Go.Proofs.Ytllhdgllgoanbaa.Lnk
