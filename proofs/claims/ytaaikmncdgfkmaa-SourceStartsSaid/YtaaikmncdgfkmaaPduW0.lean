/-
  Package pdu: within, validClass, validCode, validPiece, validID, Forward; the reference's classed, coded, Forward.
-/
import Derived.Test.YtaaikmncdgfkmaaPduH
import Derived.Deep.QuietTactic
import Derived.BigQuiet
import Derived.BigRegion
namespace Go.Proofs.Ytaaikmncdgfkmaa.Pdu
open Go.RowKit Go.Proofs.Ytaaikmncdgfkmaa.Row

set_option maxHeartbeats 400000 in
theorem pwithin_any (n m : Int) (w : World) :
    Calls Try.prog 54 #[I n, I m] w fun e w' => e = .returned (.bool (wi n m)) ∧ w = w' := by
  by_cases h0 : 0 ≤ n
  · by_cases h1 : n ≤ m
    · rw [show wi n m = true from decide_eq_true ⟨h0, h1⟩]
      go_enter Try.func54, Try.ntmps54
      go_wp2
      go_ret
      exact ⟨rfl, rfl⟩
    · rw [show wi n m = false from decide_eq_false (fun h => h1 h.2)]
      have t1 : decide (n ≤ m) = false := decide_eq_false h1
      clear h1
      go_enter Try.func54, Try.ntmps54
      go_wp2
      go_ret
      exact ⟨rfl, rfl⟩
  · rw [show wi n m = false from decide_eq_false (fun h => h0 h.1)]
    have t1 : decide (0 ≤ n) = false := decide_eq_false h0
    clear h0
    go_enter Try.func54, Try.ntmps54
    go_wp2
    go_ret
    exact ⟨rfl, rfl⟩
set_option maxHeartbeats 400000 in
theorem pclass_any (c : Int) (w : World) :
    Calls Try.prog 55 #[I c] w fun e w' => e = .returned (.bool (vcl c)) ∧ w = w' := by
  by_cases h0 : c = 1
  · subst h0
    go_enter Try.func55, Try.ntmps55
    go_wp2
    go_ret
    exact ⟨rfl, rfl⟩
  · have t1 : (c == 1) = false := by simpa using h0
    have e : vcl c = (c == 2) := by unfold vcl; simp only [h0, false_or]; rfl
    rw [e]
    clear h0 e
    go_enter Try.func55, Try.ntmps55
    go_wp2
    go_ret
    exact ⟨rfl, rfl⟩
set_option maxHeartbeats 400000 in
theorem pcode_any (c : Int) (w : World) :
    Calls Try.prog 58 #[I c] w fun e w' => e = .returned (.bool (wi c 17)) ∧ w = w' := by
  have u := fun W => pwithin_any c 17 W
  go_enter Try.func58, Try.ntmps58
  go_wp2_with fail
  refine (u _).mono ?_
  rintro e w1 ⟨rfl, rfl⟩
  go_wp2
  go_ret
  exact ⟨rfl, rfl⟩
set_option maxHeartbeats 400000 in
theorem ppiece_any (of : Int) (n : Nat) (w : World) :
    Calls Try.prog 57 #[I of, I (n : Int)] w fun e w' => e = .returned (.bool (vpc of n)) ∧ w = w' := by
  by_cases h0 : 1 ≤ n
  · by_cases h1 : n ≤ 512
    · have e : vpc of n = wi of (65536 - (n : Int)) := by unfold vpc wi; simp only [h0, h1, true_and]
      rw [e]
      have u := fun W => pwithin_any of (65536 - (n : Int)) W
      generalize hE : wi of (65536 - (n : Int)) = E at u ⊢
      clear e hE
      go_enter Try.func57, Try.ntmps57
      go_wp2_with fail
      refine (u _).mono ?_
      rintro e w1 ⟨rfl, rfl⟩
      go_wp2
      go_ret
      exact ⟨rfl, rfl⟩
    · rw [show vpc of n = false from decide_eq_false (fun h => h1 h.1.2)]
      have t1 : decide ((n : Int) ≤ 512) = false := decide_eq_false (by omega)
      have t2 : decide (n ≤ 512) = false := decide_eq_false h1
      clear h1
      go_enter Try.func57, Try.ntmps57
      go_wp2
      go_ret
      exact ⟨rfl, rfl⟩
  · obtain rfl : n = 0 := by omega
    rw [show vpc of 0 = false from decide_eq_false (fun h => h0 h.1.1)]
    clear h0
    go_enter Try.func57, Try.ntmps57
    go_wp2
    go_ret
    exact ⟨rfl, rfl⟩
set_option maxHeartbeats 400000 in
theorem pid_any (sr nm : Int) (w : World) :
    Calls Try.prog 38 #[.agg #[I sr, I nm]] w fun e w' => e = .returned (.bool (wi sr 15 && wi nm 65535)) ∧ Below w.heap.size w w' := by
  have u1 := fun W => pwithin_any sr 15 W
  have u2 := fun W => pwithin_any nm 65535 W
  obtain ⟨D1, h1⟩ : ∃ D, wi sr 15 = D := ⟨_, rfl⟩
  obtain ⟨D2, h2⟩ : ∃ D, wi nm 65535 = D := ⟨_, rfl⟩
  rw [h1] at u1 ⊢
  rw [h2] at u2 ⊢
  clear h1 h2
  cases D1 with
  | true =>
    rw [Bool.true_and]
    go_enter Try.func38, Try.ntmps38
    go_wp2_with fail
    refine (u1 _).mono ?_
    rintro e w1 ⟨rfl, rfl⟩
    go_wp2_with fail
    refine (u2 _).mono ?_
    rintro e w1 ⟨rfl, rfl⟩
    go_wp2
    go_ret
    exact ⟨rfl, bel_new _ _⟩
  | false =>
    rw [Bool.false_and]
    go_enter Try.func38, Try.ntmps38
    go_wp2_with fail
    refine (u1 _).mono ?_
    rintro e w1 ⟨rfl, rfl⟩
    go_wp2
    go_ret
    exact ⟨rfl, bel_new _ _⟩

/-- a unit of this kind goes to the receiver -/
def fwd (k : Int) : Bool := decide (k = 1 ∨ k = 2 ∨ k = 3 ∨ k = 7)
theorem fwd_no {k : Int} (h1 : ¬ k = 1) (h2 : ¬ k = 2) (h3 : ¬ k = 3) : fwd k = (k == 7) := by unfold fwd; simp only [h1, h2, h3, false_or]; rfl
set_option maxHeartbeats 400000 in
theorem pfwd_any (k : Int) (w : World) :
    Calls Try.prog 34 #[I k] w fun e w' => e = .returned (.bool (fwd k)) ∧ w = w' := by
  by_cases h1 : k = 1
  · subst h1
    go_enter Try.func34, Try.ntmps34
    go_wp2
    go_ret
    exact ⟨rfl, rfl⟩
  by_cases h2 : k = 2
  · subst h2
    clear h1
    go_enter Try.func34, Try.ntmps34
    go_wp2
    go_ret
    exact ⟨rfl, rfl⟩
  by_cases h3 : k = 3
  · subst h3
    clear h1 h2
    go_enter Try.func34, Try.ntmps34
    go_wp2
    go_ret
    exact ⟨rfl, rfl⟩
  by_cases h4 : k = 7
  · subst h4
    clear h1 h2 h3
    go_enter Try.func34, Try.ntmps34
    go_wp2
    go_ret
    exact ⟨rfl, rfl⟩
  rw [fwd_no h1 h2 h3, show (k == 7) = false by simpa using h4]
  have t1 : (k == 1) = false := by simpa using h1
  have t2 : (k == 2) = false := by simpa using h2
  have t3 : (k == 3) = false := by simpa using h3
  have t4 : (k == 7) = false := by simpa using h4
  clear h1 h2 h3 h4
  go_enter Try.func34, Try.ntmps34
  go_wp2
  go_ret
  exact ⟨rfl, rfl⟩
set_option maxHeartbeats 400000 in
theorem rclassed_any (k : Int) (w : World) :
    Calls Try.prog 43 #[I k] w fun e w' => e = .returned (.bool (decide (k = 1 ∨ k = 3))) ∧ w = w' := by
  by_cases h1 : k = 1
  · subst h1
    go_enter Try.func43, Try.ntmps43
    go_wp2
    go_ret
    exact ⟨rfl, rfl⟩
  have e : decide (k = 1 ∨ k = 3) = (k == 3) := by simp only [h1, false_or]; rfl
  rw [e]
  have t1 : (k == 1) = false := by simpa using h1
  clear h1 e
  go_enter Try.func43, Try.ntmps43
  go_wp2
  go_ret
  exact ⟨rfl, rfl⟩
set_option maxHeartbeats 400000 in
theorem rcoded_any (k : Int) (w : World) :
    Calls Try.prog 45 #[I k] w fun e w' => e = .returned (.bool (decide (k = 3 ∨ k = 5))) ∧ w = w' := by
  by_cases h1 : k = 3
  · subst h1
    go_enter Try.func45, Try.ntmps45
    go_wp2
    go_ret
    exact ⟨rfl, rfl⟩
  have e : decide (k = 3 ∨ k = 5) = (k == 5) := by simp only [h1, false_or]; rfl
  rw [e]
  have t1 : (k == 3) = false := by simpa using h1
  clear h1 e
  go_enter Try.func45, Try.ntmps45
  go_wp2
  go_ret
  exact ⟨rfl, rfl⟩
end Go.Proofs.Ytaaikmncdgfkmaa.Pdu
