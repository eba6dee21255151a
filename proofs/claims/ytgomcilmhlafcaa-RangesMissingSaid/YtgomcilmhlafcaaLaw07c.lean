/-
  Layer 7's law RangesMissing.
-/
import Derived.Test.YtgomcilmhlafcaaLaw07a
namespace Go.Proofs.Ytgomcilmhlafcaa.Rng
open Go.RowKit

theorem has_mis (l : List R) (T n : Int) : has (mis l T) n = (decide (0 ≤ n) && decide (n < T) && !(has l n)) := by
  rw [Bool.eq_iff_iff, has_iff, mis_mem]
  simp [← has_iff, and_assoc]

set_option maxHeartbeats 2000000 in
theorem missing_ok (l : List R) (T : Int) (w : World) (A : Option Addr) (c : Nat) (h : Rs w w.heap.size A l) :
    Calls Try.prog 6 #[.slice A l.length c, I T] w fun e w' => e = .returned (.bool true) ∧ Below w.heap.size w w' := by
  by_cases hf : l.length ≤ 60 ∧ T ≤ 300
  · obtain ⟨hf, hT⟩ := hf
    have hfew := few_any l.length c A true w (by simpa using hf)
    have hTd : decide ((300 : Int) < T) = false := by simp; omega
    go_enter Try.func6, Try.ntmps6
    go_wp2_with fail
    refine hfew.mono ?_
    rintro e w0 ⟨rfl, rfl⟩
    clear hfew
    go_wp2_with fail
    refine (missing_any l T w0 A c h (by omega)).mono ?_
    rintro e w2 ⟨v2, rfl, ho2, b2⟩
    have hl1 := mis_length l T
    have hm : ∀ n, has (mis l T) n = (decide (0 ≤ n) && decide (n < T) && !(has l n)) := has_mis l T
    obtain ⟨M, hM⟩ : ∃ M, M = mis l T := ⟨_, rfl⟩
    rw [← hM] at ho2 hl1
    simp only [← hM] at hm
    have HM := Lib.hid hm
    clear hM hm
    obtain ⟨A2, k2, rfl, r2, _⟩ := ho2.reads
    have r1 := h.then_ b2
    clear ho2
    go_wp2_with fail
    go_loopw [6] (fun i wr => ∃ k : Nat, i = .int .i64 k ∧ (k : Int) ≤ max T 0 ∧ Below w2.heap.size w2 wr) (fun i _ => (max T 0).toNat - (intOf i).toNat)
    case atStart => exact ⟨0, rfl, by simp; omega, Below.refl _ _⟩
    case round =>
      obtain ⟨k, rfl, hk, bel⟩ := hrel
      have q1 := r1.then_ bel
      have q2 := r2.then_ bel
      by_cases hlt : (k : Int) < T
      · have hd1 : decide ((k : Int) < T) = true := by simpa using hlt
        have c1 := has_any l k wr A c q1 (by omega)
        have c2 := fun w1 (b : Below wr.heap.size wr w1) => has_any M k w1 A2 k2 (q2.then_ b) (by omega)
        have e2 : has M k = !(has l k) := by rw [HM.out]; simp [hlt]
        simp only [e2] at c2
        obtain ⟨H, hH⟩ : ∃ H, H = has l k := ⟨_, rfl⟩
        rw [← hH] at c1
        simp only [← hH] at c2
        clear hH e2
        have hw : wrap64 ((k : Int) + 1) = ((k + 1 : Nat) : Int) := by unfold wrap64; omega
        go_wp2_with fail
        refine c1.mono ?_
        rintro e w4 ⟨rfl, b4⟩
        go_wp2_with fail
        refine (c2 w4 b4).mono ?_
        rintro e w5 ⟨rfl, b5⟩
        have b6 := then_ bel (then_ b4 b5)
        have hne : (H == !H) = false := by cases H <;> rfl
        clear c1 c2 b4 b5 bel q1 q2
        cases H
        all_goals
          go_wp2_with fail
          go_roundw
          case rel => exact ⟨k + 1, by simp, by omega, b6⟩
          case measure => simp [intOf]; omega
      · have hd1 : decide ((k : Int) < T) = false := by simpa using hlt
        have c1 := has_any M (-1) wr A2 k2 q2 (by omega)
        have e1 : has M (-1) = false := by rw [HM.out]; simp
        obtain ⟨X, hX⟩ : ∃ X, X = max T 0 := ⟨_, rfl⟩
        have hX2 : (if T < 0 then (0 : Int) else T) = X := by rw [hX]; split <;> omega
        have hX3 : max T 0 = X := hX.symm
        have e2 : has M X = false := by
          rw [HM.out]
          have : ¬ X < T ∨ ¬ 0 ≤ X := by omega
          rcases this with h | h <;> simp [h]
        have c2 := fun w1 (b : Below wr.heap.size wr w1) => has_any M X w1 A2 k2 (q2.then_ b) (by omega)
        rw [e1] at c1
        simp only [e2] at c2
        clear e1 e2 hX
        go_wp2_with fail
        refine c1.mono ?_
        rintro e w4 ⟨rfl, b4⟩
        go_wp2_with fail
        refine (c2 w4 b4).mono ?_
        rintro e w5 ⟨rfl, b5⟩
        have b6 := then_ b2 (then_ bel (then_ b4 b5))
        clear c1 c2 b4 b5 bel q1 q2
        go_wp2_with fail
        refine (alive_any w5).mono ?_
        rintro e w8 ⟨rfl, b8⟩
        have c8 := then_ b6 b8
        go_wp2_with fail
        go_ret
        exact ⟨rfl, c8⟩
  · by_cases hf2 : l.length ≤ 60
    · have hfew := few_any l.length c A true w (by simpa using hf2)
      have hTd : decide ((300 : Int) < T) = true := by simp; omega
      go_enter Try.func6, Try.ntmps6
      go_wp2_with fail
      refine hfew.mono ?_
      rintro e w0 ⟨rfl, rfl⟩
      clear hfew
      go_wp2_with fail
      refine (alive_any w0).mono ?_
      rintro e w1 ⟨rfl, b1⟩
      go_wp2_with fail
      go_ret
      exact ⟨rfl, b1⟩
    · have hfew := few_any l.length c A false w (by simpa using hf2)
      go_enter Try.func6, Try.ntmps6
      go_wp2_with fail
      refine hfew.mono ?_
      rintro e w0 ⟨rfl, rfl⟩
      clear hfew
      go_wp2_with fail
      refine (alive_any w0).mono ?_
      rintro e w1 ⟨rfl, b1⟩
      go_wp2_with fail
      go_ret
      exact ⟨rfl, b1⟩
end Go.Proofs.Ytgomcilmhlafcaa.Rng
