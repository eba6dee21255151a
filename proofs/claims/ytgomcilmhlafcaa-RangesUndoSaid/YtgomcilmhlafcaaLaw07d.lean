/-
  Layer 7's law RangesUndo.
-/
import Derived.Test.YtgomcilmhlafcaaLaw07a
namespace Go.Proofs.Ytgomcilmhlafcaa.Rng
open Go.RowKit

theorem has_add (l : List R) (r : R) (n : Int) : has (add l r) n = ((decide (r.1 ≤ n) && decide (n < r.2)) || has l n) := by
  rw [Bool.eq_iff_iff, has_iff, add_mem]
  simp [← has_iff, or_comm]
theorem has_undo (l : List R) (r : R) (n : Int) : has (rmv (nrm (add l r)) r) n = (!(decide (r.1 ≤ n) && decide (n < r.2)) && has l n) := by
  rw [Bool.eq_iff_iff, has_iff, rmv_mem, nrm_mem, add_mem]
  simp only [Bool.and_eq_true, Bool.not_eq_true', Bool.and_eq_false_iff, decide_eq_false_iff_not, has_iff]
  constructor
  · rintro ⟨h1 | h1, h2⟩
    · exact ⟨by omega, h1⟩
    · exact absurd h1 h2
  · rintro ⟨h1, h2⟩
    exact ⟨.inl h2, by omega⟩

set_option maxHeartbeats 4000000 in
theorem undo_ok (l : List R) (x y n : Int) (w : World) (A : Option Addr) (c : Nat) (h : Rs w w.heap.size A l) (hn : A = none → c = 0) :
    Calls Try.prog 7 #[.slice A l.length c, .agg #[I x, I y], I n] w fun e w' => e = .returned (.bool true) ∧ Below w.heap.size w w' := by
  have hbr : Cel (w.alloc (.cells #[I x, I y] 24)) w.heap.size 24 #[I x, I y] := Cel.new w _ _
  have h0 := h.al (.cells #[I x, I y] 24)
  have b0 := al w (.cells #[I x, I y] 24)
  have hs0 : w.heap.size < (w.alloc (.cells #[I x, I y] 24)).heap.size := by simp
  by_cases hf : l.length ≤ 60
  · have hfew := few_any l.length c A true (w.alloc (.cells #[I x, I y] 24)) (by simpa using hf)
    obtain ⟨w0, hw0⟩ : ∃ w0, w0 = w.alloc (.cells #[I x, I y] 24) := ⟨_, rfl⟩
    rw [← hw0] at hbr h0 b0 hs0 hfew
    go_enter Try.func7, Try.ntmps7
    go_wp2_with fail
    rw [← hw0]
    clear hw0
    refine hfew.mono ?_
    rintro e w1 ⟨rfl, rfl⟩
    clear hfew
    have x0 : w1.cell? ⟨w.heap.size, 0, none⟩ = some (I x) := hbr.cell 0
    have x1 : w1.cell? ⟨w.heap.size, 1, none⟩ = some (I y) := hbr.cell 1
    go_wp2_with fail
    refine (add_any l x y w1 A c h0 hn (by omega)).mono ?_
    rintro e w2 ⟨v2, rfl, ho2, b2⟩
    have hl2 := add_length l (x, y)
    have hha := has_add l (x, y) n
    have hhu := has_undo l (x, y) n
    have hl3 := rmv_length (x, y) (nrm_canon (add l (x, y)))
    have hl4 := nrm_length (add l (x, y))
    obtain ⟨P, hP⟩ : ∃ P, P = add l (x, y) := ⟨_, rfl⟩
    rw [← hP] at ho2 hl2 hha hhu hl3 hl4
    clear hP
    have x0' := (b2.cell (p := ⟨w.heap.size, 0, none⟩) hs0).trans x0
    have x1' := (b2.cell (p := ⟨w.heap.size, 1, none⟩) hs0).trans x1
    have r2 := h0.then_ b2
    clear x0 x1 h0 h
    obtain ⟨A2, k2, rfl, q2, _⟩ := ho2.reads
    clear ho2
    go_wp2_with fail
    refine (remove_any P x y w2 A2 k2 q2 (by omega)).mono ?_
    rintro e w3 ⟨v3, rfl, ho3, b3⟩
    obtain ⟨U, hU⟩ : ∃ U, U = rmv (nrm P) (x, y) := ⟨_, rfl⟩
    rw [← hU] at ho3 hhu hl3
    clear hU
    obtain ⟨A3, k3, rfl, q3, _⟩ := ho3.reads
    clear ho3
    have c3 := then_ b2 b3
    have y0 := (b3.cell (p := ⟨w.heap.size, 0, none⟩) (show w.heap.size < w2.heap.size by have := b2.size; omega)).trans x0'
    have y1 := (b3.cell (p := ⟨w.heap.size, 1, none⟩) (show w.heap.size < w2.heap.size by have := b2.size; omega)).trans x1'
    have r3 := r2.then_ b3
    have p3 := q2.then_ b3
    clear x0' x1' r2 q2 b2 b3
    obtain ⟨H, hH⟩ : ∃ H, H = has l n := ⟨_, rfl⟩
    have k1 := fun w' (b : Below w3.heap.size w3 w') => has_any P n w' A2 k2 (p3.then_ b) (by omega)
    have k2' := fun w' (b : Below w3.heap.size w3 w') => rhas_any l n w' A c (r3.then_ b) (by omega)
    have k3' := fun w' (b : Below w3.heap.size w3 w') => has_any U n w' A3 k3 (q3.then_ b) (by omega)
    simp only [hha, ← hH] at k1
    simp only [← hH] at k2'
    simp only [hhu, ← hH] at k3'
    have hfin : ∀ w', Below w3.heap.size w3 w' → Below w.heap.size w w' := fun w' b => b0.trans ((then_ c3 b).mono (by have := c3.size; omega))
    clear hha hhu hH p3 r3 q3 c3 b0
    have HF := Lib.hid hfin
    clear hfin
    by_cases h1 : x ≤ n
    · have h1' : decide (x ≤ n) = true := by simpa using h1
      by_cases h2 : n < y
      · have h2' : decide (n < y) = true := by simpa using h2
        simp only [h1', h2', Bool.and_self, Bool.true_or, Bool.not_true, Bool.false_and] at k1 k3'
        go_wp2_with fail
        refine (k1 w3 (Below.refl _ _)).mono ?_
        rintro e w4 ⟨rfl, b4⟩
        go_wp2_with fail
        refine (k3' w4 b4).mono ?_
        rintro e w5 ⟨rfl, b5⟩
        have b6 := then_ b4 b5
        clear k1 k2' k3' b4 b5
        go_wp2_with fail
        refine (alive_any w5).mono ?_
        rintro e w6 ⟨rfl, b7⟩
        go_wp2_with fail
        go_ret
        exact ⟨rfl, HF.out _ (then_ b6 b7)⟩
      · have h2' : decide (n < y) = false := by simpa using h2
        simp only [h1', h2', Bool.and_false, Bool.false_or, Bool.not_false, Bool.true_and] at k1 k3'
        go_wp2_with fail
        refine (k1 w3 (Below.refl _ _)).mono ?_
        rintro e w4 ⟨rfl, b4⟩
        go_wp2_with fail
        refine (k2' w4 b4).mono ?_
        rintro e w5 ⟨rfl, rfl⟩
        have hHH : (H == H) = true := by simp
        go_wp2_with fail
        refine (k3' w5 b4).mono ?_
        rintro e w6 ⟨rfl, b6⟩
        have b7 := then_ b4 b6
        go_wp2_with fail
        refine (k2' w6 b7).mono ?_
        rintro e w8 ⟨rfl, rfl⟩
        clear k1 k2' k3' b4 b6
        go_wp2_with fail
        refine (alive_any w8).mono ?_
        rintro e w9 ⟨rfl, b9⟩
        go_wp2_with fail
        go_ret
        exact ⟨rfl, HF.out _ (then_ b7 b9)⟩
    · have h1' : decide (x ≤ n) = false := by simpa using h1
      simp only [h1', Bool.false_and, Bool.false_or, Bool.not_false, Bool.true_and] at k1 k3'
      go_wp2_with fail
      refine (k1 w3 (Below.refl _ _)).mono ?_
      rintro e w4 ⟨rfl, b4⟩
      go_wp2_with fail
      refine (k2' w4 b4).mono ?_
      rintro e w5 ⟨rfl, rfl⟩
      have hHH : (H == H) = true := by simp
      go_wp2_with fail
      refine (k3' w5 b4).mono ?_
      rintro e w6 ⟨rfl, b6⟩
      have b7 := then_ b4 b6
      go_wp2_with fail
      refine (k2' w6 b7).mono ?_
      rintro e w8 ⟨rfl, rfl⟩
      clear k1 k2' k3' b4 b6
      go_wp2_with fail
      refine (alive_any w8).mono ?_
      rintro e w9 ⟨rfl, b9⟩
      go_wp2_with fail
      go_ret
      exact ⟨rfl, HF.out _ (then_ b7 b9)⟩
  · have hfew := few_any l.length c A false (w.alloc (.cells #[I x, I y] 24)) (by simpa using hf)
    go_enter Try.func7, Try.ntmps7
    go_wp2_with fail
    refine hfew.mono ?_
    rintro e w1 ⟨rfl, rfl⟩
    clear hfew
    go_wp2_with fail
    refine (alive_any _).mono ?_
    rintro e w2 ⟨rfl, b1⟩
    go_wp2_with fail
    go_ret
    exact ⟨rfl, al_then b1⟩
end Go.Proofs.Ytgomcilmhlafcaa.Rng
