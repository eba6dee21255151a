/-
  Layer 7's laws: few, alive.
-/
import Derived.Test.YtgomcilmhlafcaaRngW4
import Derived.Test.YtgomcilmhlafcaaRngW5
import Derived.Test.YtgomcilmhlafcaaRngW6
import Derived.Test.YtgomcilmhlafcaaRngR4
namespace Go.Proofs.Ytgomcilmhlafcaa.Rng
open Go.RowKit

theorem al (w : World) (o : Obj) : Below w.heap.size w (w.alloc o) := (Below.refl _ w).alloc (Nat.le_refl _) _
theorem al_then {w w2 : World} {o : Obj} (h : Below (w.alloc o).heap.size (w.alloc o) w2) : Below w.heap.size w w2 := (al w o).trans (h.mono (by simp))
theorem then_ {w w1 w2 : World} (h : Below w.heap.size w w1) (k : Below w1.heap.size w1 w2) : Below w.heap.size w w2 := h.trans (k.mono h.size)
theorem Rs.al {w : World} {A : Option Addr} {l : List R} (h : Rs w w.heap.size A l) (o : Obj) : Rs (w.alloc o) (w.alloc o).heap.size A l := (h.below (Rng.al w o)).more (by simp)
theorem Rs.then_ {w w2 : World} {A : Option Addr} {l : List R} (h : Rs w w.heap.size A l) (hb : Below w.heap.size w w2) : Rs w2 w2.heap.size A l := (h.below hb).more hb.size
theorem Rs_here (w : World) (l : List R) (C : Array Value) (hC : C = (flat l).toArray) : Rs (w.alloc (.cells C 24)) (w.alloc (.cells C 24)).heap.size (some ⟨w.heap.size, 0, none⟩) l := Rs_new w 24 l C hC _ (by simp)

set_option maxHeartbeats 400000 in
theorem few_any (n c : Nat) (A : Option Addr) (E : Bool) (w : World) (hE : decide (n ≤ 60) = E) : Calls Try.prog 8 #[.slice A n c] w fun e w' => e = .returned (.bool E) ∧ w' = w := by
  have hE2 : decide ((n : Int) ≤ 60) = E := by rw [← hE]; congr 1; exact propext (by omega)
  go_enter Try.func8, Try.ntmps8
  go_wp2
  go_ret
  exact ⟨rfl, rfl⟩

set_option maxHeartbeats 1000000 in
theorem alive_any (w : World) : Calls Try.prog 9 #[] w fun e w' => e = .returned (.bool true) ∧ Below w.heap.size w w' := by
  have e1 : add [(0, 2)] (2, 5) = [(0, 5)] := by decide
  have e2 : mis [(2, 6)] 10 = [(0, 2), (6, 10)] := by decide
  have e3 : rmv (nrm [(0, 5)]) (1, 3) = [(0, 1), (3, 5)] := by decide
  have e4 : hd (nrm [(0, 2), (6, 10)]) (Int.toNat 3) = [(0, 2), (6, 7)] := by decide
  have e5 : siz [(4, 6), (1, 5), (9, 8)] = 5 := by decide
  go_enter Try.func9, Try.ntmps9
  go_wp2_with fail
  refine (add_any [(0, 2)] 2 5 _ (some ⟨w.heap.size, 0, none⟩) 1 (Rs_here w [(0, 2)] _ rfl) (by simp) (by simp)).mono ?_
  rintro e w1 ⟨v1, rfl, ho1, hb1⟩
  rw [e1] at ho1
  have b1 := al_then hb1
  clear hb1 e1
  go_wp2_with fail
  refine (missing_any [(2, 6)] 10 _ (some ⟨w1.heap.size, 0, none⟩) 1 (Rs_here w1 [(2, 6)] _ rfl) (by simp)).mono ?_
  rintro e w2 ⟨v2, rfl, ho2, hb2⟩
  rw [e2] at ho2
  have b2 := al_then hb2
  have c2 := then_ b1 b2
  clear hb2 e2
  go_wp2_with fail
  refine (remove_any [(0, 5)] 1 3 _ (some ⟨w2.heap.size, 0, none⟩) 1 (Rs_here w2 [(0, 5)] _ rfl) (by simp)).mono ?_
  rintro e w3 ⟨v3, rfl, ho3, hb3⟩
  rw [e3] at ho3
  have b3 := al_then hb3
  have c3 := then_ c2 b3
  clear hb3 e3
  obtain ⟨A1, k1, rfl, r1, _⟩ := ((ho1.below b2).below b3).reads_len (n := 1) rfl
  obtain ⟨A2, k2, rfl, r2, _⟩ := (ho2.below b3).reads_len (n := 2) rfl
  obtain ⟨A3, k3, rfl, r3, _⟩ := ho3.reads_len (n := 2) rfl
  clear b1 b2 b3 c2 ho1 ho2 ho3
  go_wp2_with fail
  refine (same_any [(0, 5)] _ A1 (some ⟨w3.heap.size, 0, none⟩) k1 1 (r1.al _) (Rs_here w3 [(0, 5)] _ rfl) (by simp)).mono ?_
  rintro e w4 ⟨rfl, hb4⟩
  have b4 := al_then hb4
  have q2 := r2.then_ b4
  have q3 := r3.then_ b4
  have c4 := then_ c3 b4
  clear hb4 b4 r1 r2 r3 c3
  go_wp2_with fail
  refine (same_any [(0, 2), (6, 10)] _ A2 (some ⟨w4.heap.size, 0, none⟩) k2 2 (q2.al _) (Rs_here w4 [(0, 2), (6, 10)] _ rfl) (by simp)).mono ?_
  rintro e w5 ⟨rfl, hb5⟩
  have b5 := al_then hb5
  have r2 := q2.then_ b5
  have r3 := q3.then_ b5
  have c5 := then_ c4 b5
  clear hb5 b5 q2 q3 c4
  go_wp2_with fail
  refine (head_any [(0, 2), (6, 10)] 3 _ A2 k2 r2 (by simp) (fun x hx => by simp at hx; rcases hx with rfl | rfl <;> simp) (by omega) (by omega)).mono ?_
  rintro e w6 ⟨v6, rfl, ho6, b6⟩
  rw [e4] at ho6
  obtain ⟨A6, k6, rfl, r6, _⟩ := ho6.reads_len (n := 2) rfl
  have q3 := r3.then_ b6
  have c6 := then_ c5 b6
  clear b6 r2 r3 c5 ho6 e4
  go_wp2_with fail
  refine (same_any [(0, 2), (6, 7)] _ A6 (some ⟨w6.heap.size, 0, none⟩) k6 2 (r6.al _) (Rs_here w6 [(0, 2), (6, 7)] _ rfl) (by simp)).mono ?_
  rintro e w7 ⟨rfl, hb7⟩
  have b7 := al_then hb7
  have r3 := q3.then_ b7
  have c7 := then_ c6 b7
  clear hb7 b7 q3 c6 r6
  go_wp2_with fail
  refine (same_any [(0, 1), (3, 5)] _ A3 (some ⟨w7.heap.size, 0, none⟩) k3 2 (r3.al _) (Rs_here w7 [(0, 1), (3, 5)] _ rfl) (by simp)).mono ?_
  rintro e w8 ⟨rfl, hb8⟩
  have c8 := then_ c7 (al_then hb8)
  clear hb8 r3 c7
  go_wp2_with fail
  refine (size_any [(4, 6), (1, 5), (9, 8)] _ (some ⟨w8.heap.size, 0, none⟩) 3 (Rs_here w8 [(4, 6), (1, 5), (9, 8)] _ rfl) (by simp)).mono ?_
  rintro e w9 ⟨rfl, hb9⟩
  have c9 := then_ c8 (al_then hb9)
  rw [e5]
  clear hb9 c8 e5
  go_wp2_with fail
  go_ret
  exact ⟨rfl, c9⟩
end Go.Proofs.Ytgomcilmhlafcaa.Rng
