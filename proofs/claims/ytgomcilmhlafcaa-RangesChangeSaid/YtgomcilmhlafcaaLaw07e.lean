/-
  Layer 7's law RangesChange.
-/
import Derived.Test.YtgomcilmhlafcaaLaw07a
import Derived.Test.YtgomcilmhlafcaaRngR5
namespace Go.Proofs.Ytgomcilmhlafcaa.Rng
open Go.RowKit

set_option maxHeartbeats 2000000 in
theorem change_ok (l : List R) (x y : Int) (w : World) (A : Option Addr) (c : Nat) (h : Rs w w.heap.size A l) (hn : A = none → c = 0) :
    Calls Try.prog 3 #[.slice A l.length c, .agg #[I x, I y]] w fun e w' => e = .returned (.bool true) ∧ Below w.heap.size w w' := by
  have hbr : Cel (w.alloc (.cells #[I x, I y] 24)) w.heap.size 24 #[I x, I y] := Cel.new w _ _
  have h0 := h.al (.cells #[I x, I y] 24)
  have b0 := al w (.cells #[I x, I y] 24)
  have hs0 : w.heap.size < (w.alloc (.cells #[I x, I y] 24)).heap.size := by simp
  by_cases hf : l.length ≤ 60
  · have hfew := few_any l.length c A true (w.alloc (.cells #[I x, I y] 24)) (by simpa using hf)
    obtain ⟨w0, hw0⟩ : ∃ w0, w0 = w.alloc (.cells #[I x, I y] 24) := ⟨_, rfl⟩
    rw [← hw0] at hbr h0 b0 hs0 hfew
    go_enter Try.func3, Try.ntmps3
    go_wp2_with fail
    rw [← hw0]
    clear hw0
    refine hfew.mono ?_
    rintro e w1 ⟨rfl, rfl⟩
    clear hfew
    have x0 : w1.cell? ⟨w.heap.size, 0, none⟩ = some (I x) := hbr.cell 0
    have x1 : w1.cell? ⟨w.heap.size, 1, none⟩ = some (I y) := hbr.cell 1
    have hcon := add_any l x y w1.drew A c (Rs.drew5 h0) hn (by omega)
    have hla := add_length l (x, y)
    have hlr := rmv_length (x, y) (nrm_canon l)
    have hln := nrm_length l
    have hva := vld_canon (add_canon l (x, y))
    have hvr := vld_canon (rmv_canon (x, y) (nrm_canon l))
    have hrem := fun w2 (b : Below w1.heap.size w1 w2) => remove_any l x y w2 A c (h0.then_ b) (by omega)
    have hradd := fun w2 (b : Below w1.heap.size w1 w2) => radd_any l x y w2 A c (h0.then_ b) (by omega)
    have hrrem := fun w2 (b : Below w1.heap.size w1 w2) => rremove_any l x y w2 A c (h0.then_ b) (by omega)
    have hval := fun w2 (b : Below w1.heap.size w1 w2) => valid_any l w2 A c (h0.then_ b) (by omega)
    have hrval := fun w2 (b : Below w1.heap.size w1 w2) => rvalid_any l w2 A c (h0.then_ b) (by omega)
    obtain ⟨P, hP⟩ : ∃ P, P = add l (x, y) := ⟨_, rfl⟩
    obtain ⟨U, hU⟩ : ∃ U, U = rmv (nrm l) (x, y) := ⟨_, rfl⟩
    obtain ⟨V, hV⟩ : ∃ V, V = vld l := ⟨_, rfl⟩
    rw [← hP] at hcon hla hva
    rw [← hU] at hlr hvr
    simp only [← hP] at hradd
    simp only [← hU] at hrem hrrem
    simp only [← hV] at hval hrval
    clear hP hU hV h h0 hbr
    go_wp2_with fail
    refine wp_region_held_drew (S := (fun w' => w'.cell? ⟨w.heap.size, 0, none⟩ = some (I x) ∧ w'.cell? ⟨w.heap.size, 1, none⟩ = some (I y))) (by kernel_rfl) (⟨x0, x1⟩) (fun hHeld => ?_)
    refine wpAnyH_here 0 (v := ?_) rfl (by kernel_rfl) (by kernel_rfl) (by kernel_rfl) (fun _ _ _ h => h) (Or.inl ⟨by rfl, ?_⟩) hHeld ?_
    rotate_left
    · intro w hSw; (try dsimp only at hSw); go_simp; all_goals (with_reducible rfl)
    try simp only [Act.put, List.setIfInBounds_toArray, List.set_cons_zero, List.set_cons_succ]
    refine wpAnyH_here 1 (v := ?_) rfl (by kernel_rfl) (by kernel_rfl) (by kernel_rfl) (fun _ _ _ h => h) (Or.inl ⟨by rfl, ?_⟩) hHeld ?_
    rotate_left
    · intro w hSw; (try dsimp only at hSw); go_simp; all_goals (with_reducible rfl)
    try simp only [Act.put, List.setIfInBounds_toArray, List.set_cons_zero, List.set_cons_succ]
    refine wpAnyH_here 3 (v := ?_) rfl (by kernel_rfl) (by kernel_rfl) (by kernel_rfl) (fun _ _ _ h => h) (Or.inl ⟨by rfl, ?_⟩) hHeld ?_
    rotate_left
    · intro w hSw; (try dsimp only at hSw); go_simp; all_goals (with_reducible rfl)
    try simp only [Act.put, List.setIfInBounds_toArray, List.set_cons_zero, List.set_cons_succ]
    refine wpAnyH_here 4 (v := ?_) rfl (by kernel_rfl) (by kernel_rfl) (by kernel_rfl) (fun _ _ _ h => h) (Or.inl ⟨by rfl, ?_⟩) hHeld ?_
    rotate_left
    · intro w hSw; (try dsimp only at hSw); go_simp; all_goals (with_reducible rfl)
    try simp only [Act.put, List.setIfInBounds_toArray, List.set_cons_zero, List.set_cons_succ]
    refine wpAnyH_alone 2 rfl (by kernel_rfl) (fun K hK => ?_)
    go_simp
    (go_at_call 10; refine hcon.mono ?_; rintro e w2 ⟨v2, rfl, ho2, hb2⟩; have bb2 : Below w1.heap.size w1 w2 := (bel_drew (Below.refl w1.heap.size w1)).trans hb2; have e0 := (bb2.cell (p := ⟨w.heap.size, 0, none⟩) hs0).trans x0; have e1 := (bb2.cell (p := ⟨w.heap.size, 1, none⟩) hs0).trans x1)
    refine hK.out _ _ (⟨e0, e1⟩) (fun hHeld => ?_)
    clear hK K
    try simp only [Act.put, List.setIfInBounds_toArray, List.set_cons_zero, List.set_cons_succ]
    refine wpAnyH_alone 5 rfl (by kernel_rfl) (fun K hK => ?_)
    go_simp
    (go_at_call 11; refine (hrem w2 bb2).mono ?_; rintro e w3 ⟨v3, rfl, ho3, hb3⟩; have hs2 : w.heap.size < w2.heap.size := Nat.lt_of_lt_of_le hs0 bb2.size; have f0 := (hb3.cell (p := ⟨w.heap.size, 0, none⟩) hs2).trans e0; have f1 := (hb3.cell (p := ⟨w.heap.size, 1, none⟩) hs2).trans e1)
    refine hK.out _ _ (⟨f0, f1⟩) (fun hHeld => ?_)
    clear hK K
    try simp only [Act.put, List.setIfInBounds_toArray, List.set_cons_zero, List.set_cons_succ]
    refine wpAnyH_here 6 (v := ?_) rfl (by kernel_rfl) (by kernel_rfl) (by kernel_rfl) (fun _ _ _ h => h) (Or.inl ⟨by rfl, ?_⟩) hHeld ?_
    rotate_left
    · intro w hSw; (try dsimp only at hSw); go_simp; all_goals (with_reducible rfl)
    try simp only [Act.put, List.setIfInBounds_toArray, List.set_cons_zero, List.set_cons_succ]
    refine wpAnyH_here 7 (v := ?_) rfl (by kernel_rfl) (by kernel_rfl) (by kernel_rfl) (fun _ _ _ h => h) (Or.inl ⟨by rfl, ?_⟩) hHeld ?_
    rotate_left
    · intro w hSw; (try dsimp only at hSw); go_simp; all_goals (with_reducible rfl)
    try simp only [Act.put, List.setIfInBounds_toArray, List.set_cons_zero, List.set_cons_succ]
    refine wpAnyH_done (by kernel_rfl) ?_ _
    have c3 := then_ bb2 hb3
    have ho2' := ho2.below hb3
    obtain ⟨A2, k2, rfl, q2, _⟩ := ho2'.reads
    obtain ⟨A3, k3, rfl, q3, _⟩ := ho3.reads
    have y0 := (c3.cell (p := ⟨w.heap.size, 0, none⟩) hs0).trans x0
    have y1 := (c3.cell (p := ⟨w.heap.size, 1, none⟩) hs0).trans x1
    clear ho2 ho2' ho3 hcon hrem bb2 hb2 hb3 e0 e1 f0 f1
    go_wp2_with fail
    refine (hval w3 c3).mono ?_
    rintro e w4 ⟨rfl, b4⟩
    have c4 := then_ c3 b4
    go_wp2_with fail
    refine (hrval w4 c4).mono ?_
    rintro e w5 ⟨rfl, b5⟩
    have c5 := then_ c4 b5
    have d5 := then_ b4 b5
    have hVV : (V == V) = true := by simp
    have z0 := (c5.cell (p := ⟨w.heap.size, 0, none⟩) hs0).trans x0
    have z1 := (c5.cell (p := ⟨w.heap.size, 1, none⟩) hs0).trans x1
    clear hval hrval c3 c4 b4 b5 y0 y1
    go_wp2_with fail
    refine (hradd w5 c5).mono ?_
    rintro e w6 ⟨v6, rfl, ho6, b6⟩
    obtain ⟨A6, k6, rfl, q6, _⟩ := ho6.reads
    have d6 := then_ d5 b6
    have c6 := then_ c5 b6
    clear ho6 hradd c5 d5 b6 z0 z1
    go_wp2_with fail
    refine (same_any P w6 A2 A6 k2 k6 (q2.then_ d6) q6 (by omega)).mono ?_
    rintro e w7 ⟨rfl, b7⟩
    have d7 := then_ d6 b7
    have c7 := then_ c6 b7
    have z0 := (c7.cell (p := ⟨w.heap.size, 0, none⟩) hs0).trans x0
    have z1 := (c7.cell (p := ⟨w.heap.size, 1, none⟩) hs0).trans x1
    clear q6 d6 c6 b7
    go_wp2_with fail
    refine (hrrem w7 c7).mono ?_
    rintro e w8 ⟨v8, rfl, ho8, b8⟩
    obtain ⟨A8, k8, rfl, q8, _⟩ := ho8.reads
    have d8 := then_ d7 b8
    have c8 := then_ c7 b8
    clear ho8 hrrem c7 d7 b8 z0 z1
    go_wp2_with fail
    refine (same_any U w8 A3 A8 k3 k8 (q3.then_ d8) q8 (by omega)).mono ?_
    rintro e w9 ⟨rfl, b9⟩
    have d9 := then_ d8 b9
    have c9 := then_ c8 b9
    clear q8 d8 c8 b9
    have va := valid_any P w9 A2 k2 (q2.then_ d9) (by omega)
    have vb := fun w10 (b : Below w9.heap.size w9 w10) => valid_any U w10 A3 k3 ((q3.then_ d9).then_ b) (by omega)
    rw [hva] at va
    simp only [hvr] at vb
    clear q2 q3 d9
    go_wp2_with fail
    refine va.mono ?_
    rintro e w10 ⟨rfl, b10⟩
    go_wp2_with fail
    refine (vb w10 b10).mono ?_
    rintro e w11 ⟨rfl, b11⟩
    have c11 := then_ c9 (then_ b10 b11)
    clear va vb b10 b11 c9
    go_wp2_with fail
    refine (alive_any w11).mono ?_
    rintro e w12 ⟨rfl, b12⟩
    have c12 := then_ c11 b12
    go_wp2_with fail
    go_ret
    exact ⟨rfl, b0.trans (c12.mono b0.size)⟩
  · have hfew := few_any l.length c A false (w.alloc (.cells #[I x, I y] 24)) (by simpa using hf)
    go_enter Try.func3, Try.ntmps3
    go_wp2_with fail
    refine hfew.mono ?_
    rintro e w1 ⟨rfl, rfl⟩
    clear hfew
    go_wp2_with fail
    refine (alive_any _).mono ?_
    rintro e w2 ⟨rfl, b1⟩
    go_wp2_with fail
    go_ret
    exact ⟨rfl, al_then b1⟩
end Go.Proofs.Ytgomcilmhlafcaa.Rng
