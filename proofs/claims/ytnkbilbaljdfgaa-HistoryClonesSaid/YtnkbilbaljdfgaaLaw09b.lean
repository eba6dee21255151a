/-
  The laws of layer 9: the chapter's examples (lives); nil and zero values: the law HistoryNone.
-/
import Derived.Test.YtnkbilbaljdfgaaLaw09a
namespace Go.Proofs.Ytnkbilbaljdfgaa.His
open Go.RowKit Go.Shelf Ints

/-- two Histories, apart from each other -/
structure T2 (w0 w : World) (B g1 g2 c1 c2 : Nat) (L1 L2 : List Int) (D1 D2 : Int) : Prop where
  o : ∃ F1 F2, HO w B g1 c1 L1 D1 F1 ∧ HO w B g2 c2 L2 D2 F2 ∧ Dis F1 F2
  b : Below B w0 w
  s : B ≤ w.heap.size
section
variable {w0 w w' : World} {B g1 g2 c1 c2 : Nat} {D1 D2 D' : Int} {L1 L2 L' : List Int} {V : Int} {E : Bool}
theorem T2.below (h : T2 w0 w B g1 g2 c1 c2 L1 L2 D1 D2) (k : Below w.heap.size w w') : T2 w0 w' B g1 g2 c1 c2 L1 L2 D1 D2 := by
  obtain ⟨⟨F1, F2, h1, h2, hd⟩, b, s⟩ := h
  exact ⟨⟨F1, F2, h1.below k, h2.below k, hd⟩, b.trans (k.mono s), Nat.le_trans s k.size⟩
theorem T2.swap (h : T2 w0 w B g1 g2 c1 c2 L1 L2 D1 D2) : T2 w0 w B g2 g1 c2 c1 L2 L1 D2 D1 := by
  obtain ⟨⟨F1, F2, h1, h2, hd⟩, b, s⟩ := h
  exact ⟨⟨F2, F1, h2, h1, hd.symm⟩, b, s⟩
theorem T2.add (h : T2 w0 w B g1 g2 c1 c2 L1 L2 D1 D2) (x : Int) (hV : outV c1 x L1 = V) (hE : outB c1 L1 = E) (hL : kept c1 x L1 = L') (hD' : lost c1 L1 D1 = D') :
    Calls Try.prog 12 #[.pointer (some ⟨g1, 0, none⟩), I x] w fun e w' => e = .returned (.tuple #[I V, .bool E]) ∧ T2 w0 w' B g1 g2 c1 c2 L' L2 D' D2 := by
  obtain ⟨⟨F1, F2, h1, h2, hd⟩, b, s⟩ := h
  refine (h1.add s x hV hE hL hD').mono ?_
  rintro e w' ⟨rfl, F', h', hO, hF⟩
  exact ⟨rfl, ⟨F', F2, h', h2.only hO hd.symm, hd.next hF (fun i hi => (h2.lt i hi).2)⟩, b.trans (hO.below s (fun i hi => (h1.lt i hi).1)), Nat.le_trans s hO.size⟩
theorem T2.one (h : T2 w0 w B g1 g2 c1 c2 L1 L2 D1 D2) : ∃ F, HO w B g1 c1 L1 D1 F := by
  obtain ⟨⟨F1, F2, h1, h2, hd⟩, b, s⟩ := h
  exact ⟨F1, h1⟩
theorem T2.two (h : T2 w0 w B g1 g2 c1 c2 L1 L2 D1 D2) : ∃ F, HO w B g2 c2 L2 D2 F := by
  obtain ⟨⟨F1, F2, h1, h2, hd⟩, b, s⟩ := h
  exact ⟨F2, h2⟩
end

set_option maxHeartbeats 2000000 in
set_option maxRecDepth 100000 in
theorem lives_any (w : World) : Calls Try.prog 9 #[] w fun e w' => e = .returned (.bool true) ∧ Below w.heap.size w w' := by
  have hnew := HO.new (B := w.heap.size) 2 w (Nat.le_refl _)
  have hnew2 := fun (W : World) (hW : w.heap.size ≤ W.heap.size) => HO.new (B := w.heap.size) 0 W hW
  rw [show hcap 2 = 2 by decide] at hnew
  rw [show hcap 0 = 0 by decide] at hnew2
  obtain ⟨g, hg⟩ : ∃ g, g = w.heap.size := ⟨_, rfl⟩
  rw [← hg] at hnew hnew2 ⊢
  clear hg
  go_enter Try.func9, Try.ntmps9
  go_wp2_with fail
  refine hnew.mono ?_
  rintro e w1 ⟨rfl, h1, b1, s1⟩
  go_wp2_with fail
  refine (hnew2 w1 (by omega)).mono ?_
  rintro e w2 ⟨rfl, h2, b2, s2⟩
  obtain ⟨q, hq⟩ : ∃ q, q = w1.heap.size := ⟨_, rfl⟩
  rw [← hq] at h2 s2 ⊢
  have q0 : T2 w w2 g g q 2 0 [] [] 0 0 := ⟨⟨_, _, h1.below b2, h2, fun i hi hi2 => by simp at hi hi2; omega⟩, b1.trans (b2.mono (by omega)), by omega⟩
  clear hnew hnew2 h1 h2 b1 b2 s1 s2 hq
  go_wp2_with fail
  refine (q0.add 5 (V := 0) (E := false) (L' := [5]) (D' := 0) (by decide) (by decide) (by decide) rfl).mono ?_
  rintro e w3 ⟨rfl, q1⟩
  clear q0
  go_wp2_with fail
  refine (q1.add 6 (V := 0) (E := false) (L' := [5, 6]) (D' := 0) (by decide) (by decide) (by decide) rfl).mono ?_
  rintro e w4 ⟨rfl, q2⟩
  clear q1
  go_wp2_with fail
  refine (q2.add 7 (V := 5) (E := true) (L' := [6, 7]) (D' := 1) (by decide) (by decide) (by decide) (lost_some (by decide) (by omega))).mono ?_
  rintro e w5 ⟨rfl, q3⟩
  clear q2
  go_wp2_with fail
  refine (q3.swap.add 5 (V := 5) (E := true) (L' := []) (D' := 1) (by decide) (by decide) (by decide) (lost_some (by decide) (by omega))).mono ?_
  rintro e w6 ⟨rfl, q4⟩
  replace q4 := q4.swap
  obtain ⟨F, h4⟩ := q4.one
  clear q3
  go_wp2_with fail
  refine (h4.items (n := 2) rfl).mono ?_
  rintro e w7 ⟨A7, c7, rfl, o7, b7⟩
  have q5 := q4.below b7
  have b8 : Below w7.heap.size w7 (w7.alloc (.cells #[I 6, I 7] 3)) := (Below.refl _ w7).alloc (Nat.le_refl _) _
  have q6 := q5.below b8
  have hsame := rsame_any [6, 7] [6, 7] (w7.alloc (.cells #[I 6, I 7] 3)) A7 (some ⟨w7.heap.size, 0, none⟩) c7 2 (On_ns (o7.alloc _)) (Ns_new w7 _ [6, 7] _ rfl _ (by simp)) (by simp)
  rw [show decide ([6, 7] = ([6, 7] : List Int)) = true by decide] at hsame
  clear q4 h4 b7 q5
  go_wp2_with fail
  refine hsame.mono ?_
  rintro e w8 ⟨rfl, b9⟩
  have q7 := q6.below b9
  obtain ⟨F, h7⟩ := q7.one
  obtain ⟨F', k7⟩ := q7.two
  clear hsame q6 b8 b9 o7
  go_wp2_with fail
  refine (h7.has 5 (E := false) (by decide)).mono ?_
  rintro e w9 ⟨rfl, rfl⟩
  go_wp2_with fail
  refine (h7.has 7 (E := true) (by decide)).mono ?_
  rintro e w9 ⟨rfl, rfl⟩
  go_wp2_with fail
  refine h7.dropped.mono ?_
  rintro e w9 ⟨rfl, rfl⟩
  go_wp2_with fail
  refine (h7.len (n := 2) rfl).mono ?_
  rintro e w9 ⟨rfl, rfl⟩
  go_wp2_with fail
  refine (k7.len (n := 0) rfl).mono ?_
  rintro e w9 ⟨rfl, rfl⟩
  go_wp2_with fail
  go_ret
  exact ⟨rfl, q7.b⟩

set_option maxHeartbeats 1000000 in
theorem historyNone_walk (v : Int) (w : World) : Calls Try.prog 6 #[I v] w fun e w' => e = .returned (.bool true) ∧ Below w.heap.size w w' := by
  obtain ⟨w1, hw1⟩ : ∃ w1, w1 = w.alloc (.cells #[.bool false, I 0, .slice none 0 0, I 0] 44) := ⟨_, rfl⟩
  have b1 : Below w.heap.size w w1 := by rw [hw1]; exact (Below.refl _ w).alloc (Nat.le_refl _) _
  have c0 : w1.cell? ⟨w.heap.size, 0, none⟩ = some (.bool false) := by rw [hw1]; simp
  have hn : Idle w1 none := h_works_nil w1
  have hz : Idle w1 (some ⟨w.heap.size, 0, none⟩) := h_works_zero w1 _ c0
  have hal := lives_any w1
  have hs := b1.size
  clear c0
  go_enter Try.func6, Try.ntmps6
  go_wp2_with fail
  rw [← hw1]
  clear hw1
  refine (nadd hn v).mono ?_
  rintro e w2 ⟨rfl, rfl⟩
  go_wp2_with fail
  refine (nadd hz v).mono ?_
  rintro e w2 ⟨rfl, rfl⟩
  go_wp2_with fail
  refine (nhas hn v).mono ?_
  rintro e w2 ⟨rfl, rfl⟩
  go_wp2_with fail
  refine (nhas hz v).mono ?_
  rintro e w2 ⟨rfl, rfl⟩
  go_wp2_with fail
  refine (nclone hn).mono ?_
  rintro e w2 ⟨rfl, rfl⟩
  go_wp2_with fail
  refine (nclone hz).mono ?_
  rintro e w2 ⟨rfl, rfl⟩
  go_wp2_with fail
  refine (nitems hn).mono ?_
  rintro e w2 ⟨rfl, rfl⟩
  go_wp2_with fail
  refine (nitems hz).mono ?_
  rintro e w2 ⟨rfl, rfl⟩
  go_wp2_with fail
  refine (nlen hn).mono ?_
  rintro e w2 ⟨rfl, rfl⟩
  go_wp2_with fail
  refine (nlen hz).mono ?_
  rintro e w2 ⟨rfl, rfl⟩
  go_wp2_with fail
  refine (ndropped hn).mono ?_
  rintro e w2 ⟨rfl, rfl⟩
  go_wp2_with fail
  refine (ndropped hz).mono ?_
  rintro e w2 ⟨rfl, rfl⟩
  go_wp2_with fail
  refine hal.mono ?_
  rintro e w3 ⟨rfl, b3⟩
  go_wp2_with fail
  go_ret
  exact ⟨rfl, b1.trans (b3.mono hs)⟩
end Go.Proofs.Ytnkbilbaljdfgaa.His
