/-
  The laws of layer 8: steps of a play; the example of the chapter (alive).
-/
import Derived.Test.YtnnjmlpanbbanaaQueW5
import Derived.Test.YtnnjmlpanbbanaaRef08a
namespace Go.Proofs.Ytnnjmlpanbbanaa.Rng.Que
open Go.RowKit Go.Shelf Ints

theorem QPut.below {w wr : World} {base g cap B : Nat} {r : Option Nat} {L L0 : List R} (h : QPut w base g r cap L wr) (h0 : QW w base g r cap L0) (hb : B ≤ base) (hg : B ≤ g) : Below B w wr := by
  obtain ⟨_, _, _, hO⟩ := h
  have hl := h0.lt
  refine hO.below (by omega) (fun x hx => ?_)
  rcases List.mem_cons.1 hx with rfl | hx
  · exact hg
  · have := h0.row x (by simpa using hx)
    omega

/-- what is neither a Queue nor a row of entries is as it was -/
def Kp (w w' : World) : Prop := ∀ k t cs, Cel w k t cs → t ≠ 56 → t ≠ 61 → Cel w' k t cs
theorem Kp.trans {a b c : World} (h : Kp a b) (k : Kp b c) : Kp a c := fun i t cs hc h1 h2 => k i t cs (h i t cs hc h1 h2) h1 h2
theorem Kp.of_below {w w' : World} (h : Below w.heap.size w w') : Kp w w' := fun i _ _ hc _ _ => (h.block i hc.lt).trans hc
theorem Kp.drew {w w' : World} (h : Kp w w') : Kp w w'.drew := h
theorem Kp.put {w wr : World} {base g cap : Nat} {r : Option Nat} {L L0 : List R} (h : QPut w base g r cap L wr) (h0 : QW w base g r cap L0) : Kp w wr := by
  obtain ⟨_, _, _, hO⟩ := h
  obtain ⟨v, hc, ho, rfl, _⟩ := h0
  intro k t cs hk h1 h2
  refine hk.only hO ?_
  simp only [List.mem_cons, Option.mem_toList, not_or]
  exact ⟨fun e => by subst e; exact Cel.apart hk hc h1 rfl, fun e => own_apart ho hk (fun e2 => h2 e2.symm) e⟩
theorem own_kp {w w' : World} {base size n : Nat} {e : TypeId} {v : Value} {xs : List Value} (h : w.ownsRow base e size v n xs) (k : Kp w w') (h1 : e ≠ 56) (h2 : e ≠ 61) : w'.ownsRow base e size v n xs := by
  refine ⟨h.1, ?_⟩
  rcases h.2 with h3 | ⟨g, cap, cur, rfl, hb, hg, rest⟩
  · exact .inl h3
  · exact .inr ⟨g, cap, cur, rfl, hb, k g e cur hg h1 h2, rest⟩
theorem On_kp {w w' : World} {base : Nat} {v : Value} {l : List Int} (h : On w base 3 v l) (k : Kp w w') : On w' base 3 v l := own_kp h k (by decide) (by decide)
theorem Os_kp {w w' : World} {base : Nat} {v : Value} {l : List R} (h : Os w base 65 v l) (k : Kp w w') : Os w' base 65 v l := own_kp h k (by decide) (by decide)
theorem On_ns {w : World} {base n c : Nat} {e : TypeId} {A : Option Addr} {l : List Int} (h : On w base e (.slice A n c) l) : Ns w w.heap.size A l := by
  obtain ⟨A', c', he, h2, _⟩ := h.reads
  cases he
  exact h2

section
variable {w0 w : World} {B g cap : Nat} {r : Option Nat} {L L' : List R}
/-- the Queue at block g, and what lies below block B is as it was -/
structure At (w0 w : World) (B g cap : Nat) (L : List R) : Prop where
  q : ∃ r, QW w B g r cap L
  b : Below B w0 w
  s : B ≤ w.heap.size
  g : B ≤ g
theorem At.below {w' : World} (h : At w0 w B g cap L) (k : Below w.heap.size w w') : At w0 w' B g cap L := by
  obtain ⟨⟨r, q⟩, b, s, hg⟩ := h
  exact ⟨⟨r, q.below k⟩, b.trans (k.mono s), Nat.le_trans s k.size, hg⟩
theorem At.put {w' : World} {L0 : List R} (h : QPut w B g r cap L w') (h0 : QW w B g r cap L0) (b : Below B w0 w) (s : B ≤ w.heap.size) (hg : B ≤ g) : At w0 w' B g cap L := by
  have h2 := h.below h0 (Nat.le_refl _) hg
  obtain ⟨r', h3, _, hO⟩ := h
  exact ⟨⟨r', h3⟩, b.trans h2, Nat.le_trans s hO.size, hg⟩
theorem At.new (n : Int) (w : World) : Calls Try.prog 9 #[I n] w fun e w' => e = .returned (.pointer (some ⟨w.heap.size, 0, none⟩)) ∧ At w w' w.heap.size w.heap.size (capOf n) [] :=
  (qnew_any n w).mono fun _ _ ⟨h1, h2⟩ => ⟨h1, by rw [h2]; exact ⟨⟨_, QW_new n w _⟩, (Below.refl _ w).alloc (Nat.le_refl _) _, by simp, Nat.le_refl _⟩⟩
theorem At.push (h : At w0 w B g cap L) (p i : Int) {E : Int} (hE : pushE cap (p, i) L = E) (hL : pushed cap (p, i) L = L') :
    Calls Try.prog 11 #[.pointer (some ⟨g, 0, none⟩), I p, I i] w fun e w' => e = .returned (I E) ∧ At w0 w' B g cap L' ∧ Kp w w' := by
  obtain ⟨⟨r, q⟩, b, s, hg⟩ := h
  subst hE hL
  exact (qpush_any p i w B g cap r L q s).mono fun _ _ ⟨h1, h2⟩ => ⟨h1, At.put h2 q b s hg, Kp.put h2 q⟩
theorem At.remove (h : At w0 w B g cap L) (i : Int) {E : Bool} (hE : hasI i L = E) (hL : rm i L = L') :
    Calls Try.prog 15 #[.pointer (some ⟨g, 0, none⟩), I i] w fun e w' => e = .returned (.bool E) ∧ At w0 w' B g cap L' ∧ Kp w w' := by
  obtain ⟨⟨r, q⟩, b, s, hg⟩ := h
  subst hE hL
  exact (qremove_any i w B g cap r L q).mono fun _ _ ⟨h1, h2⟩ => ⟨h1, At.put h2 q b s hg, Kp.put h2 q⟩
theorem At.pop (h : At w0 w B g cap L) {x : Int} {E : Bool} (hx : hdI L = x) (hE : okI L = E) (hL : L.tail = L') :
    Calls Try.prog 13 #[.pointer (some ⟨g, 0, none⟩)] w fun e w' => e = .returned (.tuple #[I x, .bool E]) ∧ At w0 w' B g cap L' ∧ Kp w w' := by
  obtain ⟨⟨r, q⟩, b, s, hg⟩ := h
  subst hE hL hx
  exact (qpop_any w B g cap r L q).mono fun _ _ ⟨h1, h2⟩ => ⟨h1, At.put h2 q b s hg, Kp.put h2 q⟩
theorem At.peek (h : At w0 w B g cap L) {x : Int} {E : Bool} (hx : hdI L = x) (hE : okI L = E) :
    Calls Try.prog 18 #[.pointer (some ⟨g, 0, none⟩)] w fun e w' => e = .returned (.tuple #[I x, .bool E]) ∧ w = w' := by
  obtain ⟨⟨r, q⟩, b, s, hg⟩ := h
  subst hE hx
  exact qpeek_any w B g cap r L q
theorem At.len (h : At w0 w B g cap L) {n : Nat} (hn : L.length = n) :
    Calls Try.prog 20 #[.pointer (some ⟨g, 0, none⟩)] w fun e w' => e = .returned (I n) ∧ w = w' := by
  obtain ⟨⟨r, q⟩, b, s, hg⟩ := h
  subst hn
  exact qlen_any w B g cap r L q
/-- Items: the slice's value written out, its ints named -/
theorem At.items (h : At w0 w B g cap L) {I' : List Int} {n : Nat} (hI : itm L = I') (hn : I'.length = n) :
    Calls Try.prog 22 #[.pointer (some ⟨g, 0, none⟩)] w fun e w' => ∃ A c, e = .returned (.slice A n c) ∧ On w' w.heap.size 3 (.slice A n c) I' ∧ (A = none → c = 0) ∧ At w0 w' B g cap L ∧ Below w.heap.size w w' := by
  have h0 := h
  obtain ⟨⟨r, q⟩, b, s, hg⟩ := h
  subst hI
  refine (qitems_any w B g cap r L q).mono ?_
  rintro e w' ⟨v, rfl, o, k⟩
  obtain ⟨A, c, rfl, r1, r2, _, _⟩ := o.reads_len hn
  exact ⟨A, c, rfl, o, r2, h0.below k, k⟩
theorem At.clone (h : At w0 w B g cap L) :
    Calls Try.prog 17 #[.pointer (some ⟨g, 0, none⟩)] w fun e w' => ∃ g', e = .returned (.pointer (some ⟨g', 0, none⟩)) ∧ w.heap.size ≤ g' ∧ At w w' w.heap.size g' cap L ∧ At w0 w' B g cap L := by
  have h0 := h
  obtain ⟨⟨r, q⟩, b, s, hg⟩ := h
  exact (qclone_any w B g cap r L q).mono fun _ _ ⟨g', r', h1, h2, h3, h4⟩ => ⟨g', h1, h2, ⟨⟨r', h3⟩, h4, h4.size, h2⟩, h0.below h4⟩
end

set_option maxHeartbeats 1000000 in
theorem alive_any (w : World) : Calls Try.prog 8 #[] w fun e w' => e = .returned (.bool true) ∧ Below w.heap.size w w' := by
  have hnew := At.new 9 w
  rw [show capOf 9 = 9 by decide] at hnew
  have hB : w.heap.size ≤ w.heap.size := Nat.le_refl _
  obtain ⟨g, hg⟩ : ∃ g, g = w.heap.size := ⟨_, rfl⟩
  rw [← hg] at hnew ⊢
  clear hg
  go_enter Try.func8, Try.ntmps8
  go_wp2_with fail
  refine hnew.mono ?_
  rintro e w0 ⟨rfl, q0⟩
  clear hnew
  go_wp2_with fail
  refine (q0.push 5 1 (E := 0) (L' := [(5, 1)]) (by decide) (by decide)).mono ?_
  rintro e w1 ⟨rfl, q1, _⟩
  clear q0
  go_wp2_with fail
  refine (q1.push 3 2 (E := 0) (L' := [(3, 2), (5, 1)]) (by decide) (by decide)).mono ?_
  rintro e w2 ⟨rfl, q2, _⟩
  clear q1
  go_wp2_with fail
  refine (q2.push 5 3 (E := 0) (L' := [(3, 2), (5, 1), (5, 3)]) (by decide) (by decide)).mono ?_
  rintro e w3 ⟨rfl, q3, _⟩
  clear q2
  go_wp2_with fail
  refine (q3.push 3 4 (E := 0) (L' := [(3, 2), (3, 4), (5, 1), (5, 3)]) (by decide) (by decide)).mono ?_
  rintro e w4 ⟨rfl, q4, _⟩
  clear q3
  go_wp2_with fail
  refine (q4.items (I' := [2, 4, 1, 3]) (n := 4) (by decide) rfl).mono ?_
  rintro e w5 ⟨A5, c5, rfl, i5, _, q5, _⟩
  clear q4
  go_wp2_with fail
  refine (q5.push 9 1 (E := 9) (L' := [(3, 2), (3, 4), (5, 1), (5, 3)]) (by decide) (by decide)).mono ?_
  rintro e w6 ⟨rfl, q6, k6⟩
  clear q5
  go_wp2_with fail
  refine (q6.pop (x := 2) (E := true) (L' := [(3, 4), (5, 1), (5, 3)]) (by decide) (by decide) (by decide)).mono ?_
  rintro e w7 ⟨rfl, q7, k7⟩
  clear q6
  have i7 := On_kp (On_kp i5 k6) k7
  have hs7 := q7.s
  have b7 := q7.b
  have i8 : Ns (w7.alloc (.cells #[I 2, I 4, I 1, I 3] 3)) (w7.alloc (.cells #[I 2, I 4, I 1, I 3] 3)).heap.size A5 [2, 4, 1, 3] := On_ns (i7.alloc _)
  have i9 : Ns (w7.alloc (.cells #[I 2, I 4, I 1, I 3] 3)) (w7.alloc (.cells #[I 2, I 4, I 1, I 3] 3)).heap.size (some ⟨w7.heap.size, 0, none⟩) [2, 4, 1, 3] := Ns_new w7 _ [2, 4, 1, 3] _ rfl _ (by simp)
  have q8 : At w (w7.alloc (.cells #[I 2, I 4, I 1, I 3] 3)) g g 9 [(3, 4), (5, 1), (5, 3)] := q7.below ((Below.refl _ w7).alloc (Nat.le_refl _) _)
  have hints := rints_any [2, 4, 1, 3] [2, 4, 1, 3] _ A5 (some ⟨w7.heap.size, 0, none⟩) c5 4 i8 i9 (by simp)
  rw [show decide ([2, 4, 1, 3] = ([2, 4, 1, 3] : List Int)) = true by decide] at hints
  clear i7 i8 i9 i5 k6 k7
  go_wp2_with fail
  refine hints.mono ?_
  rintro e w8 ⟨rfl, k8⟩
  have q9 := q8.below k8
  go_wp2_with fail
  refine (q9.len (n := 3) rfl).mono ?_
  rintro e w9 ⟨rfl, rfl⟩
  go_wp2_with fail
  go_ret
  exact ⟨rfl, q9.b⟩
end Go.Proofs.Ytnnjmlpanbbanaa.Rng.Que
