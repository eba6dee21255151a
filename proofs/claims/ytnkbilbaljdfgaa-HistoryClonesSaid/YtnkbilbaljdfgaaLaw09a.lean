/-
  The laws of layer 9: objects apart from each other; agrees.
-/
import Derived.Test.YtnkbilbaljdfgaaHisW2
import Derived.Test.YtnkbilbaljdfgaaRef09b
namespace Go.Proofs.Ytnkbilbaljdfgaa.His
open Go.RowKit Go.Shelf Ints

/-! ### objects apart from each other -/
def Dis (F R : List Nat) : Prop := ∀ i ∈ F, i ∉ R
theorem Dis.symm {F R : List Nat} (h : Dis F R) : Dis R F := fun i hi hf => h i hf hi
theorem Dis.next {F F' R : List Nat} {n : Nat} (h : Dis F R) (hn : ∀ i ∈ F', i ∈ F ∨ n ≤ i) (hR : ∀ i ∈ R, i < n) : Dis F' R := fun i hi hr => by
  rcases hn i hi with h1 | h1
  · exact h i h1 hr
  · have := hR i hr; omega
theorem Dis.next2 {F R R' : List Nat} {n : Nat} (h : Dis F R) (hn : ∀ i ∈ R', i ∈ R ∨ n ≤ i) (hF : ∀ i ∈ F, i < n) : Dis F R' := (h.symm.next hn hF).symm

/-- a History with the blocks F, none below B -/
def HO (w : World) (B g cap : Nat) (L : List Int) (D : Int) (F : List Nat) : Prop := ∃ r, HW w B g r cap L D ∧ F = g :: r.toList ∧ B ≤ g
/-- the reference's History with the blocks R, none below B -/
def XO (w : World) (B g cap : Nat) (L : List Int) (D : Int) (R : List Nat) : Prop := ∃ r, XW w B g r cap L D ∧ R = g :: r.toList ∧ B ≤ g ∧ L.length ≤ cap ∧ cap ≤ 256

section
variable {w w' : World} {B g cap : Nat} {D : Int} {L : List Int} {F S : List Nat}
theorem HO.lt (h : HO w B g cap L D F) : ∀ i ∈ F, B ≤ i ∧ i < w.heap.size := by
  obtain ⟨r, h, rfl, hg⟩ := h
  intro i hi
  simp only [List.mem_cons, Option.mem_toList] at hi
  rcases hi with rfl | hi
  · exact ⟨hg, h.lt⟩
  · have := h.row i hi
    exact ⟨this.1, this.2.1⟩
theorem HO.only (h : HO w B g cap L D F) (k : Only S w w') (hd : Dis F S) : HO w' B g cap L D F := by
  obtain ⟨r, h, rfl, hg⟩ := h
  exact ⟨r, h.only k (hd g (by simp)) (fun i hi => hd i (by simp [hi])), rfl, hg⟩
theorem HO.below (h : HO w B g cap L D F) (k : Below w.heap.size w w') : HO w' B g cap L D F := h.only (S := []) (Only.of_below k) (fun _ _ => by simp)
theorem HO.drew (h : HO w B g cap L D F) : HO w.drew B g cap L D F := h
theorem HO.draws (h : HO w B g cap L D F) (n : Nat) : HO (w.drewN n) B g cap L D F := h
theorem HO.mem (h : HO w B g cap L D F) : g ∈ F := by
  obtain ⟨r, h, rfl, hg⟩ := h
  simp
theorem XO.lt (h : XO w B g cap L D F) : ∀ i ∈ F, B ≤ i ∧ i < w.heap.size := by
  obtain ⟨r, h, rfl, hg, _⟩ := h
  intro i hi
  simp only [List.mem_cons, Option.mem_toList] at hi
  rcases hi with rfl | hi
  · exact ⟨hg, h.lt⟩
  · have := h.row i hi
    exact ⟨this.1, this.2.1⟩
theorem XO.only (h : XO w B g cap L D F) (k : Only S w w') (hd : Dis F S) : XO w' B g cap L D F := by
  obtain ⟨r, h, rfl, hg⟩ := h
  exact ⟨r, h.only k (hd g (by simp)) (fun i hi => hd i (by simp [hi])), rfl, hg⟩
theorem XO.below (h : XO w B g cap L D F) (k : Below w.heap.size w w') : XO w' B g cap L D F := h.only (S := []) (Only.of_below k) (fun _ _ => by simp)
theorem XO.drew (h : XO w B g cap L D F) : XO w.drew B g cap L D F := h
theorem XO.draws (h : XO w B g cap L D F) (n : Nat) : XO (w.drewN n) B g cap L D F := h
theorem XO.mem (h : XO w B g cap L D F) : g ∈ F := by
  obtain ⟨r, h, rfl, hg⟩ := h
  simp
theorem HO.len_le (h : HO w B g cap L D F) : L.length ≤ cap ∧ cap ≤ 256 := by
  obtain ⟨r, h, _⟩ := h
  exact h.len
theorem XO.cells (h : XO w B g cap L D F) {n : Nat} (hn : L.length = n) : ∃ A c, w.cell? ⟨g, 0, none⟩ = some (I cap) ∧ w.cell? ⟨g, 1, none⟩ = some (I D) ∧ w.cell? ⟨g, 2, none⟩ = some (.slice A n c) ∧ Ns w w.heap.size A L := by
  obtain ⟨r, ⟨v, hc, ho, _⟩, _⟩ := h
  obtain ⟨A, c, rfl, hr, _, _, _⟩ := ho.reads_len hn
  exact ⟨A, c, hc.cell 0, hc.cell 1, hc.cell 2, hr⟩

theorem HO.new (n : Int) (w : World) (hB : B ≤ w.heap.size) :
    Calls Try.prog 7 #[I n] w fun e w' => e = .returned (.pointer (some ⟨w.heap.size, 0, none⟩)) ∧ HO w' B w.heap.size (hcap n) [] 0 [w.heap.size] ∧ Below w.heap.size w w' ∧ w.heap.size < w'.heap.size :=
  (hnew_any n w).mono fun _ _ ⟨h1, h2⟩ => ⟨h1, by rw [h2]; exact ⟨⟨none, HW_new n w B, rfl, hB⟩, (Below.refl _ w).alloc (Nat.le_refl _) _, by simp⟩⟩
theorem HO.add (h : HO w B g cap L D F) (hB : B ≤ w.heap.size) (x : Int) {V : Int} {E : Bool} {L' : List Int} {D' : Int} (hV : outV cap x L = V) (hE : outB cap L = E) (hL : kept cap x L = L') (hD' : lost cap L D = D') :
    Calls Try.prog 12 #[.pointer (some ⟨g, 0, none⟩), I x] w fun e w' => e = .returned (.tuple #[I V, .bool E]) ∧ ∃ F', HO w' B g cap L' D' F' ∧ Only F w w' ∧ ∀ i ∈ F', i ∈ F ∨ w.heap.size ≤ i := by
  obtain ⟨r, h, rfl, hg⟩ := h
  subst hV hE hL hD'
  refine (hadd_any x w B g cap D r L h hB).mono ?_
  rintro e w' ⟨rfl, r', h', hr', hO⟩
  refine ⟨rfl, _, ⟨r', h', rfl, hg⟩, hO, fun i hi => ?_⟩
  simp only [List.mem_cons, Option.mem_toList] at hi ⊢
  rcases hi with rfl | hi
  · exact .inl (.inl rfl)
  · rcases hr' with rfl | ⟨j, rfl, hj⟩
    · exact .inl (.inr hi)
    · injection hi with hi
      subst hi
      exact .inr hj
theorem XO.add (h : XO w B g cap L D F) (hB : B ≤ w.heap.size) (x : Int) {V : Int} {E : Bool} {L' : List Int} {D' : Int} (hV : outV cap x L = V) (hE : outB cap L = E) (hL : kept cap x L = L') (hD' : lost cap L D = D') :
    Calls Try.prog 13 #[.pointer (some ⟨g, 0, none⟩), I x] w fun e w' => e = .returned (.tuple #[I V, .bool E]) ∧ ∃ F', XO w' B g cap L' D' F' ∧ Only [g] w w' ∧ ∀ i ∈ F', i ∈ F ∨ w.heap.size ≤ i := by
  obtain ⟨r, h, rfl, hg, hl, hc⟩ := h
  subst hV hE hL hD'
  refine (radd_any x w B g cap D r L h hB hl hc).mono ?_
  rintro e w' ⟨rfl, r', h', hr', hO⟩
  refine ⟨rfl, _, ⟨r', h', rfl, hg, kept_le x hl, hc⟩, hO, fun i hi => ?_⟩
  simp only [List.mem_cons, Option.mem_toList] at hi ⊢
  rcases hi with rfl | hi
  · exact .inl (.inl rfl)
  · exact .inr (hr' i hi)
theorem HO.len (h : HO w B g cap L D F) {n : Nat} (hn : L.length = n) :
    Calls Try.prog 19 #[.pointer (some ⟨g, 0, none⟩)] w fun e w' => e = .returned (I n) ∧ w = w' := by
  obtain ⟨r, h, _, _⟩ := h
  subst hn
  exact hlen_any w B g cap D r L h
theorem HO.dropped (h : HO w B g cap L D F) :
    Calls Try.prog 17 #[.pointer (some ⟨g, 0, none⟩)] w fun e w' => e = .returned (I D) ∧ w = w' := by
  obtain ⟨r, h, _, _⟩ := h
  exact hdropped_any w B g cap D r L h
theorem HO.has (h : HO w B g cap L D F) (x : Int) {E : Bool} (hE : decide (x ∈ L) = E) :
    Calls Try.prog 10 #[.pointer (some ⟨g, 0, none⟩), I x] w fun e w' => e = .returned (.bool E) ∧ w = w' := by
  obtain ⟨r, h, _, _⟩ := h
  subst hE
  exact hhas_any x w B g cap D r L h
theorem XO.has (h : XO w B g cap L D F) (x : Int) {E : Bool} (hE : decide (x ∈ L) = E) :
    Calls Try.prog 11 #[.pointer (some ⟨g, 0, none⟩), I x] w fun e w' => e = .returned (.bool E) ∧ w = w' := by
  obtain ⟨r, h, _, _, hl, hc⟩ := h
  subst hE
  exact rhas_any x w B g cap D r L h (by omega)
theorem HO.items (h : HO w B g cap L D F) {n : Nat} (hn : L.length = n) :
    Calls Try.prog 16 #[.pointer (some ⟨g, 0, none⟩)] w fun e w' => ∃ A c, e = .returned (.slice A n c) ∧ On w' w.heap.size 3 (.slice A n c) L ∧ Below w.heap.size w w' := by
  obtain ⟨r, h, _, _⟩ := h
  refine (hitems_any w B g cap D r L h).mono ?_
  rintro e w' ⟨v, rfl, o, k⟩
  obtain ⟨A, c, rfl, r1, r2, _, _⟩ := o.reads_len hn
  exact ⟨A, c, rfl, o, k⟩
theorem HO.clone (h : HO w B g cap L D F) (hB : B ≤ w.heap.size) :
    Calls Try.prog 18 #[.pointer (some ⟨g, 0, none⟩)] w fun e w' => ∃ g' F', e = .returned (.pointer (some ⟨g', 0, none⟩)) ∧ HO w' B g' cap L D F' ∧ Below w.heap.size w w' ∧ ∀ i ∈ F', w.heap.size ≤ i := by
  obtain ⟨r, h, _, _⟩ := h
  refine (hclone_any w B g cap D r L h).mono ?_
  rintro e w' ⟨g', r', rfl, hg', h', hb⟩
  refine ⟨g', _, rfl, ⟨r', h'.more hB, rfl, by omega⟩, hb, fun i hi => ?_⟩
  simp only [List.mem_cons, Option.mem_toList] at hi
  rcases hi with rfl | hi
  · exact hg'
  · exact (h'.row i hi).1
end

set_option maxHeartbeats 2000000 in
theorem agrees_any (w : World) (B g cap : Nat) (D : Int) (n c : Nat) (L : List Int) (F : List Nat) (A : Option Addr) (h : HO w B g cap L D F) (hn : L.length = n) (hr : Ns w w.heap.size A L) :
    Calls Try.prog 14 #[.pointer (some ⟨g, 0, none⟩), .agg #[I cap, I D, .slice A n c]] w fun e w' => e = .returned (.bool true) ∧ Below w.heap.size w w' := by
  have hlen := h.len_le
  have bX : Below w.heap.size w (w.alloc (.cells #[I cap, I D, .slice A n c] 27)) := (Below.refl _ w).alloc (Nat.le_refl _) _
  have x1 : (w.alloc (.cells #[I cap, I D, .slice A n c] 27)).cell? ⟨w.heap.size, 1, none⟩ = some (I D) := by simp
  have x2 : (w.alloc (.cells #[I cap, I D, .slice A n c] 27)).cell? ⟨w.heap.size, 2, none⟩ = some (.slice A n c) := by simp
  obtain ⟨w1, hw1⟩ : ∃ w1, w1 = w.alloc (.cells #[I cap, I D, .slice A n c] 27) := ⟨_, rfl⟩
  have hX : w.heap.size < w1.heap.size := by rw [hw1]; simp
  rw [← hw1] at bX x1 x2
  have h1 := h.below bX
  have hr1 := (hr.below bX).more bX.size
  have hz1 : ((n : Int) == (n : Int)) = true := by simp
  have hz2 : ((D : Int) == (D : Int)) = true := by simp
  go_enter Try.func14, Try.ntmps14
  go_wp2_with fail
  rw [← hw1]
  clear hw1 hr h
  refine wp_region_held_drew (S := (fun w' => w'.cell? ⟨w.heap.size, 1, none⟩ = some (I D) ∧ w'.cell? ⟨w.heap.size, 2, none⟩ = some (.slice A n c))) (by kernel_rfl) (⟨x1, x2⟩) (fun hHeld => ?_)
  refine wpAnyH_here 0 (v := ?_) rfl (by kernel_rfl) (by kernel_rfl) (by kernel_rfl) (fun _ _ _ h => h) (Or.inl ⟨by rfl, ?_⟩) hHeld ?_
  rotate_left
  · intro w hSw; (try dsimp only at hSw); go_simp; all_goals (with_reducible rfl)
  try simp only [Act.put, List.setIfInBounds_toArray, List.set_cons_zero, List.set_cons_succ]
  refine wpAnyH_here 2 (v := ?_) rfl (by kernel_rfl) (by kernel_rfl) (by kernel_rfl) (fun _ _ _ h => h) (Or.inl ⟨by rfl, ?_⟩) hHeld ?_
  rotate_left
  · intro w hSw; (try dsimp only at hSw); go_simp; all_goals (with_reducible rfl)
  try simp only [Act.put, List.setIfInBounds_toArray, List.set_cons_zero, List.set_cons_succ]
  refine wpAnyH_here 3 (v := ?_) rfl (by kernel_rfl) (by kernel_rfl) (by kernel_rfl) (fun _ _ _ h => h) (Or.inl ⟨by rfl, ?_⟩) hHeld ?_
  rotate_left
  · intro w hSw; (try dsimp only at hSw); go_simp; all_goals (with_reducible rfl)
  try simp only [Act.put, List.setIfInBounds_toArray, List.set_cons_zero, List.set_cons_succ]
  refine wpAnyH_alone 1 rfl (by kernel_rfl) (fun K hK => ?_)
  go_simp
  (go_at_call 16; refine (h1.drew.items hn).mono ?_; rintro e w2 ⟨A2, k2, rfl, ho2, hb2⟩; have e1 := (hb2.cell (p := ⟨w.heap.size, 1, none⟩) hX).trans x1; have e2 := (hb2.cell (p := ⟨w.heap.size, 2, none⟩) hX).trans x2)
  refine hK.out _ _ (⟨e1, e2⟩) (fun hHeld => ?_)
  clear hK K
  try simp only [Act.put, List.setIfInBounds_toArray, List.set_cons_zero, List.set_cons_succ]
  have h2 := h1.drew.below hb2
  have hb2d : Below w1.heap.size w1 w2 := (show Below w1.heap.size w1 w1.drew from ⟨rfl, rfl, rfl, Nat.le_refl _, fun _ _ => rfl⟩).trans hb2
  have hsame := rsame_any L L w2 A2 A k2 c (On_ns ho2) ((hr1.below hb2d).more hb2.size) (by omega)
  rw [hn, decide_eq_true (rfl : L = L)] at hsame
  refine wpAnyH_alone 4 rfl (by kernel_rfl) (fun K hK => ?_)
  go_simp
  (go_at_call 15; refine hsame.mono ?_; rintro e w3 ⟨rfl, hb3⟩; have e3 := (hb3.cell (p := ⟨w.heap.size, 1, none⟩) (Nat.lt_of_lt_of_le hX hb2.size)).trans e1; have e4 := (hb3.cell (p := ⟨w.heap.size, 2, none⟩) (Nat.lt_of_lt_of_le hX hb2.size)).trans e2)
  refine hK.out _ _ (⟨e3, e4⟩) (fun hHeld => ?_)
  clear hK K
  try simp only [Act.put, List.setIfInBounds_toArray, List.set_cons_zero, List.set_cons_succ]
  have h3 := h2.below hb3
  refine wpAnyH_here 5 (v := ?_) rfl (by kernel_rfl) (by kernel_rfl) (by kernel_rfl) (fun _ _ _ h => h) (Or.inl ⟨by rfl, ?_⟩) hHeld ?_
  rotate_left
  · intro w hSw; (try dsimp only at hSw); go_simp; all_goals (with_reducible rfl)
  try simp only [Act.put, List.setIfInBounds_toArray, List.set_cons_zero, List.set_cons_succ]
  refine wpAnyH_here 6 (v := ?_) rfl (by kernel_rfl) (by kernel_rfl) (by kernel_rfl) (fun _ _ _ h => h) (Or.inl ⟨by rfl, ?_⟩) hHeld ?_
  rotate_left
  · intro w hSw; (try dsimp only at hSw); go_simp; all_goals (with_reducible rfl)
  try simp only [Act.put, List.setIfInBounds_toArray, List.set_cons_zero, List.set_cons_succ]
  refine wpAnyH_here 8 (v := ?_) rfl (by kernel_rfl) (by kernel_rfl) (by kernel_rfl) (fun _ _ _ h => h) (Or.inl ⟨by rfl, ?_⟩) hHeld ?_
  rotate_left
  · intro w hSw; (try dsimp only at hSw); go_simp; all_goals (with_reducible rfl)
  try simp only [Act.put, List.setIfInBounds_toArray, List.set_cons_zero, List.set_cons_succ]
  refine wpAnyH_here 9 (v := ?_) rfl (by kernel_rfl) (by kernel_rfl) (by kernel_rfl) (fun _ _ _ h => h) (Or.inl ⟨by rfl, ?_⟩) hHeld ?_
  rotate_left
  · intro w hSw; (try dsimp only at hSw); go_simp; all_goals (with_reducible rfl)
  try simp only [Act.put, List.setIfInBounds_toArray, List.set_cons_zero, List.set_cons_succ]
  refine wpAnyH_here 10 (v := ?_) rfl (by kernel_rfl) (by kernel_rfl) (by kernel_rfl) (fun _ _ _ h => h) (Or.inl ⟨by rfl, ?_⟩) hHeld ?_
  rotate_left
  · intro w hSw; (try dsimp only at hSw); go_simp; all_goals (with_reducible rfl)
  try simp only [Act.put, List.setIfInBounds_toArray, List.set_cons_zero, List.set_cons_succ]
  refine wpAnyH_alone 7 rfl (by kernel_rfl) (fun K hK => ?_)
  go_simp
  (go_at_call 19; refine (h3.len hn).mono ?_; rintro e w4 ⟨rfl, rfl⟩)
  refine hK.out _ _ (⟨e3, e4⟩) (fun hHeld => ?_)
  clear hK K
  try simp only [Act.put, List.setIfInBounds_toArray, List.set_cons_zero, List.set_cons_succ]
  refine wpAnyH_here 11 (v := ?_) rfl (by kernel_rfl) (by kernel_rfl) (by kernel_rfl) (fun _ _ _ h => h) (Or.inl ⟨by rfl, ?_⟩) hHeld ?_
  rotate_left
  · intro w hSw; (try dsimp only at hSw); go_simp; all_goals (with_reducible rfl)
  try simp only [Act.put, List.setIfInBounds_toArray, List.set_cons_zero, List.set_cons_succ]
  refine wpAnyH_here 12 (v := ?_) rfl (by kernel_rfl) (by kernel_rfl) (by kernel_rfl) (fun _ _ _ h => h) (Or.inl ⟨by rfl, ?_⟩) hHeld ?_
  rotate_left
  · intro w hSw; (try dsimp only at hSw); go_simp; all_goals (with_reducible rfl)
  try simp only [Act.put, List.setIfInBounds_toArray, List.set_cons_zero, List.set_cons_succ]
  refine wpAnyH_here 13 (v := ?_) rfl (by kernel_rfl) (by kernel_rfl) (by kernel_rfl) (fun _ _ _ h => h) (Or.inl ⟨by rfl, ?_⟩) hHeld ?_
  rotate_left
  · intro w hSw; (try dsimp only at hSw); go_simp; all_goals (with_reducible rfl)
  try simp only [Act.put, List.setIfInBounds_toArray, List.set_cons_zero, List.set_cons_succ]
  refine wpAnyH_here 14 (v := ?_) rfl (by kernel_rfl) (by kernel_rfl) (by kernel_rfl) (fun _ _ _ h => h) (Or.inl ⟨by rfl, ?_⟩) hHeld ?_
  rotate_left
  · intro w hSw; (try dsimp only at hSw); go_simp; all_goals (with_reducible rfl)
  try simp only [Act.put, List.setIfInBounds_toArray, List.set_cons_zero, List.set_cons_succ]
  refine wpAnyH_here 16 (v := ?_) rfl (by kernel_rfl) (by kernel_rfl) (by kernel_rfl) (fun _ _ _ h => h) (Or.inl ⟨by rfl, ?_⟩) hHeld ?_
  rotate_left
  · intro w hSw; (try dsimp only at hSw); go_simp; all_goals (with_reducible rfl)
  try simp only [Act.put, List.setIfInBounds_toArray, List.set_cons_zero, List.set_cons_succ]
  refine wpAnyH_here 17 (v := ?_) rfl (by kernel_rfl) (by kernel_rfl) (by kernel_rfl) (fun _ _ _ h => h) (Or.inl ⟨by rfl, ?_⟩) hHeld ?_
  rotate_left
  · intro w hSw; (try dsimp only at hSw); go_simp; all_goals (with_reducible rfl)
  try simp only [Act.put, List.setIfInBounds_toArray, List.set_cons_zero, List.set_cons_succ]
  refine wpAnyH_alone 15 rfl (by kernel_rfl) (fun K hK => ?_)
  go_simp
  (go_at_call 17; refine h3.dropped.mono ?_; rintro e w4 ⟨rfl, rfl⟩)
  refine hK.out _ _ (⟨e3, e4⟩) (fun hHeld => ?_)
  clear hK K
  try simp only [Act.put, List.setIfInBounds_toArray, List.set_cons_zero, List.set_cons_succ]
  refine wpAnyH_here 18 (v := ?_) rfl (by kernel_rfl) (by kernel_rfl) (by kernel_rfl) (fun _ _ _ h => h) (Or.inl ⟨by rfl, ?_⟩) hHeld ?_
  rotate_left
  · intro w hSw; (try dsimp only at hSw); go_simp; all_goals (with_reducible rfl)
  try simp only [Act.put, List.setIfInBounds_toArray, List.set_cons_zero, List.set_cons_succ]
  refine wpAnyH_here 19 (v := ?_) rfl (by kernel_rfl) (by kernel_rfl) (by kernel_rfl) (fun _ _ _ h => h) (Or.inl ⟨by rfl, ?_⟩) hHeld ?_
  rotate_left
  · intro w hSw; (try dsimp only at hSw); go_simp; all_goals (with_reducible rfl)
  try simp only [Act.put, List.setIfInBounds_toArray, List.set_cons_zero, List.set_cons_succ]
  refine wpAnyH_here 20 (v := ?_) rfl (by kernel_rfl) (by kernel_rfl) (by kernel_rfl) (fun _ _ _ h => h) (Or.inl ⟨by rfl, ?_⟩) hHeld ?_
  rotate_left
  · intro w hSw; (try dsimp only at hSw); go_simp; all_goals (with_reducible rfl)
  try simp only [Act.put, List.setIfInBounds_toArray, List.set_cons_zero, List.set_cons_succ]
  refine wpAnyH_done (by kernel_rfl) ?_ _
  go_wp2
  go_ret
  exact ⟨rfl, (bX.trans (hb2d.mono bX.size)).trans (hb3.mono (Nat.le_trans bX.size hb2.size))⟩
end Go.Proofs.Ytnkbilbaljdfgaa.His
