/-
  Package packer: Clone.
-/
import Derived.Test.YtjjjlgaidklokaaPkrW3
import Derived.Test.YtjjjlgaidklokaaClone
import Derived.Test.YtjjjlgaidklokaaHand
namespace Go.Proofs.Ytjjjlgaidklokaa.Pkr
open Go.RowKit
open Pac (bel_new)

section
variable {w w1 w2 w3 : World} {g Z R nr cr nw cw nr' cr' nw' cw' : Nat} {s : PS} {Ar Aw Ar' Aw' : Option Addr} {F : List Nat}
/-- a Packer that Clone lays -/
theorem Pw_clone (hs : s.Ok R) (hZ1 : 1 ≤ Z) (hZ2 : Z ≤ 1012) (hR : R ≤ 1048576) {b b' : Nat} (o1 : Ow w3 b 5 (.slice Ar' nr' cr') s.rs) (o2 : Ow w3 b' 5 (.slice Aw' nw' cw') s.wt) (hr : s.rs.length = nr') (hw : s.wt.length = nw')
    (hb : w.heap.size ≤ b) (hb' : w.heap.size ≤ b') (ha : ∀ x ∈ blkA Aw', x ∉ blkA Ar') (k : Below w.heap.size w w3) {m : Nat} (hm : s.fb.length = m) :
    PW (w3.alloc (.cells #[.int .i64 (Z : Int), .int .i64 (R : Int), .slice Ar' nr' cr', .slice Aw' nw' cw', .int .i64 (m : Int)] 56)) w3.heap.size (fam w3.heap.size Ar' Aw') Z R s ∧
    (∀ x ∈ fam w3.heap.size Ar' Aw', w.heap.size ≤ x) ∧ Below w.heap.size w (w3.alloc (.cells #[.int .i64 (Z : Int), .int .i64 (R : Int), .slice Ar' nr' cr', .slice Aw' nw' cw', .int .i64 (m : Int)] 56)) := by
  subst hm
  have m1 := Md.of o1 hr
  have m2 := Md.of o2 hw
  have kn := Only.of_below (S := []) (bel_new w3 (.cells #[.int .i64 (Z : Int), .int .i64 (R : Int), .slice Ar' nr' cr', .slice Aw' nw' cw', .int .i64 (s.fb.length : Int)] 56))
  refine ⟨⟨⟨_, _, _, _, _, _, ⟨Cel.new _ _ _, (m1.only kn (by simp)).more (Nat.zero_le _), (m2.only kn (by simp)).more (Nat.zero_le _), ha⟩, rfl⟩, hZ1, hZ2, hR, hs⟩, fun x hx => ?_, k.alloc k.size _⟩
  rcases List.mem_cons.1 hx with rfl | hx
  · exact k.size
  · rcases List.mem_append.1 hx with hx | hx
    · have := (m2.lt x hx).1; omega
    · have := (m1.lt x hx).1; omega

set_option maxRecDepth 100000 in
set_option maxHeartbeats 4000000 in
theorem pclone_any (h : PW w g F Z R s) :
    Calls Try.prog 13 #[.pointer (some ⟨g, 0, none⟩)] w fun e w' => ∃ g' F', e = .returned (.pointer (some ⟨g', 0, none⟩)) ∧ PW w' g' F' Z R s ∧ (∀ x ∈ F', w.heap.size ≤ x) ∧ Below w.heap.size w w' := by
  obtain ⟨⟨Ar, nr, cr, Aw, nw, cw, hc, rfl⟩, hZ1, hZ2, hR, hs⟩ := h
  have hlw := hc.mw.1
  have hlr := hc.mr.1
  have hwk := pworks_pc hc hZ1
  have rw0 := Md.rd hc.mw
  have rr0 := Md.rd hc.mr
  have l1 := hs.w
  have l2 := hs.r
  have x1 := fun W (hW : Below w.heap.size w W) => clone_any Ar s.rs nr cr W (Lib.hid hlr) (rr0.later hW).bs rr0.nil (by omega)
  have x2 := fun W (hW : Below w.heap.size w W) => clone_any Aw s.wt nw cw W (Lib.hid hlw) (rw0.later hW).bs rw0.nil (by omega)
  have hd : Below w.heap.size w w.drew := ⟨rfl, rfl, rfl, Nat.le_refl _, fun _ _ => rfl⟩
  have c0 := hc.c.cell 0
  have c1 := hc.c.cell 1
  have c2 := hc.c.cell 2
  have c3 := hc.c.cell 3
  have c4 := hc.c.cell 4
  simp at c0 c1 c2 c3 c4
  have hg := hc.c.lt
  obtain ⟨m, hm⟩ : ∃ m, s.fb.length = m := ⟨_, rfl⟩
  rw [hm] at c4
  have hS : ∀ W, Below w.heap.size w W → W.cell? ⟨g, 0, none⟩ = some (.int .i64 (Z : Int)) ∧ W.cell? ⟨g, 1, none⟩ = some (.int .i64 (R : Int)) ∧ W.cell? ⟨g, 2, none⟩ = some (.slice Ar nr cr) ∧ W.cell? ⟨g, 3, none⟩ = some (.slice Aw nw cw) ∧ W.cell? ⟨g, 4, none⟩ = some (.int .i64 (m : Int)) := fun W hW =>
    ⟨(hW.cell (p := ⟨g, 0, none⟩) hg).trans c0, (hW.cell (p := ⟨g, 1, none⟩) hg).trans c1, (hW.cell (p := ⟨g, 2, none⟩) hg).trans c2, (hW.cell (p := ⟨g, 3, none⟩) hg).trans c3, (hW.cell (p := ⟨g, 4, none⟩) hg).trans c4⟩
  have HL := Lib.hid (And.intro hlr (And.intro hlw (And.intro hm (And.intro hs (And.intro hZ1 (And.intro hZ2 hR))))))
  clear hc hlw hlr rw0 rr0 l1 l2 hs hZ1 hZ2 hR hm
  go_enter Try.func13, Try.ntmps13
  go_wp2_with fail
  refine hwk.mono ?_
  rintro e w1 ⟨rfl, rfl⟩
  go_wp2_with fail
  refine wp_region_held_drew (S := (fun w' => w'.cell? ⟨g, 0, none⟩ = some (.int .i64 (Z : Int)) ∧ w'.cell? ⟨g, 1, none⟩ = some (.int .i64 (R : Int)) ∧ w'.cell? ⟨g, 2, none⟩ = some (.slice Ar nr cr) ∧ w'.cell? ⟨g, 3, none⟩ = some (.slice Aw nw cw) ∧ w'.cell? ⟨g, 4, none⟩ = some (.int .i64 (m : Int)))) (by kernel_rfl) (⟨c0, c1, c2, c3, c4⟩) (fun hHeld => ?_)
  refine wpAnyH_here 0 (v := ?_) rfl (by kernel_rfl) (by kernel_rfl) (by kernel_rfl) (fun _ _ _ h => h) (Or.inl ⟨by rfl, ?_⟩) hHeld ?_
  rotate_left
  · intro w hSw; (try dsimp only at hSw); go_simp; all_goals (with_reducible rfl)
  try simp only [Act.put, List.setIfInBounds_toArray, List.set_cons_zero, List.set_cons_succ]
  refine wpAnyH_here 1 (v := ?_) rfl (by kernel_rfl) (by kernel_rfl) (by kernel_rfl) (fun _ _ _ h => h) (Or.inl ⟨by rfl, ?_⟩) hHeld ?_
  rotate_left
  · intro w hSw; (try dsimp only at hSw); go_simp; all_goals (with_reducible rfl)
  try simp only [Act.put, List.setIfInBounds_toArray, List.set_cons_zero, List.set_cons_succ]
  refine wpAnyH_here 2 (v := ?_) rfl (by kernel_rfl) (by kernel_rfl) (by kernel_rfl) (fun _ _ _ h => h) (Or.inl ⟨by rfl, ?_⟩) hHeld ?_
  rotate_left
  · intro w hSw; (try dsimp only at hSw); go_simp; all_goals (with_reducible rfl)
  try simp only [Act.put, List.setIfInBounds_toArray, List.set_cons_zero, List.set_cons_succ]
  refine wpAnyH_here 3 (v := ?_) rfl (by kernel_rfl) (by kernel_rfl) (by kernel_rfl) (fun _ _ _ h => h) (Or.inl ⟨by rfl, ?_⟩) hHeld ?_
  rotate_left
  · intro w hSw; (try dsimp only at hSw); go_simp; all_goals (with_reducible rfl)
  try simp only [Act.put, List.setIfInBounds_toArray, List.set_cons_zero, List.set_cons_succ]
  refine wpAnyH_here 4 (v := ?_) rfl (by kernel_rfl) (by kernel_rfl) (by kernel_rfl) (fun _ _ _ h => h) (Or.inl ⟨by rfl, ?_⟩) hHeld ?_
  rotate_left
  · intro w hSw; (try dsimp only at hSw); go_simp; all_goals (with_reducible rfl)
  try simp only [Act.put, List.setIfInBounds_toArray, List.set_cons_zero, List.set_cons_succ]
  refine wpAnyH_here 5 (v := ?_) rfl (by kernel_rfl) (by kernel_rfl) (by kernel_rfl) (fun _ _ _ h => h) (Or.inl ⟨by rfl, ?_⟩) hHeld ?_
  rotate_left
  · intro w hSw; (try dsimp only at hSw); go_simp; all_goals (with_reducible rfl)
  try simp only [Act.put, List.setIfInBounds_toArray, List.set_cons_zero, List.set_cons_succ]
  refine wpAnyH_here 6 (v := ?_) rfl (by kernel_rfl) (by kernel_rfl) (by kernel_rfl) (fun _ _ _ h => h) (Or.inl ⟨by rfl, ?_⟩) hHeld ?_
  rotate_left
  · intro w hSw; (try dsimp only at hSw); go_simp; all_goals (with_reducible rfl)
  try simp only [Act.put, List.setIfInBounds_toArray, List.set_cons_zero, List.set_cons_succ]
  refine wpAnyH_here 7 (v := ?_) rfl (by kernel_rfl) (by kernel_rfl) (by kernel_rfl) (fun _ _ _ h => h) (Or.inl ⟨by rfl, ?_⟩) hHeld ?_
  rotate_left
  · intro w hSw; (try dsimp only at hSw); go_simp; all_goals (with_reducible rfl)
  try simp only [Act.put, List.setIfInBounds_toArray, List.set_cons_zero, List.set_cons_succ]
  refine wpAnyH_here 8 (v := ?_) rfl (by kernel_rfl) (by kernel_rfl) (by kernel_rfl) (fun _ _ _ h => h) (Or.inl ⟨by rfl, ?_⟩) hHeld ?_
  rotate_left
  · intro w hSw; (try dsimp only at hSw); go_simp; all_goals (with_reducible rfl)
  try simp only [Act.put, List.setIfInBounds_toArray, List.set_cons_zero, List.set_cons_succ]
  refine wpAnyH_here 9 (v := ?_) rfl (by kernel_rfl) (by kernel_rfl) (by kernel_rfl) (fun _ _ _ h => h) (Or.inl ⟨by rfl, ?_⟩) hHeld ?_
  rotate_left
  · intro w hSw; (try dsimp only at hSw); go_simp; all_goals (with_reducible rfl)
  try simp only [Act.put, List.setIfInBounds_toArray, List.set_cons_zero, List.set_cons_succ]
  refine wpAnyH_here 10 (v := ?_) rfl (by kernel_rfl) (by kernel_rfl) (by kernel_rfl) (fun _ _ _ h => h) (Or.inl ⟨by rfl, ?_⟩) hHeld ?_
  rotate_left
  · intro w hSw; (try dsimp only at hSw); go_simp; all_goals (with_reducible rfl)
  try simp only [Act.put, List.setIfInBounds_toArray, List.set_cons_zero, List.set_cons_succ]
  refine wpAnyH_here 11 (v := ?_) rfl (by kernel_rfl) (by kernel_rfl) (by kernel_rfl) (fun _ _ _ h => h) (Or.inl ⟨by rfl, ?_⟩) hHeld ?_
  rotate_left
  · intro w hSw; (try dsimp only at hSw); go_simp; all_goals (with_reducible rfl)
  try simp only [Act.put, List.setIfInBounds_toArray, List.set_cons_zero, List.set_cons_succ]
  refine wpAnyH_here 13 (v := ?_) rfl (by kernel_rfl) (by kernel_rfl) (by kernel_rfl) (fun _ _ _ h => h) (Or.inl ⟨by rfl, ?_⟩) hHeld ?_
  rotate_left
  · intro w hSw; (try dsimp only at hSw); go_simp; all_goals (with_reducible rfl)
  try simp only [Act.put, List.setIfInBounds_toArray, List.set_cons_zero, List.set_cons_succ]
  refine wpAnyH_here 14 (v := ?_) rfl (by kernel_rfl) (by kernel_rfl) (by kernel_rfl) (fun _ _ _ h => h) (Or.inl ⟨by rfl, ?_⟩) hHeld ?_
  rotate_left
  · intro w hSw; (try dsimp only at hSw); go_simp; all_goals (with_reducible rfl)
  try simp only [Act.put, List.setIfInBounds_toArray, List.set_cons_zero, List.set_cons_succ]
  refine wpAnyH_here 15 (v := ?_) rfl (by kernel_rfl) (by kernel_rfl) (by kernel_rfl) (fun _ _ _ h => h) (Or.inl ⟨by rfl, ?_⟩) hHeld ?_
  rotate_left
  · intro w hSw; (try dsimp only at hSw); go_simp; all_goals (with_reducible rfl)
  try simp only [Act.put, List.setIfInBounds_toArray, List.set_cons_zero, List.set_cons_succ]
  refine wpAnyH_here 16 (v := ?_) rfl (by kernel_rfl) (by kernel_rfl) (by kernel_rfl) (fun _ _ _ h => h) (Or.inl ⟨by rfl, ?_⟩) hHeld ?_
  rotate_left
  · intro w hSw; (try dsimp only at hSw); go_simp; all_goals (with_reducible rfl)
  try simp only [Act.put, List.setIfInBounds_toArray, List.set_cons_zero, List.set_cons_succ]
  refine wpAnyH_here 18 (v := ?_) rfl (by kernel_rfl) (by kernel_rfl) (by kernel_rfl) (fun _ _ _ h => h) (Or.inl ⟨by rfl, ?_⟩) hHeld ?_
  rotate_left
  · intro w hSw; (try dsimp only at hSw); go_simp; all_goals (with_reducible rfl)
  try simp only [Act.put, List.setIfInBounds_toArray, List.set_cons_zero, List.set_cons_succ]
  refine wpAnyH_here 19 (v := ?_) rfl (by kernel_rfl) (by kernel_rfl) (by kernel_rfl) (fun _ _ _ h => h) (Or.inl ⟨by rfl, ?_⟩) hHeld ?_
  rotate_left
  · intro w hSw; (try dsimp only at hSw); go_simp; all_goals (with_reducible rfl)
  try simp only [Act.put, List.setIfInBounds_toArray, List.set_cons_zero, List.set_cons_succ]
  refine wpAnyH_here 20 (v := ?_) rfl (by kernel_rfl) (by kernel_rfl) (by kernel_rfl) (fun _ _ _ h => h) (Or.inl ⟨by rfl, ?_⟩) hHeld ?_
  rotate_left
  · intro w hSw; (try dsimp only at hSw); go_simp; all_goals (with_reducible rfl)
  try simp only [Act.put, List.setIfInBounds_toArray, List.set_cons_zero, List.set_cons_succ]
  refine wpAnyH_here 21 (v := ?_) rfl (by kernel_rfl) (by kernel_rfl) (by kernel_rfl) (fun _ _ _ h => h) (Or.inl ⟨by rfl, ?_⟩) hHeld ?_
  rotate_left
  · intro w hSw; (try dsimp only at hSw); go_simp; all_goals (with_reducible rfl)
  try simp only [Act.put, List.setIfInBounds_toArray, List.set_cons_zero, List.set_cons_succ]
  refine wpAnyH_alone 12 rfl (by kernel_rfl) (fun K hK => ?_)
  · go_simp
    (go_at_call 27; refine (x1 _ hd).mono ?_; rintro e w2 ⟨v1, rfl, o1, b2⟩; obtain ⟨Ar', cr', rfl, _⟩ := o1.reads_len HL.out.1)
    have bb2 := hd.trans (show Below w.heap.size w.drew w2 from b2)
    refine hK.out _ _ (hS _ bb2) (fun hHeld => ?_)
    clear hK K
    try simp only [Act.put, List.setIfInBounds_toArray, List.set_cons_zero, List.set_cons_succ]
    refine wpAnyH_alone 17 rfl (by kernel_rfl) (fun K hK => ?_)
    go_simp
    (go_at_call 27; refine (x2 _ bb2).mono ?_; rintro e w3 ⟨v2, rfl, o2, b3⟩; obtain ⟨Aw', cw', rfl, _⟩ := o2.reads_len HL.out.2.1)
    have bb3 := bb2.trans (b3.mono bb2.size)
    refine hK.out _ _ (hS _ bb3) (fun hHeld => ?_)
    clear hK K
    try simp only [Act.put, List.setIfInBounds_toArray, List.set_cons_zero, List.set_cons_succ]
    have o1' := o1.below b3
    have o2' := o2
    have hap : ∀ x ∈ blkA Aw', x ∉ blkA Ar' := fun x hx hy => by
      have h1 := ((Md.of o2 HL.out.2.1).lt x hx).1
      have h2 := ((Md.of o1 HL.out.1).lt x hy).2
      omega
    have HC := Lib.hid (Pw_clone (w := w) HL.out.2.2.2.1 HL.out.2.2.2.2.1 HL.out.2.2.2.2.2.1 HL.out.2.2.2.2.2.2 o1' o2' HL.out.1 HL.out.2.1 (Nat.le_refl _) bb2.size hap bb3 HL.out.2.2.1)
    clear o1 o2 o1' o2' b2 b3 hap
    refine wpAnyH_here 22 (v := ?_) rfl (by kernel_rfl) (by kernel_rfl) (by kernel_rfl) (fun _ _ _ h => h) (Or.inl ⟨by rfl, ?_⟩) hHeld ?_
    rotate_left
    · intro w hSw; (try dsimp only at hSw); go_simp; all_goals (with_reducible rfl)
    try simp only [Act.put, List.setIfInBounds_toArray, List.set_cons_zero, List.set_cons_succ]
    refine wpAnyH_alone 23 rfl (by kernel_rfl) (fun K hK => ?_)
    go_simp
    skip
    refine hK.out _ _ (hS _ (bb3.alloc bb3.size _)) (fun hHeld => ?_)
    clear hK K
    try simp only [Act.put, List.setIfInBounds_toArray, List.set_cons_zero, List.set_cons_succ]
    refine wpAnyH_here 24 (v := ?_) rfl (by kernel_rfl) (by kernel_rfl) (by kernel_rfl) (fun _ _ _ h => h) (Or.inl ⟨by rfl, ?_⟩) hHeld ?_
    rotate_left
    · intro w hSw; (try dsimp only at hSw); go_simp; all_goals (with_reducible rfl)
    try simp only [Act.put, List.setIfInBounds_toArray, List.set_cons_zero, List.set_cons_succ]
    refine wpAnyH_done (by kernel_rfl) ?_ _
    go_wp2
    go_ret
    exact ⟨_, _, rfl, HC.out⟩
end
end Go.Proofs.Ytjjjlgaidklokaa.Pkr
