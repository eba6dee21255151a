/-
  Package source: proceed, repeat.
-/
import Derived.Test.YtaaikmncdgfkmaaSrcW2
namespace Go.Proofs.Ytaaikmncdgfkmaa.Src
open Go.RowKit
open Go.Proofs.Ytaaikmncdgfkmaa.Pdu (Pd)
open Go.Proofs.Ytaaikmncdgfkmaa.Rng (R)
open Go.Proofs.Ytaaikmncdgfkmaa.Fsm (ps)
section
variable {K : Kc} {s : SS} {A : Option Addr} {n c : Nat} {g : Nat} {w : World}
theorem i64_in {x : Int} (h0 : -9223372036854775808 ≤ x) (h1 : x < 9223372036854775808) : IntKind.i64.wrap x = x := by
  simp [IntKind.wrap, IntKind.bits, IntKind.signed]
  omega
set_option maxRecDepth 100000 in
set_option maxHeartbeats 4000000 in
theorem spro_meta (h : FX w g K s A n c) (hms : s.ms = false) :
    Calls Try.prog 31 #[.pointer (some ⟨g, 0, none⟩)] w fun e w' => ( ∃ kd sr nm cl na sz of da su co A0 n0 a0, e = .returned (.agg #[.int .i64 kd, .int .i64 sr, .int .i64 nm, .int .i64 cl, .string (str na), .int .i64 sz, .int .i64 of, .slice A0 n0 a0, .int .u32 ((su : Nat) : Int), .int .i64 co, .slice none 0 0]) ∧ UR w w' K.mta kd sr nm cl na sz of da su co A0 n0 a0) ∧ FW w' g K { s with ms := true } ∧ Only [g] w w' := by
  obtain ⟨W, hW, hu, hb, hs⟩ := unit_box w
  have h1 := h.below hb
  have o0 : Only [g] w W := Only.of_below hb
  have hne : w.heap.size ≠ g := (Cel.apart (t := TS) h1.cel hu (by decide)).symm
  have c11 := h1.cel.c11
  have f11 := h1.cel.free 11
  rw [hms] at c11
  have x9 := FX.mk (h1.cel.ms true) (h1.q.keep (h1.cel.kr_put 11 _))
  have o9 := only_then o0 (put_only W g 11 (.bool true))
  have u9 := hu.only (put_only W g 11 (.bool true)) (by simpa using hne)
  obtain ⟨W9, hW9⟩ : ∃ W9, W9 = W.setCell ⟨g, 11, none⟩ (.bool true) := ⟨_, rfl⟩
  rw [← hW9] at x9 o9 u9
  have hp := smeta_any x9.cel
  rw [hW] at c11 f11 hW9
  clear h h1 o0 hne hu hb hs hW
  go_enter Try.func31, Try.ntmps31
  go_upto_region 3 with fail
  rw [← hW9]
  clear hW9 c11 f11
  go_wp2_with fail
  refine hp.mono ?_
  rintro e w10 ⟨rfl, hb10⟩
  have x10 := x9.below hb10
  have u10 := Cel.on u9 hb10
  have o10 := o9.trans (Only.of_below (S := []) hb10) (by simp)
  have HE := Lib.hid (And.intro (fin_box x10 o10 (Nat.le_refl _) u10) u10)
  obtain ⟨d0, d1, d2, d3, d4, d5, d6, d7, d8, d9, d10, ff⟩ := Ub.of u10
  have i0 := ff 0
  have i1 := ff 1
  have i2 := ff 2
  have i3 := ff 3
  have i4 := ff 4
  have i5 := ff 5
  have i6 := ff 6
  have i7 := ff 7
  have i8 := ff 8
  have i9 := ff 9
  have i10 := ff 10
  clear ff
  clear x10 u10 o10 hb10 x9 u9 o9 hp
  go_wp2
  obtain ⟨e, f⟩ := HE.out
  exact bodyPost_ret (pro_results rfl (e _ _ _ _ _ _ _ _ _ _ _).1) rfl ⟨⟨1, K.sr, K.nm, K.cl, K.na, (K.da.length : Int), 0, [], 0, 0, none, 0, 0, rfl, rfl, By.zero _ _, by decide⟩, ⟨_, _, _, (e _ _ _ _ _ _ _ _ _ _ _).2.1⟩, (e _ _ _ _ _ _ _ _ _ _ _).2.2⟩
set_option maxRecDepth 100000 in
set_option maxHeartbeats 4000000 in
theorem spro_piece (h : FX w g K s A n c) (hK0 : K.Ok) (hms : s.ms = true) (hpo : s.po < K.da.length) :
    Calls Try.prog 31 #[.pointer (some ⟨g, 0, none⟩)] w fun e w' => ( ∃ kd sr nm cl na sz of da su co A0 n0 a0, e = .returned (.agg #[.int .i64 kd, .int .i64 sr, .int .i64 nm, .int .i64 cl, .string (str na), .int .i64 sz, .int .i64 of, .slice A0 n0 a0, .int .u32 ((su : Nat) : Int), .int .i64 co, .slice none 0 0]) ∧ UR w w' (K.pce s.po (nxe K s)) kd sr nm cl na sz of da su co A0 n0 a0) ∧ FW w' g K { s with po := nxe K s } ∧ Only [g] w w' := by
  obtain ⟨W, hW, hu, hb, hs⟩ := unit_box w
  have h1 := h.below hb
  have o0 : Only [g] w W := Only.of_below hb
  have hne : w.heap.size ≠ g := (Cel.apart (t := TS) h1.cel hu (by decide)).symm
  have c11 := h1.cel.c11
  rw [hms] at c11
  have c12 := h1.cel.c12
  have f12 := h1.cel.free 12
  have c4 := h1.cel.c4
  have c5 := h1.cel.c5
  have hz := str_len K.da
  obtain ⟨D, hD⟩ : ∃ D, D = K.da.length := ⟨_, rfl⟩
  obtain ⟨P, hP⟩ : ∃ P, P = s.po := ⟨_, rfl⟩
  obtain ⟨E, hE⟩ : ∃ E, E = nxe K s := ⟨_, rfl⟩
  rw [← hD] at hz hpo
  rw [← hP] at c12 hpo ⊢
  rw [← hE]
  have hd := hK0.d
  rw [← hD] at hd
  have h0 := hK0.h0
  have h9 := hK0.h1
  have y1 : decide ((P : Int) < (D : Int)) = true := decide_eq_true (by omega)
  have y2 : decide (P < D) = true := decide_eq_true hpo
  have hEv : (E : Int) = min ((P : Int) + K.ch) (D : Int) := by rw [hE, hP, hD]; unfold nxe; omega
  have y3 : min ((P : Int) + K.ch) (D : Int) = (E : Int) := hEv.symm
  have y4 : (if (D : Int) < (P : Int) + K.ch then (D : Int) else (P : Int) + K.ch) = (E : Int) := by rw [hEv]; split <;> omega
  have y5 : wrap64 ((P : Int) + K.ch) = (P : Int) + K.ch := wr64 (by omega) (by omega)
  have y6 : IntKind.i64.wrap ((P : Int) + K.ch) = (P : Int) + K.ch := i64_in (by omega) (by omega)
  have hPE : P ≤ E := by omega
  have hED : E ≤ K.da.length := by omega
  have HY := Lib.hid (And.intro hPE (And.intro hED (And.intro hd (And.intro hD (And.intro hP hE)))))
  have HH := Lib.hid (And.intro h1 (And.intro hu (And.intro hb o0)))
  rw [hW] at c11
  clear h h1 hu hb o0 hs hPE hED hd hEv hE hD hP h0 h9
  go_enter Try.func31, Try.ntmps31
  go_upto_region 4 with fail
  rw [← hW]
  clear hW
  go_region
  go_upto_region 5 with fail
  refine wp_region_held_drew (S := fun V => V.cell? ⟨g, 12, none⟩ = some (.int .i64 (P : Int)) ∧ V.cell? ⟨g, 5, none⟩ = some (.int .i64 K.ch) ∧ V.cell? ⟨g, 4, none⟩ = some (.string (str K.da))) (by kernel_rfl) (⟨c12, c5, c4⟩) (fun hHeld => ?_)
  refine wpAnyH_here 0 (v := ?_) rfl (by kernel_rfl) (by kernel_rfl) (by kernel_rfl) (fun _ _ _ h => h) (Or.inl ⟨by rfl, ?_⟩) hHeld ?_
  rotate_left
  · intro w hSw; (try dsimp only at hSw); go_simp; all_goals (with_reducible rfl)
  try simp only [Act.put, List.setIfInBounds_toArray, List.set_cons_zero, List.set_cons_succ]
  refine wpAnyH_here 1 (v := ?_) rfl (by kernel_rfl) (by kernel_rfl) (by kernel_rfl) (fun _ _ _ h => h) (Or.inl ⟨by rfl, ?_⟩) hHeld ?_
  rotate_left
  · intro w hSw; (try dsimp only at hSw); go_simp; all_goals (with_reducible rfl)
  try simp only [Act.put, List.setIfInBounds_toArray, List.set_cons_zero, List.set_cons_succ]
  refine wpAnyH_here 2 (v := ?_) rfl (by kernel_rfl) (by kernel_rfl) (by kernel_rfl) (fun _ _ _ h => h) (Or.inl ⟨by rfl, ?_⟩) hHeld ?_
  rotate_left
  · intro w hSw; (try dsimp only at hSw); go_simp; all_goals (with_reducible rfl)
  try simp only [Act.put, List.setIfInBounds_toArray, List.set_cons_zero, List.set_cons_succ]
  refine wpAnyH_here 3 (v := ?_) rfl (by kernel_rfl) (by kernel_rfl) (by kernel_rfl) (fun _ _ _ h => h) (Or.inl ⟨by rfl, ?_⟩) hHeld ?_
  rotate_left
  · intro w hSw; (try dsimp only at hSw); go_simp; all_goals (with_reducible rfl)
  try simp only [Act.put, List.setIfInBounds_toArray, List.set_cons_zero, List.set_cons_succ]
  refine wpAnyH_here 4 (v := ?_) rfl (by kernel_rfl) (by kernel_rfl) (by kernel_rfl) (fun _ _ _ h => h) (Or.inl ⟨by rfl, ?_⟩) hHeld ?_
  rotate_left
  · intro w hSw; (try dsimp only at hSw); go_simp; all_goals (with_reducible rfl)
  try simp only [Act.put, List.setIfInBounds_toArray, List.set_cons_zero, List.set_cons_succ]
  refine wpAnyH_here 5 (v := ?_) rfl (by kernel_rfl) (by kernel_rfl) (by kernel_rfl) (fun _ _ _ h => h) (Or.inl ⟨by rfl, ?_⟩) hHeld ?_
  rotate_left
  · intro w hSw; (try dsimp only at hSw); go_simp; all_goals (with_reducible rfl)
  try simp only [Act.put, List.setIfInBounds_toArray, List.set_cons_zero, List.set_cons_succ]
  refine wpAnyH_here 6 (v := ?_) rfl (by kernel_rfl) (by kernel_rfl) (by kernel_rfl) (fun _ _ _ h => h) (Or.inl ⟨by rfl, ?_⟩) hHeld ?_
  rotate_left
  · intro w hSw; (try dsimp only at hSw); go_simp; all_goals (with_reducible rfl)
  try simp only [Act.put, List.setIfInBounds_toArray, List.set_cons_zero, List.set_cons_succ]
  refine wpAnyH_here 7 (v := ?_) rfl (by kernel_rfl) (by kernel_rfl) (by kernel_rfl) (fun _ _ _ h => h) (Or.inl ⟨by rfl, ?_⟩) hHeld ?_
  rotate_left
  · intro w hSw; (try dsimp only at hSw); go_simp; all_goals (with_reducible rfl)
  try simp only [Act.put, List.setIfInBounds_toArray, List.set_cons_zero, List.set_cons_succ]
  refine wpAnyH_here 8 (v := ?_) rfl (by kernel_rfl) (by kernel_rfl) (by kernel_rfl) (fun _ _ _ h => h) (Or.inl ⟨by rfl, ?_⟩) hHeld ?_
  rotate_left
  · intro w hSw; (try dsimp only at hSw); go_simp; all_goals (with_reducible rfl)
  try simp only [Act.put, List.setIfInBounds_toArray, List.set_cons_zero, List.set_cons_succ]
  refine wpAnyH_here 9 (v := ?_) rfl (by kernel_rfl) (by kernel_rfl) (by kernel_rfl) (fun _ _ _ h => h) (Or.inl ⟨by rfl, ?_⟩) hHeld ?_
  rotate_left
  · intro w hSw; (try dsimp only at hSw); go_simp; all_goals (with_reducible rfl)
  try simp only [Act.put, List.setIfInBounds_toArray, List.set_cons_zero, List.set_cons_succ]
  refine wpAnyH_here 10 (v := ?_) rfl (by kernel_rfl) (by kernel_rfl) (by kernel_rfl) (fun _ _ _ h => h) (Or.inl ⟨by rfl, ?_⟩) hHeld ?_
  rotate_left
  · intro w hSw; (try dsimp only at hSw); go_simp; all_goals (with_reducible rfl)
  try simp only [Act.put, List.setIfInBounds_toArray, List.set_cons_zero, List.set_cons_succ]
  refine wpAnyH_here 11 (v := ?_) rfl (by kernel_rfl) (by kernel_rfl) (by kernel_rfl) (fun _ _ _ h => h) (Or.inl ⟨by rfl, ?_⟩) hHeld ?_
  rotate_left
  · intro w hSw; (try dsimp only at hSw); go_simp; all_goals (with_reducible rfl)
  try simp only [Act.put, List.setIfInBounds_toArray, List.set_cons_zero, List.set_cons_succ]
  refine wpAnyH_here 12 (v := ?_) rfl (by kernel_rfl) (by kernel_rfl) (by kernel_rfl) (fun _ _ _ h => h) (Or.inl ⟨by rfl, ?_⟩) hHeld ?_
  rotate_left
  · intro w hSw; (try dsimp only at hSw); go_simp; all_goals (with_reducible rfl)
  try simp only [Act.put, List.setIfInBounds_toArray, List.set_cons_zero, List.set_cons_succ]
  refine wpAnyH_here 13 (v := ?_) rfl (by kernel_rfl) (by kernel_rfl) (by kernel_rfl) (fun _ _ _ h => h) (Or.inl ⟨by rfl, ?_⟩) hHeld ?_
  rotate_left
  · intro w hSw; (try dsimp only at hSw); go_simp; all_goals (with_reducible rfl)
  try simp only [Act.put, List.setIfInBounds_toArray, List.set_cons_zero, List.set_cons_succ]
  refine wpAnyH_here 14 (v := ?_) rfl (by kernel_rfl) (by kernel_rfl) (by kernel_rfl) (fun _ _ _ h => h) (Or.inl ⟨by rfl, ?_⟩) hHeld ?_
  rotate_left
  · intro w hSw; (try dsimp only at hSw); go_simp; all_goals (with_reducible rfl)
  try simp only [Act.put, List.setIfInBounds_toArray, List.set_cons_zero, List.set_cons_succ]
  refine wpAnyH_here 15 (v := ?_) rfl (by kernel_rfl) (by kernel_rfl) (by kernel_rfl) (fun _ _ _ h => h) (Or.inl ⟨by rfl, ?_⟩) hHeld ?_
  rotate_left
  · intro w hSw; (try dsimp only at hSw); go_simp; all_goals (with_reducible rfl)
  try simp only [Act.put, List.setIfInBounds_toArray, List.set_cons_zero, List.set_cons_succ]
  refine wpAnyH_here 16 (v := ?_) rfl (by kernel_rfl) (by kernel_rfl) (by kernel_rfl) (fun _ _ _ h => h) (Or.inl ⟨by rfl, ?_⟩) hHeld ?_
  rotate_left
  · intro w hSw; (try dsimp only at hSw); go_simp; all_goals (with_reducible rfl)
  try simp only [Act.put, List.setIfInBounds_toArray, List.set_cons_zero, List.set_cons_succ]
  refine wpAnyH_here 17 (v := ?_) rfl (by kernel_rfl) (by kernel_rfl) (by kernel_rfl) (fun _ _ _ h => h) (Or.inl ⟨by rfl, ?_⟩) hHeld ?_
  rotate_left
  · intro w hSw; (try dsimp only at hSw); go_simp; all_goals (with_reducible rfl)
  try simp only [Act.put, List.setIfInBounds_toArray, List.set_cons_zero, List.set_cons_succ]
  refine wpAnyH_here 18 (v := ?_) rfl (by kernel_rfl) (by kernel_rfl) (by kernel_rfl) (fun _ _ _ h => h) (Or.inl ⟨by rfl, ?_⟩) hHeld ?_
  rotate_left
  · intro w hSw; (try dsimp only at hSw); go_simp; all_goals (with_reducible rfl)
  try simp only [Act.put, List.setIfInBounds_toArray, List.set_cons_zero, List.set_cons_succ]
  refine wpAnyH_here 19 (v := ?_) rfl (by kernel_rfl) (by kernel_rfl) (by kernel_rfl) (fun _ _ _ h => h) (Or.inl ⟨by rfl, ?_⟩) hHeld ?_
  rotate_left
  · intro w hSw; (try dsimp only at hSw); go_simp; all_goals (with_reducible rfl)
  try simp only [Act.put, List.setIfInBounds_toArray, List.set_cons_zero, List.set_cons_succ]
  refine wpAnyH_here 20 (v := ?_) rfl (by kernel_rfl) (by kernel_rfl) (by kernel_rfl) (fun _ _ _ h => h) (Or.inl ⟨by rfl, ?_⟩) hHeld ?_
  rotate_left
  · intro w hSw; (try dsimp only at hSw); go_simp; all_goals (with_reducible rfl)
  try simp only [Act.put, List.setIfInBounds_toArray, List.set_cons_zero, List.set_cons_succ]
  have hd2 : Below W.heap.size W W.drew.drew := ⟨rfl, rfl, rfl, Nat.le_refl _, fun _ _ => rfl⟩
  refine wpAnyH_alone 21 rfl (by kernel_rfl) (fun K_ hK => ?_)
  go_simp
  have y6 := Cel.new W.drew.drew 62 #[.int .i64 0, .int .i64 0]
  have e7 := hd2.trans ((bel_new W.drew.drew (.cells #[.int .i64 0, .int .i64 0] 62)).mono hd2.size)
  obtain ⟨Y, hYe⟩ : ∃ Y, Y = W.heap.size := ⟨_, rfl⟩
  have hY : W.heap.size ≤ Y := by rw [hYe]; exact Nat.le_refl _
  obtain ⟨W7, hW7⟩ : ∃ W7, W7 = W.drew.drew.alloc (.cells #[.int .i64 0, .int .i64 0] 62) := ⟨_, rfl⟩
  have hW7' : W7 = (W.alloc (.cells #[.int .i64 0, .int .i64 0] 62)).drew.drew := hW7
  have y7 : Cel W7 Y 62 #[.int .i64 0, .int .i64 0] := by rw [hW7, hYe]; exact y6
  rw [← hW7] at e7
  rw [← hW7']
  rw [← hYe]
  clear hW7 hYe hW7' y6
  obtain ⟨h1, hu, hb, o0⟩ := HH.out
  have hg1 := h1.cel.lt
  have t7 := And.intro ((e7.cell (p := ⟨g, 12, none⟩) hg1).trans c12) (And.intro ((e7.cell (p := ⟨g, 5, none⟩) hg1).trans c5) ((e7.cell (p := ⟨g, 4, none⟩) hg1).trans c4))
  refine hK.out _ _ t7 (fun hHeld => ?_)
  clear hK K_
  try simp only [Act.put, List.setIfInBounds_toArray, List.set_cons_zero, List.set_cons_succ]
  have z0 := y7.cell 0
  have z1 := y7.cell 1
  have z2 := y7.free 0
  have z3 := y7.free 1
  obtain ⟨s8, k8⟩ := rng_put y7 (.int .i64 (P : Int)) (.int .i64 (E : Int))
  have e8 := only_bel e7 k8 hY
  have t8 := And.intro ((e8.cell (p := ⟨g, 12, none⟩) hg1).trans c12) (And.intro ((e8.cell (p := ⟨g, 5, none⟩) hg1).trans c5) ((e8.cell (p := ⟨g, 4, none⟩) hg1).trans c4))
  refine wpAnyH_alone 22 rfl (by kernel_rfl) (fun K_ hK => ?_)
  go_simp
  refine hK.out _ _ t8 (fun hHeld => ?_)
  clear hK K_
  try simp only [Act.put, List.setIfInBounds_toArray, List.set_cons_zero, List.set_cons_succ]
  refine wpAnyH_done (by kernel_rfl) ?_ _
  clear c4 c5 c11 c12 f12 z0 z1 z2 z3 t7 y7 e7
  have hYg : Y ≠ g := by omega
  obtain ⟨W8, hW8⟩ : ∃ W8, W8 = (W7.setCell ⟨Y, 0, none⟩ (.int .i64 (P : Int))).setCell ⟨Y, 1, none⟩ (.int .i64 (E : Int)) := ⟨_, rfl⟩
  rw [← hW8] at s8 e8
  clear k8 t8
  have x8 := h1.below e8
  have u8 := Cel.on hu e8
  have o8 := o0.trans (Only.of_below (S := []) e8) (by simp)
  have s81 := s8.cell 1
  have c12 := x8.cel.c12
  have f12 := x8.cel.free 12
  go_upto_region 6 with fail
  rw [← hW8]
  clear hW8
  have x9 := FX.mk (x8.cel.po E) (x8.q.keep (x8.cel.kr_put 12 _))
  have o9 := only_then o8 (put_only W8 g 12 (.int .i64 (E : Int)))
  have u9 := u8.only (put_only W8 g 12 (.int .i64 (E : Int))) (by simpa using hne)
  have q9 := s8.only (put_only W8 g 12 (.int .i64 (E : Int))) (by simpa using hYg)
  obtain ⟨W9, hW9⟩ : ∃ W9, W9 = W8.setCell ⟨g, 12, none⟩ (.int .i64 (E : Int)) := ⟨_, rfl⟩
  rw [← hW9] at x9 o9 u9 q9
  go_upto_region 7 with fail
  rw [← hW9]
  clear hW9 x8 u8 o8 s81 c12 f12 s8 e8 hHeld
  obtain ⟨hPE, hED, hd, hD, hP, hE⟩ := HY.out
  obtain ⟨m, hm⟩ : ∃ m, E - P = m := ⟨_, rfl⟩
  have hp := spiece_any x9.cel P E hPE hED (by omega) _ m rfl hm
  have p0 := q9.cell 0
  have p1 := q9.cell 1
  clear h1 hu hb o0 hPE hED hd hD hP hE
  go_wp2_with fail
  refine hp.mono ?_
  rintro e w10 ⟨⟨A0, c0, rfl, by0⟩, hb10⟩
  have x10 := x9.below hb10
  have u10 := Cel.on u9 hb10
  have o10 := o9.trans (Only.of_below (S := []) hb10) (by simp)
  have HE := Lib.hid (And.intro (fin_box x10 o10 (Nat.le_refl _) u10) (And.intro u10 (by0.more (Nat.le_trans o9.size (Nat.le_refl _)))))
  obtain ⟨d0, d1, d2, d3, d4, d5, d6, d7, d8, d9, d10, ff⟩ := Ub.of u10
  have i0 := ff 0
  have i1 := ff 1
  have i2 := ff 2
  have i3 := ff 3
  have i4 := ff 4
  have i5 := ff 5
  have i6 := ff 6
  have i7 := ff 7
  have i8 := ff 8
  have i9 := ff 9
  have i10 := ff 10
  clear ff
  clear x10 u10 o10 by0 hb10 x9 u9 o9 q9 p0 p1 hp
  go_wp2
  obtain ⟨e, f, k⟩ := HE.out
  exact bodyPost_ret (pro_results rfl (e _ _ _ _ _ _ _ _ _ _ _).1) rfl ⟨⟨2, K.sr, K.nm, 0, [], 0, (P : Int), _, 0, 0, A0, m, c0, rfl, rfl, k.only (box_only _ _ _ _ _ _ _ _ _ _ _) (not_byte f (by decide)), by decide⟩, ⟨_, _, _, (e _ _ _ _ _ _ _ _ _ _ _).2.1⟩, (e _ _ _ _ _ _ _ _ _ _ _).2.2⟩
set_option maxRecDepth 100000 in
set_option maxHeartbeats 4000000 in
theorem spro_end1 (h : FX w g K s A n c) (hK0 : K.Ok) (hms : s.ms = true) (hpo : ¬ s.po < K.da.length) (hcl : K.cl = 1) :
    Calls Try.prog 31 #[.pointer (some ⟨g, 0, none⟩)] w fun e w' => ( ∃ kd sr nm cl na sz of da su co A0 n0 a0, e = .returned (.agg #[.int .i64 kd, .int .i64 sr, .int .i64 nm, .int .i64 cl, .string (str na), .int .i64 sz, .int .i64 of, .slice A0 n0 a0, .int .u32 ((su : Nat) : Int), .int .i64 co, .slice none 0 0]) ∧ UR w w' (K.eof s.co) kd sr nm cl na sz of da su co A0 n0 a0) ∧ FW w' g K { s with ph := 5 } ∧ Only [g] w w' := by
  obtain ⟨W, hW, hu, hb, hs⟩ := unit_box w
  have h1 := h.below hb
  have o0 : Only [g] w W := Only.of_below hb
  have hne : w.heap.size ≠ g := (Cel.apart (t := TS) h1.cel hu (by decide)).symm
  have c11 := h1.cel.c11
  rw [hms] at c11
  have c12 := h1.cel.c12
  have c4 := h1.cel.c4
  have c2 := h1.cel.c2
  have c8 := h1.cel.c8
  have f8 := h1.cel.free 8
  have hz := str_len K.da
  obtain ⟨D, hD⟩ : ∃ D, D = K.da.length := ⟨_, rfl⟩
  obtain ⟨P, hP⟩ : ∃ P, P = s.po := ⟨_, rfl⟩
  have hd := hK0.d
  rw [← hD] at hz hpo
  rw [← hP] at c12 hpo
  have y1 : decide ((P : Int) < (D : Int)) = false := decide_eq_false (by omega)
  have y2 : decide (P < D) = false := decide_eq_false hpo
  rw [hcl] at c2
  clear hcl
  have hd1 : Below W.heap.size W W.drew := ⟨rfl, rfl, rfl, Nat.le_refl _, fun _ _ => rfl⟩
  have hx1 := h1.below hd1
  have x9 := FX.mk (hx1.cel.ph 5) (hx1.q.keep (hx1.cel.kr_put 8 _))
  have o9 := only_then (o0.trans (Only.of_below (S := []) hd1) (by simp)) (put_only W.drew g 8 (.int .i64 5))
  have u9 := (Cel.on hu hd1).only (put_only W.drew g 8 (.int .i64 5)) (by simpa using hne)
  obtain ⟨W9, hW9⟩ : ∃ W9, W9 = W.drew.setCell ⟨g, 8, none⟩ (.int .i64 5) := ⟨_, rfl⟩
  have hW9' : W9 = (W.setCell ⟨g, 8, none⟩ (.int .i64 5)).drew := hW9
  rw [← hW9] at x9 o9 u9
  clear hx1 hd1
  have HP := Lib.hid hd
  rw [hW] at c11
  clear h h1 o0 hne hu hb hs hd hD hP hpo
  go_enter Try.func31, Try.ntmps31
  go_upto_region 4 with fail
  rw [← hW]
  clear hW
  go_region
  go_upto_region 8 with fail
  go_upto_region 12 with fail
  first | rw [← hW9] | rw [← hW9']
  clear hW9 hW9' c11 c12 c4 c2 c8 f8 hz
  have hp := seof_any x9.cel (by have := HP.out; omega)
  go_wp2_with fail
  refine hp.mono ?_
  rintro e w10 ⟨rfl, hb10⟩
  have x10 := x9.below hb10
  have u10 := Cel.on u9 hb10
  have o10 := o9.trans (Only.of_below (S := []) hb10) (by simp)
  have HE := Lib.hid (And.intro (fin_box x10 o10 (Nat.le_refl _) u10) u10)
  obtain ⟨d0, d1, d2, d3, d4, d5, d6, d7, d8, d9, d10, ff⟩ := Ub.of u10
  have i0 := ff 0
  have i1 := ff 1
  have i2 := ff 2
  have i3 := ff 3
  have i4 := ff 4
  have i5 := ff 5
  have i6 := ff 6
  have i7 := ff 7
  have i8 := ff 8
  have i9 := ff 9
  have i10 := ff 10
  clear ff
  clear x10 u10 o10 hb10 x9 u9 o9 hp
  go_wp2
  obtain ⟨e, f⟩ := HE.out
  exact bodyPost_ret (pro_results rfl (e _ _ _ _ _ _ _ _ _ _ _).1) rfl ⟨⟨3, K.sr, K.nm, K.cl, [], (K.da.length : Int), 0, [], (ps 0 K.da).toNat, s.co, none, 0, 0, rfl, rfl, By.zero _ _, (ps 0 K.da).isLt⟩, ⟨_, _, _, (e _ _ _ _ _ _ _ _ _ _ _).2.1⟩, (e _ _ _ _ _ _ _ _ _ _ _).2.2⟩
set_option maxRecDepth 100000 in
set_option maxHeartbeats 4000000 in
theorem spro_end2 (h : FX w g K s A n c) (hK0 : K.Ok) (hms : s.ms = true) (hpo : ¬ s.po < K.da.length) (hcl : K.cl = 2) :
    Calls Try.prog 31 #[.pointer (some ⟨g, 0, none⟩)] w fun e w' => ( ∃ kd sr nm cl na sz of da su co A0 n0 a0, e = .returned (.agg #[.int .i64 kd, .int .i64 sr, .int .i64 nm, .int .i64 cl, .string (str na), .int .i64 sz, .int .i64 of, .slice A0 n0 a0, .int .u32 ((su : Nat) : Int), .int .i64 co, .slice none 0 0]) ∧ UR w w' (K.eof s.co) kd sr nm cl na sz of da su co A0 n0 a0) ∧ FW w' g K { s with ph := 2, ti := s.nw, re := 0 } ∧ Only [g] w w' := by
  obtain ⟨W, hW, hu, hb, hs⟩ := unit_box w
  have h1 := h.below hb
  have o0 : Only [g] w W := Only.of_below hb
  have hne : w.heap.size ≠ g := (Cel.apart (t := TS) h1.cel hu (by decide)).symm
  have c11 := h1.cel.c11
  rw [hms] at c11
  have c12 := h1.cel.c12
  have c4 := h1.cel.c4
  have c2 := h1.cel.c2
  have c8 := h1.cel.c8
  have f8 := h1.cel.free 8
  have hz := str_len K.da
  obtain ⟨D, hD⟩ : ∃ D, D = K.da.length := ⟨_, rfl⟩
  obtain ⟨P, hP⟩ : ∃ P, P = s.po := ⟨_, rfl⟩
  have hd := hK0.d
  rw [← hD] at hz hpo
  rw [← hP] at c12 hpo
  have y1 : decide ((P : Int) < (D : Int)) = false := decide_eq_false (by omega)
  have y2 : decide (P < D) = false := decide_eq_false hpo
  rw [hcl] at c2
  clear hcl
  have hd1 : Below W.heap.size W W.drew := ⟨rfl, rfl, rfl, Nat.le_refl _, fun _ _ => rfl⟩
  have hx1 := h1.below hd1
  have x8 := FX.mk (hx1.cel.ph 2) (hx1.q.keep (hx1.cel.kr_put 8 _))
  have o8 := only_then (o0.trans (Only.of_below (S := []) hd1) (by simp)) (put_only W.drew g 8 (.int .i64 2))
  have u8 := (Cel.on hu hd1).only (put_only W.drew g 8 (.int .i64 2)) (by simpa using hne)
  obtain ⟨W8, hW8⟩ : ∃ W8, W8 = W.drew.setCell ⟨g, 8, none⟩ (.int .i64 2) := ⟨_, rfl⟩
  have hW8' : W8 = (W.setCell ⟨g, 8, none⟩ (.int .i64 2)).drew := hW8
  rw [← hW8] at x8 o8 u8
  have HN := Lib.hid hne
  clear hx1 hd1
  have HP := Lib.hid hd
  rw [hW] at c11
  clear h h1 o0 hne hu hb hs hd hD hP hpo
  go_enter Try.func31, Try.ntmps31
  go_upto_region 4 with fail
  rw [← hW]
  clear hW
  go_region
  go_upto_region 8 with fail
  go_upto_region 11 with fail
  first | rw [← hW8] | rw [← hW8']
  clear hW8 hW8' c11 c12 c4 c2 c8 f8 hz
  have hr := srestart_any x8
  go_wp2_with fail
  refine hr.mono ?_
  rintro e W9 ⟨rfl, x9, k9⟩
  have o9 := only_then o8 k9
  have u9 := u8.only k9 (by simpa using HN.out)
  have hp := seof_any x9.cel (by have := HP.out; omega)
  clear x8 o8 u8 hr k9
  go_wp2_with fail
  refine hp.mono ?_
  rintro e w10 ⟨rfl, hb10⟩
  have x10 := x9.below hb10
  have u10 := Cel.on u9 hb10
  have o10 := o9.trans (Only.of_below (S := []) hb10) (by simp)
  have HE := Lib.hid (And.intro (fin_box x10 o10 (Nat.le_refl _) u10) u10)
  obtain ⟨d0, d1, d2, d3, d4, d5, d6, d7, d8, d9, d10, ff⟩ := Ub.of u10
  have i0 := ff 0
  have i1 := ff 1
  have i2 := ff 2
  have i3 := ff 3
  have i4 := ff 4
  have i5 := ff 5
  have i6 := ff 6
  have i7 := ff 7
  have i8 := ff 8
  have i9 := ff 9
  have i10 := ff 10
  clear ff
  clear x10 u10 o10 hb10 x9 u9 o9 hp
  go_wp2
  obtain ⟨e, f⟩ := HE.out
  exact bodyPost_ret (pro_results rfl (e _ _ _ _ _ _ _ _ _ _ _).1) rfl ⟨⟨3, K.sr, K.nm, K.cl, [], (K.da.length : Int), 0, [], (ps 0 K.da).toNat, s.co, none, 0, 0, rfl, rfl, By.zero _ _, (ps 0 K.da).isLt⟩, ⟨_, _, _, (e _ _ _ _ _ _ _ _ _ _ _).2.1⟩, (e _ _ _ _ _ _ _ _ _ _ _).2.2⟩
theorem sproceed_any (h : FX w g K s A n c) (hK0 : K.Ok) :
    Calls Try.prog 31 #[.pointer (some ⟨g, 0, none⟩)] w fun e w' => ( ∃ kd sr nm cl na sz of da su co A0 n0 a0, e = .returned (.agg #[.int .i64 kd, .int .i64 sr, .int .i64 nm, .int .i64 cl, .string (str na), .int .i64 sz, .int .i64 of, .slice A0 n0 a0, .int .u32 ((su : Nat) : Int), .int .i64 co, .slice none 0 0]) ∧ UR w w' (prP K s) kd sr nm cl na sz of da su co A0 n0 a0) ∧ FW w' g K (prS K s) ∧ Only [g] w w' := by
  unfold prP prS
  by_cases h1 : s.ms = false
  · rw [if_pos h1, if_pos h1]
    exact spro_meta h h1
  rw [if_neg h1, if_neg h1]
  have h1 : s.ms = true := by simpa using h1
  by_cases h2 : s.po < K.da.length
  · rw [if_pos h2, if_pos h2]
    exact spro_piece h hK0 h1 h2
  rw [if_neg h2, if_neg h2]
  by_cases h3 : K.cl = 1
  · rw [if_pos h3]
    exact spro_end1 h hK0 h1 h2 h3
  · rw [if_neg h3]
    exact spro_end2 h hK0 h1 h2 (by have := hK0.c; omega)
set_option maxRecDepth 100000 in
set_option maxHeartbeats 4000000 in
theorem srep_ack (h : FX w g K s A n c) (hK0 : K.Ok) (ok : s.Ok K) (he : s.ea = true) :
    Calls Try.prog 32 #[.pointer (some ⟨g, 0, none⟩)] w fun e w' => ( ∃ kd sr nm cl na sz of da su co A0 n0 a0, e = .returned (.tuple #[.agg #[.int .i64 kd, .int .i64 sr, .int .i64 nm, .int .i64 cl, .string (str na), .int .i64 sz, .int .i64 of, .slice A0 n0 a0, .int .u32 ((su : Nat) : Int), .int .i64 co, .slice none 0 0], .bool false]) ∧ UR w w' Pd.none kd sr nm cl na sz of da su co A0 n0 a0) ∧ FW w' g K s ∧ Only [g] w w' := by
  obtain ⟨W, hW, hu, hb, hs⟩ := unit_box w
  have h1 := h.below hb
  have o0 : Only [g] w W := Only.of_below hb
  have hne : w.heap.size ≠ g := (Cel.apart (t := TS) h1.cel hu (by decide)).symm
  have c15 := h1.cel.c15
  have c19 := h1.cel.c19
  have c17 := h1.cel.c17
  have c6 := h1.cel.c6
  have t0 := ok.t0
  have t1 := ok.t1
  have t2 := ok.n1
  have t3 := hK0.t0
  have t4 := hK0.t1
  have q1 : wrap64 (s.nw - s.ti) = s.nw - s.ti := wr64 (by omega) (by omega)
  have q2 : IntKind.i64.wrap (s.nw - s.ti) = s.nw - s.ti := i64_in (by omega) (by omega)
  have hd1 : Below W.heap.size W W.drew := ⟨rfl, rfl, rfl, Nat.le_refl _, fun _ _ => rfl⟩
  have x5 := h1.below hd1
  have u5 := Cel.on hu hd1
  have o5 := o0.trans (Only.of_below (S := []) hd1) (by simp)
  obtain ⟨W5, hW5⟩ : ∃ W5, W5 = W.drew := ⟨_, rfl⟩
  rw [← hW5] at x5 u5 o5
  rw [he] at c15
  clear he
  obtain ⟨nw, hnw⟩ : ∃ nw, nw = s.nw := ⟨_, rfl⟩
  obtain ⟨ti, hti⟩ : ∃ ti, ti = s.ti := ⟨_, rfl⟩
  rw [← hnw] at c19 q1 q2
  rw [← hti] at c17 q1 q2
  clear hnw hti
  have HE := Lib.hid (fin_box x5 o5 (Nat.le_refl _) u5)
  obtain ⟨d0, d1, d2, d3, d4, d5, d6, d7, d8, d9, d10, ff⟩ := Ub.of u5
  have i0 := ff 0
  have i1 := ff 1
  have i2 := ff 2
  have i3 := ff 3
  have i4 := ff 4
  have i5 := ff 5
  have i6 := ff 6
  have i7 := ff 7
  have i8 := ff 8
  have i9 := ff 9
  have i10 := ff 10
  clear ff
  clear x5 u5 o5 hne
  clear h h1 o0 hu hb hs hd1 t0 t1 t2 t3 t4
  go_enter Try.func32, Try.ntmps32
  go_upto_region 1 with fail
  rw [← hW]
  clear hW
  go_region
  go_upto_region 2 with fail
  rw [← hW5]
  clear hW5 c15 c19 c17 c6 q1 q2
  go_wp2
  have e := HE.out
  exact bodyPost_ret (rep_results rfl rfl (e _ _ _ _ _ _ _ _ _ _ _).1) rfl ⟨⟨0, 0, 0, 0, [], 0, 0, [], 0, 0, none, 0, 0, rfl, rfl, By.zero _ _, by decide⟩, ⟨_, _, _, (e _ _ _ _ _ _ _ _ _ _ _).2.1⟩, (e _ _ _ _ _ _ _ _ _ _ _).2.2⟩
set_option maxRecDepth 100000 in
set_option maxHeartbeats 4000000 in
theorem srep_early (h : FX w g K s A n c) (hK0 : K.Ok) (ok : s.Ok K) (he : s.ea = false) (ht : s.nw - s.ti < K.tt) :
    Calls Try.prog 32 #[.pointer (some ⟨g, 0, none⟩)] w fun e w' => ( ∃ kd sr nm cl na sz of da su co A0 n0 a0, e = .returned (.tuple #[.agg #[.int .i64 kd, .int .i64 sr, .int .i64 nm, .int .i64 cl, .string (str na), .int .i64 sz, .int .i64 of, .slice A0 n0 a0, .int .u32 ((su : Nat) : Int), .int .i64 co, .slice none 0 0], .bool false]) ∧ UR w w' Pd.none kd sr nm cl na sz of da su co A0 n0 a0) ∧ FW w' g K s ∧ Only [g] w w' := by
  obtain ⟨W, hW, hu, hb, hs⟩ := unit_box w
  have h1 := h.below hb
  have o0 : Only [g] w W := Only.of_below hb
  have hne : w.heap.size ≠ g := (Cel.apart (t := TS) h1.cel hu (by decide)).symm
  have c15 := h1.cel.c15
  have c19 := h1.cel.c19
  have c17 := h1.cel.c17
  have c6 := h1.cel.c6
  have t0 := ok.t0
  have t1 := ok.t1
  have t2 := ok.n1
  have t3 := hK0.t0
  have t4 := hK0.t1
  have q1 : wrap64 (s.nw - s.ti) = s.nw - s.ti := wr64 (by omega) (by omega)
  have q2 : IntKind.i64.wrap (s.nw - s.ti) = s.nw - s.ti := i64_in (by omega) (by omega)
  have hd1 : Below W.heap.size W W.drew := ⟨rfl, rfl, rfl, Nat.le_refl _, fun _ _ => rfl⟩
  have x5 := h1.below hd1
  have u5 := Cel.on hu hd1
  have o5 := o0.trans (Only.of_below (S := []) hd1) (by simp)
  obtain ⟨W5, hW5⟩ : ∃ W5, W5 = W.drew := ⟨_, rfl⟩
  rw [← hW5] at x5 u5 o5
  rw [he] at c15
  clear he
  obtain ⟨nw, hnw⟩ : ∃ nw, nw = s.nw := ⟨_, rfl⟩
  obtain ⟨ti, hti⟩ : ∃ ti, ti = s.ti := ⟨_, rfl⟩
  rw [← hnw] at c19 q1 q2 ht
  rw [← hti] at c17 q1 q2 ht
  clear hnw hti
  have HE := Lib.hid (fin_box x5 o5 (Nat.le_refl _) u5)
  obtain ⟨d0, d1, d2, d3, d4, d5, d6, d7, d8, d9, d10, ff⟩ := Ub.of u5
  have i0 := ff 0
  have i1 := ff 1
  have i2 := ff 2
  have i3 := ff 3
  have i4 := ff 4
  have i5 := ff 5
  have i6 := ff 6
  have i7 := ff 7
  have i8 := ff 8
  have i9 := ff 9
  have i10 := ff 10
  clear ff
  clear x5 u5 o5 hne
  clear h h1 o0 hu hb hs hd1 t0 t1 t2 t3 t4
  go_enter Try.func32, Try.ntmps32
  go_upto_region 1 with fail
  rw [← hW]
  clear hW
  go_region
  go_upto_region 2 with fail
  rw [← hW5]
  clear hW5 c15 c19 c17 c6 q1 q2
  go_wp2
  have e := HE.out
  exact bodyPost_ret (rep_results rfl rfl (e _ _ _ _ _ _ _ _ _ _ _).1) rfl ⟨⟨0, 0, 0, 0, [], 0, 0, [], 0, 0, none, 0, 0, rfl, rfl, By.zero _ _, by decide⟩, ⟨_, _, _, (e _ _ _ _ _ _ _ _ _ _ _).2.1⟩, (e _ _ _ _ _ _ _ _ _ _ _).2.2⟩
set_option maxRecDepth 100000 in
set_option maxHeartbeats 4000000 in
theorem srep_end (h : FX w g K s A n c) (hK0 : K.Ok) (ok : s.Ok K) (he : s.ea = false) (ht : ¬ s.nw - s.ti < K.tt) (hr : s.re = K.rt) :
    Calls Try.prog 32 #[.pointer (some ⟨g, 0, none⟩)] w fun e w' => ( ∃ kd sr nm cl na sz of da su co A0 n0 a0, e = .returned (.tuple #[.agg #[.int .i64 kd, .int .i64 sr, .int .i64 nm, .int .i64 cl, .string (str na), .int .i64 sz, .int .i64 of, .slice A0 n0 a0, .int .u32 ((su : Nat) : Int), .int .i64 co, .slice none 0 0], .bool false]) ∧ UR w w' Pd.none kd sr nm cl na sz of da su co A0 n0 a0) ∧ FW w' g K { s with ph := 6, co := 10 } ∧ Only [g] w w' := by
  obtain ⟨W, hW, hu, hb, hs⟩ := unit_box w
  have h1 := h.below hb
  have o0 : Only [g] w W := Only.of_below hb
  have hne : w.heap.size ≠ g := (Cel.apart (t := TS) h1.cel hu (by decide)).symm
  have c15 := h1.cel.c15
  have c19 := h1.cel.c19
  have c17 := h1.cel.c17
  have c6 := h1.cel.c6
  have t0 := ok.t0
  have t1 := ok.t1
  have t2 := ok.n1
  have t3 := hK0.t0
  have t4 := hK0.t1
  have q1 : wrap64 (s.nw - s.ti) = s.nw - s.ti := wr64 (by omega) (by omega)
  have q2 : IntKind.i64.wrap (s.nw - s.ti) = s.nw - s.ti := i64_in (by omega) (by omega)
  have hd1 : Below W.heap.size W W.drew := ⟨rfl, rfl, rfl, Nat.le_refl _, fun _ _ => rfl⟩
  have x5 := h1.below hd1
  have u5 := Cel.on hu hd1
  have o5 := o0.trans (Only.of_below (S := []) hd1) (by simp)
  obtain ⟨W5, hW5⟩ : ∃ W5, W5 = W.drew := ⟨_, rfl⟩
  rw [← hW5] at x5 u5 o5
  rw [he] at c15
  clear he
  obtain ⟨nw, hnw⟩ : ∃ nw, nw = s.nw := ⟨_, rfl⟩
  obtain ⟨ti, hti⟩ : ∃ ti, ti = s.ti := ⟨_, rfl⟩
  rw [← hnw] at c19 q1 q2 ht
  rw [← hti] at c17 q1 q2 ht
  clear hnw hti
  have c18 := x5.cel.c18
  have c7 := x5.cel.c7
  have hd5 : Below W5.heap.size W5 W5.drew := ⟨rfl, rfl, rfl, Nat.le_refl _, fun _ _ => rfl⟩
  have x6 := x5.below hd5
  have u6 := Cel.on u5 hd5
  have o6 := o5.trans (Only.of_below (S := []) hd5) (by simp)
  obtain ⟨W6, hW6⟩ : ∃ W6, W6 = W5.drew := ⟨_, rfl⟩
  rw [← hW6] at x6 u6 o6
  obtain ⟨re, hre⟩ : ∃ re, re = s.re := ⟨_, rfl⟩
  rw [← hre] at c18
  have y1 : (re == K.rt) = true := by rw [hre, hr]; simp
  have y2 : re = K.rt := by rw [hre, hr]
  rw [y2] at c18 y1
  have c8 := x6.cel.c8
  have f8 := x6.cel.free 8
  have c10 := x6.cel.c10
  have f10 := x6.cel.free 10
  have k7 := only_then (put_only W6 g 8 (.int .i64 6)) (put_only _ g 10 (.int .i64 10))
  have x7 := FX.mk ((x6.cel.ph 6).co 10) (x6.q.keep (x6.cel.kr k7))
  have o7 := only_then o6 k7
  have u7 := u6.only k7 (by simpa using hne)
  obtain ⟨W7, hW7⟩ : ∃ W7, W7 = (W6.setCell ⟨g, 8, none⟩ (.int .i64 6)).setCell ⟨g, 10, none⟩ (.int .i64 10) := ⟨_, rfl⟩
  rw [← hW7] at x7 o7 u7
  have HE := Lib.hid (fin_box x7 o7 (Nat.le_refl _) u7)
  obtain ⟨d0, d1, d2, d3, d4, d5, d6, d7, d8, d9, d10, ff⟩ := Ub.of u7
  have i0 := ff 0
  have i1 := ff 1
  have i2 := ff 2
  have i3 := ff 3
  have i4 := ff 4
  have i5 := ff 5
  have i6 := ff 6
  have i7 := ff 7
  have i8 := ff 8
  have i9 := ff 9
  have i10 := ff 10
  clear ff
  clear x5 u5 o5 hd5 x6 u6 o6 x7 u7 o7 k7 hne hre y2 hr
  clear h h1 o0 hu hb hs hd1 t0 t1 t2 t3 t4
  go_enter Try.func32, Try.ntmps32
  go_upto_region 1 with fail
  rw [← hW]
  clear hW
  go_region
  go_upto_region 3 with fail
  rw [← hW5]
  clear hW5 c15 c19 c17 c6 q1 q2
  go_region
  go_upto_region 4 with fail
  rw [← hW6]
  clear hW6 c18 c7
  go_upto_region 6 with fail
  rw [← hW7]
  clear hW7 c8 f8 c10 f10
  go_wp2
  have e := HE.out
  exact bodyPost_ret (rep_results rfl rfl (e _ _ _ _ _ _ _ _ _ _ _).1) rfl ⟨⟨0, 0, 0, 0, [], 0, 0, [], 0, 0, none, 0, 0, rfl, rfl, By.zero _ _, by decide⟩, ⟨_, _, _, (e _ _ _ _ _ _ _ _ _ _ _).2.1⟩, (e _ _ _ _ _ _ _ _ _ _ _).2.2⟩
set_option maxRecDepth 100000 in
set_option maxHeartbeats 4000000 in
theorem srep_again (h : FX w g K s A n c) (hK0 : K.Ok) (ok : s.Ok K) (he : s.ea = false) (ht : ¬ s.nw - s.ti < K.tt) (hr : ¬ s.re = K.rt) :
    Calls Try.prog 32 #[.pointer (some ⟨g, 0, none⟩)] w fun e w' => ( ∃ kd sr nm cl na sz of da su co A0 n0 a0, e = .returned (.tuple #[.agg #[.int .i64 kd, .int .i64 sr, .int .i64 nm, .int .i64 cl, .string (str na), .int .i64 sz, .int .i64 of, .slice A0 n0 a0, .int .u32 ((su : Nat) : Int), .int .i64 co, .slice none 0 0], .bool true]) ∧ UR w w' (K.eof s.co) kd sr nm cl na sz of da su co A0 n0 a0) ∧ FW w' g K { s with re := s.re + 1, ti := s.nw } ∧ Only [g] w w' := by
  obtain ⟨W, hW, hu, hb, hs⟩ := unit_box w
  have h1 := h.below hb
  have o0 : Only [g] w W := Only.of_below hb
  have hne : w.heap.size ≠ g := (Cel.apart (t := TS) h1.cel hu (by decide)).symm
  have c15 := h1.cel.c15
  have c19 := h1.cel.c19
  have c17 := h1.cel.c17
  have c6 := h1.cel.c6
  have t0 := ok.t0
  have t1 := ok.t1
  have t2 := ok.n1
  have t3 := hK0.t0
  have t4 := hK0.t1
  have q1 : wrap64 (s.nw - s.ti) = s.nw - s.ti := wr64 (by omega) (by omega)
  have q2 : IntKind.i64.wrap (s.nw - s.ti) = s.nw - s.ti := i64_in (by omega) (by omega)
  have hd1 : Below W.heap.size W W.drew := ⟨rfl, rfl, rfl, Nat.le_refl _, fun _ _ => rfl⟩
  have x5 := h1.below hd1
  have u5 := Cel.on hu hd1
  have o5 := o0.trans (Only.of_below (S := []) hd1) (by simp)
  obtain ⟨W5, hW5⟩ : ∃ W5, W5 = W.drew := ⟨_, rfl⟩
  rw [← hW5] at x5 u5 o5
  rw [he] at c15
  clear he
  obtain ⟨nw, hnw⟩ : ∃ nw, nw = s.nw := ⟨_, rfl⟩
  obtain ⟨ti, hti⟩ : ∃ ti, ti = s.ti := ⟨_, rfl⟩
  rw [← hnw] at c19 q1 q2 ht
  rw [← hti] at c17 q1 q2 ht
  clear hnw hti
  have c18 := x5.cel.c18
  have c7 := x5.cel.c7
  have hd5 : Below W5.heap.size W5 W5.drew := ⟨rfl, rfl, rfl, Nat.le_refl _, fun _ _ => rfl⟩
  have x6 := x5.below hd5
  have u6 := Cel.on u5 hd5
  have o6 := o5.trans (Only.of_below (S := []) hd5) (by simp)
  obtain ⟨W6, hW6⟩ : ∃ W6, W6 = W5.drew := ⟨_, rfl⟩
  rw [← hW6] at x6 u6 o6
  obtain ⟨re, hre⟩ : ∃ re, re = s.re := ⟨_, rfl⟩
  rw [← hre] at c18
  have y1 : (re == K.rt) = false := by rw [hre]; simpa using hr
  have r0 := ok.r0
  have r1 := ok.r1
  have r2 := hK0.r1
  have y2 : wrap64 (re + 1) = re + 1 := wr64 (by omega) (by omega)
  have y3 : IntKind.i64.wrap (re + 1) = re + 1 := i64_in (by omega) (by omega)
  have e18 := x6.cel.c18
  rw [← hre] at e18
  have f18 := x6.cel.free 18
  have x7 := FX.mk (x6.cel.re (s.re + 1)) (x6.q.keep (x6.cel.kr_put 18 _))
  rw [← hre] at x7 ⊢
  have o7 := only_then o6 (put_only W6 g 18 (.int .i64 (re + 1)))
  have u7 := u6.only (put_only W6 g 18 (.int .i64 (re + 1))) (by simpa using hne)
  obtain ⟨W7, hW7⟩ : ∃ W7, W7 = W6.setCell ⟨g, 18, none⟩ (.int .i64 (re + 1)) := ⟨_, rfl⟩
  rw [← hW7] at x7 o7 u7
  have e19 := x7.cel.c19
  have e17 := x7.cel.c17
  have f17 := x7.cel.free 17
  have x9 := FX.mk (x7.cel.ti s.nw) (x7.q.keep (x7.cel.kr_put 17 _))
  have o9 := only_then o7 (put_only W7 g 17 (.int .i64 s.nw))
  have u9 := u7.only (put_only W7 g 17 (.int .i64 s.nw)) (by simpa using hne)
  obtain ⟨W9, hW9⟩ : ∃ W9, W9 = W7.setCell ⟨g, 17, none⟩ (.int .i64 s.nw) := ⟨_, rfl⟩
  rw [← hW9] at x9 o9 u9
  have hp := seof_any x9.cel (by have := hK0.d; omega)
  dsimp only at e19 e17 e18 hp
  clear x5 u5 o5 hd5 x6 u6 o6 x7 u7 o7 hne hre hr r0 r1 r2
  clear h h1 o0 hu hb hs hd1 t0 t1 t2 t3 t4
  go_enter Try.func32, Try.ntmps32
  go_upto_region 1 with fail
  rw [← hW]
  clear hW
  go_region
  go_upto_region 3 with fail
  rw [← hW5]
  clear hW5 c15 c19 c17 c6 q1 q2
  go_region
  go_upto_region 7 with fail
  rw [← hW6]
  clear hW6 c18 c7
  go_upto_region 8 with fail
  rw [← hW7]
  clear hW7 e18 f18 y2 y3
  go_upto_region 9 with fail
  rw [← hW9]
  clear hW9 e19 e17 f17
  go_wp2_with fail
  refine hp.mono ?_
  rintro e w10 ⟨rfl, hb10⟩
  have x10 := x9.below hb10
  have u10 := Cel.on u9 hb10
  have o10 := o9.trans (Only.of_below (S := []) hb10) (by simp)
  have HE := Lib.hid (And.intro (fin_box x10 o10 (Nat.le_refl _) u10) u10)
  obtain ⟨d0, d1, d2, d3, d4, d5, d6, d7, d8, d9, d10, ff⟩ := Ub.of u10
  have i0 := ff 0
  have i1 := ff 1
  have i2 := ff 2
  have i3 := ff 3
  have i4 := ff 4
  have i5 := ff 5
  have i6 := ff 6
  have i7 := ff 7
  have i8 := ff 8
  have i9 := ff 9
  have i10 := ff 10
  clear ff
  clear x10 u10 o10 hb10 x9 u9 o9 hp
  go_wp2
  obtain ⟨e, f⟩ := HE.out
  exact bodyPost_ret (rep_results rfl rfl (e _ _ _ _ _ _ _ _ _ _ _).1) rfl ⟨⟨3, K.sr, K.nm, K.cl, [], (K.da.length : Int), 0, [], (ps 0 K.da).toNat, s.co, none, 0, 0, rfl, rfl, By.zero _ _, (ps 0 K.da).isLt⟩, ⟨_, _, _, (e _ _ _ _ _ _ _ _ _ _ _).2.1⟩, (e _ _ _ _ _ _ _ _ _ _ _).2.2⟩
theorem srepeat_any (h : FX w g K s A n c) (hK0 : K.Ok) (ok : s.Ok K) :
    Calls Try.prog 32 #[.pointer (some ⟨g, 0, none⟩)] w fun e w' => ( ∃ kd sr nm cl na sz of da su co A0 n0 a0, e = .returned (.tuple #[.agg #[.int .i64 kd, .int .i64 sr, .int .i64 nm, .int .i64 cl, .string (str na), .int .i64 sz, .int .i64 of, .slice A0 n0 a0, .int .u32 ((su : Nat) : Int), .int .i64 co, .slice none 0 0], .bool (rpO K s).2]) ∧ UR w w' (rpO K s).1 kd sr nm cl na sz of da su co A0 n0 a0) ∧ FW w' g K (rpS K s) ∧ Only [g] w w' := by
  unfold rpO rpS
  by_cases h1 : s.ea = true
  · rw [if_pos (.inl h1), if_pos (.inl h1)]
    exact srep_ack h hK0 ok h1
  have h1' : s.ea = false := by simpa using h1
  by_cases h2 : s.nw - s.ti < K.tt
  · rw [if_pos (.inr (.inl h2)), if_pos (.inr h2)]
    exact srep_early h hK0 ok h1' h2
  by_cases h3 : s.re = K.rt
  · rw [if_pos (.inr (.inr h3)), if_neg (by simp [h1', h2]), if_pos h3]
    exact srep_end h hK0 ok h1' h2 h3
  · rw [if_neg (by simp [h1', h2, h3]), if_neg (by simp [h1', h2]), if_neg h3]
    exact srep_again h hK0 ok h1' h2 h3
end
end Go.Proofs.Ytaaikmncdgfkmaa.Src
