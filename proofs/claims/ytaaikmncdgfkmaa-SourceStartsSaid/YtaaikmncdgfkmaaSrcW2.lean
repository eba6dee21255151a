/-
  Package source: ackDone, answer, proceed, repeat.
-/
import Derived.Test.YtaaikmncdgfkmaaSrcW1
import Derived.Test.YtaaikmncdgfkmaaRngW4
import Derived.Test.YtaaikmncdgfkmaaRngW5
import Derived.Deep.CutRange
namespace Go.Proofs.Ytaaikmncdgfkmaa.Src
open Go.RowKit
open Go.Proofs.Ytaaikmncdgfkmaa.Pdu (Pd)
open Go.Proofs.Ytaaikmncdgfkmaa.Rng (R)
open Go.Proofs.Ytaaikmncdgfkmaa.Fsm (ps)
section
variable {K : Kc} {s : SS} {A : Option Addr} {n c : Nat} {g : Nat} {w : World}
set_option maxRecDepth 100000 in
set_option maxHeartbeats 4000000 in
theorem sack_any (h : FX w g K s A n c) :
    Calls Try.prog 27 #[.pointer (some ⟨g, 0, none⟩)] w fun e w' => e = .returned (.agg #[.int .i64 7, .int .i64 K.sr, .int .i64 K.nm, .int .i64 0, .string ⟨#[]⟩, .int .i64 0, .int .i64 0, .slice none 0 0, .int .u32 0, .int .i64 0, .slice none 0 0]) ∧ FX w' g K (akS s) A n c ∧ Only [g] w w' := by
  obtain ⟨W, hW, hu, hb, hs⟩ := unit_box w
  have h1 := h.below hb
  have c0 := h1.cel.c0
  have c1 := h1.cel.c1
  have c8 := h1.cel.c8
  have c10 := h1.cel.c10
  have c16 := h1.cel.c16
  have f8 := h1.cel.free 8
  have f16 := h1.cel.free 16
  have o0 : Only [g] w W := Only.of_below hb
  have hu1 := hu.only (put_only W g 16 (.bool false)) (by simpa using (Cel.apart (t := TS) h1.cel hu (by decide)).symm)
  have x1 : FX (W.setCell ⟨g, 16, none⟩ (.bool false)) g K { s with ad := false } A n c := ⟨h1.cel.ad false, h1.q.keep (h1.cel.kr_put 16 _)⟩
  have o1 := only_then o0 (put_only W g 16 (.bool false))
  have hne : w.heap.size ≠ g := (Cel.apart (t := TS) h1.cel hu (by decide)).symm
  by_cases h3 : s.ph = 3
  · have x2 := FX.mk (x1.cel.ph 6) (x1.q.keep (x1.cel.kr_put 8 _))
    have o2 := only_then o1 (put_only _ g 8 (.int .i64 6))
    have hu2 := hu1.only (put_only _ g 8 (.int .i64 6)) (by simpa using hne)
    have a10 := x2.cel.c10
    have a8 := x2.cel.c8
    have g8 := x2.cel.free 8
    obtain ⟨W2, hW2⟩ : ∃ W2, W2 = (W.setCell ⟨g, 16, none⟩ (.bool false)).setCell ⟨g, 8, none⟩ (.int .i64 6) := ⟨_, rfl⟩
    rw [← hW2] at x2 o2 hu2 a10 a8 g8
    have HW := Lib.hid hW
    have HW2 := Lib.hid hW2
    rw [h3] at c8
    rw [hW] at c8 c16 f8 f16 hW2
    clear hW
    by_cases h0 : s.co = 0
    · have e : akS s = { s with ad := false, ph := 5 } := by unfold akS; rw [if_pos h3, if_pos h0]
      rw [e]
      have x3 := FX.mk (x2.cel.ph 5) (x2.q.keep (x2.cel.kr_put 8 _))
      have o3 := only_then o2 (put_only _ g 8 (.int .i64 5))
      have hu3 := hu2.only (put_only _ g 8 (.int .i64 5)) (by simpa using hne)
      have a0 := x3.cel.c0
      have a1 := x3.cel.c1
      obtain ⟨W3, hW3⟩ : ∃ W3, W3 = W2.setCell ⟨g, 8, none⟩ (.int .i64 5) := ⟨_, rfl⟩
      rw [← hW3] at x3 o3 hu3 a0 a1
      obtain ⟨d0, d1, d2, d3, d4, d5, d6, d7, d8, d9, d10, ff⟩ := Ub.of hu3
      have i0 := ff 0
      have i1 := ff 1
      have i2 := ff 2
      have i3 := ff 3
      have i4 := ff 4
      have i5 := ff 5
      have i6 := ff 6
      have i7 := ff 7
      have i8 := ff 8
      have i9 := ff 9
      have i10 := ff 10
      clear ff
      have HE := Lib.hid (fin_box x3 o3 (Nat.le_refl _) hu3)
      rw [h0] at a10
      clear h h1 hu hb hs o0 hu1 x1 o1 x2 o2 hu2 x3 o3 hu3 e h3 h0 hne c0 c1 c10
      go_enter Try.func27, Try.ntmps27
      go_upto_region 4 with fail
      rw [← hW2]
      clear hW2 c8 c16 f8 f16
      go_upto_region 6 with fail
      rw [← hW3]
      clear hW3 a8 a10 g8
      go_wp2
      have e := HE.out
      exact bodyPost_ret (ack_results rfl (e _ _ _ _ _ _ _ _ _ _ _).1) rfl ⟨rfl, (e _ _ _ _ _ _ _ _ _ _ _).2⟩
    · have e : akS s = { s with ad := false, ph := 6 } := by unfold akS; rw [if_pos h3, if_neg h0]
      rw [e]
      have a0 := x2.cel.c0
      have a1 := x2.cel.c1
      obtain ⟨d0, d1, d2, d3, d4, d5, d6, d7, d8, d9, d10, ff⟩ := Ub.of hu2
      have i0 := ff 0
      have i1 := ff 1
      have i2 := ff 2
      have i3 := ff 3
      have i4 := ff 4
      have i5 := ff 5
      have i6 := ff 6
      have i7 := ff 7
      have i8 := ff 8
      have i9 := ff 9
      have i10 := ff 10
      clear ff
      have HE := Lib.hid (fin_box x2 o2 (Nat.le_refl _) hu2)
      obtain ⟨co, hco⟩ : ∃ co, co = s.co := ⟨_, rfl⟩
      have z0 : (co == 0) = false := by rw [hco]; simpa using h0
      dsimp only at a10
      rw [← hco] at a10
      clear h h1 hu hb hs o0 hu1 x1 o1 x2 o2 hu2 e h3 h0 hne hco c0 c1 c10
      go_enter Try.func27, Try.ntmps27
      go_upto_region 4 with fail
      rw [← hW2]
      clear hW2 c8 c16 f8 f16
      go_wp2
      have e := HE.out
      exact bodyPost_ret (ack_results rfl (e _ _ _ _ _ _ _ _ _ _ _).1) rfl ⟨rfl, (e _ _ _ _ _ _ _ _ _ _ _).2⟩
  · have e : akS s = { s with ad := false } := by unfold akS; rw [if_neg h3]
    rw [e]
    have HE := Lib.hid (fin_box x1 o1 (Nat.le_refl _) hu1)
    obtain ⟨ph, hph⟩ : ∃ ph, ph = s.ph := ⟨_, rfl⟩
    have z3 : (ph == 3) = false := by rw [hph]; simpa using h3
    rw [← hph] at c8
    have HW := Lib.hid hW
    rw [hW] at c0 c1 c8 c10 c16 f8 f16
    clear hW
    clear h h1 hu hb hs o0 hu1 x1 o1 e h3 hne hph
    go_enter Try.func27, Try.ntmps27
    go_wp2
    have e := HE.out
    rw [HW.out] at e
    exact bodyPost_ret (ack_results rfl (e _ _ _ _ _ _ _ _ _ _ _).1) rfl ⟨rfl, (e _ _ _ _ _ _ _ _ _ _ _).2⟩

/-! ### answer -/
theorem head_at {V W : World} {l : List R} {A : Option Addr} {n c : Nat} {ch : Int} (h : Gq W l A n c) (q : Below W.heap.size W V) (hl : l.length ≤ 100000) (hi : Rng.In64 l) (h0 : 1 ≤ ch) (h1 : ch ≤ 512) :
    Calls Try.prog 47 #[.slice A n c, .int .i64 ch] V fun e w' => ∃ v, e = .returned v ∧ Rng.Os w' V.heap.size 62 v (Rng.hd (Rng.nrm l) ch.toNat) ∧ Below V.heap.size V w' := by
  have e := h.len
  subst e
  exact Rng.head_any l ch V A c ((h.below q).rs) (by omega) hi (by omega) (by omega)
theorem remove_at {V W : World} {l : List R} {A : Option Addr} {n c : Nat} (x y : Int) (h : Gq W l A n c) (q : Below W.heap.size W V) (hl : l.length ≤ 100000) (hc : Rng.Canon l) :
    Calls Try.prog 48 #[.slice A n c, .agg #[.int .i64 x, .int .i64 y]] V fun e w' => ∃ v, e = .returned v ∧ Rng.Os w' V.heap.size 62 v (Rng.rmv l (x, y)) ∧ Below V.heap.size V w' := by
  have e := h.len
  subst e
  have := Rng.remove_any l x y V A c ((h.below q).rs) (by omega)
  rw [Rng.nrm_self hc] at this
  exact this
set_option maxRecDepth 100000 in
set_option maxHeartbeats 4000000 in
theorem sanswer_any (h : FX w g K s A n c) (hK0 : K.Ok) (ok : s.Ok K) (hrq : s.rq ≠ []) :
    Calls Try.prog 30 #[.pointer (some ⟨g, 0, none⟩)] w fun e w' => (∃ a b m A0 c0, e = .returned (.agg #[.int .i64 2, .int .i64 K.sr, .int .i64 K.nm, .int .i64 0, .string ⟨#[]⟩, .int .i64 0, .int .i64 ((a : Nat) : Int), .slice A0 m c0, .int .u32 0, .int .i64 0, .slice none 0 0]) ∧ fst1 K.ch s.rq = ((a : Int), ((b : Nat) : Int)) ∧ By w' w.heap.size A0 ((K.da.drop a).take (b - a)) m c0) ∧ FW w' g K (anS K s) ∧ Only [g] w w' := by
  obtain ⟨W, hW, hu, hb, hs⟩ := unit_box w
  have h1 := h.below hb
  have k14 := h1.cel.c14
  have k5 := h1.cel.c5
  have hg1 := h1.cel.lt
  have hfp := fst1_pos hK0.h0 ok.can ok.win hrq
  obtain ⟨hr, hhr⟩ := hd_fst hK0.d hK0.h0 ok.can ok.win hrq
  have hnl1 := Win.len ok.can ok.win
  have hD := hK0.d
  obtain ⟨a, ha⟩ : ∃ a : Nat, (fst1 K.ch s.rq).1 = (a : Int) := ⟨_, (Int.toNat_of_nonneg hfp.1).symm⟩
  obtain ⟨b, hb'⟩ : ∃ b : Nat, (fst1 K.ch s.rq).2 = (b : Int) := ⟨_, (Int.toNat_of_nonneg (by omega)).symm⟩
  have hf : fst1 K.ch s.rq = ((a : Int), (b : Int)) := Prod.ext ha hb'
  rw [ha, hb'] at hfp
  obtain ⟨f0, f1, f2, f3⟩ := hfp
  have hab : a ≤ b := by omega
  have hbN : b ≤ K.da.length := by omega
  have hhd := fun V (q : Below W.heap.size W V) => head_at h1.q q (by omega) (Win.in64 hK0.d ok.can ok.win) hK0.h0 hK0.h1
  obtain ⟨m8, hnl⟩ : ∃ m8, (anS K s).rq.length = m8 := ⟨_, rfl⟩
  obtain ⟨ml, hml⟩ : ∃ ml, (Rng.hd (Rng.nrm s.rq) K.ch.toNat).length = ml := ⟨_, rfl⟩
  have hm0 : 0 < ml := by rw [← hml, hhr]; simp
  have hd0 : Below W.heap.size W W.drew := ⟨rfl, rfl, rfl, Nat.le_refl _, fun _ _ => rfl⟩
  have hgw := h.cel.lt
  have hWs : w.heap.size < W.heap.size := by omega
  have hbg : w.heap.size ≠ g := by omega
  have HH := Lib.hid (And.intro h1 (And.intro hu (And.intro hb ok)))
  have HF := Lib.hid (And.intro hnl (And.intro hbN (And.intro hab hD)))
  clear h hu hb hs ok hrq h1 hD hnl1 f0 f1 f2 f3 hab hbN ha hb' hgw hnl
  go_enter Try.func30, Try.ntmps30
  go_upto_region 1 with fail
  rw [← hW]
  clear hW
  go_cut [3] from 4 to 15 (fun z wx => ∃ q : Nat, z = .pointer (some ⟨q, 0, none⟩) ∧ Cel wx q 62 #[.int .i64 (a : Int), .int .i64 (b : Int)] ∧ Below W.heap.size W wx ∧ W.heap.size ≤ q)
  case first =>
    refine wp_region_held_drew (S := fun V => V.cell? ⟨g, 14, none⟩ = some (.slice A n c) ∧ V.cell? ⟨g, 5, none⟩ = some (.int .i64 K.ch)) (by kernel_rfl) (⟨k14, k5⟩) (fun hHeld => ?_)
    refine wpAnyH_here 0 (v := ?_) rfl (by kernel_rfl) (by kernel_rfl) (by kernel_rfl) (fun _ _ _ h => h) (Or.inl ⟨by rfl, ?_⟩) hHeld ?_
    rotate_left
    · intro w hSw; (try dsimp only at hSw); go_simp; all_goals (with_reducible rfl)
    try simp only [Act.put, List.setIfInBounds_toArray, List.set_cons_zero, List.set_cons_succ]
    refine wpAnyH_here 1 (v := ?_) rfl (by kernel_rfl) (by kernel_rfl) (by kernel_rfl) (fun _ _ _ h => h) (Or.inl ⟨by rfl, ?_⟩) hHeld ?_
    rotate_left
    · intro w hSw; (try dsimp only at hSw); go_simp; all_goals (with_reducible rfl)
    try simp only [Act.put, List.setIfInBounds_toArray, List.set_cons_zero, List.set_cons_succ]
    refine wpAnyH_here 2 (v := ?_) rfl (by kernel_rfl) (by kernel_rfl) (by kernel_rfl) (fun _ _ _ h => h) (Or.inl ⟨by rfl, ?_⟩) hHeld ?_
    rotate_left
    · intro w hSw; (try dsimp only at hSw); go_simp; all_goals (with_reducible rfl)
    try simp only [Act.put, List.setIfInBounds_toArray, List.set_cons_zero, List.set_cons_succ]
    refine wpAnyH_here 3 (v := ?_) rfl (by kernel_rfl) (by kernel_rfl) (by kernel_rfl) (fun _ _ _ h => h) (Or.inl ⟨by rfl, ?_⟩) hHeld ?_
    rotate_left
    · intro w hSw; (try dsimp only at hSw); go_simp; all_goals (with_reducible rfl)
    try simp only [Act.put, List.setIfInBounds_toArray, List.set_cons_zero, List.set_cons_succ]
    refine wpAnyH_here 4 (v := ?_) rfl (by kernel_rfl) (by kernel_rfl) (by kernel_rfl) (fun _ _ _ h => h) (Or.inl ⟨by rfl, ?_⟩) hHeld ?_
    rotate_left
    · intro w hSw; (try dsimp only at hSw); go_simp; all_goals (with_reducible rfl)
    try simp only [Act.put, List.setIfInBounds_toArray, List.set_cons_zero, List.set_cons_succ]
    refine wpAnyH_here 5 (v := ?_) rfl (by kernel_rfl) (by kernel_rfl) (by kernel_rfl) (fun _ _ _ h => h) (Or.inl ⟨by rfl, ?_⟩) hHeld ?_
    rotate_left
    · intro w hSw; (try dsimp only at hSw); go_simp; all_goals (with_reducible rfl)
    try simp only [Act.put, List.setIfInBounds_toArray, List.set_cons_zero, List.set_cons_succ]
    refine wpAnyH_here 6 (v := ?_) rfl (by kernel_rfl) (by kernel_rfl) (by kernel_rfl) (fun _ _ _ h => h) (Or.inl ⟨by rfl, ?_⟩) hHeld ?_
    rotate_left
    · intro w hSw; (try dsimp only at hSw); go_simp; all_goals (with_reducible rfl)
    try simp only [Act.put, List.setIfInBounds_toArray, List.set_cons_zero, List.set_cons_succ]
    refine wpAnyH_here 7 (v := ?_) rfl (by kernel_rfl) (by kernel_rfl) (by kernel_rfl) (fun _ _ _ h => h) (Or.inl ⟨by rfl, ?_⟩) hHeld ?_
    rotate_left
    · intro w hSw; (try dsimp only at hSw); go_simp; all_goals (with_reducible rfl)
    try simp only [Act.put, List.setIfInBounds_toArray, List.set_cons_zero, List.set_cons_succ]
    refine wpAnyH_here 8 (v := ?_) rfl (by kernel_rfl) (by kernel_rfl) (by kernel_rfl) (fun _ _ _ h => h) (Or.inl ⟨by rfl, ?_⟩) hHeld ?_
    rotate_left
    · intro w hSw; (try dsimp only at hSw); go_simp; all_goals (with_reducible rfl)
    try simp only [Act.put, List.setIfInBounds_toArray, List.set_cons_zero, List.set_cons_succ]
    refine wpAnyH_both 9 12 rfl rfl (by kernel_rfl) (fun K_ hK => ?_) (fun K_ hK => ?_)
    · 
      go_simp
      refine (hhd _ hd0).mono ?_
      rintro e w6 ⟨v6, rfl, o6, hb6⟩
      obtain ⟨A6, c6, rfl, r6, n6, l6, x6⟩ := o6.reads_len hml
      obtain ⟨b5, o5, rfl, hb5, hx⟩ := r6 (by rw [hml]; exact hm0)
      obtain ⟨r0, r1⟩ := hx 0 (fst1 K.ch s.rq) (by rw [hhr]; rfl)
      rw [Nat.zero_mul, Nat.add_zero, hf] at r0 r1
      dsimp only at r0 r1
      have e6 : Below W.heap.size W w6 := hd0.trans (hb6.mono hd0.size)
      refine hK.out _ _ ⟨(e6.cell (p := ⟨g, 14, none⟩) hg1).trans k14, (e6.cell (p := ⟨g, 5, none⟩) hg1).trans k5⟩ (fun hHeld => ?_)
      clear hK K_
      try simp only [Act.put, List.setIfInBounds_toArray, List.set_cons_zero, List.set_cons_succ]
      refine wpAnyH_sharpen (S' := fun V => (V.cell? ⟨g, 14, none⟩ = some (.slice A n c) ∧ V.cell? ⟨g, 5, none⟩ = some (.int .i64 K.ch)) ∧ V.cell? ⟨b5, o5, none⟩ = some (.int .i64 (a : Int)) ∧ V.cell? ⟨b5, o5 + 1, none⟩ = some (.int .i64 (b : Int))) (fun w h => h.1) (⟨hHeld, r0, r1⟩) (fun hHeld => ?_)
      refine wpAnyH_here 10 (v := ?_) rfl (by kernel_rfl) (by kernel_rfl) (by kernel_rfl) (fun _ _ _ h => h) (Or.inl ⟨by rfl, ?_⟩) hHeld ?_
      rotate_left
      · intro w hSw; (try dsimp only at hSw); go_simp; all_goals (with_reducible rfl)
      try simp only [Act.put, List.setIfInBounds_toArray, List.set_cons_zero, List.set_cons_succ]
      refine wpAnyH_here 11 (v := ?_) rfl (by kernel_rfl) (by kernel_rfl) (by kernel_rfl) (fun _ _ _ h => h) (Or.inl ⟨by rfl, ?_⟩) hHeld ?_
      rotate_left
      · intro w hSw; (try dsimp only at hSw); go_simp; all_goals (with_reducible rfl)
      try simp only [Act.put, List.setIfInBounds_toArray, List.set_cons_zero, List.set_cons_succ]
      refine wpAnyH_alone 12 rfl (by kernel_rfl) (fun K_ hK => ?_)
      go_simp
      have y7 := Cel.new w6 62 #[.int .i64 0, .int .i64 0]
      have e7 := e6.trans ((bel_new w6 (.cells #[.int .i64 0, .int .i64 0] 62)).mono e6.size)
      obtain ⟨Y, hYe⟩ : ∃ Y, Y = w6.heap.size := ⟨_, rfl⟩
      have hY : W.heap.size ≤ Y := by rw [hYe]; exact e6.size
      have hYb : b5 ≠ Y := by rw [hYe]; exact Nat.ne_of_lt hb5
      obtain ⟨W7, hW7⟩ : ∃ W7, W7 = w6.alloc (.cells #[.int .i64 0, .int .i64 0] 62) := ⟨_, rfl⟩
      have q7 : w6.heap.size < W7.heap.size := by rw [hW7]; simp
      have r07 : W7.cell? ⟨b5, o5, none⟩ = some (.int .i64 (a : Int)) := by rw [hW7]; exact ((bel_new w6 _).cell (p := ⟨b5, o5, none⟩) hb5).trans r0
      have r17 : W7.cell? ⟨b5, o5 + 1, none⟩ = some (.int .i64 (b : Int)) := by rw [hW7]; exact ((bel_new w6 _).cell (p := ⟨b5, o5 + 1, none⟩) hb5).trans r1
      rw [← hW7] at y7 e7 ⊢
      rw [← hYe] at y7 ⊢
      have hb57 : b5 < W7.heap.size := Nat.lt_trans hb5 q7
      clear hW7 hYe q7
      refine hK.out _ _ ⟨⟨(e7.cell (p := ⟨g, 14, none⟩) hg1).trans k14, (e7.cell (p := ⟨g, 5, none⟩) hg1).trans k5⟩, r07, r17⟩ (fun hHeld => ?_)
      clear hK K_
      try simp only [Act.put, List.setIfInBounds_toArray, List.set_cons_zero, List.set_cons_succ]
      have z0 := y7.cell 0
      have z1 := y7.cell 1
      have z2 := y7.free 0
      have z3 := y7.free 1
      obtain ⟨s8, k8⟩ := rng_put y7 (.int .i64 (a : Int)) (.int .i64 (b : Int))
      have e8 := only_bel e7 k8 hY
      refine wpAnyH_alone 13 rfl (by kernel_rfl) (fun K_ hK => ?_)
      go_simp
      refine hK.out _ _ ⟨⟨(e8.cell (p := ⟨g, 14, none⟩) hg1).trans k14, (e8.cell (p := ⟨g, 5, none⟩) hg1).trans k5⟩, cell_only k8 hb57 hYb r07, cell_only k8 hb57 hYb r17⟩ (fun hHeld => ?_)
      clear hK K_
      try simp only [Act.put, List.setIfInBounds_toArray, List.set_cons_zero, List.set_cons_succ]
      refine wpAnyH_done (by kernel_rfl) ?_ _
      have HZ := Lib.hid (And.intro s8 (And.intro e8 hY))
      clear s8 e8 hY k8 y7 e7 e6
      go_wp2
      go_meet
      case rel => exact ⟨_, rfl, HZ.out⟩
    · 
      go_simp
      have y6 := Cel.new W.drew 62 #[.int .i64 0, .int .i64 0]
      have e5 := hd0.trans ((bel_new W.drew (.cells #[.int .i64 0, .int .i64 0] 62)).mono hd0.size)
      obtain ⟨Y, hYe⟩ : ∃ Y, Y = W.heap.size := ⟨_, rfl⟩
      have hY : W.heap.size ≤ Y := by rw [hYe]; exact Nat.le_refl _
      obtain ⟨W7, hW7⟩ : ∃ W7, W7 = W.drew.alloc (.cells #[.int .i64 0, .int .i64 0] 62) := ⟨_, rfl⟩
      have hW7' : W7 = (W.alloc (.cells #[.int .i64 0, .int .i64 0] 62)).drew := hW7
      have y6' : Cel W7 Y 62 #[.int .i64 0, .int .i64 0] := by rw [hW7, hYe]; exact y6
      rw [← hW7] at e5
      rw [← hW7']
      rw [← hYe]
      clear hW7 hYe hW7' y6
      refine hK.out _ _ ⟨(e5.cell (p := ⟨g, 14, none⟩) hg1).trans k14, (e5.cell (p := ⟨g, 5, none⟩) hg1).trans k5⟩ (fun hHeld => ?_)
      clear hK K_
      try simp only [Act.put, List.setIfInBounds_toArray, List.set_cons_zero, List.set_cons_succ]
      refine wpAnyH_alone 9 rfl (by kernel_rfl) (fun K_ hK => ?_)
      go_simp
      refine (hhd _ e5).mono ?_
      rintro e w6 ⟨v6, rfl, o6, hb6⟩
      obtain ⟨A6, c6, rfl, r6, n6, l6, x6⟩ := o6.reads_len hml
      obtain ⟨b5, o5, rfl, hb5, hx⟩ := r6 (by rw [hml]; exact hm0)
      obtain ⟨r0, r1⟩ := hx 0 (fst1 K.ch s.rq) (by rw [hhr]; rfl)
      rw [Nat.zero_mul, Nat.add_zero, hf] at r0 r1
      dsimp only at r0 r1
      have e6 : Below W.heap.size W w6 := e5.trans (hb6.mono e5.size)
      have y7 := Cel.on y6' hb6
      have hYb : b5 ≠ Y := fun e => by have := o6.lt b5 rfl; have := y6'.lt; omega
      have e7 := e6
      refine hK.out _ _ ⟨(e6.cell (p := ⟨g, 14, none⟩) hg1).trans k14, (e6.cell (p := ⟨g, 5, none⟩) hg1).trans k5⟩ (fun hHeld => ?_)
      clear hK K_
      try simp only [Act.put, List.setIfInBounds_toArray, List.set_cons_zero, List.set_cons_succ]
      refine wpAnyH_sharpen (S' := fun V => (V.cell? ⟨g, 14, none⟩ = some (.slice A n c) ∧ V.cell? ⟨g, 5, none⟩ = some (.int .i64 K.ch)) ∧ V.cell? ⟨b5, o5, none⟩ = some (.int .i64 (a : Int)) ∧ V.cell? ⟨b5, o5 + 1, none⟩ = some (.int .i64 (b : Int))) (fun w h => h.1) (⟨hHeld, r0, r1⟩) (fun hHeld => ?_)
      refine wpAnyH_here 10 (v := ?_) rfl (by kernel_rfl) (by kernel_rfl) (by kernel_rfl) (fun _ _ _ h => h) (Or.inl ⟨by rfl, ?_⟩) hHeld ?_
      rotate_left
      · intro w hSw; (try dsimp only at hSw); go_simp; all_goals (with_reducible rfl)
      try simp only [Act.put, List.setIfInBounds_toArray, List.set_cons_zero, List.set_cons_succ]
      refine wpAnyH_here 11 (v := ?_) rfl (by kernel_rfl) (by kernel_rfl) (by kernel_rfl) (fun _ _ _ h => h) (Or.inl ⟨by rfl, ?_⟩) hHeld ?_
      rotate_left
      · intro w hSw; (try dsimp only at hSw); go_simp; all_goals (with_reducible rfl)
      try simp only [Act.put, List.setIfInBounds_toArray, List.set_cons_zero, List.set_cons_succ]
      have z0 := y7.cell 0
      have z1 := y7.cell 1
      have z2 := y7.free 0
      have z3 := y7.free 1
      obtain ⟨s8, k8⟩ := rng_put y7 (.int .i64 (a : Int)) (.int .i64 (b : Int))
      have e8 := only_bel e7 k8 hY
      refine wpAnyH_alone 13 rfl (by kernel_rfl) (fun K_ hK => ?_)
      go_simp
      refine hK.out _ _ ⟨⟨(e8.cell (p := ⟨g, 14, none⟩) hg1).trans k14, (e8.cell (p := ⟨g, 5, none⟩) hg1).trans k5⟩, cell_only k8 hb5 hYb r0, cell_only k8 hb5 hYb r1⟩ (fun hHeld => ?_)
      clear hK K_
      try simp only [Act.put, List.setIfInBounds_toArray, List.set_cons_zero, List.set_cons_succ]
      refine wpAnyH_done (by kernel_rfl) ?_ _
      have HZ := Lib.hid (And.intro s8 (And.intro e8 hY))
      clear s8 e8 hY k8 y7 e7 e6
      go_wp2
      go_meet
      case rel => exact ⟨_, rfl, HZ.out⟩
  case rest =>
    obtain ⟨q, rfl, hq, hbx, hqW⟩ := hcut
    obtain ⟨h1, hu, hb, ok⟩ := HH.out
    obtain ⟨hnl, hbN, hab, hD⟩ := HF.out
    have hnl1 := Win.len ok.can ok.win
    have x7 := h1.below hbx
    have hu7 := Cel.on hu hbx
    have hg7 := x7.cel.lt
    have hqg : q ≠ g := by omega
    have hbq : w.heap.size ≠ q := by omega
    have b7 := hb.trans (hbx.mono hb.size)
    have q0 := hq.cell 0
    have q1 := hq.cell 1
    have k14' := x7.cel.c14
    have hrm := remove_at (V := wc.drew) (a : Int) (b : Int) x7.q ⟨rfl, rfl, rfl, Nat.le_refl _, fun _ _ => rfl⟩ (by omega) ok.can
    rw [← hf] at hrm
    clear k14 k5 hhd
    go_upto_region 2 with fail
    refine wp_region_held_drew (S := fun V => V.cell? ⟨q, 0, none⟩ = some (.int .i64 (a : Int)) ∧ V.cell? ⟨q, 1, none⟩ = some (.int .i64 (b : Int))) (by kernel_rfl) (⟨q0, q1⟩) (fun hHeld => ?_)
    refine wpAnyH_here 0 (v := ?_) rfl (by kernel_rfl) (by kernel_rfl) (by kernel_rfl) (fun _ _ _ h => h) (Or.inl ⟨by rfl, ?_⟩) hHeld ?_
    rotate_left
    · intro w hSw; (try dsimp only at hSw); go_simp; all_goals (with_reducible rfl)
    try simp only [Act.put, List.setIfInBounds_toArray, List.set_cons_zero, List.set_cons_succ]
    refine wpAnyH_here 1 (v := ?_) rfl (by kernel_rfl) (by kernel_rfl) (by kernel_rfl) (fun _ _ _ h => h) (Or.inl ⟨by rfl, ?_⟩) hHeld ?_
    rotate_left
    · intro w hSw; (try dsimp only at hSw); go_simp; all_goals (with_reducible rfl)
    try simp only [Act.put, List.setIfInBounds_toArray, List.set_cons_zero, List.set_cons_succ]
    refine wpAnyH_here 2 (v := ?_) rfl (by kernel_rfl) (by kernel_rfl) (by kernel_rfl) (fun _ _ _ h => h) (Or.inl ⟨by rfl, ?_⟩) hHeld ?_
    rotate_left
    · intro w hSw; (try dsimp only at hSw); go_simp; all_goals (with_reducible rfl)
    try simp only [Act.put, List.setIfInBounds_toArray, List.set_cons_zero, List.set_cons_succ]
    refine wpAnyH_here 3 (v := ?_) rfl (by kernel_rfl) (by kernel_rfl) (by kernel_rfl) (fun _ _ _ h => h) (Or.inl ⟨by rfl, ?_⟩) hHeld ?_
    rotate_left
    · intro w hSw; (try dsimp only at hSw); go_simp; all_goals (with_reducible rfl)
    try simp only [Act.put, List.setIfInBounds_toArray, List.set_cons_zero, List.set_cons_succ]
    refine wpAnyH_here 5 (v := ?_) rfl (by kernel_rfl) (by kernel_rfl) (by kernel_rfl) (fun _ _ _ h => h) (Or.inl ⟨by rfl, ?_⟩) hHeld ?_
    rotate_left
    · intro w hSw; (try dsimp only at hSw); go_simp; all_goals (with_reducible rfl)
    try simp only [Act.put, List.setIfInBounds_toArray, List.set_cons_zero, List.set_cons_succ]
    refine wpAnyH_alone 4 rfl (by kernel_rfl) (fun K hK => ?_)
    go_simp
    skip
    refine hK.out _ _ (⟨q0, q1⟩) (fun hHeld => ?_)
    clear hK K
    try simp only [Act.put, List.setIfInBounds_toArray, List.set_cons_zero, List.set_cons_succ]
    refine wpAnyH_alone 6 rfl (by kernel_rfl) (fun K_ hK => ?_)
    go_simp
    refine hrm.mono ?_
    rintro e w8 ⟨v8, rfl, o8, hb8⟩
    obtain ⟨A8, c8, rfl, g8⟩ := Gq.own o8 hnl
    have X8 := x7.below ⟨hb8.os, hb8.tape, hb8.output, hb8.size, hb8.block⟩
    have hq8 := Cel.on hq ⟨hb8.os, hb8.tape, hb8.output, hb8.size, hb8.block⟩
    have u8 := Cel.on hu7 ⟨hb8.os, hb8.tape, hb8.output, hb8.size, hb8.block⟩
    have l14 := X8.cel.c14
    have m14 := X8.cel.free 14
    refine hK.out _ _ ⟨hq8.cell 0, hq8.cell 1⟩ (fun hHeld => ?_)
    clear hK K_
    try simp only [Act.put, List.setIfInBounds_toArray, List.set_cons_zero, List.set_cons_succ]
    refine wpAnyH_here 7 (v := ?_) rfl (by kernel_rfl) (by kernel_rfl) (by kernel_rfl) (fun _ _ _ h => h) (Or.inl ⟨by rfl, ?_⟩) hHeld ?_
    rotate_left
    · intro w hSw; (try dsimp only at hSw); go_simp; all_goals (with_reducible rfl)
    try simp only [Act.put, List.setIfInBounds_toArray, List.set_cons_zero, List.set_cons_succ]
    refine wpAnyH_here 8 (v := ?_) rfl (by kernel_rfl) (by kernel_rfl) (by kernel_rfl) (fun _ _ _ h => h) (Or.inl ⟨by rfl, ?_⟩) hHeld ?_
    rotate_left
    · intro w hSw; (try dsimp only at hSw); go_simp; all_goals (with_reducible rfl)
    try simp only [Act.put, List.setIfInBounds_toArray, List.set_cons_zero, List.set_cons_succ]
    have k9 := put_only w8 g 14 (.slice A8 m8 c8)
    have x9 : FX (w8.setCell ⟨g, 14, none⟩ (.slice A8 m8 c8)) g K (anS K s) A8 m8 c8 := ⟨X8.cel.rq _ A8 m8 c8, g8.keep (X8.cel.kr_put 14 _)⟩
    have hq9 := hq8.only k9 (by simpa using hqg)
    have u9 := u8.only k9 (by simpa using hbg)
    refine wpAnyH_alone 9 rfl (by kernel_rfl) (fun K_ hK => ?_)
    go_simp
    refine hK.out _ _ ⟨hq9.cell 0, hq9.cell 1⟩ (fun hHeld => ?_)
    clear hK K_
    try simp only [Act.put, List.setIfInBounds_toArray, List.set_cons_zero, List.set_cons_succ]
    refine wpAnyH_done (by kernel_rfl) ?_ _
    go_upto_region 3 with fail
    obtain ⟨m, hm⟩ : ∃ m, b - a = m := ⟨_, rfl⟩
    have o9 : Only [g] w (w8.setCell ⟨g, 14, none⟩ (.slice A8 m8 c8)) := only_then (Only.of_below (b7.trans ((Below.mono ⟨hb8.os, hb8.tape, hb8.output, hb8.size, hb8.block⟩ b7.size) : Below w.heap.size wc w8))) k9
    obtain ⟨W9, hW9⟩ : ∃ W9, W9 = w8.setCell ⟨g, 14, none⟩ (.slice A8 m8 c8) := ⟨_, rfl⟩
    rw [← hW9] at x9 hq9 u9 o9 ⊢
    have hp := spiece_any x9.cel a b hab hbN (by omega) _ m rfl hm
    have p0 := hq9.cell 0
    have p1 := hq9.cell 1
    clear hHeld hW9 k9 X8 hq8 u8 l14 m14 q0 q1 k14' hrm g8 o8 hb8 hbx h1 hu hnl x7 hu7
    go_wp2_with fail
    refine hp.mono ?_
    rintro e w10 ⟨⟨A0, c0, rfl, by0⟩, hb10⟩
    have x10 := x9.below hb10
    have u10 := Cel.on u9 hb10
    have o10 := o9.trans (Only.of_below (S := []) hb10) (by simp)
    have HE := Lib.hid (And.intro (fin_box x10 o10 (Nat.le_refl _) u10) (And.intro u10 (by0.more (Nat.le_trans o9.size (Nat.le_refl _)))))
    obtain ⟨d0, d1, d2, d3, d4, d5, d6, d7, d8, d9, d10, ff⟩ := Ub.of u10
    have i0 := ff 0
    have i1 := ff 1
    have i2 := ff 2
    have i3 := ff 3
    have i4 := ff 4
    have i5 := ff 5
    have i6 := ff 6
    have i7 := ff 7
    have i8 := ff 8
    have i9 := ff 9
    have i10 := ff 10
    clear ff
    clear x10 u10 o10 by0 hb10 x9 u9 o9 hq9 p0 p1 hp
    go_wp2
    obtain ⟨e, f, k⟩ := HE.out
    exact bodyPost_ret (ans_results rfl (e _ _ _ _ _ _ _ _ _ _ _).1) rfl ⟨⟨a, b, m, A0, c0, rfl, hf, k.only (box_only _ _ _ _ _ _ _ _ _ _ _) (not_byte f (by decide))⟩, ⟨_, _, _, (e _ _ _ _ _ _ _ _ _ _ _).2.1⟩, (e _ _ _ _ _ _ _ _ _ _ _).2.2⟩
end
end Go.Proofs.Ytaaikmncdgfkmaa.Src
