/-
  The walk of the law FarmTakes.
-/
import Derived.Test.YtdjopkfibfgjeaaLaw16e
namespace Go.Proofs.Ytdjopkfibfgjeaa.Far
open Go.RowKit
open Pac (bel_new Cel.later)
open Tcf (Fr dir)

set_option maxRecDepth 100000 in
set_option maxHeartbeats 16000000 in
theorem farmTakes_good (K H m : Int) (A : Option Addr) (N cap : Nat) (l : List Op16) (w : World) (hN : Hid (l.length = N)) (hps : Ops w w.heap.size A l) (h0 : 0 ≤ K) (h1 : K ≤ 1023) (h2 : 0 ≤ H) (h3 : H ≤ 7) :
    Calls Try.prog 3 #[.agg #[.int .i64 K, .int .i64 H, .int .i64 m], .slice A N cap] w fun e w' => e = .returned (.bool true) ∧ Below w.heap.size w w' := by
  obtain ⟨w1, hw1⟩ : ∃ w1, w1 = w.alloc (.cells #[.int .i64 K, .int .i64 H, .int .i64 m] 23) := ⟨_, rfl⟩
  have b1 : Below w.heap.size w w1 := by rw [hw1]; exact bel_new _ _
  have y1 : Cel w1 w.heap.size 23 #[.int .i64 K, .int .i64 H, .int .i64 m] := by rw [hw1]; exact Cel.new _ _ _
  have x1 := new_any K H m w1 h0 h1 h2 h3
  have x2 := fun W => right_yes K H W h0 h1 h2 h3
  have x3 := fun W => xnew_any K H m W
  have wi := clw_in m
  obtain ⟨W_, hW⟩ : ∃ W_, W_ = clw m := ⟨_, rfl⟩
  rw [← hW] at x1 wi
  simp only [← hW] at x3
  have z0 := y1.cell 0
  have z1 := y1.cell 1
  have z2 := y1.cell 2
  simp at z0 z1 z2
  have z0' := z0
  have z1' := z1
  have z2' := z2
  rw [hw1] at z0 z1 z2
  have hs1 : w1.heap.size = w.heap.size + 1 := by rw [hw1]; simp
  have HS := Lib.hid hs1
  clear hW h0 h1 h2 h3 hs1
  go_enter Try.func3, Try.ntmps3
  go_wp2_with fail
  rw [← hw1]
  clear z0 z1 z2 hw1
  refine x1.mono ?_
  rintro e w2 ⟨rfl, f2, b2⟩
  clear x1 z0' z1' z2'
  obtain ⟨g, hg⟩ : ∃ g, g = w1.heap.size := ⟨_, rfl⟩
  rw [← hg] at f2 ⊢
  have y2 := Cel.later y1 b2
  have hgB : w.heap.size ≤ g := by rw [hg, HS.out]; omega
  have c2 : Below w.heap.size w w2 := b1.trans (b2.mono b1.size)
  have p2 : PF w w2 w.heap.size g K H W_ st0 := ⟨f2, c2, c2.size, hgB⟩
  clear b1 b2 y1 f2 c2 hg HS hgB
  have z0 := y2.cell 0
  have z1 := y2.cell 1
  have z2 := y2.cell 2
  simp at z0 z1 z2
  go_wp2_with fail
  refine (x2 _).mono ?_
  rintro e w3 ⟨rfl, rfl⟩
  clear x2
  by_cases hbig : 100 < N
  · have g1 : decide ((100 : Int) < (N : Int)) = true := by simp; omega
    have g2 : decide (100 < N) = true := by simp; omega
    have HP := Lib.hid p2
    clear p2 hbig hps x3 z0 z1 z2 y2
    go_wp2_with fail
    refine (alive16_any _).mono ?_
    rintro e w4 ⟨rfl, b4⟩
    go_wp2
    go_ret
    exact ⟨rfl, (HP.out.below b4).b⟩
  have g1 : decide ((100 : Int) < (N : Int)) = false := by simp; omega
  have g2 : decide (100 < N) = false := by simp; omega
  have hN100 : N ≤ 100 := by omega
  clear hbig
  go_wp2_with fail
  refine (x3 _).mono ?_
  rintro e w4 ⟨rfl, b4⟩
  clear x3 z0 z1 z2 y2
  have p4 := p2.below b4
  obtain ⟨w5, hw5⟩ : ∃ w5, w5 = w4.alloc (.cells #[.int .i64 K, .int .i64 W_, .int .i64 H, .bool false, .bool false, .bool false, .int .i64 0, .int .i64 0] 39) := ⟨_, rfl⟩
  have b5 : Below w4.heap.size w4 w5 := by rw [hw5]; exact bel_new _ _
  have y5 : Cel w5 w4.heap.size 39 #[.int .i64 K, .int .i64 W_, .int .i64 H, .bool false, .bool false, .bool false, .int .i64 0, .int .i64 0] := by rw [hw5]; exact Cel.new _ _ _
  obtain ⟨X, hX⟩ : ∃ X, X = w4.heap.size := ⟨_, rfl⟩
  have hXB : w.heap.size ≤ X := by rw [hX]; exact p4.s
  have P0 : TK w w5 w.heap.size g X K H W_ st0 st0 := ⟨p4.below b5, by rw [hX]; exact y5, hXB⟩
  clear p2 p4 b4 b5 y5 hXB
  go_upto_region 8 with fail
  rw [← hw5, ← hX]
  clear hw5 hX
  go_wp2
  go_loopw [5, 9] (fun f i wr => ∃ (k g : Nat) (s : St), k ≤ N ∧ f = .pointer (some ⟨g, 0, none⟩) ∧ i = .int .i64 (k : Int) ∧ TK w wr w.heap.size g X K H W_ s s) (fun _ i _ => N - (intOf i).toNat)
  case atStart => exact ⟨0, _, _, Nat.zero_le _, rfl, rfl, P0⟩
  case round =>
    clear P0
    obtain ⟨k, g, s, hk, rfl, rfl, P0⟩ := hrel
    by_cases hkN : k < N
    · obtain ⟨o, ho⟩ : ∃ o, l[k]? = some o := ⟨_, List.getElem?_eq_getElem (by have := hN.out; omega)⟩
      obtain ⟨b, off, a, n, c, K0⟩ := hps k o ho
      clear ho
      obtain ⟨⟨byp, con, cr, ch, sq, d⟩, room, cpy⟩ := o
      obtain rfl := K0.e
      have hbB := K0.hb
      obtain ⟨R, hR⟩ : ∃ R, tke K H W_ s ⟨byp, con, cr, ch, sq, d⟩ room = R := ⟨_, rfl⟩
      obtain ⟨V, s2⟩ := R
      obtain ⟨E, hE⟩ : ∃ E, dat V d = E := ⟨_, rfl⟩
      obtain ⟨M, hM⟩ : ∃ M, E.length = M := ⟨_, rfl⟩
      have HR := Lib.hid hR
      have HE := Lib.hid hE
      have HM := Lib.hid hM
      have Hw := Lib.hid wi
      clear hR hE hM
      have HO := Lib.hid P0.f.f.ok
      have Kr := K0.below P0.f.b
      have i0 : (0 : Int) ≤ (k : Int) := Int.natCast_nonneg _
      have i1 : (k : Int) < (N : Int) := by omega
      have hdr : Below wr.heap.size wr wr.drew := ⟨rfl, rfl, rfl, Nat.le_refl _, fun _ _ => rfl⟩
      have rdr := (Kr.rd P0.f.s).later hdr
      dsimp only at rdr
      have Kd := K0.below (P0.below hdr).f.b
      go_upto_region 11 with fail
      refine wp_region_held_drew (S := fun W => W.cell? ⟨b, off + k * 8, none⟩ = some (.bool byp) ∧ W.cell? ⟨b, off + k * 8 + 1, none⟩ = some (.bool con) ∧ W.cell? ⟨b, off + k * 8 + 2, none⟩ = some (.int .i64 cr) ∧ W.cell? ⟨b, off + k * 8 + 3, none⟩ = some (.int .i64 ch) ∧ W.cell? ⟨b, off + k * 8 + 4, none⟩ = some (.int .i64 sq) ∧ W.cell? ⟨b, off + k * 8 + 5, none⟩ = some (.slice a n c) ∧ W.cell? ⟨b, off + k * 8 + 6, none⟩ = some (.bool room)) (by kernel_rfl) (⟨Kr.c0, Kr.c1, Kr.c2, Kr.c3, Kr.c4, Kr.c5, Kr.c6⟩) (fun hHeld => ?_)
      refine wpAnyH_here 0 (v := ?_) rfl (by kernel_rfl) (by kernel_rfl) (by kernel_rfl) (fun _ _ _ h => h) (Or.inl ⟨by rfl, ?_⟩) hHeld ?_
      rotate_left
      · intro w hSw; (try dsimp only at hSw); go_simp; all_goals (with_reducible rfl)
      try simp only [Act.put, List.setIfInBounds_toArray, List.set_cons_zero, List.set_cons_succ]
      refine wpAnyH_here 1 (v := ?_) rfl (by kernel_rfl) (by kernel_rfl) (by kernel_rfl) (fun _ _ _ h => h) (Or.inl ⟨by rfl, ?_⟩) hHeld ?_
      rotate_left
      · intro w hSw; (try dsimp only at hSw); go_simp; all_goals (with_reducible rfl)
      try simp only [Act.put, List.setIfInBounds_toArray, List.set_cons_zero, List.set_cons_succ]
      refine wpAnyH_here 2 (v := ?_) rfl (by kernel_rfl) (by kernel_rfl) (by kernel_rfl) (fun _ _ _ h => h) (Or.inl ⟨by rfl, ?_⟩) hHeld ?_
      rotate_left
      · intro w hSw; (try dsimp only at hSw); go_simp; all_goals (with_reducible rfl)
      try simp only [Act.put, List.setIfInBounds_toArray, List.set_cons_zero, List.set_cons_succ]
      refine wpAnyH_here 3 (v := ?_) rfl (by kernel_rfl) (by kernel_rfl) (by kernel_rfl) (fun _ _ _ h => h) (Or.inl ⟨by rfl, ?_⟩) hHeld ?_
      rotate_left
      · intro w hSw; (try dsimp only at hSw); go_simp; all_goals (with_reducible rfl)
      try simp only [Act.put, List.setIfInBounds_toArray, List.set_cons_zero, List.set_cons_succ]
      refine wpAnyH_here 4 (v := ?_) rfl (by kernel_rfl) (by kernel_rfl) (by kernel_rfl) (fun _ _ _ h => h) (Or.inl ⟨by rfl, ?_⟩) hHeld ?_
      rotate_left
      · intro w hSw; (try dsimp only at hSw); go_simp; all_goals (with_reducible rfl)
      try simp only [Act.put, List.setIfInBounds_toArray, List.set_cons_zero, List.set_cons_succ]
      refine wpAnyH_here 5 (v := ?_) rfl (by kernel_rfl) (by kernel_rfl) (by kernel_rfl) (fun _ _ _ h => h) (Or.inl ⟨by rfl, ?_⟩) hHeld ?_
      rotate_left
      · intro w hSw; (try dsimp only at hSw); go_simp; all_goals (with_reducible rfl)
      try simp only [Act.put, List.setIfInBounds_toArray, List.set_cons_zero, List.set_cons_succ]
      refine wpAnyH_here 6 (v := ?_) rfl (by kernel_rfl) (by kernel_rfl) (by kernel_rfl) (fun _ _ _ h => h) (Or.inl ⟨by rfl, ?_⟩) hHeld ?_
      rotate_left
      · intro w hSw; (try dsimp only at hSw); go_simp; all_goals (with_reducible rfl)
      try simp only [Act.put, List.setIfInBounds_toArray, List.set_cons_zero, List.set_cons_succ]
      refine wpAnyH_here 7 (v := ?_) rfl (by kernel_rfl) (by kernel_rfl) (by kernel_rfl) (fun _ _ _ h => h) (Or.inl ⟨by rfl, ?_⟩) hHeld ?_
      rotate_left
      · intro w hSw; (try dsimp only at hSw); go_simp; all_goals (with_reducible rfl)
      try simp only [Act.put, List.setIfInBounds_toArray, List.set_cons_zero, List.set_cons_succ]
      refine wpAnyH_here 8 (v := ?_) rfl (by kernel_rfl) (by kernel_rfl) (by kernel_rfl) (fun _ _ _ h => h) (Or.inl ⟨by rfl, ?_⟩) hHeld ?_
      rotate_left
      · intro w hSw; (try dsimp only at hSw); go_simp; all_goals (with_reducible rfl)
      try simp only [Act.put, List.setIfInBounds_toArray, List.set_cons_zero, List.set_cons_succ]
      refine wpAnyH_here 9 (v := ?_) rfl (by kernel_rfl) (by kernel_rfl) (by kernel_rfl) (fun _ _ _ h => h) (Or.inl ⟨by rfl, ?_⟩) hHeld ?_
      rotate_left
      · intro w hSw; (try dsimp only at hSw); go_simp; all_goals (with_reducible rfl)
      try simp only [Act.put, List.setIfInBounds_toArray, List.set_cons_zero, List.set_cons_succ]
      refine wpAnyH_here 10 (v := ?_) rfl (by kernel_rfl) (by kernel_rfl) (by kernel_rfl) (fun _ _ _ h => h) (Or.inl ⟨by rfl, ?_⟩) hHeld ?_
      rotate_left
      · intro w hSw; (try dsimp only at hSw); go_simp; all_goals (with_reducible rfl)
      try simp only [Act.put, List.setIfInBounds_toArray, List.set_cons_zero, List.set_cons_succ]
      refine wpAnyH_alone 11 rfl (by kernel_rfl) (fun K hK => ?_)
      go_simp
      (refine ((P0.below hdr).take rdr room HR.out HE.out HM.out).mono ?_; rintro e w6 ⟨⟨A6, c6, rfl, r6⟩, P6, _⟩; have K6 := K0.below P6.f.b)
      refine hK.out _ _ (⟨K6.c0, K6.c1, K6.c2, K6.c3, K6.c4, K6.c5, K6.c6⟩) (fun hHeld => ?_)
      clear hK K
      try simp only [Act.put, List.setIfInBounds_toArray, List.set_cons_zero, List.set_cons_succ]
      refine wpAnyH_here 12 (v := ?_) rfl (by kernel_rfl) (by kernel_rfl) (by kernel_rfl) (fun _ _ _ h => h) (Or.inl ⟨by rfl, ?_⟩) hHeld ?_
      rotate_left
      · intro w hSw; (try dsimp only at hSw); go_simp; all_goals (with_reducible rfl)
      try simp only [Act.put, List.setIfInBounds_toArray, List.set_cons_zero, List.set_cons_succ]
      refine wpAnyH_here 13 (v := ?_) rfl (by kernel_rfl) (by kernel_rfl) (by kernel_rfl) (fun _ _ _ h => h) (Or.inl ⟨by rfl, ?_⟩) hHeld ?_
      rotate_left
      · intro w hSw; (try dsimp only at hSw); go_simp; all_goals (with_reducible rfl)
      try simp only [Act.put, List.setIfInBounds_toArray, List.set_cons_zero, List.set_cons_succ]
      refine wpAnyH_here 14 (v := ?_) rfl (by kernel_rfl) (by kernel_rfl) (by kernel_rfl) (fun _ _ _ h => h) (Or.inl ⟨by rfl, ?_⟩) hHeld ?_
      rotate_left
      · intro w hSw; (try dsimp only at hSw); go_simp; all_goals (with_reducible rfl)
      try simp only [Act.put, List.setIfInBounds_toArray, List.set_cons_zero, List.set_cons_succ]
      refine wpAnyH_here 15 (v := ?_) rfl (by kernel_rfl) (by kernel_rfl) (by kernel_rfl) (fun _ _ _ h => h) (Or.inl ⟨by rfl, ?_⟩) hHeld ?_
      rotate_left
      · intro w hSw; (try dsimp only at hSw); go_simp; all_goals (with_reducible rfl)
      try simp only [Act.put, List.setIfInBounds_toArray, List.set_cons_zero, List.set_cons_succ]
      refine wpAnyH_here 16 (v := ?_) rfl (by kernel_rfl) (by kernel_rfl) (by kernel_rfl) (fun _ _ _ h => h) (Or.inl ⟨by rfl, ?_⟩) hHeld ?_
      rotate_left
      · intro w hSw; (try dsimp only at hSw); go_simp; all_goals (with_reducible rfl)
      try simp only [Act.put, List.setIfInBounds_toArray, List.set_cons_zero, List.set_cons_succ]
      refine wpAnyH_done (by kernel_rfl) ?_ _
      clear hHeld Kr hdr rdr Kd P0
      have hok := P6.f.f.ok
      obtain ⟨lk, wt, rt, bc, nx⟩ := s
      obtain ⟨lk2, wt2, rt2, bc2, nx2⟩ := s2
      have rd6 := K6.rd P6.f.s
      dsimp only at rd6
      have hsok : St.Ok ⟨lk, wt, rt, bc, nx⟩ := HO.out
      have hxt := fun W (hW : Below w6.heap.size w6 W) => xtake_any byp con cr ch sq a d n c W K H W_ room ⟨lk, wt, rt, bc, nx⟩ (rd6.later hW) hsok wi.1 wi.2
      rw [HR.out] at hxt
      dsimp only at hxt
      have hX0 := P6.x.cell 0
      have hX1 := P6.x.cell 1
      have hX2 := P6.x.cell 2
      have hX3 := P6.x.cell 3
      have hX4 := P6.x.cell 4
      have hX5 := P6.x.cell 5
      have hX6 := P6.x.cell 6
      have hX7 := P6.x.cell 7
      simp at hX0 hX1 hX2 hX3 hX4 hX5 hX6 hX7
      have hXl : X < w6.heap.size := P6.x.lt
      have hbl : b < w6.heap.size := Nat.lt_of_lt_of_le hbB P6.f.s
      have hS6 : ∀ W, Below w6.heap.size w6 W → (fun W => W.cell? ⟨b, off + k * 8, none⟩ = some (.bool byp) ∧ W.cell? ⟨b, off + k * 8 + 1, none⟩ = some (.bool con) ∧ W.cell? ⟨b, off + k * 8 + 2, none⟩ = some (.int .i64 cr) ∧ W.cell? ⟨b, off + k * 8 + 3, none⟩ = some (.int .i64 ch) ∧ W.cell? ⟨b, off + k * 8 + 4, none⟩ = some (.int .i64 sq) ∧ W.cell? ⟨b, off + k * 8 + 5, none⟩ = some (.slice a n c) ∧ W.cell? ⟨b, off + k * 8 + 6, none⟩ = some (.bool room) ∧ W.cell? ⟨X, 0, none⟩ = some (.int .i64 K) ∧ W.cell? ⟨X, 1, none⟩ = some (.int .i64 W_) ∧ W.cell? ⟨X, 2, none⟩ = some (.int .i64 H) ∧ W.cell? ⟨X, 3, none⟩ = some (.bool lk) ∧ W.cell? ⟨X, 4, none⟩ = some (.bool wt) ∧ W.cell? ⟨X, 5, none⟩ = some (.bool rt) ∧ W.cell? ⟨X, 6, none⟩ = some (.int .i64 bc) ∧ W.cell? ⟨X, 7, none⟩ = some (.int .i64 nx)) W := fun W k => ⟨(k.cell hbl).trans K6.c0, (k.cell hbl).trans K6.c1, (k.cell hbl).trans K6.c2, (k.cell hbl).trans K6.c3, (k.cell hbl).trans K6.c4, (k.cell hbl).trans K6.c5, (k.cell hbl).trans K6.c6,
        (k.cell (p := ⟨X, 0, none⟩) hXl).trans hX0, (k.cell (p := ⟨X, 1, none⟩) hXl).trans hX1, (k.cell (p := ⟨X, 2, none⟩) hXl).trans hX2, (k.cell (p := ⟨X, 3, none⟩) hXl).trans hX3, (k.cell (p := ⟨X, 4, none⟩) hXl).trans hX4, (k.cell (p := ⟨X, 5, none⟩) hXl).trans hX5, (k.cell (p := ⟨X, 6, none⟩) hXl).trans hX6, (k.cell (p := ⟨X, 7, none⟩) hXl).trans hX7⟩
      have HP6 := Lib.hid P6
      have HK6 := Lib.hid K6
      clear P6 K6 hok hsok
      go_upto_region 12 with fail
      go_cut [12, 13] from 91 to 105 (fun y v wx => ∃ Y : Nat, y = .pointer (some ⟨Y, 0, none⟩) ∧ v = .int .i64 V ∧ Below w6.heap.size w6 wx ∧ w6.heap.size ≤ Y ∧ Cel wx Y 39 #[.int .i64 K, .int .i64 W_, .int .i64 H, .bool lk2, .bool wt2, .bool rt2, .int .i64 bc2, .int .i64 nx2])
      case first =>
        clear hX0 hX1 hX2 hX3 hX4 hX5 hX6 hX7
        have hbA : Below w6.heap.size w6 w6.drew := ⟨rfl, rfl, rfl, Nat.le_refl _, fun _ _ => rfl⟩
        refine wp_region_held_drew (S := fun W => W.cell? ⟨b, off + k * 8, none⟩ = some (.bool byp) ∧ W.cell? ⟨b, off + k * 8 + 1, none⟩ = some (.bool con) ∧ W.cell? ⟨b, off + k * 8 + 2, none⟩ = some (.int .i64 cr) ∧ W.cell? ⟨b, off + k * 8 + 3, none⟩ = some (.int .i64 ch) ∧ W.cell? ⟨b, off + k * 8 + 4, none⟩ = some (.int .i64 sq) ∧ W.cell? ⟨b, off + k * 8 + 5, none⟩ = some (.slice a n c) ∧ W.cell? ⟨b, off + k * 8 + 6, none⟩ = some (.bool room) ∧ W.cell? ⟨X, 0, none⟩ = some (.int .i64 K) ∧ W.cell? ⟨X, 1, none⟩ = some (.int .i64 W_) ∧ W.cell? ⟨X, 2, none⟩ = some (.int .i64 H) ∧ W.cell? ⟨X, 3, none⟩ = some (.bool lk) ∧ W.cell? ⟨X, 4, none⟩ = some (.bool wt) ∧ W.cell? ⟨X, 5, none⟩ = some (.bool rt) ∧ W.cell? ⟨X, 6, none⟩ = some (.int .i64 bc) ∧ W.cell? ⟨X, 7, none⟩ = some (.int .i64 nx)) (by kernel_rfl) (hS6 _ hbA) (fun hHeld => ?_)
        refine wpAnyH_here 0 (v := ?_) rfl (by kernel_rfl) (by kernel_rfl) (by kernel_rfl) (fun _ _ _ h => h) (Or.inl ⟨by rfl, ?_⟩) hHeld ?_
        rotate_left
        · intro w hSw; (try dsimp only at hSw); go_simp; all_goals (with_reducible rfl)
        try simp only [Act.put, List.setIfInBounds_toArray, List.set_cons_zero, List.set_cons_succ]
        refine wpAnyH_here 1 (v := ?_) rfl (by kernel_rfl) (by kernel_rfl) (by kernel_rfl) (fun _ _ _ h => h) (Or.inl ⟨by rfl, ?_⟩) hHeld ?_
        rotate_left
        · intro w hSw; (try dsimp only at hSw); go_simp; all_goals (with_reducible rfl)
        try simp only [Act.put, List.setIfInBounds_toArray, List.set_cons_zero, List.set_cons_succ]
        refine wpAnyH_here 2 (v := ?_) rfl (by kernel_rfl) (by kernel_rfl) (by kernel_rfl) (fun _ _ _ h => h) (Or.inl ⟨by rfl, ?_⟩) hHeld ?_
        rotate_left
        · intro w hSw; (try dsimp only at hSw); go_simp; all_goals (with_reducible rfl)
        try simp only [Act.put, List.setIfInBounds_toArray, List.set_cons_zero, List.set_cons_succ]
        refine wpAnyH_here 3 (v := ?_) rfl (by kernel_rfl) (by kernel_rfl) (by kernel_rfl) (fun _ _ _ h => h) (Or.inl ⟨by rfl, ?_⟩) hHeld ?_
        rotate_left
        · intro w hSw; (try dsimp only at hSw); go_simp; all_goals (with_reducible rfl)
        try simp only [Act.put, List.setIfInBounds_toArray, List.set_cons_zero, List.set_cons_succ]
        refine wpAnyH_here 4 (v := ?_) rfl (by kernel_rfl) (by kernel_rfl) (by kernel_rfl) (fun _ _ _ h => h) (Or.inl ⟨by rfl, ?_⟩) hHeld ?_
        rotate_left
        · intro w hSw; (try dsimp only at hSw); go_simp; all_goals (with_reducible rfl)
        try simp only [Act.put, List.setIfInBounds_toArray, List.set_cons_zero, List.set_cons_succ]
        refine wpAnyH_here 5 (v := ?_) rfl (by kernel_rfl) (by kernel_rfl) (by kernel_rfl) (fun _ _ _ h => h) (Or.inl ⟨by rfl, ?_⟩) hHeld ?_
        rotate_left
        · intro w hSw; (try dsimp only at hSw); go_simp; all_goals (with_reducible rfl)
        try simp only [Act.put, List.setIfInBounds_toArray, List.set_cons_zero, List.set_cons_succ]
        refine wpAnyH_here 6 (v := ?_) rfl (by kernel_rfl) (by kernel_rfl) (by kernel_rfl) (fun _ _ _ h => h) (Or.inl ⟨by rfl, ?_⟩) hHeld ?_
        rotate_left
        · intro w hSw; (try dsimp only at hSw); go_simp; all_goals (with_reducible rfl)
        try simp only [Act.put, List.setIfInBounds_toArray, List.set_cons_zero, List.set_cons_succ]
        refine wpAnyH_here 7 (v := ?_) rfl (by kernel_rfl) (by kernel_rfl) (by kernel_rfl) (fun _ _ _ h => h) (Or.inl ⟨by rfl, ?_⟩) hHeld ?_
        rotate_left
        · intro w hSw; (try dsimp only at hSw); go_simp; all_goals (with_reducible rfl)
        try simp only [Act.put, List.setIfInBounds_toArray, List.set_cons_zero, List.set_cons_succ]
        refine wpAnyH_here 8 (v := ?_) rfl (by kernel_rfl) (by kernel_rfl) (by kernel_rfl) (fun _ _ _ h => h) (Or.inl ⟨by rfl, ?_⟩) hHeld ?_
        rotate_left
        · intro w hSw; (try dsimp only at hSw); go_simp; all_goals (with_reducible rfl)
        try simp only [Act.put, List.setIfInBounds_toArray, List.set_cons_zero, List.set_cons_succ]
        refine wpAnyH_here 9 (v := ?_) rfl (by kernel_rfl) (by kernel_rfl) (by kernel_rfl) (fun _ _ _ h => h) (Or.inl ⟨by rfl, ?_⟩) hHeld ?_
        rotate_left
        · intro w hSw; (try dsimp only at hSw); go_simp; all_goals (with_reducible rfl)
        try simp only [Act.put, List.setIfInBounds_toArray, List.set_cons_zero, List.set_cons_succ]
        refine wpAnyH_here 10 (v := ?_) rfl (by kernel_rfl) (by kernel_rfl) (by kernel_rfl) (fun _ _ _ h => h) (Or.inl ⟨by rfl, ?_⟩) hHeld ?_
        rotate_left
        · intro w hSw; (try dsimp only at hSw); go_simp; all_goals (with_reducible rfl)
        try simp only [Act.put, List.setIfInBounds_toArray, List.set_cons_zero, List.set_cons_succ]
        obtain ⟨W6, hW6⟩ : ∃ W6, W6 = w6.drew := ⟨_, rfl⟩
        rw [← hW6] at hbA hHeld ⊢
        clear hW6
        refine wpAnyH_both 11 15 rfl rfl (by kernel_rfl) (fun K_ hK => ?_) (fun K_ hK => ?_)
        · go_simp
          refine (hxt _ hbA).mono ?_
          rintro e w7 ⟨rfl, b7⟩
          have bb7 := hbA.trans (b7.mono hbA.size)
          refine hK.out _ _ (hS6 _ bb7) (fun hHeld => ?_)
          clear hK K_
          try simp only [Act.put, List.setIfInBounds_toArray, List.set_cons_zero, List.set_cons_succ]
          refine wpAnyH_here 12 (v := ?_) rfl (by kernel_rfl) (by kernel_rfl) (by kernel_rfl) (fun _ _ _ h => h) (Or.inl ⟨by rfl, ?_⟩) hHeld ?_
          rotate_left
          · intro w hSw; (try dsimp only at hSw); go_simp; all_goals (with_reducible rfl)
          try simp only [Act.put, List.setIfInBounds_toArray, List.set_cons_zero, List.set_cons_succ]
          refine wpAnyH_here 13 (v := ?_) rfl (by kernel_rfl) (by kernel_rfl) (by kernel_rfl) (fun _ _ _ h => h) (Or.inl ⟨by rfl, ?_⟩) hHeld ?_
          rotate_left
          · intro w hSw; (try dsimp only at hSw); go_simp; all_goals (with_reducible rfl)
          try simp only [Act.put, List.setIfInBounds_toArray, List.set_cons_zero, List.set_cons_succ]
          refine wpAnyH_here 14 (v := ?_) rfl (by kernel_rfl) (by kernel_rfl) (by kernel_rfl) (fun _ _ _ h => h) (Or.inl ⟨by rfl, ?_⟩) hHeld ?_
          rotate_left
          · intro w hSw; (try dsimp only at hSw); go_simp; all_goals (with_reducible rfl)
          try simp only [Act.put, List.setIfInBounds_toArray, List.set_cons_zero, List.set_cons_succ]
          refine wpAnyH_alone 15 rfl (by kernel_rfl) (fun K_ hK => ?_)
          go_simp
          obtain ⟨Y, hYe⟩ : ∃ Y, Y = w7.heap.size := ⟨_, rfl⟩
          have y8 := Cel.new w7 39 #[.int .i64 0, .int .i64 0, .int .i64 0, .bool false, .bool false, .bool false, .int .i64 0, .int .i64 0]
          have b8 := bel_new w7 (.cells #[.int .i64 0, .int .i64 0, .int .i64 0, .bool false, .bool false, .bool false, .int .i64 0, .int .i64 0] 39)
          have bb8 := bb7.trans (b8.mono bb7.size)
          have hY : w6.heap.size ≤ Y := by rw [hYe]; exact bb7.size
          obtain ⟨W8, hW8⟩ : ∃ W8, W8 = w7.alloc (.cells #[.int .i64 0, .int .i64 0, .int .i64 0, .bool false, .bool false, .bool false, .int .i64 0, .int .i64 0] 39) := ⟨_, rfl⟩
          rw [← hW8] at y8 b8 bb8 ⊢
          rw [← hYe] at y8 ⊢
          clear hW8 hYe b8
          refine hK.out _ _ (hS6 _ bb8) (fun hHeld => ?_)
          clear hK K_
          try simp only [Act.put, List.setIfInBounds_toArray, List.set_cons_zero, List.set_cons_succ]
          refine wpAnyH_alone 16 rfl (by kernel_rfl) (fun K_ hK => ?_)
          have fc0 := y8.cell 0
          have fc1 := y8.cell 1
          have fc2 := y8.cell 2
          have fc3 := y8.cell 3
          have fc4 := y8.cell 4
          have fc5 := y8.cell 5
          have fc6 := y8.cell 6
          have fc7 := y8.cell 7
          have ff0 := y8.free 0
          have ff1 := y8.free 1
          have ff2 := y8.free 2
          have ff3 := y8.free 3
          have ff4 := y8.free 4
          have ff5 := y8.free 5
          have ff6 := y8.free 6
          have ff7 := y8.free 7
          simp at fc0 fc1 fc2 fc3 fc4 fc5 fc6 fc7
          have p9 := put8_only W8 Y (.int .i64 K) (.int .i64 W_) (.int .i64 H) (.bool lk2) (.bool wt2) (.bool rt2) (.int .i64 bc2) (.int .i64 nx2)
          have y9 := put8_cel y8 (.int .i64 K) (.int .i64 W_) (.int .i64 H) (.bool lk2) (.bool wt2) (.bool rt2) (.int .i64 bc2) (.int .i64 nx2)
          have bb9 := bb8.trans (p9.below bb8.size (fun x hx => by obtain rfl := List.mem_singleton.1 hx; exact hY))
          go_simp
          refine hK.out _ _ (hS6 _ bb9) (fun hHeld => ?_)
          clear hK K_
          try simp only [Act.put, List.setIfInBounds_toArray, List.set_cons_zero, List.set_cons_succ]
          refine wpAnyH_here 17 (v := ?_) rfl (by kernel_rfl) (by kernel_rfl) (by kernel_rfl) (fun _ _ _ h => h) (Or.inl ⟨by rfl, ?_⟩) hHeld ?_
          rotate_left
          · intro w hSw; (try dsimp only at hSw); go_simp; all_goals (with_reducible rfl)
          try simp only [Act.put, List.setIfInBounds_toArray, List.set_cons_zero, List.set_cons_succ]
          refine wpAnyH_done (by kernel_rfl) ?_ _
          clear hHeld ff0 ff1 ff2 ff3 ff4 ff5 ff6 ff7 fc0 fc1 fc2 fc3 fc4 fc5 fc6 fc7 hS6 hxt p9
          go_wp2
          go_meet
          case rel => exact ⟨_, rfl, rfl, bb9, hY, y9⟩
        · go_simp
          obtain ⟨Y, hYe⟩ : ∃ Y, Y = W6.heap.size := ⟨_, rfl⟩
          have y8 := Cel.new W6 39 #[.int .i64 0, .int .i64 0, .int .i64 0, .bool false, .bool false, .bool false, .int .i64 0, .int .i64 0]
          have b8 := bel_new W6 (.cells #[.int .i64 0, .int .i64 0, .int .i64 0, .bool false, .bool false, .bool false, .int .i64 0, .int .i64 0] 39)
          have bb8 := hbA.trans (b8.mono hbA.size)
          have hY : w6.heap.size ≤ Y := by rw [hYe]; exact hbA.size
          obtain ⟨W8, hW8⟩ : ∃ W8, W8 = W6.alloc (.cells #[.int .i64 0, .int .i64 0, .int .i64 0, .bool false, .bool false, .bool false, .int .i64 0, .int .i64 0] 39) := ⟨_, rfl⟩
          rw [← hW8] at y8 b8 bb8 ⊢
          rw [← hYe] at y8 ⊢
          clear hW8 hYe b8
          refine hK.out _ _ (hS6 _ bb8) (fun hHeld => ?_)
          clear hK K_
          try simp only [Act.put, List.setIfInBounds_toArray, List.set_cons_zero, List.set_cons_succ]
          refine wpAnyH_alone 11 rfl (by kernel_rfl) (fun K_ hK => ?_)
          go_simp
          refine (hxt _ bb8).mono ?_
          rintro e w7 ⟨rfl, b7⟩
          have bb7 := bb8.trans (b7.mono bb8.size)
          refine hK.out _ _ (hS6 _ bb7) (fun hHeld => ?_)
          clear hK K_
          try simp only [Act.put, List.setIfInBounds_toArray, List.set_cons_zero, List.set_cons_succ]
          have y8x := Cel.later y8 b7
          refine wpAnyH_here 12 (v := ?_) rfl (by kernel_rfl) (by kernel_rfl) (by kernel_rfl) (fun _ _ _ h => h) (Or.inl ⟨by rfl, ?_⟩) hHeld ?_
          rotate_left
          · intro w hSw; (try dsimp only at hSw); go_simp; all_goals (with_reducible rfl)
          try simp only [Act.put, List.setIfInBounds_toArray, List.set_cons_zero, List.set_cons_succ]
          refine wpAnyH_here 13 (v := ?_) rfl (by kernel_rfl) (by kernel_rfl) (by kernel_rfl) (fun _ _ _ h => h) (Or.inl ⟨by rfl, ?_⟩) hHeld ?_
          rotate_left
          · intro w hSw; (try dsimp only at hSw); go_simp; all_goals (with_reducible rfl)
          try simp only [Act.put, List.setIfInBounds_toArray, List.set_cons_zero, List.set_cons_succ]
          refine wpAnyH_here 14 (v := ?_) rfl (by kernel_rfl) (by kernel_rfl) (by kernel_rfl) (fun _ _ _ h => h) (Or.inl ⟨by rfl, ?_⟩) hHeld ?_
          rotate_left
          · intro w hSw; (try dsimp only at hSw); go_simp; all_goals (with_reducible rfl)
          try simp only [Act.put, List.setIfInBounds_toArray, List.set_cons_zero, List.set_cons_succ]
          refine wpAnyH_alone 16 rfl (by kernel_rfl) (fun K_ hK => ?_)
          have fc0 := y8x.cell 0
          have fc1 := y8x.cell 1
          have fc2 := y8x.cell 2
          have fc3 := y8x.cell 3
          have fc4 := y8x.cell 4
          have fc5 := y8x.cell 5
          have fc6 := y8x.cell 6
          have fc7 := y8x.cell 7
          have ff0 := y8x.free 0
          have ff1 := y8x.free 1
          have ff2 := y8x.free 2
          have ff3 := y8x.free 3
          have ff4 := y8x.free 4
          have ff5 := y8x.free 5
          have ff6 := y8x.free 6
          have ff7 := y8x.free 7
          simp at fc0 fc1 fc2 fc3 fc4 fc5 fc6 fc7
          have p9 := put8_only w7 Y (.int .i64 K) (.int .i64 W_) (.int .i64 H) (.bool lk2) (.bool wt2) (.bool rt2) (.int .i64 bc2) (.int .i64 nx2)
          have y9 := put8_cel y8x (.int .i64 K) (.int .i64 W_) (.int .i64 H) (.bool lk2) (.bool wt2) (.bool rt2) (.int .i64 bc2) (.int .i64 nx2)
          have bb9 := bb7.trans (p9.below bb7.size (fun x hx => by obtain rfl := List.mem_singleton.1 hx; exact hY))
          go_simp
          refine hK.out _ _ (hS6 _ bb9) (fun hHeld => ?_)
          clear hK K_
          try simp only [Act.put, List.setIfInBounds_toArray, List.set_cons_zero, List.set_cons_succ]
          refine wpAnyH_here 17 (v := ?_) rfl (by kernel_rfl) (by kernel_rfl) (by kernel_rfl) (fun _ _ _ h => h) (Or.inl ⟨by rfl, ?_⟩) hHeld ?_
          rotate_left
          · intro w hSw; (try dsimp only at hSw); go_simp; all_goals (with_reducible rfl)
          try simp only [Act.put, List.setIfInBounds_toArray, List.set_cons_zero, List.set_cons_succ]
          refine wpAnyH_done (by kernel_rfl) ?_ _
          clear hHeld ff0 ff1 ff2 ff3 ff4 ff5 ff6 ff7 fc0 fc1 fc2 fc3 fc4 fc5 fc6 fc7 hS6 hxt p9
          go_wp2
          go_meet
          case rel => exact ⟨_, rfl, rfl, bb9, hY, y9⟩
      case rest =>
        obtain ⟨Y, rfl, rfl, bx, hY, yc⟩ := hcut
        clear hX0 hX1 hX2 hX3 hX4 hX5 hX6 hX7 hS6 hxt
        have Px := HP6.out.below bx
        have x0 := Px.x
        dsimp only at x0
        have fc0 := x0.cell 0
        have ff0 := x0.free 0
        have yy0 := yc.cell 0
        have fc1 := x0.cell 1
        have ff1 := x0.free 1
        have yy1 := yc.cell 1
        have fc2 := x0.cell 2
        have ff2 := x0.free 2
        have yy2 := yc.cell 2
        have fc3 := x0.cell 3
        have ff3 := x0.free 3
        have yy3 := yc.cell 3
        have fc4 := x0.cell 4
        have ff4 := x0.free 4
        have yy4 := yc.cell 4
        have fc5 := x0.cell 5
        have ff5 := x0.free 5
        have yy5 := yc.cell 5
        have fc6 := x0.cell 6
        have ff6 := x0.free 6
        have yy6 := yc.cell 6
        have fc7 := x0.cell 7
        have ff7 := x0.free 7
        have yy7 := yc.cell 7
        simp at fc0 fc1 fc2 fc3 fc4 fc5 fc6 fc7 yy0 yy1 yy2 yy3 yy4 yy5 yy6 yy7
        have k9 := put8_only wc X (.int .i64 K) (.int .i64 W_) (.int .i64 H) (.bool lk2) (.bool wt2) (.bool rt2) (.int .i64 bc2) (.int .i64 nx2)
        have Pn := Px.store ⟨lk2, wt2, rt2, bc2, nx2⟩
        have r9 := Rd.off_ x0 (ref_no _ _ _ _ _ _ _ _) (r6.later bx) k9
        obtain ⟨wn, hwn⟩ : ∃ wn, wn = ((((((((wc.setCell ⟨X, 0, none⟩ (.int .i64 K)).setCell ⟨X, 1, none⟩ (.int .i64 W_)).setCell ⟨X, 2, none⟩ (.int .i64 H)).setCell ⟨X, 3, none⟩ (.bool lk2)).setCell ⟨X, 4, none⟩ (.bool wt2)).setCell ⟨X, 5, none⟩ (.bool rt2)).setCell ⟨X, 6, none⟩ (.int .i64 bc2)).setCell ⟨X, 7, none⟩ (.int .i64 nx2)) := ⟨_, rfl⟩
        have hwn' : put8 wc X (.int .i64 K) (.int .i64 W_) (.int .i64 H) (.bool lk2) (.bool wt2) (.bool rt2) (.int .i64 bc2) (.int .i64 nx2) = wn := by rw [hwn]; rfl
        dsimp only at Pn
        rw [hwn'] at Pn r9
        have HPn := Lib.hid Pn
        clear hwn' k9 Px
        go_upto_region 14 with fail
        rw [← hwn]
        clear hwn fc0 fc1 fc2 fc3 fc4 fc5 fc6 fc7 ff0 ff1 ff2 ff3 ff4 ff5 ff6 ff7 yy0 yy1 yy2 yy3 yy4 yy5 yy6 yy7 x0 yc
        have Kn := K0.below Pn.f.b
        have rdn := Kn.rd Pn.f.s
        dsimp only at rdn
        have hbn : b < wn.heap.size := Nat.lt_of_lt_of_le hbB Pn.f.s
        have hXn : X < wn.heap.size := Pn.x.lt
        have e2 := Pn.x.cell 2
        have e3 := Pn.x.cell 3
        have e4 := Pn.x.cell 4
        have e5 := Pn.x.cell 5
        have e6 := Pn.x.cell 6
        have e7 := Pn.x.cell 7
        simp at e2 e3 e4 e5 e6 e7
        have d2 : ∀ q : Later wn, q.W.cell? ⟨X, 2, none⟩ = some (.int .i64 H) := later_cell e2 hXn
        have d3 : ∀ q : Later wn, q.W.cell? ⟨X, 3, none⟩ = some (.bool lk2) := later_cell e3 hXn
        have d4 : ∀ q : Later wn, q.W.cell? ⟨X, 4, none⟩ = some (.bool wt2) := later_cell e4 hXn
        have d5 : ∀ q : Later wn, q.W.cell? ⟨X, 5, none⟩ = some (.bool rt2) := later_cell e5 hXn
        have d6 : ∀ q : Later wn, q.W.cell? ⟨X, 6, none⟩ = some (.int .i64 bc2) := later_cell e6 hXn
        have d7 : ∀ q : Later wn, q.W.cell? ⟨X, 7, none⟩ = some (.int .i64 nx2) := later_cell e7 hXn
        have f0 : ∀ q : Later wn, q.W.cell? ⟨b, off + k * 8, none⟩ = some (.bool byp) := later_cell Kn.c0 hbn
        have f1 : ∀ q : Later wn, q.W.cell? ⟨b, off + k * 8 + 1, none⟩ = some (.bool con) := later_cell Kn.c1 hbn
        have f2 : ∀ q : Later wn, q.W.cell? ⟨b, off + k * 8 + 2, none⟩ = some (.int .i64 cr) := later_cell Kn.c2 hbn
        have f3 : ∀ q : Later wn, q.W.cell? ⟨b, off + k * 8 + 3, none⟩ = some (.int .i64 ch) := later_cell Kn.c3 hbn
        have f4 : ∀ q : Later wn, q.W.cell? ⟨b, off + k * 8 + 4, none⟩ = some (.int .i64 sq) := later_cell Kn.c4 hbn
        have f5 : ∀ q : Later wn, q.W.cell? ⟨b, off + k * 8 + 5, none⟩ = some (.slice a n c) := later_cell Kn.c5 hbn
        have v1 : ∀ q : Later wn, (convert 28 9 (.slice A6 M c6)).run Try.prog q.W = .ok (.string (str E)) q.W := conv_later r9
        have v2 : ∀ q : Later wn, Calls Try.prog 15 #[.agg #[.bool byp, .bool con, .int .i64 cr, .int .i64 ch, .int .i64 sq, .slice a n c], .int .i64 V] q.W fun e w' => e = .returned (.string (str E)) ∧ Below q.W.heap.size q.W w' := fun q => by
          have x := want_any byp con cr ch sq a d n c V q.W (rdn.later q.h)
          rw [HE.out] at x
          exact x
        have v3 : ∀ q : Later wn, Calls Try.prog 10 #[.pointer (some ⟨g, 0, none⟩)] q.W fun e w' => e = .returned (.agg #[.int .i64 H, .bool lk2, .bool wt2, .bool rt2, .int .i64 bc2, .int .i64 nx2]) ∧ Below q.W.heap.size q.W w' := fun q => (HPn.out.below q.h).report
        obtain ⟨Z, hZ⟩ : ∃ Z, Z = str E := ⟨_, rfl⟩
        rw [← hZ] at v1
        simp only [← hZ] at v2
        have j0 : (H == H) = true := by simp
        have j1 : (lk2 == lk2) = true := by simp
        have j2 : (wt2 == wt2) = true := by simp
        have j3 : (rt2 == rt2) = true := by simp
        have j4 : (bc2 == bc2) = true := by simp
        have j5 : (nx2 == nx2) = true := by simp
        have j6 : (V != V) = false := by simp
        clear hZ r9 Pn Kn rdn e2 e3 e4 e5 e6 e7 r6
        refine wp_region_later (by kernel_rfl) (by kernel_rfl) ?_
        repeat (go_big_quiet_step ((first
          | (go_at_call 15; exact later_of (v2 _))
          | (go_at_call 10; exact later_of (v3 _)))))
        refine wpQuiet_nil ?_
        rintro _ ⟨⟨w10, b10⟩, rfl⟩
        have P10 := HPn.out.below b10
        have Kz := K0.below P10.f.b
        have t7 := Kz.c7
        dsimp only at t7
        have t0 := Kz.c0
        have t1 := Kz.c1
        have t2 := Kz.c2
        have t3 := Kz.c3
        have t4 := Kz.c4
        have t5 := Kz.c5
        dsimp only at t0 t1 t2 t3 t4 t5
        clear v1 v2 v3 d2 d3 d4 d5 d6 d7 f0 f1 f2 f3 f4 f5 HPn
        have HP := Lib.hid P10
        cases cpy with
        | false =>
          clear P10 Kz
          go_wp2
          go_roundw
          case rel => exact ⟨k + 1, g, _, hkN, rfl, by simp, HP.out⟩
          case measure => simp [intOf]; omega
        | true =>
          have hcl := P10.clone
          clear P10 Kz
          go_wp2_with fail
          refine hcl.mono ?_
          rintro e w11 ⟨q, rfl, hq, Pq, Pg⟩
          clear hcl t0 t1 t2 t3 t4 t5 t7
          have Kz := K0.below Pq.f.b
          have rdz := Kz.rd Pq.f.s
          have t0 := Kz.c0
          have t1 := Kz.c1
          have t2 := Kz.c2
          have t3 := Kz.c3
          have t4 := Kz.c4
          have t5 := Kz.c5
          dsimp only at t0 t1 t2 t3 t4 t5 rdz
          have hot := Pq.other (byp := byp) (con := con) (cr := cr) (ch := ch) (sq := sq) Pg hq rdz true
          clear Pq Pg Kz rdz hq
          go_wp2_with fail
          refine hot.mono ?_
          rintro e w12 ⟨⟨A12, m12, c12, V12, rfl⟩, P12⟩
          clear hot t0 t1 t2 t3 t4 t5
          have HP := Lib.hid P12
          clear P12
          go_wp2
          go_roundw
          case rel => exact ⟨k + 1, q, _, hkN, rfl, by simp, HP.out⟩
          case measure => simp [intOf]; omega
    · obtain rfl : k = N := by omega
      have HP := Lib.hid P0
      clear P0 hkN
      go_wp2_with fail
      refine (alive16_any wr).mono ?_
      rintro e w6 ⟨rfl, b6⟩
      go_wp2
      go_ret
      exact ⟨rfl, (HP.out.below b6).f.b⟩

theorem farmTakes_walk (K H m : Int) (A : Option Addr) (N cap : Nat) (l : List Op16) (w : World) (hN : Hid (l.length = N)) (hps : Ops w w.heap.size A l) :
    Calls Try.prog 3 #[.agg #[.int .i64 K, .int .i64 H, .int .i64 m], .slice A N cap] w fun e w' => e = .returned (.bool true) ∧ Below w.heap.size w w' := by
  by_cases hb : K < 0 ∨ 1023 < K ∨ H < 0 ∨ 7 < H
  · exact farmTakes_bad K H m A N cap w hb
  · exact farmTakes_good K H m A N cap l w hN hps (by omega) (by omega) (by omega) (by omega)
end Go.Proofs.Ytdjopkfibfgjeaa.Far
