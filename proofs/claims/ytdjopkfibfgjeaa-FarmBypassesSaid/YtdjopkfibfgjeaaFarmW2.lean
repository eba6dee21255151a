/-
  Package farm: Take, Report, Clone; of nil.
-/
import Derived.Test.YtdjopkfibfgjeaaFarmW1
namespace Go.Proofs.Ytdjopkfibfgjeaa.Far
open Go.RowKit
open Pac (bel_new Cel.later)
open Tcf (Fr dir)

set_option maxHeartbeats 4000000 in
theorem take_any (byp con : Bool) (cr ch sq : Int) (a : Option Addr) (l : List Byte) (n c : Nat) (room : Bool) (w : World) (g : Nat) (K H W : Int) (s : St) (h : FW w g K H W s) (hD : Rd w a l n c) :
    Calls Try.prog 9 #[.pointer (some ⟨g, 0, none⟩), .agg #[.bool byp, .bool con, .int .i64 cr, .int .i64 ch, .int .i64 sq, .slice a n c], .bool room] w fun e w' => (∃ v, e = .returned (.tuple #[v, .int .i64 (tke K H W s ⟨byp, con, cr, ch, sq, l⟩ room).1]) ∧ Ow w' w.heap.size 5 v (dat (tke K H W s ⟨byp, con, cr, ch, sq, l⟩ room).1 l)) ∧ FW w' g K H W (tke K H W s ⟨byp, con, cr, ch, sq, l⟩ room).2 ∧ Only [g] w w' := by
  obtain ⟨w1, hw1⟩ : ∃ w1, w1 = w.alloc (.cells #[.bool byp, .bool con, .int .i64 cr, .int .i64 ch, .int .i64 sq, .slice a n c] 32) := ⟨_, rfl⟩
  have b1 : Below w.heap.size w w1 := by rw [hw1]; exact bel_new _ _
  have p1 : Cel w1 w.heap.size 32 #[.bool byp, .bool con, .int .i64 cr, .int .i64 ch, .int .i64 sq, .slice a n c] := by rw [hw1]; exact Cel.new _ _ _
  have hd1 := hD.later b1
  have h1 := h.below b1
  have hgl := h.cel.lt
  have hlen := Lib.hid hD.len
  have x1 := fworks_any w1 g K H W s h1
  have x2 := accepts_any byp con cr ch sq a l n c w1 g K H W s h1 hlen (Nat.le_trans hD.le hD.max)
  have m0 := p1.cell 0
  have m1 := p1.cell 1
  have m2 := p1.cell 2
  have m3 := p1.cell 3
  have m4 := p1.cell 4
  have m5 := p1.cell 5
  simp at m0 m1 m2 m3 m4 m5
  rw [hw1] at m0 m1 m2 m3 m4 m5
  clear hD h
  cases hm : mine K H ⟨byp, con, cr, ch, sq, l⟩ with
  | false =>
    have e : tke K H W s ⟨byp, con, cr, ch, sq, l⟩ room = (0, s) := by unfold tke; rw [hm]; rfl
    rw [e]
    rw [hm] at x2
    clear e hd1 p1 hlen hm
    go_enter Try.func9, Try.ntmps9
    go_wp2_with fail
    rw [← hw1]
    refine x1.mono ?_
    rintro e w2 ⟨rfl, rfl⟩
    rw [hw1] at x2 ⊢
    go_wp2_with fail
    refine x2.mono ?_
    rintro e w2 ⟨rfl, h2⟩
    rw [← hw1] at h2
    have b2 := b1.trans (h2.mono b1.size)
    go_wp2
    go_ret2
    exact ⟨⟨_, rfl, World.ownsRow_nil _ _ _ _⟩, h1.below h2, Only.of_below b2⟩
  | true =>
    have e : tke K H W s ⟨byp, con, cr, ch, sq, l⟩ room = jdg W s ⟨byp, con, cr, ch, sq, l⟩ room := by unfold tke; rw [hm]; rfl
    rw [e]
    rw [hm] at x2
    have hmf := (mine_fits hm).2.1
    have q0 : 0 ≤ sq := hmf.2.2.2.2.1
    have q1 : sq ≤ 255 := hmf.2.2.2.2.2.1
    have l1 : l.length ≤ 1017 := hmf.2.2.2.2.2.2.2
    have x3 := fun W' (hf : FW W' g K H W s) (hd : Rd W' a l n c) => judge_any byp con cr ch sq a l n c room W' g K H W s hf hd q0 q1
    obtain ⟨R, hR⟩ : ∃ R, R = jdg W s ⟨byp, con, cr, ch, sq, l⟩ room := ⟨_, rfl⟩
    rw [← hR] at x3 ⊢
    have hn' : n ≤ 1017 := by rw [← hlen.out]; exact l1
    clear e hm hR q0 q1 l1 hmf
    by_cases hv : R.1 = 1
    · obtain ⟨V, S'⟩ := R
      dsimp only at hv x3 ⊢
      subst hv
      have e : dat 1 l = l := rfl
      rw [e]
      clear e
      go_enter Try.func9, Try.ntmps9
      go_wp2_with fail
      rw [← hw1]
      refine x1.mono ?_
      rintro e w2 ⟨rfl, rfl⟩
      rw [hw1] at x2 ⊢
      go_wp2_with fail
      refine x2.mono ?_
      rintro e w2 ⟨rfl, h2⟩
      rw [← hw1] at h2
      have b2 := b1.trans (h2.mono b1.size)
      have f2 := h1.below h2
      have p2 := Cel.later p1 h2
      have d2 := hd1.later h2
      clear x1 x2 h2 b1 h1 p1 hd1 hw1 m0 m1 m2 m3 m4 m5
      have m0 := p2.cell 0
      have m1 := p2.cell 1
      have m2 := p2.cell 2
      have m3 := p2.cell 3
      have m4 := p2.cell 4
      have m5 := p2.cell 5
      simp at m0 m1 m2 m3 m4 m5
      go_wp2_with fail
      refine (x3 w2 f2 d2).mono ?_
      rintro e w3 ⟨rfl, f3, o3⟩
      have d3 := f2.cel.keeps d2 o3
      have p3 := p2.only o3 (by simp; omega)
      clear x3 m0 m1 m2 m3 m4 m5 p2 d2 f2
      have m5 := p3.cell 5
      simp at m5
      go_wp2_with fail
      refine (clone_any a l n c w3 hlen d3.bs d3.nil (by omega)).mono ?_
      rintro e w4 ⟨v, rfl, o4, h4⟩
      go_wp2
      go_ret2
      have hs3 : w.heap.size ≤ w3.heap.size := Nat.le_trans b2.size o3.size
      exact ⟨⟨v, rfl, o4.more hs3⟩, f3.below h4, only_then (only_then (Only.of_below b2) o3) (Only.of_below h4)⟩
    · have e : dat R.1 l = [] := by unfold dat; rw [if_neg hv]
      rw [e]
      have t1 : (R.1 != 1) = true := by simpa using hv
      obtain ⟨V, S'⟩ := R
      dsimp only at hv x3 t1 ⊢
      clear e hv hn'
      go_enter Try.func9, Try.ntmps9
      go_wp2_with fail
      rw [← hw1]
      refine x1.mono ?_
      rintro e w2 ⟨rfl, rfl⟩
      rw [hw1] at x2 ⊢
      go_wp2_with fail
      refine x2.mono ?_
      rintro e w2 ⟨rfl, h2⟩
      rw [← hw1] at h2
      have b2 := b1.trans (h2.mono b1.size)
      have f2 := h1.below h2
      have p2 := Cel.later p1 h2
      have d2 := hd1.later h2
      clear x1 x2 h2 b1 h1 p1 hd1 hw1 m0 m1 m2 m3 m4 m5
      have m0 := p2.cell 0
      have m1 := p2.cell 1
      have m2 := p2.cell 2
      have m3 := p2.cell 3
      have m4 := p2.cell 4
      have m5 := p2.cell 5
      simp at m0 m1 m2 m3 m4 m5
      go_wp2_with fail
      refine (x3 w2 f2 d2).mono ?_
      rintro e w3 ⟨rfl, f3, o3⟩
      clear x3 m0 m1 m2 m3 m4 m5 p2 d2 f2
      go_wp2
      go_ret2
      exact ⟨⟨_, rfl, World.ownsRow_nil _ _ _ _⟩, f3, only_then (Only.of_below b2) o3⟩

theorem rep_results {tmps : Array Value} {W : World} {g : Nat} {ch : Int} {lk wt rt : Bool} {bp nx : Int} (h2 : tmps.getD 2 undef = .pointer (some ⟨g, 0, none⟩))
    (hC : Cel W g 34 #[.int .i64 ch, .bool lk, .bool wt, .bool rt, .int .i64 bp, .int .i64 nx]) :
    (results Try.f10 tmps).run Try.prog W = .ok (.agg #[.int .i64 ch, .bool lk, .bool wt, .bool rt, .int .i64 bp, .int .i64 nx]) W := by
  have c0 := hC.cell 0
  have c1 := hC.cell 1
  have c2 := hC.cell 2
  have c3 := hC.cell 3
  have c4 := hC.cell 4
  have c5 := hC.cell 5
  simp at c0 c1 c2 c3 c4 c5
  simp only [Array.getD_eq_getD_getElem?] at h2
  simp [results, Try.results10, go_sem, h2, c0, c1, c2, c3, c4, c5]

/-- the control word, as a value -/
def wordV (H : Int) (s : St) : Value := .agg #[.int .i64 H, .bool s.lk, .bool s.wt, .bool s.rt, .int .i64 s.bc, .int .i64 s.nx]

set_option maxHeartbeats 2000000 in
theorem report_any (w : World) (g : Nat) (K H W : Int) (s : St) (h : FW w g K H W s) :
    Calls Try.prog 10 #[.pointer (some ⟨g, 0, none⟩)] w fun e w' => e = .returned (.agg #[.int .i64 H, .bool s.lk, .bool s.wt, .bool s.rt, .int .i64 s.bc, .int .i64 s.nx]) ∧ Below w.heap.size w w' := by
  obtain ⟨w1, hw1⟩ : ∃ w1, w1 = w.alloc (.cells #[.int .i64 0, .bool false, .bool false, .bool false, .int .i64 0, .int .i64 0] 34) := ⟨_, rfl⟩
  have b1 : Below w.heap.size w w1 := by rw [hw1]; exact bel_new _ _
  have hR : Cel w1 w.heap.size 34 #[.int .i64 0, .bool false, .bool false, .bool false, .int .i64 0, .int .i64 0] := by rw [hw1]; exact Cel.new _ _ _
  have h1 := h.below b1
  have x1 := fworks_any w1 g K H W s h1
  have hc := h1.cel
  obtain ⟨lk, wt, rt, bc, nx⟩ := s
  dsimp only at hc ⊢
  have z2 := hc.c2
  have z3 := hc.c3
  have z4 := hc.c4
  have z5 := hc.c5
  have z6 := hc.c6
  have z7 := hc.c7
  have c0 := hR.cell 0
  have c1 := hR.cell 1
  have c2 := hR.cell 2
  have c3 := hR.cell 3
  have c4 := hR.cell 4
  have c5 := hR.cell 5
  simp at c0 c1 c2 c3 c4 c5
  have f0 := hR.free 0
  have f1 := hR.free 1
  have f2 := hR.free 2
  have f3 := hR.free 3
  have f4 := hR.free 4
  have f5 := hR.free 5
  have hgl := h.cel.lt
  clear h h1 hc
  go_enter Try.func10, Try.ntmps10
  go_wp2_with fail
  rw [← hw1]
  clear hw1
  refine x1.mono ?_
  rintro e w2 ⟨rfl, rfl⟩
  go_wp2
  exact bodyPost_ret (rep_results rfl (put6_cel hR (.int .i64 H) (.bool lk) (.bool wt) (.bool rt) (.int .i64 bc) (.int .i64 nx))) rfl ⟨rfl, put6_below b1 (Nat.le_refl _) _ _ _ _ _ _⟩

set_option maxHeartbeats 2000000 in
theorem clone16_any (w : World) (g : Nat) (K H W : Int) (s : St) (h : FW w g K H W s) :
    Calls Try.prog 11 #[.pointer (some ⟨g, 0, none⟩)] w fun e w' => e = .returned (.pointer (some ⟨w.heap.size, 0, none⟩)) ∧ FW w' w.heap.size K H W s ∧ Below w.heap.size w w' := by
  have x1 := fworks_any w g K H W s h
  obtain ⟨hc, hok, i1, i2⟩ := h
  obtain ⟨lk, wt, rt, bc, nx⟩ := s
  dsimp only at hc ⊢
  have z0 := hc.c0
  have z1 := hc.c1
  have z2 := hc.c2
  have z3 := hc.c3
  have z4 := hc.c4
  have z5 := hc.c5
  have z6 := hc.c6
  have z7 := hc.c7
  have hF : FW (w.alloc (.cells #[.int .i64 K, .int .i64 W, .int .i64 H, .bool lk, .bool wt, .bool rt, .int .i64 bc, .int .i64 nx] 53)) w.heap.size K H W ⟨lk, wt, rt, bc, nx⟩ := ⟨Cel.new _ _ _, hok, i1, i2⟩
  have HF := Lib.hid hF
  clear hc hok i1 i2 hF
  go_enter Try.func11, Try.ntmps11
  go_wp2_with fail
  refine x1.mono ?_
  rintro e w2 ⟨rfl, rfl⟩
  go_wp2
  go_ret
  exact ⟨rfl, HF.out, bel_new _ _⟩

/-! ### nil -/
set_option maxHeartbeats 1000000 in
theorem take_nil (w : World) (room : Bool) :
    Calls Try.prog 9 #[.pointer none, .agg #[.bool false, .bool false, .int .i64 0, .int .i64 0, .int .i64 0, .slice none 0 0], .bool room] w fun e w' => e = .returned (.tuple #[.slice none 0 0, .int .i64 0]) ∧ Below w.heap.size w w' := by
  go_enter Try.func9, Try.ntmps9
  go_wp2_with fail
  refine (fworks_nil _).mono ?_
  rintro e w2 ⟨rfl, rfl⟩
  go_wp2
  go_ret2
  exact ⟨rfl, bel_new _ _⟩
set_option maxHeartbeats 1000000 in
theorem report_nil (w : World) :
    Calls Try.prog 10 #[.pointer none] w fun e w' => e = .returned (.agg #[.int .i64 0, .bool false, .bool false, .bool false, .int .i64 0, .int .i64 0]) ∧ Below w.heap.size w w' := by
  obtain ⟨w1, hw1⟩ : ∃ w1, w1 = w.alloc (.cells #[.int .i64 0, .bool false, .bool false, .bool false, .int .i64 0, .int .i64 0] 34) := ⟨_, rfl⟩
  have b1 : Below w.heap.size w w1 := by rw [hw1]; exact bel_new _ _
  have hR : Cel w1 w.heap.size 34 #[.int .i64 0, .bool false, .bool false, .bool false, .int .i64 0, .int .i64 0] := by rw [hw1]; exact Cel.new _ _ _
  have c0 := hR.cell 0
  have c1 := hR.cell 1
  have c2 := hR.cell 2
  have c3 := hR.cell 3
  have c4 := hR.cell 4
  have c5 := hR.cell 5
  simp at c0 c1 c2 c3 c4 c5
  have f0 := hR.free 0
  have f1 := hR.free 1
  have f2 := hR.free 2
  have f3 := hR.free 3
  have f4 := hR.free 4
  have f5 := hR.free 5
  go_enter Try.func10, Try.ntmps10
  go_wp2_with fail
  rw [← hw1]
  clear hw1
  refine (fworks_nil _).mono ?_
  rintro e w2 ⟨rfl, rfl⟩
  go_wp2
  exact bodyPost_ret (rep_results rfl (put6_cel hR (.int .i64 0) (.bool false) (.bool false) (.bool false) (.int .i64 0) (.int .i64 0))) rfl ⟨rfl, put6_below b1 (Nat.le_refl _) _ _ _ _ _ _⟩
set_option maxHeartbeats 400000 in
theorem clone_nil16 (w : World) :
    Calls Try.prog 11 #[.pointer none] w fun e w' => e = .returned (.pointer none) ∧ w = w' := by
  go_enter Try.func11, Try.ntmps11
  go_wp2_with fail
  refine (fworks_nil _).mono ?_
  rintro e w2 ⟨rfl, rfl⟩
  go_wp2
  go_ret
  exact ⟨rfl, rfl⟩
end Go.Proofs.Ytdjopkfibfgjeaa.Far
