/-
  FopW6 TcfW5 Ref01a Ref01b Ref01c Ref14a Ref14b Law17a FopLive FopSync FarmW0 FarmW1 FarmW2 Recs ArgAgg LstH LstArg BoolArg Law17g, one after another.
-/
import Derived.Test.YtdpjjhbfhlmolaaTops2
import Derived.Deep.RegionWith
import Derived.Lib.SlBytesConst
import Derived.Deep.QuietTactic
import Derived.BigQuiet
import Derived.BigRegion
import Derived.OpenShut
import Derived.Deep.Slices
import Derived.Deep.Fields
import Derived.WideShapes
import Derived.ChangeSlices
import Derived.Test.YtdpjjhbfhlmolaaRows
import Derived.Deep.LoopGhost

/-
  Package fop: Report; all calls of a sending end that is none.
-/
namespace Go.Proofs.Ytdpjjhbfhlmolaa.Fop
open Go.RowKit
open Pac (bel_new Cel.later)
open Tcf (Fr)
open Clc (Cw cvalid_any)
open Strs (So)

theorem quiet_same {P : Program} {f : FuncId} {args : Array Value} {w : World} {n : Nat} {v : Value} (h : Calls P f args (w.drewN n) fun e w' => e = .returned v ∧ w.drewN n = w') :
    Calls P f args (w.drewN n) fun e w'' => e = .returned v ∧ ∃ m, w'' = w.drewN m := h.mono fun _ _ ⟨he, hb⟩ => ⟨he, n, hb.symm⟩

set_option maxRecDepth 100000 in
set_option maxHeartbeats 4000000 in
theorem report_form (ch : Int) (lk wt rt : Bool) (bp nx n : Int) (us : List (List Byte)) (fl fr ac st ct rp tm nw : Int) (w : World) (B g : Nat) (v : Value) (K' H W T R : Int) (s : Fs) (h : FW w B g v K' H W T R s) (hs : adv n s = ⟨us, fl, fr, ac, st, ct, rp, tm, nw⟩) (hok : Hid (Cw.ok ⟨ch, lk, wt, rt, bp, nx⟩ = false)) :
    Calls Try.prog 17 #[.pointer (some ⟨g, 0, none⟩), .agg #[.int .i64 ch, .bool lk, .bool wt, .bool rt, .int .i64 bp, .int .i64 nx], .int .i64 n] w fun e w' => e = .returned (.int .i64 1) ∧ (∃ v', FW w' B g v' K' H W T R ⟨us, fl, fr, ac, st, ct, rp, tm, nw⟩ ∧ v'.ownBlock = v.ownBlock) ∧ Only (blk g v) w w' := by
  obtain ⟨w1, hw1⟩ : ∃ w1, w1 = w.alloc (.cells #[.int .i64 ch, .bool lk, .bool wt, .bool rt, .int .i64 bp, .int .i64 nx] 35) := ⟨_, rfl⟩
  have b1 : Below w.heap.size w w1 := by rw [hw1]; exact bel_new _ _
  have hR1 : Cel w1 w.heap.size 35 #[.int .i64 ch, .bool lk, .bool wt, .bool rt, .int .i64 bp, .int .i64 nx] := by rw [hw1]; exact Cel.new _ _ _
  have h1 := h.below b1
  have hgl := h.cel.lt
  have x1 := fopworks_any w1 B g v K' H W T R s h1
  have x2 := advance_any n w1 B g v K' H W T R s h1
  have xv := fun W => cvalid_any ch lk wt rt bp nx W
  rw [hs] at x2
  clear hs h h1
  go_enter Try.func17, Try.ntmps17
  go_wp2_with fail
  rw [← hw1]
  clear hw1
  refine x1.mono ?_
  rintro e w2 ⟨rfl, rfl⟩
  clear x1
  go_wp2_with fail
  refine x2.mono ?_
  rintro e w2 ⟨rfl, h2, k2⟩
  clear x2
  have o2 : Only [g] w w2 := only_then (Only.of_below b1) k2
  have hR2 := hR1.only k2 (by simp; omega)
  have hbs : w.heap.size ≤ w2.heap.size := Nat.le_trans b1.size k2.size
  clear k2 b1 hR1
  have c6 := h2.cel.c6
  have hg2 := h2.cel.lt
  have hl2 := hR2.lt
  have r0 := hR2.cell 0
  have r1 := hR2.cell 1
  have r2 := hR2.cell 2
  have r3 := hR2.cell 3
  have r4 := hR2.cell 4
  have r5 := hR2.cell 5
  simp at r0 r1 r2 r3 r4 r5
  simp only [hok.out] at xv
  go_wp2_with fail
  refine wp_region_later (by kernel_rfl) (by kernel_rfl) ?_
  have n0 : ∀ p : Later w2, p.W.cell? ⟨w.heap.size, 0, none⟩ = some (.int .i64 ch) := later_cell r0 hl2
  have n1 : ∀ p : Later w2, p.W.cell? ⟨w.heap.size, 1, none⟩ = some (.bool lk) := later_cell r1 hl2
  have n2 : ∀ p : Later w2, p.W.cell? ⟨w.heap.size, 2, none⟩ = some (.bool wt) := later_cell r2 hl2
  have n3 : ∀ p : Later w2, p.W.cell? ⟨w.heap.size, 3, none⟩ = some (.bool rt) := later_cell r3 hl2
  have n4 : ∀ p : Later w2, p.W.cell? ⟨w.heap.size, 4, none⟩ = some (.int .i64 bp) := later_cell r4 hl2
  have n5 : ∀ p : Later w2, p.W.cell? ⟨w.heap.size, 5, none⟩ = some (.int .i64 nx) := later_cell r5 hl2
  have n6 : ∀ p : Later w2, p.W.cell? ⟨g, 6, none⟩ = some (.int .i64 H) := later_cell c6 hg2
  clear r0 r1 r2 r3 r4 r5 c6
  repeat (go_big_quiet_step ((go_at_call 45; exact later_of (xv _))))
  refine wpQuiet_nil ?_
  rintro w5 ⟨p5, hp5⟩
  have hbel5 : Below w2.heap.size w2 w5 := by rw [hp5]; exact p5.h
  clear hp5 p5
  have h5 := h2.below hbel5
  have hR5 := Cel.later hR2 hbel5
  have o5 : Only [g] w w5 := only_then o2 (Only.of_below hbel5)
  clear h2 hR2 o2 n0 n1 n2 n3 n4 n5 n6 xv hbel5
  go_wp2
  go_ret
  exact ⟨rfl, ⟨v, h5, rfl⟩, (o5.more (fun x hx => .inl (by simp [blk] at hx ⊢; exact .inl hx)))⟩

set_option maxRecDepth 100000 in
set_option maxHeartbeats 4000000 in
theorem report_chan (ch : Int) (lk wt rt : Bool) (bp nx n : Int) (us : List (List Byte)) (fl fr ac st ct rp tm nw : Int) (w : World) (B g : Nat) (v : Value) (K' H W T R : Int) (s : Fs) (h : FW w B g v K' H W T R s) (hs : adv n s = ⟨us, fl, fr, ac, st, ct, rp, tm, nw⟩) (hok : Hid (Cw.ok ⟨ch, lk, wt, rt, bp, nx⟩ = true)) (hch : Hid (ch ≠ H)) :
    Calls Try.prog 17 #[.pointer (some ⟨g, 0, none⟩), .agg #[.int .i64 ch, .bool lk, .bool wt, .bool rt, .int .i64 bp, .int .i64 nx], .int .i64 n] w fun e w' => e = .returned (.int .i64 1) ∧ (∃ v', FW w' B g v' K' H W T R ⟨us, fl, fr, ac, st, ct, rp, tm, nw⟩ ∧ v'.ownBlock = v.ownBlock) ∧ Only (blk g v) w w' := by
  obtain ⟨w1, hw1⟩ : ∃ w1, w1 = w.alloc (.cells #[.int .i64 ch, .bool lk, .bool wt, .bool rt, .int .i64 bp, .int .i64 nx] 35) := ⟨_, rfl⟩
  have b1 : Below w.heap.size w w1 := by rw [hw1]; exact bel_new _ _
  have hR1 : Cel w1 w.heap.size 35 #[.int .i64 ch, .bool lk, .bool wt, .bool rt, .int .i64 bp, .int .i64 nx] := by rw [hw1]; exact Cel.new _ _ _
  have h1 := h.below b1
  have hgl := h.cel.lt
  have x1 := fopworks_any w1 B g v K' H W T R s h1
  have x2 := advance_any n w1 B g v K' H W T R s h1
  have xv := fun W => cvalid_any ch lk wt rt bp nx W
  rw [hs] at x2
  clear hs h h1
  go_enter Try.func17, Try.ntmps17
  go_wp2_with fail
  rw [← hw1]
  clear hw1
  refine x1.mono ?_
  rintro e w2 ⟨rfl, rfl⟩
  clear x1
  go_wp2_with fail
  refine x2.mono ?_
  rintro e w2 ⟨rfl, h2, k2⟩
  clear x2
  have o2 : Only [g] w w2 := only_then (Only.of_below b1) k2
  have hR2 := hR1.only k2 (by simp; omega)
  have hbs : w.heap.size ≤ w2.heap.size := Nat.le_trans b1.size k2.size
  clear k2 b1 hR1
  have c6 := h2.cel.c6
  have hg2 := h2.cel.lt
  have hl2 := hR2.lt
  have r0 := hR2.cell 0
  have r1 := hR2.cell 1
  have r2 := hR2.cell 2
  have r3 := hR2.cell 3
  have r4 := hR2.cell 4
  have r5 := hR2.cell 5
  simp at r0 r1 r2 r3 r4 r5
  simp only [hok.out] at xv
  have t1 : (ch != H) = true := by have := hch.out; simpa using this
  go_wp2_with fail
  refine wp_region_later (by kernel_rfl) (by kernel_rfl) ?_
  have n0 : ∀ p : Later w2, p.W.cell? ⟨w.heap.size, 0, none⟩ = some (.int .i64 ch) := later_cell r0 hl2
  have n1 : ∀ p : Later w2, p.W.cell? ⟨w.heap.size, 1, none⟩ = some (.bool lk) := later_cell r1 hl2
  have n2 : ∀ p : Later w2, p.W.cell? ⟨w.heap.size, 2, none⟩ = some (.bool wt) := later_cell r2 hl2
  have n3 : ∀ p : Later w2, p.W.cell? ⟨w.heap.size, 3, none⟩ = some (.bool rt) := later_cell r3 hl2
  have n4 : ∀ p : Later w2, p.W.cell? ⟨w.heap.size, 4, none⟩ = some (.int .i64 bp) := later_cell r4 hl2
  have n5 : ∀ p : Later w2, p.W.cell? ⟨w.heap.size, 5, none⟩ = some (.int .i64 nx) := later_cell r5 hl2
  have n6 : ∀ p : Later w2, p.W.cell? ⟨g, 6, none⟩ = some (.int .i64 H) := later_cell c6 hg2
  clear r0 r1 r2 r3 r4 r5 c6
  repeat (go_big_quiet_step ((go_at_call 45; exact later_of (xv _))))
  refine wpQuiet_nil ?_
  rintro w5 ⟨p5, hp5⟩
  have hbel5 : Below w2.heap.size w2 w5 := by rw [hp5]; exact p5.h
  clear hp5 p5
  have h5 := h2.below hbel5
  have hR5 := Cel.later hR2 hbel5
  have o5 : Only [g] w w5 := only_then o2 (Only.of_below hbel5)
  clear h2 hR2 o2 n0 n1 n2 n3 n4 n5 n6 xv hbel5
  go_wp2
  go_ret
  exact ⟨rfl, ⟨v, h5, rfl⟩, (o5.more (fun x hx => .inl (by simp [blk] at hx ⊢; exact .inl hx)))⟩

set_option maxRecDepth 100000 in
set_option maxHeartbeats 4000000 in
theorem report_lock (wt rt : Bool) (bp nx n : Int) (us : List (List Byte)) (fl fr ac st ct rp tm nw : Int) (w : World) (B g : Nat) (v : Value) (K' H W T R : Int) (s : Fs) (h : FW w B g v K' H W T R s) (hs : adv n s = ⟨us, fl, fr, ac, st, ct, rp, tm, nw⟩) (hok : Hid (Cw.ok ⟨H, true, wt, rt, bp, nx⟩ = true)) :
    Calls Try.prog 17 #[.pointer (some ⟨g, 0, none⟩), .agg #[.int .i64 H, .bool true, .bool wt, .bool rt, .int .i64 bp, .int .i64 nx], .int .i64 n] w fun e w' => e = .returned (.int .i64 14) ∧ (∃ v', FW w' B g v' K' H W T R ⟨us, fl, fr, ac, 3, ct, rp, tm, nw⟩ ∧ v'.ownBlock = v.ownBlock) ∧ Only (blk g v) w w' := by
  obtain ⟨w1, hw1⟩ : ∃ w1, w1 = w.alloc (.cells #[.int .i64 H, .bool true, .bool wt, .bool rt, .int .i64 bp, .int .i64 nx] 35) := ⟨_, rfl⟩
  have b1 : Below w.heap.size w w1 := by rw [hw1]; exact bel_new _ _
  have hR1 : Cel w1 w.heap.size 35 #[.int .i64 H, .bool true, .bool wt, .bool rt, .int .i64 bp, .int .i64 nx] := by rw [hw1]; exact Cel.new _ _ _
  have h1 := h.below b1
  have hgl := h.cel.lt
  have x1 := fopworks_any w1 B g v K' H W T R s h1
  have x2 := advance_any n w1 B g v K' H W T R s h1
  have xv := fun W => cvalid_any H true wt rt bp nx W
  rw [hs] at x2
  clear hs h h1
  go_enter Try.func17, Try.ntmps17
  go_wp2_with fail
  rw [← hw1]
  clear hw1
  refine x1.mono ?_
  rintro e w2 ⟨rfl, rfl⟩
  clear x1
  go_wp2_with fail
  refine x2.mono ?_
  rintro e w2 ⟨rfl, h2, k2⟩
  clear x2
  have o2 : Only [g] w w2 := only_then (Only.of_below b1) k2
  have hR2 := hR1.only k2 (by simp; omega)
  have hbs : w.heap.size ≤ w2.heap.size := Nat.le_trans b1.size k2.size
  clear k2 b1 hR1
  have c6 := h2.cel.c6
  have hg2 := h2.cel.lt
  have hl2 := hR2.lt
  have r0 := hR2.cell 0
  have r1 := hR2.cell 1
  have r2 := hR2.cell 2
  have r3 := hR2.cell 3
  have r4 := hR2.cell 4
  have r5 := hR2.cell 5
  simp at r0 r1 r2 r3 r4 r5
  simp only [hok.out] at xv
  have t1 : (H != H) = false := by simp
  go_wp2_with fail
  refine wp_region_later (by kernel_rfl) (by kernel_rfl) ?_
  have n0 : ∀ p : Later w2, p.W.cell? ⟨w.heap.size, 0, none⟩ = some (.int .i64 H) := later_cell r0 hl2
  have n1 : ∀ p : Later w2, p.W.cell? ⟨w.heap.size, 1, none⟩ = some (.bool true) := later_cell r1 hl2
  have n2 : ∀ p : Later w2, p.W.cell? ⟨w.heap.size, 2, none⟩ = some (.bool wt) := later_cell r2 hl2
  have n3 : ∀ p : Later w2, p.W.cell? ⟨w.heap.size, 3, none⟩ = some (.bool rt) := later_cell r3 hl2
  have n4 : ∀ p : Later w2, p.W.cell? ⟨w.heap.size, 4, none⟩ = some (.int .i64 bp) := later_cell r4 hl2
  have n5 : ∀ p : Later w2, p.W.cell? ⟨w.heap.size, 5, none⟩ = some (.int .i64 nx) := later_cell r5 hl2
  have n6 : ∀ p : Later w2, p.W.cell? ⟨g, 6, none⟩ = some (.int .i64 H) := later_cell c6 hg2
  clear r0 r1 r2 r3 r4 r5 c6
  repeat (go_big_quiet_step ((go_at_call 45; exact later_of (xv _))))
  refine wpQuiet_nil ?_
  rintro w5 ⟨p5, hp5⟩
  have hbel5 : Below w2.heap.size w2 w5 := by rw [hp5]; exact p5.h
  clear hp5 p5
  have h5 := h2.below hbel5
  have hR5 := Cel.later hR2 hbel5
  have o5 : Only [g] w w5 := only_then o2 (Only.of_below hbel5)
  clear h2 hR2 o2 n0 n1 n2 n3 n4 n5 n6 xv hbel5
  have y0 := hR5.cell 0
  have y1 := hR5.cell 1
  have y2 := hR5.cell 2
  have y3 := hR5.cell 3
  have y4 := hR5.cell 4
  have y5 := hR5.cell 5
  simp at y0 y1 y2 y3 y4 y5
  have f9 := h5.cel.free 9
  have c9 := h5.cel.c9
  have HP := Lib.hid (h5.self (put_only w5 g 9 _) (h5.cel.st 3) rfl (st_ok h5.ok (by decide) (by decide)))
  have HO := Lib.hid (only_put o5 9 (.int .i64 3))
  clear h5 o5 hR5
  dsimp only at c9
  go_wp2
  go_ret
  exact ⟨rfl, ⟨v, HP.out, rfl⟩, (HO.out.more (fun x hx => .inl (by simp [blk] at hx ⊢; exact .inl hx)))⟩

set_option maxRecDepth 100000 in
set_option maxHeartbeats 4000000 in
theorem report_far (wt rt : Bool) (bp nx n : Int) (us : List (List Byte)) (fl fr ac st ct rp tm nw : Int) (w : World) (B g : Nat) (v : Value) (K' H W T R : Int) (s : Fs) (h : FW w B g v K' H W T R s) (hs : adv n s = ⟨us, fl, fr, ac, st, ct, rp, tm, nw⟩) (D : Nat) (hok : Hid (Cw.ok ⟨H, false, wt, rt, bp, nx⟩ = true)) (hD : Hid ((nx - ac) % 256 = (D : Int))) (hf : Hid (fr < (D : Int))) :
    Calls Try.prog 17 #[.pointer (some ⟨g, 0, none⟩), .agg #[.int .i64 H, .bool false, .bool wt, .bool rt, .int .i64 bp, .int .i64 nx], .int .i64 n] w fun e w' => e = .returned (.int .i64 12) ∧ (∃ v', FW w' B g v' K' H W T R ⟨us, fl, fr, ac, 4, ct, rp, tm, nw⟩ ∧ v'.ownBlock = v.ownBlock) ∧ Only (blk g v) w w' := by
  obtain ⟨w1, hw1⟩ : ∃ w1, w1 = w.alloc (.cells #[.int .i64 H, .bool false, .bool wt, .bool rt, .int .i64 bp, .int .i64 nx] 35) := ⟨_, rfl⟩
  have b1 : Below w.heap.size w w1 := by rw [hw1]; exact bel_new _ _
  have hR1 : Cel w1 w.heap.size 35 #[.int .i64 H, .bool false, .bool wt, .bool rt, .int .i64 bp, .int .i64 nx] := by rw [hw1]; exact Cel.new _ _ _
  have h1 := h.below b1
  have hgl := h.cel.lt
  have x1 := fopworks_any w1 B g v K' H W T R s h1
  have x2 := advance_any n w1 B g v K' H W T R s h1
  have xv := fun W => cvalid_any H false wt rt bp nx W
  rw [hs] at x2
  clear hs h h1
  obtain ⟨Q, hQ⟩ : ∃ Q, Q = ac % 256 := ⟨_, rfl⟩
  have hdf : sdist Q nx 8 = (D : Int) := by
    rw [hQ, dist_first (Cw.ok_fits hok.out).2.2.2.2.1 (Cw.ok_fits hok.out).2.2.2.2.2]
    exact hD.out
  have xd := fun W => distance_any Q nx 8 W
  rw [hdf] at xd
  have xf := fun W' hh => first_any W' g v K' H W T R ⟨us, fl, fr, ac, st, ct, rp, tm, nw⟩ hh
  dsimp only at xf
  rw [← hQ] at xf
  clear hQ hdf hD
  go_enter Try.func17, Try.ntmps17
  go_wp2_with fail
  rw [← hw1]
  clear hw1
  refine x1.mono ?_
  rintro e w2 ⟨rfl, rfl⟩
  clear x1
  go_wp2_with fail
  refine x2.mono ?_
  rintro e w2 ⟨rfl, h2, k2⟩
  clear x2
  have o2 : Only [g] w w2 := only_then (Only.of_below b1) k2
  have hR2 := hR1.only k2 (by simp; omega)
  have hbs : w.heap.size ≤ w2.heap.size := Nat.le_trans b1.size k2.size
  clear k2 b1 hR1
  have c6 := h2.cel.c6
  have hg2 := h2.cel.lt
  have hl2 := hR2.lt
  have r0 := hR2.cell 0
  have r1 := hR2.cell 1
  have r2 := hR2.cell 2
  have r3 := hR2.cell 3
  have r4 := hR2.cell 4
  have r5 := hR2.cell 5
  simp at r0 r1 r2 r3 r4 r5
  simp only [hok.out] at xv
  have t1 : (H != H) = false := by simp
  go_wp2_with fail
  refine wp_region_later (by kernel_rfl) (by kernel_rfl) ?_
  have n0 : ∀ p : Later w2, p.W.cell? ⟨w.heap.size, 0, none⟩ = some (.int .i64 H) := later_cell r0 hl2
  have n1 : ∀ p : Later w2, p.W.cell? ⟨w.heap.size, 1, none⟩ = some (.bool false) := later_cell r1 hl2
  have n2 : ∀ p : Later w2, p.W.cell? ⟨w.heap.size, 2, none⟩ = some (.bool wt) := later_cell r2 hl2
  have n3 : ∀ p : Later w2, p.W.cell? ⟨w.heap.size, 3, none⟩ = some (.bool rt) := later_cell r3 hl2
  have n4 : ∀ p : Later w2, p.W.cell? ⟨w.heap.size, 4, none⟩ = some (.int .i64 bp) := later_cell r4 hl2
  have n5 : ∀ p : Later w2, p.W.cell? ⟨w.heap.size, 5, none⟩ = some (.int .i64 nx) := later_cell r5 hl2
  have n6 : ∀ p : Later w2, p.W.cell? ⟨g, 6, none⟩ = some (.int .i64 H) := later_cell c6 hg2
  clear r0 r1 r2 r3 r4 r5 c6
  repeat (go_big_quiet_step ((go_at_call 45; exact later_of (xv _))))
  refine wpQuiet_nil ?_
  rintro w5 ⟨p5, hp5⟩
  have hbel5 : Below w2.heap.size w2 w5 := by rw [hp5]; exact p5.h
  clear hp5 p5
  have h5 := h2.below hbel5
  have hR5 := Cel.later hR2 hbel5
  have o5 : Only [g] w w5 := only_then o2 (Only.of_below hbel5)
  clear h2 hR2 o2 n0 n1 n2 n3 n4 n5 n6 xv hbel5
  have y0 := hR5.cell 0
  have y1 := hR5.cell 1
  have y2 := hR5.cell 2
  have y3 := hR5.cell 3
  have y4 := hR5.cell 4
  have y5 := hR5.cell 5
  simp at y0 y1 y2 y3 y4 y5
  have HF5 := Lib.hid h5
  have zf := fun m => quiet_same (n := m) (xf (w5.drewN m) (HF5.out.cel.draws m))
  have zd := fun m => quiet_same (n := m) (xd (w5.drewN m))
  go_wp2_with fail
  go_quiet ((first | (go_at_call 47; exact zf _) | (go_at_call 46; exact zd _)))
  clear xf xd zf zd y0 y1 y2 y3 y4 y5
  obtain ⟨w6, hw6⟩ : ∃ w6, w6 = w5.drewN nq := ⟨_, rfl⟩
  have h6 : FW w6 B g v K' H W T R ⟨us, fl, fr, ac, st, ct, rp, tm, nw⟩ := by rw [hw6]; exact h5.draws nq
  have hR6 : Cel w6 w.heap.size 35 #[.int .i64 H, .bool false, .bool wt, .bool rt, .int .i64 bp, .int .i64 nx] := by rw [hw6]; exact hR5.draws nq
  have o6 : Only [g] w w6 := by rw [hw6]; exact o5.draws nq
  have hs6 : w5.heap.size ≤ w6.heap.size := by rw [hw6]; exact Nat.le_refl _
  rw [← hw6]
  clear hw6 h5 hR5 o5 HF5
  have d3 := h6.cel.c3
  dsimp only at d3
  have g1 : decide (fr < (D : Int)) = true := by have := hf.out; simpa using this
  have f9 := h6.cel.free 9
  have c9 := h6.cel.c9
  have HP := Lib.hid (h6.self (put_only w6 g 9 _) (h6.cel.st 4) rfl (st_ok h6.ok (by decide) (by decide)))
  have HO := Lib.hid (only_put o6 9 (.int .i64 4))
  clear h6 o6 hR6
  dsimp only at c9
  go_wp2
  go_ret
  exact ⟨rfl, ⟨v, HP.out, rfl⟩, (HO.out.more (fun x hx => .inl (by simp [blk] at hx ⊢; exact .inl hx)))⟩

set_option maxRecDepth 100000 in
set_option maxHeartbeats 4000000 in
theorem report_good_true (wt : Bool) (bp nx n : Int) (us : List (List Byte)) (fl fr ac st ct rp tm nw : Int) (w : World) (B g : Nat) (v : Value) (K' H W T R : Int) (s : Fs) (h : FW w B g v K' H W T R s) (hs : adv n s = ⟨us, fl, fr, ac, st, ct, rp, tm, nw⟩) (D : Nat) (hok : Hid (Cw.ok ⟨H, false, wt, true, bp, nx⟩ = true)) (hD : Hid ((nx - ac) % 256 = (D : Int))) (hf : Hid ((D : Int) ≤ fr)) (ha : Hid (ac ≤ 1099511627776)) :
    Calls Try.prog 17 #[.pointer (some ⟨g, 0, none⟩), .agg #[.int .i64 H, .bool false, .bool wt, .bool true, .int .i64 bp, .int .i64 nx], .int .i64 n] w fun e w' => e = .returned (.int .i64 0) ∧ (∃ v', FW w' B g v' K' H W T R (hld wt (rtx true (prg (D : Int) ⟨us, fl, fr, ac, st, ct, rp, tm, nw⟩))) ∧ v'.ownBlock = v.ownBlock) ∧ Only (blk g v) w w' := by
  obtain ⟨w1, hw1⟩ : ∃ w1, w1 = w.alloc (.cells #[.int .i64 H, .bool false, .bool wt, .bool true, .int .i64 bp, .int .i64 nx] 35) := ⟨_, rfl⟩
  have b1 : Below w.heap.size w w1 := by rw [hw1]; exact bel_new _ _
  have hR1 : Cel w1 w.heap.size 35 #[.int .i64 H, .bool false, .bool wt, .bool true, .int .i64 bp, .int .i64 nx] := by rw [hw1]; exact Cel.new _ _ _
  have h1 := h.below b1
  have hgl := h.cel.lt
  have x1 := fopworks_any w1 B g v K' H W T R s h1
  have x2 := advance_any n w1 B g v K' H W T R s h1
  have xv := fun W => cvalid_any H false wt true bp nx W
  rw [hs] at x2
  clear hs h h1
  obtain ⟨Q, hQ⟩ : ∃ Q, Q = ac % 256 := ⟨_, rfl⟩
  have hdf : sdist Q nx 8 = (D : Int) := by
    rw [hQ, dist_first (Cw.ok_fits hok.out).2.2.2.2.1 (Cw.ok_fits hok.out).2.2.2.2.2]
    exact hD.out
  have xd := fun W => distance_any Q nx 8 W
  rw [hdf] at xd
  have xf := fun W' hh => first_any W' g v K' H W T R ⟨us, fl, fr, ac, st, ct, rp, tm, nw⟩ hh
  dsimp only at xf
  rw [← hQ] at xf
  clear hQ hdf hD
  go_enter Try.func17, Try.ntmps17
  go_wp2_with fail
  rw [← hw1]
  clear hw1
  refine x1.mono ?_
  rintro e w2 ⟨rfl, rfl⟩
  clear x1
  go_wp2_with fail
  refine x2.mono ?_
  rintro e w2 ⟨rfl, h2, k2⟩
  clear x2
  have o2 : Only [g] w w2 := only_then (Only.of_below b1) k2
  have hR2 := hR1.only k2 (by simp; omega)
  have hbs : w.heap.size ≤ w2.heap.size := Nat.le_trans b1.size k2.size
  clear k2 b1 hR1
  have c6 := h2.cel.c6
  have hg2 := h2.cel.lt
  have hl2 := hR2.lt
  have r0 := hR2.cell 0
  have r1 := hR2.cell 1
  have r2 := hR2.cell 2
  have r3 := hR2.cell 3
  have r4 := hR2.cell 4
  have r5 := hR2.cell 5
  simp at r0 r1 r2 r3 r4 r5
  simp only [hok.out] at xv
  have t1 : (H != H) = false := by simp
  go_wp2_with fail
  refine wp_region_later (by kernel_rfl) (by kernel_rfl) ?_
  have n0 : ∀ p : Later w2, p.W.cell? ⟨w.heap.size, 0, none⟩ = some (.int .i64 H) := later_cell r0 hl2
  have n1 : ∀ p : Later w2, p.W.cell? ⟨w.heap.size, 1, none⟩ = some (.bool false) := later_cell r1 hl2
  have n2 : ∀ p : Later w2, p.W.cell? ⟨w.heap.size, 2, none⟩ = some (.bool wt) := later_cell r2 hl2
  have n3 : ∀ p : Later w2, p.W.cell? ⟨w.heap.size, 3, none⟩ = some (.bool true) := later_cell r3 hl2
  have n4 : ∀ p : Later w2, p.W.cell? ⟨w.heap.size, 4, none⟩ = some (.int .i64 bp) := later_cell r4 hl2
  have n5 : ∀ p : Later w2, p.W.cell? ⟨w.heap.size, 5, none⟩ = some (.int .i64 nx) := later_cell r5 hl2
  have n6 : ∀ p : Later w2, p.W.cell? ⟨g, 6, none⟩ = some (.int .i64 H) := later_cell c6 hg2
  clear r0 r1 r2 r3 r4 r5 c6
  repeat (go_big_quiet_step ((go_at_call 45; exact later_of (xv _))))
  refine wpQuiet_nil ?_
  rintro w5 ⟨p5, hp5⟩
  have hbel5 : Below w2.heap.size w2 w5 := by rw [hp5]; exact p5.h
  clear hp5 p5
  have h5 := h2.below hbel5
  have hR5 := Cel.later hR2 hbel5
  have o5 : Only [g] w w5 := only_then o2 (Only.of_below hbel5)
  clear h2 hR2 o2 n0 n1 n2 n3 n4 n5 n6 xv hbel5
  have y0 := hR5.cell 0
  have y1 := hR5.cell 1
  have y2 := hR5.cell 2
  have y3 := hR5.cell 3
  have y4 := hR5.cell 4
  have y5 := hR5.cell 5
  simp at y0 y1 y2 y3 y4 y5
  have HF5 := Lib.hid h5
  have zf := fun m => quiet_same (n := m) (xf (w5.drewN m) (HF5.out.cel.draws m))
  have zd := fun m => quiet_same (n := m) (xd (w5.drewN m))
  go_wp2_with fail
  go_quiet ((first | (go_at_call 47; exact zf _) | (go_at_call 46; exact zd _)))
  clear xf xd zf zd y0 y1 y2 y3 y4 y5
  obtain ⟨w6, hw6⟩ : ∃ w6, w6 = w5.drewN nq := ⟨_, rfl⟩
  have h6 : FW w6 B g v K' H W T R ⟨us, fl, fr, ac, st, ct, rp, tm, nw⟩ := by rw [hw6]; exact h5.draws nq
  have hR6 : Cel w6 w.heap.size 35 #[.int .i64 H, .bool false, .bool wt, .bool true, .int .i64 bp, .int .i64 nx] := by rw [hw6]; exact hR5.draws nq
  have o6 : Only [g] w w6 := by rw [hw6]; exact o5.draws nq
  have hs6 : w5.heap.size ≤ w6.heap.size := by rw [hw6]; exact Nat.le_refl _
  rw [← hw6]
  clear hw6 h5 hR5 o5 HF5
  have d3 := h6.cel.c3
  dsimp only at d3
  have g1 : decide (fr < (D : Int)) = false := by have := hf.out; simpa using this
  have x7 := progress_any D w6 B g v K' H W T R _ h6 (by have := hf.out; dsimp only; omega) ha.out
  have HR6 := Lib.hid hR6
  have hbr : v.ownBlock ≠ some w.heap.size := by
    have := Row.Os.apart h6.row (t := 35) hR6 (by decide)
    exact this
  go_wp2_with fail
  refine x7.mono ?_
  rintro e w7 ⟨rfl, ⟨v8, h7, e8⟩, k7⟩
  have hR7 := HR6.out.only k7 (by
    simp only [blk, List.mem_cons, Option.mem_toList, not_or]
    exact ⟨by omega, hbr⟩)
  have o7 : Only (blk g v) w w7 := only_then (o6.more (fun x hx => .inl (by simp [blk] at hx ⊢; exact .inl hx))) k7
  clear x7 h6 o6 k7 d3 g1 HR6 hR6 hbr
  have y0 := hR7.cell 0
  have y1 := hR7.cell 1
  have y2 := hR7.cell 2
  have y3 := hR7.cell 3
  have y4 := hR7.cell 4
  have y5 := hR7.cell 5
  simp at y0 y1 y2 y3 y4 y5
  go_wp2_with fail
  refine (rewind_any w7 g v8 K' H W T R _ h7.cel).mono ?_
  rintro e w8 ⟨rfl, p8, k8⟩
  have h8 : FW w8 B g v8 K' H W T R (rtx true (prg (D : Int) ⟨us, fl, fr, ac, st, ct, rp, tm, nw⟩)) := h7.self k8 p8 rfl (rtx_ok (b := true) h7.ok)
  have hR8 := hR7.only k8 (by simp; omega)
  have o8 : Only (blk g v) w w8 := only_then o7 (k8.more (fun x hx => .inl (by simp [blk] at hx ⊢; exact .inl hx)))
  clear h7 o7 k8 p8 y0 y1 y2 y3 y4 y5
  have y0 := hR8.cell 0
  have y1 := hR8.cell 1
  have y2 := hR8.cell 2
  have y3 := hR8.cell 3
  have y4 := hR8.cell 4
  have y5 := hR8.cell 5
  simp at y0 y1 y2 y3 y4 y5
  go_wp2_with fail
  refine (hold_any wt _ B g v8 K' H W T R _ h8).mono ?_
  rintro e w9 ⟨rfl, h9, k9⟩
  have o9 : Only (blk g v) w w9 := only_then o8 (k9.more (fun x hx => .inl (by simp [blk] at hx ⊢; exact .inl hx)))
  clear h8 o8 k9
  go_wp2
  go_ret
  exact ⟨rfl, ⟨v8, h9, e8⟩, o9⟩

set_option maxRecDepth 100000 in
set_option maxHeartbeats 4000000 in
theorem report_good_false (wt : Bool) (bp nx n : Int) (us : List (List Byte)) (fl fr ac st ct rp tm nw : Int) (w : World) (B g : Nat) (v : Value) (K' H W T R : Int) (s : Fs) (h : FW w B g v K' H W T R s) (hs : adv n s = ⟨us, fl, fr, ac, st, ct, rp, tm, nw⟩) (D : Nat) (hok : Hid (Cw.ok ⟨H, false, wt, false, bp, nx⟩ = true)) (hD : Hid ((nx - ac) % 256 = (D : Int))) (hf : Hid ((D : Int) ≤ fr)) (ha : Hid (ac ≤ 1099511627776)) :
    Calls Try.prog 17 #[.pointer (some ⟨g, 0, none⟩), .agg #[.int .i64 H, .bool false, .bool wt, .bool false, .int .i64 bp, .int .i64 nx], .int .i64 n] w fun e w' => e = .returned (.int .i64 0) ∧ (∃ v', FW w' B g v' K' H W T R (hld wt (rtx false (prg (D : Int) ⟨us, fl, fr, ac, st, ct, rp, tm, nw⟩))) ∧ v'.ownBlock = v.ownBlock) ∧ Only (blk g v) w w' := by
  obtain ⟨w1, hw1⟩ : ∃ w1, w1 = w.alloc (.cells #[.int .i64 H, .bool false, .bool wt, .bool false, .int .i64 bp, .int .i64 nx] 35) := ⟨_, rfl⟩
  have b1 : Below w.heap.size w w1 := by rw [hw1]; exact bel_new _ _
  have hR1 : Cel w1 w.heap.size 35 #[.int .i64 H, .bool false, .bool wt, .bool false, .int .i64 bp, .int .i64 nx] := by rw [hw1]; exact Cel.new _ _ _
  have h1 := h.below b1
  have hgl := h.cel.lt
  have x1 := fopworks_any w1 B g v K' H W T R s h1
  have x2 := advance_any n w1 B g v K' H W T R s h1
  have xv := fun W => cvalid_any H false wt false bp nx W
  rw [hs] at x2
  clear hs h h1
  obtain ⟨Q, hQ⟩ : ∃ Q, Q = ac % 256 := ⟨_, rfl⟩
  have hdf : sdist Q nx 8 = (D : Int) := by
    rw [hQ, dist_first (Cw.ok_fits hok.out).2.2.2.2.1 (Cw.ok_fits hok.out).2.2.2.2.2]
    exact hD.out
  have xd := fun W => distance_any Q nx 8 W
  rw [hdf] at xd
  have xf := fun W' hh => first_any W' g v K' H W T R ⟨us, fl, fr, ac, st, ct, rp, tm, nw⟩ hh
  dsimp only at xf
  rw [← hQ] at xf
  clear hQ hdf hD
  go_enter Try.func17, Try.ntmps17
  go_wp2_with fail
  rw [← hw1]
  clear hw1
  refine x1.mono ?_
  rintro e w2 ⟨rfl, rfl⟩
  clear x1
  go_wp2_with fail
  refine x2.mono ?_
  rintro e w2 ⟨rfl, h2, k2⟩
  clear x2
  have o2 : Only [g] w w2 := only_then (Only.of_below b1) k2
  have hR2 := hR1.only k2 (by simp; omega)
  have hbs : w.heap.size ≤ w2.heap.size := Nat.le_trans b1.size k2.size
  clear k2 b1 hR1
  have c6 := h2.cel.c6
  have hg2 := h2.cel.lt
  have hl2 := hR2.lt
  have r0 := hR2.cell 0
  have r1 := hR2.cell 1
  have r2 := hR2.cell 2
  have r3 := hR2.cell 3
  have r4 := hR2.cell 4
  have r5 := hR2.cell 5
  simp at r0 r1 r2 r3 r4 r5
  simp only [hok.out] at xv
  have t1 : (H != H) = false := by simp
  go_wp2_with fail
  refine wp_region_later (by kernel_rfl) (by kernel_rfl) ?_
  have n0 : ∀ p : Later w2, p.W.cell? ⟨w.heap.size, 0, none⟩ = some (.int .i64 H) := later_cell r0 hl2
  have n1 : ∀ p : Later w2, p.W.cell? ⟨w.heap.size, 1, none⟩ = some (.bool false) := later_cell r1 hl2
  have n2 : ∀ p : Later w2, p.W.cell? ⟨w.heap.size, 2, none⟩ = some (.bool wt) := later_cell r2 hl2
  have n3 : ∀ p : Later w2, p.W.cell? ⟨w.heap.size, 3, none⟩ = some (.bool false) := later_cell r3 hl2
  have n4 : ∀ p : Later w2, p.W.cell? ⟨w.heap.size, 4, none⟩ = some (.int .i64 bp) := later_cell r4 hl2
  have n5 : ∀ p : Later w2, p.W.cell? ⟨w.heap.size, 5, none⟩ = some (.int .i64 nx) := later_cell r5 hl2
  have n6 : ∀ p : Later w2, p.W.cell? ⟨g, 6, none⟩ = some (.int .i64 H) := later_cell c6 hg2
  clear r0 r1 r2 r3 r4 r5 c6
  repeat (go_big_quiet_step ((go_at_call 45; exact later_of (xv _))))
  refine wpQuiet_nil ?_
  rintro w5 ⟨p5, hp5⟩
  have hbel5 : Below w2.heap.size w2 w5 := by rw [hp5]; exact p5.h
  clear hp5 p5
  have h5 := h2.below hbel5
  have hR5 := Cel.later hR2 hbel5
  have o5 : Only [g] w w5 := only_then o2 (Only.of_below hbel5)
  clear h2 hR2 o2 n0 n1 n2 n3 n4 n5 n6 xv hbel5
  have y0 := hR5.cell 0
  have y1 := hR5.cell 1
  have y2 := hR5.cell 2
  have y3 := hR5.cell 3
  have y4 := hR5.cell 4
  have y5 := hR5.cell 5
  simp at y0 y1 y2 y3 y4 y5
  have HF5 := Lib.hid h5
  have zf := fun m => quiet_same (n := m) (xf (w5.drewN m) (HF5.out.cel.draws m))
  have zd := fun m => quiet_same (n := m) (xd (w5.drewN m))
  go_wp2_with fail
  go_quiet ((first | (go_at_call 47; exact zf _) | (go_at_call 46; exact zd _)))
  clear xf xd zf zd y0 y1 y2 y3 y4 y5
  obtain ⟨w6, hw6⟩ : ∃ w6, w6 = w5.drewN nq := ⟨_, rfl⟩
  have h6 : FW w6 B g v K' H W T R ⟨us, fl, fr, ac, st, ct, rp, tm, nw⟩ := by rw [hw6]; exact h5.draws nq
  have hR6 : Cel w6 w.heap.size 35 #[.int .i64 H, .bool false, .bool wt, .bool false, .int .i64 bp, .int .i64 nx] := by rw [hw6]; exact hR5.draws nq
  have o6 : Only [g] w w6 := by rw [hw6]; exact o5.draws nq
  have hs6 : w5.heap.size ≤ w6.heap.size := by rw [hw6]; exact Nat.le_refl _
  rw [← hw6]
  clear hw6 h5 hR5 o5 HF5
  have d3 := h6.cel.c3
  dsimp only at d3
  have g1 : decide (fr < (D : Int)) = false := by have := hf.out; simpa using this
  have x7 := progress_any D w6 B g v K' H W T R _ h6 (by have := hf.out; dsimp only; omega) ha.out
  have HR6 := Lib.hid hR6
  have hbr : v.ownBlock ≠ some w.heap.size := by
    have := Row.Os.apart h6.row (t := 35) hR6 (by decide)
    exact this
  go_wp2_with fail
  refine x7.mono ?_
  rintro e w7 ⟨rfl, ⟨v8, h7, e8⟩, k7⟩
  have hR7 := HR6.out.only k7 (by
    simp only [blk, List.mem_cons, Option.mem_toList, not_or]
    exact ⟨by omega, hbr⟩)
  have o7 : Only (blk g v) w w7 := only_then (o6.more (fun x hx => .inl (by simp [blk] at hx ⊢; exact .inl hx))) k7
  clear x7 h6 o6 k7 d3 g1 HR6 hR6 hbr
  have y0 := hR7.cell 0
  have y1 := hR7.cell 1
  have y2 := hR7.cell 2
  have y3 := hR7.cell 3
  have y4 := hR7.cell 4
  have y5 := hR7.cell 5
  simp at y0 y1 y2 y3 y4 y5
  have h8 : FW w7 B g v8 K' H W T R (rtx false (prg (D : Int) ⟨us, fl, fr, ac, st, ct, rp, tm, nw⟩)) := h7
  have o8 := o7
  clear h7 o7
  go_wp2_with fail
  refine (hold_any wt _ B g v8 K' H W T R _ h8).mono ?_
  rintro e w9 ⟨rfl, h9, k9⟩
  have o9 : Only (blk g v) w w9 := only_then o8 (k9.more (fun x hx => .inl (by simp [blk] at hx ⊢; exact .inl hx)))
  clear h8 o8 k9
  go_wp2
  go_ret
  exact ⟨rfl, ⟨v8, h9, e8⟩, o9⟩

theorem report_any (ch : Int) (lk wt rt : Bool) (bp nx n : Int) (w : World) (B g : Nat) (v : Value) (K H W T R : Int) (s : Fs) (h : FW w B g v K H W T R s) (ha : s.ac ≤ 1099511627776) :
    Calls Try.prog 17 #[.pointer (some ⟨g, 0, none⟩), .agg #[.int .i64 ch, .bool lk, .bool wt, .bool rt, .int .i64 bp, .int .i64 nx], .int .i64 n] w fun e w' => e = .returned (.int .i64 (rpt H ⟨ch, lk, wt, rt, bp, nx⟩ n s).1) ∧ (∃ v', FW w' B g v' K H W T R (rpt H ⟨ch, lk, wt, rt, bp, nx⟩ n s).2 ∧ v'.ownBlock = v.ownBlock) ∧ Only (blk g v) w w' := by
  unfold rpt
  have ha1 : (adv n s).ac ≤ 1099511627776 := by rw [adv_ac]; exact ha
  obtain ⟨s1, hs1⟩ : ∃ s1, adv n s = s1 := ⟨_, rfl⟩
  rw [hs1] at ha1 ⊢
  obtain ⟨us, fl, fr, ac, st, ct, rp, tm, nw⟩ := s1
  cases hok : Cw.ok ⟨ch, lk, wt, rt, bp, nx⟩ with
  | false =>
    have e : rpc H ⟨ch, lk, wt, rt, bp, nx⟩ ⟨us, fl, fr, ac, st, ct, rp, tm, nw⟩ = (1, ⟨us, fl, fr, ac, st, ct, rp, tm, nw⟩) := by unfold rpc; rw [if_pos (.inl hok)]
    rw [e]
    exact report_form ch lk wt rt bp nx n us fl fr ac st ct rp tm nw w B g v K H W T R s h hs1 (Lib.hid hok)
  | true =>
    by_cases hch : ch = H
    · subst hch
      have hn : ¬ (Cw.ok ⟨ch, lk, wt, rt, bp, nx⟩ = false ∨ (⟨ch, lk, wt, rt, bp, nx⟩ : Cw).ch ≠ ch) := by rw [hok]; simp
      cases lk with
      | true =>
        have e : rpc ch ⟨ch, true, wt, rt, bp, nx⟩ ⟨us, fl, fr, ac, st, ct, rp, tm, nw⟩ = (14, ⟨us, fl, fr, ac, 3, ct, rp, tm, nw⟩) := by unfold rpc; rw [if_neg hn]; rfl
        rw [e]
        exact report_lock wt rt bp nx n us fl fr ac st ct rp tm nw w B g v K ch W T R s h hs1 (Lib.hid hok)
      | false =>
        obtain ⟨D, hD⟩ : ∃ D : Nat, (nx - ac) % 256 = (D : Int) := ⟨((nx - ac) % 256).toNat, by omega⟩
        by_cases hf : fr < (D : Int)
        · have e : rpc ch ⟨ch, false, wt, rt, bp, nx⟩ ⟨us, fl, fr, ac, st, ct, rp, tm, nw⟩ = (12, ⟨us, fl, fr, ac, 4, ct, rp, tm, nw⟩) := by
            unfold rpc; rw [if_neg hn]; unfold rpd; dsimp only; rw [hD, if_pos hf]; rfl
          rw [e]
          exact report_far wt rt bp nx n us fl fr ac st ct rp tm nw w B g v K ch W T R s h hs1 D (Lib.hid hok) (Lib.hid hD) (Lib.hid hf)
        · have e : rpc ch ⟨ch, false, wt, rt, bp, nx⟩ ⟨us, fl, fr, ac, st, ct, rp, tm, nw⟩ = (0, hld wt (rtx rt (prg (D : Int) ⟨us, fl, fr, ac, st, ct, rp, tm, nw⟩))) := by
            unfold rpc; rw [if_neg hn]; unfold rpd; dsimp only; rw [hD, if_neg hf]; rfl
          rw [e]
          cases rt
          · exact report_good_false wt bp nx n us fl fr ac st ct rp tm nw w B g v K ch W T R s h hs1 D (Lib.hid hok) (Lib.hid hD) (Lib.hid (Int.not_lt.1 hf)) (Lib.hid ha1)
          · exact report_good_true wt bp nx n us fl fr ac st ct rp tm nw w B g v K ch W T R s h hs1 D (Lib.hid hok) (Lib.hid hD) (Lib.hid (Int.not_lt.1 hf)) (Lib.hid ha1)
    · have e : rpc H ⟨ch, lk, wt, rt, bp, nx⟩ ⟨us, fl, fr, ac, st, ct, rp, tm, nw⟩ = (1, ⟨us, fl, fr, ac, st, ct, rp, tm, nw⟩) := by unfold rpc; rw [if_pos (.inr hch)]
      rw [e]
      exact report_chan ch lk wt rt bp nx n us fl fr ac st ct rp tm nw w B g v K H W T R s h hs1 (Lib.hid hok) (Lib.hid hch)

/-! ### a sending end that is none -/
set_option maxHeartbeats 1000000 in
theorem next_dead (n : Int) (w : World) (p : Option Addr) (h : Dead w p) :
    Calls Try.prog 14 #[.pointer p, .int .i64 n] w fun e w' => e = .returned (.tuple #[.agg #[.bool false, .bool false, .int .i64 0, .int .i64 0, .int .i64 0, .slice none 0 0], .bool false]) ∧ Below w.heap.size w w' := by
  obtain ⟨w1, hw1⟩ : ∃ w1, w1 = w.alloc (.cells #[.bool false, .bool false, .int .i64 0, .int .i64 0, .int .i64 0, .slice none 0 0] 43) := ⟨_, rfl⟩
  have b1 : Below w.heap.size w w1 := by rw [hw1]; exact bel_new _ _
  have hR1 : Cel w1 w.heap.size 43 #[.bool false, .bool false, .int .i64 0, .int .i64 0, .int .i64 0, .slice none 0 0] := by rw [hw1]; exact Cel.new _ _ _
  have x1 := fopworks_dead w1 p (h.below b1)
  have r0 := hR1.cell 0
  have r1 := hR1.cell 1
  have r2 := hR1.cell 2
  have r3 := hR1.cell 3
  have r4 := hR1.cell 4
  have r5 := hR1.cell 5
  simp at r0 r1 r2 r3 r4 r5
  have k0 := hR1.free 0
  have k1 := hR1.free 1
  have k2 := hR1.free 2
  have k3 := hR1.free 3
  have k4 := hR1.free 4
  have k5 := hR1.free 5
  clear h
  go_enter Try.func14, Try.ntmps14
  go_wp2_with fail
  rw [← hw1]
  clear hw1
  refine x1.mono ?_
  rintro e w2 ⟨rfl, rfl⟩
  clear x1
  go_wp2
  exact bodyPost_ret (nx_results rfl rfl (put6_cel hR1 (.bool false) (.bool false) (.int .i64 0) (.int .i64 0) (.int .i64 0) (.slice none 0 0))) rfl ⟨rfl, put6_below b1 (Nat.le_refl _) _ _ _ _ _ _⟩
set_option maxHeartbeats 400000 in
theorem report_dead (ch : Int) (lk wt rt : Bool) (bp nx n : Int) (w : World) (p : Option Addr) (h : Dead w p) :
    Calls Try.prog 17 #[.pointer p, .agg #[.int .i64 ch, .bool lk, .bool wt, .bool rt, .int .i64 bp, .int .i64 nx], .int .i64 n] w fun e w' => e = .returned (.int .i64 2) ∧ Below w.heap.size w w' := by
  have x1 := fopworks_dead _ p (h.below (bel_new w (.cells #[.int .i64 ch, .bool lk, .bool wt, .bool rt, .int .i64 bp, .int .i64 nx] 35)))
  clear h
  go_enter Try.func17, Try.ntmps17
  go_wp2_with fail
  refine x1.mono ?_
  rintro e w2 ⟨rfl, rfl⟩
  go_wp2
  go_ret
  exact ⟨rfl, bel_new _ _⟩
set_option maxHeartbeats 400000 in
theorem send_dead (a : Option Addr) (n c : Nat) (w : World) (p : Option Addr) (h : Dead w p) :
    Calls Try.prog 12 #[.pointer p, .slice a n c] w fun e w' => e = .returned (.int .i64 2) ∧ w = w' := by
  have x1 := fopworks_dead w p h
  clear h
  go_enter Try.func12, Try.ntmps12
  go_wp2_with fail
  refine x1.mono ?_
  rintro e w2 ⟨rfl, rfl⟩
  go_wp2
  go_ret
  exact ⟨rfl, rfl⟩
set_option maxHeartbeats 400000 in
theorem unlock_dead (n : Int) (w : World) (p : Option Addr) (h : Dead w p) :
    Calls Try.prog 19 #[.pointer p, .int .i64 n] w fun e w' => e = .returned (.int .i64 2) ∧ w = w' := by
  have x1 := fopworks_dead w p h
  clear h
  go_enter Try.func19, Try.ntmps19
  go_wp2_with fail
  refine x1.mono ?_
  rintro e w2 ⟨rfl, rfl⟩
  go_wp2
  go_ret
  exact ⟨rfl, rfl⟩
set_option maxHeartbeats 400000 in
theorem state_dead (w : World) (p : Option Addr) (h : Dead w p) :
    Calls Try.prog 22 #[.pointer p] w fun e w' => e = .returned (.int .i64 0) ∧ w = w' := by
  have x1 := fopworks_dead w p h
  clear h
  go_enter Try.func22, Try.ntmps22
  go_wp2_with fail
  refine x1.mono ?_
  rintro e w2 ⟨rfl, rfl⟩
  go_wp2
  go_ret
  exact ⟨rfl, rfl⟩
set_option maxHeartbeats 400000 in
theorem queued_dead (w : World) (p : Option Addr) (h : Dead w p) :
    Calls Try.prog 23 #[.pointer p] w fun e w' => e = .returned (.int .i64 0) ∧ w = w' := by
  have x1 := fopworks_dead w p h
  clear h
  go_enter Try.func23, Try.ntmps23
  go_wp2_with fail
  refine x1.mono ?_
  rintro e w2 ⟨rfl, rfl⟩
  go_wp2
  go_ret
  exact ⟨rfl, rfl⟩
set_option maxHeartbeats 400000 in
theorem acked_dead (w : World) (p : Option Addr) (h : Dead w p) :
    Calls Try.prog 24 #[.pointer p] w fun e w' => e = .returned (.int .i64 0) ∧ w = w' := by
  have x1 := fopworks_dead w p h
  clear h
  go_enter Try.func24, Try.ntmps24
  go_wp2_with fail
  refine x1.mono ?_
  rintro e w2 ⟨rfl, rfl⟩
  go_wp2
  go_ret
  exact ⟨rfl, rfl⟩
set_option maxHeartbeats 400000 in
theorem fclone_dead (w : World) (p : Option Addr) (h : Dead w p) :
    Calls Try.prog 21 #[.pointer p] w fun e w' => e = .returned (.pointer none) ∧ w = w' := by
  have x1 := fopworks_dead w p h
  clear h
  go_enter Try.func21, Try.ntmps21
  go_wp2_with fail
  refine x1.mono ?_
  rintro e w2 ⟨rfl, rfl⟩
  go_wp2
  go_ret
  exact ⟨rfl, rfl⟩
end Go.Proofs.Ytdpjjhbfhlmolaa.Fop

/-
  The walks of bytes.Equal, bytes.HasPrefix and bytes.CutPrefix at a prefix of two bytes, and of package tcframe's Directive.
-/
namespace Go.Proofs.Ytdpjjhbfhlmolaa.Tcf
open Go.RowKit Go.Proofs.Ytdpjjhbfhlmolaa.Pac

set_option maxHeartbeats 400000 in
theorem equal_any (a p : Option Addr) (l q : List Byte) (n m c k : Nat) (B B' : Nat) (w : World) (hl : Hid (l.length = n)) (hq : Hid (q.length = m)) (hb : Bs w B a l) (hp : Bs w B' p q) (hn : a = none → c = 0) (hk : p = none → k = 0) :
    Calls Try.prog 73 #[.slice a n c, .slice p m k] w fun e w' => e = .returned (.bool (decide (l = q))) ∧ w = w' := by
  have s1 := run_str (P := Try.prog) w is_bytes Try.underlying9 hb hn
  have s2 := run_str (P := Try.prog) w is_bytes Try.underlying9 hp hk
  rw [hl.out] at s1
  rw [hq.out] at s2
  have h1 := str_beq l q
  go_enter Try.func73, Try.ntmps73
  go_wp2
  go_ret
  exact ⟨rfl, rfl⟩

set_option maxHeartbeats 400000 in
theorem hasPrefix_no (a p : Option Addr) (n c k : Nat) (w : World) (h : n < 2) :
    Calls Try.prog 72 #[.slice a n c, .slice p 2 k] w fun e w' => e = .returned (.bool false) ∧ w = w' := by
  have g1 : decide ((2 : Int) ≤ (n : Int)) = false := by simp; omega
  have g2 : decide (2 ≤ n) = false := by simp; omega
  clear h
  go_enter Try.func72, Try.ntmps72
  go_wp2
  go_ret
  exact ⟨rfl, rfl⟩
set_option maxHeartbeats 400000 in
theorem hasPrefix_yes (a p : Option Addr) (l q : List Byte) (n c k : Nat) (B B' : Nat) (w : World) (hl : Hid (l.length = n)) (hq : Hid (q.length = 2)) (hb : Bs w B a l) (hp : Bs w B' p q) (hn : a = none → c = 0) (hk : p = none → k = 0) (h : 2 ≤ n) (hnc : n ≤ c) :
    Calls Try.prog 72 #[.slice a n c, .slice p 2 k] w fun e w' => e = .returned (.bool (decide (l.take 2 = q))) ∧ w = w' := by
  have g1 : decide ((2 : Int) ≤ (n : Int)) = true := by simp; omega
  have g2 : decide (2 ≤ n) = true := by simp; omega
  have g3 : (2 : Int) ≤ (c : Int) := by omega
  have hl2 : Hid ((l.take 2).length = 2) := by show _ = _; rw [List.length_take]; have := hl.out; omega
  have he := equal_any a p (l.take 2) q 2 2 c k B B' w hl2 hq (hb.take 2) hp hn hk
  obtain ⟨r, hr⟩ : ∃ r, r = decide (l.take 2 = q) := ⟨_, rfl⟩
  rw [← hr] at he ⊢
  clear h hr hl2
  go_enter Try.func72, Try.ntmps72
  go_wp2_with fail
  refine he.mono ?_
  rintro e w' ⟨rfl, rfl⟩
  go_wp2
  go_ret
  exact ⟨ret_bool (by simp), rfl⟩

set_option maxHeartbeats 400000 in
theorem cutPrefix_no (a p : Option Addr) (l q : List Byte) (n c k : Nat) (B B' : Nat) (w : World) (hl : Hid (l.length = n)) (hq : Hid (q.length = 2)) (hb : Bs w B a l) (hp : Bs w B' p q) (hn : a = none → c = 0) (hk : p = none → k = 0) (hnc : n ≤ c) (h : ¬ (2 ≤ n ∧ l.take 2 = q)) :
    Calls Try.prog 71 #[.slice a n c, .slice p 2 k] w fun e w' => e = .returned (.tuple #[.slice a n c, .bool false]) ∧ w = w' := by
  have hx : Calls Try.prog 72 #[.slice a n c, .slice p 2 k] w fun e w' => e = .returned (.bool false) ∧ w = w' := by
    by_cases h2 : 2 ≤ n
    · have := hasPrefix_yes a p l q n c k B B' w hl hq hb hp hn hk h2 hnc
      rw [decide_eq_false (fun e => h ⟨h2, e⟩)] at this
      exact this
    · exact hasPrefix_no a p n c k w (by omega)
  clear h hnc hl hq hb hp hn hk
  go_enter Try.func71, Try.ntmps71
  go_wp2_with fail
  refine hx.mono ?_
  rintro e w' ⟨rfl, rfl⟩
  go_wp2
  go_ret2
  exact ⟨rfl, rfl⟩
set_option maxHeartbeats 400000 in
theorem cutPrefix_yes (b off : Nat) (p : Option Addr) (l q : List Byte) (n c k m : Nat) (B B' : Nat) (w : World) (hl : Hid (l.length = n)) (hq : Hid (q.length = 2)) (hb : Bs w B (some ⟨b, off, none⟩) l) (hp : Bs w B' p q) (hk : p = none → k = 0) (hnc : n ≤ c) (h2 : n = m + 2) (h : l.take 2 = q) :
    Calls Try.prog 71 #[.slice (some ⟨b, off, none⟩) n c, .slice p 2 k] w fun e w' => (∃ A, e = .returned (.tuple #[.slice A m (c - 2), .bool true]) ∧ (0 < m → A = some ⟨b, off + 2, none⟩)) ∧ w = w' := by
  have hx := hasPrefix_yes (some ⟨b, off, none⟩) p l q n c k B B' w hl hq hb hp (fun h => nomatch h) hk (by omega) hnc
  rw [decide_eq_true h] at hx
  obtain ⟨A, hA⟩ : ∃ A, (if c = 2 then (some ⟨b, off, none⟩ : Option Addr) else some ⟨b, off + 2, none⟩) = A := ⟨_, rfl⟩
  have HA : Hid (0 < m → A = some ⟨b, off + 2, none⟩) := by
    show _ → _
    intro h0
    rw [← hA, if_neg (by omega)]
  have q1 : n - 2 = m := by omega
  have q2 : (2 : Int) ≤ (n : Int) := by omega
  have q3 : (n : Int) ≤ (c : Int) := by omega
  obtain ⟨c2, hc2⟩ : ∃ c2, c - 2 = c2 := ⟨_, rfl⟩
  rw [hc2]
  clear h h2 hnc hl hq hb hp hk
  go_enter Try.func71, Try.ntmps71
  go_wp2_with fail
  refine hx.mono ?_
  rintro e w' ⟨rfl, rfl⟩
  go_wp2
  go_ret2
  exact ⟨⟨A, rfl, HA.out⟩, rfl⟩

set_option maxHeartbeats 400000 in
theorem tdir_noByp (con : Bool) (cr ch sq : Int) (a : Option Addr) (n c : Nat) (w : World) :
    Calls Try.prog 68 #[.agg #[.bool false, .bool con, .int .i64 cr, .int .i64 ch, .int .i64 sq, .slice a n c]] w fun e w' => e = .returned (.tuple #[.int .i64 0, .int .i64 0, .bool false]) ∧ Below w.heap.size w w' := by
  go_enter Try.func68, Try.ntmps68
  go_wp2
  go_ret3
  exact ⟨rfl, bel_new _ _⟩

set_option maxHeartbeats 400000 in
theorem tdir_noCon (cr ch sq : Int) (a : Option Addr) (n c : Nat) (w : World) :
    Calls Try.prog 68 #[.agg #[.bool true, .bool false, .int .i64 cr, .int .i64 ch, .int .i64 sq, .slice a n c]] w fun e w' => e = .returned (.tuple #[.int .i64 0, .int .i64 0, .bool false]) ∧ Below w.heap.size w w' := by
  go_enter Try.func68, Try.ntmps68
  go_wp2
  go_ret3
  exact ⟨rfl, bel_new _ _⟩

set_option maxHeartbeats 1000000 in
theorem tdir_unlock (cr ch sq : Int) (a : Option Addr) (l : List Byte) (n c : Nat) (w : World) (hD : Rd w a l n c) (hd : l = [0#8]) :
    Calls Try.prog 68 #[.agg #[.bool true, .bool true, .int .i64 cr, .int .i64 ch, .int .i64 sq, .slice a n c]] w fun e w' => e = .returned (.tuple #[.int .i64 0, .int .i64 0, .bool true]) ∧ Below w.heap.size w w' := by
  obtain ⟨hl, hb, hn, hnc, hcm⟩ := hD
  obtain ⟨W0, hW0⟩ : ∃ W0, W0 = w.alloc (.cells #[.bool true, .bool true, .int .i64 cr, .int .i64 ch, .int .i64 sq, .slice a n c] 43) := ⟨_, rfl⟩
  have b0 : Below w.heap.size w W0 := by rw [hW0]; exact bel_new _ _
  have s0 : W0.heap.size = w.heap.size + 1 := by rw [hW0]; simp
  have hbb := (hb.below b0)
  have s1 := run_str (P := Try.prog) W0 is_bytes Try.underlying9 hbb hn
  rw [hl, hW0] at s1
  subst hd
  have e1 : ((str [0#8]).toList == [0]) = true := by decide +kernel
  rw [hW0] at b0
  clear hW0 s0 hbb hl hb hn hnc hcm
  go_enter Try.func68, Try.ntmps68
  go_wp2
  go_ret3
  exact ⟨rfl, b0⟩

set_option maxHeartbeats 1000000 in
theorem tdir_no (cr ch sq : Int) (a : Option Addr) (l : List Byte) (n c : Nat) (w : World) (hD : Rd w a l n c) (hd : l ≠ [0#8]) (hx : ¬ (2 ≤ n ∧ l.take 2 = [130#8, 0#8])) :
    Calls Try.prog 68 #[.agg #[.bool true, .bool true, .int .i64 cr, .int .i64 ch, .int .i64 sq, .slice a n c]] w fun e w' => e = .returned (.tuple #[.int .i64 0, .int .i64 0, .bool false]) ∧ Below w.heap.size w w' := by
  obtain ⟨hl, hb, hn, hnc, hcm⟩ := hD
  obtain ⟨W0, hW0⟩ : ∃ W0, W0 = w.alloc (.cells #[.bool true, .bool true, .int .i64 cr, .int .i64 ch, .int .i64 sq, .slice a n c] 43) := ⟨_, rfl⟩
  have b0 : Below w.heap.size w W0 := by rw [hW0]; exact bel_new _ _
  have s0 : W0.heap.size = w.heap.size + 1 := by rw [hW0]; simp
  have hbb := (hb.below b0)
  have s1 := run_str (P := Try.prog) W0 is_bytes Try.underlying9 hbb hn
  rw [hl, hW0] at s1
  have e1 : ((str l).toList == [0]) = false := by
    have h1 := str_beq l [0#8]
    have h2 : (str [0#8]).toList = [0] := by decide +kernel
    rw [decide_eq_false hd, h2] at h1
    exact h1
  have kc : (convert 33 33 (.slice (some ⟨w.heap.size + 1, 0, none⟩) 2 2)).run Try.prog ((w.alloc (.cells #[.bool true, .bool true, .int .i64 cr, .int .i64 ch, .int .i64 sq, .slice a n c] 43)).alloc (.cells #[.int .u8 130, .int .u8 0] 5)) = .ok (.slice (some ⟨w.heap.size + 1, 0, none⟩) 2 2) ((w.alloc (.cells #[.bool true, .bool true, .int .i64 cr, .int .i64 ch, .int .i64 sq, .slice a n c] 43)).alloc (.cells #[.int .u8 130, .int .u8 0] 5 (2, 3))) := by
    have h := Lib.run_convert_bytes_const (P := Try.prog) (w.alloc (.cells #[.bool true, .bool true, .int .i64 cr, .int .i64 ch, .int .i64 sq, .slice a n c] 43)) 33 5 #[.int .u8 130, .int .u8 0] 2 2 Try.underlying33 Try.underlying5
    rw [show (w.alloc (.cells #[.bool true, .bool true, .int .i64 cr, .int .i64 ch, .int .i64 sq, .slice a n c] 43)).heap.size = w.heap.size + 1 by simp] at h
    exact h
  have hp : Bs (W0.alloc (.cells #[.int .u8 130, .int .u8 0] 5 (2, 3))) (w.heap.size + 2) (some ⟨w.heap.size + 1, 0, none⟩) [130#8, 0#8] := by
    rw [← s0]; exact Bs_new _ _ _ _ (by simp) _ (by omega) _
  have b1 : Below w.heap.size w (W0.alloc (.cells #[.int .u8 130, .int .u8 0] 5 (2, 3))) := b0.alloc b0.size _
  have hb1 := hb.below b1
  have hcut := cutPrefix_no a (some ⟨w.heap.size + 1, 0, none⟩) l [130#8, 0#8] n c 2 _ _ _ (Lib.hid hl) (Lib.hid rfl) hb1 hp hn (fun h => nomatch h) hnc hx
  rw [hW0] at hcut b1
  clear hW0 s0 hbb hl hb hn hnc hcm hd hx hp hb1 b0
  go_enter Try.func68, Try.ntmps68
  go_wp2_with fail
  refine hcut.mono ?_
  rintro e w' ⟨rfl, rfl⟩
  go_wp2
  go_ret3
  exact ⟨rfl, b1⟩

set_option maxHeartbeats 1000000 in
theorem tdir_long (cr ch sq : Int) (a : Option Addr) (l : List Byte) (n c : Nat) (w : World) (hD : Rd w a l n c) (hd : l ≠ [0#8]) (hx : l.take 2 = [130#8, 0#8]) (m : Nat) (hnm : n = m + 2) (hm : m ≠ 1) :
    Calls Try.prog 68 #[.agg #[.bool true, .bool true, .int .i64 cr, .int .i64 ch, .int .i64 sq, .slice a n c]] w fun e w' => e = .returned (.tuple #[.int .i64 0, .int .i64 0, .bool false]) ∧ Below w.heap.size w w' := by
  obtain ⟨hl, hb, hn, hnc, hcm⟩ := hD
  obtain ⟨W0, hW0⟩ : ∃ W0, W0 = w.alloc (.cells #[.bool true, .bool true, .int .i64 cr, .int .i64 ch, .int .i64 sq, .slice a n c] 43) := ⟨_, rfl⟩
  have b0 : Below w.heap.size w W0 := by rw [hW0]; exact bel_new _ _
  have s0 : W0.heap.size = w.heap.size + 1 := by rw [hW0]; simp
  have hbb := (hb.below b0)
  have s1 := run_str (P := Try.prog) W0 is_bytes Try.underlying9 hbb hn
  rw [hl, hW0] at s1
  have e1 : ((str l).toList == [0]) = false := by
    have h1 := str_beq l [0#8]
    have h2 : (str [0#8]).toList = [0] := by decide +kernel
    rw [decide_eq_false hd, h2] at h1
    exact h1
  have kc : (convert 33 33 (.slice (some ⟨w.heap.size + 1, 0, none⟩) 2 2)).run Try.prog ((w.alloc (.cells #[.bool true, .bool true, .int .i64 cr, .int .i64 ch, .int .i64 sq, .slice a n c] 43)).alloc (.cells #[.int .u8 130, .int .u8 0] 5)) = .ok (.slice (some ⟨w.heap.size + 1, 0, none⟩) 2 2) ((w.alloc (.cells #[.bool true, .bool true, .int .i64 cr, .int .i64 ch, .int .i64 sq, .slice a n c] 43)).alloc (.cells #[.int .u8 130, .int .u8 0] 5 (2, 3))) := by
    have h := Lib.run_convert_bytes_const (P := Try.prog) (w.alloc (.cells #[.bool true, .bool true, .int .i64 cr, .int .i64 ch, .int .i64 sq, .slice a n c] 43)) 33 5 #[.int .u8 130, .int .u8 0] 2 2 Try.underlying33 Try.underlying5
    rw [show (w.alloc (.cells #[.bool true, .bool true, .int .i64 cr, .int .i64 ch, .int .i64 sq, .slice a n c] 43)).heap.size = w.heap.size + 1 by simp] at h
    exact h
  have hp : Bs (W0.alloc (.cells #[.int .u8 130, .int .u8 0] 5 (2, 3))) (w.heap.size + 2) (some ⟨w.heap.size + 1, 0, none⟩) [130#8, 0#8] := by
    rw [← s0]; exact Bs_new _ _ _ _ (by simp) _ (by omega) _
  have b1 : Below w.heap.size w (W0.alloc (.cells #[.int .u8 130, .int .u8 0] 5 (2, 3))) := b0.alloc b0.size _
  have hb1 := hb.below b1
  have h2 : 2 ≤ n := by omega
  obtain ⟨b, off, rfl⟩ : ∃ b off, a = some ⟨b, off, none⟩ := by obtain ⟨b, off, h, _⟩ := hb (by omega); exact ⟨b, off, h⟩
  have hcut := cutPrefix_yes b off (some ⟨w.heap.size + 1, 0, none⟩) l [130#8, 0#8] n c 2 m _ _ _ (Lib.hid hl) (Lib.hid rfl) hb1 hp (fun h => nomatch h) hnc hnm hx
  have g1 : ((m : Int) == 1) = false := by simp; omega
  have g2 : (m == 1) = false := by simpa using hm
  rw [hW0] at hcut b1
  obtain ⟨c2, hc2⟩ : ∃ c2, c - 2 = c2 := ⟨_, rfl⟩
  rw [hc2] at hcut
  clear hc2 hW0 s0 hbb hl hb hn hnc hcm hd hx hp hb1 b0 hnm hm h2
  go_enter Try.func68, Try.ntmps68
  go_wp2_with fail
  refine hcut.mono ?_
  rintro e w' ⟨⟨A, rfl, _⟩, rfl⟩
  go_wp2
  go_ret3
  exact ⟨rfl, b1⟩

set_option maxHeartbeats 1000000 in
theorem tdir_next (cr ch sq : Int) (a : Option Addr) (l : List Byte) (n c : Nat) (w : World) (hD : Rd w a l n c) (z : Byte) (hd : l = [130#8, 0#8, z]) :
    Calls Try.prog 68 #[.agg #[.bool true, .bool true, .int .i64 cr, .int .i64 ch, .int .i64 sq, .slice a n c]] w fun e w' => e = .returned (.tuple #[.int .i64 1, .int .i64 (z.toNat : Int), .bool true]) ∧ Below w.heap.size w w' := by
  obtain ⟨hl, hb, hn, hnc, hcm⟩ := hD
  obtain ⟨W0, hW0⟩ : ∃ W0, W0 = w.alloc (.cells #[.bool true, .bool true, .int .i64 cr, .int .i64 ch, .int .i64 sq, .slice a n c] 43) := ⟨_, rfl⟩
  have b0 : Below w.heap.size w W0 := by rw [hW0]; exact bel_new _ _
  have s0 : W0.heap.size = w.heap.size + 1 := by rw [hW0]; simp
  have hbb := (hb.below b0)
  have s1 := run_str (P := Try.prog) W0 is_bytes Try.underlying9 hbb hn
  rw [hl, hW0] at s1
  have hx : l.take 2 = [130#8, 0#8] := by rw [hd]; rfl
  have hl3 : n = 1 + 2 := by rw [← hl, hd]; rfl
  have hz : l[2]? = some z := by rw [hd]; rfl
  replace hd : l ≠ [0#8] := by rw [hd]; simp
  have e1 : ((str l).toList == [0]) = false := by
    have h1 := str_beq l [0#8]
    have h2 : (str [0#8]).toList = [0] := by decide +kernel
    rw [decide_eq_false hd, h2] at h1
    exact h1
  have kc : (convert 33 33 (.slice (some ⟨w.heap.size + 1, 0, none⟩) 2 2)).run Try.prog ((w.alloc (.cells #[.bool true, .bool true, .int .i64 cr, .int .i64 ch, .int .i64 sq, .slice a n c] 43)).alloc (.cells #[.int .u8 130, .int .u8 0] 5)) = .ok (.slice (some ⟨w.heap.size + 1, 0, none⟩) 2 2) ((w.alloc (.cells #[.bool true, .bool true, .int .i64 cr, .int .i64 ch, .int .i64 sq, .slice a n c] 43)).alloc (.cells #[.int .u8 130, .int .u8 0] 5 (2, 3))) := by
    have h := Lib.run_convert_bytes_const (P := Try.prog) (w.alloc (.cells #[.bool true, .bool true, .int .i64 cr, .int .i64 ch, .int .i64 sq, .slice a n c] 43)) 33 5 #[.int .u8 130, .int .u8 0] 2 2 Try.underlying33 Try.underlying5
    rw [show (w.alloc (.cells #[.bool true, .bool true, .int .i64 cr, .int .i64 ch, .int .i64 sq, .slice a n c] 43)).heap.size = w.heap.size + 1 by simp] at h
    exact h
  have hp : Bs (W0.alloc (.cells #[.int .u8 130, .int .u8 0] 5 (2, 3))) (w.heap.size + 2) (some ⟨w.heap.size + 1, 0, none⟩) [130#8, 0#8] := by
    rw [← s0]; exact Bs_new _ _ _ _ (by simp) _ (by omega) _
  have b1 : Below w.heap.size w (W0.alloc (.cells #[.int .u8 130, .int .u8 0] 5 (2, 3))) := b0.alloc b0.size _
  have hb1 := hb.below b1
  obtain ⟨b, off, rfl⟩ : ∃ b off, a = some ⟨b, off, none⟩ := by obtain ⟨b, off, h, _⟩ := hb (by omega); exact ⟨b, off, h⟩
  have hcut := cutPrefix_yes b off (some ⟨w.heap.size + 1, 0, none⟩) l [130#8, 0#8] n c 2 1 _ _ _ (Lib.hid hl) (Lib.hid rfl) hb1 hp (fun h => nomatch h) hnc hl3 hx
  obtain ⟨b', off', ha, _, hce⟩ := hb1 (by omega)
  injection ha with ha
  injection ha with e2 e3
  subst e2 e3
  have hcell := hce 2 z hz
  rw [hW0] at hcut b1 hcell
  obtain ⟨c2, hc2⟩ : ∃ c2, c - 2 = c2 := ⟨_, rfl⟩
  rw [hc2] at hcut
  clear hce hc2 hW0 s0 hbb hl hb hn hnc hcm hd hx hp hb1 b0 hl3 hz
  go_enter Try.func68, Try.ntmps68
  go_wp2_with fail
  refine hcut.mono ?_
  rintro e w' ⟨⟨A, rfl, hA⟩, rfl⟩
  obtain rfl := hA (by decide)
  go_wp2
  go_quiet (fail)
  go_wp2
  go_ret3
  exact ⟨rfl, b1.trans (bel_drewN _ _ _)⟩

theorem tdirective_any (byp con : Bool) (cr ch sq : Int) (a : Option Addr) (l : List Byte) (n c : Nat) (w : World) (hD : Rd w a l n c) :
    Calls Try.prog 68 #[.agg #[.bool byp, .bool con, .int .i64 cr, .int .i64 ch, .int .i64 sq, .slice a n c]] w fun e w' => e = .returned (.tuple #[.int .i64 (dir byp con l).1, .int .i64 (dir byp con l).2.1, .bool (dir byp con l).2.2]) ∧ Below w.heap.size w w' := by
  cases byp with
  | false => rw [dir_off rfl]; exact tdir_noByp con cr ch sq a n c w
  | true =>
    cases con with
    | false => rw [dir_off rfl]; exact tdir_noCon cr ch sq a n c w
    | true =>
      by_cases h0 : l = [0#8]
      · rw [h0, dir_unlock]
        exact tdir_unlock cr ch sq a l n c w hD h0
      by_cases hx : 2 ≤ n ∧ l.take 2 = [130#8, 0#8]
      · obtain ⟨m, hm⟩ : ∃ m, n = m + 2 := ⟨n - 2, by omega⟩
        by_cases h1 : m = 1
        · obtain ⟨z, hz⟩ : ∃ z, l = [130#8, 0#8, z] := by
            have e := (List.take_append_drop 2 l).symm
            have h3 : (l.drop 2).length = 1 := by rw [List.length_drop, hD.len]; omega
            match hq : l.drop 2, h3 with
            | [z], _ => exact ⟨z, by rw [e, hx.2, hq]; rfl⟩
          rw [hz, dir_next]
          exact tdir_next cr ch sq a l n c w hD z hz
        · rw [dir_else h0 (fun z hz => h1 (by have := hD.len; rw [hz] at this; simp at this; omega))]
          exact tdir_long cr ch sq a l n c w hD h0 hx.2 m hm h1
      · rw [dir_else h0 (fun z hz => hx ⟨by have := hD.len; rw [hz] at this; simp at this; omega, by rw [hz]; rfl⟩)]
        exact tdir_no cr ch sq a l n c w hD h0 hx
end Go.Proofs.Ytdpjjhbfhlmolaa.Tcf

/-
  The walks of the reference's checksums.
-/
namespace Go.Proofs.Ytdpjjhbfhlmolaa
open Go.RowKit

def bitI (b : Bool) : Int := if b then 1 else 0

theorem testBit_int (m n : Nat) : ((m / 2 ^ n : Nat) : Int) % 2 = bitI (m.testBit n) := by
  have t := Nat.toNat_testBit m n
  unfold bitI
  generalize m / 2 ^ n = q at *
  cases h : m.testBit n <;> rw [h] at t <;> simp at t <;> simp <;> omega
theorem bit_tmod (x : Byte) (n : Nat) : ((x.toNat : Int) / 2 ^ n).tmod 2 = bitI (x.getLsbD n) := by
  have e : (x.toNat : Int) / 2 ^ n = ((x.toNat / 2 ^ n : Nat) : Int) := by rw [Int.natCast_ediv, Int.natCast_pow]; rfl
  rw [e, Int.tmod_eq_emod_of_nonneg (Int.natCast_nonneg _)]
  exact testBit_int _ _

theorem i64_ofInt (a : Nat) (ha : a < 9223372036854775808) : (BitVec.ofInt 64 (a : Int)).toNat = a := by
  rw [BitVec.ofInt_natCast, BitVec.toNat_ofNat]; exact Nat.mod_eq_of_lt (by omega)
theorem i64_xor_nat' (a b : Nat) (ha : a < 9223372036854775808) (hb : b < 9223372036854775808) : bits .xor .i64 (a : Int) (b : Int) = ((a ^^^ b : Nat) : Int) := by
  have hx : a ^^^ b < 2 ^ 63 := Nat.xor_lt_two_pow (by omega) (by omega)
  show IntKind.i64.wrap ((BitVec.ofInt 64 (a : Int) ^^^ BitVec.ofInt 64 (b : Int)).toNat : Int) = _
  rw [BitVec.toNat_xor, i64_ofInt a ha, i64_ofInt b hb, IntKind.wrap_i64]
  omega

theorem top16 (r : BitVec 16) : (r.toNat : Int) / 32768 = bitI (r.getLsbD 15) := by
  have h := testBit_int r.toNat 15
  have := r.isLt
  have e : ((r.toNat / 2 ^ 15 : Nat) : Int) = (r.toNat : Int) / 32768 := by omega
  have e2 : (r.toNat : Int) / 32768 % 2 = (r.toNat : Int) / 32768 := by omega
  rw [e, e2] at h
  exact h
theorem fd_test (r : BitVec 16) (b : Bool) : (((r.toNat : Int) / 32768 + bitI b) % 2 == 1) = (r.getLsbD 15 != b) := by
  rw [top16]
  cases r.getLsbD 15 <;> cases b <;> rfl
theorem shl_mod (r : BitVec 16) : (r.toNat : Int) * (2 : Int) % (65536 : Int) = ((r <<< 1).toNat : Int) := by
  rw [← b16_shl1, IntKind.wrap_u16]
theorem fd_yes (r : BitVec 16) (b : Bool) (h : (((r.toNat : Int) / 32768 + bitI b) % 2 == 1) = true) : bits .xor .i64 ((r.toNat : Int) * 2 % 65536) 4129 = ((fd16 r b).toNat : Int) := by
  rw [fd_test] at h
  have hl := (r <<< 1).isLt
  rw [shl_mod, fd16, if_pos h, show (4129 : Int) = ((4129 : Nat) : Int) from rfl, i64_xor_nat' _ _ (by omega) (by omega), BitVec.toNat_xor]
  rfl
theorem fd_no (r : BitVec 16) (b : Bool) (h : (((r.toNat : Int) / 32768 + bitI b) % 2 == 1) = false) : (r.toNat : Int) * 2 % 65536 = ((fd16 r b).toNat : Int) := by
  rw [fd_test] at h
  rw [shl_mod, fd16, if_neg (by rw [h]; decide)]

end Go.Proofs.Ytdpjjhbfhlmolaa

/-
  The walk of the reference's CRC-32C, and the four sums.
-/
namespace Go.Proofs.Ytdpjjhbfhlmolaa
open Go.RowKit

theorem low32 (r : BitVec 32) : (r.toNat : Int) % 2 = bitI (r.getLsbD 0) := by
  have h := testBit_int r.toNat 0
  rw [Nat.pow_zero, Nat.div_one] at h
  exact h
theorem div_bit (x : Byte) (n : Nat) : (x.toNat : Int) / 2 ^ n % 2 = bitI (x.getLsbD n) := by
  have e : (x.toNat : Int) / 2 ^ n = ((x.toNat / 2 ^ n : Nat) : Int) := by rw [Int.natCast_ediv, Int.natCast_pow]; rfl
  rw [e]
  exact testBit_int _ _
theorem div_bound (x : Byte) (n : Nat) : 0 ≤ (x.toNat : Int) / 2 ^ n ∧ (x.toNat : Int) / 2 ^ n ≤ 255 := by
  have e : (x.toNat : Int) / 2 ^ n = ((x.toNat / 2 ^ n : Nat) : Int) := by rw [Int.natCast_ediv, Int.natCast_pow]; rfl
  have := x.isLt
  have h0 := Int.natCast_nonneg (x.toNat / 2 ^ n)
  have h1 : ((x.toNat / 2 ^ n : Nat) : Int) ≤ (x.toNat : Int) := Int.ofNat_le.mpr (Nat.div_le_self _ _)
  rw [e]
  exact ⟨h0, by omega⟩
theorem fd32_test (r : BitVec 32) (x : Byte) (j : Nat) : (((r.toNat : Int) + (x.toNat : Int) / 2 ^ j) % 2 == 1) = (r.getLsbD 0 != x.getLsbD j) := by
  rw [Int.add_emod, low32, div_bit]
  cases r.getLsbD 0 <;> cases x.getLsbD j <;> rfl
theorem fd32_yes (r : BitVec 32) (x : Byte) (j : Nat) (h : (((r.toNat : Int) + (x.toNat : Int) / 2 ^ j) % 2 == 1) = true) : bits .xor .i64 ((r.toNat : Int) / 2) 2197175160 = ((fd32 r (x.getLsbD j)).toNat : Int) := by
  rw [fd32_test] at h
  have hl := (r >>> 1).isLt
  rw [b32_shr1, fd32, if_pos h, show (2197175160 : Int) = ((2197175160 : Nat) : Int) from rfl, i64_xor_nat' _ _ (by omega) (by omega), BitVec.toNat_xor]
  rfl
theorem fd32_no (r : BitVec 32) (x : Byte) (j : Nat) (h : (((r.toNat : Int) + (x.toNat : Int) / 2 ^ j) % 2 == 1) = false) : (r.toNat : Int) / 2 = ((fd32 r (x.getLsbD j)).toNat : Int) := by
  rw [fd32_test] at h
  rw [b32_shr1, fd32, if_neg (by rw [h]; decide)]

end Go.Proofs.Ytdpjjhbfhlmolaa

/-
  The walk of the reference's Check16, 
-/
namespace Go.Proofs.Ytdpjjhbfhlmolaa
open Go.RowKit

theorem str_eq_iff (l m : List Byte) : (str l = str m) ↔ l = m := ⟨str_inj, fun h => by rw [h]⟩

end Go.Proofs.Ytdpjjhbfhlmolaa

/-
  The walks of the reference of layer 14: Encode, Directive, Same.
-/
namespace Go.Proofs.Ytdpjjhbfhlmolaa.Tcf
open Go.RowKit Go.Proofs.Ytdpjjhbfhlmolaa.Pac

theorem Ow_row (w : World) (base : Nat) (e : TypeId) (l : List Byte) (n : Nat) (C : Array Value) (hn : l.length = n) (hC : C = (l.map B8).toArray) (h : base ≤ w.heap.size) (hm : n ≤ maxLen) (g : Nat) (hg : w.heap.size = g) : Ow (w.alloc (.cells C e)) base e (.slice (some ⟨g, 0, none⟩) n n) l := by
  subst hn hg
  exact ⟨by simp, .inr ⟨w.heap.size, l.length, C, rfl, h, heap_alloc_new w _, Nat.le_refl _, hm, by rw [hC]; simp, by rw [hC]; simp [← List.map_take]⟩⟩
theorem hdr5_cells {H S Q : Nat} {x0 x1 x2 x3 x4 : Int} (h0 : x0 = ((H / 256 % 256 : Nat) : Int)) (h1 : x1 = ((H % 256 : Nat) : Int)) (h2 : x2 = ((S / 256 % 256 : Nat) : Int)) (h3 : x3 = ((S % 256 : Nat) : Int)) (h4 : x4 = ((Q % 256 : Nat) : Int)) :
    #[Value.int .u8 x0, .int .u8 x1, .int .u8 x2, .int .u8 x3, .int .u8 x4] = ((hdr5 H S Q).map B8).toArray := by
  subst h0 h1 h2 h3 h4
  simp [hdr5]

set_option maxHeartbeats 1000000 in
theorem ysame_any (byp con : Bool) (cr ch sq : Int) (a p : Option Addr) (l : List Byte) (n c k : Nat) (w : World) (hD : Rd w a l n c) (hE : Rd w p l n k) :
    Calls Try.prog 16 #[.agg #[.bool byp, .bool con, .int .i64 cr, .int .i64 ch, .int .i64 sq, .slice a n c], .agg #[.bool byp, .bool con, .int .i64 cr, .int .i64 ch, .int .i64 sq, .slice p n k]] w fun e w' => e = .returned (.bool true) ∧ Below w.heap.size w w' := by
  obtain ⟨W1, hW1⟩ : ∃ W1, W1 = (w.alloc (.cells #[.bool byp, .bool con, .int .i64 cr, .int .i64 ch, .int .i64 sq, .slice a n c] 43)).alloc (.cells #[.bool byp, .bool con, .int .i64 cr, .int .i64 ch, .int .i64 sq, .slice p n k] 43) := ⟨_, rfl⟩
  have b1 : Below w.heap.size w W1 := by rw [hW1]; exact (bel_new _ _).alloc (bel_new _ _).size _
  have s1 := run_str (P := Try.prog) W1 is_bytes Try.underlying9 (hD.later b1).bs hD.nil
  have s2 := run_str (P := Try.prog) W1 is_bytes Try.underlying9 (hE.later b1).bs hE.nil
  rw [hD.len, hW1] at s1
  rw [hE.len, hW1] at s2
  rw [hW1] at b1
  have e0 : (byp == byp) = true := by simp
  have e1 : (con == con) = true := by simp
  have e2 : (cr == cr) = true := by simp
  have e3 : (ch == ch) = true := by simp
  have e4 : (sq == sq) = true := by simp
  have e5 : ((str l).toList == (str l).toList) = true := by simp
  clear hW1 hD hE
  go_enter Try.func16, Try.ntmps16
  go_wp2
  go_ret
  exact ⟨rfl, b1⟩

theorem toNat_ne {x y : Byte} (h : x ≠ y) : x.toNat ≠ y.toNat := fun e => h (BitVec.eq_of_toNat_eq e)

end Go.Proofs.Ytdpjjhbfhlmolaa.Tcf

/-
  The walks of the reference of layer 14: Unlock, SetNext.
-/
namespace Go.Proofs.Ytdpjjhbfhlmolaa.Tcf
open Go.RowKit Go.Proofs.Ytdpjjhbfhlmolaa.Pac

theorem yun_results {tmps : Array Value} {W : World} {g : Nat} {byp con : Bool} {cr ch sq : Int} {v : Value} (h2 : tmps.getD 4 undef = .pointer (some ⟨g, 0, none⟩))
    (hC : Cel W g 43 #[.bool byp, .bool con, .int .i64 cr, .int .i64 ch, .int .i64 sq, v]) :
    (results Try.f28 tmps).run Try.prog W = .ok (.agg #[.bool byp, .bool con, .int .i64 cr, .int .i64 ch, .int .i64 sq, v]) W := by
  have c0 := hC.cell 0
  have c1 := hC.cell 1
  have c2 := hC.cell 2
  have c3 := hC.cell 3
  have c4 := hC.cell 4
  have c5 := hC.cell 5
  simp at c0 c1 c2 c3 c4 c5
  simp only [Array.getD_eq_getD_getElem?] at h2
  simp [results, Try.results28, go_sem, h2, c0, c1, c2, c3, c4, c5]

theorem ysn_results {tmps : Array Value} {W : World} {g : Nat} {byp con : Bool} {cr ch sq : Int} {v : Value} (h2 : tmps.getD 6 undef = .pointer (some ⟨g, 0, none⟩))
    (hC : Cel W g 43 #[.bool byp, .bool con, .int .i64 cr, .int .i64 ch, .int .i64 sq, v]) :
    (results Try.f29 tmps).run Try.prog W = .ok (.agg #[.bool byp, .bool con, .int .i64 cr, .int .i64 ch, .int .i64 sq, v]) W := by
  have c0 := hC.cell 0
  have c1 := hC.cell 1
  have c2 := hC.cell 2
  have c3 := hC.cell 3
  have c4 := hC.cell 4
  have c5 := hC.cell 5
  simp at c0 c1 c2 c3 c4 c5
  simp only [Array.getD_eq_getD_getElem?] at h2
  simp [results, Try.results29, go_sem, h2, c0, c1, c2, c3, c4, c5]

set_option maxHeartbeats 1000000 in
theorem yunlock_any (cr ch : Int) (w : World) :
    Calls Try.prog 28 #[.int .i64 cr, .int .i64 ch] w fun e w' => ∃ A c, e = .returned (.agg #[.bool true, .bool true, .int .i64 cr, .int .i64 ch, .int .i64 0, .slice A 1 c]) ∧ Rd w' A [0#8] 1 c ∧ Below w.heap.size w w' := by
  have hR0 := Cel.new w 43 #[.bool true, .bool true, .int .i64 cr, .int .i64 ch, .int .i64 0, .slice (some ⟨w.heap.size + 1, 0, none⟩) 1 1]
  have b0 := bel_new w (.cells #[.bool true, .bool true, .int .i64 cr, .int .i64 ch, .int .i64 0, .slice (some ⟨w.heap.size + 1, 0, none⟩) 1 1] 43)
  have s0 : (w.alloc (.cells #[.bool true, .bool true, .int .i64 cr, .int .i64 ch, .int .i64 0, .slice (some ⟨w.heap.size + 1, 0, none⟩) 1 1] 43)).heap.size = w.heap.size + 1 := by simp
  have d0 : ∀ W0 : World, W0.heap.size = w.heap.size + 1 → Rd (W0.alloc (.cells #[.int .u8 0] 5)) (some ⟨w.heap.size + 1, 0, none⟩) [0#8] 1 1 := fun W0 h => by
    rw [← h]
    refine ⟨rfl, ?_, (fun h => nomatch h), by decide, by decide⟩
    exact Bs_new _ _ _ _ (by simp) _ (by simp) _
  have d1 := d0 _ s0
  have b1 := b0.alloc b0.size (.cells #[.int .u8 0] 5)
  have hR1 := Cel.later hR0 (bel_new (w.alloc (.cells #[.bool true, .bool true, .int .i64 cr, .int .i64 ch, .int .i64 0, .slice (some ⟨w.heap.size + 1, 0, none⟩) 1 1] 43)) (.cells #[.int .u8 0] 5))
  clear hR0 b0 s0 d0
  go_enter Try.func28, Try.ntmps28
  go_wp2
  exact bodyPost_ret (yun_results rfl hR1) rfl ⟨_, _, rfl, d1, b1⟩

set_option maxHeartbeats 400000 in
theorem ysetNext_no (cr ch x : Int) (w : World) (hx : x < 0 ∨ 255 < x) :
    Calls Try.prog 29 #[.int .i64 cr, .int .i64 ch, .int .i64 x] w fun e w' => e = .returned (.agg #[.bool false, .bool false, .int .i64 0, .int .i64 0, .int .i64 0, .slice none 0 0]) ∧ Below w.heap.size w w' := by
  have hR := Cel.new w 43 #[.bool false, .bool false, .int .i64 0, .int .i64 0, .int .i64 0, .slice none 0 0]
  have b0 := bel_new w (.cells #[.bool false, .bool false, .int .i64 0, .int .i64 0, .int .i64 0, .slice none 0 0] 43)
  rcases hx with hx | hx
  · have g1 : decide (x < 0) = true := by simpa using hx
    go_enter Try.func29, Try.ntmps29
    go_wp2
    exact bodyPost_ret (ysn_results rfl hR) rfl ⟨rfl, b0⟩
  · have g1 : decide (x < 0) = false := by simp; omega
    have g2 : decide (255 < x) = true := by simpa using hx
    go_enter Try.func29, Try.ntmps29
    go_wp2
    exact bodyPost_ret (ysn_results rfl hR) rfl ⟨rfl, b0⟩

set_option maxHeartbeats 1000000 in
theorem ysetNext_yes (cr ch : Int) (z : Byte) (w : World) :
    Calls Try.prog 29 #[.int .i64 cr, .int .i64 ch, .int .i64 (z.toNat : Int)] w fun e w' => ∃ A c, e = .returned (.agg #[.bool true, .bool true, .int .i64 cr, .int .i64 ch, .int .i64 0, .slice A 3 c]) ∧ Rd w' A [130#8, 0#8, z] 3 c ∧ Below w.heap.size w w' := by
  have hz := z.isLt
  have hz2 : (0 : Int) ≤ (z.toNat : Int) := by omega
  have hz3 : (z.toNat : Int) ≤ 255 := by omega
  have hz4 : IntKind.u8.wrap (z.toNat : Int) = (z.toNat : Int) := by rw [IntKind.wrap_u8]; omega
  obtain ⟨Z, hZ⟩ : ∃ Z : Int, Z = (z.toNat : Int) := ⟨_, rfl⟩
  rw [← hZ] at hz2 hz3 hz4 ⊢
  have g1 : decide (Z < 0) = false := by simp; omega
  have g2 : decide (255 < Z) = false := by simp; omega
  have hR0 := Cel.new w 43 #[.bool false, .bool false, .int .i64 0, .int .i64 0, .int .i64 0, .slice none 0 0]
  have b0 := bel_new w (.cells #[.bool false, .bool false, .int .i64 0, .int .i64 0, .int .i64 0, .slice none 0 0] 43)
  have hun := yunlock_any cr ch (w.alloc (.cells #[.bool false, .bool false, .int .i64 0, .int .i64 0, .int .i64 0, .slice none 0 0] 43))
  have HZ := Lib.hid hZ
  clear hZ hz
  go_enter Try.func29, Try.ntmps29
  go_wp2_with fail
  refine hun.mono ?_
  rintro e w1 ⟨A1, c1, rfl, _, h1⟩
  have hR1 := Cel.later hR0 h1
  have b1 := b0.trans (h1.mono b0.size)
  obtain ⟨Wp, hWp⟩ : ∃ Wp, Wp = putAll w1 w.heap.size true true cr ch 0 (.slice (some ⟨w1.heap.size + 1, 0, none⟩) 3 3) := ⟨_, rfl⟩
  have hRp : Cel Wp w.heap.size 43 #[.bool true, .bool true, .int .i64 cr, .int .i64 ch, .int .i64 0, .slice (some ⟨w1.heap.size + 1, 0, none⟩) 3 3] := by rw [hWp]; exact putAll_cel hR1 _ _ _ _ _ _
  have sp : Wp.heap.size = w1.heap.size := by rw [hWp]; simp [putAll, World.setCell]
  have bp : Below w.heap.size w Wp := by rw [hWp]; exact putAll_below b1 (Nat.le_refl _) _ _ _ _ _ _
  have k2 := bel_new Wp (.cells #[.bool true, .bool true, .int .i64 cr, .int .i64 ch, .int .i64 0, .slice (some ⟨w1.heap.size + 1, 0, none⟩) 3 3] 43)
  have s2 : (Wp.alloc (.cells #[.bool true, .bool true, .int .i64 cr, .int .i64 ch, .int .i64 0, .slice (some ⟨w1.heap.size + 1, 0, none⟩) 3 3] 43)).heap.size = w1.heap.size + 1 := by simp [sp]
  have d0 : ∀ W0 : World, W0.heap.size = w1.heap.size + 1 → Rd (W0.alloc (.cells #[.int .u8 130, .int .u8 0, .int .u8 Z] 5)) (some ⟨w1.heap.size + 1, 0, none⟩) [130#8, 0#8, z] 3 3 := fun W0 h => by
    rw [← h]
    refine ⟨rfl, ?_, (fun h => nomatch h), by decide, by decide⟩
    exact Bs_new _ _ _ _ (by rw [HZ.out]; rfl) _ (by simp) _
  have d3 := d0 _ s2
  have k3 := k2.alloc k2.size (.cells #[.int .u8 130, .int .u8 0, .int .u8 Z] 5)
  have hR3 := Cel.later hRp k3
  have b3 := bp.trans (k3.mono bp.size)
  have hlt := hR1.lt
  have e0 := hR1.cell 0
  have e1 := hR1.cell 1
  have e2 := hR1.cell 2
  have e3 := hR1.cell 3
  have e4 := hR1.cell 4
  have e5 := hR1.cell 5
  simp at e0 e1 e2 e3 e4 e5
  have f0 := hR1.free 0
  have f1 := hR1.free 1
  have f2 := hR1.free 2
  have f3 := hR1.free 3
  have f4 := hR1.free 4
  have f5 := hR1.free 5
  rw [hWp] at d3 hR3 b3
  clear hun h1 hR0 b0 s2 k2 k3 d0 hRp sp bp hWp
  go_wp2
  exact bodyPost_ret (ysn_results rfl hR3) rfl ⟨_, _, rfl, d3, b3⟩
end Go.Proofs.Ytdpjjhbfhlmolaa.Tcf

/-
  The laws of layer 17: a sending end in play; the example of the chapter (alive); FopNil.
-/
namespace Go.Proofs.Ytdpjjhbfhlmolaa.Fop
open Go.RowKit
open Pac (bel_new Cel.later)
open Tcf (Fr yunlock_any ysetNext_yes ysame_any)
open Strs (So)

/-- a block that is neither a sending end nor a row of strings stays as it was -/
def Kp (w w' : World) : Prop := ∀ k t cs, Cel w k t cs → t ≠ 70 → t ≠ 9 → Cel w' k t cs
theorem Kp.trans {a b c : World} (h : Kp a b) (k : Kp b c) : Kp a c := fun i t cs hc h1 h2 => k i t cs (h i t cs hc h1 h2) h1 h2
theorem Kp.of_below {w w' : World} (h : Below w.heap.size w w') : Kp w w' := fun i _ _ hc _ _ => (h.block i hc.lt).trans hc

/-- the sending end at block g, with the row O of its units; what lies below block B is as it was -/
structure PO (w0 w : World) (B g : Nat) (O : Option Nat) (K H W T R : Int) (s : Fs) : Prop where
  ex : ∃ v, v.ownBlock = O ∧ FW w B g v K H W T R s
  b : Below B w0 w
  s : B ≤ w.heap.size
  g : B ≤ g
section
variable {w0 w w' : World} {B g : Nat} {O : Option Nat} {K H W T R : Int} {s : Fs} {S : List Nat}
theorem PO.lt (h : PO w0 w B g O K H W T R s) : ∀ x ∈ g :: O.toList, B ≤ x ∧ x < w.heap.size := by
  obtain ⟨v, rfl, f⟩ := h.ex
  intro x hx
  simp only [List.mem_cons, Option.mem_toList] at hx
  rcases hx with rfl | hx
  · exact ⟨h.g, f.cel.lt⟩
  · exact Row.Os.lt f.row x hx
theorem PO.ok (h : PO w0 w B g O K H W T R s) : s.Ok R := by
  obtain ⟨v, rfl, f⟩ := h.ex
  exact f.ok
theorem PO.p (h : PO w0 w B g O K H W T R s) : Par K H W T R := by
  obtain ⟨v, rfl, f⟩ := h.ex
  exact f.p
theorem PO.only (h : PO w0 w B g O K H W T R s) (k : Only S w w') (hB : ∀ x ∈ S, B ≤ x) (hS : ∀ x ∈ g :: O.toList, x ∉ S) : PO w0 w' B g O K H W T R s := by
  obtain ⟨v, rfl, f⟩ := h.ex
  exact ⟨⟨v, rfl, f.only k hS⟩, h.b.trans (k.below h.s hB), Nat.le_trans h.s k.size, h.g⟩
theorem PO.below (h : PO w0 w B g O K H W T R s) (k : Below w.heap.size w w') : PO w0 w' B g O K H W T R s := h.only (S := []) (Only.of_below k) (by simp) (by simp)
theorem PO.draws (h : PO w0 w B g O K H W T R s) (m : Nat) : PO w0 (w.drewN m) B g O K H W T R s := h.below (drewN_below w m)
theorem PO.kp (h : PO w0 w B g O K H W T R s) (k : Only (g :: O.toList) w w') : Kp w w' := fun i t cs hc h1 h2 => by
  obtain ⟨v, rfl, f⟩ := h.ex
  refine hc.only k ?_
  simp only [List.mem_cons, Option.mem_toList, not_or]
  exact ⟨fun e => by subst e; exact Cel.apart hc f.cel h1 rfl, fun e => Row.Os.apart f.row hc h2.symm e⟩
theorem PO.kp1 (h : PO w0 w B g O K H W T R s) (k : Only [g] w w') : Kp w w' := h.kp (k.more (fun x hx => .inl (by simp at hx ⊢; exact .inl hx)))
/-- bytes that lie behind all blocks of the end -/
theorem rd_only {b n c : Nat} {l : List Byte} (hd : Rd w (some ⟨b, 0, none⟩) l n c) (k : Only (g :: O.toList) w w') (hb : ∀ x ∈ g :: O.toList, x < b) : Rd w' (some ⟨b, 0, none⟩) l n c := hd.only k (fun hm => by have := hb b hm; omega)
/-- bytes stay where the end's own block is written -/
theorem PO.rd (h : PO w0 w B g O K H W T R s) {a : Option Addr} {l : List Byte} {n c : Nat} (hd : Rd w a l n c) (k : Only [g] w w') : Rd w' a l n c := by
  obtain ⟨v, rfl, f⟩ := h.ex
  refine ⟨hd.len, fun hl => ?_, hd.nil, hd.le, hd.max⟩
  obtain ⟨b, off, e, hlt, hc⟩ := hd.bs hl
  refine ⟨b, off, e, Nat.lt_of_lt_of_le hlt k.size, fun i x hx => ?_⟩
  have h1 := hc i x hx
  have hb : b ≠ g := by
    rintro rfl
    have h2 := Cel.cell (t := 70) f.cel (off + i)
    rw [h1] at h2
    obtain ⟨A, c9, hv, _⟩ := f.len rfl
    rw [hv] at h2
    have hlt8 := (Array.getElem?_eq_some_iff.1 h2.symm).1
    simp [cells] at hlt8
    rcases (show off + i = 0 ∨ off + i = 1 ∨ off + i = 2 ∨ off + i = 3 ∨ off + i = 4 ∨ off + i = 5 ∨ off + i = 6 ∨ off + i = 7 ∨ off + i = 8 ∨ off + i = 9 ∨ off + i = 10 ∨ off + i = 11 ∨ off + i = 12 ∨ off + i = 13 by omega) with h3 | h3 | h3 | h3 | h3 | h3 | h3 | h3 | h3 | h3 | h3 | h3 | h3 | h3 <;> (rw [h3] at h2; simp [cells] at h2)
  have h2 := k.block b hlt (by simpa using hb)
  unfold World.cell? at h1 ⊢
  simp only at h1 ⊢
  rw [h2]
  exact h1

theorem PO.new (K H W T R : Int) (w : World) {K' H' W' T' R' : Int} (hK : clp K 0 1023 = K') (hH : clp H 0 7 = H') (hW : clp W 1 127 = W') (hT : clp T 1 1099511627776 = T') (hR : clp R 0 255 = R') :
    Calls Try.prog 10 #[.int .i64 K, .int .i64 H, .int .i64 W, .int .i64 T, .int .i64 R] w fun e w' => ∃ g, e = .returned (.pointer (some ⟨g, 0, none⟩)) ∧ PO w w' w.heap.size g none K' H' W' T' R' fs0 := by
  subst hK hH hW hT hR
  exact (fnew_any K H W T R w).mono fun _ _ ⟨g, e, hg, f, b⟩ => ⟨g, e, ⟨_, rfl, f⟩, b, b.size, hg⟩
theorem PO.send_ (h : PO w0 w B g O K H W T R s) {a : Option Addr} {l : List Byte} {n c : Nat} (hD : Rd w a l n c) {E : Int} {s' : Fs} (hS : snd l s = (E, s')) :
    Calls Try.prog 12 #[.pointer (some ⟨g, 0, none⟩), .slice a n c] w fun e w' => e = .returned (.int .i64 E) ∧ (∃ O', PO w0 w' B g O' K H W T R s' ∧ (O' = O ∨ ∃ i, O' = some i ∧ w.heap.size ≤ i)) ∧ Only (g :: O.toList) w w' := by
  obtain ⟨v, rfl, f⟩ := h.ex
  have x := send_any a l n c w B g v K H W T R s f hD h.s
  rw [hS] at x
  refine x.mono ?_
  rintro e w' ⟨rfl, ⟨v', f', hv⟩, k⟩
  exact ⟨rfl, ⟨_, ⟨⟨v', rfl, f'⟩, h.b.trans (k.below h.s (fun x hx => (h.lt x hx).1)), Nat.le_trans h.s k.size, h.g⟩, hv⟩, k⟩
theorem PO.next_ (h : PO w0 w B g O K H W T R s) (n : Int) {byp con ok : Bool} {cr ch sq : Int} {d : List Byte} {s' : Fs} (hN : nxt K H W T R n s = ((⟨byp, con, cr, ch, sq, d⟩, ok), s')) {m : Nat} (hm : d.length = m) :
    Calls Try.prog 14 #[.pointer (some ⟨g, 0, none⟩), .int .i64 n] w fun e w' => (∃ A c, e = .returned (.tuple #[.agg #[.bool byp, .bool con, .int .i64 cr, .int .i64 ch, .int .i64 sq, .slice A m c], .bool ok]) ∧ Rd w' A d m c ∧ (con = false → ok = true → ∃ b, A = some ⟨b, 0, none⟩ ∧ w.heap.size ≤ b)) ∧ PO w0 w' B g O K H W T R s' ∧ Only [g] w w' := by
  obtain ⟨v, rfl, f⟩ := h.ex
  refine (next_any n w B g v K H W T R s f hN hm).mono ?_
  rintro e w' ⟨⟨A, c, rfl, r, hb⟩, f', k⟩
  exact ⟨⟨A, c, rfl, r, hb⟩, ⟨⟨v, rfl, f'⟩, h.b.trans (k.below h.s (by simpa using h.g)), Nat.le_trans h.s k.size, h.g⟩, k⟩
theorem PO.report_ (h : PO w0 w B g O K H W T R s) (ch : Int) (lk wt rt : Bool) (bp nx n : Int) {E : Int} {s' : Fs} (hR : rpt H ⟨ch, lk, wt, rt, bp, nx⟩ n s = (E, s')) (ha : s.ac ≤ 1099511627776) :
    Calls Try.prog 17 #[.pointer (some ⟨g, 0, none⟩), .agg #[.int .i64 ch, .bool lk, .bool wt, .bool rt, .int .i64 bp, .int .i64 nx], .int .i64 n] w fun e w' => e = .returned (.int .i64 E) ∧ PO w0 w' B g O K H W T R s' ∧ Only (g :: O.toList) w w' := by
  obtain ⟨v, rfl, f⟩ := h.ex
  have x := report_any ch lk wt rt bp nx n w B g v K H W T R s f ha
  rw [hR] at x
  refine x.mono ?_
  rintro e w' ⟨rfl, ⟨v', f', hv⟩, k⟩
  exact ⟨rfl, ⟨⟨v', hv, f'⟩, h.b.trans (k.below h.s (fun x hx => (h.lt x hx).1)), Nat.le_trans h.s k.size, h.g⟩, k⟩
theorem PO.unlock_ (h : PO w0 w B g O K H W T R s) (n : Int) {s' : Fs} (hU : unl n s = s') :
    Calls Try.prog 19 #[.pointer (some ⟨g, 0, none⟩), .int .i64 n] w fun e w' => e = .returned (.int .i64 0) ∧ PO w0 w' B g O K H W T R s' ∧ Only [g] w w' := by
  subst hU
  obtain ⟨v, rfl, f⟩ := h.ex
  refine (unlock_any n w B g v K H W T R s f).mono ?_
  rintro e w' ⟨rfl, f', k⟩
  exact ⟨rfl, ⟨⟨v, rfl, f'⟩, h.b.trans (k.below h.s (by simpa using h.g)), Nat.le_trans h.s k.size, h.g⟩, k⟩
theorem PO.state_ (h : PO w0 w B g O K H W T R s) : Calls Try.prog 22 #[.pointer (some ⟨g, 0, none⟩)] w fun e w' => e = .returned (.int .i64 s.st) ∧ w = w' := by
  obtain ⟨v, rfl, f⟩ := h.ex
  exact state_any w B g v K H W T R s f
theorem PO.acked_ (h : PO w0 w B g O K H W T R s) : Calls Try.prog 24 #[.pointer (some ⟨g, 0, none⟩)] w fun e w' => e = .returned (.int .i64 s.ac) ∧ w = w' := by
  obtain ⟨v, rfl, f⟩ := h.ex
  exact acked_any w B g v K H W T R s f
theorem PO.queued_ (h : PO w0 w B g O K H W T R s) : Calls Try.prog 23 #[.pointer (some ⟨g, 0, none⟩)] w fun e w' => e = .returned (.int .i64 (s.us.length : Int)) ∧ w = w' := by
  obtain ⟨v, rfl, f⟩ := h.ex
  exact queued_any w B g v K H W T R s f
end

theorem wrd_results {tmps : Array Value} {W : World} {g : Nat} {ch : Int} {lk wt rt : Bool} {bp nx : Int} (h2 : tmps.getD 2 undef = .pointer (some ⟨g, 0, none⟩))
    (hC : Cel W g 35 #[.int .i64 ch, .bool lk, .bool wt, .bool rt, .int .i64 bp, .int .i64 nx]) :
    (results Try.f27 tmps).run Try.prog W = .ok (.agg #[.int .i64 ch, .bool lk, .bool wt, .bool rt, .int .i64 bp, .int .i64 nx]) W := by
  have c0 := hC.cell 0
  have c1 := hC.cell 1
  have c2 := hC.cell 2
  have c3 := hC.cell 3
  have c4 := hC.cell 4
  have c5 := hC.cell 5
  simp at c0 c1 c2 c3 c4 c5
  simp only [Array.getD_eq_getD_getElem?] at h2
  simp [results, Try.results27, go_sem, h2, c0, c1, c2, c3, c4, c5]
set_option maxHeartbeats 1000000 in
theorem word_any (n : Int) (w : World) :
    Calls Try.prog 27 #[.int .i64 n] w fun e w' => e = .returned (.agg #[.int .i64 1, .bool false, .bool false, .bool false, .int .i64 0, .int .i64 n]) ∧ Below w.heap.size w w' := by
  have hR := Cel.new w 35 #[.int .i64 1, .bool false, .bool false, .bool false, .int .i64 0, .int .i64 n]
  have b0 := bel_new w (.cells #[.int .i64 1, .bool false, .bool false, .bool false, .int .i64 0, .int .i64 n] 35)
  go_enter Try.func27, Try.ntmps27
  go_wp2
  exact bodyPost_ret (wrd_results rfl hR) rfl ⟨rfl, b0⟩
end Go.Proofs.Ytdpjjhbfhlmolaa.Fop

/-
  Plain mathematics of a sending end that nobody locks or holds: what is acknowledged, received and sent; once nothing is lost all is delivered in a bounded time.
-/
namespace Go.Proofs.Ytdpjjhbfhlmolaa.Fop
open Go.Proofs.Ytdpjjhbfhlmolaa.Tcf (Fr)
open Go.Proofs.Ytdpjjhbfhlmolaa.Clc (Cw)

/-- units l were queued; Q of them have arrived; n bounds the repetitions and the times -/
structure Lv (l : List (List Byte)) (W : Int) (s : Fs) (Q n : Int) : Prop where
  us : s.us = l.drop s.ac.toNat
  a0 : 0 ≤ s.ac
  al : s.ac ≤ l.length
  a1 : s.ac ≤ Q
  q1 : Q ≤ s.ac + s.fr
  f0 : 0 ≤ s.fl
  f1 : s.fl ≤ s.fr
  f2 : s.fr ≤ s.us.length
  fw : s.fr ≤ W
  st : s.st = 1
  ct : s.ct = 0
  r0 : 0 ≤ s.rp
  r1 : s.rp ≤ n
  t1 : s.tm ≤ n
  n1 : s.nw ≤ n
  t2 : s.tm ≤ s.nw
section
variable {l : List (List Byte)} {W T : Int} {s : Fs} {Q n t : Int}
theorem Lv.len (h : Lv l W s Q n) : (s.us.length : Int) = l.length - s.ac := by
  have h1 := h.a0
  have h2 := h.al
  rw [h.us, List.length_drop]; omega
theorem Lv.q_le (h : Lv l W s Q n) : Q ≤ l.length := by
  have h1 := h.len
  have h2 := h.q1
  have h3 := h.f2
  omega
theorem Lv.at_ (h : Lv l W s Q n) (k : Nat) : s.us[k]? = l[s.ac.toNat + k]? := by rw [h.us, List.getElem?_drop]
theorem Lv.more (h : Lv l W s Q n) {m : Int} (hm : n ≤ m) : Lv l W s Q m :=
  ⟨h.us, h.a0, h.al, h.a1, h.q1, h.f0, h.f1, h.f2, h.fw, h.st, h.ct, h.r0, Int.le_trans h.r1 hm, Int.le_trans h.t1 hm, Int.le_trans h.n1 hm, h.t2⟩
/-- the arrival of the next unit -/
theorem Lv.got (h : Lv l W s Q n) (hq : Q + 1 ≤ s.ac + s.fr) : Lv l W s (Q + 1) n :=
  ⟨h.us, h.a0, h.al, by have := h.a1; omega, hq, h.f0, h.f1, h.f2, h.fw, h.st, h.ct, h.r0, h.r1, h.t1, h.n1, h.t2⟩
theorem Lv.adv_ (h : Lv l W s Q t) (h2 : t ≤ 1000) : Lv l W (adv t s) Q t ∧ (adv t s).nw = t := by
  have hn := h.n1
  unfold adv
  by_cases hx : s.nw < t ∧ t ≤ 1099511627776
  · rw [if_pos hx]
    exact ⟨⟨h.us, h.a0, h.al, h.a1, h.q1, h.f0, h.f1, h.f2, h.fw, h.st, h.ct, h.r0, h.r1, h.t1, Int.le_refl _, h.t1⟩, rfl⟩
  · rw [if_neg hx]
    exact ⟨h, by omega⟩
/-- a launched unit -/
theorem Lv.fly_ (h : Lv l W s Q n) (hf : s.fl < min W s.us.length) : Lv l W (fly s) Q n := by
  have h0 := h.f0
  have h1 := h.f1
  have h2 := h.f2
  have h3 := h.fw
  have h4 := h.q1
  unfold fly
  exact ⟨h.us, h.a0, h.al, h.a1, by simp only; omega, by simp only; omega, by simp only; omega, by simp only; omega, by simp only; omega, h.st, h.ct, h.r0, h.r1, h.n1, h.n1, Int.le_refl _⟩

/-- the three outcomes of Next -/
inductive Out (l : List (List Byte)) (W T t : Int) (s : Fs) (Q : Int) : Type
  | none (h0 : nxt 5 1 W T 255 t s = ((zr, false), adv t s)) (hu : s.us.length = 0 ∨ (min W s.us.length ≤ s.fl ∧ t - s.tm < T))
  | sent (k : Nat) (d : List Byte) (s' : Fs) (h0 : nxt 5 1 W T 255 t s = ((⟨false, false, 5, 1, s.ac + k, d⟩, true), s')) (hd : l[s.ac.toNat + k]? = some d) (ha : s'.ac = s.ac) (hf : s'.fl = k + 1) (hk : (k : Int) = s.fl ∨ k = 0) (hv : Lv l W s' Q (t + 1)) (hn : s'.nw = t) (ht : s'.tm = t) (hw : (k : Int) < W) (hu : s'.us = s.us) (hr : s'.fr = max s.fr (k + 1))
theorem Lv.next (h : Lv l W s Q t) (h0 : 0 ≤ t) (h2 : s.us.length = 0 ∨ t ≤ 254) (h3 : t ≤ 1000) (hW : 1 ≤ W) (hl : l.length ≤ 200) : Nonempty (Out l W T t s Q) := by
  obtain ⟨hv, hn⟩ := h.adv_ (by omega)
  have e1 : (adv t s).us = s.us := adv_us
  have e2 : (adv t s).fl = s.fl := adv_fl
  have e3 : (adv t s).ac = s.ac := adv_ac
  have e4 : (adv t s).tm = s.tm := adv_tm
  have e5 : (adv t s).fr = s.fr := adv_fr
  obtain ⟨s1, hs1⟩ : ∃ s1, s1 = adv t s := ⟨_, rfl⟩
  have hN : nxt 5 1 W T 255 t s = nxd 5 1 W T 255 s1 := by unfold nxt nxc; rw [← hs1, if_neg (by rw [hs1, hv.ct]; decide)]
  rw [← hs1] at hv hn e1 e2 e3 e4 e5
  have hst := hv.st
  have hlen := hv.len
  have ha0 := hv.a0
  by_cases hu : s1.us.length = 0
  · refine ⟨.none ?_ (.inl (by rw [← e1]; exact hu))⟩
    rw [hN, ← hs1]; unfold nxd; rw [if_pos (.inr hu)]
  · have hz : ¬ (s1.st ≠ 1 ∨ s1.us.length = 0) := by rw [hst]; simp; exact fun e => hu (by rw [e]; rfl)
    by_cases hf : s1.fl < min W s1.us.length
    · have hf0 := hv.f0
      obtain ⟨k, hk⟩ : ∃ k : Nat, s1.fl = (k : Int) := ⟨s1.fl.toNat, by omega⟩
      obtain ⟨d, hd⟩ : ∃ d, s1.us[k]? = some d := ⟨_, List.getElem?_eq_getElem (by omega)⟩
      refine ⟨.sent k d (fly s1) ?_ (by rw [← e3, ← hv.at_]; exact hd) e3 (by show s1.fl + 1 = _; rw [hk]) (.inl (by rw [← e2, hk])) ((hv.fly_ hf).more (by omega)) hn hn (by omega) e1 (by show max s1.fr (s1.fl + 1) = _; rw [e5, hk])⟩
      rw [hN]; unfold nxd; rw [if_neg hz, if_pos hf]
      have e : lau 5 1 s1 = ⟨false, false, 5, 1, s.ac + k, d⟩ := by
        unfold lau
        rw [hk, ← e3, Int.toNat_natCast, List.getD_eq_getElem?_getD, hd, Int.emod_eq_of_lt (by omega) (by omega)]; rfl
      rw [e]
    · by_cases hT : s1.nw - s1.tm < T
      · refine ⟨.none ?_ (.inr ⟨by rw [← e1, ← e2]; omega, by rw [← e4, ← hn]; exact hT⟩)⟩
        rw [hN, ← hs1]; unfold nxd; rw [if_neg hz, if_neg hf, if_pos hT]
      · have hr := hv.r1
        have hr0 := hv.r0
        have hR : s1.rp ≠ 255 := by
          rw [e1] at hu
          rcases h2 with h2 | h2
          · exact absurd h2 hu
          · omega
        obtain ⟨d, hd⟩ : ∃ d, s1.us[0]? = some d := ⟨_, List.getElem?_eq_getElem (by omega)⟩
        have hv2 : Lv l W { s1 with rp := s1.rp + 1, fl := 0 } Q (t + 1) := ⟨hv.us, hv.a0, hv.al, hv.a1, hv.q1, Int.le_refl _, by have := hv.f0; have := hv.f1; simp only; omega, hv.f2, hv.fw, hv.st, hv.ct, by simp only; omega, by simp only; omega, by have := hv.t1; simp only; omega, by have := hv.n1; simp only; omega, hv.t2⟩
        refine ⟨.sent 0 d (fly { s1 with rp := s1.rp + 1, fl := 0 }) ?_ (by rw [← e3, ← hv.at_]; exact hd) e3 rfl (.inr rfl) (hv2.fly_ (by simp only; omega)) hn hn (by omega) e1 (by show max s1.fr (0 + 1) = _; rw [e5]; rfl)⟩
        rw [hN]; unfold nxd; rw [if_neg hz, if_neg hf, if_neg hT, if_neg hR]
        have e : lau 5 1 { s1 with rp := s1.rp + 1, fl := 0 } = ⟨false, false, 5, 1, s.ac + ((0 : Nat) : Int), d⟩ := by
          unfold lau
          rw [← e3]
          dsimp only
          rw [List.getD_eq_getElem?_getD, show (0 : Int).toNat = 0 from rfl, hd, Int.emod_eq_of_lt (by omega) (by omega)]; rfl
        rw [e]

/-- Report of what has arrived -/
theorem Lv.report (h : Lv l W s Q n) (hl : l.length ≤ 200) (hn : s.nw = t) (rt : Bool) (bp : Int) (hb : 0 ≤ bp ∧ bp ≤ 3) : ∃ s', rpt 1 ⟨1, false, false, rt, bp, Q⟩ t s = (0, s') ∧ Lv l W s' Q n ∧ s'.ac = Q ∧ s'.nw = t ∧
    (rt = true → s'.fl = 0) ∧ (rt = false → s'.fl = max (s.fl - (Q - s.ac)) 0) ∧ s'.tm = (if Q = s.ac then s.tm else t) ∧ s'.ac + s'.fr = s.ac + s.fr := by
  have hql := h.q_le
  have h0 := h.a0
  have h1 := h.a1
  have hq := h.q1
  have hf0 := h.f0
  have hf1 := h.f1
  have hf2 := h.f2
  have hfw := h.fw
  have hal := h.al
  have e0 : adv t s = s := by unfold adv; rw [if_neg (by omega)]
  have hok : Cw.ok ⟨1, false, false, rt, bp, Q⟩ = true := Cw.ok_yes ⟨(by decide : (0 : Int) ≤ 1), (by decide : (1 : Int) ≤ 7), hb.1, hb.2, by simp only; omega, by simp only; omega⟩
  have hd : (Q - s.ac) % 256 = Q - s.ac := Int.emod_eq_of_lt (by omega) (by omega)
  have e1 : rpt 1 ⟨1, false, false, rt, bp, Q⟩ t s = (0, hld false (rtx rt (prg (Q - s.ac) s))) := by
    have e2 : rpc 1 ⟨1, false, false, rt, bp, Q⟩ s = rpd ⟨1, false, false, rt, bp, Q⟩ s := by unfold rpc; rw [if_neg (by rw [hok]; simp)]; rfl
    unfold rpt
    rw [e0, e2]
    unfold rpd
    dsimp only
    rw [hd, if_neg (by omega)]
  refine ⟨_, e1, ?_⟩
  have hp : Lv l W (prg (Q - s.ac) s) Q n ∧ (prg (Q - s.ac) s).ac = Q ∧ (prg (Q - s.ac) s).nw = t ∧ (prg (Q - s.ac) s).fl = max (s.fl - (Q - s.ac)) 0 ∧ (prg (Q - s.ac) s).tm = (if Q = s.ac then s.tm else t) ∧ (prg (Q - s.ac) s).ac + (prg (Q - s.ac) s).fr = s.ac + s.fr := by
    unfold prg
    by_cases hz : Q - s.ac = 0
    · rw [if_pos hz]
      exact ⟨h, by omega, hn, by rw [hz]; omega, by rw [if_pos (by omega)], rfl⟩
    · rw [if_neg hz]
      refine ⟨⟨?_, by simp only; omega, by simp only; omega, by simp only; omega, by simp only; omega, by simp only; omega, by simp only; omega, ?_, by simp only; omega, h.st, h.ct, Int.le_refl _, by have := h.r0; have := h.r1; simp only; omega, h.n1, h.n1, Int.le_refl _⟩, by simp only; omega, hn, rfl, by rw [if_neg (by omega)]; exact hn, by simp only; omega⟩
      · simp only
        rw [h.us, List.drop_drop]
        congr 1
        omega
      · simp only [List.length_drop]
        omega
  obtain ⟨s2, hs2⟩ : ∃ s2, s2 = prg (Q - s.ac) s := ⟨_, rfl⟩
  rw [← hs2] at hp ⊢
  obtain ⟨p1, p2, p3, p4, p5, p6⟩ := hp
  have e3 : ∀ s3 : Fs, s3.st = 1 → hld false s3 = s3 := fun s3 h3 => by
    unfold hld
    rw [if_pos (.inl h3)]
    obtain ⟨us, fl, fr, ac, st, ct, rp, tm, nw⟩ := s3
    have h4 : st = 1 := h3
    subst h4
    rfl
  have e2 := e3 (rtx rt s2) (by unfold rtx rew; split <;> exact p1.st)
  rw [e2]
  cases rt
  · exact ⟨p1, p2, p3, (fun e => nomatch e), fun _ => p4, p5, p6⟩
  · refine ⟨⟨p1.us, p1.a0, p1.al, p1.a1, p1.q1, Int.le_refl _, by have := p1.f0; have := p1.f1; show (0 : Int) ≤ s2.fr; omega, p1.f2, p1.fw, p1.st, p1.ct, p1.r0, p1.r1, p1.t1, p1.n1, p1.t2⟩, p2, p3, fun _ => rfl, (fun e => nomatch e), p5, p6⟩

/-- how many ticks are left, once all that has arrived is acknowledged -/
def mu (T t : Int) (s : Fs) : Int := s.us.length + (if s.fl = 0 then 0 else 1 + max 0 (s.tm + T - t))
theorem mu_nonneg : 0 ≤ mu T t s := by unfold mu; split <;> omega
theorem mu_zero (h : mu T t s ≤ 0) : s.us.length = 0 := by unfold mu at h; split at h <;> omega
/-- ... behind a Report -/
theorem mu_le (h : Lv l W s Q t) (hT : T ≤ 8) : mu T t s ≤ l.length + 9 := by
  have h1 := h.len
  have h2 := h.a0
  have h3 := h.t1
  unfold mu
  split <;> omega

/-- nothing is lost from tick L on: then, behind it, what has arrived is acknowledged, and little is left to do -/
def Sy (L M T t : Int) (s : Fs) (Q : Int) : Prop := t ≤ L ∨ (s.ac = Q ∧ (s.us.length = 0 ∨ t + mu T t s ≤ M))
/-- what a frame does at the receiving end: the count, the wish for repetition -/
def hr (W Q : Int) (ag : Bool) (q : Int) : Int × Bool := if q = Q then (Q + 1, false) else if (q - Q) % 256 < W then (Q, true) else (Q, ag)
variable {L M : Int}
theorem Sy.early {s' : Fs} {Q' : Int} (h : t < L) : Sy L M T (t + 1) s' Q' := .inl (by omega)
theorem Sy.bound (h : Sy L M T t s Q) (hu : s.us.length ≠ 0) (hL : L ≤ M) : t ≤ M := by
  rcases h with h | ⟨_, h | h⟩
  · omega
  · exact absurd h hu
  · have := mu_nonneg (T := T) (t := t) (s := s); omega
theorem Sy.none {s' : Fs} {ag : Bool} (h : Lv l W s Q t) (hy : Sy L M T t s Q) (hu : s.us.length = 0 ∨ (min W s.us.length ≤ s.fl ∧ t - s.tm < T)) (hv : Lv l W s' Q (t + 1)) (hac : s'.ac = Q) (hf1 : ag = true → s'.fl = 0) (hf2 : ag = false → s'.fl = max (s.fl - (Q - s.ac)) 0)
    (htm : s'.tm = if Q = s.ac then s.tm else t) (hM : L + 1 + l.length + 9 ≤ M) (hT : T ≤ 8) (hW : 1 ≤ W) : Sy L M T (t + 1) s' Q := by
  by_cases ht : t + 1 ≤ L
  · exact .inl ht
  · refine .inr ⟨hac, ?_⟩
    have hl1 := h.len
    have hl2 := hv.len
    rcases hy with hy | ⟨e, hy⟩
    · have := mu_le hv hT
      exact .inr (by omega)
    · have hlen : s'.us.length = s.us.length := by omega
      rcases hy with hy | hy
      · exact .inl (by omega)
      · by_cases hz : s.us.length = 0
        · exact .inl (by omega)
        · rcases hu with hu | ⟨hu, htT⟩
          · exact absurd hu hz
          refine .inr ?_
          have hf0 : s.fl ≠ 0 := by omega
          have hfn := h.f0
          unfold mu at hy ⊢
          rw [if_neg hf0] at hy
          cases ag with
          | true => rw [if_pos (hf1 rfl)]; omega
          | false =>
            have e2 := hf2 rfl
            rw [if_pos e.symm] at htm
            rw [if_neg (by omega)]
            omega
theorem Sy.sent {s1 s' : Fs} {ag : Bool} {k : Nat} {Q' : Int} {ag' : Bool} (h : Lv l W s Q t) (hy : Sy L M T t s Q) (hk : (k : Int) = s.fl ∨ k = 0) (hkW : (k : Int) < W) (hW : W ≤ 127) (hlt : s.ac.toNat + k < l.length) (hac1 : s1.ac = s.ac) (hfl1 : s1.fl = k + 1)
    (hh : hr W Q ag (s.ac + k) = (Q', ag')) (hv : Lv l W s' Q' (t + 1)) (hac : s'.ac = Q') (hf1 : ag' = true → s'.fl = 0) (hf2 : ag' = false → s'.fl = max (s1.fl - (Q' - s1.ac)) 0)
    (hM : L + 1 + l.length + 9 ≤ M) (hT : T ≤ 8) : Sy L M T (t + 1) s' Q' := by
  by_cases ht : t + 1 ≤ L
  · exact .inl ht
  · refine .inr ⟨hac, ?_⟩
    have hl1 := h.len
    have hl2 := hv.len
    have ha0 := h.a0
    rcases hy with hy | ⟨e, hy⟩
    · have := mu_le hv hT
      exact .inr (by omega)
    · have hy : t + mu T t s ≤ M := by
        rcases hy with hy | hy
        · omega
        · exact hy
      refine .inr ?_
      unfold hr at hh
      by_cases hk0 : k = 0
      · subst hk0
        rw [if_pos (by omega)] at hh
        injection hh with e1 e2
        subst e1 e2
        have e3 := hf2 rfl
        have : s'.fl = 0 := by omega
        unfold mu at hy ⊢
        rw [if_pos this]
        split at hy <;> omega
      · rw [if_neg (by omega), if_pos (by rw [e]; rw [show Q + (k : Int) - Q = k by omega, Int.emod_eq_of_lt (by omega) (by omega)]; exact hkW)] at hh
        injection hh with e1 e2
        subst e1 e2
        unfold mu at hy ⊢
        rw [if_pos (hf1 rfl)]
        rw [if_neg (by omega)] at hy
        omega
end
end Go.Proofs.Ytdpjjhbfhlmolaa.Fop

/-
  Plain mathematics: one tick of a sending end beside a receiving end, frames and control words lost for a while.
-/
namespace Go.Proofs.Ytdpjjhbfhlmolaa.Fop
open Go.Proofs.Ytdpjjhbfhlmolaa.Tcf (Fr)
open Go.Proofs.Ytdpjjhbfhlmolaa.Clc (Cw)

/-- n units queued -/
def sqq (us : List (List Byte)) : Fs := ⟨us, 0, 0, 0, 1, 0, 0, 0, 0⟩
theorem snd_sqq {l : List (List Byte)} {m : Nat} {d : List Byte} (hd : l[m]? = some d) (h1 : 1 ≤ d.length) (h2 : d.length ≤ 1017) (hl : l.length ≤ 200) : snd d (sqq (l.take m)) = (0, sqq (l.take (m + 1))) := by
  have hm := (List.getElem?_eq_some_iff.1 hd).1
  unfold snd sqq
  rw [if_neg (by omega), if_neg (by rw [List.length_take]; omega), List.take_add_one, hd]
  rfl
theorem lv_sqq (l : List (List Byte)) {W : Int} (hW : 0 ≤ W) : Lv l W (sqq l) 0 0 :=
  ⟨rfl, Int.le_refl _, by show (0 : Int) ≤ _; omega, Int.le_refl _, by show (0 : Int) ≤ 0 + 0; omega, Int.le_refl _, Int.le_refl _, by show (0 : Int) ≤ _; omega, hW, rfl, rfl, Int.le_refl _, Int.le_refl _, Int.le_refl _, Int.le_refl _, Int.le_refl _⟩

/-- at the beginning of tick t: Q units have arrived -/
structure Tq (l : List (List Byte)) (W T L M t Q : Int) (s : Fs) : Prop where
  v : Lv l W s Q t
  y : Sy L M T t s Q
/-- behind Next, and what its frame did; a Report leads to the next tick -/
structure Tm (l : List (List Byte)) (W T L M t Q : Int) (ag : Bool) (s : Fs) : Prop where
  v : Lv l W s Q (t + 1)
  nw : s.nw = t
  fut : ∀ s2 : Fs, Lv l W s2 Q (t + 1) → s2.ac = Q → (ag = true → s2.fl = 0) → (ag = false → s2.fl = max (s.fl - (Q - s.ac)) 0) → (s2.tm = if Q = s.ac then s.tm else t) → Sy L M T (t + 1) s2 Q
section
variable {l : List (List Byte)} {W T L M t Q : Int} {ag : Bool} {s : Fs}
theorem Tq.start (hL : 0 ≤ L) (hW : 0 ≤ W) : Tq l W T L M 0 0 (sqq l) := ⟨lv_sqq l hW, .inl hL⟩
theorem Tm.skip (h : Tm l W T L M t Q ag s) (hL : t < L) : Tq l W T L M (t + 1) Q s := ⟨h.v, Sy.early hL⟩
theorem Tm.report (h : Tm l W T L M t Q ag s) (hl : l.length ≤ 200) : ∃ s2, rpt 1 ⟨1, false, false, ag, 0, Q⟩ t s = (0, s2) ∧ Tq l W T L M (t + 1) Q s2 := by
  obtain ⟨s2, e, v2, hac, _, f1, f2, ftm, _⟩ := h.v.report hl h.nw ag 0 (by decide)
  exact ⟨s2, e, v2, h.fut s2 v2 hac f1 f2 ftm⟩
theorem Tq.next (h : Tq l W T L M t Q s) (ag : Bool) (h0 : 0 ≤ t) (h3 : t ≤ 999) (hLM : L + 10 + l.length ≤ M) (hM : M ≤ 254) (hW : 1 ≤ W) (hW2 : W ≤ 127) (hT : T ≤ 8) (hl : l.length ≤ 200) :
    (∃ s1, nxt 5 1 W T 255 t s = ((zr, false), s1) ∧ Tm l W T L M t Q ag s1) ∨
    (∃ (q : Int) (d : List Byte) (s1 : Fs), nxt 5 1 W T 255 t s = ((⟨false, false, 5, 1, q, d⟩, true), s1) ∧ l[q.toNat]? = some d ∧ 0 ≤ q ∧ q < l.length ∧ Q - W ≤ q ∧ q < Q + W ∧ 0 ≤ Q ∧ Q ≤ l.length ∧ (t < L → Tm l W T L M t Q ag s1) ∧ Tm l W T L M t (hr W Q ag q).1 (hr W Q ag q).2 s1) := by
  have hb : s.us.length = 0 ∨ t ≤ 254 := by
    by_cases hz : s.us.length = 0
    · exact .inl hz
    · exact .inr (by have := h.y.bound hz (by omega); omega)
  obtain ⟨r⟩ := h.v.next (T := T) h0 hb (by omega) hW hl
  cases r with
  | none e hu =>
    obtain ⟨hv, hnw⟩ := h.v.adv_ (by omega)
    refine .inl ⟨_, e, ⟨hv.more (by omega), hnw, fun s2 v2 hac f1 f2 ftm => ?_⟩⟩
    rw [adv_fl, adv_ac] at f2
    rw [adv_ac, adv_tm] at ftm
    exact Sy.none h.v h.y hu v2 hac f1 f2 ftm (by omega) hT hW
  | sent k d s1 e hd ha hf hk hv hnw ht hw hu hrr =>
    have hlt := (List.getElem?_eq_some_iff.1 hd).1
    have a0 := h.v.a0
    have a1 := h.v.a1
    have q1 := h.v.q1
    have fw := h.v.fw
    have ql := h.v.q_le
    refine .inr ⟨s.ac + k, d, s1, e, by rw [show (s.ac + (k : Int)).toNat = s.ac.toNat + k by omega]; exact hd, by omega, by omega, by omega, by omega, by omega, ql, fun hL => ⟨hv, hnw, fun s2 _ _ _ _ _ => Sy.early hL⟩, ?_⟩
    have hv2 : Lv l W s1 (hr W Q ag (s.ac + k)).1 (t + 1) := by
      unfold hr
      split
      · exact hv.got (by rw [ha, hrr]; omega)
      · split <;> exact hv
    exact ⟨hv2, hnw, fun s2 v2 hac f1 f2 ftm => Sy.sent h.v h.y hk hw hW2 hlt ha hf rfl v2 hac f1 f2 (by omega) hT⟩
/-- when the loop has ended -/
theorem Tq.done (h : Tq l W T L M t Q s) (hu : s.us.length = 0) : Q = l.length ∧ s.ac = l.length := by
  have h1 := h.v.len
  have h2 := h.v.a1
  have h3 := h.v.q_le
  omega
theorem Tq.late (h : Tq l W T L M t Q s) (ht : L < t) (hM : M < t) : s.us.length = 0 := by
  rcases h.y with hy | ⟨_, hy | hy⟩
  · omega
  · exact hy
  · have := mu_nonneg (T := T) (t := t) (s := s); omega
theorem Tq.soon (h : Tq l W T L M t Q s) (hu : s.us.length ≠ 0) (hL : L ≤ M) : t ≤ M := h.y.bound hu hL

/-- what the receiving end answers -/
def vd (W Q q : Int) : Int := if q = Q then 1 else if (q - Q) % 256 < W then 3 else 2
theorem take_seq {q : Int} {d : List Byte} (hd1 : 1 ≤ d.length) (hd2 : d.length ≤ 1017) (hq0 : 0 ≤ q) (hq1 : q ≤ 200) (hQ0 : 0 ≤ Q) (hQ1 : Q ≤ 200) (hW : 1 ≤ W) (hW2 : W ≤ 127) (hlo : Q - W ≤ q) (hhi : q < Q + W) :
    Far.tke 5 1 W ⟨false, false, ag, 0, Q⟩ ⟨false, false, 5, 1, q, d⟩ true = (vd W Q q, ⟨false, false, (hr W Q ag q).2, 0, (hr W Q ag q).1⟩) := by
  have hok : Fr.ok ⟨false, false, 5, 1, q, d⟩ = true := by
    rw [Fr.ok_yes ⟨(by decide : (0 : Int) ≤ 5), (by decide : (5 : Int) ≤ 1023), (by decide : (0 : Int) ≤ 1), (by decide : (1 : Int) ≤ 7), hq0, by show q ≤ 255; omega, hd1, hd2⟩]
    rfl
  have e1 : Far.tke 5 1 W ⟨false, false, ag, 0, Q⟩ ⟨false, false, 5, 1, q, d⟩ true = Far.rcv W ⟨false, false, ag, 0, Q⟩ q true := by
    unfold Far.tke Far.mine
    rw [hok]
    rfl
  rw [e1]
  unfold Far.rcv vd hr
  by_cases h1 : q = Q
  · rw [if_pos h1, if_pos h1, if_pos h1, if_pos rfl, show (Q + 1) % 256 = Q + 1 by omega]
  · rw [if_neg h1, if_neg h1, if_neg h1]
    by_cases h2 : (q - Q) % 256 < W
    · rw [if_pos h2, if_pos h2, if_pos h2]
    · rw [if_neg h2, if_neg h2, if_neg h2, if_pos (by show (q - Q + W) % 256 < W; omega)]
end
end Go.Proofs.Ytdpjjhbfhlmolaa.Fop

/-
  Package farm: what it is to be a receiving end; New, works, clear, count, receive.
-/
namespace Go.Proofs.Ytdpjjhbfhlmolaa.Far
open Go.RowKit
open Pac (bel_new Cel.later)

/-- block g is a receiving end of spacecraft K with window W and channel H -/
def FC (w : World) (g : Nat) (K W H : Int) (lk wt rt : Bool) (bc nx : Int) : Prop :=
  Cel w g 92 #[.int .i64 K, .int .i64 W, .int .i64 H, .bool lk, .bool wt, .bool rt, .int .i64 bc, .int .i64 nx]
/-- the same, with the state as one, and its bounds -/
structure FW (w : World) (g : Nat) (K H W : Int) (s : St) : Prop where
  cel : FC w g K W H s.lk s.wt s.rt s.bc s.nx
  ok : s.Ok
  w1 : 1 ≤ W
  w2 : W ≤ 127

section
variable {w w' : World} {g : Nat} {K W H bc nx : Int} {lk wt rt : Bool} {S : List Nat} {s : St}
theorem FC.put (h : FC w g K W H lk wt rt bc nx) (i : Nat) (v : Value) : Cel (w.setCell ⟨g, i, none⟩ v) g 92 (#[.int .i64 K, .int .i64 W, .int .i64 H, .bool lk, .bool wt, .bool rt, .int .i64 bc, .int .i64 nx].setIfInBounds i v) := Cel.put (t := 92) h i v
theorem FC.lock (h : FC w g K W H lk wt rt bc nx) (b : Bool) : FC (w.setCell ⟨g, 3, none⟩ (.bool b)) g K W H b wt rt bc nx := h.put 3 _
theorem FC.wait (h : FC w g K W H lk wt rt bc nx) (b : Bool) : FC (w.setCell ⟨g, 4, none⟩ (.bool b)) g K W H lk b rt bc nx := h.put 4 _
theorem FC.retr (h : FC w g K W H lk wt rt bc nx) (b : Bool) : FC (w.setCell ⟨g, 5, none⟩ (.bool b)) g K W H lk wt b bc nx := h.put 5 _
theorem FC.byps (h : FC w g K W H lk wt rt bc nx) (b : Int) : FC (w.setCell ⟨g, 6, none⟩ (.int .i64 b)) g K W H lk wt rt b nx := h.put 6 _
theorem FC.next (h : FC w g K W H lk wt rt bc nx) (b : Int) : FC (w.setCell ⟨g, 7, none⟩ (.int .i64 b)) g K W H lk wt rt bc b := h.put 7 _
theorem FC.lt (h : FC w g K W H lk wt rt bc nx) : g < w.heap.size := Cel.lt (t := 92) h
theorem FC.only (h : FC w g K W H lk wt rt bc nx) (k : Only S w w') (hg : g ∉ S) : FC w' g K W H lk wt rt bc nx := Cel.only (t := 92) h k hg
theorem FC.below (h : FC w g K W H lk wt rt bc nx) (k : Below w.heap.size w w') : FC w' g K W H lk wt rt bc nx := h.only (Only.of_below (S := []) k) (by simp)
theorem FC.draws (h : FC w g K W H lk wt rt bc nx) (n : Nat) : FC (w.drewN n) g K W H lk wt rt bc nx := h
theorem FC.c0 (h : FC w g K W H lk wt rt bc nx) : w.cell? ⟨g, 0, none⟩ = some (.int .i64 K) := Cel.cell (t := 92) h 0
theorem FC.c1 (h : FC w g K W H lk wt rt bc nx) : w.cell? ⟨g, 1, none⟩ = some (.int .i64 W) := Cel.cell (t := 92) h 1
theorem FC.c2 (h : FC w g K W H lk wt rt bc nx) : w.cell? ⟨g, 2, none⟩ = some (.int .i64 H) := Cel.cell (t := 92) h 2
theorem FC.c3 (h : FC w g K W H lk wt rt bc nx) : w.cell? ⟨g, 3, none⟩ = some (.bool lk) := Cel.cell (t := 92) h 3
theorem FC.c4 (h : FC w g K W H lk wt rt bc nx) : w.cell? ⟨g, 4, none⟩ = some (.bool wt) := Cel.cell (t := 92) h 4
theorem FC.c5 (h : FC w g K W H lk wt rt bc nx) : w.cell? ⟨g, 5, none⟩ = some (.bool rt) := Cel.cell (t := 92) h 5
theorem FC.c6 (h : FC w g K W H lk wt rt bc nx) : w.cell? ⟨g, 6, none⟩ = some (.int .i64 bc) := Cel.cell (t := 92) h 6
theorem FC.c7 (h : FC w g K W H lk wt rt bc nx) : w.cell? ⟨g, 7, none⟩ = some (.int .i64 nx) := Cel.cell (t := 92) h 7
theorem FC.free (h : FC w g K W H lk wt rt bc nx) (i : Nat) : w.frozen? ⟨g, i, none⟩ = false := Cel.free (t := 92) h i
theorem FW.only (h : FW w g K H W s) (k : Only S w w') (hg : g ∉ S) : FW w' g K H W s := ⟨h.cel.only k hg, h.ok, h.w1, h.w2⟩
theorem FW.below (h : FW w g K H W s) (k : Below w.heap.size w w') : FW w' g K H W s := ⟨h.cel.below k, h.ok, h.w1, h.w2⟩
theorem FW.draws (h : FW w g K H W s) (n : Nat) : FW (w.drewN n) g K H W s := ⟨h.cel, h.ok, h.w1, h.w2⟩
theorem put_only (w : World) (g i : Nat) (v : Value) : Only [g] w (w.setCell ⟨g, i, none⟩ v) := (Only.refl [g] w).put (p := ⟨g, i, none⟩) (.inl (by simp)) v
theorem only_then {w w' w2 : World} {g : Nat} (h : Only [g] w w') (k : Only [g] w' w2) : Only [g] w w2 := h.trans k (fun _ hx => .inl hx)
end

/-! ### New -/
set_option maxHeartbeats 1000000 in
theorem new_any (K H n : Int) (w : World) (hk0 : 0 ≤ K) (hk1 : K ≤ 1023) (hh0 : 0 ≤ H) (hh1 : H ≤ 7) :
    Calls Try.prog 30 #[.int .i64 K, .int .i64 H, .int .i64 n] w fun e w' => e = .returned (.pointer (some ⟨w.heap.size, 0, none⟩)) ∧ FW w' w.heap.size K H (clw n) st0 ∧ Below w.heap.size w w' := by
  have hM : clw n = min (max n 1) 127 := rfl
  have hin := clw_in n
  obtain ⟨W, hW⟩ : ∃ W, W = clw n := ⟨_, rfl⟩
  rw [← hW] at hM hin ⊢
  obtain ⟨M, hMM⟩ : ∃ M, M = max n 1 := ⟨_, rfl⟩
  have m1 : max n 1 = M := hMM.symm
  have m1' : (if n < 1 then (1 : Int) else n) = M := by split <;> omega
  have m2 : min M 127 = W := by omega
  have m2' : (if 127 < M then (127 : Int) else M) = W := by split <;> omega
  have hF : FW (w.alloc (.cells #[.int .i64 K, .int .i64 W, .int .i64 H, .bool false, .bool false, .bool false, .int .i64 0, .int .i64 0] 92)) w.heap.size K H W st0 := ⟨Cel.new _ _ _, st0_ok, hin.1, hin.2⟩
  have HF := Lib.hid hF
  clear hM hin hW hMM hF
  go_enter Try.func30, Try.ntmps30
  go_wp2
  go_ret
  exact ⟨rfl, HF.out, bel_new _ _⟩
set_option maxHeartbeats 1000000 in
theorem new_bad (K H n : Int) (w : World) (h : K < 0 ∨ 1023 < K ∨ H < 0 ∨ 7 < H) :
    Calls Try.prog 30 #[.int .i64 K, .int .i64 H, .int .i64 n] w fun e w' => e = .returned (.pointer none) ∧ w = w' := by
  by_cases h1 : K < 0
  · clear h
    go_enter Try.func30, Try.ntmps30
    go_wp2
    go_ret
    exact ⟨rfl, rfl⟩
  have p1 : 0 ≤ K := by omega
  by_cases h2 : 1023 < K
  · clear h h1
    go_enter Try.func30, Try.ntmps30
    go_wp2
    go_ret
    exact ⟨rfl, rfl⟩
  have p2 : K ≤ 1023 := by omega
  by_cases h3 : H < 0
  · clear h h1 h2
    go_enter Try.func30, Try.ntmps30
    go_wp2
    go_ret
    exact ⟨rfl, rfl⟩
  have p3 : 0 ≤ H := by omega
  have h4 : 7 < H := by omega
  clear h h1 h2 h3
  go_enter Try.func30, Try.ntmps30
  go_wp2
  go_ret
  exact ⟨rfl, rfl⟩

/-! ### works, clear, count -/
set_option maxHeartbeats 400000 in
theorem fworks_any (w : World) (g : Nat) (K H W : Int) (s : St) (h : FW w g K H W s) :
    Calls Try.prog 53 #[.pointer (some ⟨g, 0, none⟩)] w fun e w' => e = .returned (.bool true) ∧ w = w' := by
  have c1 := h.cel.c1
  have t1 : 0 < W := by have := h.w1; omega
  clear h
  go_enter Try.func53, Try.ntmps53
  go_wp2
  go_ret
  exact ⟨rfl, rfl⟩
set_option maxHeartbeats 400000 in
theorem fworks_nil (w : World) : Calls Try.prog 53 #[.pointer none] w fun e w' => e = .returned (.bool false) ∧ w = w' := by
  go_enter Try.func53, Try.ntmps53
  go_wp2
  go_ret
  exact ⟨rfl, rfl⟩

set_option maxHeartbeats 400000 in
theorem clear_any (w : World) (g : Nat) (K W H bc nx : Int) (lk wt rt : Bool) (h : FC w g K W H lk wt rt bc nx) :
    Calls Try.prog 69 #[.pointer (some ⟨g, 0, none⟩)] w fun e w' => e = .returned (.tuple #[]) ∧ FC w' g K W H lk false false bc nx ∧ Only [g] w w' := by
  have e1 := (h.wait false).retr false
  have o1 := only_then (put_only w g 4 (.bool false)) (put_only _ g 5 (.bool false))
  have c4 := h.c4
  have c5 := h.c5
  have f4 := h.free 4
  have f5 := h.free 5
  clear h
  go_enter Try.func69, Try.ntmps69
  go_wp2
  go_end0
  exact ⟨rfl, e1, o1⟩

set_option maxHeartbeats 400000 in
theorem count_any (w : World) (g : Nat) (K W H bc nx : Int) (lk wt rt : Bool) (h : FC w g K W H lk wt rt bc nx) (h0 : 0 ≤ bc) (h3 : bc ≤ 3) :
    Calls Try.prog 64 #[.pointer (some ⟨g, 0, none⟩)] w fun e w' => e = .returned (.tuple #[]) ∧ FC w' g K W H lk wt rt ((bc + 1) % 4) nx ∧ Only [g] w w' := by
  have ha := add_any bc 1 2 w
  rw [sadd2 h0 h3] at ha
  obtain ⟨B, hB⟩ : ∃ B, B = (bc + 1) % 4 := ⟨_, rfl⟩
  rw [← hB] at ha ⊢
  have e1 := h.byps B
  have o1 := put_only w g 6 (.int .i64 B)
  have c6 := h.c6
  have f6 := h.free 6
  clear h hB
  go_enter Try.func64, Try.ntmps64
  go_wp2_with (go_at_call 59; refine ha.mono ?_; rintro e w' ⟨rfl, rfl⟩)
  go_end0
  exact ⟨rfl, e1, o1⟩

/-! ### receive -/
theorem quiet_same {P : Program} {f : FuncId} {args : Array Value} {w : World} {n : Nat} {v : Value} (h : Calls P f args (w.drewN n) fun e w' => e = .returned v ∧ w.drewN n = w') :
    Calls P f args (w.drewN n) fun e w'' => e = .returned v ∧ ∃ m, w'' = w.drewN m := h.mono fun _ _ ⟨he, hb⟩ => ⟨he, n, hb.symm⟩
set_option maxHeartbeats 4000000 in
theorem receive_any (q : Int) (room : Bool) (w : World) (g : Nat) (K H W : Int) (s : St) (h : FW w g K H W s) (hq0 : 0 ≤ q) (hq1 : q ≤ 255) :
    Calls Try.prog 65 #[.pointer (some ⟨g, 0, none⟩), .int .i64 q, .bool room] w fun e w' => e = .returned (.int .i64 (rcv W s q room).1) ∧ FW w' g K H W (rcv W s q room).2 ∧ Only [g] w w' := by
  obtain ⟨hc, hok, hw1, hw2⟩ := h
  have hok2 := rcv_ok (W := W) hok q room
  obtain ⟨lk, wt, rt, bc, nx⟩ := s
  obtain ⟨k1, k2, k3, k4⟩ := hok
  dsimp only at hc k1 k2 k3 k4
  have hwr : wrap64 (-W) = -W := by unfold wrap64; omega
  have hF := add_any nx (wrap64 (-W)) 8
  rw [show sadd nx (wrap64 (-W)) 8 = sadd nx (-W) 8 by rw [hwr]] at hF
  have hN := add_any nx 1 8
  rw [sadd8 k3 k4] at hN
  have hG := within_any q nx W 8
  have hR := within_any q (sadd nx (-W) 8) W 8
  rw [gap_p hq0 hq1 k3 k4 hw2] at hG
  rw [rep_p hq0 hq1 k3 k4 hw2] at hR
  obtain ⟨F, hFF⟩ : ∃ F, F = sadd nx (-W) 8 := ⟨_, rfl⟩
  rw [← hFF] at hF hR
  have c1 := hc.c1
  have c7 := hc.c7
  have o0 : ∀ n, Only [g] w (w.drewN n) := fun n => (Only.refl [g] w).draws n
  have Hw := Lib.hid (And.intro hw1 hw2)
  by_cases hq : q = nx
  · subst hq
    have hb : (q == q) = true := by simp
    cases room with
    | true =>
      have e : rcv W ⟨lk, wt, rt, bc, q⟩ q true = (1, ⟨lk, false, false, bc, (q + 1) % 256⟩) := by unfold rcv; simp
      rw [e] at hok2 ⊢
      obtain ⟨N, hNN⟩ : ∃ N, N = (q + 1) % 256 := ⟨_, rfl⟩
      rw [← hNN] at hN hok2 ⊢
      have Hok2 := Lib.hid hok2
      have f7 := hc.free 7
      clear hG hR hNN hFF k1 k2 k3 k4 hwr e hq0 hq1 hok2 hw1 hw2
      go_enter Try.func65, Try.ntmps65
      go_wp2_with fail
      go_quiet ((go_at_call 59; exact quiet_same (hF _)))
      go_wp2_with (go_at_call 59; refine (hN _).mono ?_; rintro e w' ⟨rfl, rfl⟩)
      refine (clear_any _ g K W H bc N lk wt rt ((hc.draws nq).next N)).mono ?_
      rintro e w2 ⟨rfl, hc2, o2⟩
      go_wp2
      go_ret
      exact ⟨rfl, ⟨hc2, Hok2.out, Hw.out.1, Hw.out.2⟩, only_then (only_then (o0 nq) (put_only _ g 7 _)) o2⟩
    | false =>
      have e : rcv W ⟨lk, wt, rt, bc, q⟩ q false = (6, ⟨lk, true, true, bc, q⟩) := by unfold rcv; simp
      rw [e] at hok2 ⊢
      have Hok2 := Lib.hid hok2
      have c4 := hc.c4
      have c5 := hc.c5
      have f4 := hc.free 4
      have f5 := hc.free 5
      clear hG hR hN hFF k1 k2 k3 k4 hwr e hq0 hq1 hok2 hw1 hw2
      go_enter Try.func65, Try.ntmps65
      go_wp2_with fail
      go_quiet ((go_at_call 59; exact quiet_same (hF _)))
      go_wp2
      go_ret
      exact ⟨rfl, ⟨((hc.draws nq).wait true).retr true, Hok2.out, Hw.out.1, Hw.out.2⟩, only_then (only_then (o0 nq) (put_only _ g 4 _)) (put_only _ g 5 _)⟩
  · have hb : (q == nx) = false := by simpa using hq
    cases hg : decide ((q - nx) % 256 < W) with
    | true =>
      have e : rcv W ⟨lk, wt, rt, bc, nx⟩ q room = (3, ⟨lk, wt, true, bc, nx⟩) := by unfold rcv; rw [if_neg hq, if_pos (of_decide_eq_true hg)]
      rw [e] at hok2 ⊢
      rw [hg] at hG
      have Hok2 := Lib.hid hok2
      have c5 := hc.c5
      have f5 := hc.free 5
      clear hR hN hFF k1 k2 k3 k4 hwr e hq0 hq1 hok2 hw1 hw2 hq hg
      go_enter Try.func65, Try.ntmps65
      go_wp2_with fail
      go_quiet ((go_at_call 59; exact quiet_same (hF _)))
      go_wp2_with (go_at_call 70; refine (hG _).mono ?_; rintro e w' ⟨rfl, rfl⟩)
      go_ret
      exact ⟨rfl, ⟨(hc.draws nq).retr true, Hok2.out, Hw.out.1, Hw.out.2⟩, only_then (o0 nq) (put_only _ g 5 _)⟩
    | false =>
      rw [hg] at hG
      cases hr : decide ((q - nx + W) % 256 < W) with
      | true =>
        have e : rcv W ⟨lk, wt, rt, bc, nx⟩ q room = (2, ⟨lk, wt, rt, bc, nx⟩) := by unfold rcv; rw [if_neg hq, if_neg (of_decide_eq_false hg), if_pos (of_decide_eq_true hr)]
        rw [e] at hok2 ⊢
        rw [hr] at hR
        have Hok2 := Lib.hid hok2
        clear hN hFF k1 k2 k3 k4 hwr e hq0 hq1 hok2 hw1 hw2 hq hg hr
        go_enter Try.func65, Try.ntmps65
        go_wp2_with fail
        go_quiet ((go_at_call 59; exact quiet_same (hF _)))
        go_wp2_with fail
        refine (hG _).mono ?_
        rintro e w' ⟨rfl, rfl⟩
        go_wp2_with fail
        refine (hR _).mono ?_
        rintro e w' ⟨rfl, rfl⟩
        go_wp2
        go_ret
        exact ⟨rfl, ⟨hc.draws nq, Hok2.out, Hw.out.1, Hw.out.2⟩, o0 nq⟩
      | false =>
        have e : rcv W ⟨lk, wt, rt, bc, nx⟩ q room = (4, ⟨true, wt, rt, bc, nx⟩) := by unfold rcv; rw [if_neg hq, if_neg (of_decide_eq_false hg), if_neg (of_decide_eq_false hr)]
        rw [e] at hok2 ⊢
        rw [hr] at hR
        have Hok2 := Lib.hid hok2
        have c3 := hc.c3
        have f3 := hc.free 3
        clear hN hFF k1 k2 k3 k4 hwr e hq0 hq1 hok2 hw1 hw2 hq hg hr
        go_enter Try.func65, Try.ntmps65
        go_wp2_with fail
        go_quiet ((go_at_call 59; exact quiet_same (hF _)))
        go_wp2_with fail
        refine (hG _).mono ?_
        rintro e w' ⟨rfl, rfl⟩
        go_wp2_with fail
        refine (hR _).mono ?_
        rintro e w' ⟨rfl, rfl⟩
        go_wp2
        go_ret
        exact ⟨rfl, ⟨(hc.draws nq).lock true, Hok2.out, Hw.out.1, Hw.out.2⟩, only_then (o0 nq) (put_only _ g 3 _)⟩
end Go.Proofs.Ytdpjjhbfhlmolaa.Far

/-
  Package farm: accepts, obey, judge, Take, Report, Clone.
-/
namespace Go.Proofs.Ytdpjjhbfhlmolaa.Far
open Go.RowKit
open Pac (bel_new Cel.later)
open Tcf (Fr dir tvalid_any tdirective_any)

/-- a slice of bytes leads nowhere into a receiving end -/
theorem FC.keeps {w w' : World} {g n c : Nat} {K W H bc nx : Int} {lk wt rt : Bool} {a : Option Addr} {l : List Byte} (h : FC w g K W H lk wt rt bc nx) (hd : Rd w a l n c) (k : Only [g] w w') : Rd w' a l n c := by
  refine ⟨hd.len, fun hl => ?_, hd.nil, hd.le, hd.max⟩
  obtain ⟨b, off, e, hlt, hc⟩ := hd.bs hl
  refine ⟨b, off, e, Nat.lt_of_lt_of_le hlt k.size, fun i x hx => ?_⟩
  have h1 := hc i x hx
  have hb : b ≠ g := by
    rintro rfl
    have h2 := Cel.cell (t := 92) h (off + i)
    rw [h1] at h2
    have hlt8 := (Array.getElem?_eq_some_iff.1 h2.symm).1
    simp at hlt8
    rcases (show off + i = 0 ∨ off + i = 1 ∨ off + i = 2 ∨ off + i = 3 ∨ off + i = 4 ∨ off + i = 5 ∨ off + i = 6 ∨ off + i = 7 by omega) with h3 | h3 | h3 | h3 | h3 | h3 | h3 | h3 <;> (rw [h3] at h2; simp at h2)
  have h2 := k.block b hlt (by simpa using hb)
  unfold World.cell? at h1 ⊢
  simp only at h1 ⊢
  rw [h2]
  exact h1

set_option maxHeartbeats 4000000 in
theorem accepts_any (byp con : Bool) (cr ch sq : Int) (a : Option Addr) (l : List Byte) (n c : Nat) (w : World) (g : Nat) (K H W : Int) (s : St) (h : FW w g K H W s) (hl : Hid (l.length = n)) (hm : n ≤ maxLen) :
    Calls Try.prog 54 #[.pointer (some ⟨g, 0, none⟩), .agg #[.bool byp, .bool con, .int .i64 cr, .int .i64 ch, .int .i64 sq, .slice a n c]] w fun e w' => e = .returned (.bool (mine K H ⟨byp, con, cr, ch, sq, l⟩)) ∧ Below w.heap.size w w' := by
  have hv := fun W => tvalid_any byp con cr ch sq a l n c W hl hm
  obtain ⟨w1, hw1⟩ : ∃ w1, w1 = w.alloc (.cells #[.bool byp, .bool con, .int .i64 cr, .int .i64 ch, .int .i64 sq, .slice a n c] 43) := ⟨_, rfl⟩
  have b1 : Below w.heap.size w w1 := by rw [hw1]; exact bel_new _ _
  have p1 : Cel w1 w.heap.size 43 #[.bool byp, .bool con, .int .i64 cr, .int .i64 ch, .int .i64 sq, .slice a n c] := by rw [hw1]; exact Cel.new _ _ _
  have q1 := h.cel.below b1
  have m0 := p1.cell 0
  have m1 := p1.cell 1
  have m2 := p1.cell 2
  have m3 := p1.cell 3
  have m4 := p1.cell 4
  have m5 := p1.cell 5
  simp at m0 m1 m2 m3 m4 m5
  have z0 := q1.c0
  have z2 := q1.c2
  have hlt := p1.lt
  have hgt := q1.lt
  obtain ⟨V, hV⟩ : ∃ V, V = Fr.ok ⟨byp, con, cr, ch, sq, l⟩ := ⟨_, rfl⟩
  rw [← hV] at hv
  have HV := Lib.hid hV
  have hM : mine K H ⟨byp, con, cr, ch, sq, l⟩ = (V && cr == K && ch == H) := by rw [hV]; rfl
  rw [hM]
  clear hM hV p1 q1 h hl hm
  cases V with
  | false =>
    go_enter Try.func54, Try.ntmps54
    go_wp2_with fail
    rw [← hw1]
    clear hw1
    refine wp_region_later (by kernel_rfl) (by kernel_rfl) ?_
    have n0 : ∀ p : Later w1, p.W.cell? ⟨w.heap.size, 0, none⟩ = some (.bool byp) := later_cell m0 hlt
    have n1 : ∀ p : Later w1, p.W.cell? ⟨w.heap.size, 1, none⟩ = some (.bool con) := later_cell m1 hlt
    have n2 : ∀ p : Later w1, p.W.cell? ⟨w.heap.size, 2, none⟩ = some (.int .i64 cr) := later_cell m2 hlt
    have n3 : ∀ p : Later w1, p.W.cell? ⟨w.heap.size, 3, none⟩ = some (.int .i64 ch) := later_cell m3 hlt
    have n4 : ∀ p : Later w1, p.W.cell? ⟨w.heap.size, 4, none⟩ = some (.int .i64 sq) := later_cell m4 hlt
    have n5 : ∀ p : Later w1, p.W.cell? ⟨w.heap.size, 5, none⟩ = some (.slice a n c) := later_cell m5 hlt
    have y0 : ∀ p : Later w1, p.W.cell? ⟨g, 0, none⟩ = some (.int .i64 K) := later_cell z0 hgt
    have y2 : ∀ p : Later w1, p.W.cell? ⟨g, 2, none⟩ = some (.int .i64 H) := later_cell z2 hgt
    clear m0 m1 m2 m3 m4 m5 z0 z2
    repeat (go_big_quiet_step ((go_at_call 37; exact later_of (hv _))))
    refine wpQuiet_nil ?_
    rintro _ ⟨⟨w5, hbel5⟩, rfl⟩
    go_wp2
    go_ret
    exact ⟨rfl, b1.trans (hbel5.mono b1.size)⟩
  | true =>
    by_cases h1 : cr = K
    · have t1 : (cr == K) = true := by simpa using h1
      rw [t1]
      clear h1
      by_cases h2 : ch = H
      · have t2 : (ch == H) = true := by simpa using h2
        rw [t2]
        clear h2
        go_enter Try.func54, Try.ntmps54
        go_wp2_with fail
        rw [← hw1]
        clear hw1
        refine wp_region_later (by kernel_rfl) (by kernel_rfl) ?_
        have n0 : ∀ p : Later w1, p.W.cell? ⟨w.heap.size, 0, none⟩ = some (.bool byp) := later_cell m0 hlt
        have n1 : ∀ p : Later w1, p.W.cell? ⟨w.heap.size, 1, none⟩ = some (.bool con) := later_cell m1 hlt
        have n2 : ∀ p : Later w1, p.W.cell? ⟨w.heap.size, 2, none⟩ = some (.int .i64 cr) := later_cell m2 hlt
        have n3 : ∀ p : Later w1, p.W.cell? ⟨w.heap.size, 3, none⟩ = some (.int .i64 ch) := later_cell m3 hlt
        have n4 : ∀ p : Later w1, p.W.cell? ⟨w.heap.size, 4, none⟩ = some (.int .i64 sq) := later_cell m4 hlt
        have n5 : ∀ p : Later w1, p.W.cell? ⟨w.heap.size, 5, none⟩ = some (.slice a n c) := later_cell m5 hlt
        have y0 : ∀ p : Later w1, p.W.cell? ⟨g, 0, none⟩ = some (.int .i64 K) := later_cell z0 hgt
        have y2 : ∀ p : Later w1, p.W.cell? ⟨g, 2, none⟩ = some (.int .i64 H) := later_cell z2 hgt
        clear m0 m1 m2 m3 m4 m5 z0 z2
        repeat (go_big_quiet_step ((go_at_call 37; exact later_of (hv _))))
        refine wpQuiet_nil ?_
        rintro _ ⟨⟨w5, hbel5⟩, rfl⟩
        go_wp2
        go_ret
        exact ⟨rfl, b1.trans (hbel5.mono b1.size)⟩
      · have t2 : (ch == H) = false := by simpa using h2
        rw [t2]
        clear h2
        go_enter Try.func54, Try.ntmps54
        go_wp2_with fail
        rw [← hw1]
        clear hw1
        refine wp_region_later (by kernel_rfl) (by kernel_rfl) ?_
        have n0 : ∀ p : Later w1, p.W.cell? ⟨w.heap.size, 0, none⟩ = some (.bool byp) := later_cell m0 hlt
        have n1 : ∀ p : Later w1, p.W.cell? ⟨w.heap.size, 1, none⟩ = some (.bool con) := later_cell m1 hlt
        have n2 : ∀ p : Later w1, p.W.cell? ⟨w.heap.size, 2, none⟩ = some (.int .i64 cr) := later_cell m2 hlt
        have n3 : ∀ p : Later w1, p.W.cell? ⟨w.heap.size, 3, none⟩ = some (.int .i64 ch) := later_cell m3 hlt
        have n4 : ∀ p : Later w1, p.W.cell? ⟨w.heap.size, 4, none⟩ = some (.int .i64 sq) := later_cell m4 hlt
        have n5 : ∀ p : Later w1, p.W.cell? ⟨w.heap.size, 5, none⟩ = some (.slice a n c) := later_cell m5 hlt
        have y0 : ∀ p : Later w1, p.W.cell? ⟨g, 0, none⟩ = some (.int .i64 K) := later_cell z0 hgt
        have y2 : ∀ p : Later w1, p.W.cell? ⟨g, 2, none⟩ = some (.int .i64 H) := later_cell z2 hgt
        clear m0 m1 m2 m3 m4 m5 z0 z2
        repeat (go_big_quiet_step ((go_at_call 37; exact later_of (hv _))))
        refine wpQuiet_nil ?_
        rintro _ ⟨⟨w5, hbel5⟩, rfl⟩
        go_wp2
        go_ret
        exact ⟨rfl, b1.trans (hbel5.mono b1.size)⟩
    · have t1 : (cr == K) = false := by simpa using h1
      rw [t1]
      clear h1
      go_enter Try.func54, Try.ntmps54
      go_wp2_with fail
      rw [← hw1]
      clear hw1
      refine wp_region_later (by kernel_rfl) (by kernel_rfl) ?_
      have n0 : ∀ p : Later w1, p.W.cell? ⟨w.heap.size, 0, none⟩ = some (.bool byp) := later_cell m0 hlt
      have n1 : ∀ p : Later w1, p.W.cell? ⟨w.heap.size, 1, none⟩ = some (.bool con) := later_cell m1 hlt
      have n2 : ∀ p : Later w1, p.W.cell? ⟨w.heap.size, 2, none⟩ = some (.int .i64 cr) := later_cell m2 hlt
      have n3 : ∀ p : Later w1, p.W.cell? ⟨w.heap.size, 3, none⟩ = some (.int .i64 ch) := later_cell m3 hlt
      have n4 : ∀ p : Later w1, p.W.cell? ⟨w.heap.size, 4, none⟩ = some (.int .i64 sq) := later_cell m4 hlt
      have n5 : ∀ p : Later w1, p.W.cell? ⟨w.heap.size, 5, none⟩ = some (.slice a n c) := later_cell m5 hlt
      have y0 : ∀ p : Later w1, p.W.cell? ⟨g, 0, none⟩ = some (.int .i64 K) := later_cell z0 hgt
      have y2 : ∀ p : Later w1, p.W.cell? ⟨g, 2, none⟩ = some (.int .i64 H) := later_cell z2 hgt
      clear m0 m1 m2 m3 m4 m5 z0 z2
      repeat (go_big_quiet_step ((go_at_call 37; exact later_of (hv _))))
      refine wpQuiet_nil ?_
      rintro _ ⟨⟨w5, hbel5⟩, rfl⟩
      go_wp2
      go_ret
      exact ⟨ret_bool (by simp), b1.trans (hbel5.mono b1.size)⟩

set_option maxHeartbeats 4000000 in
theorem obey_any (byp con : Bool) (cr ch sq : Int) (a : Option Addr) (l : List Byte) (n c : Nat) (w : World) (g : Nat) (K H W : Int) (s : St) (h : FW w g K H W s) (hD : Rd w a l n c) :
    Calls Try.prog 63 #[.pointer (some ⟨g, 0, none⟩), .agg #[.bool byp, .bool con, .int .i64 cr, .int .i64 ch, .int .i64 sq, .slice a n c]] w fun e w' => e = .returned (.int .i64 (oby s (dir byp con l)).1) ∧ FW w' g K H W (oby s (dir byp con l)).2 ∧ Only [g] w w' := by
  obtain ⟨w1, hw1⟩ : ∃ w1, w1 = w.alloc (.cells #[.bool byp, .bool con, .int .i64 cr, .int .i64 ch, .int .i64 sq, .slice a n c] 43) := ⟨_, rfl⟩
  have b1 : Below w.heap.size w w1 := by rw [hw1]; exact bel_new _ _
  have p1 : Cel w1 w.heap.size 43 #[.bool byp, .bool con, .int .i64 cr, .int .i64 ch, .int .i64 sq, .slice a n c] := by rw [hw1]; exact Cel.new _ _ _
  have x1 := tdirective_any byp con cr ch sq a l n c w1 (hD.later b1)
  obtain ⟨hc, hok, hw1', hw2'⟩ := h
  have hdin := dir_in byp con l
  have hok2 := oby_ok hok hdin
  obtain ⟨d, hd⟩ : ∃ d, d = dir byp con l := ⟨_, rfl⟩
  rw [← hd] at x1 hdin hok2 ⊢
  obtain ⟨kd, nd, od⟩ := d
  dsimp only at x1 hdin
  obtain ⟨lk, wt, rt, bc, nx⟩ := s
  obtain ⟨k1, k2, k3, k4⟩ := hok
  dsimp only at hc k1 k2 k3 k4
  have hc1 := hc.below b1
  have Hw := Lib.hid (And.intro hw1' hw2')
  have m0 := p1.cell 0
  have m1 := p1.cell 1
  have m2 := p1.cell 2
  have m3 := p1.cell 3
  have m4 := p1.cell 4
  have m5 := p1.cell 5
  simp at m0 m1 m2 m3 m4 m5
  rw [hw1] at m0 m1 m2 m3 m4 m5
  clear hd hD p1 hw1' hw2' k3 k4
  have kb := Lib.hid (And.intro k1 k2)
  cases od with
  | false =>
    have e : oby ⟨lk, wt, rt, bc, nx⟩ (kd, nd, false) = (0, ⟨lk, wt, rt, bc, nx⟩) := rfl
    rw [e] at hok2 ⊢
    have Hok2 := Lib.hid hok2
    clear e hok2 hdin k1 k2
    go_enter Try.func63, Try.ntmps63
    go_wp2_with fail
    rw [← hw1]
    refine x1.mono ?_
    rintro e w2 ⟨rfl, h2⟩
    have b2 := b1.trans (h2.mono b1.size)
    have hc2 := hc1.below h2
    have o2 : Only [g] w w2 := Only.of_below b2
    clear x1 h2 hc1 b1 b2 m0 m1 m2 m3 m4 m5 hw1
    go_wp2
    go_ret
    exact ⟨rfl, ⟨hc2, Hok2.out, Hw.out.1, Hw.out.2⟩, o2⟩
  | true =>
    rcases hdin with rfl | ⟨rfl, n1, n2⟩
    · have e : oby ⟨lk, wt, rt, bc, nx⟩ (0, nd, true) = (5, ⟨false, false, false, (bc + 1) % 4, nx⟩) := rfl
      rw [e] at hok2 ⊢
      have Hok2 := Lib.hid hok2
      obtain ⟨B, hB⟩ : ∃ B, B = (bc + 1) % 4 := ⟨_, rfl⟩
      rw [← hB] at Hok2 ⊢
      clear e hok2 k1 k2
      go_enter Try.func63, Try.ntmps63
      go_wp2_with fail
      rw [← hw1]
      refine x1.mono ?_
      rintro e w2 ⟨rfl, h2⟩
      have b2 := b1.trans (h2.mono b1.size)
      have hc2 := hc1.below h2
      have o2 : Only [g] w w2 := Only.of_below b2
      clear x1 h2 hc1 b1 b2 m0 m1 m2 m3 m4 m5 hw1
      have d3 := hc2.c3
      have f3 := hc2.free 3
      go_wp2_with fail
      refine (clear_any _ g K W H bc nx false wt rt (hc2.lock false)).mono ?_
      rintro e w3 ⟨rfl, hc3, o3⟩
      go_wp2_with fail
      refine (count_any w3 g K W H bc nx false false false hc3 kb.out.1 kb.out.2).mono ?_
      rintro e w4 ⟨rfl, hc4, o4⟩
      rw [← hB] at hc4
      go_wp2
      go_ret
      exact ⟨rfl, ⟨hc4, Hok2.out, Hw.out.1, Hw.out.2⟩, only_then (only_then (only_then o2 (put_only w2 g 3 _)) o3) o4⟩
    · cases lk with
      | true =>
        have e : oby ⟨true, wt, rt, bc, nx⟩ (1, nd, true) = (4, ⟨true, wt, rt, bc, nx⟩) := rfl
        rw [e] at hok2 ⊢
        have Hok2 := Lib.hid hok2
        clear e hok2 k1 k2 n1 n2
        go_enter Try.func63, Try.ntmps63
        go_wp2_with fail
        rw [← hw1]
        refine x1.mono ?_
        rintro e w2 ⟨rfl, h2⟩
        have b2 := b1.trans (h2.mono b1.size)
        have hc2 := hc1.below h2
        have o2 : Only [g] w w2 := Only.of_below b2
        clear x1 h2 hc1 b1 b2 m0 m1 m2 m3 m4 m5 hw1
        have d3 := hc2.c3
        go_wp2
        go_ret
        exact ⟨rfl, ⟨hc2, Hok2.out, Hw.out.1, Hw.out.2⟩, o2⟩
      | false =>
        have e : oby ⟨false, wt, rt, bc, nx⟩ (1, nd, true) = (5, ⟨false, false, false, (bc + 1) % 4, nd⟩) := rfl
        rw [e] at hok2 ⊢
        have Hok2 := Lib.hid hok2
        obtain ⟨B, hB⟩ : ∃ B, B = (bc + 1) % 4 := ⟨_, rfl⟩
        rw [← hB] at Hok2 ⊢
        clear e hok2 k1 k2 n1 n2
        go_enter Try.func63, Try.ntmps63
        go_wp2_with fail
        rw [← hw1]
        refine x1.mono ?_
        rintro e w2 ⟨rfl, h2⟩
        have b2 := b1.trans (h2.mono b1.size)
        have hc2 := hc1.below h2
        have o2 : Only [g] w w2 := Only.of_below b2
        clear x1 h2 hc1 b1 b2 m0 m1 m2 m3 m4 m5 hw1
        have d3 := hc2.c3
        have d7 := hc2.c7
        have f7 := hc2.free 7
        go_wp2_with fail
        refine (clear_any _ g K W H bc nd false wt rt (hc2.next nd)).mono ?_
        rintro e w3 ⟨rfl, hc3, o3⟩
        go_wp2_with fail
        refine (count_any w3 g K W H bc nd false false false hc3 kb.out.1 kb.out.2).mono ?_
        rintro e w4 ⟨rfl, hc4, o4⟩
        rw [← hB] at hc4
        go_wp2
        go_ret
        exact ⟨rfl, ⟨hc4, Hok2.out, Hw.out.1, Hw.out.2⟩, only_then (only_then (only_then o2 (put_only w2 g 7 _)) o3) o4⟩

set_option maxHeartbeats 4000000 in
theorem judge_any (byp con : Bool) (cr ch sq : Int) (a : Option Addr) (l : List Byte) (n c : Nat) (room : Bool) (w : World) (g : Nat) (K H W : Int) (s : St) (h : FW w g K H W s) (hD : Rd w a l n c) (hq0 : 0 ≤ sq) (hq1 : sq ≤ 255) :
    Calls Try.prog 55 #[.pointer (some ⟨g, 0, none⟩), .agg #[.bool byp, .bool con, .int .i64 cr, .int .i64 ch, .int .i64 sq, .slice a n c], .bool room] w fun e w' => e = .returned (.int .i64 (jdg W s ⟨byp, con, cr, ch, sq, l⟩ room).1) ∧ FW w' g K H W (jdg W s ⟨byp, con, cr, ch, sq, l⟩ room).2 ∧ Only [g] w w' := by
  obtain ⟨w1, hw1⟩ : ∃ w1, w1 = w.alloc (.cells #[.bool byp, .bool con, .int .i64 cr, .int .i64 ch, .int .i64 sq, .slice a n c] 43) := ⟨_, rfl⟩
  have b1 : Below w.heap.size w w1 := by rw [hw1]; exact bel_new _ _
  have p1 : Cel w1 w.heap.size 43 #[.bool byp, .bool con, .int .i64 cr, .int .i64 ch, .int .i64 sq, .slice a n c] := by rw [hw1]; exact Cel.new _ _ _
  have hd1 := hD.later b1
  have h1 := h.below b1
  have o1 : Only [g] w w1 := Only.of_below b1
  have m0 := p1.cell 0
  have m1 := p1.cell 1
  have m2 := p1.cell 2
  have m3 := p1.cell 3
  have m4 := p1.cell 4
  have m5 := p1.cell 5
  simp at m0 m1 m2 m3 m4 m5
  rw [hw1] at m0 m1 m2 m3 m4 m5
  clear hD p1 h b1
  cases con with
  | true =>
    have x1 := obey_any byp true cr ch sq a l n c w1 g K H W s h1 hd1
    have e : jdg W s ⟨byp, true, cr, ch, sq, l⟩ room = oby s (dir byp true l) := rfl
    rw [e]
    obtain ⟨R, hR⟩ : ∃ R, R = oby s (dir byp true l) := ⟨_, rfl⟩
    rw [← hR] at x1 ⊢
    clear e hR hq0 hq1 h1 hd1
    go_enter Try.func55, Try.ntmps55
    go_wp2_with fail
    rw [← hw1]
    refine x1.mono ?_
    rintro e w2 ⟨rfl, h2, o2⟩
    go_wp2
    go_ret
    exact ⟨rfl, h2, only_then o1 o2⟩
  | false =>
    cases byp with
    | true =>
      obtain ⟨hc1, hok1, wi1, wi2⟩ := h1
      have hok2 : (jdg W s ⟨true, false, cr, ch, sq, l⟩ room).2.Ok := jdg_ok hok1 _ _
      have e : jdg W s ⟨true, false, cr, ch, sq, l⟩ room = (1, ⟨s.lk, s.wt, s.rt, (s.bc + 1) % 4, s.nx⟩) := rfl
      rw [e] at hok2 ⊢
      have x1 := count_any w1 g K W H s.bc s.nx s.lk s.wt s.rt hc1 hok1.1 hok1.2.1
      obtain ⟨B, hB⟩ : ∃ B, B = (s.bc + 1) % 4 := ⟨_, rfl⟩
      rw [← hB] at x1 hok2 ⊢
      have Hw := Lib.hid (And.intro hok2 (And.intro wi1 wi2))
      clear e hB hq0 hq1 hd1 hc1 hok1 wi1 wi2 hok2
      go_enter Try.func55, Try.ntmps55
      go_wp2_with fail
      rw [← hw1]
      refine x1.mono ?_
      rintro e w2 ⟨rfl, h2, o2⟩
      go_wp2
      go_ret
      exact ⟨rfl, ⟨h2, Hw.out.1, Hw.out.2.1, Hw.out.2.2⟩, only_then o1 o2⟩
    | false =>
      have c3 := h1.cel.c3
      rw [hw1] at c3
      cases hlk : s.lk with
      | true =>
        have e : jdg W s ⟨false, false, cr, ch, sq, l⟩ room = (4, s) := by unfold jdg; simp [hlk]
        rw [e]
        rw [hlk] at c3
        clear e hq0 hq1 hd1 hlk
        go_enter Try.func55, Try.ntmps55
        go_wp2_with fail
        rw [← hw1]
        go_ret
        exact ⟨rfl, h1, o1⟩
      | false =>
        have e : jdg W s ⟨false, false, cr, ch, sq, l⟩ room = rcv W s sq room := by unfold jdg; simp [hlk]
        rw [e]
        rw [hlk] at c3
        have x1 := receive_any sq room w1 g K H W s h1 hq0 hq1
        obtain ⟨R, hR⟩ : ∃ R, R = rcv W s sq room := ⟨_, rfl⟩
        rw [← hR] at x1 ⊢
        clear e hq0 hq1 hd1 hlk hR h1
        go_enter Try.func55, Try.ntmps55
        go_wp2_with fail
        rw [← hw1]
        refine x1.mono ?_
        rintro e w2 ⟨rfl, h2, o2⟩
        go_wp2
        go_ret
        exact ⟨rfl, h2, only_then o1 o2⟩
end Go.Proofs.Ytdpjjhbfhlmolaa.Far

/-
  Package farm: Take, Report, Clone; of nil.
-/
namespace Go.Proofs.Ytdpjjhbfhlmolaa.Far
open Go.RowKit
open Pac (bel_new Cel.later)
open Tcf (Fr dir)

set_option maxHeartbeats 4000000 in
theorem take_any (byp con : Bool) (cr ch sq : Int) (a : Option Addr) (l : List Byte) (n c : Nat) (room : Bool) (w : World) (g : Nat) (K H W : Int) (s : St) (h : FW w g K H W s) (hD : Rd w a l n c) :
    Calls Try.prog 32 #[.pointer (some ⟨g, 0, none⟩), .agg #[.bool byp, .bool con, .int .i64 cr, .int .i64 ch, .int .i64 sq, .slice a n c], .bool room] w fun e w' => (∃ v, e = .returned (.tuple #[v, .int .i64 (tke K H W s ⟨byp, con, cr, ch, sq, l⟩ room).1]) ∧ Ow w' w.heap.size 5 v (dat (tke K H W s ⟨byp, con, cr, ch, sq, l⟩ room).1 l)) ∧ FW w' g K H W (tke K H W s ⟨byp, con, cr, ch, sq, l⟩ room).2 ∧ Only [g] w w' := by
  obtain ⟨w1, hw1⟩ : ∃ w1, w1 = w.alloc (.cells #[.bool byp, .bool con, .int .i64 cr, .int .i64 ch, .int .i64 sq, .slice a n c] 43) := ⟨_, rfl⟩
  have b1 : Below w.heap.size w w1 := by rw [hw1]; exact bel_new _ _
  have p1 : Cel w1 w.heap.size 43 #[.bool byp, .bool con, .int .i64 cr, .int .i64 ch, .int .i64 sq, .slice a n c] := by rw [hw1]; exact Cel.new _ _ _
  have hd1 := hD.later b1
  have h1 := h.below b1
  have hgl := h.cel.lt
  have hlen := Lib.hid hD.len
  have x1 := fworks_any w1 g K H W s h1
  have x2 := accepts_any byp con cr ch sq a l n c w1 g K H W s h1 hlen (Nat.le_trans hD.le hD.max)
  have m0 := p1.cell 0
  have m1 := p1.cell 1
  have m2 := p1.cell 2
  have m3 := p1.cell 3
  have m4 := p1.cell 4
  have m5 := p1.cell 5
  simp at m0 m1 m2 m3 m4 m5
  rw [hw1] at m0 m1 m2 m3 m4 m5
  clear hD h
  cases hm : mine K H ⟨byp, con, cr, ch, sq, l⟩ with
  | false =>
    have e : tke K H W s ⟨byp, con, cr, ch, sq, l⟩ room = (0, s) := by unfold tke; rw [hm]; rfl
    rw [e]
    rw [hm] at x2
    clear e hd1 p1 hlen hm
    go_enter Try.func32, Try.ntmps32
    go_wp2_with fail
    rw [← hw1]
    refine x1.mono ?_
    rintro e w2 ⟨rfl, rfl⟩
    rw [hw1] at x2 ⊢
    go_wp2_with fail
    refine x2.mono ?_
    rintro e w2 ⟨rfl, h2⟩
    rw [← hw1] at h2
    have b2 := b1.trans (h2.mono b1.size)
    go_wp2
    go_ret2
    exact ⟨⟨_, rfl, World.ownsRow_nil _ _ _ _⟩, h1.below h2, Only.of_below b2⟩
  | true =>
    have e : tke K H W s ⟨byp, con, cr, ch, sq, l⟩ room = jdg W s ⟨byp, con, cr, ch, sq, l⟩ room := by unfold tke; rw [hm]; rfl
    rw [e]
    rw [hm] at x2
    have hmf := (mine_fits hm).2.1
    have q0 : 0 ≤ sq := hmf.2.2.2.2.1
    have q1 : sq ≤ 255 := hmf.2.2.2.2.2.1
    have l1 : l.length ≤ 1017 := hmf.2.2.2.2.2.2.2
    have x3 := fun W' (hf : FW W' g K H W s) (hd : Rd W' a l n c) => judge_any byp con cr ch sq a l n c room W' g K H W s hf hd q0 q1
    obtain ⟨R, hR⟩ : ∃ R, R = jdg W s ⟨byp, con, cr, ch, sq, l⟩ room := ⟨_, rfl⟩
    rw [← hR] at x3 ⊢
    have hn' : n ≤ 1017 := by rw [← hlen.out]; exact l1
    clear e hm hR q0 q1 l1 hmf
    by_cases hv : R.1 = 1
    · obtain ⟨V, S'⟩ := R
      dsimp only at hv x3 ⊢
      subst hv
      have e : dat 1 l = l := rfl
      rw [e]
      clear e
      go_enter Try.func32, Try.ntmps32
      go_wp2_with fail
      rw [← hw1]
      refine x1.mono ?_
      rintro e w2 ⟨rfl, rfl⟩
      rw [hw1] at x2 ⊢
      go_wp2_with fail
      refine x2.mono ?_
      rintro e w2 ⟨rfl, h2⟩
      rw [← hw1] at h2
      have b2 := b1.trans (h2.mono b1.size)
      have f2 := h1.below h2
      have p2 := Cel.later p1 h2
      have d2 := hd1.later h2
      clear x1 x2 h2 b1 h1 p1 hd1 hw1 m0 m1 m2 m3 m4 m5
      have m0 := p2.cell 0
      have m1 := p2.cell 1
      have m2 := p2.cell 2
      have m3 := p2.cell 3
      have m4 := p2.cell 4
      have m5 := p2.cell 5
      simp at m0 m1 m2 m3 m4 m5
      go_wp2_with fail
      refine (x3 w2 f2 d2).mono ?_
      rintro e w3 ⟨rfl, f3, o3⟩
      have d3 := f2.cel.keeps d2 o3
      have p3 := p2.only o3 (by simp; omega)
      clear x3 m0 m1 m2 m3 m4 m5 p2 d2 f2
      have m5 := p3.cell 5
      simp at m5
      go_wp2_with fail
      refine (clone_any a l n c w3 hlen d3.bs d3.nil (by omega)).mono ?_
      rintro e w4 ⟨v, rfl, o4, h4⟩
      go_wp2
      go_ret2
      have hs3 : w.heap.size ≤ w3.heap.size := Nat.le_trans b2.size o3.size
      exact ⟨⟨v, rfl, o4.more hs3⟩, f3.below h4, only_then (only_then (Only.of_below b2) o3) (Only.of_below h4)⟩
    · have e : dat R.1 l = [] := by unfold dat; rw [if_neg hv]
      rw [e]
      have t1 : (R.1 != 1) = true := by simpa using hv
      obtain ⟨V, S'⟩ := R
      dsimp only at hv x3 t1 ⊢
      clear e hv hn'
      go_enter Try.func32, Try.ntmps32
      go_wp2_with fail
      rw [← hw1]
      refine x1.mono ?_
      rintro e w2 ⟨rfl, rfl⟩
      rw [hw1] at x2 ⊢
      go_wp2_with fail
      refine x2.mono ?_
      rintro e w2 ⟨rfl, h2⟩
      rw [← hw1] at h2
      have b2 := b1.trans (h2.mono b1.size)
      have f2 := h1.below h2
      have p2 := Cel.later p1 h2
      have d2 := hd1.later h2
      clear x1 x2 h2 b1 h1 p1 hd1 hw1 m0 m1 m2 m3 m4 m5
      have m0 := p2.cell 0
      have m1 := p2.cell 1
      have m2 := p2.cell 2
      have m3 := p2.cell 3
      have m4 := p2.cell 4
      have m5 := p2.cell 5
      simp at m0 m1 m2 m3 m4 m5
      go_wp2_with fail
      refine (x3 w2 f2 d2).mono ?_
      rintro e w3 ⟨rfl, f3, o3⟩
      clear x3 m0 m1 m2 m3 m4 m5 p2 d2 f2
      go_wp2
      go_ret2
      exact ⟨⟨_, rfl, World.ownsRow_nil _ _ _ _⟩, f3, only_then (Only.of_below b2) o3⟩

theorem rep_results {tmps : Array Value} {W : World} {g : Nat} {ch : Int} {lk wt rt : Bool} {bp nx : Int} (h2 : tmps.getD 2 undef = .pointer (some ⟨g, 0, none⟩))
    (hC : Cel W g 35 #[.int .i64 ch, .bool lk, .bool wt, .bool rt, .int .i64 bp, .int .i64 nx]) :
    (results Try.f33 tmps).run Try.prog W = .ok (.agg #[.int .i64 ch, .bool lk, .bool wt, .bool rt, .int .i64 bp, .int .i64 nx]) W := by
  have c0 := hC.cell 0
  have c1 := hC.cell 1
  have c2 := hC.cell 2
  have c3 := hC.cell 3
  have c4 := hC.cell 4
  have c5 := hC.cell 5
  simp at c0 c1 c2 c3 c4 c5
  simp only [Array.getD_eq_getD_getElem?] at h2
  simp [results, Try.results33, go_sem, h2, c0, c1, c2, c3, c4, c5]

/-- the control word, as a value -/
def wordV (H : Int) (s : St) : Value := .agg #[.int .i64 H, .bool s.lk, .bool s.wt, .bool s.rt, .int .i64 s.bc, .int .i64 s.nx]

set_option maxHeartbeats 2000000 in
theorem report_any (w : World) (g : Nat) (K H W : Int) (s : St) (h : FW w g K H W s) :
    Calls Try.prog 33 #[.pointer (some ⟨g, 0, none⟩)] w fun e w' => e = .returned (.agg #[.int .i64 H, .bool s.lk, .bool s.wt, .bool s.rt, .int .i64 s.bc, .int .i64 s.nx]) ∧ Below w.heap.size w w' := by
  obtain ⟨w1, hw1⟩ : ∃ w1, w1 = w.alloc (.cells #[.int .i64 0, .bool false, .bool false, .bool false, .int .i64 0, .int .i64 0] 35) := ⟨_, rfl⟩
  have b1 : Below w.heap.size w w1 := by rw [hw1]; exact bel_new _ _
  have hR : Cel w1 w.heap.size 35 #[.int .i64 0, .bool false, .bool false, .bool false, .int .i64 0, .int .i64 0] := by rw [hw1]; exact Cel.new _ _ _
  have h1 := h.below b1
  have x1 := fworks_any w1 g K H W s h1
  have hc := h1.cel
  obtain ⟨lk, wt, rt, bc, nx⟩ := s
  dsimp only at hc ⊢
  have z2 := hc.c2
  have z3 := hc.c3
  have z4 := hc.c4
  have z5 := hc.c5
  have z6 := hc.c6
  have z7 := hc.c7
  have c0 := hR.cell 0
  have c1 := hR.cell 1
  have c2 := hR.cell 2
  have c3 := hR.cell 3
  have c4 := hR.cell 4
  have c5 := hR.cell 5
  simp at c0 c1 c2 c3 c4 c5
  have f0 := hR.free 0
  have f1 := hR.free 1
  have f2 := hR.free 2
  have f3 := hR.free 3
  have f4 := hR.free 4
  have f5 := hR.free 5
  have hgl := h.cel.lt
  clear h h1 hc
  go_enter Try.func33, Try.ntmps33
  go_wp2_with fail
  rw [← hw1]
  clear hw1
  refine x1.mono ?_
  rintro e w2 ⟨rfl, rfl⟩
  go_wp2
  exact bodyPost_ret (rep_results rfl (put6_cel hR (.int .i64 H) (.bool lk) (.bool wt) (.bool rt) (.int .i64 bc) (.int .i64 nx))) rfl ⟨rfl, put6_below b1 (Nat.le_refl _) _ _ _ _ _ _⟩

/-! ### nil -/
set_option maxHeartbeats 1000000 in
theorem take_nil (w : World) (room : Bool) :
    Calls Try.prog 32 #[.pointer none, .agg #[.bool false, .bool false, .int .i64 0, .int .i64 0, .int .i64 0, .slice none 0 0], .bool room] w fun e w' => e = .returned (.tuple #[.slice none 0 0, .int .i64 0]) ∧ Below w.heap.size w w' := by
  go_enter Try.func32, Try.ntmps32
  go_wp2_with fail
  refine (fworks_nil _).mono ?_
  rintro e w2 ⟨rfl, rfl⟩
  go_wp2
  go_ret2
  exact ⟨rfl, bel_new _ _⟩
set_option maxHeartbeats 1000000 in
theorem report_nil (w : World) :
    Calls Try.prog 33 #[.pointer none] w fun e w' => e = .returned (.agg #[.int .i64 0, .bool false, .bool false, .bool false, .int .i64 0, .int .i64 0]) ∧ Below w.heap.size w w' := by
  obtain ⟨w1, hw1⟩ : ∃ w1, w1 = w.alloc (.cells #[.int .i64 0, .bool false, .bool false, .bool false, .int .i64 0, .int .i64 0] 35) := ⟨_, rfl⟩
  have b1 : Below w.heap.size w w1 := by rw [hw1]; exact bel_new _ _
  have hR : Cel w1 w.heap.size 35 #[.int .i64 0, .bool false, .bool false, .bool false, .int .i64 0, .int .i64 0] := by rw [hw1]; exact Cel.new _ _ _
  have c0 := hR.cell 0
  have c1 := hR.cell 1
  have c2 := hR.cell 2
  have c3 := hR.cell 3
  have c4 := hR.cell 4
  have c5 := hR.cell 5
  simp at c0 c1 c2 c3 c4 c5
  have f0 := hR.free 0
  have f1 := hR.free 1
  have f2 := hR.free 2
  have f3 := hR.free 3
  have f4 := hR.free 4
  have f5 := hR.free 5
  go_enter Try.func33, Try.ntmps33
  go_wp2_with fail
  rw [← hw1]
  clear hw1
  refine (fworks_nil _).mono ?_
  rintro e w2 ⟨rfl, rfl⟩
  go_wp2
  exact bodyPost_ret (rep_results rfl (put6_cel hR (.int .i64 0) (.bool false) (.bool false) (.bool false) (.int .i64 0) (.int .i64 0))) rfl ⟨rfl, put6_below b1 (Nat.le_refl _) _ _ _ _ _ _⟩
end Go.Proofs.Ytdpjjhbfhlmolaa.Far

/-
  A slice of structs whose fields are one cell each (numbers, slices ..), opened at every index and field. No dump is imported.
-/
namespace Go.Proofs.Ytdpjjhbfhlmolaa
open Go.RowKit Go.ChangeShapes Go.WideShapes Go.Deep

section
variable {H : Type} {enc : TypeId × Value → H} {P : Program} {w : World} {base : Nat} {spare : Nat → Bool} {held : Bool}

theorem open_recs {t e : TypeId} {fs : Array Field} {fuel : Nat} {cs : List Value} {x : DataW H × List MemPlace} (ht : P.underlying t = some (.slice e)) (he : P.underlying e = some (.struct fs))
    (hone : ∀ (i : Nat) (f : Field), fs[i]? = some f → f.offset = i ∧ P.cellsOf f.type = 1) (hC : P.cellsOf e = fs.size) (h : DataW.trod enc P w base spare held fuel t cs = some x) :
    cs = [.slice none 0 0] ∨ ∃ (a : Addr) (len cap n : Nat) (V : Nat → Nat → Value), cs = [.slice (some a) len cap] ∧ len ≤ cap ∧ cap ≤ maxLen ∧
      ∀ i, i < len → ∀ (j : Nat) (f : Field), fs[j]? = some f → w.cell? (a.add (i * fs.size + j)) = some (V i j) ∧ ∃ d, DataW.trod enc P w base spare held n f.type [V i j] = some d := by
  rcases open_slice ht h with ⟨h0, _⟩ | ⟨a, len, cap, m, n, D, Pl, rfl, hb, hl, hm, hmm, rfl, hx⟩
  · exact .inl h0
  have hlm : len ≤ m := by rw [hmm]; split <;> omega
  have each : ∀ i, i < len → ∃ L : List Value, ∀ (j : Nat) (f : Field), fs[j]? = some f → w.cell? (a.add (i * fs.size + j)) = some (L.getD j undef) ∧ ∃ d, DataW.trod enc P w base spare held (n - 1) f.type [L.getD j undef] = some d := by
    intro i hi
    obtain ⟨cs', h1, h2⟩ := hx i (by omega)
    rw [hC] at h1
    obtain ⟨_, hlen, hcell⟩ := World.cells?_some h1
    obtain ⟨xs, k, hk, _, _, hxl, hf⟩ := DataW.trod_struct he h2
    have hk' : k = n - 1 := by omega
    subst hk'
    refine ⟨cs', fun j f hj => ?_⟩
    have hjl : j < fs.size := (Array.getElem?_eq_some_iff.1 hj).1
    obtain ⟨ho, hc1⟩ := hone j f hj
    have g := hf j f hj
    rw [ho, hc1, take1_drop cs' j undef (by omega)] at g
    have c := hcell j hjl
    rw [add_add] at c
    refine ⟨?_, xs[j]'(by omega), ?_⟩
    · rw [c, List.getD_eq_getElem?_getD, List.getElem?_eq_getElem (by omega)]
      rfl
    · rw [g]
      exact List.getElem?_eq_getElem (by omega)
  obtain ⟨L, hL⟩ := choose_lt each
  exact .inr ⟨a, len, cap, n - 1, fun i j => (L i).getD j undef, rfl, hl, hm, fun i hi j f hj => hL i hi j f hj⟩
end
end Go.Proofs.Ytdpjjhbfhlmolaa

/-
  An argument opened: a struct by value whose fields are one cell each, at every field. No dump is imported.
-/
namespace Go.Proofs.Ytdpjjhbfhlmolaa
open Go.RowKit Go.ChangeShapes Go.WideShapes Go.Deep

section
variable {H : Type} {enc : TypeId × Value → H} {P : Program} {w : World} {base : Nat} {spare : Nat → Bool} {held : Bool}

theorem open_agg_any {r : Reach} {b0 : Nat} {t : TypeId} {fs : Array Field} {v : Value} {d : DataW H} {ps : List MemPlace} (hs : P.underlying t = some (.struct fs))
    (hone : ∀ (i : Nat) (f : Field), fs[i]? = some f → f.offset = i ∧ P.cellsOf f.type = 1) (hC : P.cellsOf t = fs.size) (hv : Value.okWide P w r b0 t v) (h : DataW.Trod enc P w base spare held t v d ps) :
    ∃ cs : Array Value, v = .agg cs ∧ cs.size = fs.size ∧ ∃ n, ∀ (j : Nat) (f : Field), fs[j]? = some f → ∃ y, DataW.trod enc P w base spare held n f.type [cs.getD j undef] = some y := by
  obtain ⟨cs, rfl, hsz⟩ := okWide_struct hs hv
  obtain ⟨fuel, hf⟩ := h
  obtain ⟨xs, n, _, _, _, hxl, hg⟩ := DataW.trod_struct hs hf
  have hcl : (Value.agg cs).cells.toList = cs.toList := rfl
  refine ⟨cs, rfl, hsz.trans hC, n, fun j f hj => ?_⟩
  have hjl : j < fs.size := (Array.getElem?_eq_some_iff.1 hj).1
  obtain ⟨ho, hc1⟩ := hone j f hj
  have g := hg j f hj
  rw [hcl, ho, hc1, take1_drop cs.toList j undef (by simp; omega)] at g
  refine ⟨xs[j]'(by omega), ?_⟩
  have e : cs.toList.getD j undef = cs.getD j undef := by
    rw [List.getD_eq_getElem?_getD, Array.getElem?_toList, Array.getD_eq_getD_getElem?]
  rw [← e, g]
  exact List.getElem?_eq_getElem (by omega)

/-- a slice of bytes in a field -/
theorem open_bytes_cell {t e : TypeId} {n : Nat} {v : Value} {y : DataW H × List MemPlace} (ht : P.underlying t = some (.slice e)) (he : P.underlying e = some (.int .u8)) (hc : P.cellsOf e = 1) (h : DataW.trod enc P w base (fun _ => true) held n t [v] = some y) :
    ∃ a l c, v = .slice a l.length c ∧ Bs w w.heap.size a l ∧ (a = none → c = 0) ∧ l.length ≤ c ∧ c ≤ maxLen := by
  have hrow : ∃ a n c zs, v = .slice a n c ∧ IsRow .u8 w a n c zs := by
    rcases open_ints ht he hc h with ⟨hcs, _⟩ | ⟨x, n', c', zs, hcs, _, hl', hm'', hz, _, hcell, hwz⟩
    · injection hcs with hcs
      exact ⟨none, 0, 0, [], hcs, .inl ⟨rfl, rfl, rfl, rfl⟩⟩
    · injection hcs with hcs
      exact ⟨some x, n', c', zs, hcs, .inr ⟨x, rfl, hl', hm'', by simpa using hz, hcell, hwz⟩⟩
  obtain ⟨A, n', c', zs, h3, hr⟩ := hrow
  obtain ⟨B, rfl, hb, hn, hlc, hcm⟩ := hr.bytes
  exact ⟨A, B, c', h3, hb, hn, hlc, hcm⟩
/-- six cells -/
theorem array6 {cs : Array Value} (h : cs.size = 6) : cs = #[cs.getD 0 undef, cs.getD 1 undef, cs.getD 2 undef, cs.getD 3 undef, cs.getD 4 undef, cs.getD 5 undef] := by
  obtain ⟨l⟩ := cs
  match l, h with
  | [x0, x1, x2, x3, x4, x5], _ => rfl
end
end Go.Proofs.Ytdpjjhbfhlmolaa

/-
  Slices of byte strings in a world: LS (an address leads to the strings), LO (a slice of the call's own that holds strings of its own). No dump is imported.
-/
namespace Go.Proofs.Ytdpjjhbfhlmolaa.Lst
open Go.RowKit Go.Proofs.Ytdpjjhbfhlmolaa.Row

/-- a string as it lies in a slice of slices: the address and the capacity beside it -/
structure Qb where
  l : List Byte
  a : Option Addr
  c : Nat
def Qb.v (q : Qb) : Value := .slice q.a q.l.length q.c
def enc (q : Qb) : List Value := [.slice q.a q.l.length q.c]
theorem enc_ok : Enc enc 1 := ⟨fun _ => rfl, fun x u hu => by
  simp only [enc, List.mem_cons, List.not_mem_nil, or_false] at hu
  subst hu; rfl, by decide⟩
/-- a string, below block B -/
structure Dt (w : World) (B : Nat) (d : List Byte) (a : Option Addr) (c : Nat) : Prop where
  b : Bs w B a d
  n : a = none → c = 0
  l : d.length ≤ c
  m : c ≤ maxLen
section
variable {w w' : World} {B B' : Nat} {d : List Byte} {a A : Option Addr} {c : Nat} {S : List Nat} {ls : List (List Byte)}
theorem Dt.below (h : Dt w B d a c) (k : Below B w w') : Dt w' B d a c := ⟨h.b.below k, h.n, h.l, h.m⟩
theorem Dt.more (h : Dt w B d a c) (k : B ≤ B') : Dt w B' d a c := ⟨h.b.more k, h.n, h.l, h.m⟩
theorem Dt.only (h : Dt w B d a c) (k : Only S w w') (hB : B ≤ w.heap.size) (hS : ∀ x ∈ S, B ≤ x) : Dt w' B d a c := h.below (k.below hB hS)
theorem Dt.draws (h : Dt w B d a c) (n : Nat) : Dt (w.drewN n) B d a c := ⟨h.b, h.n, h.l, h.m⟩
theorem Dt.drew (h : Dt w B d a c) : Dt w.drew B d a c := ⟨h.b, h.n, h.l, h.m⟩
theorem Dt.later (h : Dt w w.heap.size d a c) (k : Below w.heap.size w w') : Dt w' w'.heap.size d a c := (h.below k).more k.size
theorem Dt_own {base : Nat} {e : TypeId} {v : Value} (h : Ow w base e v d) : ∃ a c, v = .slice a d.length c ∧ Dt w w.heap.size d a c := by
  obtain ⟨a, c, rfl, hb, hn, hl, hm⟩ := h.reads
  exact ⟨a, c, rfl, hb, hn, hl, hm⟩

/-- 'A' leads to the strings ls; they lie below block B -/
def LS (w : World) (B : Nat) (A : Option Addr) (ls : List (List Byte)) : Prop := ∃ qs : List Qb, qs.map (·.l) = ls ∧ Rs enc 1 w B A qs ∧ ∀ q ∈ qs, Dt w B q.l q.a q.c
theorem LS.nil_ : LS w B A [] := ⟨[], rfl, Rs.nil_, fun q hq => by cases hq⟩
theorem LS.below (h : LS w B A ls) (k : Below B w w') : LS w' B A ls := by
  obtain ⟨qs, h1, h2, h3⟩ := h
  exact ⟨qs, h1, h2.below k, fun q hq => (h3 q hq).below k⟩
theorem LS.more (h : LS w B A ls) (k : B ≤ B') : LS w B' A ls := by
  obtain ⟨qs, h1, h2, h3⟩ := h
  exact ⟨qs, h1, h2.more k, fun q hq => (h3 q hq).more k⟩
theorem LS.only (h : LS w B A ls) (k : Only S w w') (hB : B ≤ w.heap.size) (hS : ∀ x ∈ S, B ≤ x) : LS w' B A ls := h.below (k.below hB hS)
theorem LS.draws (h : LS w B A ls) (n : Nat) : LS (w.drewN n) B A ls := h.below ⟨rfl, rfl, rfl, Nat.le_refl _, fun _ _ => rfl⟩
theorem LS.drew (h : LS w B A ls) : LS w.drew B A ls := h.below ⟨rfl, rfl, rfl, Nat.le_refl _, fun _ _ => rfl⟩
theorem LS.at_ (h : LS w B A ls) {i : Nat} {l : List Byte} (hl : ls[i]? = some l) : ∃ b off a c, A = some ⟨b, off, none⟩ ∧ b < B ∧ w.cell? ⟨b, off + i, none⟩ = some (.slice a l.length c) ∧ Dt w B l a c := by
  obtain ⟨qs, rfl, h2, h3⟩ := h
  rw [List.getElem?_map] at hl
  cases hq : qs[i]? with
  | none => rw [hq] at hl; cases hl
  | some q =>
    rw [hq] at hl
    injection hl with hl
    subst hl
    have hil := (List.getElem?_eq_some_iff.1 hq).1
    obtain ⟨b, off, rfl, hb, hc⟩ := h2 (by omega)
    have := hc i q hq 0 _ rfl
    rw [Nat.mul_one, Nat.add_zero] at this
    exact ⟨b, off, q.a, q.c, rfl, hb, this, h3 q (List.mem_of_getElem? hq)⟩

/-- v is a slice of the call's own, of element type t, that holds the strings ls, each a slice of the call's own, of element type e; their blocks are among E -/
structure LO (w : World) (base : Nat) (t e : TypeId) (v : Value) (ls : List (List Byte)) (E : List Nat) : Prop where
  ex : ∃ qs : List Qb, qs.map (·.l) = ls ∧ Row.Os enc 1 w base t v qs ∧ ∀ q ∈ qs, Ow w base e q.v q.l ∧ ∀ k, q.v.ownBlock = some k → k ∈ E
  el : ∀ k ∈ E, base ≤ k ∧ ∃ cs, Cel w k e cs
variable {base n : Nat} {t e : TypeId} {v : Value} {E : List Nat}
theorem LO.nil_ (w : World) (base : Nat) (t e : TypeId) : LO w base t e (.slice none 0 0) [] [] := ⟨⟨[], rfl, Row.Os.nil_ _ _ _, fun q hq => by cases hq⟩, fun k hk => by cases hk⟩
theorem LO.only (h : LO w base t e v ls E) (k : Only S w w') (hv : ∀ i, v.ownBlock = some i → i ∉ S) (hE : ∀ i ∈ E, i ∉ S) : LO w' base t e v ls E := by
  obtain ⟨⟨qs, h1, h2, h3⟩, h4⟩ := h
  exact ⟨⟨qs, h1, h2.only k hv, fun q hq => ⟨(h3 q hq).1.only k (fun i hi => hE i ((h3 q hq).2 i hi)), (h3 q hq).2⟩⟩, fun i hi => ⟨(h4 i hi).1, by
    obtain ⟨cs, hc⟩ := (h4 i hi).2
    exact ⟨cs, hc.only k (hE i hi)⟩⟩⟩
theorem LO.below (h : LO w base t e v ls E) (k : Below w.heap.size w w') : LO w' base t e v ls E := h.only (S := []) (Only.of_below k) (by simp) (by simp)
theorem LO.alloc (h : LO w base t e v ls E) (o : Obj) : LO (w.alloc o) base t e v ls E := h.below ((Below.refl _ w).alloc (Nat.le_refl _) o)
theorem LO.draws (h : LO w base t e v ls E) (n : Nat) : LO (w.drewN n) base t e v ls E := h.below ⟨rfl, rfl, rfl, Nat.le_refl _, fun _ _ => rfl⟩
theorem LO.drew (h : LO w base t e v ls E) : LO w.drew base t e v ls E := h.below ⟨rfl, rfl, rfl, Nat.le_refl _, fun _ _ => rfl⟩
theorem LO.more (h : LO w base t e v ls E) {b' : Nat} (hb : b' ≤ base) : LO w b' t e v ls E := by
  obtain ⟨⟨qs, h1, h2, h3⟩, h4⟩ := h
  exact ⟨⟨qs, h1, h2.more hb, fun q hq => ⟨(h3 q hq).1.more hb, (h3 q hq).2⟩⟩, fun i hi => ⟨Nat.le_trans hb (h4 i hi).1, (h4 i hi).2⟩⟩
theorem LO.lt (h : LO w base t e v ls E) : ∀ i ∈ E, base ≤ i ∧ i < w.heap.size := fun i hi => ⟨(h.el i hi).1, by
  obtain ⟨cs, hc⟩ := (h.el i hi).2
  exact hc.lt⟩
theorem LO.row_lt (h : LO w base t e v ls E) : ∀ i, v.ownBlock = some i → base ≤ i ∧ i < w.heap.size := by
  obtain ⟨⟨qs, h1, h2, h3⟩, h4⟩ := h
  exact h2.lt
/-- a block of another type is no row of it -/
theorem LO.row_apart (h : LO w base t e v ls E) {g : Nat} {t' : TypeId} {cs : Array Value} (k : Cel w g t' cs) (ht : t ≠ t') : v.ownBlock ≠ some g := by
  obtain ⟨⟨qs, h1, h2, h3⟩, h4⟩ := h
  exact h2.apart k ht
theorem LO.el_apart (h : LO w base t e v ls E) {g : Nat} {t' : TypeId} {cs : Array Value} (k : Cel w g t' cs) (ht : e ≠ t') : g ∉ E := fun hg => by
  obtain ⟨cs', hc⟩ := (h.el g hg).2
  exact hc.apart k ht rfl
theorem LO.len (h : LO w base t e v ls E) (hn : ls.length = n) : ∃ A c, v = .slice A n c ∧ LS w w.heap.size A ls ∧ (A = none → c = 0) ∧ n ≤ c ∧ c ≤ maxLen := by
  obtain ⟨⟨qs, rfl, h2, h3⟩, h4⟩ := h
  obtain ⟨A, c, hv, hr, hn', hl, hm⟩ := h2.reads_len enc_ok (n := n) (by simpa using hn)
  exact ⟨A, c, hv, ⟨qs, rfl, hr, fun q hq => by
    obtain ⟨a, c, he, hd⟩ := Dt_own (h3 q hq).1
    unfold Qb.v at he
    cases he
    exact hd⟩, hn', hl, hm⟩
/-- what an append reads -/
theorem LO.parts (h : LO w base t e v ls E) (hn : ls.length = n) : ∃ (qs : List Qb) (A : Option Addr) (c : Nat), v = .slice A n c ∧ qs.length = n ∧ qs.map (·.l) = ls ∧ Row.Os enc 1 w base t (.slice A n c) qs ∧ Rs enc 1 w w.heap.size A qs ∧ (A = none → c = 0) ∧
    ∀ q ∈ qs, Ow w base e q.v q.l ∧ ∀ k, q.v.ownBlock = some k → k ∈ E := by
  obtain ⟨⟨qs, rfl, h2, h3⟩, h4⟩ := h
  have hn2 : qs.length = n := by simpa using hn
  obtain ⟨A, c, rfl, hr, hn', hl, hm⟩ := h2.reads_len enc_ok hn2
  exact ⟨qs, A, c, rfl, hn2, rfl, h2, hr, hn', h3⟩
/-- what an append leaves: onto v the strings of qs2 -/
theorem LO.app {ls2 : List (List Byte)} {E2 : List Nat} {v2 : Value} {qs2 : List Qb} {qs : List Qb} {row : Option Nat} (h : LO w base t e v ls E) (ht : t ≠ e) (he : qs.map (·.l) = ls) (h3 : ∀ q ∈ qs, Ow w base e q.v q.l ∧ ∀ k, q.v.ownBlock = some k → k ∈ E)
    (he2 : qs2.map (·.l) = ls2) (hq2 : ∀ q ∈ qs2, Ow w base e q.v q.l ∧ ∀ k, q.v.ownBlock = some k → k ∈ E2) (hE2 : ∀ k ∈ E2, base ≤ k ∧ ∃ cs, Cel w k e cs)
    (hrow : v.ownBlock = row) (hg : w.grownBy w' row) (ho : Row.Os enc 1 w' base t v2 (qs ++ qs2)) : LO w' base t e v2 (ls ++ ls2) (E ++ E2) := by
  have k := Only.of_grown hg
  have hne : ∀ i, (∃ cs, Cel w i e cs) → i ∉ row.toList := by
    rintro i ⟨cs, hc⟩ hm
    exact h.row_apart hc ht (by rw [hrow]; simpa using hm)
  have hE' : ∀ i ∈ E ++ E2, base ≤ i ∧ ∃ cs, Cel w i e cs := fun i hi => (List.mem_append.1 hi).elim (h.el i) (hE2 i)
  refine ⟨⟨qs ++ qs2, by rw [List.map_append, he, he2], ho, fun q hq => ?_⟩, fun i hi => ⟨(hE' i hi).1, ?_⟩⟩
  · have hq' : Ow w base e q.v q.l ∧ ∀ k, q.v.ownBlock = some k → k ∈ E ++ E2 := (List.mem_append.1 hq).elim
      (fun hq => ⟨(h3 q hq).1, fun k hk => List.mem_append_left _ ((h3 q hq).2 k hk)⟩) (fun hq => ⟨(hq2 q hq).1, fun k hk => List.mem_append_right _ ((hq2 q hq).2 k hk)⟩)
    exact ⟨hq'.1.only k (fun i hi => hne i (hE' i (hq'.2 i hi)).2), hq'.2⟩
  · obtain ⟨cs, hc⟩ := (hE' i hi).2
    exact ⟨cs, hc.only k (hne i ⟨cs, hc⟩)⟩
theorem own_cel {X : World} {base size n : Nat} {t : TypeId} {v : Value} {xs : List Value} (h : X.ownsRow base t size v n xs) {i : Nat} (hi : v.ownBlock = some i) : ∃ cs, Cel X i t cs := by
  rcases h.2 with ⟨rfl, _⟩ | ⟨g, cap, cur, rfl, _, hg, _⟩
  · cases hi
  · injection hi with hi
    have : g = i := hi
    subst this
    exact ⟨_, hg⟩
/-- one string more, in a block of its own -/
theorem LO.push1 {w4 w6 : World} {b' c n : Nat} {A : Option Addr} {L : List Byte} {v2 : Value} {ob : Obj} {qs : List Qb} {row : Option Nat} (h : LO w base t e v ls E) (ht : t ≠ e) (o4 : Ow w4 b' e (.slice A n c) L) (hb' : base ≤ b') (hn : L.length = n) (b4 : Below w.heap.size w w4)
    (he : qs.map (·.l) = ls) (h3 : ∀ q ∈ qs, Ow (w4.alloc ob) base e q.v q.l ∧ ∀ k, q.v.ownBlock = some k → k ∈ E) (hR : v.ownBlock = row) (hg6 : (w4.alloc ob).grownBy w6 row) (ho6 : Row.Os enc 1 w6 base t v2 (qs ++ [⟨L, A, c⟩])) :
    LO w6 base t e v2 (ls ++ [L]) (E ++ (Value.slice A n c).ownBlock.toList) := by
  subst hn
  have e4 : ∀ k ∈ (Value.slice A L.length c).ownBlock.toList, base ≤ k ∧ ∃ cs, Cel (w4.alloc ob) k e cs := fun k hk => by
    have hk : (Value.slice A L.length c).ownBlock = some k := by simpa using hk
    have o5 := o4.alloc ob
    exact ⟨by have := (o5.lt k hk).1; omega, own_cel o5 hk⟩
  refine (h.below (b4.alloc b4.size ob)).app ht he h3 (ls2 := [L]) (qs2 := [⟨L, A, c⟩]) rfl (fun q hq => ?_) e4 hR hg6 ho6
  obtain rfl := List.mem_singleton.1 hq
  exact ⟨(o4.alloc ob).more hb', fun k hk => by simpa [Qb.v] using hk⟩
theorem toList_own {w : World} {base : Nat} {e : TypeId} {v : Value} {l : List Byte} (h : Ow w base e v l) : ∀ k ∈ v.ownBlock.toList, base ≤ k ∧ ∃ cs, Cel w k e cs := fun k hk => by
  have hk : v.ownBlock = some k := by simpa using hk
  exact ⟨(h.lt k hk).1, own_cel h hk⟩
end
end Go.Proofs.Ytdpjjhbfhlmolaa.Lst

/-
  An argument opened: a slice of byte slices.
-/
namespace Go.Proofs.Ytdpjjhbfhlmolaa.Lst
open Go.RowKit Go.ChangeShapes Go.WideShapes Go.Deep Go.Proofs.Ytdpjjhbfhlmolaa.Row

theorem add_plain' (b off i : Nat) : (⟨b, off, none⟩ : Addr).add i = ⟨b, off + i, none⟩ := by
  by_cases h : i = 0
  · subst h; rfl
  · simp [Addr.add, h]
set_option maxRecDepth 100000 in
theorem open_lists {H : Type} {enc' : TypeId × Value → H} {w : World} {base : Nat} {held : Bool} {r : Reach} {b0 : Nat} {v : Value} {d : DataW H} {ps : List MemPlace} (hval : Value.okWide Try.prog w r b0 28 v) (hd : DataW.Trod enc' Try.prog w base (fun _ => true) held 28 v d ps) :
    ∃ a cap, ∃ l : List (List Byte), v = .slice a l.length cap ∧ (a = none → cap = 0) ∧ l.length ≤ cap ∧ cap ≤ maxLen ∧ LS w w.heap.size a l := by
  obtain ⟨a0, len0, cap0, rfl⟩ := okWide_slice Try.underlying28 hval
  obtain ⟨fuel, hf⟩ := hd
  rcases open_slice1 Try.underlying28 (by kernel_rfl) hf with ⟨hcs, _⟩ | ⟨a, len, cap, m, n, V, D, Pl, hcs, _, hl, hm, hmm, _, hx⟩
  · simp [Value.cells] at hcs
    obtain ⟨rfl, rfl, rfl⟩ := hcs
    exact ⟨none, 0, [], rfl, fun _ => rfl, by simp, by simp, LS.nil_⟩
  · simp [Value.cells] at hcs
    obtain ⟨rfl, rfl, rfl⟩ := hcs
    have hlm : len0 ≤ m := by rw [hmm]; split <;> omega
    have sel : ∀ i, i < len0 → ∃ q : Qb, V i = .slice q.a q.l.length q.c ∧ Dt w w.heap.size q.l q.a q.c := by
      intro i hi
      obtain ⟨A5, l5, c5, e5, hb, hn, hlc, hcm⟩ := open_bytes_cell Try.underlying33 Try.underlying5 (by kernel_rfl) (hx i (by omega)).2
      exact ⟨⟨l5, A5, c5⟩, e5, hb, hn, hlc, hcm⟩
    have : Inhabited Qb := ⟨⟨[], none, 0⟩⟩
    obtain ⟨F, hF⟩ := choose_lt sel
    have hlen : (((List.range len0).map F).map (·.l)).length = len0 := by simp
    refine ⟨some a, cap0, ((List.range len0).map F).map (·.l), by rw [hlen], (fun h => nomatch h), by rw [hlen]; exact hl, hm, (List.range len0).map F, rfl, fun h0 => ?_, fun q hq => ?_⟩
    · have h0 : 0 < len0 := by simpa using h0
      obtain ⟨b, off, spot⟩ := a
      have hs : spot = none := by
        have := World.cell?_spot (hx 0 (by omega)).1
        simpa [Addr.add] using this
      subst hs
      have hb : b < w.heap.size := by
        have c0 := (hx 0 (by omega)).1
        rw [add_plain'] at c0
        exact lt_of_cell c0
      refine ⟨b, off, rfl, hb, fun i x hix j u hu => ?_⟩
      rw [List.getElem?_map] at hix
      by_cases hi : i < len0
      · rw [List.getElem?_range hi] at hix
        injection hix with hix
        subst hix
        match j, hu with
        | 0, hu =>
          simp [enc] at hu
          have c := (hx i (by omega)).1
          rw [add_plain', (hF i hi).1] at c
          rw [Nat.mul_one, Nat.add_zero, ← hu]
          exact c
        | j + 1, hu => simp [enc] at hu
      · rw [List.getElem?_eq_none (by simpa using hi)] at hix
        cases hix
    · obtain ⟨i, hi, rfl⟩ := List.mem_map.1 hq
      exact (hF i (by simpa using hi)).2
end Go.Proofs.Ytdpjjhbfhlmolaa.Lst

/-
  A slice of booleans in a world; an argument opened: a slice of booleans that came in.
-/
namespace Go.Proofs.Ytdpjjhbfhlmolaa.Bools
open Go.RowKit Go.ChangeShapes Go.WideShapes Go.Deep Go.Proofs.Ytdpjjhbfhlmolaa.Row

/-- 'A' leads to the booleans l, all below block B; of the empty list nothing is asked -/
def Nb (w : World) (B : Nat) (A : Option Addr) (l : List Bool) : Prop :=
  0 < l.length → ∃ b off, A = some ⟨b, off, none⟩ ∧ b < B ∧ ∀ i x, l[i]? = some x → w.cell? ⟨b, off + i, none⟩ = some (.bool x)
theorem Nb.at_ {w : World} {B : Nat} {a : Option Addr} {l : List Bool} (h : Nb w B a l) {k : Nat} (hk : k < l.length) : ∃ b off, a = some ⟨b, off, none⟩ ∧ b < B ∧ w.cell? ⟨b, off + k, none⟩ = some (.bool l[k]) := by
  obtain ⟨b, off, rfl, hb, hc⟩ := h (by omega)
  exact ⟨b, off, rfl, hb, hc k _ (List.getElem?_eq_getElem hk)⟩

theorem add_plain' (b off i : Nat) : (⟨b, off, none⟩ : Addr).add i = ⟨b, off + i, none⟩ := by
  by_cases h : i = 0
  · subst h; rfl
  · simp [Addr.add, h]
set_option maxRecDepth 100000 in
theorem open_bools {H : Type} {enc' : TypeId × Value → H} {w : World} {base : Nat} {held : Bool} {r : Reach} {b0 : Nat} {v : Value} {d : DataW H} {ps : List MemPlace} (hval : Value.okWide Try.prog w r b0 72 v) (hd : DataW.Trod enc' Try.prog w base (fun _ => true) held 72 v d ps) :
    ∃ a cap, ∃ l : List Bool, v = .slice a l.length cap ∧ (a = none → cap = 0) ∧ l.length ≤ cap ∧ cap ≤ maxLen ∧ Nb w w.heap.size a l := by
  obtain ⟨a0, len0, cap0, rfl⟩ := okWide_slice Try.underlying72 hval
  obtain ⟨fuel, hf⟩ := hd
  rcases open_slice1 Try.underlying72 (by kernel_rfl) hf with ⟨hcs, _⟩ | ⟨a, len, cap, m, n, V, D, Pl, hcs, _, hl, hm, hmm, _, hx⟩
  · simp [Value.cells] at hcs
    obtain ⟨rfl, rfl, rfl⟩ := hcs
    exact ⟨none, 0, [], rfl, fun _ => rfl, by simp, by simp, fun h => absurd h (by simp)⟩
  · simp [Value.cells] at hcs
    obtain ⟨rfl, rfl, rfl⟩ := hcs
    have hlm : len0 ≤ m := by rw [hmm]; split <;> omega
    have sel : ∀ i, i < len0 → ∃ q : Bool, V i = .bool q := by
      intro i hi
      obtain ⟨x0, e0, _⟩ := DataW.trod_bool Try.underlying4 (hx i (by omega)).2
      injection e0 with e0
      exact ⟨x0, e0⟩
    obtain ⟨F, hF⟩ := choose_lt sel
    have hlen : ((List.range len0).map F).length = len0 := by simp
    refine ⟨some a, cap0, (List.range len0).map F, by rw [hlen], (fun h => nomatch h), by rw [hlen]; exact hl, hm, fun h0 => ?_⟩
    have h0 : 0 < len0 := by simpa using h0
    obtain ⟨b, off, spot⟩ := a
    have hs : spot = none := by
      have := World.cell?_spot (hx 0 (by omega)).1
      simpa [Addr.add] using this
    subst hs
    have hb : b < w.heap.size := by
      have c0 := (hx 0 (by omega)).1
      rw [add_plain'] at c0
      exact lt_of_cell c0
    refine ⟨b, off, rfl, hb, fun i x hix => ?_⟩
    rw [List.getElem?_map] at hix
    by_cases hi : i < len0
    · rw [List.getElem?_range hi] at hix
      injection hix with hix
      subst hix
      have c := (hx i (by omega)).1
      rw [add_plain', hF i hi] at c
      exact c
    · rw [List.getElem?_eq_none (by simpa using hi)] at hix
      cases hix
end Go.Proofs.Ytdpjjhbfhlmolaa.Bools

/-
  The law TopSequence.
-/
namespace Go.Proofs.Ytdpjjhbfhlmolaa.Fop
open Go.RowKit
open Pac (bel_new Cel.later)
open Tcf (Fr)
open Lst (LS)
open Bools (Nb)

theorem PO.apart {w0 w : World} {B g : Nat} {O : Option Nat} {K H W T R : Int} {s : Fs} (h : PO w0 w B g O K H W T R s) {q : Nat} {t : TypeId} {cs : Array Value} (hc : Cel w q t cs) (h1 : t ≠ 70) (h2 : t ≠ 9) : ∀ x ∈ g :: O.toList, x ∉ [q] := by
  obtain ⟨v, rfl, f⟩ := h.ex
  intro x hx hm
  rw [List.mem_singleton] at hm
  subst hm
  simp only [List.mem_cons, Option.mem_toList] at hx
  rcases hx with rfl | hx
  · exact Cel.apart hc f.cel h1 rfl
  · exact Row.Os.apart f.row hc h2.symm hx

theorem nb_below {w w' : World} {B B' : Nat} {A : Option Addr} {l : List Bool} (h : Nb w B A l) (k : Below B w w') (hB : B ≤ B') : Nb w' B' A l := fun hl => by
  obtain ⟨b, off, e, hb, hc⟩ := h hl
  exact ⟨b, off, e, Nat.lt_of_lt_of_le hb hB, fun i x hx => (k.cell (p := ⟨b, off + i, none⟩) hb).trans (hc i x hx)⟩
set_option maxHeartbeats 1000000 in
/-- a bool of a pattern -/
theorem has_any (l : List Bool) (n t : Nat) (A : Option Addr) (c : Nat) (w : World) (hl : Hid (l.length = n)) (hn : Nb w w.heap.size A l) :
    Calls Try.prog 31 #[.slice A n c, .int .i64 (t : Int)] w fun e w' => ∃ b, e = .returned (.bool b) ∧ w = w' ∧ (n ≤ t → b = false) := by
  have g0 : decide ((0 : Int) ≤ (t : Int)) = true := by simp
  by_cases hlt : t < n
  · have g1 : decide ((t : Int) < (n : Int)) = true := by simp; omega
    have g2 : decide (t < n) = true := by simp; omega
    have htl : t < l.length := by rw [hl.out]; exact hlt
    obtain ⟨b, off, rfl, hb, hc⟩ := hn.at_ htl
    generalize l[t] = x at hc
    have hfin : n ≤ t → x = false := fun h => by omega
    have HF := Lib.hid hfin
    clear hn htl hl hfin
    go_enter Try.func31, Try.ntmps31
    go_wp2
    go_ret
    exact ⟨_, rfl, rfl, HF.out⟩
  · have g1 : decide ((t : Int) < (n : Int)) = false := by simp; omega
    have g2 : decide (t < n) = false := by simp; omega
    clear hn hl hlt
    go_enter Try.func31, Try.ntmps31
    go_wp2
    go_ret
    exact ⟨_, rfl, rfl, fun _ => rfl⟩

/-- a sending end and a receiving end beside each other -/
structure TT (w0 w : World) (B g q : Nat) (O : Option Nat) (s : Fs) (Q : Int) (ag : Bool) : Prop where
  p : PO w0 w B g O 5 1 8 3 255 s
  f : Far.FW w q 5 1 8 ⟨false, false, ag, 0, Q⟩
  q : B ≤ q
section
variable {w0 w w' : World} {B g q : Nat} {O : Option Nat} {s s' : Fs} {Q : Int} {ag : Bool}
theorem TT.below (h : TT w0 w B g q O s Q ag) (k : Below w.heap.size w w') : TT w0 w' B g q O s Q ag := ⟨h.p.below k, h.f.below k, h.q⟩
theorem TT.kp (h : TT w0 w B g q O s Q ag) (k : Kp w w') (p' : PO w0 w' B g O 5 1 8 3 255 s') : TT w0 w' B g q O s' Q ag :=
  ⟨p', ⟨k _ _ _ h.f.cel (by decide) (by decide), h.f.ok, h.f.w1, h.f.w2⟩, h.q⟩
theorem TT.far (h : TT w0 w B g q O s Q ag) {Q' : Int} {ag' : Bool} (k : Only [q] w w') (f' : Far.FW w' q 5 1 8 ⟨false, false, ag', 0, Q'⟩) : TT w0 w' B g q O s Q' ag' :=
  ⟨h.p.only k (by simpa using h.q) (h.p.apart (t := 92) h.f.cel (by decide) (by decide)), f', h.q⟩
end

set_option maxRecDepth 100000 in
set_option maxHeartbeats 16000000 in
theorem topSequence_any (l : List (List Byte)) (A : Option Addr) (N cap : Nat) (up : List Bool) (Au : Option Addr) (Nu cu : Nat) (dn : List Bool) (Ad : Option Addr) (Nd cd : Nat) (w : World) (hN : Hid (l.length = N)) (hl : LS w w.heap.size A l) (hNu : Hid (up.length = Nu)) (hu : Nb w w.heap.size Au up) (hNd : Hid (dn.length = Nd)) (hd : Nb w w.heap.size Ad dn) :
    Calls Try.prog 8 #[.slice A N cap, .slice Au Nu cu, .slice Ad Nd cd] w fun e w' => e = .returned (.bool true) ∧ Below w.heap.size w w' := by
  by_cases b1 : 20 < N
  · have g1 : decide ((20 : Int) < (N : Int)) = true := by simp; omega
    have g2 : decide (20 < N) = true := by simp; omega
    clear b1 hl hu hd hN hNu hNd
    go_enter Try.func8, Try.ntmps8
    go_wp2
    go_ret
    exact ⟨rfl, Below.refl _ _⟩
  have g1 : decide ((20 : Int) < (N : Int)) = false := by simp; omega
  have g2 : decide (20 < N) = false := by simp; omega
  by_cases b2 : 60 < Nu
  · have g3 : decide ((60 : Int) < (Nu : Int)) = true := by simp; omega
    have g4 : decide (60 < Nu) = true := by simp; omega
    clear b1 b2 hl hu hd hN hNu hNd
    go_enter Try.func8, Try.ntmps8
    go_wp2
    go_ret
    exact ⟨rfl, Below.refl _ _⟩
  have g3 : decide ((60 : Int) < (Nu : Int)) = false := by simp; omega
  have g4 : decide (60 < Nu) = false := by simp; omega
  by_cases b3 : 60 < Nd
  · have g5 : decide ((60 : Int) < (Nd : Int)) = true := by simp; omega
    have g6 : decide (60 < Nd) = true := by simp; omega
    clear b1 b2 b3 hl hu hd hN hNu hNd
    go_enter Try.func8, Try.ntmps8
    go_wp2
    go_ret
    exact ⟨rfl, Below.refl _ _⟩
  have g5 : decide ((60 : Int) < (Nd : Int)) = false := by simp; omega
  have g6 : decide (60 < Nd) = false := by simp; omega
  have HB := Lib.hid (And.intro (Nat.not_lt.1 b1) (And.intro (Nat.not_lt.1 b2) (Nat.not_lt.1 b3)))
  have x1 := PO.new 5 1 8 3 255 w (K' := 5) (H' := 1) (W' := 8) (T' := 3) (R' := 255) (by decide) (by decide) (by decide) (by decide) (by decide)
  clear b1 b2 b3
  go_enter Try.func8, Try.ntmps8
  go_wp2_with fail
  refine x1.mono ?_
  rintro e w1 ⟨g, rfl, p⟩
  clear x1
  go_wp2_with fail
  refine (Far.new_any 5 1 8 w1 (by decide) (by decide) (by decide) (by decide)).mono ?_
  rintro e w2 ⟨rfl, f2, b2⟩
  obtain ⟨q, hq⟩ : ∃ q, q = w1.heap.size := ⟨_, rfl⟩
  rw [← hq] at f2 ⊢
  have hqB : w.heap.size ≤ q := by rw [hq]; exact p.s
  have tt : TT w w2 w.heap.size g q none (sqq (l.take 0)) 0 false := ⟨p.below b2, f2, hqB⟩
  clear p f2 b2 hq hqB
  go_wp2_with fail
  go_loopw [9] (fun i wr => ∃ m : Nat, m ≤ N ∧ i = .int .i64 m ∧ ∃ O, TT w wr w.heap.size g q O (sqq (l.take m)) 0 false) (fun i _ => N - (intOf i).toNat)
  case atStart => exact ⟨0, Nat.zero_le _, rfl, none, tt⟩
  case round =>
    obtain ⟨m, hm, rfl, O, tq⟩ := hrel
    clear tt
    by_cases hlt : m < N
    · obtain ⟨d, hdm⟩ : ∃ d, l[m]? = some d := ⟨_, List.getElem?_eq_getElem (by rw [hN.out]; exact hlt)⟩
      obtain ⟨b0, off0, ad, cdd, rfl, hb0, hcell, hDt⟩ := hl.at_ hdm
      obtain ⟨M, hM⟩ : ∃ M, d.length = M := ⟨_, rfl⟩
      rw [hM] at hcell
      have rd : Rd w ad d M cdd := ⟨hM, hDt.b, hDt.n, by rw [← hM]; exact hDt.l, hDt.m⟩
      have rd' := rd.later tq.p.b
      have q1 := (tq.p.b.cell (p := ⟨b0, off0 + m, none⟩) hb0).trans hcell
      have Hdm := Lib.hid hdm
      have HM := Lib.hid hM
      have m20 : m ≤ 20 := by have := HB.out.1; omega
      clear hdm hM hcell hDt rd
      by_cases c1 : M < 1
      · have t1 : decide ((M : Int) < 1) = true := by simp; omega
        have t2 : decide (M < 1) = true := by simp; omega
        clear c1
        go_wp2
        go_ret
        exact ⟨rfl, tq.p.b⟩
      · have t1 : decide ((M : Int) < 1) = false := by simp; omega
        have t2 : decide (M < 1) = false := by simp; omega
        by_cases c2 : 200 < M
        · have t3 : decide ((200 : Int) < (M : Int)) = true := by simp; omega
          have t4 : decide (200 < M) = true := by simp; omega
          clear c1 c2
          go_wp2
          go_ret
          exact ⟨rfl, tq.p.b⟩
        · have t3 : decide ((200 : Int) < (M : Int)) = false := by simp; omega
          have t4 : decide (200 < M) = false := by simp; omega
          have hsn := snd_sqq Hdm.out (by have := HM.out; omega) (by have := HM.out; omega) (by have := hN.out; have := HB.out.1; omega)
          have Hsn := Lib.hid hsn
          clear hsn c1 c2
          go_wp2_with fail
          refine (tq.p.send_ rd' Hsn.out).mono ?_
          rintro e w3 ⟨rfl, ⟨O3, p3, _⟩, k3⟩
          have tq3 : TT w w3 w.heap.size g q O3 (sqq (l.take (m + 1))) 0 false := ⟨p3, ⟨tq.p.kp k3 _ _ _ tq.f.cel (by decide) (by decide), tq.f.ok, tq.f.w1, tq.f.w2⟩, tq.q⟩
          clear tq p3 k3 rd' Hsn
          go_wp2
          go_roundw
          case rel => exact ⟨m + 1, hlt, by simp, O3, tq3⟩
          case measure => simp [intOf]; omega
    · obtain rfl : m = N := by omega
      have htk : l.take m = l := List.take_of_length_le (by rw [hN.out]; exact Nat.le_refl _)
      rw [htk] at tq
      have HS : Hid (Tq l 8 3 60 100 0 0 (sqq l)) := Lib.hid (Tq.start (by decide) (by decide))
      have hul := tq.p.ok.ul
      have HUL : Hid (∀ d ∈ l, 1 ≤ d.length ∧ d.length ≤ 1017) := Lib.hid hul
      clear hm hlt htk hul
      go_wp2_with fail
      go_loopw [10, 11, 12, 13, 14, 15] (fun nv tv _ _ _ _ wr => ∃ (t : Nat) (Q : Int) (ag : Bool) (s : Fs), nv = .int .i64 Q ∧ tv = .int .i64 t ∧ t ≤ 260 ∧ 0 ≤ Q ∧ Q ≤ (m : Int) ∧ TT w wr w.heap.size g q O s Q ag ∧ Hid (Tq l 8 3 60 100 t Q s)) (fun _ tv _ _ _ _ _ => 260 - (intOf tv).toNat)
      case atStart => exact ⟨0, 0, false, _, rfl, rfl, by decide, by decide, by omega, tq, HS⟩
      case round =>
        obtain ⟨t, Q, ag, s, rfl, rfl, ht, hQ0, hQ1, tt, hs⟩ := hrel
        clear tq
        have hm20 : m ≤ 20 := HB.out.1
        by_cases htn : t < 260
        · have gt1 : decide ((t : Int) < 260) = true := by simp; omega
          have gt2 : decide (t < 260) = true := by simp; omega
          have hx := hs.out.next ag (by omega) (by omega) (by have := hN.out; omega) (by decide) (by decide) (by decide) (by decide) (by have := hN.out; omega)
          have HX := Lib.hid hx
          clear hx hs
          have xu := fun (W' : World) (hb : Below w.heap.size w W') => has_any up Nu t Au cu W' hNu (nb_below hu hb hb.size)
          have xd := fun (W' : World) (hb : Below w.heap.size w W') => has_any dn Nd t Ad cd W' hNd (nb_below hd hb hb.size)
          rcases HX.out with ⟨s1, hnx, hm1⟩ | ⟨S1, d, s1, hnx, hld, hS0, hSl, hlo, hhi, hq0, hql, hm0, hm1⟩
          · have hnx' := Lib.hid hnx
            have HM := Lib.hid hm1
            clear HX hnx hm1
            go_wp2_with fail
            refine (tt.p.next_ (t : Int) hnx'.out (m := 0) rfl).mono ?_
            rintro e w5 ⟨⟨A5, c5, rfl, _, _⟩, p5, k5⟩
            have t5 := tt.kp (tt.p.kp1 k5) p5
            obtain ⟨W5, hW5⟩ : ∃ W5, W5 = w5.alloc (.cells #[.bool false, .bool false, .int .i64 0, .int .i64 0, .int .i64 0, .slice A5 0 c5] 43) := ⟨_, rfl⟩
            have t6 := t5.below (w' := W5) (by rw [hW5]; exact bel_new _ _)
            clear tt p5 k5 t5
            go_wp2_with fail
            rw [← hW5]
            clear hW5
            refine (xd _ t6.p.b).mono ?_
            rintro e u1 ⟨bd, rfl, rfl, hbd⟩
            have Hbd := Lib.hid hbd
            clear hbd xd xu
            cases bd with
            | true =>
              have hlt60 : (t : Int) < 60 := by
                have h1 := HB.out.2.2
                have h2 := Hbd.out
                by_cases h3 : Nd ≤ t
                · exact absurd (h2 h3) (by decide)
                · omega
              have Hn := Lib.hid (HM.out.skip hlt60)
              clear Hbd HM hlt60
              go_wp2
              go_roundw
              case rel => exact ⟨t + 1, Q, ag, s1, rfl, by simp, htn, hQ0, hQ1, t6, Lib.hid (by have := Hn.out; simpa using this)⟩
              case measure => simp [intOf]; omega
            | false =>
              obtain ⟨s2, hrp, hn2⟩ := HM.out.report (by have := hN.out; omega)
              have Hrp := Lib.hid hrp
              have Hn2 := Lib.hid hn2
              have hac9 : s1.ac ≤ 1099511627776 := by
                have h1 := HM.out.v.al
                have := hN.out
                omega
              clear Hbd HM hrp hn2
              go_wp2_with fail
              refine (Far.report_any _ q 5 1 8 _ t6.f).mono ?_
              rintro e w8 ⟨rfl, b8⟩
              have t8 := t6.below b8
              clear t6 b8
              go_wp2_with fail
              refine (t8.p.report_ 1 false false ag 0 Q (t : Int) Hrp.out hac9).mono ?_
              rintro e w9 ⟨rfl, p9, k9⟩
              have t9 := t8.kp (t8.p.kp k9) p9
              clear t8 p9 k9 Hrp hac9
              go_wp2
              go_roundw
              case rel => exact ⟨t + 1, Q, ag, s2, rfl, by simp, htn, hQ0, hQ1, t9, Lib.hid (by have := Hn2.out; simpa using this)⟩
              case measure => simp [intOf]; omega
          · have hnx' := Lib.hid hnx
            have hdm := HUL.out d (List.mem_of_getElem? hld)
            obtain ⟨DM, hDM⟩ : ∃ DM, d.length = DM := ⟨_, rfl⟩
            have HDM := Lib.hid hDM
            have Hld := Lib.hid hld
            have Hlh := Lib.hid (And.intro hlo hhi)
            rw [hN.out] at hSl
            have Hm0 := Lib.hid hm0
            have Hm1 := Lib.hid hm1
            have HdM := Lib.hid hdm
            clear HX hnx hm0 hm1 hdm hDM hld hlo hhi
            go_wp2_with fail
            refine (tt.p.next_ (t : Int) hnx'.out (m := DM) HDM.out).mono ?_
            rintro e w5 ⟨⟨A5, c5, rfl, r5, _⟩, p5, k5⟩
            have t5 := tt.kp (tt.p.kp1 k5) p5
            obtain ⟨W5, hW5⟩ : ∃ W5, W5 = w5.alloc (.cells #[.bool false, .bool false, .int .i64 5, .int .i64 1, .int .i64 S1, .slice A5 DM c5] 43) := ⟨_, rfl⟩
            have bn : Below w5.heap.size w5 W5 := by rw [hW5]; exact bel_new _ _
            have t6 := t5.below bn
            have L : Cel W5 w5.heap.size 43 #[.bool false, .bool false, .int .i64 5, .int .i64 1, .int .i64 S1, .slice A5 DM c5] := by rw [hW5]; exact Cel.new _ _ _
            have r6 := r5.later bn
            clear tt p5 k5 t5 bn r5 hnx'
            go_wp2_with fail
            rw [← hW5]
            clear hW5
            refine (xu _ t6.p.b).mono ?_
            rintro e u1 ⟨bu, rfl, rfl, hbu⟩
            have Hbu := Lib.hid hbu
            clear hbu
            cases bu with
            | true =>
              have hlt60 : (t : Int) < 60 := by
                have h1 := HB.out.2.1
                have h2 := Hbu.out
                by_cases h3 : Nu ≤ t
                · exact absurd (h2 h3) (by decide)
                · omega
              have HM := Lib.hid (Hm0.out hlt60)
              clear Hbu Hm0 Hm1 hlt60 L r6 Hlh hSl hS0 Hld
              go_wp2_with fail
              refine (xd _ t6.p.b).mono ?_
              rintro e u1 ⟨bd, rfl, rfl, hbd⟩
              have Hbd := Lib.hid hbd
              clear hbd xd xu
              cases bd with
              | true =>
                have hlt60 : (t : Int) < 60 := by
                  have h1 := HB.out.2.2
                  have h2 := Hbd.out
                  by_cases h3 : Nd ≤ t
                  · exact absurd (h2 h3) (by decide)
                  · omega
                have Hn := Lib.hid (HM.out.skip hlt60)
                clear Hbd HM hlt60
                go_wp2
                go_roundw
                case rel => exact ⟨t + 1, Q, ag, s1, rfl, by simp, htn, hQ0, hQ1, t6, Lib.hid (by have := Hn.out; simpa using this)⟩
                case measure => simp [intOf]; omega
              | false =>
                obtain ⟨s2, hrp, hn2⟩ := HM.out.report (by have := hN.out; omega)
                have Hrp := Lib.hid hrp
                have Hn2 := Lib.hid hn2
                have hac9 : s1.ac ≤ 1099511627776 := by
                  have h1 := HM.out.v.al
                  have := hN.out
                  omega
                clear Hbd HM hrp hn2
                go_wp2_with fail
                refine (Far.report_any _ q 5 1 8 _ t6.f).mono ?_
                rintro e w8 ⟨rfl, b8⟩
                have t8 := t6.below b8
                clear t6 b8
                go_wp2_with fail
                refine (t8.p.report_ 1 false false ag 0 Q (t : Int) Hrp.out hac9).mono ?_
                rintro e w9 ⟨rfl, p9, k9⟩
                have t9 := t8.kp (t8.p.kp k9) p9
                clear t8 p9 k9 Hrp hac9
                go_wp2
                go_roundw
                case rel => exact ⟨t + 1, Q, ag, s2, rfl, by simp, htn, hQ0, hQ1, t9, Lib.hid (by have := Hn2.out; simpa using this)⟩
                case measure => simp [intOf]; omega
            | false =>
              have htk := take_seq (W := 8) (Q := Q) (ag := ag) (q := S1) HdM.out.1 HdM.out.2 hS0 (by omega) hQ0 (by omega) (by decide) (by decide) Hlh.out.1 Hlh.out.2
              have xt := Far.take_any false false 5 1 S1 A5 d DM c5 true W5 q 5 1 8 _ t6.f r6
              rw [htk] at xt
              dsimp only at xt
              have l0 := L.cell 0
              have l1 := L.cell 1
              have l2 := L.cell 2
              have l3 := L.cell 3
              have l4 := L.cell 4
              have l5 := L.cell 5
              simp at l0 l1 l2 l3 l4 l5
              clear htk L Hbu Hm0
              by_cases hqQ : S1 = Q
              · subst hqQ
                have ev : vd 8 S1 S1 = 1 := by unfold vd; rw [if_pos rfl]
                have eh : hr 8 S1 ag S1 = (S1 + 1, false) := by unfold hr; rw [if_pos rfl]
                have HM := Hm1
                rw [eh] at xt HM
                rw [ev] at xt
                dsimp only at xt HM
                have ed : Far.dat 1 d = d := rfl
                rw [ed] at xt
                clear ev eh ed Hm1
                go_wp2_with fail
                refine xt.mono ?_
                rintro e w7 ⟨⟨vv, rfl, ow⟩, f7, k7⟩
                have t7 := t6.far k7 f7
                obtain ⟨A7, c7, rfl, r7⟩ := Rd.of ow HDM.out
                obtain ⟨b0, off0, ad, cdd, eA, hb0, hcell, hDt⟩ := hl.at_ Hld.out
                subst eA
                rw [HDM.out] at hcell
                have rd : Rd w ad d DM cdd := ⟨HDM.out, hDt.b, hDt.n, by rw [← HDM.out]; exact hDt.l, hDt.m⟩
                have rd' := rd.later t7.p.b
                have q1 := (t7.p.b.cell (p := ⟨b0, off0 + S1.toNat, none⟩) hb0).trans hcell
                have hb7 : b0 < w7.heap.size := Nat.lt_of_lt_of_le hb0 t7.p.b.size
                obtain ⟨X, hX⟩ : ∃ X, str d = X := ⟨_, rfl⟩
                have n1 : ∀ p : Later w7, p.W.cell? ⟨b0, off0 + S1.toNat, none⟩ = some (.slice ad DM cdd) := later_cell q1 hb7
                have n2 : ∀ p : Later w7, (convert 33 9 (.slice A7 DM c7)).run Try.prog p.W = .ok (.string X) p.W := fun p => by rw [← hX]; exact r7.conv p.h
                have n3 : ∀ p : Later w7, (convert 33 9 (.slice ad DM cdd)).run Try.prog p.W = .ok (.string X) p.W := fun p => by rw [← hX]; exact rd'.conv p.h
                have z1 : decide ((m : Int) ≤ S1) = false := by simp; omega
                have zn : S1.toNat < m := by omega
                have zi : (X.toList != X.toList) = false := by simp
                have z5 : wrap64 (S1 + 1) = S1 + 1 := wr64 (by omega) (by omega)
                clear ow f7 k7 t6 hX rd rd' r7 hDt hcell q1 xt l0 l1 l2 l3 l4 l5 r6
                go_wp2_with fail
                refine wp_region_later (by kernel_rfl) (by kernel_rfl) ?_
                repeat (go_big_quiet_step (fail))
                refine wpQuiet_nil ?_
                rintro w8 ⟨p8, hp8⟩
                have b8 : Below w7.heap.size w7 w8 := by rw [hp8]; exact p8.h
                have t8' := t7.below b8
                clear hp8 p8 n1 n2 n3 t7 b8
                go_wp2_with fail
                refine (xd _ t8'.p.b).mono ?_
                rintro e u1 ⟨bd, rfl, rfl, hbd⟩
                have Hbd := Lib.hid hbd
                clear hbd xd xu
                cases bd with
                | true =>
                  have hlt60 : (t : Int) < 60 := by
                    have h1 := HB.out.2.2
                    have h2 := Hbd.out
                    by_cases h3 : Nd ≤ t
                    · exact absurd (h2 h3) (by decide)
                    · omega
                  have Hn := Lib.hid (HM.out.skip hlt60)
                  clear Hbd HM hlt60
                  go_wp2
                  go_roundw
                  case rel => exact ⟨t + 1, (S1 + 1), false, s1, rfl, by simp, htn, by omega, by omega, t8', Lib.hid (by have := Hn.out; simpa using this)⟩
                  case measure => simp [intOf]; omega
                | false =>
                  obtain ⟨s2, hrp, hn2⟩ := HM.out.report (by have := hN.out; omega)
                  have Hrp := Lib.hid hrp
                  have Hn2 := Lib.hid hn2
                  have hac9 : s1.ac ≤ 1099511627776 := by
                    have h1 := HM.out.v.al
                    have := hN.out
                    omega
                  clear Hbd HM hrp hn2
                  go_wp2_with fail
                  refine (Far.report_any _ q 5 1 8 _ t8'.f).mono ?_
                  rintro e w8 ⟨rfl, b8⟩
                  have t8 := t8'.below b8
                  clear t8' b8
                  go_wp2_with fail
                  refine (t8.p.report_ 1 false false false 0 (S1 + 1) (t : Int) Hrp.out hac9).mono ?_
                  rintro e w9 ⟨rfl, p9, k9⟩
                  have t9 := t8.kp (t8.p.kp k9) p9
                  clear t8 p9 k9 Hrp hac9
                  go_wp2
                  go_roundw
                  case rel => exact ⟨t + 1, (S1 + 1), false, s2, rfl, by simp, htn, by omega, by omega, t9, Lib.hid (by have := Hn2.out; simpa using this)⟩
                  case measure => simp [intOf]; omega
              · have hV : (vd 8 Q S1 == 1) = false := by unfold vd; rw [if_neg hqQ]; split <;> decide
                have hV1 : vd 8 Q S1 ≠ 1 := by unfold vd; rw [if_neg hqQ]; split <;> decide
                have eh : (hr 8 Q ag S1).1 = Q := by unfold hr; rw [if_neg hqQ]; split <;> rfl
                have HM := Hm1
                rw [eh] at xt HM
                obtain ⟨ag', hag⟩ : ∃ ag', (hr 8 Q ag S1).2 = ag' := ⟨_, rfl⟩
                rw [hag] at xt HM
                obtain ⟨V, hVV⟩ : ∃ V, vd 8 Q S1 = V := ⟨_, rfl⟩
                rw [hVV] at xt hV hV1
                clear eh hag hVV Hm1 hqQ
                go_wp2_with fail
                refine xt.mono ?_
                rintro e w7 ⟨⟨vv, rfl, ow⟩, f7, k7⟩
                have t7 := t6.far k7 f7
                have ed : Far.dat V d = [] := by unfold Far.dat; rw [if_neg hV1]
                rw [ed] at ow
                obtain ⟨A7, c7, rfl, _⟩ := Rd.of ow rfl
                clear ow f7 k7 t6 xt l0 l1 l2 l3 l4 l5 r6 ed hV1 Hld hSl hS0 Hlh
                go_wp2_with fail
                refine (xd _ t7.p.b).mono ?_
                rintro e u1 ⟨bd, rfl, rfl, hbd⟩
                have Hbd := Lib.hid hbd
                clear hbd xd xu
                cases bd with
                | true =>
                  have hlt60 : (t : Int) < 60 := by
                    have h1 := HB.out.2.2
                    have h2 := Hbd.out
                    by_cases h3 : Nd ≤ t
                    · exact absurd (h2 h3) (by decide)
                    · omega
                  have Hn := Lib.hid (HM.out.skip hlt60)
                  clear Hbd HM hlt60
                  go_wp2
                  go_roundw
                  case rel => exact ⟨t + 1, Q, ag', s1, rfl, by simp, htn, hQ0, hQ1, t7, Lib.hid (by have := Hn.out; simpa using this)⟩
                  case measure => simp [intOf]; omega
                | false =>
                  obtain ⟨s2, hrp, hn2⟩ := HM.out.report (by have := hN.out; omega)
                  have Hrp := Lib.hid hrp
                  have Hn2 := Lib.hid hn2
                  have hac9 : s1.ac ≤ 1099511627776 := by
                    have h1 := HM.out.v.al
                    have := hN.out
                    omega
                  clear Hbd HM hrp hn2
                  go_wp2_with fail
                  refine (Far.report_any _ q 5 1 8 _ t7.f).mono ?_
                  rintro e w8 ⟨rfl, b8⟩
                  have t8 := t7.below b8
                  clear t7 b8
                  go_wp2_with fail
                  refine (t8.p.report_ 1 false false ag' 0 Q (t : Int) Hrp.out hac9).mono ?_
                  rintro e w9 ⟨rfl, p9, k9⟩
                  have t9 := t8.kp (t8.p.kp k9) p9
                  clear t8 p9 k9 Hrp hac9
                  go_wp2
                  go_roundw
                  case rel => exact ⟨t + 1, Q, ag', s2, rfl, by simp, htn, hQ0, hQ1, t9, Lib.hid (by have := Hn2.out; simpa using this)⟩
                  case measure => simp [intOf]; omega
        · obtain rfl : t = 260 := by omega
          have hz := hs.out.late (by decide) (by decide)
          have hfin := hs.out.done hz
          rw [hN.out] at hfin
          have xq := tt.p.queued_
          have xa := tt.p.acked_
          have xst := tt.p.state_
          rw [hs.out.v.st] at xst
          rw [hz] at xq
          rw [hfin.2] at xa
          have hQe : Q = (m : Int) := hfin.1
          subst hQe
          have z1 : ((m : Int) == (m : Int)) = true := by simp
          have z2 : (m == m) = true := by simp
          have hsn : snd [1#8] s = (0, { s with us := s.us ++ [[1#8]] }) := by
            unfold snd
            rw [if_neg (by simp), if_neg (by omega)]
          have Hsn := Lib.hid hsn
          obtain ⟨W9, hW9⟩ : ∃ W9, W9 = wr.alloc (.cells #[.int .u8 1] 5) := ⟨_, rfl⟩
          have p9 := tt.p.below (w' := W9) (by rw [hW9]; exact bel_new _ _)
          have rd9 : Rd W9 (some ⟨wr.heap.size, 0, none⟩) [1#8] 1 1 := by rw [hW9]; exact ⟨rfl, Bs_new _ _ _ _ (by simp) _ (by simp) _, (fun h => nomatch h), by decide, by decide⟩
          clear hsn hs hz hfin hQ0 hQ1 tt
          go_wp2_with fail
          refine xq.mono ?_
          rintro e u1 ⟨rfl, rfl⟩
          go_wp2_with fail
          refine xa.mono ?_
          rintro e u1 ⟨rfl, rfl⟩
          go_wp2_with fail
          refine xst.mono ?_
          rintro e u1 ⟨rfl, rfl⟩
          go_wp2_with fail
          rw [← hW9]
          clear hW9
          refine (p9.send_ rd9 Hsn.out).mono ?_
          rintro e w9 ⟨rfl, ⟨O9, p10, _⟩, _⟩
          go_wp2
          go_ret
          exact ⟨rfl, p10.b⟩
end Go.Proofs.Ytdpjjhbfhlmolaa.Fop
