/-
  The laws of layer 16: data; a receiving end in play; the example of the chapter (alive); FarmLocks.
-/
import Derived.Test.YtdjopkfibfgjeaaFarmW2
import Derived.Test.YtdjopkfibfgjeaaLater
namespace Go.Proofs.Ytdjopkfibfgjeaa.Far
open Go.RowKit
open Pac (bel_new Cel.later)
open Tcf (Fr dir)

/-- the byte of a number -/
def bq (q : Int) : Byte := BitVec.ofNat 8 q.toNat
theorem bq_nat {q : Int} (h0 : 0 ≤ q) (h1 : q ≤ 255) : ((bq q).toNat : Int) = q := by
  unfold bq
  rw [BitVec.toNat_ofNat]
  omega

theorem dat_results {tmps : Array Value} {W : World} {g : Nat} {byp con : Bool} {cr ch sq : Int} {v : Value} (h2 : tmps.getD 2 undef = .pointer (some ⟨g, 0, none⟩))
    (hC : Cel W g 32 #[.bool byp, .bool con, .int .i64 cr, .int .i64 ch, .int .i64 sq, v]) :
    (results Try.f16 tmps).run Try.prog W = .ok (.agg #[.bool byp, .bool con, .int .i64 cr, .int .i64 ch, .int .i64 sq, v]) W := by
  have c0 := hC.cell 0
  have c1 := hC.cell 1
  have c2 := hC.cell 2
  have c3 := hC.cell 3
  have c4 := hC.cell 4
  have c5 := hC.cell 5
  simp at c0 c1 c2 c3 c4 c5
  simp only [Array.getD_eq_getD_getElem?] at h2
  simp [results, Try.results16, go_sem, h2, c0, c1, c2, c3, c4, c5]

set_option maxHeartbeats 2000000 in
theorem data_any (q : Int) (w : World) (h0 : 0 ≤ q) (h1 : q ≤ 255) :
    Calls Try.prog 16 #[.int .i64 q] w fun e w' => ∃ A, e = .returned (.agg #[.bool false, .bool false, .int .i64 7, .int .i64 1, .int .i64 q, .slice A 1 1]) ∧ Rd w' A [bq q] 1 1 ∧ Below w.heap.size w w' := by
  obtain ⟨W0, hW0⟩ : ∃ W0, W0 = w.alloc (.cells #[.bool false, .bool false, .int .i64 7, .int .i64 1, .int .i64 q, .slice (some ⟨w.heap.size + 1, 0, none⟩) 1 1] 32) := ⟨_, rfl⟩
  have hR0 : Cel W0 w.heap.size 32 #[.bool false, .bool false, .int .i64 7, .int .i64 1, .int .i64 q, .slice (some ⟨w.heap.size + 1, 0, none⟩) 1 1] := by rw [hW0]; exact Cel.new _ _ _
  have b0 : Below w.heap.size w W0 := by rw [hW0]; exact bel_new _ _
  have hs0 : W0.heap.size = w.heap.size + 1 := by rw [hW0]; simp
  obtain ⟨W1, hW1⟩ : ∃ W1, W1 = W0.alloc (.cells #[.int .u8 q] 5) := ⟨_, rfl⟩
  have hR1 : Cel W1 w.heap.size 32 #[.bool false, .bool false, .int .i64 7, .int .i64 1, .int .i64 q, .slice (some ⟨w.heap.size + 1, 0, none⟩) 1 1] := by rw [hW1]; exact Cel.later hR0 (bel_new _ _)
  have b1 : Below w.heap.size w W1 := by rw [hW1]; exact b0.alloc b0.size _
  have hD : Rd W1 (some ⟨w.heap.size + 1, 0, none⟩) [bq q] 1 1 := by
    rw [hW1, ← hs0]
    exact ⟨rfl, Bs_new _ _ _ _ (by simp [bq_nat h0 h1]) _ (by simp) _, (fun h => nomatch h), by decide, by decide⟩
  have HD := Lib.hid hD
  rw [hW0] at hW1
  clear hs0 hR0 b0 hW0 hD
  go_enter Try.func16, Try.ntmps16
  go_wp2
  rw [← hW1]
  exact bodyPost_ret (dat_results rfl hR1) rfl ⟨_, rfl, HD.out, b1⟩

/-- the receiving end at block g, and what lies below block B is as it was -/
structure PF (w0 w : World) (B g : Nat) (K H W : Int) (s : St) : Prop where
  f : FW w g K H W s
  b : Below B w0 w
  s : B ≤ w.heap.size
  g : B ≤ g
section
variable {w0 w w' : World} {B g n c : Nat} {K H W cr ch sq : Int} {s : St} {byp con : Bool} {a : Option Addr} {l : List Byte}
theorem PF.below (h : PF w0 w B g K H W s) (k : Below w.heap.size w w') : PF w0 w' B g K H W s := ⟨h.f.below k, h.b.trans (k.mono h.s), Nat.le_trans h.s k.size, h.g⟩
theorem PF.only {S : List Nat} (h : PF w0 w B g K H W s) (k : Only S w w') (hS : ∀ x ∈ S, B ≤ x) (hg : g ∉ S) : PF w0 w' B g K H W s := ⟨h.f.only k hg, h.b.trans (k.below h.s hS), Nat.le_trans h.s k.size, h.g⟩
theorem PF.draws (h : PF w0 w B g K H W s) (m : Nat) : PF w0 (w.drewN m) B g K H W s := ⟨h.f.draws m, ⟨h.b.os, h.b.tape, h.b.output, h.b.size, h.b.block⟩, h.s, h.g⟩
theorem PF.keeps (h : PF w0 w B g K H W s) (hd : Rd w a l n c) (k : Only [g] w w') : Rd w' a l n c := h.f.cel.keeps hd k
theorem PF.new (m : Int) (hW : clw m = W) (h0 : 0 ≤ K) (h1 : K ≤ 1023) (h2 : 0 ≤ H) (h3 : H ≤ 7) :
    Calls Try.prog 7 #[.int .i64 K, .int .i64 H, .int .i64 m] w fun e w' => e = .returned (.pointer (some ⟨w.heap.size, 0, none⟩)) ∧ PF w w' w.heap.size w.heap.size K H W st0 := by
  subst hW
  exact (new_any K H m w h0 h1 h2 h3).mono fun _ _ ⟨e, h, b⟩ => ⟨e, h, b, b.size, Nat.le_refl _⟩
theorem PF.take (h : PF w0 w B g K H W s) (hD : Rd w a l n c) (room : Bool) {V : Int} {S' : St} {D : List Byte} {m : Nat} (hT : tke K H W s ⟨byp, con, cr, ch, sq, l⟩ room = (V, S')) (hd : dat V l = D) (hm : D.length = m) :
    Calls Try.prog 9 #[.pointer (some ⟨g, 0, none⟩), .agg #[.bool byp, .bool con, .int .i64 cr, .int .i64 ch, .int .i64 sq, .slice a n c], .bool room] w fun e w' => (∃ A c', e = .returned (.tuple #[.slice A m c', .int .i64 V]) ∧ Rd w' A D m c') ∧ PF w0 w' B g K H W S' ∧ Only [g] w w' := by
  have x := take_any byp con cr ch sq a l n c room w g K H W s h.f hD
  rw [hT] at x
  refine x.mono ?_
  rintro e w' ⟨⟨v, rfl, o⟩, f, k⟩
  dsimp only at o f
  rw [hd] at o
  obtain ⟨A, c', rfl, r⟩ := Rd.of o hm
  exact ⟨⟨A, c', rfl, r⟩, ⟨f, h.b.trans (k.below h.s (by simpa using h.g)), Nat.le_trans h.s k.size, h.g⟩, k⟩
theorem PF.report (h : PF w0 w B g K H W s) :
    Calls Try.prog 10 #[.pointer (some ⟨g, 0, none⟩)] w fun e w' => e = .returned (.agg #[.int .i64 H, .bool s.lk, .bool s.wt, .bool s.rt, .int .i64 s.bc, .int .i64 s.nx]) ∧ PF w0 w' B g K H W s ∧ Below w.heap.size w w' :=
  (report_any w g K H W s h.f).mono fun _ _ ⟨e, b⟩ => ⟨e, h.below b, b⟩
end

theorem tke_fr {W q : Int} {s : St} {b : Byte} {room : Bool} (h0 : 0 ≤ q) (h1 : q ≤ 255) : tke 7 1 W s ⟨false, false, 7, 1, q, [b]⟩ room = if s.lk then (4, s) else rcv W s q room := by
  have hok : Fr.ok ⟨false, false, 7, 1, q, [b]⟩ = true := by
    have hF : Fr.Fits ⟨false, false, 7, 1, q, [b]⟩ := ⟨show (0 : Int) ≤ 7 by decide, show (7 : Int) ≤ 1023 by decide, show (0 : Int) ≤ 1 by decide, show (1 : Int) ≤ 7 by decide, h0, h1, show 1 ≤ 1 by decide, show 1 ≤ 1017 by decide⟩
    rw [Fr.ok_yes hF]
    rfl
  unfold tke mine
  rw [hok]
  rfl
theorem tke_by {W : Int} {s : St} {l : List Byte} {room : Bool} (h0 : 1 ≤ l.length) (h1 : l.length ≤ 1017) : tke 7 1 W s ⟨true, false, 7, 1, 0, l⟩ room = (1, ⟨s.lk, s.wt, s.rt, (s.bc + 1) % 4, s.nx⟩) := by
  have hok : Fr.ok ⟨true, false, 7, 1, 0, l⟩ = true := by
    have hF : Fr.Fits ⟨true, false, 7, 1, 0, l⟩ := ⟨show (0 : Int) ≤ 7 by decide, show (7 : Int) ≤ 1023 by decide, show (0 : Int) ≤ 1 by decide, show (1 : Int) ≤ 7 by decide, show (0 : Int) ≤ 0 by decide, show (0 : Int) ≤ 255 by decide, h0, h1⟩
    rw [Fr.ok_yes hF]
    rfl
  unfold tke mine
  rw [hok]
  rfl

/-! a field of a control word that is a value -/
theorem word_lock (ch bc nx : Int) (lk wt rt : Bool) (w : World) : (Instr.field 34 (.agg #[.int .i64 ch, .bool lk, .bool wt, .bool rt, .int .i64 bc, .int .i64 nx]) 1).run Try.prog w = .ok (.bool lk) w := by kernel_rfl
theorem word_byp (ch bc nx : Int) (lk wt rt : Bool) (w : World) : (Instr.field 34 (.agg #[.int .i64 ch, .bool lk, .bool wt, .bool rt, .int .i64 bc, .int .i64 nx]) 4).run Try.prog w = .ok (.int .i64 bc) w := by kernel_rfl
theorem word_next (ch bc nx : Int) (lk wt rt : Bool) (w : World) : (Instr.field 34 (.agg #[.int .i64 ch, .bool lk, .bool wt, .bool rt, .int .i64 bc, .int .i64 nx]) 5).run Try.prog w = .ok (.int .i64 nx) w := by kernel_rfl

set_option maxRecDepth 100000 in
set_option maxHeartbeats 4000000 in
theorem alive16_any (w : World) : Calls Try.prog 12 #[] w fun e w' => e = .returned (.bool true) ∧ Below w.heap.size w w' := by
  have x1 := PF.new (w := w) (K := 7) (H := 1) 4 (W := 4) (by decide) (by decide) (by decide) (by decide) (by decide)
  have d0 := fun W => data_any 0 W (by decide) (by decide)
  have d1 := fun W => data_any 1 W (by decide) (by decide)
  have d2 := fun W => data_any 2 W (by decide) (by decide)
  have d9 := fun W => data_any 9 W (by decide) (by decide)
  obtain ⟨g, hg⟩ : ∃ g, g = w.heap.size := ⟨_, rfl⟩
  rw [← hg] at x1 ⊢
  clear hg
  go_enter Try.func12, Try.ntmps12
  go_wp2_with fail
  refine x1.mono ?_
  rintro e w1 ⟨rfl, p1⟩
  clear x1
  go_wp2_with fail
  refine (d0 w1).mono ?_
  rintro e w2 ⟨A2, rfl, r2, b2⟩
  have p2 := p1.below b2
  clear p1 b2
  go_wp2_with fail
  refine (p2.take r2 true (V := 1) (S' := ⟨false, false, false, 0, 1⟩) (D := [bq 0]) (m := 1) (by rw [tke_fr (by decide) (by decide)]; decide) rfl rfl).mono ?_
  rintro e w3 ⟨⟨A3, c3, rfl, r3⟩, p3, _⟩
  clear p2 r2 r3
  go_wp2_with fail
  refine (d2 w3).mono ?_
  rintro e w4 ⟨A4, rfl, r4, b4⟩
  have p4 := p3.below b4
  clear p3 b4
  go_wp2_with fail
  refine (p4.take r4 true (V := 3) (S' := ⟨false, false, true, 0, 1⟩) (D := []) (m := 0) (by rw [tke_fr (by decide) (by decide)]; decide) rfl rfl).mono ?_
  rintro e w5 ⟨⟨A5, c5, rfl, r5⟩, p5, _⟩
  clear p4 r4 r5
  go_wp2_with fail
  refine (d1 w5).mono ?_
  rintro e w6 ⟨A6, rfl, r6, b6⟩
  have p6 := p5.below b6
  clear p5 b6
  go_wp2_with fail
  refine (p6.take r6 true (V := 1) (S' := ⟨false, false, false, 0, 2⟩) (D := [bq 1]) (m := 1) (by rw [tke_fr (by decide) (by decide)]; decide) rfl rfl).mono ?_
  rintro e w7 ⟨⟨A7, c7, rfl, r7⟩, p7, _⟩
  clear p6 r6
  go_wp2_with fail
  refine (d0 w7).mono ?_
  rintro e w8 ⟨A8, rfl, r8, b8⟩
  have p8 := p7.below b8
  have z8 := r7.later b8
  clear p7 b8 r7
  go_wp2_with fail
  refine (p8.take r8 true (V := 2) (S' := ⟨false, false, false, 0, 2⟩) (D := []) (m := 0) (by rw [tke_fr (by decide) (by decide)]; decide) rfl rfl).mono ?_
  rintro e w9 ⟨⟨A9, c9, rfl, r9⟩, p9, k9⟩
  have z9 := p8.keeps z8 k9
  clear p8 r8 r9 z8 k9
  go_wp2_with fail
  refine (d9 w9).mono ?_
  rintro e w10 ⟨A10, rfl, r10, b10⟩
  have p10 := p9.below b10
  have z10 := z9.later b10
  clear p9 b10 z9
  go_wp2_with fail
  refine (p10.take r10 true (V := 4) (S' := ⟨true, false, false, 0, 2⟩) (D := []) (m := 0) (by rw [tke_fr (by decide) (by decide)]; decide) rfl rfl).mono ?_
  rintro e w11 ⟨⟨A11, c11, rfl, r11⟩, p11, k11⟩
  have z11 := p10.keeps z10 k11
  have s1 := z11.conv (Below.refl _ _)
  have e1 : ((str [bq 1]).toList == [1]) = true := by decide +kernel
  have x12 := p11.report
  dsimp only at x12
  clear p10 r10 r11 z10 k11 z11
  go_wp2_with fail
  refine x12.mono ?_
  rintro e w12 ⟨rfl, p12, _⟩
  go_wp2
  go_ret
  exact ⟨rfl, p12.b⟩
end Go.Proofs.Ytdjopkfibfgjeaa.Far
