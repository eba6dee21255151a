/-
  The walk of the reference of layer 10: Decode.
-/
import Derived.Test.YtjjjlgaidklokaaRef10c
namespace Go.Proofs.Ytjjjlgaidklokaa.Pac
open Go.RowKit

theorem xde_results {tmps : Array Value} {W : World} {g : Nat} {n e : Int} {com sec : Bool} {ap fl ct : Int} {v : Value} (h2 : tmps.getD 2 undef = .pointer (some ⟨g, 0, none⟩)) (h3 : tmps.getD 3 undef = .int .i64 n) (h4 : tmps.getD 4 undef = .int .i64 e)
    (hC : Cel W g 60 #[.bool com, .bool sec, .int .i64 ap, .int .i64 fl, .int .i64 ct, v]) :
    (results Try.f28 tmps).run Try.prog W = .ok (.tuple #[.agg #[.bool com, .bool sec, .int .i64 ap, .int .i64 fl, .int .i64 ct, v], .int .i64 n, .int .i64 e]) W := by
  have c0 := hC.cell 0
  have c1 := hC.cell 1
  have c2 := hC.cell 2
  have c3 := hC.cell 3
  have c4 := hC.cell 4
  have c5 := hC.cell 5
  simp at c0 c1 c2 c3 c4 c5
  simp only [Array.getD_eq_getD_getElem?] at h2 h3 h4
  simp [results, Try.results28, go_sem, h2, h3, h4, c0, c1, c2, c3, c4, c5]

set_option maxHeartbeats 2000000 in
theorem xdecode_err (a : Option Addr) (l : List Byte) (n c : Nat) (w : World) (hl : Hid (l.length = n)) (hb : Bs w w.heap.size a l) (hn : a = none → c = 0) (hnc : n ≤ c) (hcm : c ≤ maxLen) (h : siE l ≠ 0) :
    Calls Try.prog 28 #[.slice a n c] w fun e w' => e = .returned (.tuple #[.agg #[.bool false, .bool false, .int .i64 0, .int .i64 0, .int .i64 0, .slice none 0 0], .int .i64 0, .int .i64 (siE l)]) ∧ Below w.heap.size w w' := by
  have b0 := bel_new w (.cells #[.bool false, .bool false, .int .i64 0, .int .i64 0, .int .i64 0, .slice none 0 0] 60)
  have hR0 := Cel.new w 60 #[.bool false, .bool false, .int .i64 0, .int .i64 0, .int .i64 0, .slice none 0 0]
  have hs := xsize_any a l n c _ hl ((hb.below b0).more b0.size) hn hnc hcm
  obtain ⟨E, hE⟩ : ∃ E, E = siE l := ⟨_, rfl⟩
  rw [← hE] at hs h ⊢
  have hne : (E != 0) = true := by simpa using h
  clear hE hl hb hn hnc hcm h
  go_enter Try.func28, Try.ntmps28
  go_wp2_with fail
  refine hs.mono ?_
  rintro e w1 ⟨rfl, hb1⟩
  have hR1 := Cel.later hR0 hb1
  have bel1 := b0.trans (hb1.mono b0.size)
  have c0 := hR1.cell 0
  have c1 := hR1.cell 1
  have c2 := hR1.cell 2
  have c3 := hR1.cell 3
  have c4 := hR1.cell 4
  have c5 := hR1.cell 5
  simp at c0 c1 c2 c3 c4 c5
  have f0 := hR1.free 0
  have f1 := hR1.free 1
  have f2 := hR1.free 2
  have f3 := hR1.free 3
  have f4 := hR1.free 4
  have f5 := hR1.free 5
  clear hs hb1 hR0 b0
  go_wp2
  exact bodyPost_ret (xde_results rfl rfl rfl (putAll_cel hR1 false false 0 0 0 (.slice none 0 0))) rfl ⟨rfl, putAll_below bel1 (Nat.le_refl _) _ _ _ _ _ _⟩

set_option maxHeartbeats 2000000 in
theorem xdecode_short (a : Option Addr) (l : List Byte) (n c : Nat) (w : World) (hl : Hid (l.length = n)) (hb : Bs w w.heap.size a l) (hn : a = none → c = 0) (hnc : n ≤ c) (hcm : c ≤ maxLen) (h : siE l = 0) (h2 : l.length < tot l) :
    Calls Try.prog 28 #[.slice a n c] w fun e w' => e = .returned (.tuple #[.agg #[.bool false, .bool false, .int .i64 0, .int .i64 0, .int .i64 0, .slice none 0 0], .int .i64 0, .int .i64 3]) ∧ Below w.heap.size w w' := by
  have b0 := bel_new w (.cells #[.bool false, .bool false, .int .i64 0, .int .i64 0, .int .i64 0, .slice none 0 0] 60)
  have hR0 := Cel.new w 60 #[.bool false, .bool false, .int .i64 0, .int .i64 0, .int .i64 0, .slice none 0 0]
  have hs := xsize_any a l n c _ hl ((hb.below b0).more b0.size) hn hnc hcm
  have hln := hl.out
  obtain ⟨h3, h4, h5⟩ := siE_zero h
  rw [(siE_good h3 h4 h5).1, (siE_good h3 h4 h5).2] at hs
  obtain ⟨T, hT⟩ : ∃ T, T = tot l := ⟨_, rfl⟩
  rw [← hT] at hs h2
  have g1 : decide ((n : Int) < (T : Int)) = true := by simp; omega
  have g2 : decide (n < T) = true := by simp; omega
  clear hT hl hb hn hnc hcm h h2 h3 h4 h5 hln
  go_enter Try.func28, Try.ntmps28
  go_wp2_with fail
  refine hs.mono ?_
  rintro e w1 ⟨rfl, hb1⟩
  have hR1 := Cel.later hR0 hb1
  have bel1 := b0.trans (hb1.mono b0.size)
  have c0 := hR1.cell 0
  have c1 := hR1.cell 1
  have c2 := hR1.cell 2
  have c3 := hR1.cell 3
  have c4 := hR1.cell 4
  have c5 := hR1.cell 5
  simp at c0 c1 c2 c3 c4 c5
  have f0 := hR1.free 0
  have f1 := hR1.free 1
  have f2 := hR1.free 2
  have f3 := hR1.free 3
  have f4 := hR1.free 4
  have f5 := hR1.free 5
  clear hs hb1 hR0 b0
  go_wp2
  exact bodyPost_ret (xde_results rfl rfl rfl (putAll_cel hR1 false false 0 0 0 (.slice none 0 0))) rfl ⟨rfl, putAll_below bel1 (Nat.le_refl _) _ _ _ _ _ _⟩

set_option maxHeartbeats 2000000 in
theorem xdecode_form (a : Option Addr) (l : List Byte) (n c : Nat) (w : World) (hl : Hid (l.length = n)) (hb : Bs w w.heap.size a l) (hn : a = none → c = 0) (hnc : n ≤ c) (hcm : c ≤ maxLen) (h : siE l = 0) (h2 : ¬ l.length < tot l) (hok : (rd l).ok = false) :
    Calls Try.prog 28 #[.slice a n c] w fun e w' => e = .returned (.tuple #[.agg #[.bool false, .bool false, .int .i64 0, .int .i64 0, .int .i64 0, .slice none 0 0], .int .i64 0, .int .i64 4]) ∧ Below w.heap.size w w' := by
  have b0 := bel_new w (.cells #[.bool false, .bool false, .int .i64 0, .int .i64 0, .int .i64 0, .slice none 0 0] 60)
  have hR0 := Cel.new w 60 #[.bool false, .bool false, .int .i64 0, .int .i64 0, .int .i64 0, .slice none 0 0]
  have hs := xsize_any a l n c _ hl ((hb.below b0).more b0.size) hn hnc hcm
  have hln := hl.out
  obtain ⟨h3, h4, h5⟩ := siE_zero h
  rw [(siE_good h3 h4 h5).1, (siE_good h3 h4 h5).2] at hs
  have htot : 7 ≤ tot l := by unfold tot; omega
  obtain ⟨b, off, rfl, hbl, hc⟩ := head_cells hb (by omega)
  have hsub := fun W (hB : Bs W W.heap.size (some ⟨b, off, none⟩) l) => Bs_sub hB rfl 6 (tot l - 6)
  obtain ⟨m, hm⟩ : ∃ m, tot l = m + 7 := ⟨tot l - 7, by omega⟩
  have hd : (rd l).d = (l.drop 6).take (tot l - 6) := rfl
  have hdl : (rd l).d.length = m + 1 := by rw [hd, List.length_take, List.length_drop]; omega
  rw [← hd] at hsub
  have z0 := b8_lt l 0
  have t0 := hc 0 (by decide)
  have z1 := b8_lt l 1
  have t1 := hc 1 (by decide)
  have z2 := b8_lt l 2
  have t2 := hc 2 (by decide)
  have z3 := b8_lt l 3
  have t3 := hc 3 (by decide)
  simp only [Nat.add_zero] at t0
  have q1 : (rd l).com = decide (b8 l 0 / 16 % 2 = 1) := rfl
  have q2 : (rd l).sec = decide (b8 l 0 / 8 % 2 = 1) := rfl
  have q3 : (rd l).ap = ((256 * b8 l 0 + b8 l 1) % 2048 : Nat) := rfl
  have q4 : (rd l).fl = ((256 * b8 l 2 + b8 l 3) / 16384 : Nat) := rfl
  have q5 : (rd l).ct = ((256 * b8 l 2 + b8 l 3) % 16384 : Nat) := rfl
  obtain ⟨N0, hN0⟩ : ∃ N, N = b8 l 0 := ⟨_, rfl⟩
  obtain ⟨N1, hN1⟩ : ∃ N, N = b8 l 1 := ⟨_, rfl⟩
  obtain ⟨N2, hN2⟩ : ∃ N, N = b8 l 2 := ⟨_, rfl⟩
  obtain ⟨N3, hN3⟩ : ∃ N, N = b8 l 3 := ⟨_, rfl⟩
  rw [← hN0] at q1 q2 q3 t0 z0 h4
  rw [← hN1] at q3 t1 z1
  rw [← hN2] at q4 q5 t2 z2
  rw [← hN3] at q4 q5 t3 z3
  obtain ⟨H, hH⟩ : ∃ H, H = 256 * N0 + N1 := ⟨_, rfl⟩
  obtain ⟨C, hC⟩ : ∃ C, C = 256 * N2 + N3 := ⟨_, rfl⟩
  have HI : Hid (256 * (N0 : Int) + (N1 : Int) = (H : Int)) := Lib.hid (by omega)
  have CI : Hid (256 * (N2 : Int) + (N3 : Int) = (C : Int)) := Lib.hid (by omega)
  have zH : H < 8192 := by omega
  have zC : C < 65536 := by omega
  rw [← hH] at q3
  rw [← hC] at q4 q5
  obtain ⟨P, hP⟩ : ∃ P, P = rd l := ⟨_, rfl⟩
  rw [← hP] at hsub hok hdl q1 q2 q3 q4 q5
  obtain ⟨com, sec, ap, fl, ct, d⟩ := P
  simp only at hsub hok hdl q1 q2 q3 q4 q5
  rw [hm] at hs
  have y1 : Hid (((H : Int) / 4096 == 1) = com) := Lib.hid (by rw [q1, Bool.eq_iff_iff]; simp; omega)
  have y2 : Hid (((H : Int) / 2048 % 2 == 1) = sec) := Lib.hid (by rw [q2, Bool.eq_iff_iff]; simp; omega)
  have y3 : Hid ((H : Int) % 2048 = ap) := Lib.hid (by rw [q3]; omega)
  have y4 : Hid ((C : Int) / 16384 = fl) := Lib.hid (by rw [q4]; omega)
  have y5 : Hid ((C : Int) % 16384 = ct) := Lib.hid (by rw [q5]; omega)
  have hv := fun W A cc hB => xvalid_any com sec ap fl ct A d (m + 1) cc W (Lib.hid hdl) hB (by unfold maxLen; omega)
  rw [hok] at hv
  have hmn : m + 7 ≤ n := by omega
  have hm4 : m < 4090 := by omega
  have g0 : (6 : Int) ≤ (n : Int) := by omega
  have g1 : decide ((n : Int) < (m : Int) + 7) = false := by simp; omega
  have g2 : decide (n < m + 7) = false := by simp; omega
  have hmc : (m : Int) + 7 ≤ (c : Int) := by omega
  have HL := Lib.hid hdl
  have hc6 : c - 6 ≠ 0 := by omega
  have hcne : ¬ c = 6 := by omega
  clear hdl hd hm htot h3 h4 h5 h2 h hln hP hok hnc hcm hn hmn q1 q2 q3 q4 q5 hN0 hN1 hN2 hN3 hH hC hc
  go_enter Try.func28, Try.ntmps28
  go_wp2_with fail
  refine hs.mono ?_
  rintro e w1 ⟨rfl, hb1⟩
  have hR1 := Cel.later hR0 hb1
  have bel1 := b0.trans (hb1.mono b0.size)
  have t0' := (bel1.cell (p := ⟨b, off, none⟩) hbl).trans t0
  have t1' := (bel1.cell (p := ⟨b, off + 1, none⟩) hbl).trans t1
  have t2' := (bel1.cell (p := ⟨b, off + 2, none⟩) hbl).trans t2
  have t3' := (bel1.cell (p := ⟨b, off + 3, none⟩) hbl).trans t3
  clear hs hb1 hR0 b0 t0 t1 t2 t3
  go_wp2
  go_quiet (fail)
  rw [HI.out]
  have bel0 : Below w.heap.size w (w1.drewN nq) := bel1.trans (drewN_below _ _)
  have hR0' : Cel (w1.drewN nq) w.heap.size 60 #[.bool false, .bool false, .int .i64 0, .int .i64 0, .int .i64 0, .slice none 0 0] := hR1.draws nq
  have u3 : (w1.drewN nq).cell? ⟨b, off + 3, none⟩ = some (.int .u8 (N3 : Int)) := t3'
  have u2 : (w1.drewN nq).cell? ⟨b, off + 2, none⟩ = some (.int .u8 (N2 : Int)) := t2'
  obtain ⟨W0, hW0⟩ : ∃ W0, W0 = w1.drewN nq := ⟨_, rfl⟩
  rw [← hW0] at bel0 hR0' u2 u3 ⊢
  clear hW0 hR1 bel1 t0' t1' t2' t3'
  go_wp2
  go_quiet (fail)
  rw [CI.out]
  clear u2 u3
  obtain ⟨W1, hW1⟩ : ∃ W1, W1 = W0.drewN nq := ⟨_, rfl⟩
  rw [← hW1]
  have belW : Below w.heap.size w W1 := by rw [hW1]; exact bel0.trans (drewN_below _ _)
  have hRW : Cel W1 w.heap.size 60 #[.bool false, .bool false, .int .i64 0, .int .i64 0, .int .i64 0, .slice none 0 0] := by rw [hW1]; exact hR0'.draws nq
  clear hW1 hR0' bel0
  have belE := belW.alloc belW.size (.cells #[] 5)
  have hBE := hsub _ ((hb.below belE).more belE.size)
  have bel2 := belW
  go_wp2_with (first
    | (at_builtin; refine wpList_app _ is_bytes rfl (.tmp 57) (.tmp 60) rfl (m := []) rfl (Ow_empty W1 w.heap.size 5 belW.size) (l := d) (A := some ⟨b, off + 6, none⟩) (c := c - 6) (by rw [HL.out]; rfl) hBE (fun h => nomatch h) (by rw [HL.out]; simp; omega) belE.size ?_; intro v2 w2 hown2 hgrow2; obtain ⟨A2, qc, rfl, hB2, hn2, _⟩ := hown2.reads_len (n := m + 1) HL.out))
  rw [y1.out, y2.out, y3.out, y4.out, y5.out]
  have bel3 : Below w.heap.size w w2 := belE.grown hgrow2 belE.size (fun i hi => by injection hi with hi; have := belW.size; have hi' : W1.heap.size = i := hi; omega)
  have hR3 : Cel w2 w.heap.size 60 #[.bool false, .bool false, .int .i64 0, .int .i64 0, .int .i64 0, .slice none 0 0] := (Cel.grown (o := .cells #[] 5) hRW hgrow2 (fun e => by injection e with e; have := hRW.lt; have e' : W1.heap.size = w.heap.size := e; omega))
  have hlt3 := hR3.lt
  clear hRW hgrow2 belE hBE
  obtain ⟨W3, hW3⟩ : ∃ W3, W3 = w2.alloc (.cells #[.bool com, .bool sec, .int .i64 ap, .int .i64 fl, .int .i64 ct, .slice A2 (m + 1) qc] 60) := ⟨_, rfl⟩
  have hP3 : Cel W3 w2.heap.size 60 #[.bool com, .bool sec, .int .i64 ap, .int .i64 fl, .int .i64 ct, .slice A2 (m + 1) qc] := by rw [hW3]; exact Cel.new _ _ _
  have belP : Below w2.heap.size w2 W3 := by rw [hW3]; exact bel_new _ _
  have hR3' := Cel.later hR3 belP
  have bel3' := bel3.trans (belP.mono bel3.size)
  have hown3 := hown2.below belP
  have hv3 := hv W3 A2 qc ((hB2.below belP).more belP.size)
  rw [← hW3]
  clear hv hR3 hW3
  refine hv3.mono ?_
  rintro e w4 ⟨rfl, hb4⟩
  have hR4 := Cel.later hR3' hb4
  have hP4 := Cel.later hP3 hb4
  have bel4 := bel3'.trans (hb4.mono bel3'.size)
  have hown4 := hown3.below hb4
  clear hv3 hR3' hP3 hown2 hown3 hb4
  have c0 := hR4.cell 0
  have c1 := hR4.cell 1
  have c2 := hR4.cell 2
  have c3 := hR4.cell 3
  have c4 := hR4.cell 4
  have c5 := hR4.cell 5
  simp at c0 c1 c2 c3 c4 c5
  have f0 := hR4.free 0
  have f1 := hR4.free 1
  have f2 := hR4.free 2
  have f3 := hR4.free 3
  have f4 := hR4.free 4
  have f5 := hR4.free 5
  go_wp2
  exact bodyPost_ret (xde_results rfl rfl rfl (putAll_cel hR4 false false 0 0 0 (.slice none 0 0))) rfl ⟨rfl, putAll_below bel4 (Nat.le_refl _) _ _ _ _ _ _⟩

set_option maxHeartbeats 2000000 in
theorem xdecode_good (a : Option Addr) (l : List Byte) (n c : Nat) (w : World) (hl : Hid (l.length = n)) (hb : Bs w w.heap.size a l) (hn : a = none → c = 0) (hnc : n ≤ c) (hcm : c ≤ maxLen) (h : siE l = 0) (h2 : ¬ l.length < tot l) (hok : (rd l).ok = true) :
    Calls Try.prog 28 #[.slice a n c] w fun e w' => ∃ v, e = .returned (.tuple #[.agg #[.bool (rd l).com, .bool (rd l).sec, .int .i64 (rd l).ap, .int .i64 (rd l).fl, .int .i64 (rd l).ct, v], .int .i64 ((tot l : Nat) : Int), .int .i64 0]) ∧ Ow w' w.heap.size 5 v (rd l).d ∧ Below w.heap.size w w' := by
  have b0 := bel_new w (.cells #[.bool false, .bool false, .int .i64 0, .int .i64 0, .int .i64 0, .slice none 0 0] 60)
  have hR0 := Cel.new w 60 #[.bool false, .bool false, .int .i64 0, .int .i64 0, .int .i64 0, .slice none 0 0]
  have hs := xsize_any a l n c _ hl ((hb.below b0).more b0.size) hn hnc hcm
  have hln := hl.out
  obtain ⟨h3, h4, h5⟩ := siE_zero h
  rw [(siE_good h3 h4 h5).1, (siE_good h3 h4 h5).2] at hs
  have htot : 7 ≤ tot l := by unfold tot; omega
  obtain ⟨b, off, rfl, hbl, hc⟩ := head_cells hb (by omega)
  have hsub := fun W (hB : Bs W W.heap.size (some ⟨b, off, none⟩) l) => Bs_sub hB rfl 6 (tot l - 6)
  obtain ⟨m, hm⟩ : ∃ m, tot l = m + 7 := ⟨tot l - 7, by omega⟩
  have hd : (rd l).d = (l.drop 6).take (tot l - 6) := rfl
  have hdl : (rd l).d.length = m + 1 := by rw [hd, List.length_take, List.length_drop]; omega
  rw [← hd] at hsub
  have z0 := b8_lt l 0
  have t0 := hc 0 (by decide)
  have z1 := b8_lt l 1
  have t1 := hc 1 (by decide)
  have z2 := b8_lt l 2
  have t2 := hc 2 (by decide)
  have z3 := b8_lt l 3
  have t3 := hc 3 (by decide)
  simp only [Nat.add_zero] at t0
  have q1 : (rd l).com = decide (b8 l 0 / 16 % 2 = 1) := rfl
  have q2 : (rd l).sec = decide (b8 l 0 / 8 % 2 = 1) := rfl
  have q3 : (rd l).ap = ((256 * b8 l 0 + b8 l 1) % 2048 : Nat) := rfl
  have q4 : (rd l).fl = ((256 * b8 l 2 + b8 l 3) / 16384 : Nat) := rfl
  have q5 : (rd l).ct = ((256 * b8 l 2 + b8 l 3) % 16384 : Nat) := rfl
  obtain ⟨N0, hN0⟩ : ∃ N, N = b8 l 0 := ⟨_, rfl⟩
  obtain ⟨N1, hN1⟩ : ∃ N, N = b8 l 1 := ⟨_, rfl⟩
  obtain ⟨N2, hN2⟩ : ∃ N, N = b8 l 2 := ⟨_, rfl⟩
  obtain ⟨N3, hN3⟩ : ∃ N, N = b8 l 3 := ⟨_, rfl⟩
  rw [← hN0] at q1 q2 q3 t0 z0 h4
  rw [← hN1] at q3 t1 z1
  rw [← hN2] at q4 q5 t2 z2
  rw [← hN3] at q4 q5 t3 z3
  obtain ⟨H, hH⟩ : ∃ H, H = 256 * N0 + N1 := ⟨_, rfl⟩
  obtain ⟨C, hC⟩ : ∃ C, C = 256 * N2 + N3 := ⟨_, rfl⟩
  have HI : Hid (256 * (N0 : Int) + (N1 : Int) = (H : Int)) := Lib.hid (by omega)
  have CI : Hid (256 * (N2 : Int) + (N3 : Int) = (C : Int)) := Lib.hid (by omega)
  have zH : H < 8192 := by omega
  have zC : C < 65536 := by omega
  rw [← hH] at q3
  rw [← hC] at q4 q5
  obtain ⟨P, hP⟩ : ∃ P, P = rd l := ⟨_, rfl⟩
  rw [← hP] at hsub hok hdl q1 q2 q3 q4 q5 ⊢
  obtain ⟨com, sec, ap, fl, ct, d⟩ := P
  simp only at hsub hok hdl q1 q2 q3 q4 q5 ⊢
  rw [hm] at hs ⊢
  have y1 : Hid (((H : Int) / 4096 == 1) = com) := Lib.hid (by rw [q1, Bool.eq_iff_iff]; simp; omega)
  have y2 : Hid (((H : Int) / 2048 % 2 == 1) = sec) := Lib.hid (by rw [q2, Bool.eq_iff_iff]; simp; omega)
  have y3 : Hid ((H : Int) % 2048 = ap) := Lib.hid (by rw [q3]; omega)
  have y4 : Hid ((C : Int) / 16384 = fl) := Lib.hid (by rw [q4]; omega)
  have y5 : Hid ((C : Int) % 16384 = ct) := Lib.hid (by rw [q5]; omega)
  have hv := fun W A cc hB => xvalid_any com sec ap fl ct A d (m + 1) cc W (Lib.hid hdl) hB (by unfold maxLen; omega)
  rw [hok] at hv
  have hmn : m + 7 ≤ n := by omega
  have hm4 : m < 4090 := by omega
  have g0 : (6 : Int) ≤ (n : Int) := by omega
  have g1 : decide ((n : Int) < (m : Int) + 7) = false := by simp; omega
  have g2 : decide (n < m + 7) = false := by simp; omega
  have hmc : (m : Int) + 7 ≤ (c : Int) := by omega
  have HL := Lib.hid hdl
  have hc6 : c - 6 ≠ 0 := by omega
  have hcne : ¬ c = 6 := by omega
  clear hdl hd hm htot h3 h4 h5 h2 h hln hP hok hnc hcm hn hmn q1 q2 q3 q4 q5 hN0 hN1 hN2 hN3 hH hC hc
  go_enter Try.func28, Try.ntmps28
  go_wp2_with fail
  refine hs.mono ?_
  rintro e w1 ⟨rfl, hb1⟩
  have hR1 := Cel.later hR0 hb1
  have bel1 := b0.trans (hb1.mono b0.size)
  have t0' := (bel1.cell (p := ⟨b, off, none⟩) hbl).trans t0
  have t1' := (bel1.cell (p := ⟨b, off + 1, none⟩) hbl).trans t1
  have t2' := (bel1.cell (p := ⟨b, off + 2, none⟩) hbl).trans t2
  have t3' := (bel1.cell (p := ⟨b, off + 3, none⟩) hbl).trans t3
  clear hs hb1 hR0 b0 t0 t1 t2 t3
  go_wp2
  go_quiet (fail)
  rw [HI.out]
  have bel0 : Below w.heap.size w (w1.drewN nq) := bel1.trans (drewN_below _ _)
  have hR0' : Cel (w1.drewN nq) w.heap.size 60 #[.bool false, .bool false, .int .i64 0, .int .i64 0, .int .i64 0, .slice none 0 0] := hR1.draws nq
  have u3 : (w1.drewN nq).cell? ⟨b, off + 3, none⟩ = some (.int .u8 (N3 : Int)) := t3'
  have u2 : (w1.drewN nq).cell? ⟨b, off + 2, none⟩ = some (.int .u8 (N2 : Int)) := t2'
  obtain ⟨W0, hW0⟩ : ∃ W0, W0 = w1.drewN nq := ⟨_, rfl⟩
  rw [← hW0] at bel0 hR0' u2 u3 ⊢
  clear hW0 hR1 bel1 t0' t1' t2' t3'
  go_wp2
  go_quiet (fail)
  rw [CI.out]
  clear u2 u3
  obtain ⟨W1, hW1⟩ : ∃ W1, W1 = W0.drewN nq := ⟨_, rfl⟩
  rw [← hW1]
  have belW : Below w.heap.size w W1 := by rw [hW1]; exact bel0.trans (drewN_below _ _)
  have hRW : Cel W1 w.heap.size 60 #[.bool false, .bool false, .int .i64 0, .int .i64 0, .int .i64 0, .slice none 0 0] := by rw [hW1]; exact hR0'.draws nq
  clear hW1 hR0' bel0
  have belE := belW.alloc belW.size (.cells #[] 5)
  have hBE := hsub _ ((hb.below belE).more belE.size)
  have bel2 := belW
  go_wp2_with (first
    | (at_builtin; refine wpList_app _ is_bytes rfl (.tmp 57) (.tmp 60) rfl (m := []) rfl (Ow_empty W1 w.heap.size 5 belW.size) (l := d) (A := some ⟨b, off + 6, none⟩) (c := c - 6) (by rw [HL.out]; rfl) hBE (fun h => nomatch h) (by rw [HL.out]; simp; omega) belE.size ?_; intro v2 w2 hown2 hgrow2; obtain ⟨A2, qc, rfl, hB2, hn2, _⟩ := hown2.reads_len (n := m + 1) HL.out))
  rw [y1.out, y2.out, y3.out, y4.out, y5.out]
  have bel3 : Below w.heap.size w w2 := belE.grown hgrow2 belE.size (fun i hi => by injection hi with hi; have := belW.size; have hi' : W1.heap.size = i := hi; omega)
  have hR3 : Cel w2 w.heap.size 60 #[.bool false, .bool false, .int .i64 0, .int .i64 0, .int .i64 0, .slice none 0 0] := (Cel.grown (o := .cells #[] 5) hRW hgrow2 (fun e => by injection e with e; have := hRW.lt; have e' : W1.heap.size = w.heap.size := e; omega))
  have hlt3 := hR3.lt
  clear hRW hgrow2 belE hBE
  obtain ⟨W3, hW3⟩ : ∃ W3, W3 = w2.alloc (.cells #[.bool com, .bool sec, .int .i64 ap, .int .i64 fl, .int .i64 ct, .slice A2 (m + 1) qc] 60) := ⟨_, rfl⟩
  have hP3 : Cel W3 w2.heap.size 60 #[.bool com, .bool sec, .int .i64 ap, .int .i64 fl, .int .i64 ct, .slice A2 (m + 1) qc] := by rw [hW3]; exact Cel.new _ _ _
  have belP : Below w2.heap.size w2 W3 := by rw [hW3]; exact bel_new _ _
  have hR3' := Cel.later hR3 belP
  have bel3' := bel3.trans (belP.mono bel3.size)
  have hown3 := hown2.below belP
  have hv3 := hv W3 A2 qc ((hB2.below belP).more belP.size)
  rw [← hW3]
  clear hv hR3 hW3
  refine hv3.mono ?_
  rintro e w4 ⟨rfl, hb4⟩
  have hR4 := Cel.later hR3' hb4
  have hP4 := Cel.later hP3 hb4
  have bel4 := bel3'.trans (hb4.mono bel3'.size)
  have hown4 := hown3.below hb4
  clear hv3 hR3' hP3 hown2 hown3 hb4
  have c0 := hR4.cell 0
  have c1 := hR4.cell 1
  have c2 := hR4.cell 2
  have c3 := hR4.cell 3
  have c4 := hR4.cell 4
  have c5 := hR4.cell 5
  simp at c0 c1 c2 c3 c4 c5
  have f0 := hR4.free 0
  have f1 := hR4.free 1
  have f2 := hR4.free 2
  have f3 := hR4.free 3
  have f4 := hR4.free 4
  have f5 := hR4.free 5
  have p0 := hP4.cell 0
  have p1 := hP4.cell 1
  have p2 := hP4.cell 2
  have p3 := hP4.cell 3
  have p4 := hP4.cell 4
  have p5 := hP4.cell 5
  simp at p0 p1 p2 p3 p4 p5
  have hne := hown4.apart hR4 (by decide)
  go_wp2
  refine bodyPost_ret (xde_results rfl rfl rfl (putAll_cel hR4 com sec ap fl ct (.slice A2 (m + 1) qc))) rfl ⟨_, rfl, ?_, putAll_below bel4 (Nat.le_refl _) _ _ _ _ _ _⟩
  exact hown4.only (putAll_only _ _ _ _ _ _ _ _) (fun i hi => by simp; intro e; exact hne (by rw [hi, e]))

theorem xdecode_any (a : Option Addr) (l : List Byte) (n c : Nat) (w : World) (hl : Hid (l.length = n)) (hb : Bs w w.heap.size a l) (hn : a = none → c = 0) (hnc : n ≤ c) (hcm : c ≤ maxLen) :
    Calls Try.prog 28 #[.slice a n c] w fun e w' => ∃ v, e = .returned (.tuple #[.agg #[.bool (deP l).com, .bool (deP l).sec, .int .i64 (deP l).ap, .int .i64 (deP l).fl, .int .i64 (deP l).ct, v], .int .i64 ((deN l : Nat) : Int), .int .i64 (deE l)]) ∧ Ow w' w.heap.size 5 v (deP l).d ∧ Below w.heap.size w w' := by
  by_cases h : siE l = 0
  · by_cases h2 : l.length < tot l
    · obtain ⟨e1, e2, e3⟩ := de_short h h2
      rw [e1, e2, e3]
      exact (xdecode_short a l n c w hl hb hn hnc hcm h h2).mono fun e w' ⟨k1, k2⟩ => ⟨_, k1, Ow_nil _ _, k2⟩
    · cases hok : (rd l).ok with
      | false =>
        obtain ⟨e1, e2, e3⟩ := de_form h h2 hok
        rw [e1, e2, e3]
        exact (xdecode_form a l n c w hl hb hn hnc hcm h h2 hok).mono fun e w' ⟨k1, k2⟩ => ⟨_, k1, Ow_nil _ _, k2⟩
      | true =>
        obtain ⟨e1, e2, e3⟩ := de_good h h2 hok
        rw [e1, e2, e3]
        exact xdecode_good a l n c w hl hb hn hnc hcm h h2 hok
  · obtain ⟨e1, e2, e3⟩ := de_err h
    rw [e1, e2, e3]
    exact (xdecode_err a l n c w hl hb hn hnc hcm h).mono fun e w' ⟨k1, k2⟩ => ⟨_, k1, Ow_nil _ _, k2⟩
end Go.Proofs.Ytjjjlgaidklokaa.Pac
