/-
  The walks of the laws TcframeEncodes, TcframeDecodes, TcframeOnly.
-/
import Derived.Test.YtdichdoabhabjaaLaw14a
namespace Go.Proofs.Ytdichdoabhabjaa.Tcf
open Go.RowKit Go.Proofs.Ytdichdoabhabjaa.Pac

theorem convL {w : World} {A : Option Addr} {l : List Byte} {n c : Nat} (h : Rd w A l n c) (p : Later w) :
    (convert 22 9 (.slice A n c)).run Try.prog p.W = .ok (.string (str l)) p.W := h.conv p.h

set_option maxRecDepth 100000 in
set_option maxHeartbeats 4000000 in
theorem tcframeEncodes_walk (byp con : Bool) (cr ch sq : Int) (a : Option Addr) (l : List Byte) (n c : Nat) (w : World) (hD : Rd w a l n c) :
    Calls Try.prog 3 #[.agg #[.bool byp, .bool con, .int .i64 cr, .int .i64 ch, .int .i64 sq, .slice a n c]] w fun e w' => e = .returned (.bool true) ∧ Below w.heap.size w w' := by
  have b0 := bel_new w (.cells #[.bool byp, .bool con, .int .i64 cr, .int .i64 ch, .int .i64 sq, .slice a n c] 24)
  by_cases hbig : 1100 < n
  · have g1 : decide ((1100 : Int) < (n : Int)) = true := by simp; omega
    have g2 : decide (1100 < n) = true := by simp; omega
    clear hD hbig
    go_enter Try.func3, Try.ntmps3
    go_wp2_with fail
    refine (alive14_any _).mono ?_
    rintro e w1 ⟨rfl, h1⟩
    go_wp2
    go_ret
    exact ⟨rfl, b0.trans (h1.mono b0.size)⟩
  have g1 : decide ((1100 : Int) < (n : Int)) = false := by simp; omega
  have g2 : decide (1100 < n) = false := by simp; omega
  have hm : n ≤ maxLen := Nat.le_trans hD.le hD.max
  have x1 := fun W (h : Rd W a l n c) => tencode_any byp con cr ch sq a l n c W (Lib.hid hD.len) h.bs hD.nil hm
  have x2 := fun W (h : Rd W a l n c) => yencode_any byp con cr ch sq a l n c W (Lib.hid hD.len) h.bs hD.nil hm
  have x3 := fun W => tvalid_any byp con cr ch sq a l n c W (Lib.hid hD.len) hm
  have x4 := fun W => yvalid_any byp con cr ch sq a l n c W (Lib.hid hD.len) hm
  have x5 := fun W (h : Rd W a l n c) => tdirective_any byp con cr ch sq a l n c W h
  have x6 := fun W (h : Rd W a l n c) => ydirective_any byp con cr ch sq a l n c W h
  obtain ⟨E, hE⟩ : ∃ E, E = Fr.enc ⟨byp, con, cr, ch, sq, l⟩ := ⟨_, rfl⟩
  obtain ⟨q, hq⟩ : ∃ q, q = Fr.err ⟨byp, con, cr, ch, sq, l⟩ := ⟨_, rfl⟩
  obtain ⟨o, ho⟩ : ∃ o, o = Fr.ok ⟨byp, con, cr, ch, sq, l⟩ := ⟨_, rfl⟩
  obtain ⟨D, hDd⟩ : ∃ D, D = dir byp con l := ⟨_, rfl⟩
  obtain ⟨dk, dn, db⟩ := D
  simp only [← hE, ← hq] at x1 x2
  simp only [← ho] at x3 x4
  simp only [← hDd] at x5 x6
  have u1 : ((str E).toList == (str E).toList) = true := by simp
  have u2 : (q == q) = true := by simp
  have u3 : (dk == dk) = true := by simp
  have u4 : (dn == dn) = true := by simp
  have u5 : (db == db) = true := by simp
  have u6 : (o == o) = true := by simp
  clear hE hq ho hDd hm hbig
  have p0 := Cel.new w 24 #[.bool byp, .bool con, .int .i64 cr, .int .i64 ch, .int .i64 sq, .slice a n c]
  have k0 := hD.later b0
  clear hD
  have m0 := p0.cell 0
  have m1 := p0.cell 1
  have m2 := p0.cell 2
  have m3 := p0.cell 3
  have m4 := p0.cell 4
  have m5 := p0.cell 5
  simp at m0 m1 m2 m3 m4 m5
  go_enter Try.func3, Try.ntmps3
  go_wp2_with fail
  refine (x1 _ k0).mono ?_
  rintro e w1 ⟨v1, rfl, o1, h1⟩
  obtain ⟨A1, c1, rfl, r1⟩ := Rd.of o1 rfl
  have b1 := b0.trans (h1.mono b0.size)
  have p1 := Cel.later p0 h1
  have k1 := k0.later h1
  clear x1 h1 p0 b0 o1 k0 m0 m1 m2 m3 m4 m5
  have m0 := p1.cell 0
  have m1 := p1.cell 1
  have m2 := p1.cell 2
  have m3 := p1.cell 3
  have m4 := p1.cell 4
  have m5 := p1.cell 5
  simp at m0 m1 m2 m3 m4 m5
  go_wp2_with fail
  refine (x2 _ k1).mono ?_
  rintro e w2 ⟨v2, rfl, o2, h2⟩
  obtain ⟨A2, c2, rfl, r2⟩ := Rd.of o2 rfl
  have b2 := b1.trans (h2.mono b1.size)
  have p2 := Cel.later p1 h2
  have k2 := k1.later h2
  have r12 := r1.later h2
  clear x2 h2 p1 b1 o2 k1 r1 m0 m1 m2 m3 m4 m5
  have m0 := p2.cell 0
  have m1 := p2.cell 1
  have m2 := p2.cell 2
  have m3 := p2.cell 3
  have m4 := p2.cell 4
  have m5 := p2.cell 5
  simp at m0 m1 m2 m3 m4 m5
  go_wp2_with fail
  refine (x5 _ k2).mono ?_
  rintro e w3 ⟨rfl, h3⟩
  have b3 := b2.trans (h3.mono b2.size)
  have p3 := Cel.later p2 h3
  have k3 := k2.later h3
  have r13 := r12.later h3
  have r23 := r2.later h3
  clear x5 h3 p2 b2 k2 r12 r2 m0 m1 m2 m3 m4 m5
  have m0 := p3.cell 0
  have m1 := p3.cell 1
  have m2 := p3.cell 2
  have m3 := p3.cell 3
  have m4 := p3.cell 4
  have m5 := p3.cell 5
  simp at m0 m1 m2 m3 m4 m5
  go_wp2_with fail
  refine (x6 _ k3).mono ?_
  rintro e w4 ⟨rfl, h4⟩
  have b4 := b3.trans (h4.mono b3.size)
  have p4 := Cel.later p3 h4
  have r14 := r13.later h4
  have r24 := r23.later h4
  clear x6 h4 p3 b3 k3 r13 r23 m0 m1 m2 m3 m4 m5
  have m0 := p4.cell 0
  have m1 := p4.cell 1
  have m2 := p4.cell 2
  have m3 := p4.cell 3
  have m4 := p4.cell 4
  have m5 := p4.cell 5
  simp at m0 m1 m2 m3 m4 m5
  have hlt := p4.lt
  go_wp2_with fail
  refine wp_region_later (by kernel_rfl) (by kernel_rfl) ?_
  have q1 := convL r14
  have q2 := convL r24
  have n0 : ∀ p : Later w4, p.W.cell? ⟨w.heap.size, 0, none⟩ = some (.bool byp) := later_cell m0 hlt
  have n1 : ∀ p : Later w4, p.W.cell? ⟨w.heap.size, 1, none⟩ = some (.bool con) := later_cell m1 hlt
  have n2 : ∀ p : Later w4, p.W.cell? ⟨w.heap.size, 2, none⟩ = some (.int .i64 cr) := later_cell m2 hlt
  have n3 : ∀ p : Later w4, p.W.cell? ⟨w.heap.size, 3, none⟩ = some (.int .i64 ch) := later_cell m3 hlt
  have n4 : ∀ p : Later w4, p.W.cell? ⟨w.heap.size, 4, none⟩ = some (.int .i64 sq) := later_cell m4 hlt
  have n5 : ∀ p : Later w4, p.W.cell? ⟨w.heap.size, 5, none⟩ = some (.slice a n c) := later_cell m5 hlt
  clear m0 m1 m2 m3 m4 m5 r14 r24 p4
  repeat (go_big_quiet_step ((first
    | (go_at_call 13; exact later_of (x3 _))
    | (go_at_call 14; exact later_of (x4 _))
    | (go_at_call 8; exact later_of (alive14_any _)))))
  refine wpQuiet_nil ?_
  rintro _ ⟨⟨w5, hbel5⟩, rfl⟩
  go_wp2
  go_ret
  exact ⟨rfl, b4.trans (hbel5.mono b4.size)⟩

set_option maxRecDepth 100000 in
set_option maxHeartbeats 4000000 in
theorem tcframeDecodes_walk (a : Option Addr) (l : List Byte) (n c : Nat) (w : World) (hD : Rd w a l n c) :
    Calls Try.prog 4 #[.slice a n c] w fun e w' => e = .returned (.bool true) ∧ Below w.heap.size w w' := by
  by_cases hbig : 1100 < n
  · have g1 : decide ((1100 : Int) < (n : Int)) = true := by simp; omega
    have g2 : decide (1100 < n) = true := by simp; omega
    clear hD hbig
    go_enter Try.func4, Try.ntmps4
    go_wp2_with fail
    refine (alive14_any _).mono ?_
    rintro e w1 ⟨rfl, h1⟩
    go_wp2
    go_ret
    exact ⟨rfl, h1⟩
  have g1 : decide ((1100 : Int) < (n : Int)) = false := by simp; omega
  have g2 : decide (1100 < n) = false := by simp; omega
  have x1 := fun W (h : Rd W a l n c) => tdecode_any a l n c W (Lib.hid h.len) h.bs h.nil h.le h.max
  have x2 := fun W (h : Rd W a l n c) => ydecode_any a l n c W (Lib.hid h.len) h.bs h.nil h.le h.max
  obtain ⟨P, hP⟩ : ∃ P, P = deP l := ⟨_, rfl⟩
  obtain ⟨byp, con, cr, ch, sq, d⟩ := P
  obtain ⟨G, hG⟩ : ∃ G, G = deE l := ⟨_, rfl⟩
  simp only [← hP, ← hG] at x1 x2
  have e1 : (G == G) = true := by simp
  clear hP hG hbig
  go_enter Try.func4, Try.ntmps4
  go_wp2_with fail
  refine (x1 _ hD).mono ?_
  rintro e w1 ⟨v1, rfl, o1, h1⟩
  obtain ⟨A1, c1, rfl, r1⟩ := Rd.of o1 rfl
  obtain ⟨W1, hW1⟩ : ∃ W1, W1 = w1.alloc (.cells #[.bool byp, .bool con, .int .i64 cr, .int .i64 ch, .int .i64 sq, .slice A1 d.length c1] 24) := ⟨_, rfl⟩
  have i1 : Below w1.heap.size w1 W1 := by rw [hW1]; exact bel_new _ _
  have p1 : Cel W1 w1.heap.size 24 #[.bool byp, .bool con, .int .i64 cr, .int .i64 ch, .int .i64 sq, .slice A1 d.length c1] := by rw [hW1]; exact Cel.new _ _ _
  have b1 := h1.trans (i1.mono h1.size)
  have k1 := (hD.later h1).later i1
  have r1' := r1.later i1
  clear x1 h1 i1 o1 r1 hD
  go_wp2_with fail
  rw [← hW1]
  refine (x2 _ k1).mono ?_
  rintro e w2 ⟨v2, rfl, o2, h2⟩
  obtain ⟨A2, c2, rfl, r2⟩ := Rd.of o2 rfl
  obtain ⟨W2, hW2⟩ : ∃ W2, W2 = w2.alloc (.cells #[.bool byp, .bool con, .int .i64 cr, .int .i64 ch, .int .i64 sq, .slice A2 d.length c2] 24) := ⟨_, rfl⟩
  have i2 : Below w2.heap.size w2 W2 := by rw [hW2]; exact bel_new _ _
  have b2 := (b1.trans (h2.mono b1.size)).trans (i2.mono (b1.trans (h2.mono b1.size)).size)
  have p12 := Cel.later (Cel.later p1 h2) i2
  have r12 := (r1'.later h2).later i2
  have r22 := r2.later i2
  rw [hW2] at p12
  have x3 := ysame_any byp con cr ch sq A1 A2 d d.length c1 c2 W2 r12 r22
  clear x2 h2 i2 o2 r2 k1 r1' p1 r12 r22 b1 hW1
  have m0 := p12.cell 0
  have m1 := p12.cell 1
  have m2 := p12.cell 2
  have m3 := p12.cell 3
  have m4 := p12.cell 4
  have m5 := p12.cell 5
  simp at m0 m1 m2 m3 m4 m5
  go_wp2_with fail
  rw [← hW2]
  refine x3.mono ?_
  rintro e w3 ⟨rfl, h3⟩
  have b3 := b2.trans (h3.mono b2.size)
  clear x3 h3 b2 m0 m1 m2 m3 m4 m5 p12 hW2
  go_wp2_with fail
  refine (alive14_any _).mono ?_
  rintro e w6 ⟨rfl, h6⟩
  go_wp2
  go_ret
  exact ⟨rfl, b3.trans (h6.mono b3.size)⟩

set_option maxRecDepth 100000 in
set_option maxHeartbeats 4000000 in
theorem tcframeOnly_no (a : Option Addr) (l : List Byte) (n c : Nat) (w : World) (hD : Rd w a l n c) (hbig : n ≤ 1100) (h0 : deE l ≠ 0) :
    Calls Try.prog 7 #[.slice a n c] w fun e w' => e = .returned (.bool true) ∧ Below w.heap.size w w' := by
  have g1 : decide ((1100 : Int) < (n : Int)) = false := by simp; omega
  have g2 : decide (1100 < n) = false := by simp; omega
  have hP : deP l = noFr := by unfold deP; rw [if_neg h0]
  have x1 := tdecode_any a l n c w (Lib.hid hD.len) hD.bs hD.nil hD.le hD.max
  simp only [hP, noFr] at x1
  obtain ⟨G, hG⟩ : ∃ G, G = deE l := ⟨_, rfl⟩
  simp only [← hG] at x1 h0
  have e1 : (G != 0) = true := by simpa using h0
  clear hP hG hbig h0 hD
  go_enter Try.func7, Try.ntmps7
  go_wp2_with fail
  refine x1.mono ?_
  rintro e w1 ⟨v1, rfl, o1, h1⟩
  obtain ⟨A1, c1, rfl, r1⟩ := Rd.of o1 (n := 0) rfl
  obtain ⟨W1, hW1⟩ : ∃ W1, W1 = w1.alloc (.cells #[.bool false, .bool false, .int .i64 0, .int .i64 0, .int .i64 0, .slice A1 0 c1] 24) := ⟨_, rfl⟩
  have i1 : Below w1.heap.size w1 W1 := by rw [hW1]; exact bel_new _ _
  have b1 := h1.trans (i1.mono h1.size)
  have r1' := r1.later i1
  have x3 := ysame_any false false 0 0 0 A1 none [] 0 c1 0 W1 r1' ⟨rfl, Bs.nil_, fun _ => rfl, by decide, by decide⟩
  clear x1 h1 i1 o1 r1 r1'
  go_wp2_with fail
  rw [← hW1]
  refine x3.mono ?_
  rintro e w3 ⟨rfl, h3⟩
  have b3 := b1.trans (h3.mono b1.size)
  clear x3 h3 b1 hW1
  go_wp2_with fail
  refine (alive14_any _).mono ?_
  rintro e w6 ⟨rfl, h6⟩
  go_wp2
  go_ret
  exact ⟨rfl, b3.trans (h6.mono b3.size)⟩

set_option maxRecDepth 100000 in
set_option maxHeartbeats 4000000 in
theorem tcframeOnly_yes (a : Option Addr) (l : List Byte) (n c : Nat) (w : World) (hD : Rd w a l n c) (hbig : n ≤ 1100) (h0 : deE l = 0) :
    Calls Try.prog 7 #[.slice a n c] w fun e w' => e = .returned (.bool true) ∧ Below w.heap.size w w' := by
  have g1 : decide ((1100 : Int) < (n : Int)) = false := by simp; omega
  have g2 : decide (1100 < n) = false := by simp; omega
  have x1 := tdecode_any a l n c w (Lib.hid hD.len) hD.bs hD.nil hD.le hD.max
  obtain ⟨h2, h3⟩ := enc_dec h0
  obtain ⟨P, hP⟩ : ∃ P, P = deP l := ⟨_, rfl⟩
  obtain ⟨byp, con, cr, ch, sq, d⟩ := P
  rw [h0] at x1
  simp only [← hP] at x1 h2 h3
  have x2 := fun W A c (h : Rd W A d d.length c) => tencode_any byp con cr ch sq A d d.length c W (Lib.hid rfl) h.bs h.nil (Nat.le_trans h.le h.max)
  have x3 := fun W A c (h : Rd W A d d.length c) => tvalid_any byp con cr ch sq A d d.length c W (Lib.hid rfl) (Nat.le_trans h.le h.max)
  simp only [h3, Fr.err_yes h2] at x2
  simp only [h2] at x3
  have e1 : ((str l).toList == (str l).toList) = true := by simp
  clear hP h2 h3 h0 hbig
  go_enter Try.func7, Try.ntmps7
  go_wp2_with fail
  refine x1.mono ?_
  rintro e w1 ⟨v1, rfl, o1, h1⟩
  obtain ⟨A1, c1, rfl, r1⟩ := Rd.of o1 rfl
  obtain ⟨W1, hW1⟩ : ∃ W1, W1 = w1.alloc (.cells #[.bool byp, .bool con, .int .i64 cr, .int .i64 ch, .int .i64 sq, .slice A1 d.length c1] 24) := ⟨_, rfl⟩
  have i1 : Below w1.heap.size w1 W1 := by rw [hW1]; exact bel_new _ _
  have p1 : Cel W1 w1.heap.size 24 #[.bool byp, .bool con, .int .i64 cr, .int .i64 ch, .int .i64 sq, .slice A1 d.length c1] := by rw [hW1]; exact Cel.new _ _ _
  have b1 := h1.trans (i1.mono h1.size)
  have k1 := (hD.later h1).later i1
  have r1' := r1.later i1
  clear x1 h1 i1 o1 r1 hD
  go_wp2_with fail
  rw [← hW1]
  refine (x2 _ A1 c1 r1').mono ?_
  rintro e w2 ⟨v2, rfl, o2, h2⟩
  obtain ⟨A2, c2, rfl, r2⟩ := Rd.of o2 k1.len
  have b2 := b1.trans (h2.mono b1.size)
  have k2 := k1.later h2
  have r12 := r1'.later h2
  have p2 := Cel.later p1 h2
  clear x2 h2 o2 k1 r1' p1 b1 hW1
  have m0 := p2.cell 0
  have m1 := p2.cell 1
  have m2 := p2.cell 2
  have m3 := p2.cell 3
  have m4 := p2.cell 4
  have m5 := p2.cell 5
  simp at m0 m1 m2 m3 m4 m5
  go_wp2_with fail
  refine (x3 _ A1 c1 r12).mono ?_
  rintro e w3 ⟨rfl, h3⟩
  have b3 := b2.trans (h3.mono b2.size)
  have q1 := r2.conv h3
  have q2 := k2.conv h3
  clear x3 h3 b2 m0 m1 m2 m3 m4 m5 p2 r2 k2 r12
  go_wp2_with fail
  refine (alive14_any _).mono ?_
  rintro e w6 ⟨rfl, h6⟩
  go_wp2
  go_ret
  exact ⟨rfl, b3.trans (h6.mono b3.size)⟩

theorem tcframeOnly_walk (a : Option Addr) (l : List Byte) (n c : Nat) (w : World) (hD : Rd w a l n c) :
    Calls Try.prog 7 #[.slice a n c] w fun e w' => e = .returned (.bool true) ∧ Below w.heap.size w w' := by
  by_cases hbig : 1100 < n
  · have g1 : decide ((1100 : Int) < (n : Int)) = true := by simp; omega
    have g2 : decide (1100 < n) = true := by simp; omega
    clear hD hbig
    go_enter Try.func7, Try.ntmps7
    go_wp2_with fail
    refine (alive14_any _).mono ?_
    rintro e w1 ⟨rfl, h1⟩
    go_wp2
    go_ret
    exact ⟨rfl, h1⟩
  by_cases h0 : deE l = 0
  · exact tcframeOnly_yes a l n c w hD (by omega) h0
  · exact tcframeOnly_no a l n c w hD (by omega) h0
end Go.Proofs.Ytdichdoabhabjaa.Tcf
