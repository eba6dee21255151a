/-
  The walks of the laws ClcwEncodes, ClcwDecodes, ClcwBack, ClcwOnly.
-/
import Derived.Test.YtmfiklofmjaldaaLaw15a
namespace Go.Proofs.Ytmfiklofmjaldaa.Clc
open Go.RowKit Go.Proofs.Ytmfiklofmjaldaa.Pac

theorem convL {w : World} {A : Option Addr} {l : List Byte} {n c : Nat} (h : Rd w A l n c) (p : Later w) :
    (convert 24 9 (.slice A n c)).run Try.prog p.W = .ok (.string (str l)) p.W := h.conv p.h

set_option maxHeartbeats 4000000 in
theorem clcwEncodes_walk (ch : Int) (lk wt rt : Bool) (bp nx : Int) (w : World) :
    Calls Try.prog 3 #[.agg #[.int .i64 ch, .bool lk, .bool wt, .bool rt, .int .i64 bp, .int .i64 nx]] w fun e w' => e = .returned (.bool true) ∧ Below w.heap.size w w' := by
  have b0 := bel_new w (.cells #[.int .i64 ch, .bool lk, .bool wt, .bool rt, .int .i64 bp, .int .i64 nx] 23)
  have x1 := fun W => cencode_any ch lk wt rt bp nx W
  have x2 := fun W => zencode_any ch lk wt rt bp nx W
  have x3 := fun W => cvalid_any ch lk wt rt bp nx W
  have x4 := fun W => zvalid_any ch lk wt rt bp nx W
  obtain ⟨E, hE⟩ : ∃ E, E = Cw.enc ⟨ch, lk, wt, rt, bp, nx⟩ := ⟨_, rfl⟩
  obtain ⟨q, hq⟩ : ∃ q, q = Cw.err ⟨ch, lk, wt, rt, bp, nx⟩ := ⟨_, rfl⟩
  obtain ⟨o, ho⟩ : ∃ o, o = Cw.ok ⟨ch, lk, wt, rt, bp, nx⟩ := ⟨_, rfl⟩
  simp only [← hE, ← hq] at x1 x2
  simp only [← ho] at x3 x4
  have u1 : ((str E).toList == (str E).toList) = true := by simp
  have u2 : (q == q) = true := by simp
  have u6 : (o == o) = true := by simp
  clear hE hq ho
  have p0 := Cel.new w 23 #[.int .i64 ch, .bool lk, .bool wt, .bool rt, .int .i64 bp, .int .i64 nx]
  have m0 := p0.cell 0
  have m1 := p0.cell 1
  have m2 := p0.cell 2
  have m3 := p0.cell 3
  have m4 := p0.cell 4
  have m5 := p0.cell 5
  simp at m0 m1 m2 m3 m4 m5
  go_enter Try.func3, Try.ntmps3
  go_wp2_with fail
  refine (x1 _).mono ?_
  rintro e w1 ⟨v1, rfl, o1, h1⟩
  obtain ⟨A1, c1, rfl, r1⟩ := Rd.of o1 rfl
  have b1 := b0.trans (h1.mono b0.size)
  have p1 := Cel.later p0 h1
  clear x1 h1 p0 b0 o1 m0 m1 m2 m3 m4 m5
  have m0 := p1.cell 0
  have m1 := p1.cell 1
  have m2 := p1.cell 2
  have m3 := p1.cell 3
  have m4 := p1.cell 4
  have m5 := p1.cell 5
  simp at m0 m1 m2 m3 m4 m5
  go_wp2_with fail
  refine (x2 _).mono ?_
  rintro e w2 ⟨v2, rfl, o2, h2⟩
  obtain ⟨A2, c2, rfl, r2⟩ := Rd.of o2 rfl
  have b2 := b1.trans (h2.mono b1.size)
  have p2 := Cel.later p1 h2
  have r12 := r1.later h2
  clear x2 h2 p1 b1 o2 r1 m0 m1 m2 m3 m4 m5
  have m0 := p2.cell 0
  have m1 := p2.cell 1
  have m2 := p2.cell 2
  have m3 := p2.cell 3
  have m4 := p2.cell 4
  have m5 := p2.cell 5
  simp at m0 m1 m2 m3 m4 m5
  have hlt := p2.lt
  go_wp2_with fail
  refine wp_region_later (by kernel_rfl) (by kernel_rfl) ?_
  have q1 := convL r12
  have q2 := convL r2
  have n0 : ∀ p : Later w2, p.W.cell? ⟨w.heap.size, 0, none⟩ = some (.int .i64 ch) := later_cell m0 hlt
  have n1 : ∀ p : Later w2, p.W.cell? ⟨w.heap.size, 1, none⟩ = some (.bool lk) := later_cell m1 hlt
  have n2 : ∀ p : Later w2, p.W.cell? ⟨w.heap.size, 2, none⟩ = some (.bool wt) := later_cell m2 hlt
  have n3 : ∀ p : Later w2, p.W.cell? ⟨w.heap.size, 3, none⟩ = some (.bool rt) := later_cell m3 hlt
  have n4 : ∀ p : Later w2, p.W.cell? ⟨w.heap.size, 4, none⟩ = some (.int .i64 bp) := later_cell m4 hlt
  have n5 : ∀ p : Later w2, p.W.cell? ⟨w.heap.size, 5, none⟩ = some (.int .i64 nx) := later_cell m5 hlt
  clear m0 m1 m2 m3 m4 m5 r12 r2 p2
  repeat (go_big_quiet_step ((first
    | (go_at_call 9; exact later_of (x3 _))
    | (go_at_call 10; exact later_of (x4 _))
    | (go_at_call 11; exact later_of (alive15_any _)))))
  refine wpQuiet_nil ?_
  rintro _ ⟨⟨w5, hbel5⟩, rfl⟩
  go_wp2
  go_ret
  exact ⟨rfl, b2.trans (hbel5.mono b2.size)⟩

set_option maxHeartbeats 4000000 in
theorem clcwDecodes_walk (a : Option Addr) (l : List Byte) (n c : Nat) (w : World) (hD : Rd w a l n c) :
    Calls Try.prog 4 #[.slice a n c] w fun e w' => e = .returned (.bool true) ∧ Below w.heap.size w w' := by
  by_cases hbig : 100 < n
  · have g1 : decide ((100 : Int) < (n : Int)) = true := by simp; omega
    have g2 : decide (100 < n) = true := by simp; omega
    clear hD hbig
    go_enter Try.func4, Try.ntmps4
    go_wp2_with fail
    refine (alive15_any _).mono ?_
    rintro e w1 ⟨rfl, h1⟩
    go_wp2
    go_ret
    exact ⟨rfl, h1⟩
  have g1 : decide ((100 : Int) < (n : Int)) = false := by simp; omega
  have g2 : decide (100 < n) = false := by simp; omega
  have x1 := fun W (h : Rd W a l n c) => cdecode_any a l n c W h
  have x2 := fun W (h : Rd W a l n c) => zdecode_any a l n c W h
  obtain ⟨P, hP⟩ : ∃ P, P = deP l := ⟨_, rfl⟩
  obtain ⟨ch, lk, wt, rt, bp, nx⟩ := P
  obtain ⟨G, hG⟩ : ∃ G, G = deE l := ⟨_, rfl⟩
  simp only [← hP, ← hG] at x1 x2
  have e1 : (G == G) = true := by simp
  have y0 : (ch == ch) = true := by simp
  have y1 : (lk == lk) = true := by simp
  have y2 : (wt == wt) = true := by simp
  have y3 : (rt == rt) = true := by simp
  have y4 : (bp == bp) = true := by simp
  have y5 : (nx == nx) = true := by simp
  clear hP hG hbig
  go_enter Try.func4, Try.ntmps4
  go_wp2_with fail
  refine (x1 _ hD).mono ?_
  rintro e w1 ⟨rfl, h1⟩
  obtain ⟨W1, hW1⟩ : ∃ W1, W1 = w1.alloc (.cells #[.int .i64 ch, .bool lk, .bool wt, .bool rt, .int .i64 bp, .int .i64 nx] 23) := ⟨_, rfl⟩
  have i1 : Below w1.heap.size w1 W1 := by rw [hW1]; exact bel_new _ _
  have p1 : Cel W1 w1.heap.size 23 #[.int .i64 ch, .bool lk, .bool wt, .bool rt, .int .i64 bp, .int .i64 nx] := by rw [hW1]; exact Cel.new _ _ _
  have b1 := h1.trans (i1.mono h1.size)
  have k1 := (hD.later h1).later i1
  clear x1 h1 i1 hD
  go_wp2_with fail
  rw [← hW1]
  refine (x2 _ k1).mono ?_
  rintro e w2 ⟨rfl, h2⟩
  have b2 := b1.trans (h2.mono b1.size)
  obtain ⟨W2, hW2⟩ : ∃ W2, W2 = w2.alloc (.cells #[.int .i64 ch, .bool lk, .bool wt, .bool rt, .int .i64 bp, .int .i64 nx] 23) := ⟨_, rfl⟩
  have i2 : Below w2.heap.size w2 W2 := by rw [hW2]; exact bel_new _ _
  have p12 := Cel.later (Cel.later p1 h2) i2
  have p2 : Cel W2 w2.heap.size 23 #[.int .i64 ch, .bool lk, .bool wt, .bool rt, .int .i64 bp, .int .i64 nx] := by rw [hW2]; exact Cel.new _ _ _
  have b3 := b2.trans (i2.mono b2.size)
  rw [hW2] at p12 p2
  clear x2 h2 i2 k1 p1 b1 b2 hW1
  have m0 := p12.cell 0
  have m1 := p12.cell 1
  have m2 := p12.cell 2
  have m3 := p12.cell 3
  have m4 := p12.cell 4
  have m5 := p12.cell 5
  simp at m0 m1 m2 m3 m4 m5
  have s0 := p2.cell 0
  have s1 := p2.cell 1
  have s2 := p2.cell 2
  have s3 := p2.cell 3
  have s4 := p2.cell 4
  have s5 := p2.cell 5
  simp at s0 s1 s2 s3 s4 s5
  go_wp2_with fail
  rw [← hW2]
  refine (alive15_any _).mono ?_
  rintro e w6 ⟨rfl, h6⟩
  go_wp2
  go_ret
  exact ⟨rfl, b3.trans (h6.mono b3.size)⟩

set_option maxHeartbeats 4000000 in
theorem clcwBack_no (ch : Int) (lk wt rt : Bool) (bp nx : Int) (w : World) (hok : Cw.ok ⟨ch, lk, wt, rt, bp, nx⟩ = false) :
    Calls Try.prog 5 #[.agg #[.int .i64 ch, .bool lk, .bool wt, .bool rt, .int .i64 bp, .int .i64 nx]] w fun e w' => e = .returned (.bool true) ∧ Below w.heap.size w w' := by
  have b0 := bel_new w (.cells #[.int .i64 ch, .bool lk, .bool wt, .bool rt, .int .i64 bp, .int .i64 nx] 23)
  have x1 := fun W => cencode_any ch lk wt rt bp nx W
  have x3 := fun W => cvalid_any ch lk wt rt bp nx W
  simp only [Cw.enc_no hok, Cw.err_no hok] at x1
  simp only [hok] at x3
  clear hok
  have p0 := Cel.new w 23 #[.int .i64 ch, .bool lk, .bool wt, .bool rt, .int .i64 bp, .int .i64 nx]
  have m0 := p0.cell 0
  have m1 := p0.cell 1
  have m2 := p0.cell 2
  have m3 := p0.cell 3
  have m4 := p0.cell 4
  have m5 := p0.cell 5
  simp at m0 m1 m2 m3 m4 m5
  go_enter Try.func5, Try.ntmps5
  go_wp2_with fail
  refine (x1 _).mono ?_
  rintro e w1 ⟨v1, rfl, o1, h1⟩
  obtain ⟨A1, c1, rfl, r1⟩ := Rd.of o1 (n := 0) rfl
  have b1 := b0.trans (h1.mono b0.size)
  have p1 := Cel.later p0 h1
  clear x1 h1 p0 b0 o1 m0 m1 m2 m3 m4 m5
  have m0 := p1.cell 0
  have m1 := p1.cell 1
  have m2 := p1.cell 2
  have m3 := p1.cell 3
  have m4 := p1.cell 4
  have m5 := p1.cell 5
  simp at m0 m1 m2 m3 m4 m5
  go_wp2_with fail
  refine (x3 _).mono ?_
  rintro e w2 ⟨rfl, h2⟩
  have b2 := b1.trans (h2.mono b1.size)
  go_wp2_with fail
  refine (alive15_any _).mono ?_
  rintro e w6 ⟨rfl, h6⟩
  go_wp2
  go_ret
  exact ⟨rfl, b2.trans (h6.mono b2.size)⟩

set_option maxHeartbeats 4000000 in
theorem clcwBack_yes (ch : Int) (lk wt rt : Bool) (bp nx : Int) (w : World) (hok : Cw.ok ⟨ch, lk, wt, rt, bp, nx⟩ = true) :
    Calls Try.prog 5 #[.agg #[.int .i64 ch, .bool lk, .bool wt, .bool rt, .int .i64 bp, .int .i64 nx]] w fun e w' => e = .returned (.bool true) ∧ Below w.heap.size w w' := by
  have b0 := bel_new w (.cells #[.int .i64 ch, .bool lk, .bool wt, .bool rt, .int .i64 bp, .int .i64 nx] 23)
  have x1 := fun W => cencode_any ch lk wt rt bp nx W
  have x3 := fun W => cvalid_any ch lk wt rt bp nx W
  obtain ⟨E, hE⟩ : ∃ E, E = Cw.enc ⟨ch, lk, wt, rt, bp, nx⟩ := ⟨_, rfl⟩
  have hel := Cw.enc_len hok
  have hde := dec_enc hok
  rw [← hE] at hel hde
  simp only [Cw.err_yes hok, ← hE] at x1
  simp only [hok] at x3
  have x2 := fun W A c (h : Rd W A E 4 c) => cdecode_any A E 4 c W h
  simp only [hde.1, hde.2] at x2
  have y0 : (ch == ch) = true := by simp
  have y1 : (lk == lk) = true := by simp
  have y2 : (wt == wt) = true := by simp
  have y3 : (rt == rt) = true := by simp
  have y4 : (bp == bp) = true := by simp
  have y5 : (nx == nx) = true := by simp
  have HL := Lib.hid hel
  clear hok hE hde hel
  have p0 := Cel.new w 23 #[.int .i64 ch, .bool lk, .bool wt, .bool rt, .int .i64 bp, .int .i64 nx]
  have m0 := p0.cell 0
  have m1 := p0.cell 1
  have m2 := p0.cell 2
  have m3 := p0.cell 3
  have m4 := p0.cell 4
  have m5 := p0.cell 5
  simp at m0 m1 m2 m3 m4 m5
  go_enter Try.func5, Try.ntmps5
  go_wp2_with fail
  refine (x1 _).mono ?_
  rintro e w1 ⟨v1, rfl, o1, h1⟩
  obtain ⟨A1, c1, rfl, r1⟩ := Rd.of o1 (n := 4) HL.out
  have b1 := b0.trans (h1.mono b0.size)
  have p1 := Cel.later p0 h1
  clear x1 h1 p0 b0 o1 m0 m1 m2 m3 m4 m5
  go_wp2_with fail
  refine (x2 _ _ _ r1).mono ?_
  rintro e w2 ⟨rfl, h2⟩
  have b2 := b1.trans (h2.mono b1.size)
  obtain ⟨W2, hW2⟩ : ∃ W2, W2 = w2.alloc (.cells #[.int .i64 ch, .bool lk, .bool wt, .bool rt, .int .i64 bp, .int .i64 nx] 23) := ⟨_, rfl⟩
  have i2 : Below w2.heap.size w2 W2 := by rw [hW2]; exact bel_new _ _
  have p12 := Cel.later (Cel.later p1 h2) i2
  have p2 : Cel W2 w2.heap.size 23 #[.int .i64 ch, .bool lk, .bool wt, .bool rt, .int .i64 bp, .int .i64 nx] := by rw [hW2]; exact Cel.new _ _ _
  have b3 := b2.trans (i2.mono b2.size)
  rw [hW2] at p12 p2
  clear x2 h2 i2 p1 b1 b2 r1
  have m0 := p12.cell 0
  have m1 := p12.cell 1
  have m2 := p12.cell 2
  have m3 := p12.cell 3
  have m4 := p12.cell 4
  have m5 := p12.cell 5
  simp at m0 m1 m2 m3 m4 m5
  have s0 := p2.cell 0
  have s1 := p2.cell 1
  have s2 := p2.cell 2
  have s3 := p2.cell 3
  have s4 := p2.cell 4
  have s5 := p2.cell 5
  simp at s0 s1 s2 s3 s4 s5
  go_wp2_with fail
  rw [← hW2]
  refine (x3 _).mono ?_
  rintro e w3 ⟨rfl, h3⟩
  have b4 := b3.trans (h3.mono b3.size)
  go_wp2_with fail
  refine (alive15_any _).mono ?_
  rintro e w6 ⟨rfl, h6⟩
  go_wp2
  go_ret
  exact ⟨rfl, b4.trans (h6.mono b4.size)⟩

theorem clcwBack_walk (ch : Int) (lk wt rt : Bool) (bp nx : Int) (w : World) :
    Calls Try.prog 5 #[.agg #[.int .i64 ch, .bool lk, .bool wt, .bool rt, .int .i64 bp, .int .i64 nx]] w fun e w' => e = .returned (.bool true) ∧ Below w.heap.size w w' := by
  cases hok : Cw.ok ⟨ch, lk, wt, rt, bp, nx⟩ with
  | false => exact clcwBack_no ch lk wt rt bp nx w hok
  | true => exact clcwBack_yes ch lk wt rt bp nx w hok

set_option maxHeartbeats 4000000 in
theorem clcwOnly_no (a : Option Addr) (l : List Byte) (n c : Nat) (w : World) (hD : Rd w a l n c) (hbig : n ≤ 100) (h0 : deE l ≠ 0) :
    Calls Try.prog 6 #[.slice a n c] w fun e w' => e = .returned (.bool true) ∧ Below w.heap.size w w' := by
  have g1 : decide ((100 : Int) < (n : Int)) = false := by simp; omega
  have g2 : decide (100 < n) = false := by simp; omega
  have x1 := cdecode_any a l n c w hD
  simp only [de_else h0, noCw] at x1
  obtain ⟨G, hG⟩ : ∃ G, G = deE l := ⟨_, rfl⟩
  simp only [← hG] at x1 h0
  have e1 : (G != 0) = true := by simpa using h0
  clear hG hbig h0 hD
  go_enter Try.func6, Try.ntmps6
  go_wp2_with fail
  refine x1.mono ?_
  rintro e w1 ⟨rfl, h1⟩
  have b1 := h1.alloc h1.size (.cells #[.int .i64 0, .bool false, .bool false, .bool false, .int .i64 0, .int .i64 0] 23)
  have p1 := Cel.new w1 23 #[.int .i64 0, .bool false, .bool false, .bool false, .int .i64 0, .int .i64 0]
  have m0 := p1.cell 0
  have m1 := p1.cell 1
  have m2 := p1.cell 2
  have m3 := p1.cell 3
  have m4 := p1.cell 4
  have m5 := p1.cell 5
  simp at m0 m1 m2 m3 m4 m5
  clear x1 h1
  go_wp2_with fail
  refine (alive15_any _).mono ?_
  rintro e w6 ⟨rfl, h6⟩
  go_wp2
  go_ret
  exact ⟨rfl, b1.trans (h6.mono b1.size)⟩

set_option maxHeartbeats 4000000 in
theorem clcwOnly_yes (a : Option Addr) (l : List Byte) (n c : Nat) (w : World) (hD : Rd w a l n c) (hbig : n ≤ 100) (h0 : deE l = 0) :
    Calls Try.prog 6 #[.slice a n c] w fun e w' => e = .returned (.bool true) ∧ Below w.heap.size w w' := by
  have g1 : decide ((100 : Int) < (n : Int)) = false := by simp; omega
  have g2 : decide (100 < n) = false := by simp; omega
  have x1 := cdecode_any a l n c w hD
  obtain ⟨h2, h3⟩ := enc_dec h0
  obtain ⟨P, hP⟩ : ∃ P, P = deP l := ⟨_, rfl⟩
  obtain ⟨ch, lk, wt, rt, bp, nx⟩ := P
  rw [h0] at x1
  simp only [← hP] at x1 h2 h3
  have x2 := fun W => cencode_any ch lk wt rt bp nx W
  have x3 := fun W => cvalid_any ch lk wt rt bp nx W
  simp only [h3, Cw.err_yes h2] at x2
  simp only [h2] at x3
  have e1 : ((str l).toList == (str l).toList) = true := by simp
  clear hP h2 h3 h0 hbig
  go_enter Try.func6, Try.ntmps6
  go_wp2_with fail
  refine x1.mono ?_
  rintro e w1 ⟨rfl, h1⟩
  obtain ⟨W1, hW1⟩ : ∃ W1, W1 = w1.alloc (.cells #[.int .i64 ch, .bool lk, .bool wt, .bool rt, .int .i64 bp, .int .i64 nx] 23) := ⟨_, rfl⟩
  have i1 : Below w1.heap.size w1 W1 := by rw [hW1]; exact bel_new _ _
  have p1 : Cel W1 w1.heap.size 23 #[.int .i64 ch, .bool lk, .bool wt, .bool rt, .int .i64 bp, .int .i64 nx] := by rw [hW1]; exact Cel.new _ _ _
  have b1 := h1.trans (i1.mono h1.size)
  have k1 := (hD.later h1).later i1
  clear x1 h1 i1 hD
  go_wp2_with fail
  rw [← hW1]
  refine (x2 _).mono ?_
  rintro e w2 ⟨v2, rfl, o2, h2⟩
  obtain ⟨A2, c2, rfl, r2⟩ := Rd.of o2 k1.len
  have b2 := b1.trans (h2.mono b1.size)
  have k2 := k1.later h2
  have p2 := Cel.later p1 h2
  clear x2 h2 o2 k1 p1 b1 hW1
  have m0 := p2.cell 0
  have m1 := p2.cell 1
  have m2 := p2.cell 2
  have m3 := p2.cell 3
  have m4 := p2.cell 4
  have m5 := p2.cell 5
  simp at m0 m1 m2 m3 m4 m5
  go_wp2_with fail
  refine (x3 _).mono ?_
  rintro e w3 ⟨rfl, h3⟩
  have b3 := b2.trans (h3.mono b2.size)
  have q1 := r2.conv h3
  have q2 := k2.conv h3
  clear x3 h3 b2 m0 m1 m2 m3 m4 m5 p2 r2 k2
  go_wp2_with fail
  refine (alive15_any _).mono ?_
  rintro e w6 ⟨rfl, h6⟩
  go_wp2
  go_ret
  exact ⟨rfl, b3.trans (h6.mono b3.size)⟩

theorem clcwOnly_walk (a : Option Addr) (l : List Byte) (n c : Nat) (w : World) (hD : Rd w a l n c) :
    Calls Try.prog 6 #[.slice a n c] w fun e w' => e = .returned (.bool true) ∧ Below w.heap.size w w' := by
  by_cases hbig : 100 < n
  · have g1 : decide ((100 : Int) < (n : Int)) = true := by simp; omega
    have g2 : decide (100 < n) = true := by simp; omega
    clear hD hbig
    go_enter Try.func6, Try.ntmps6
    go_wp2_with fail
    refine (alive15_any _).mono ?_
    rintro e w1 ⟨rfl, h1⟩
    go_wp2
    go_ret
    exact ⟨rfl, h1⟩
  by_cases h0 : deE l = 0
  · exact clcwOnly_yes a l n c w hD (by omega) h0
  · exact clcwOnly_no a l n c w hD (by omega) h0
end Go.Proofs.Ytmfiklofmjaldaa.Clc
