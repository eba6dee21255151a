/-
  The walk of package clcw's Decode.
-/
import Derived.Test.YtmfiklofmjaldaaClcW2
namespace Go.Proofs.Ytmfiklofmjaldaa.Clc
open Go.RowKit Go.Proofs.Ytmfiklofmjaldaa.Pac

theorem cde_results {tmps : Array Value} {W : World} {g : Nat} {e : Int} {ch : Int} {lk wt rt : Bool} {bp nx : Int} (h2 : tmps.getD 2 undef = .pointer (some ⟨g, 0, none⟩)) (h3 : tmps.getD 3 undef = .int .i64 e)
    (hC : Cel W g 23 #[.int .i64 ch, .bool lk, .bool wt, .bool rt, .int .i64 bp, .int .i64 nx]) :
    (results Try.f12 tmps).run Try.prog W = .ok (.tuple #[.agg #[.int .i64 ch, .bool lk, .bool wt, .bool rt, .int .i64 bp, .int .i64 nx], .int .i64 e]) W := by
  have c0 := hC.cell 0
  have c1 := hC.cell 1
  have c2 := hC.cell 2
  have c3 := hC.cell 3
  have c4 := hC.cell 4
  have c5 := hC.cell 5
  simp at c0 c1 c2 c3 c4 c5
  simp only [Array.getD_eq_getD_getElem?] at h2 h3
  simp [results, Try.results12, go_sem, h2, h3, c0, c1, c2, c3, c4, c5]

set_option maxHeartbeats 2000000 in
theorem cdecode_short (a : Option Addr) (n c : Nat) (w : World) (h : n < 4) :
    Calls Try.prog 12 #[.slice a n c] w fun e w' => e = .returned (.tuple #[.agg #[.int .i64 0, .bool false, .bool false, .bool false, .int .i64 0, .int .i64 0], .int .i64 3]) ∧ Below w.heap.size w w' := by
  have b0 := bel_new w (.cells #[.int .i64 0, .bool false, .bool false, .bool false, .int .i64 0, .int .i64 0] 23)
  have hR0 := Cel.new w 23 #[.int .i64 0, .bool false, .bool false, .bool false, .int .i64 0, .int .i64 0]
  have g1 : decide ((n : Int) < 4) = true := by simp; omega
  have g2 : decide (n < 4) = true := by simp; omega
  clear h
  have c0 := hR0.cell 0
  have c1 := hR0.cell 1
  have c2 := hR0.cell 2
  have c3 := hR0.cell 3
  have c4 := hR0.cell 4
  have c5 := hR0.cell 5
  simp at c0 c1 c2 c3 c4 c5
  have f0 := hR0.free 0
  have f1 := hR0.free 1
  have f2 := hR0.free 2
  have f3 := hR0.free 3
  have f4 := hR0.free 4
  have f5 := hR0.free 5
  go_enter Try.func12, Try.ntmps12
  go_wp2
  exact bodyPost_ret (cde_results rfl rfl hR0) rfl ⟨rfl, b0⟩

set_option maxHeartbeats 2000000 in
theorem cdecode_long (a : Option Addr) (n c : Nat) (w : World) (h : 4 < n) :
    Calls Try.prog 12 #[.slice a n c] w fun e w' => e = .returned (.tuple #[.agg #[.int .i64 0, .bool false, .bool false, .bool false, .int .i64 0, .int .i64 0], .int .i64 6]) ∧ Below w.heap.size w w' := by
  have b0 := bel_new w (.cells #[.int .i64 0, .bool false, .bool false, .bool false, .int .i64 0, .int .i64 0] 23)
  have hR0 := Cel.new w 23 #[.int .i64 0, .bool false, .bool false, .bool false, .int .i64 0, .int .i64 0]
  have g1 : decide ((n : Int) < 4) = false := by simp; omega
  have g2 : decide (n < 4) = false := by simp; omega
  have g3 : decide ((4 : Int) < (n : Int)) = true := by simp; omega
  have g4 : decide (4 < n) = true := by simp; omega
  clear h
  have c0 := hR0.cell 0
  have c1 := hR0.cell 1
  have c2 := hR0.cell 2
  have c3 := hR0.cell 3
  have c4 := hR0.cell 4
  have c5 := hR0.cell 5
  simp at c0 c1 c2 c3 c4 c5
  have f0 := hR0.free 0
  have f1 := hR0.free 1
  have f2 := hR0.free 2
  have f3 := hR0.free 3
  have f4 := hR0.free 4
  have f5 := hR0.free 5
  go_enter Try.func12, Try.ntmps12
  go_wp2
  exact bodyPost_ret (cde_results rfl rfl hR0) rfl ⟨rfl, b0⟩

set_option maxHeartbeats 2000000 in
theorem cdecode_form (a : Option Addr) (l : List Byte) (c : Nat) (w : World) (hD : Rd w a l 4 c) (hf : fm l = false) :
    Calls Try.prog 12 #[.slice a 4 c] w fun e w' => e = .returned (.tuple #[.agg #[.int .i64 0, .bool false, .bool false, .bool false, .int .i64 0, .int .i64 0], .int .i64 4]) ∧ Below w.heap.size w w' := by
  have b0 := bel_new w (.cells #[.int .i64 0, .bool false, .bool false, .bool false, .int .i64 0, .int .i64 0] 23)
  have hR0 := Cel.new w 23 #[.int .i64 0, .bool false, .bool false, .bool false, .int .i64 0, .int .i64 0]
  have hrd := fun W (h : Rd W a l 4 c) => cread_any a l c W h
  rw [hf] at hrd
  obtain ⟨P, hP⟩ : ∃ P, P = rd l := ⟨_, rfl⟩
  rw [← hP] at hrd
  obtain ⟨ch, lk, wt, rt, bp, nx⟩ := P
  simp only at hrd
  clear hP hf
  go_enter Try.func12, Try.ntmps12
  go_wp2_with fail
  refine (hrd _ (hD.later b0)).mono ?_
  rintro e w2 ⟨rfl, hb2⟩
  have hR2 := Cel.later hR0 hb2
  have bel2 := b0.trans (hb2.mono b0.size)
  have hlt2 := hR2.lt
  clear hrd hb2 hR0 b0 hD
  have c0 := hR2.cell 0
  have c1 := hR2.cell 1
  have c2 := hR2.cell 2
  have c3 := hR2.cell 3
  have c4 := hR2.cell 4
  have c5 := hR2.cell 5
  simp at c0 c1 c2 c3 c4 c5
  have f0 := hR2.free 0
  have f1 := hR2.free 1
  have f2 := hR2.free 2
  have f3 := hR2.free 3
  have f4 := hR2.free 4
  have f5 := hR2.free 5
  go_wp2
  exact bodyPost_ret (cde_results rfl rfl (Cel.later (put6_cel hR2 (.int .i64 0) (.bool false) (.bool false) (.bool false) (.int .i64 0) (.int .i64 0)) (bel_new _ _))) rfl ⟨rfl, (put6_below bel2 (Nat.le_refl _) _ _ _ _ _ _).alloc (put6_below bel2 (Nat.le_refl _) _ _ _ _ _ _).size _⟩

set_option maxHeartbeats 2000000 in
theorem cdecode_bad (a : Option Addr) (l : List Byte) (c : Nat) (w : World) (hD : Rd w a l 4 c) (hf : fm l = true) (hok : (rd l).ok = false) :
    Calls Try.prog 12 #[.slice a 4 c] w fun e w' => e = .returned (.tuple #[.agg #[.int .i64 0, .bool false, .bool false, .bool false, .int .i64 0, .int .i64 0], .int .i64 4]) ∧ Below w.heap.size w w' := by
  have b0 := bel_new w (.cells #[.int .i64 0, .bool false, .bool false, .bool false, .int .i64 0, .int .i64 0] 23)
  have hR0 := Cel.new w 23 #[.int .i64 0, .bool false, .bool false, .bool false, .int .i64 0, .int .i64 0]
  have hrd := fun W (h : Rd W a l 4 c) => cread_any a l c W h
  rw [hf] at hrd
  obtain ⟨P, hP⟩ : ∃ P, P = rd l := ⟨_, rfl⟩
  rw [← hP] at hrd hok
  obtain ⟨ch, lk, wt, rt, bp, nx⟩ := P
  simp only at hrd
  have hv := fun W => cvalid_any ch lk wt rt bp nx W
  rw [hok] at hv
  clear hP hf hok
  go_enter Try.func12, Try.ntmps12
  go_wp2_with fail
  refine (hrd _ (hD.later b0)).mono ?_
  rintro e w2 ⟨rfl, hb2⟩
  have hR2 := Cel.later hR0 hb2
  have bel2 := b0.trans (hb2.mono b0.size)
  have hlt2 := hR2.lt
  clear hrd hb2 hR0 b0 hD
  obtain ⟨W3, hW3⟩ : ∃ W3, W3 = w2.alloc (.cells #[.int .i64 ch, .bool lk, .bool wt, .bool rt, .int .i64 bp, .int .i64 nx] 23) := ⟨_, rfl⟩
  have bel3 : Below w2.heap.size w2 W3 := by rw [hW3]; exact bel_new _ _
  have hR3 := Cel.later hR2 bel3
  have hP3 : Cel W3 w2.heap.size 23 #[.int .i64 ch, .bool lk, .bool wt, .bool rt, .int .i64 bp, .int .i64 nx] := by rw [hW3]; exact Cel.new _ _ _
  have bel3' := bel2.trans (bel3.mono bel2.size)
  clear bel2 hR2 bel3
  go_wp2_with fail
  rw [← hW3]
  refine (hv W3).mono ?_
  rintro e w4 ⟨rfl, hb4⟩
  have hR4 := Cel.later hR3 hb4
  have hP4 := Cel.later hP3 hb4
  have bel4 := bel3'.trans (hb4.mono bel3'.size)
  clear hv hb4 hR3 hP3 bel3' hW3
  have c0 := hR4.cell 0
  have c1 := hR4.cell 1
  have c2 := hR4.cell 2
  have c3 := hR4.cell 3
  have c4 := hR4.cell 4
  have c5 := hR4.cell 5
  simp at c0 c1 c2 c3 c4 c5
  have f0 := hR4.free 0
  have f1 := hR4.free 1
  have f2 := hR4.free 2
  have f3 := hR4.free 3
  have f4 := hR4.free 4
  have f5 := hR4.free 5
  go_wp2
  exact bodyPost_ret (cde_results rfl rfl (put6_cel hR4 (.int .i64 0) (.bool false) (.bool false) (.bool false) (.int .i64 0) (.int .i64 0))) rfl ⟨rfl, put6_below bel4 (Nat.le_refl _) _ _ _ _ _ _⟩

set_option maxHeartbeats 2000000 in
theorem cdecode_good (a : Option Addr) (l : List Byte) (c : Nat) (w : World) (hD : Rd w a l 4 c) (hf : fm l = true) (hok : (rd l).ok = true) :
    Calls Try.prog 12 #[.slice a 4 c] w fun e w' => e = .returned (.tuple #[.agg #[.int .i64 (rd l).ch, .bool (rd l).lk, .bool (rd l).wt, .bool (rd l).rt, .int .i64 (rd l).bp, .int .i64 (rd l).nx], .int .i64 0]) ∧ Below w.heap.size w w' := by
  have b0 := bel_new w (.cells #[.int .i64 0, .bool false, .bool false, .bool false, .int .i64 0, .int .i64 0] 23)
  have hR0 := Cel.new w 23 #[.int .i64 0, .bool false, .bool false, .bool false, .int .i64 0, .int .i64 0]
  have hrd := fun W (h : Rd W a l 4 c) => cread_any a l c W h
  rw [hf] at hrd
  obtain ⟨P, hP⟩ : ∃ P, P = rd l := ⟨_, rfl⟩
  rw [← hP] at hrd hok ⊢
  obtain ⟨ch, lk, wt, rt, bp, nx⟩ := P
  simp only at hrd ⊢
  have hv := fun W => cvalid_any ch lk wt rt bp nx W
  rw [hok] at hv
  clear hP hf hok
  go_enter Try.func12, Try.ntmps12
  go_wp2_with fail
  refine (hrd _ (hD.later b0)).mono ?_
  rintro e w2 ⟨rfl, hb2⟩
  have hR2 := Cel.later hR0 hb2
  have bel2 := b0.trans (hb2.mono b0.size)
  have hlt2 := hR2.lt
  clear hrd hb2 hR0 b0 hD
  obtain ⟨W3, hW3⟩ : ∃ W3, W3 = w2.alloc (.cells #[.int .i64 ch, .bool lk, .bool wt, .bool rt, .int .i64 bp, .int .i64 nx] 23) := ⟨_, rfl⟩
  have bel3 : Below w2.heap.size w2 W3 := by rw [hW3]; exact bel_new _ _
  have hR3 := Cel.later hR2 bel3
  have hP3 : Cel W3 w2.heap.size 23 #[.int .i64 ch, .bool lk, .bool wt, .bool rt, .int .i64 bp, .int .i64 nx] := by rw [hW3]; exact Cel.new _ _ _
  have bel3' := bel2.trans (bel3.mono bel2.size)
  clear bel2 hR2 bel3
  go_wp2_with fail
  rw [← hW3]
  refine (hv W3).mono ?_
  rintro e w4 ⟨rfl, hb4⟩
  have hR4 := Cel.later hR3 hb4
  have hP4 := Cel.later hP3 hb4
  have bel4 := bel3'.trans (hb4.mono bel3'.size)
  clear hv hb4 hR3 hP3 bel3' hW3
  have c0 := hR4.cell 0
  have c1 := hR4.cell 1
  have c2 := hR4.cell 2
  have c3 := hR4.cell 3
  have c4 := hR4.cell 4
  have c5 := hR4.cell 5
  simp at c0 c1 c2 c3 c4 c5
  have f0 := hR4.free 0
  have f1 := hR4.free 1
  have f2 := hR4.free 2
  have f3 := hR4.free 3
  have f4 := hR4.free 4
  have f5 := hR4.free 5
  have p0 := hP4.cell 0
  have p1 := hP4.cell 1
  have p2 := hP4.cell 2
  have p3 := hP4.cell 3
  have p4 := hP4.cell 4
  have p5 := hP4.cell 5
  simp at p0 p1 p2 p3 p4 p5
  have q0 := hP4.free 0
  have q1 := hP4.free 1
  have q2 := hP4.free 2
  have q3 := hP4.free 3
  have q4 := hP4.free 4
  have q5 := hP4.free 5
  go_wp2
  exact bodyPost_ret (cde_results rfl rfl (put6_cel hR4 (.int .i64 ch) (.bool lk) (.bool wt) (.bool rt) (.int .i64 bp) (.int .i64 nx))) rfl ⟨rfl, put6_below bel4 (Nat.le_refl _) _ _ _ _ _ _⟩

theorem cdecode_any (a : Option Addr) (l : List Byte) (n c : Nat) (w : World) (hD : Rd w a l n c) :
    Calls Try.prog 12 #[.slice a n c] w fun e w' => e = .returned (.tuple #[.agg #[.int .i64 (deP l).ch, .bool (deP l).lk, .bool (deP l).wt, .bool (deP l).rt, .int .i64 (deP l).bp, .int .i64 (deP l).nx], .int .i64 (deE l)]) ∧ Below w.heap.size w w' := by
  have hln := hD.len
  by_cases h1 : n < 4
  · obtain ⟨e1, e2⟩ := de_short (l := l) (by omega)
    rw [e1, e2]
    exact cdecode_short a n c w h1
  by_cases h2 : 4 < n
  · obtain ⟨e1, e2⟩ := de_long (l := l) (by omega)
    rw [e1, e2]
    exact cdecode_long a n c w h2
  obtain rfl : n = 4 := by omega
  cases hg : gd l with
  | false =>
    obtain ⟨e1, e2⟩ := de_form (l := l) hln hg
    rw [e1, e2]
    cases hf : fm l with
    | false => exact cdecode_form a l c w hD hf
    | true =>
      have hok : (rd l).ok = false := by
        unfold gd at hg
        rw [hf] at hg
        simpa using hg
      exact cdecode_bad a l c w hD hf hok
  | true =>
    obtain ⟨e1, e2⟩ := de_good (l := l) hln hg
    rw [e1, e2]
    unfold gd at hg
    simp only [Bool.and_eq_true] at hg
    exact cdecode_good a l c w hD hg.1 hg.2
end Go.Proofs.Ytmfiklofmjaldaa.Clc
