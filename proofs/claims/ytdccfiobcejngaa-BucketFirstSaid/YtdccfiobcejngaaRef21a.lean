/-
  The reference of layer 21: clamp, New, Advance, Take, Level, When.
-/
import Derived.Test.YtdccfiobcejngaaBucW0
namespace Go.Proofs.Ytdccfiobcejngaa.Buc
open Go.RowKit

/-- block g is the reference's bucket -/
def XC (w : World) (g : Nat) (s : BS) : Prop := Cel w g 26 #[.int .i64 s.r, .int .i64 s.z, .int .i64 s.v, .int .i64 s.t]
structure XW (w : World) (g : Nat) (s : BS) : Prop where
  cel : XC w g s
  ok : s.Ok
section
variable {w w' : World} {g : Nat} {s : BS} {S : List Nat}
theorem XC.c0 (h : XC w g s) : w.cell? ⟨g, 0, none⟩ = some (.int .i64 s.r) := Cel.cell (t := 26) h 0
theorem XC.c1 (h : XC w g s) : w.cell? ⟨g, 1, none⟩ = some (.int .i64 s.z) := Cel.cell (t := 26) h 1
theorem XC.c2 (h : XC w g s) : w.cell? ⟨g, 2, none⟩ = some (.int .i64 s.v) := Cel.cell (t := 26) h 2
theorem XC.c3 (h : XC w g s) : w.cell? ⟨g, 3, none⟩ = some (.int .i64 s.t) := Cel.cell (t := 26) h 3
theorem XC.free (h : XC w g s) (i : Nat) : w.frozen? ⟨g, i, none⟩ = false := Cel.free (t := 26) h i
theorem XC.lev (h : XC w g s) (x : Int) : XC (w.setCell ⟨g, 2, none⟩ (.int .i64 x)) g ⟨s.r, s.z, x, s.t⟩ := Cel.put (t := 26) h 2 _
theorem XC.tim (h : XC w g s) (x : Int) : XC (w.setCell ⟨g, 3, none⟩ (.int .i64 x)) g ⟨s.r, s.z, s.v, x⟩ := Cel.put (t := 26) h 3 _
theorem XC.only (h : XC w g s) (k : Only S w w') (hg : g ∉ S) : XC w' g s := Cel.only (t := 26) h k hg
theorem XW.only (h : XW w g s) (k : Only S w w') (hg : g ∉ S) : XW w' g s := ⟨h.cel.only k hg, h.ok⟩
theorem XW.below (h : XW w g s) (k : Below w.heap.size w w') : XW w' g s := h.only (Only.of_below (S := []) k) (by simp)
theorem XW.lt (h : XW w g s) : g < w.heap.size := Cel.lt (t := 26) h.cel
theorem XW.draws (h : XW w g s) (n : Nat) : XW (w.drewN n) g s := ⟨h.cel, h.ok⟩
end

set_option maxHeartbeats 400000 in
theorem xclamp_any (n : Int) (w : World) : Calls Try.prog 18 #[.int .i64 n] w fun e w' => e = .returned (.int .i64 (cl n)) ∧ w = w' := by
  by_cases h0 : n < 0
  · have e : cl n = 0 := by unfold cl; omega
    rw [e]
    clear e
    go_enter Try.func18, Try.ntmps18
    go_wp2
    go_ret
    exact ⟨rfl, rfl⟩
  by_cases h1 : 2147483648 < n
  · have e : cl n = 2147483648 := by unfold cl; omega
    rw [e]
    clear e
    go_enter Try.func18, Try.ntmps18
    go_wp2
    go_ret
    exact ⟨rfl, rfl⟩
  have e : cl n = n := by unfold cl; omega
  rw [e]
  clear e
  go_enter Try.func18, Try.ntmps18
  go_wp2
  go_ret
  exact ⟨rfl, rfl⟩
theorem xnew_results {tmps : Array Value} {w' : World} {g : Nat} {r z v t : Int} (h2 : tmps.getD 4 undef = .pointer (some ⟨g, 0, none⟩))
    (hC : Cel w' g 26 #[.int .i64 r, .int .i64 z, .int .i64 v, .int .i64 t]) :
    (results Try.f9 tmps).run Try.prog w' = .ok (.agg #[.int .i64 r, .int .i64 z, .int .i64 v, .int .i64 t]) w' := by
  have c0 := hC.cell 0
  have c1 := hC.cell 1
  have c2 := hC.cell 2
  have c3 := hC.cell 3
  simp at c0 c1 c2 c3
  simp only [Array.getD_eq_getD_getElem?] at h2
  simp [results, Try.results9, go_sem, h2, c0, c1, c2, c3]
set_option maxHeartbeats 1000000 in
theorem xnew_any (r z : Int) (w : World) :
    Calls Try.prog 9 #[.int .i64 r, .int .i64 z] w fun e w' => e = .returned (.agg #[.int .i64 (cl r), .int .i64 (cl z), .int .i64 (cl z), .int .i64 0]) ∧ Below w.heap.size w w' := by
  have x1 := fun W => xclamp_any r W
  have x2 := fun W => xclamp_any z W
  obtain ⟨R, hR⟩ : ∃ R, R = cl r := ⟨_, rfl⟩
  obtain ⟨Z, hZ⟩ : ∃ Z, Z = cl z := ⟨_, rfl⟩
  rw [← hR] at x1 ⊢
  rw [← hZ] at x2 ⊢
  obtain ⟨w1, hw1⟩ : ∃ w1, w1 = w.alloc (.cells #[.int .i64 0, .int .i64 0, .int .i64 0, .int .i64 0] 26) := ⟨_, rfl⟩
  have b1 : Below w.heap.size w w1 := by rw [hw1]; exact bel_new _ _
  have p1 : Cel w1 w.heap.size 26 #[.int .i64 0, .int .i64 0, .int .i64 0, .int .i64 0] := by rw [hw1]; exact Cel.new _ _ _
  have f0 := p1.free 0
  have f1 := p1.free 1
  have f2 := p1.free 2
  have f3 := p1.free 3
  have c0 := p1.cell 0
  have c1 := p1.cell 1
  have c2 := p1.cell 2
  have c3 := p1.cell 3
  simp at c0 c1 c2 c3
  clear hR hZ
  go_enter Try.func9, Try.ntmps9
  go_wp2_with fail
  rw [← hw1]
  clear hw1
  refine (x1 _).mono ?_
  rintro e w2 ⟨rfl, rfl⟩
  go_wp2_with fail
  refine (x2 _).mono ?_
  rintro e w2 ⟨rfl, rfl⟩
  go_wp2_with fail
  refine (x2 _).mono ?_
  rintro e w2 ⟨rfl, rfl⟩
  go_wp2
  have q1 := ((p1.put 0 (.int .i64 R)).put 1 (.int .i64 Z)).put 2 (.int .i64 Z)
  have q2 := q1.put 3 (.int .i64 0)
  exact bodyPost_ret (xnew_results rfl q2) rfl ⟨rfl, ((((b1.setCell (Nat.le_refl _) _).setCell (Nat.le_refl _) _).setCell (Nat.le_refl _) _).setCell (Nat.le_refl _) _)⟩

/-! ### Advance -/
set_option maxHeartbeats 4000000 in
theorem xadvance_any (n : Int) (w : World) (g : Nat) (s : BS) (h : XW w g s) :
    Calls Try.prog 23 #[.pointer (some ⟨g, 0, none⟩), .int .i64 n] w fun e w' => e = .returned (.tuple #[]) ∧ XW w' g (adv s n) ∧ Only [g] w w' := by
  have hok := adv_ok h.ok n
  have hk := h.ok
  have hc := h.cel
  have c4 := hc.c3
  by_cases hn : n ≤ s.t ∨ 1099511627776 < n
  · rw [adv_no hn]
    have H := Lib.hid h
    obtain ⟨t, ht⟩ : ∃ t, t = s.t := ⟨_, rfl⟩
    rw [← ht] at c4 hn
    rcases hn with hn | hn
    · have u1 : decide (n ≤ t) = true := by simpa using hn
      clear hok hk hc h ht hn
      go_enter Try.func23, Try.ntmps23
      go_wp2
      refine bodyPost_ret (results_none rfl _ _ _) rfl ?_
      exact ⟨rfl, H.out, Only.refl _ _⟩
    · have u2 : decide (1099511627776 < n) = true := by simpa using hn
      have u3 : decide (n ≤ t) = false := by have := hk.t1; simp; omega
      clear hok hk hc h ht hn
      go_enter Try.func23, Try.ntmps23
      go_wp2
      refine bodyPost_ret (results_none rfl _ _ _) rfl ?_
      exact ⟨rfl, H.out, Only.refl _ _⟩
  · have ha : s.t < n := by omega
    have hb : n ≤ 1099511627776 := by omega
    have hc2 := hc.tim n
    have o2 := put_only w g 3 (.int .i64 n)
    have c0 := hc.c0
    have c1 := hc.c1
    have c2 := hc.c2
    obtain ⟨w2, hw2⟩ : ∃ w2, w2 = w.setCell ⟨g, 3, none⟩ (.int .i64 n) := ⟨_, rfl⟩
    rw [← hw2] at hc2 o2
    have f4 := hc.free 3
    have z0 := hc2.c0
    have z1 := hc2.c1
    have z2 := hc2.c2
    have g3 := hc2.free 2
    have hstill := fun q => adv_still (s := s) ha hb hk.v1 q
    have hover := fun q d => adv_over (s := s) hk ha hb q d
    have hunder := fun q d => adv_under (s := s) (n := n) hk ha q d
    have hyes := adv_yes ha hb
    have hT0 := hk.t0
    have hT1 := hk.t1
    have hv0 := hk.v0
    have hz1 := hk.z1
    have hv1 := hk.v1
    have hr0 := hk.r0
    obtain ⟨r, z, v, t⟩ := s
    dsimp only at c0 c1 c2 c4 hc2 z0 z1 z2 ha hT0 hT1 hv0 hv1 hz1 hr0 hstill hover hunder hyes
    obtain ⟨D, hD⟩ : ∃ D, D = n - t := ⟨_, rfl⟩
    rw [← hD] at hover hunder hyes
    have s1 : n - t = D := hD.symm
    have b1 : wrap64 D = D := wr64 (by omega) (by omega)
    have u1 : decide (n ≤ t) = false := by simp; omega
    have u2 : decide (1099511627776 < n) = false := by simp; omega
    by_cases hr : r = 0
    · have e := hstill hr
      rw [e] at hok ⊢
      subst hr
      have HE := Lib.hid (And.intro hok (And.intro hc2 o2))
      clear hk hc h hstill hover hunder hyes e hc2 o2 hD hok hn ha hb hT0 hT1 hv0 hz1 hv1 hr0
      go_enter Try.func23, Try.ntmps23
      go_wp2
      rw [← hw2]
      refine bodyPost_ret (results_none rfl _ _ _) rfl ?_
      obtain ⟨a, b, c⟩ := HE.out
      exact ⟨rfl, ⟨b, a⟩, c⟩
    · have td : z.tdiv r = z / r := Int.tdiv_eq_ediv_of_nonneg (by omega)
      have t0 : (r == 0) = false := by simpa using hr
      have hq := Int.ediv_nonneg (show 0 ≤ z by omega) hr0
      have hq2 : z / r ≤ z := Int.ediv_le_self _ (by omega)
      obtain ⟨Q, hQ⟩ : ∃ Q, Q = z / r := ⟨_, rfl⟩
      rw [← hQ] at td hq hq2 hover hunder
      have d1 : z / r = Q := hQ.symm
      have b4 : wrap64 Q = Q := wr64 (by omega) (by omega)
      by_cases hd : Q < D
      · have e := hover hr hd
        rw [e] at hok ⊢
        have hc5 := hc2.lev z
        have o5 := only_then o2 (put_only w2 g 2 (.int .i64 z))
        have u3 : decide (Q < D) = true := by simpa using hd
        have HE := Lib.hid (And.intro hok (And.intro hc5 o5))
        clear hk hc h hstill hover hunder hyes e hc2 o2 hD hok hc5 o5 hn ha hb hT0 hT1 hv0 hz1 hv1 hr0 hq hq2 hQ
        go_enter Try.func23, Try.ntmps23
        go_wp2_with fail
        rw [← hw2]
        clear hw2 c0 c1 c2 c4 f4
        go_quiet (fail)
        go_wp2
        refine bodyPost_ret (results_none rfl _ _ _) rfl ?_
        obtain ⟨a, b, c⟩ := HE.out
        exact ⟨rfl, ⟨b, a⟩, ⟨c.os, c.tape, c.output, c.size, c.block⟩⟩
      · obtain ⟨q0, q1⟩ := hunder hr hd
        have u3 : decide (Q < D) = false := by simpa using hd
        rw [hyes] at hok ⊢
        obtain ⟨P, hP⟩ : ∃ P, P = r * D := ⟨_, rfl⟩
        rw [← hP] at hok q0 q1 ⊢
        obtain ⟨V, hV⟩ : ∃ V, V = v + P := ⟨_, rfl⟩
        rw [← hV] at hok ⊢
        have s2 : D * r = P := by rw [hP, Int.mul_comm]
        have s3 : v + P = V := hV.symm
        have b2 : wrap64 P = P := wr64 (by omega) (by omega)
        have b3 : wrap64 V = V := wr64 (by omega) (by omega)
        have HC := Lib.hid (And.intro hc2 o2)
        have HO := Lib.hid hok
        by_cases hz : z < V
        · have u4 : decide (z < V) = true := by simpa using hz
          have e : min z V = z := by omega
          have HZ := Lib.hid e
          clear hk hc h hstill hover hunder hyes hc2 o2 hD hok hn ha hb hT0 hT1 hv0 hz1 hv1 hr0 hq hq2 hQ hP hV q0 q1 hz hd e
          go_enter Try.func23, Try.ntmps23
          go_wp2_with fail
          rw [← hw2]
          clear hw2 c0 c1 c2 c4 f4
          go_quiet (fail)
          go_wp2_with fail
          go_region
          have hc5 := XC.lev (w := w2.drewN (nq + 1)) HC.out.1 V
          have o5 := only_then (HC.out.2.draws (nq + 1)) (put_only (w2.drewN (nq + 1)) g 2 (.int .i64 V))
          obtain ⟨w5, hw5⟩ : ∃ w5, w5 = (w2.drewN (nq + 1)).setCell ⟨g, 2, none⟩ (.int .i64 V) := ⟨_, rfl⟩
          rw [← hw5] at hc5 o5 ⊢
          clear hw5 g3 z0 z1 z2
          have y1 := hc5.c1
          have y2 := hc5.c2
          have y3 := hc5.free 2
          dsimp only at y1 y2
          go_wp2_with fail
          go_quiet (fail)
          go_wp2
          go_end0
          have hc6 := XC.lev (w := w5.drewN nq) hc5 z
          exact ⟨rfl, by rw [HZ.out]; exact ⟨hc6, by have := HO.out; rw [HZ.out] at this; exact this⟩, only_then (o5.draws _) (put_only _ g 2 (.int .i64 z))⟩
        · have u4 : decide (z < V) = false := by simpa using hz
          have e : min z V = V := by omega
          have HZ := Lib.hid e
          clear hk hc h hstill hover hunder hyes hc2 o2 hD hok hn ha hb hT0 hT1 hv0 hz1 hv1 hr0 hq hq2 hQ hP hV q0 q1 hz hd e
          go_enter Try.func23, Try.ntmps23
          go_wp2_with fail
          rw [← hw2]
          clear hw2 c0 c1 c2 c4 f4
          go_quiet (fail)
          go_wp2_with fail
          go_region
          have hc5 := XC.lev (w := w2.drewN (nq + 1)) HC.out.1 V
          have o5 := only_then (HC.out.2.draws (nq + 1)) (put_only (w2.drewN (nq + 1)) g 2 (.int .i64 V))
          obtain ⟨w5, hw5⟩ : ∃ w5, w5 = (w2.drewN (nq + 1)).setCell ⟨g, 2, none⟩ (.int .i64 V) := ⟨_, rfl⟩
          rw [← hw5] at hc5 o5 ⊢
          clear hw5 g3 z0 z1 z2
          have y1 := hc5.c1
          have y2 := hc5.c2
          dsimp only at y1 y2
          go_wp2_with fail
          go_quiet (fail)
          go_wp2
          go_end0
          exact ⟨rfl, by rw [HZ.out]; exact ⟨hc5, by have := HO.out; rw [HZ.out] at this; exact this⟩, o5.draws _⟩
end Go.Proofs.Ytdccfiobcejngaa.Buc
