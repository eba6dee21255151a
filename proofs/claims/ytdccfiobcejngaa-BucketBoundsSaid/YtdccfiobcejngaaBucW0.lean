/-
  Package bucket: what it is to be a bucket; clamp, New, works, wait, advance.
-/
import Derived.Test.YtdccfiobcejngaaBucMath
import Derived.Test.YtdccfiobcejngaaBase
import Derived.Test.YtdccfiobcejngaaLater
import Derived.Deep.QuietTactic
import Derived.BigQuiet
import Derived.BigRegion
namespace Go.Proofs.Ytdccfiobcejngaa.Buc
open Go.RowKit

theorem bel_new (w : World) (o : Obj) : Below w.heap.size w (w.alloc o) := (Below.refl _ _).alloc (Nat.le_refl _) _
theorem put_only (w : World) (g i : Nat) (v : Value) : Only [g] w (w.setCell ⟨g, i, none⟩ v) := (Only.refl [g] w).put (p := ⟨g, i, none⟩) (.inl (by simp)) v
theorem only_then {w w' w2 : World} {g : Nat} (h : Only [g] w w') (k : Only [g] w' w2) : Only [g] w w2 := h.trans k (fun _ hx => .inl hx)
theorem wr64 {x : Int} (h0 : -9223372036854775808 ≤ x) (h1 : x < 9223372036854775808) : wrap64 x = x := by unfold wrap64; omega

/-- block g is a bucket -/
def BC (w : World) (g : Nat) (s : BS) : Prop := Cel w g 47 #[.bool true, .int .i64 s.r, .int .i64 s.z, .int .i64 s.v, .int .i64 s.t]
structure BW (w : World) (g : Nat) (s : BS) : Prop where
  cel : BC w g s
  ok : s.Ok
section
variable {w w' : World} {g : Nat} {s : BS} {S : List Nat}
theorem BC.c0 (h : BC w g s) : w.cell? ⟨g, 0, none⟩ = some (.bool true) := Cel.cell (t := 47) h 0
theorem BC.c1 (h : BC w g s) : w.cell? ⟨g, 1, none⟩ = some (.int .i64 s.r) := Cel.cell (t := 47) h 1
theorem BC.c2 (h : BC w g s) : w.cell? ⟨g, 2, none⟩ = some (.int .i64 s.z) := Cel.cell (t := 47) h 2
theorem BC.c3 (h : BC w g s) : w.cell? ⟨g, 3, none⟩ = some (.int .i64 s.v) := Cel.cell (t := 47) h 3
theorem BC.c4 (h : BC w g s) : w.cell? ⟨g, 4, none⟩ = some (.int .i64 s.t) := Cel.cell (t := 47) h 4
theorem BC.free (h : BC w g s) (i : Nat) : w.frozen? ⟨g, i, none⟩ = false := Cel.free (t := 47) h i
theorem BC.lev (h : BC w g s) (x : Int) : BC (w.setCell ⟨g, 3, none⟩ (.int .i64 x)) g ⟨s.r, s.z, x, s.t⟩ := Cel.put (t := 47) h 3 _
theorem BC.tim (h : BC w g s) (x : Int) : BC (w.setCell ⟨g, 4, none⟩ (.int .i64 x)) g ⟨s.r, s.z, s.v, x⟩ := Cel.put (t := 47) h 4 _
theorem BC.only (h : BC w g s) (k : Only S w w') (hg : g ∉ S) : BC w' g s := Cel.only (t := 47) h k hg
theorem BC.draws (h : BC w g s) (n : Nat) : BC (w.drewN n) g s := h
theorem BW.only (h : BW w g s) (k : Only S w w') (hg : g ∉ S) : BW w' g s := ⟨h.cel.only k hg, h.ok⟩
theorem BW.below (h : BW w g s) (k : Below w.heap.size w w') : BW w' g s := h.only (Only.of_below (S := []) k) (by simp)
theorem BW.lt (h : BW w g s) : g < w.heap.size := Cel.lt (t := 47) h.cel
theorem BW.draws (h : BW w g s) (n : Nat) : BW (w.drewN n) g s := ⟨h.cel, h.ok⟩
end

/-! ### clamp, New, works -/
set_option maxHeartbeats 400000 in
theorem bclamp_any (n : Int) (w : World) : Calls Try.prog 17 #[.int .i64 n] w fun e w' => e = .returned (.int .i64 (cl n)) ∧ w = w' := by
  obtain ⟨V, hV⟩ : ∃ V, V = cl n := ⟨_, rfl⟩
  obtain ⟨M, hM⟩ : ∃ M, M = max n 0 := ⟨_, rfl⟩
  have m1 : max n 0 = M := hM.symm
  have m1' : (if n < 0 then (0 : Int) else n) = M := by split <;> omega
  have hVM : V = min M 2147483648 := by rw [hV, hM]; rfl
  have m2 : min M 2147483648 = V := hVM.symm
  have m2' : (if 2147483648 < M then (2147483648 : Int) else M) = V := by split <;> omega
  rw [← hV]
  clear hVM hM hV
  go_enter Try.func17, Try.ntmps17
  go_wp2
  go_ret
  exact ⟨rfl, rfl⟩
set_option maxHeartbeats 1000000 in
theorem bnew_any (r z : Int) (w : World) :
    Calls Try.prog 8 #[.int .i64 r, .int .i64 z] w fun e w' => e = .returned (.pointer (some ⟨w.heap.size, 0, none⟩)) ∧ BW w' w.heap.size (bs0 r z) ∧ Below w.heap.size w w' := by
  have x1 := fun W => bclamp_any r W
  have x2 := fun W => bclamp_any z W
  have hk := bs0_ok r z
  have h0 : bs0 r z = ⟨cl r, cl z, cl z, 0⟩ := rfl
  have y2 := cl_in z
  have e2 : cl (cl z) = cl z := cl_of y2.1 y2.2
  have x3 := fun W => bclamp_any (cl z) W
  obtain ⟨R, hR⟩ : ∃ R, R = cl r := ⟨_, rfl⟩
  obtain ⟨Z, hZ⟩ : ∃ Z, Z = cl z := ⟨_, rfl⟩
  rw [h0, ← hR, ← hZ] at hk ⊢
  rw [← hR] at x1
  rw [← hZ] at x2
  have hF : BW (w.alloc (.cells #[.bool true, .int .i64 R, .int .i64 Z, .int .i64 Z, .int .i64 0] 47)) w.heap.size ⟨R, Z, Z, 0⟩ := ⟨Cel.new _ _ _, hk⟩
  have HF := Lib.hid hF
  clear hk hF hR hZ h0 y2 e2 x3
  go_enter Try.func8, Try.ntmps8
  go_wp2_with fail
  refine (x2 _).mono ?_
  rintro e w1 ⟨rfl, rfl⟩
  go_wp2_with fail
  refine (x1 _).mono ?_
  rintro e w1 ⟨rfl, rfl⟩
  go_wp2
  go_ret
  exact ⟨rfl, HF.out, bel_new _ _⟩
set_option maxHeartbeats 400000 in
theorem bworks_any (w : World) (g : Nat) (s : BS) (h : BC w g s) :
    Calls Try.prog 21 #[.pointer (some ⟨g, 0, none⟩)] w fun e w' => e = .returned (.bool true) ∧ w = w' := by
  have c0 := h.c0
  clear h
  go_enter Try.func21, Try.ntmps21
  go_wp2
  go_ret
  exact ⟨rfl, rfl⟩
/-- a nil pointer, a bucket that New did not return -/
def Idle (w : World) (p : Value) : Prop := p = .pointer none ∨ ∃ g, p = .pointer (some ⟨g, 0, none⟩) ∧ w.cell? ⟨g, 0, none⟩ = some (.bool false)
set_option maxHeartbeats 400000 in
theorem bworks_idle (w : World) (p : Value) (h : Idle w p) :
    Calls Try.prog 21 #[p] w fun e w' => e = .returned (.bool false) ∧ w = w' := by
  rcases h with rfl | ⟨g, rfl, c0⟩
  · go_enter Try.func21, Try.ntmps21
    go_wp2
    go_ret
    exact ⟨rfl, rfl⟩
  · go_enter Try.func21, Try.ntmps21
    go_wp2
    go_ret
    exact ⟨rfl, rfl⟩

/-! ### wait -/
set_option maxHeartbeats 2000000 in
theorem wait_any (n : Int) (w : World) (g : Nat) (s : BS) (h : BW w g s) (h0 : 0 ≤ n) (h1 : n ≤ 2147483648) :
    Calls Try.prog 24 #[.pointer (some ⟨g, 0, none⟩), .int .i64 n] w fun e w' => e = .returned (.tuple #[.int .i64 (wt s n).1, .bool (wt s n).2]) ∧ ∃ m, w' = w.drewN m := by
  obtain ⟨hc, ok⟩ := h
  obtain ⟨r, z, v, t⟩ := s
  obtain ⟨k1, k2, k3, k4, k5, k6, k7⟩ := ok
  have c1 := hc.c1
  have c3 := hc.c3
  dsimp only at k1 k2 k3 k4 k5 k6 k7 c1 c3
  clear hc
  by_cases hv : n ≤ v
  · have e : wt ⟨r, z, v, t⟩ n = (0, true) := by unfold wt; rw [if_pos hv]
    rw [e]
    clear e
    go_enter Try.func24, Try.ntmps24
    go_wp2
    go_ret2
    exact ⟨rfl, 0, rfl⟩
  · by_cases hr : r = 0
    · have e : wt ⟨r, z, v, t⟩ n = (0, false) := by unfold wt; rw [if_neg hv, if_pos hr]
      rw [e]
      subst hr
      clear e
      go_enter Try.func24, Try.ntmps24
      go_wp2
      go_ret2
      exact ⟨rfl, 0, rfl⟩
    · have e : wt ⟨r, z, v, t⟩ n = ((n - v + r - 1) / r, true) := by unfold wt; rw [if_neg hv, if_neg hr]
      rw [e]
      have hq := ceil_in (r := r) (g := n - v) (by omega) (by omega)
      have td : (n - v + r - 1).tdiv r = (n - v + r - 1) / r := Int.tdiv_eq_ediv_of_nonneg (by omega)
      obtain ⟨Q, hQ⟩ : ∃ Q, Q = (n - v + r - 1) / r := ⟨_, rfl⟩
      obtain ⟨F, hF⟩ : ∃ F, F = n - v + r - 1 := ⟨_, rfl⟩
      have d1 : F / r = Q := by rw [hQ, hF]
      have d2 : F.tdiv r = Q := by rw [hQ, hF, td]
      rw [← hQ] at hq ⊢
      obtain ⟨D, hD⟩ : ∃ D, D = n - v := ⟨_, rfl⟩
      obtain ⟨E, hE⟩ : ∃ E, E = D + r := ⟨_, rfl⟩
      have s1 : n - v = D := hD.symm
      have s2 : D + r = E := hE.symm
      have s3 : E - 1 = F := by omega
      have b1 : wrap64 D = D := wr64 (by omega) (by omega)
      have b2 : wrap64 E = E := wr64 (by omega) (by omega)
      have b3 : wrap64 F = F := wr64 (by omega) (by omega)
      have b4 : wrap64 Q = Q := wr64 (by omega) (by omega)
      have z0 : (r == 0) = false := by simpa using hr
      have B1 := Lib.hid b1
      clear e td hQ hF hD hE hq k1 k2 k3 k4 k5 k6 k7 h0 h1
      go_enter Try.func24, Try.ntmps24
      go_wp2_with fail
      go_quiet (fail)
      go_wp2
      go_ret2
      exact ⟨by show Ending.returned (.tuple #[.int .i64 (wrap64 Q), .bool true]) = _; rw [b4], _, rfl⟩

/-! ### advance -/
set_option maxHeartbeats 4000000 in
theorem badvance_any (n : Int) (w : World) (g : Nat) (s : BS) (h : BW w g s) :
    Calls Try.prog 22 #[.pointer (some ⟨g, 0, none⟩), .int .i64 n] w fun e w' => e = .returned (.tuple #[]) ∧ BW w' g (adv s n) ∧ Only [g] w w' := by
  have hok := adv_ok h.ok n
  have hk := h.ok
  have hc := h.cel
  have c4 := hc.c4
  by_cases hn : n ≤ s.t ∨ 1099511627776 < n
  · rw [adv_no hn]
    have H := Lib.hid h
    obtain ⟨t, ht⟩ : ∃ t, t = s.t := ⟨_, rfl⟩
    rw [← ht] at c4 hn
    rcases hn with hn | hn
    · have u1 : decide (n ≤ t) = true := by simpa using hn
      clear hok hk hc h ht hn
      go_enter Try.func22, Try.ntmps22
      go_wp2
      refine bodyPost_ret (results_none rfl _ _ _) rfl ?_
      exact ⟨rfl, H.out, Only.refl _ _⟩
    · have u2 : decide (1099511627776 < n) = true := by simpa using hn
      have u3 : decide (n ≤ t) = false := by have := hk.t1; simp; omega
      clear hok hk hc h ht hn
      go_enter Try.func22, Try.ntmps22
      go_wp2
      refine bodyPost_ret (results_none rfl _ _ _) rfl ?_
      exact ⟨rfl, H.out, Only.refl _ _⟩
  · have ha : s.t < n := by omega
    have hb : n ≤ 1099511627776 := by omega
    have hc2 := hc.tim n
    have o2 := put_only w g 4 (.int .i64 n)
    obtain ⟨w2, hw2⟩ : ∃ w2, w2 = w.setCell ⟨g, 4, none⟩ (.int .i64 n) := ⟨_, rfl⟩
    rw [← hw2] at hc2 o2
    have f4 := hc.free 4
    have c2 := hc.c2
    have hkz : (⟨s.r, s.z, s.v, n⟩ : BS).Ok := ⟨hk.r0, hk.r1, hk.z1, hk.v0, hk.v1, by have := hk.t0; simp only; omega, hb⟩
    have x1 := wait_any s.z w2 g ⟨s.r, s.z, s.v, n⟩ ⟨hc2, hkz⟩ (Int.le_trans hk.v0 hk.v1) hk.z1
    have ew : wt ⟨s.r, s.z, s.v, n⟩ s.z = wt s s.z := rfl
    rw [ew] at x1
    have hfull := adv_full h.ok ha hb
    have hpart := adv_part h.ok ha hb
    obtain ⟨W, hW⟩ : ∃ W, W = wt s s.z := ⟨_, rfl⟩
    rw [← hW] at x1 hfull hpart
    obtain ⟨tk, o⟩ := W
    dsimp only at x1 hfull hpart
    have z2 := hc2.c2
    have z1 := hc2.c1
    have z3 := hc2.c3
    have g3 := hc2.free 3
    dsimp only at z1 z2 z3
    have hT0 := hk.t0
    have hT1 := hk.t1
    have hv0 := hk.v0
    have hz1 := hk.z1
    have hv1 := hk.v1
    obtain ⟨r, z, v, t⟩ := s
    dsimp only at c2 c4 hc2 x1 hfull hpart z1 z2 z3 ha hT0 hT1 hv0 hv1 hz1
    obtain ⟨D, hD⟩ : ∃ D, D = n - t := ⟨_, rfl⟩
    rw [← hD] at hfull hpart
    have s1 : n - t = D := hD.symm
    have b1 : wrap64 D = D := wr64 (by omega) (by omega)
    have u1 : decide (n ≤ t) = false := by simp; omega
    have u2 : decide (1099511627776 < n) = false := by simp; omega
    have yes : o = true ∧ tk ≤ D ∨ (o = false ∨ D < tk) := by cases o <;> simp; omega
    rcases yes with ⟨rfl, hle⟩ | hno
    · have e := hfull rfl hle
      rw [e] at hok ⊢
      have hc5 := hc2.lev z
      have o5 := only_then o2 (put_only w2 g 3 (.int .i64 z))
      have u3 : decide (tk ≤ D) = true := by simpa using hle
      have HE := Lib.hid (And.intro hok (And.intro hc5 o5))
      clear hk hc h hfull hpart e hc2 o2 hkz ew hW hD hok hc5 o5 hn ha hb hT0 hT1 hv0 hz1 hv1
      go_enter Try.func22, Try.ntmps22
      go_wp2_with fail
      rw [← hw2]
      refine x1.mono ?_
      rintro e w3 ⟨rfl, m, rfl⟩
      clear x1 hw2 c4 f4 c2
      go_wp2
      go_end0
      obtain ⟨a, b, c⟩ := HE.out
      exact ⟨rfl, ⟨b, a⟩, ⟨c.os, c.tape, c.output, c.size, c.block⟩⟩
    · obtain ⟨e, q0, q1⟩ := hpart hno
      rw [e] at hok ⊢
      have u3 : o = true → decide (tk ≤ D) = false := fun q => by
        rcases hno with hno | hno
        · rw [hno] at q; cases q
        · simp; omega
      obtain ⟨P, hP⟩ : ∃ P, P = r * D := ⟨_, rfl⟩
      rw [← hP] at hok q0 q1 ⊢
      obtain ⟨V, hV⟩ : ∃ V, V = v + P := ⟨_, rfl⟩
      rw [← hV] at hok ⊢
      have s2 : r * D = P := hP.symm
      have s3 : v + P = V := hV.symm
      have b2 : wrap64 P = P := wr64 (by omega) (by omega)
      have b3 : wrap64 V = V := wr64 (by omega) (by omega)
      have hc5 := hc2.lev V
      have o5 := only_then o2 (put_only w2 g 3 (.int .i64 V))
      have HE := Lib.hid (And.intro hok (And.intro hc5 o5))
      clear hk hc h hfull hpart e hc2 o2 hkz ew hW hD hok hc5 o5 hn ha hb hT0 hT1 hv0 hz1 hv1 hno hP hV q0 q1
      cases o with
      | true =>
        have u4 := u3 rfl
        clear u3
        go_enter Try.func22, Try.ntmps22
        go_wp2_with fail
        rw [← hw2]
        refine x1.mono ?_
        rintro e w3 ⟨rfl, m, rfl⟩
        clear x1 hw2 c4 f4 c2
        go_wp2_with fail
        go_region
        go_end0
        obtain ⟨a, b, c⟩ := HE.out
        exact ⟨rfl, ⟨b, a⟩, ⟨c.os, c.tape, c.output, c.size, c.block⟩⟩
      | false =>
        clear u3
        go_enter Try.func22, Try.ntmps22
        go_wp2_with fail
        rw [← hw2]
        refine x1.mono ?_
        rintro e w3 ⟨rfl, m, rfl⟩
        clear x1 hw2 c4 f4 c2
        go_wp2_with fail
        go_region
        go_end0
        obtain ⟨a, b, c⟩ := HE.out
        exact ⟨rfl, ⟨b, a⟩, ⟨c.os, c.tape, c.output, c.size, c.block⟩⟩
end Go.Proofs.Ytdccfiobcejngaa.Buc
