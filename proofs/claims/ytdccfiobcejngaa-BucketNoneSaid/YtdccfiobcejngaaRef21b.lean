/-
  The reference of layer 21: Take, Level, When.
-/
import Derived.Test.YtdccfiobcejngaaRef21a
namespace Go.Proofs.Ytdccfiobcejngaa.Buc
open Go.RowKit

set_option maxHeartbeats 2000000 in
theorem xtake_any (n m : Int) (w : World) (g : Nat) (s : BS) (h : XW w g s) :
    Calls Try.prog 19 #[.pointer (some ⟨g, 0, none⟩), .int .i64 n, .int .i64 m] w fun e w' => e = .returned (.bool (tkB (adv s m) n)) ∧ XW w' g (tkS (adv s m) n) ∧ Only [g] w w' := by
  have x2 := xadvance_any m w g s h
  obtain ⟨S, hS⟩ : ∃ S, S = adv s m := ⟨_, rfl⟩
  rw [← hS] at x2 ⊢
  have x3 := tkS_ok (s := S) (by rw [hS]; exact adv_ok h.ok m) n
  obtain ⟨r, z, v, t⟩ := S
  clear hS h
  by_cases hn : n < 0 ∨ v < n
  · obtain ⟨e1, e2⟩ := tk_no (s := ⟨r, z, v, t⟩) (n := n) hn
    rw [e1, e2]
    clear e1 e2 x3
    by_cases h0 : n < 0
    · clear hn
      go_enter Try.func19, Try.ntmps19
      go_wp2_with fail
      refine x2.mono ?_
      rintro e w2 ⟨rfl, h2, o2⟩
      go_wp2
      go_ret
      exact ⟨rfl, h2, o2⟩
    · have h1 : v < n := by omega
      clear hn
      go_enter Try.func19, Try.ntmps19
      go_wp2_with fail
      refine x2.mono ?_
      rintro e w2 ⟨rfl, h2, o2⟩
      have c3 := h2.cel.c2
      dsimp only at c3
      go_wp2
      go_ret
      exact ⟨rfl, h2, o2⟩
  · have h0 : ¬ n < 0 := by omega
    have h1 : ¬ v < n := by omega
    obtain ⟨e1, e2⟩ := tk_yes (s := ⟨r, z, v, t⟩) (n := n) (by omega) (by simp only; omega)
    rw [e2] at x3
    rw [e1, e2]
    dsimp only at x3 ⊢
    obtain ⟨V, hV⟩ : ∃ V, V = v - n := ⟨_, rfl⟩
    rw [← hV] at x3 ⊢
    have s1 : v - n = V := hV.symm
    have b1 : wrap64 V = V := wr64 (by have := x3.v0; simp only at this; omega) (by have := x3.v1; have := x3.z1; simp only at *; omega)
    have X3 := Lib.hid x3
    clear hn e1 e2 hV x3
    go_enter Try.func19, Try.ntmps19
    go_wp2_with fail
    refine x2.mono ?_
    rintro e w2 ⟨rfl, h2, o2⟩
    have c3 := h2.cel.c2
    have f3 := h2.cel.free 2
    have c4 := h2.cel.lev V
    have o4 := only_then o2 (put_only w2 g 2 (.int .i64 V))
    dsimp only at c3 c4
    have HE := Lib.hid (And.intro c4 o4)
    clear c4 o4 h2 o2 x2
    go_wp2
    go_ret
    exact ⟨rfl, ⟨HE.out.1, X3.out⟩, HE.out.2⟩

set_option maxHeartbeats 1000000 in
theorem xlevel_any (m : Int) (w : World) (g : Nat) (s : BS) (h : XW w g s) :
    Calls Try.prog 13 #[.pointer (some ⟨g, 0, none⟩), .int .i64 m] w fun e w' => e = .returned (.int .i64 (adv s m).v) ∧ XW w' g (adv s m) ∧ Only [g] w w' := by
  have x2 := xadvance_any m w g s h
  obtain ⟨S, hS⟩ : ∃ S, S = adv s m := ⟨_, rfl⟩
  rw [← hS] at x2 ⊢
  obtain ⟨r, z, v, t⟩ := S
  clear hS h
  go_enter Try.func13, Try.ntmps13
  go_wp2_with fail
  refine x2.mono ?_
  rintro e w2 ⟨rfl, h2, o2⟩
  have c3 := h2.cel.c2
  dsimp only at c3
  go_wp2
  go_ret
  exact ⟨rfl, h2, o2⟩

set_option maxHeartbeats 4000000 in
theorem xwhen_any (n m : Int) (w : World) (g : Nat) (s : BS) (h : XW w g s) :
    Calls Try.prog 20 #[.pointer (some ⟨g, 0, none⟩), .int .i64 n, .int .i64 m] w fun e w' => e = .returned (.tuple #[.int .i64 (wn (adv s m) n).1, .bool (wn (adv s m) n).2]) ∧ XW w' g (adv s m) ∧ Only [g] w w' := by
  have x2 := xadvance_any m w g s h
  have ok := adv_ok h.ok m
  obtain ⟨S, hS⟩ : ∃ S, S = adv s m := ⟨_, rfl⟩
  rw [← hS] at x2 ok ⊢
  obtain ⟨r, z, v, t⟩ := S
  have k1 := ok.r0
  have k2 := ok.r1
  have k3 := ok.z1
  have k4 := ok.v0
  have k6 := ok.t0
  have k7 := ok.t1
  dsimp only at k1 k2 k3 k4 k6 k7
  clear hS h
  by_cases hn : n < 0 ∨ z < n
  · have e : wn ⟨r, z, v, t⟩ n = (0, false) := by unfold wn; rw [if_pos hn]
    rw [e]
    clear e ok
    by_cases h0 : n < 0
    · clear hn
      go_enter Try.func20, Try.ntmps20
      go_wp2_with fail
      refine x2.mono ?_
      rintro e w2 ⟨rfl, h2, o2⟩
      go_wp2
      go_ret2
      exact ⟨rfl, h2, o2⟩
    · have h1 : z < n := by omega
      clear hn
      go_enter Try.func20, Try.ntmps20
      go_wp2_with fail
      refine x2.mono ?_
      rintro e w2 ⟨rfl, h2, o2⟩
      have c2 := h2.cel.c1
      dsimp only at c2
      go_wp2
      go_ret2
      exact ⟨rfl, h2, o2⟩
  have h0 : ¬ n < 0 := by omega
  have h1 : ¬ z < n := by omega
  by_cases h3 : n ≤ v
  · have e : wn ⟨r, z, v, t⟩ n = (t, true) := by unfold wn; rw [if_neg hn, if_pos h3]
    rw [e]
    clear e ok hn
    go_enter Try.func20, Try.ntmps20
    go_wp2_with fail
    refine x2.mono ?_
    rintro e w2 ⟨rfl, h2, o2⟩
    have c1 := h2.cel.c1
    have c2 := h2.cel.c2
    have c3 := h2.cel.c3
    dsimp only at c1 c2 c3
    go_wp2
    go_ret2
    exact ⟨rfl, h2, o2⟩
  by_cases h4 : r = 0
  · have e : wn ⟨r, z, v, t⟩ n = (0, false) := by unfold wn; rw [if_neg hn, if_neg h3, if_pos h4]
    rw [e]
    subst h4
    clear e ok hn
    go_enter Try.func20, Try.ntmps20
    go_wp2_with fail
    refine x2.mono ?_
    rintro e w2 ⟨rfl, h2, o2⟩
    have c0 := h2.cel.c0
    have c1 := h2.cel.c1
    have c2 := h2.cel.c2
    have c3 := h2.cel.c3
    dsimp only at c0 c1 c2 c3
    go_wp2
    go_ret2
    exact ⟨rfl, h2, o2⟩
  have hq := ceil_in (r := r) (g := n - v) (by omega) (by omega)
  have td : (n - v + r - 1).tdiv r = (n - v + r - 1) / r := Int.tdiv_eq_ediv_of_nonneg (by omega)
  have e : wn ⟨r, z, v, t⟩ n = if 1099511627776 < t + (n - v + r - 1) / r then (0, false) else (t + (n - v + r - 1) / r, true) := by unfold wn; rw [if_neg hn, if_neg h3, if_neg h4]
  rw [e]
  obtain ⟨Q, hQ⟩ : ∃ Q, Q = (n - v + r - 1) / r := ⟨_, rfl⟩
  obtain ⟨F, hF⟩ : ∃ F, F = n - v + r - 1 := ⟨_, rfl⟩
  have d1 : F / r = Q := by rw [hQ, hF]
  have d2 : F.tdiv r = Q := by rw [hQ, hF, td]
  rw [← hQ] at hq ⊢
  obtain ⟨D, hD⟩ : ∃ D, D = n - v := ⟨_, rfl⟩
  obtain ⟨E, hE⟩ : ∃ E, E = D + r := ⟨_, rfl⟩
  obtain ⟨T, hT⟩ : ∃ T, T = t + Q := ⟨_, rfl⟩
  rw [← hT]
  have s1 : n - v = D := hD.symm
  have s2 : D + r = E := hE.symm
  have s3 : E - 1 = F := by omega
  have s4 : t + Q = T := hT.symm
  have b1 : wrap64 D = D := wr64 (by omega) (by omega)
  have b2 : wrap64 E = E := wr64 (by omega) (by omega)
  have b3 : wrap64 F = F := wr64 (by omega) (by omega)
  have b4 : wrap64 Q = Q := wr64 (by omega) (by omega)
  have b5 : wrap64 T = T := wr64 (by omega) (by omega)
  have z0 : (r == 0) = false := by simpa using h4
  by_cases h5 : 1099511627776 < T
  · rw [if_pos h5]
    clear e td hQ hF hD hE hq k1 k2 k3 k4 k6 k7 hT ok hn
    go_enter Try.func20, Try.ntmps20
    go_wp2_with fail
    refine x2.mono ?_
    rintro e w2 ⟨rfl, h2, o2⟩
    have c0 := h2.cel.c0
    have c1 := h2.cel.c1
    have c2 := h2.cel.c2
    have c3 := h2.cel.c3
    dsimp only at c0 c1 c2 c3
    go_wp2_with fail
    go_quiet (fail)
    go_wp2
    go_ret2
    exact ⟨rfl, h2.draws _, o2.draws _⟩
  · rw [if_neg h5]
    clear e td hQ hF hD hE hq k1 k2 k3 k4 k6 k7 hT ok hn
    go_enter Try.func20, Try.ntmps20
    go_wp2_with fail
    refine x2.mono ?_
    rintro e w2 ⟨rfl, h2, o2⟩
    have c0 := h2.cel.c0
    have c1 := h2.cel.c1
    have c2 := h2.cel.c2
    have c3 := h2.cel.c3
    dsimp only at c0 c1 c2 c3
    go_wp2_with fail
    go_quiet (fail)
    go_wp2
    go_ret2
    exact ⟨by show Ending.returned (.tuple #[.int .i64 (wrap64 T), .bool true]) = _; rw [b5], h2.draws _, o2.draws _⟩
end Go.Proofs.Ytdccfiobcejngaa.Buc
