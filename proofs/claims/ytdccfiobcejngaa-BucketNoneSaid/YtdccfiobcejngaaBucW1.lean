/-
  Package bucket: Take, Level, When, Clone; of nil and of zero values.
-/
import Derived.Test.YtdccfiobcejngaaBucW0
namespace Go.Proofs.Ytdccfiobcejngaa.Buc
open Go.RowKit

set_option maxHeartbeats 2000000 in
theorem btake_any (n m : Int) (w : World) (g : Nat) (s : BS) (h : BW w g s) :
    Calls Try.prog 14 #[.pointer (some ⟨g, 0, none⟩), .int .i64 n, .int .i64 m] w fun e w' => e = .returned (.bool (tkB (adv s m) n)) ∧ BW w' g (tkS (adv s m) n) ∧ Only [g] w w' := by
  have x1 := bworks_any w g s h.cel
  have x2 := badvance_any m w g s h
  obtain ⟨S, hS⟩ : ∃ S, S = adv s m := ⟨_, rfl⟩
  rw [← hS] at x2 ⊢
  have x3 := tkS_ok (s := S) (by rw [hS]; exact adv_ok h.ok m) n
  obtain ⟨r, z, v, t⟩ := S
  clear hS h
  by_cases hn : n < 0 ∨ v < n
  · obtain ⟨e1, e2⟩ := tk_no (s := ⟨r, z, v, t⟩) (n := n) hn
    rw [e1, e2]
    clear e1 e2 x3
    by_cases h0 : n < 0
    · clear hn
      go_enter Try.func14, Try.ntmps14
      go_wp2_with fail
      refine x1.mono ?_
      rintro e w1 ⟨rfl, rfl⟩
      go_wp2_with fail
      refine x2.mono ?_
      rintro e w2 ⟨rfl, h2, o2⟩
      go_wp2
      go_ret
      exact ⟨rfl, h2, o2⟩
    · have h1 : v < n := by omega
      clear hn
      go_enter Try.func14, Try.ntmps14
      go_wp2_with fail
      refine x1.mono ?_
      rintro e w1 ⟨rfl, rfl⟩
      go_wp2_with fail
      refine x2.mono ?_
      rintro e w2 ⟨rfl, h2, o2⟩
      have c3 := h2.cel.c3
      dsimp only at c3
      go_wp2
      go_ret
      exact ⟨rfl, h2, o2⟩
  · have h0 : ¬ n < 0 := by omega
    have h1 : ¬ v < n := by omega
    obtain ⟨e1, e2⟩ := tk_yes (s := ⟨r, z, v, t⟩) (n := n) (by omega) (by simp only; omega)
    rw [e2] at x3
    rw [e1, e2]
    dsimp only at x3 ⊢
    obtain ⟨V, hV⟩ : ∃ V, V = v - n := ⟨_, rfl⟩
    rw [← hV] at x3 ⊢
    have s1 : v - n = V := hV.symm
    have b1 : wrap64 V = V := wr64 (by have := x3.v0; simp only at this; omega) (by have := x3.v1; have := x3.z1; simp only at *; omega)
    have X3 := Lib.hid x3
    clear hn e1 e2 hV x3
    go_enter Try.func14, Try.ntmps14
    go_wp2_with fail
    refine x1.mono ?_
    rintro e w1 ⟨rfl, rfl⟩
    go_wp2_with fail
    refine x2.mono ?_
    rintro e w2 ⟨rfl, h2, o2⟩
    have c3 := h2.cel.c3
    have f3 := h2.cel.free 3
    have c4 := h2.cel.lev V
    have o4 := only_then o2 (put_only w2 g 3 (.int .i64 V))
    dsimp only at c3 c4
    have HE := Lib.hid (And.intro c4 o4)
    clear c4 o4 h2 o2 x1 x2
    go_wp2
    go_ret
    exact ⟨rfl, ⟨HE.out.1, X3.out⟩, HE.out.2⟩

set_option maxHeartbeats 1000000 in
theorem blevel_any (m : Int) (w : World) (g : Nat) (s : BS) (h : BW w g s) :
    Calls Try.prog 12 #[.pointer (some ⟨g, 0, none⟩), .int .i64 m] w fun e w' => e = .returned (.int .i64 (adv s m).v) ∧ BW w' g (adv s m) ∧ Only [g] w w' := by
  have x1 := bworks_any w g s h.cel
  have x2 := badvance_any m w g s h
  obtain ⟨S, hS⟩ : ∃ S, S = adv s m := ⟨_, rfl⟩
  rw [← hS] at x2 ⊢
  obtain ⟨r, z, v, t⟩ := S
  clear hS h
  go_enter Try.func12, Try.ntmps12
  go_wp2_with fail
  refine x1.mono ?_
  rintro e w1 ⟨rfl, rfl⟩
  go_wp2_with fail
  refine x2.mono ?_
  rintro e w2 ⟨rfl, h2, o2⟩
  have c3 := h2.cel.c3
  dsimp only at c3
  go_wp2
  go_ret
  exact ⟨rfl, h2, o2⟩

set_option maxHeartbeats 4000000 in
theorem bwhen_any (n m : Int) (w : World) (g : Nat) (s : BS) (h : BW w g s) :
    Calls Try.prog 15 #[.pointer (some ⟨g, 0, none⟩), .int .i64 n, .int .i64 m] w fun e w' => e = .returned (.tuple #[.int .i64 (wn (adv s m) n).1, .bool (wn (adv s m) n).2]) ∧ BW w' g (adv s m) ∧ Only [g] w w' := by
  have x1 := bworks_any w g s h.cel
  have x2 := badvance_any m w g s h
  have ok := adv_ok h.ok m
  obtain ⟨S, hS⟩ : ∃ S, S = adv s m := ⟨_, rfl⟩
  rw [← hS] at x2 ok ⊢
  obtain ⟨r, z, v, t⟩ := S
  have k2 := ok.r1
  have k3 := ok.z1
  have k4 := ok.v0
  have k6 := ok.t0
  have k7 := ok.t1
  dsimp only at k2 k3 k4 k6 k7
  clear hS h
  by_cases hn : n < 0 ∨ z < n
  · have e : wn ⟨r, z, v, t⟩ n = (0, false) := by unfold wn; rw [if_pos hn]
    rw [e]
    clear e ok
    by_cases h0 : n < 0
    · clear hn
      go_enter Try.func15, Try.ntmps15
      go_wp2_with fail
      refine x1.mono ?_
      rintro e w1 ⟨rfl, rfl⟩
      go_wp2_with fail
      refine x2.mono ?_
      rintro e w2 ⟨rfl, h2, o2⟩
      go_wp2
      go_ret2
      exact ⟨rfl, h2, o2⟩
    · have h1 : z < n := by omega
      clear hn
      go_enter Try.func15, Try.ntmps15
      go_wp2_with fail
      refine x1.mono ?_
      rintro e w1 ⟨rfl, rfl⟩
      go_wp2_with fail
      refine x2.mono ?_
      rintro e w2 ⟨rfl, h2, o2⟩
      have c2 := h2.cel.c2
      dsimp only at c2
      go_wp2
      go_ret2
      exact ⟨rfl, h2, o2⟩
  · have x3 := fun W (hW : BW W g ⟨r, z, v, t⟩) => wait_any n W g ⟨r, z, v, t⟩ hW (by omega) (by omega)
    have h0 : ¬ n < 0 := by omega
    have h1 : ¬ z < n := by omega
    have e1 : wn ⟨r, z, v, t⟩ n = if (wt ⟨r, z, v, t⟩ n).2 = false ∨ 1099511627776 - t < (wt ⟨r, z, v, t⟩ n).1 then (0, false) else (t + (wt ⟨r, z, v, t⟩ n).1, true) := by
      unfold wn wt
      rw [if_neg hn]
      dsimp only
      by_cases h3 : n ≤ v
      · rw [if_pos h3, if_pos h3]
        dsimp only
        rw [if_neg (by simp; omega)]
        simp
      · rw [if_neg h3, if_neg h3]
        by_cases h4 : r = 0
        · rw [if_pos h4, if_pos h4]
          simp
        · rw [if_neg h4, if_neg h4]
          dsimp only
          by_cases h5 : 1099511627776 < t + (n - v + r - 1) / r
          · rw [if_pos h5, if_pos (.inr (by omega))]
          · rw [if_neg h5, if_neg (by simp; omega)]
    have hwb : -1 ≤ (wt ⟨r, z, v, t⟩ n).1 ∧ (wt ⟨r, z, v, t⟩ n).1 ≤ 2147483648 := by
      unfold wt
      split
      · simp
      · split
        · simp
        · rename_i h3 h4
          have hr0 := ok.r0
          dsimp only at h3 h4 hr0 ⊢
          have := ceil_in (r := r) (g := n - v) (by omega) (by omega)
          omega
    obtain ⟨W, hW⟩ : ∃ W, W = wt ⟨r, z, v, t⟩ n := ⟨_, rfl⟩
    rw [← hW] at x3 e1 hwb
    rw [e1]
    obtain ⟨tk, o⟩ := W
    dsimp only at x3 hwb ⊢
    obtain ⟨L, hL⟩ : ∃ L, L = 1099511627776 - t := ⟨_, rfl⟩
    rw [← hL]
    have s1 : 1099511627776 - t = L := hL.symm
    have b1 : wrap64 L = L := wr64 (by omega) (by omega)
    cases o with
    | false =>
      rw [if_pos (.inl rfl)]
      clear hW e1 hn ok hL hwb k2 k3 k4 k6 k7
      go_enter Try.func15, Try.ntmps15
      go_wp2_with fail
      refine x1.mono ?_
      rintro e w1 ⟨rfl, rfl⟩
      go_wp2_with fail
      refine x2.mono ?_
      rintro e w2 ⟨rfl, h2, o2⟩
      have c2 := h2.cel.c2
      have c4 := h2.cel.c4
      dsimp only at c2 c4
      go_wp2_with fail
      refine (x3 _ h2).mono ?_
      rintro e w3 ⟨rfl, q, rfl⟩
      go_wp2
      go_ret2
      exact ⟨rfl, h2.draws q, o2.draws q⟩
    | true =>
      by_cases h5 : L < tk
      · rw [if_pos (.inr h5)]
        clear hW e1 hn ok hL hwb k2 k3 k4 k6 k7
        go_enter Try.func15, Try.ntmps15
        go_wp2_with fail
        refine x1.mono ?_
        rintro e w1 ⟨rfl, rfl⟩
        go_wp2_with fail
        refine x2.mono ?_
        rintro e w2 ⟨rfl, h2, o2⟩
        have c2 := h2.cel.c2
        have c4 := h2.cel.c4
        dsimp only at c2 c4
        go_wp2_with fail
        refine (x3 _ h2).mono ?_
        rintro e w3 ⟨rfl, q, rfl⟩
        go_wp2
        go_ret2
        exact ⟨rfl, h2.draws q, o2.draws q⟩
      · rw [if_neg (by simp; omega)]
        obtain ⟨T, hT⟩ : ∃ T, T = t + tk := ⟨_, rfl⟩
        rw [← hT]
        have s2 : t + tk = T := hT.symm
        have b2 : wrap64 T = T := wr64 (by omega) (by omega)
        clear hW e1 hn ok hL hwb k2 k3 k4 k6 k7 hT
        go_enter Try.func15, Try.ntmps15
        go_wp2_with fail
        refine x1.mono ?_
        rintro e w1 ⟨rfl, rfl⟩
        go_wp2_with fail
        refine x2.mono ?_
        rintro e w2 ⟨rfl, h2, o2⟩
        have c2 := h2.cel.c2
        have c4 := h2.cel.c4
        dsimp only at c2 c4
        go_wp2_with fail
        refine (x3 _ h2).mono ?_
        rintro e w3 ⟨rfl, q, rfl⟩
        go_wp2
        go_ret2
        exact ⟨by show Ending.returned (.tuple #[.int .i64 (wrap64 T), .bool true]) = _; rw [b2], h2.draws q, o2.draws q⟩

set_option maxHeartbeats 1000000 in
theorem bclone_any (w : World) (g : Nat) (s : BS) (h : BW w g s) :
    Calls Try.prog 16 #[.pointer (some ⟨g, 0, none⟩)] w fun e w' => e = .returned (.pointer (some ⟨w.heap.size, 0, none⟩)) ∧ BW w' w.heap.size s ∧ Below w.heap.size w w' := by
  have x1 := bworks_any w g s h.cel
  have c0 := h.cel.c0
  have c1 := h.cel.c1
  have c2 := h.cel.c2
  have c3 := h.cel.c3
  have c4 := h.cel.c4
  have HF : Hid (BW (w.alloc (.cells #[.bool true, .int .i64 s.r, .int .i64 s.z, .int .i64 s.v, .int .i64 s.t] 47)) w.heap.size s) := Lib.hid ⟨Cel.new _ _ _, h.ok⟩
  obtain ⟨r, z, v, t⟩ := s
  dsimp only at c1 c2 c3 c4 HF
  clear h
  go_enter Try.func16, Try.ntmps16
  go_wp2_with fail
  refine x1.mono ?_
  rintro e w1 ⟨rfl, rfl⟩
  go_wp2
  go_ret
  exact ⟨rfl, HF.out, bel_new _ _⟩

/-! ### nil and zero values -/
set_option maxHeartbeats 400000 in
theorem btake_idle (n m : Int) (w : World) (p : Value) (h : Idle w p) :
    Calls Try.prog 14 #[p, .int .i64 n, .int .i64 m] w fun e w' => e = .returned (.bool false) ∧ w = w' := by
  have x1 := bworks_idle w p h
  clear h
  go_enter Try.func14, Try.ntmps14
  go_wp2_with fail
  refine x1.mono ?_
  rintro e w1 ⟨rfl, rfl⟩
  go_wp2
  go_ret
  exact ⟨rfl, rfl⟩
set_option maxHeartbeats 400000 in
theorem blevel_idle (m : Int) (w : World) (p : Value) (h : Idle w p) :
    Calls Try.prog 12 #[p, .int .i64 m] w fun e w' => e = .returned (.int .i64 0) ∧ w = w' := by
  have x1 := bworks_idle w p h
  clear h
  go_enter Try.func12, Try.ntmps12
  go_wp2_with fail
  refine x1.mono ?_
  rintro e w1 ⟨rfl, rfl⟩
  go_wp2
  go_ret
  exact ⟨rfl, rfl⟩
set_option maxHeartbeats 400000 in
theorem bwhen_idle (n m : Int) (w : World) (p : Value) (h : Idle w p) :
    Calls Try.prog 15 #[p, .int .i64 n, .int .i64 m] w fun e w' => e = .returned (.tuple #[.int .i64 0, .bool false]) ∧ w = w' := by
  have x1 := bworks_idle w p h
  clear h
  go_enter Try.func15, Try.ntmps15
  go_wp2_with fail
  refine x1.mono ?_
  rintro e w1 ⟨rfl, rfl⟩
  go_wp2
  go_ret2
  exact ⟨rfl, rfl⟩
set_option maxHeartbeats 400000 in
theorem bclone_idle (w : World) (p : Value) (h : Idle w p) :
    Calls Try.prog 16 #[p] w fun e w' => e = .returned (.pointer none) ∧ w = w' := by
  have x1 := bworks_idle w p h
  clear h
  go_enter Try.func16, Try.ntmps16
  go_wp2_with fail
  refine x1.mono ?_
  rintro e w1 ⟨rfl, rfl⟩
  go_wp2
  go_ret
  exact ⟨rfl, rfl⟩
end Go.Proofs.Ytdccfiobcejngaa.Buc
