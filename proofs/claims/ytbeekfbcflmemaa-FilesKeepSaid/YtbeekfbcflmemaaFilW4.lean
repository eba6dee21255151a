/-
  Package files: Clone.
-/
import Derived.Test.YtbeekfbcflmemaaFilW3
namespace Go.Proofs.Ytbeekfbcflmemaa.Fil
open Go.RowKit Go.Proofs.Ytbeekfbcflmemaa.Row
open Lst (Qb Dt)

theorem Rg.mp_ne {P : Program} {k : TypeId} {w : World} {b r b2 : Nat} {Q Q2 : List (Nm × V)} {gn : Nm → Bool} (h : Rg P k w b r Q gn) (k2 : Mp P k w b2 Q2) : b2 ≠ r := by
  intro e
  subst e
  obtain ⟨_, _, ⟨es, clock, since, seen, c0, hh, F, hs, hD, hr', rest⟩, _⟩ := h
  obtain ⟨es2, clock2, hh2, _⟩ := k2
  rw [hr'] at hh2
  cases hh2
theorem clp_id {n m : Nat} (h : n ≤ m) : clp (n : Int) m = n := by unfold clp; omega
theorem lst_step {Q : List T} (hs : Srt Q) {gn : Nm → Bool} {x : Nm} {q : Qb} (hm : (x, q) ∈ Q) {Q2 : List T} (h : lst Q2 = lst (gl gn Q)) (A : Option Addr) (c : Nat) : lst (put x ⟨q.l, A, c⟩ Q2) = lst (gl (fun z => gn z || z == x) Q) := by
  rw [gl_step hs hm, lst_eq, lst_eq, ← put_on, ← put_on]
  show put x q.l (lst Q2) = put x q.l (lst (gl gn Q))
  rw [h]

set_option maxHeartbeats 2000000 in
theorem copy_any (w : World) (g b : Nat) (s : St) (h : FW w g b s) :
    Calls Try.prog 14 #[.pointer (some ⟨g, 0, none⟩)] w fun e w' => ∃ g2 b2, e = .returned (.pointer (some ⟨g2, 0, none⟩)) ∧ FW w' g2 b2 s ∧ w.heap.size ≤ g2 ∧ w.heap.size ≤ b2 ∧ Below w.heap.size w w' := by
  obtain ⟨Q, h1, h2, h3⟩ := h.ex
  have hsr := h.srt h1
  have hsv : Srt (vs Q) := on_srt qv hsr
  have hok := h.ok
  have hwk := works_any w g true _ _ _ h.cel
  have c1 := h.cel.cell 1; simp at c1
  have c2 := h.cel.cell 2; simp at c2
  have c3 := h.cel.cell 3; simp at c3
  have hgl : g < w.heap.size := h.lt.1
  have hbl : b < w.heap.size := h.lt.2
  obtain ⟨M, hM⟩ : ∃ M, M = s.most := ⟨_, rfl⟩
  obtain ⟨rm, hrm⟩ : ∃ rm, rm = s.room := ⟨_, rfl⟩
  have hs0 : s0 M rm = ⟨s.most, s.room, []⟩ := by unfold s0; rw [hM, hrm, clp_id hok.m, clp_id hok.r]
  have hQ : Q.length ≤ 256 := by rw [FW_len h1]; have := hok.cnt; have := hok.m; omega
  have hxs : ∀ p ∈ Q, p.1.length ≤ maxLen := fun p hp => by
    have := hok.ns (p.1, p.2.l) (by rw [← h1]; exact List.mem_map.2 ⟨p, hp, rfl⟩)
    have h8 : p.1.length ≤ 64 := okN_le this
    unfold maxLen; omega
  have hqs : ∀ p ∈ Q, p.2.l.length ≤ 140737488355328 := fun p hp => by
    have h5 := sz_del (n := p.1) hok.srt
    have hg : get p.1 Q = some p.2 := hsr.get hp
    rw [← h1, get_lst, hg, h1] at h5
    simp only [Option.map_some, Option.getD_some] at h5
    have := hok.sum; have := hok.r; omega
  rw [← hM] at c1
  rw [← hrm] at c2
  have hs0h := Lib.hid hs0
  have hxsh := Lib.hid hxs
  have hqsh := Lib.hid hqs
  have h3h := Lib.hid h3
  clear h hM hrm hs0 hxs hqs h3
  go_enter Try.func14, Try.ntmps14
  go_wp2_with (go_at_call 24; refine hwk.mono ?_; rintro e w' ⟨rfl, rfl⟩)
  refine wp_region_held_drew (S := (fun w' => w'.cell? ⟨g, 1, none⟩ = some (I M) ∧ w'.cell? ⟨g, 2, none⟩ = some (I rm))) (by kernel_rfl) (⟨c1, c2⟩) (fun hHeld => ?_)
  refine wpAnyH_here 0 (v := ?_) rfl (by kernel_rfl) (by kernel_rfl) (by kernel_rfl) (fun _ _ _ h => h) (Or.inl ⟨by rfl, ?_⟩) hHeld ?_
  rotate_left
  · intro w hSw; (try dsimp only at hSw); go_simp; all_goals (with_reducible rfl)
  try simp only [Act.put, List.setIfInBounds_toArray, List.set_cons_zero, List.set_cons_succ]
  refine wpAnyH_here 1 (v := ?_) rfl (by kernel_rfl) (by kernel_rfl) (by kernel_rfl) (fun _ _ _ h => h) (Or.inl ⟨by rfl, ?_⟩) hHeld ?_
  rotate_left
  · intro w hSw; (try dsimp only at hSw); go_simp; all_goals (with_reducible rfl)
  try simp only [Act.put, List.setIfInBounds_toArray, List.set_cons_zero, List.set_cons_succ]
  refine wpAnyH_here 2 (v := ?_) rfl (by kernel_rfl) (by kernel_rfl) (by kernel_rfl) (fun _ _ _ h => h) (Or.inl ⟨by rfl, ?_⟩) hHeld ?_
  rotate_left
  · intro w hSw; (try dsimp only at hSw); go_simp; all_goals (with_reducible rfl)
  try simp only [Act.put, List.setIfInBounds_toArray, List.set_cons_zero, List.set_cons_succ]
  refine wpAnyH_here 3 (v := ?_) rfl (by kernel_rfl) (by kernel_rfl) (by kernel_rfl) (fun _ _ _ h => h) (Or.inl ⟨by rfl, ?_⟩) hHeld ?_
  rotate_left
  · intro w hSw; (try dsimp only at hSw); go_simp; all_goals (with_reducible rfl)
  try simp only [Act.put, List.setIfInBounds_toArray, List.set_cons_zero, List.set_cons_succ]
  refine wpAnyH_here 4 (v := ?_) rfl (by kernel_rfl) (by kernel_rfl) (by kernel_rfl) (fun _ _ _ h => h) (Or.inl ⟨by rfl, ?_⟩) hHeld ?_
  rotate_left
  · intro w hSw; (try dsimp only at hSw); go_simp; all_goals (with_reducible rfl)
  try simp only [Act.put, List.setIfInBounds_toArray, List.set_cons_zero, List.set_cons_succ]
  refine wpAnyH_here 5 (v := ?_) rfl (by kernel_rfl) (by kernel_rfl) (by kernel_rfl) (fun _ _ _ h => h) (Or.inl ⟨by rfl, ?_⟩) hHeld ?_
  rotate_left
  · intro w hSw; (try dsimp only at hSw); go_simp; all_goals (with_reducible rfl)
  try simp only [Act.put, List.setIfInBounds_toArray, List.set_cons_zero, List.set_cons_succ]
  refine wpAnyH_here 6 (v := ?_) rfl (by kernel_rfl) (by kernel_rfl) (by kernel_rfl) (fun _ _ _ h => h) (Or.inl ⟨by rfl, ?_⟩) hHeld ?_
  rotate_left
  · intro w hSw; (try dsimp only at hSw); go_simp; all_goals (with_reducible rfl)
  try simp only [Act.put, List.setIfInBounds_toArray, List.set_cons_zero, List.set_cons_succ]
  refine wpAnyH_here 7 (v := ?_) rfl (by kernel_rfl) (by kernel_rfl) (by kernel_rfl) (fun _ _ _ h => h) (Or.inl ⟨by rfl, ?_⟩) hHeld ?_
  rotate_left
  · intro w hSw; (try dsimp only at hSw); go_simp; all_goals (with_reducible rfl)
  try simp only [Act.put, List.setIfInBounds_toArray, List.set_cons_zero, List.set_cons_succ]
  refine wpAnyH_alone 8 rfl (by kernel_rfl) (fun K hK => ?_)
  go_simp
  (go_at_call 8; refine (new_any M rm _).mono ?_; rintro e w1 ⟨g2, b2, rfl, hf2', hg2', hb2', hbe'⟩; have hbe : Below w.heap.size w w1 := (drewN_below (B := w.heap.size) w 1).trans hbe'; have k1 := (hbe.cell (p := ⟨g, 1, none⟩) hgl).trans c1; have k2 := (hbe.cell (p := ⟨g, 2, none⟩) hgl).trans c2)
  refine hK.out _ _ (⟨k1, k2⟩) (fun hHeld => ?_)
  clear hK K
  try simp only [Act.put, List.setIfInBounds_toArray, List.set_cons_zero, List.set_cons_succ]
  refine wpAnyH_here 9 (v := ?_) rfl (by kernel_rfl) (by kernel_rfl) (by kernel_rfl) (fun _ _ _ h => h) (Or.inl ⟨by rfl, ?_⟩) hHeld ?_
  rotate_left
  · intro w hSw; (try dsimp only at hSw); go_simp; all_goals (with_reducible rfl)
  try simp only [Act.put, List.setIfInBounds_toArray, List.set_cons_zero, List.set_cons_succ]
  refine wpAnyH_done (by kernel_rfl) ?_ _
  have hmb := h2.below hbe
  have c3' : w1.cell? ⟨g, 3, none⟩ = some (.map (some b)) := (hbe.cell (p := ⟨g, 3, none⟩) hgl).trans c3
  obtain ⟨Q20, k1a, k1b, k1c⟩ := hf2'.ex
  have hs0 := hs0h.out
  have hxs := hxsh.out
  have hqs := hqsh.out
  have h3 := h3h.out
  have hQ20 : Q20 = [] := by rw [hs0] at k1a; simpa [lst] using k1a
  subst hQ20
  have hg2 : w.heap.size ≤ g2 := by simpa using hg2'
  have hbb2 : w.heap.size ≤ b2 := by simpa using hb2'
  have hcl2 : Cel w1 g2 56 #[.bool true, I s.most, I s.room, .map (some b2)] := by have := hf2'.cel; rw [hs0] at this; exact this
  have hne : g2 ≠ b2 := k1b.ne hcl2
  clear c1 c2 k1 k2 hHeld hwk hg2' hb2' hs0 k1a hbe' hf2' k1c
  go_wp2_with (at_range; refine wpList_range rfl hmb hsv Try.underlying9 map_ty _ rfl rfl ?_; intro w0 hrg0 hbel0)
  go_frame
  obtain ⟨r, hr⟩ : ∃ r, r = w1.heap.size := ⟨_, rfl⟩
  rw [← hr] at hrg0 ⊢
  have hrl : w.heap.size ≤ r := by rw [hr]; exact hbe.size
  clear hr
  go_loopw [4] (fun _ wr => ∃ (gn : Nm → Bool) (Q2 : List T), Hid (lst Q2 = lst (gl gn Q)) ∧ Mp Try.prog 9 wr b2 (vs Q2) ∧ Hid (∀ p ∈ Q2, Dq wr p.2.l p.2.a p.2.c) ∧ Rg Try.prog 9 wr b r (vs Q) gn ∧ Hid (Cel wr g2 56 #[.bool true, I s.most, I s.room, .map (some b2)]) ∧ Below w.heap.size w wr) (fun _ wr => wr.rangeLeft b r)
  case atStart => exact ⟨_, [], Lib.hid (by rw [gl_none]), k1b.below hbel0, Lib.hid (by simp), hrg0, Lib.hid (Cel.on hcl2 hbel0), hbe.trans (hbel0.mono hbe.size)⟩
  case round =>
    obtain ⟨gn, Q2, hl2, hmp, hdq, hrg, hce, hbel⟩ := hrel
    go_wp2_with (at_next; refine wpList_next rfl hrg Try.underlying9 _ rfl rfl ?_ ?_)
    · intro hall
      have hs : lst Q2 = s.l := by
        have h2 : gl gn Q = Q := gl_all fun p hp => hall p.1 (qv p.2) (List.mem_map.2 ⟨p, hp, rfl⟩)
        rw [hl2.out, h2, h1]
      clear hall
      go_wp2
      go_ret
      exact ⟨g2, b2, rfl, ⟨hce.out, ⟨Q2, hs, hmp, hdq.out⟩, hok⟩, hg2, hbb2, hbel⟩
    · intro x y w3 hm hgx hrg1 hlt ho hen
      obtain ⟨q, hq, rfl⟩ := of_vs hm
      have hxl := hxs _ hq
      have hm7 := hqs _ hq
      obtain ⟨m, hmm⟩ : ∃ m, m = q.l.length := ⟨_, rfl⟩
      have hml : Hid (q.l.length = m) := Lib.hid hmm.symm
      have hen2 : (Instr.entry (.pointer (some ⟨r, 0, none⟩))).run Try.prog w3 = .ok (.tuple #[.string (nm x), .slice q.a m q.c]) w3 := by rw [hmm]; exact hen
      have k1 : (qv q).v = .slice q.a m q.c := by rw [hmm]; rfl
      rw [k1]
      simp only at hm7
      rw [← hmm] at hm7
      have hb3 : Below w.heap.size w w3 := hbel.trans (ho.below hbel.size (by simpa using hrl))
      have hmp3 : Mp Try.prog 9 w3 b2 (vs Q2) := hmp.only ho (by simpa using hrg.mp_ne hmp)
      have hc3 : Cel w3 g2 56 #[.bool true, I s.most, I s.room, .map (some b2)] := hce.out.only ho (by simpa using hrg.cel_ne hce.out)
      have hk13 : Kq wr w3 := .of_only ho fun y hy t' cs' hc' => by
        rw [List.mem_singleton] at hy
        subst hy
        exact absurd rfl (hrg.cel_ne hc')
      have hdt : Dt w3 w3.heap.size q.l q.a q.c := ((h3 _ hq).keep (.of_below hb3)).dt
      have k3 : w3.cell? ⟨g2, 3, none⟩ = some (.map (some b2)) := by have := hc3.cell 3; simpa using this
      have hQ2 : (vs Q2).length < maxLen := by rw [len_vs, hl2.out, ← len_vs]; have := gl_len gn Q; rw [len_vs]; simp only [lst, List.length_map]; unfold maxLen; omega
      clear hen k1 hmm hm
      go_wp2
      refine wp_region_held_drew (S := (fun w' => w'.cell? ⟨g2, 3, none⟩ = some (.map (some b2)))) (by kernel_rfl) (k3) (fun hHeld => ?_)
      refine wpAnyH_here 0 (v := ?_) rfl (by kernel_rfl) (by kernel_rfl) (by kernel_rfl) (fun _ _ _ h => h) (Or.inl ⟨by rfl, ?_⟩) hHeld ?_
      rotate_left
      · intro w hSw; (try dsimp only at hSw); go_simp; all_goals (with_reducible rfl)
      try simp only [Act.put, List.setIfInBounds_toArray, List.set_cons_zero, List.set_cons_succ]
      refine wpAnyH_here 1 (v := ?_) rfl (by kernel_rfl) (by kernel_rfl) (by kernel_rfl) (fun _ _ _ h => h) (Or.inl ⟨by rfl, ?_⟩) hHeld ?_
      rotate_left
      · intro w hSw; (try dsimp only at hSw); go_simp; all_goals (with_reducible rfl)
      try simp only [Act.put, List.setIfInBounds_toArray, List.set_cons_zero, List.set_cons_succ]
      refine wpAnyH_here 2 (v := ?_) rfl (by kernel_rfl) (by kernel_rfl) (by kernel_rfl) (fun _ _ _ h => h) (Or.inl ⟨by rfl, ?_⟩) hHeld ?_
      rotate_left
      · intro w hSw; (try dsimp only at hSw); go_simp; all_goals (with_reducible rfl)
      try simp only [Act.put, List.setIfInBounds_toArray, List.set_cons_zero, List.set_cons_succ]
      refine wpAnyH_here 3 (v := ?_) rfl (by kernel_rfl) (by kernel_rfl) (by kernel_rfl) (fun _ _ _ h => h) (Or.inl ⟨by rfl, ?_⟩) hHeld ?_
      rotate_left
      · intro w hSw; (try dsimp only at hSw); go_simp; all_goals (with_reducible rfl)
      try simp only [Act.put, List.setIfInBounds_toArray, List.set_cons_zero, List.set_cons_succ]
      refine wpAnyH_here 4 (v := ?_) rfl (by kernel_rfl) (by kernel_rfl) (by kernel_rfl) (fun _ _ _ h => h) (Or.inl ⟨by rfl, ?_⟩) hHeld ?_
      rotate_left
      · intro w hSw; (try dsimp only at hSw); go_simp; all_goals (with_reducible rfl)
      try simp only [Act.put, List.setIfInBounds_toArray, List.set_cons_zero, List.set_cons_succ]
      refine wpAnyH_here 5 (v := ?_) rfl (by kernel_rfl) (by kernel_rfl) (by kernel_rfl) (fun _ _ _ h => h) (Or.inl ⟨by rfl, ?_⟩) hHeld ?_
      rotate_left
      · intro w hSw; (try dsimp only at hSw); go_simp; all_goals (with_reducible rfl)
      try simp only [Act.put, List.setIfInBounds_toArray, List.set_cons_zero, List.set_cons_succ]
      refine wpAnyH_alone 6 rfl (by kernel_rfl) (fun K hK => ?_)
      go_simp
      (go_at_call 26; refine (clone_any q.l m _ q.a q.c hml (hdt.draws 1) hm7).mono ?_; rintro e W2 ⟨A2, c2, rfl, hd2, hb2'⟩; have hb2 : Below w3.heap.size w3 W2 := (drewN_below (B := w3.heap.size) w3 1).trans hb2'; have k4 := (hb2.cell (p := ⟨g2, 3, none⟩) hc3.lt).trans k3)
      refine hK.out _ _ (k4) (fun hHeld => ?_)
      clear hK K
      try simp only [Act.put, List.setIfInBounds_toArray, List.set_cons_zero, List.set_cons_succ]
      have hmp2 := hmp3.below (w' := W2) hb2
      refine wpAnyH_alone 7 rfl (by kernel_rfl) (fun K hK => ?_)
      refine step_store rfl hmp2 Try.underlying9 map_ty (.tmp 31) (.tmp 32) (.tmp 34) rfl (x := x) (z := ⟨A2, m, c2⟩) hxl hQ2 rfl rfl rfl ?_
      intro w4 hmp4 ho4
      have k5 : w4.cell? ⟨g2, 3, none⟩ = some (.map (some b2)) := (cell_only ho4 (p := ⟨g2, 3, none⟩) (Nat.lt_of_lt_of_le hc3.lt hb2.size) (by simpa using hne)).trans k4
      refine hK.out _ _ k5 (fun hHeld => ?_)
      clear hK K
      try simp only [Act.put]
      refine wpAnyH_done (by kernel_rfl) ?_ _
      have hk3 : Kq W2 w4 := .of_only ho4 fun y hy => by
        rw [List.mem_singleton] at hy
        subst hy
        exact not_mp hmp2
      have hk23 : Kq w3 w4 := (Kq.of_below hb2).trans hk3
      have ho34 : Only [b2] w3 w4 := (Only.of_below (S := [b2]) hb2).trans ho4 (by simp)
      have n1 : b ∉ [b2] := by simp; omega
      have n2 : r ∉ [b2] := by have := hrg1.mp_ne hmp3; simp; omega
      have hdq2 : ∀ p ∈ put x ⟨q.l, A2, c2⟩ Q2, Dq w4 p.2.l p.2.a p.2.c := fun p hp => by
        rcases mem_put.1 hp with rfl | hp
        · exact hd2.keep hk3
        · exact (hdq.out p hp.1).keep (hk13.trans hk23)
      have hmp5 : Mp Try.prog 9 w4 b2 (vs (put x ⟨q.l, A2, c2⟩ Q2)) := by
        rw [vs_eq, ← put_on]
        show Mp _ _ w4 b2 (put x ⟨A2, q.l.length, c2⟩ (on qv Q2))
        rw [hml.out]
        exact hmp4
      go_wp2
      have hfin : (∃ (gn : Nm → Bool) (Q2 : List T), Hid (lst Q2 = lst (gl gn Q)) ∧ Mp Try.prog 9 w4 b2 (vs Q2) ∧ Hid (∀ p ∈ Q2, Dq w4 p.2.l p.2.a p.2.c) ∧ Rg Try.prog 9 w4 b r (vs Q) gn ∧ Hid (Cel w4 g2 56 #[.bool true, I s.most, I s.room, .map (some b2)]) ∧ Below w.heap.size w w4) ∧ w4.rangeLeft b r < wr.rangeLeft b r := by
        refine ⟨⟨_, _, Lib.hid (lst_step hsr hq hl2.out A2 c2), hmp5, Lib.hid hdq2, hrg1.only ho34 n1 n2, Lib.hid (hk23.cel hc3 (by decide)), hb3.trans (ho34.below hb3.size (by simpa using hbb2))⟩, ?_⟩
        rw [rangeLeft_only hrg1 ho34 n1 n2]
        exact hlt
      exact hfin
end Go.Proofs.Ytbeekfbcflmemaa.Fil
