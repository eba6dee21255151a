/-
  Package files: Put, Get, Delete.
-/
import Derived.Test.YtbeekfbcflmemaaFilW1
import Derived.Test.YtbeekfbcflmemaaHand
namespace Go.Proofs.Ytbeekfbcflmemaa.Fil
open Go.RowKit Go.Proofs.Ytbeekfbcflmemaa.Row
open Lst (Qb Dt)

theorem cell_only {w w' : World} {S : List Nat} (k : Only S w w') {p : Addr} (hp : p.block < w.heap.size) (hS : p.block ∉ S) : w'.cell? p = w.cell? p := by
  unfold World.cell?
  rw [k.block _ hp hS]
theorem put_fw {w w' : World} {g b n : Nat} {s : St} {Q : List T} {x : Nm} {d : List Byte} {A : Option Addr} {c : Nat} (h : FW w g b s) (h1 : lst Q = s.l) (h2 : ∀ p ∈ Q, Dq w p.2.l p.2.a p.2.c) (q : Kq w w') (hd : Dq w' d A c) (hl : d.length = n)
    (hm : Mp Try.prog 9 w' b (put x ⟨A, n, c⟩ (vs Q))) (h0 : puE s x d = 0) : FW w' g b (puS s x d) := by
  have hok := h.ok.put x d
  have e : puS s x d = ⟨s.most, s.room, put x d s.l⟩ := by unfold puS; rw [if_pos h0]
  rw [e] at hok ⊢
  refine ⟨q.cel h.cel (by decide), ⟨put x ⟨d, A, c⟩ Q, ?_, ?_, fun p hp => ?_⟩, hok⟩
  · show _ = put x d s.l
    rw [← h1, lst_eq, lst_eq, ← put_on]
  · rw [vs_eq, ← put_on]
    show Mp _ _ w' b (put x ⟨A, d.length, c⟩ (on qv Q))
    rw [hl]
    exact hm
  · rcases mem_put.1 hp with rfl | hp
    · exact hd
    · exact (h2 p hp.1).keep q

set_option maxHeartbeats 1000000 in
theorem put_any (w : World) (g b : Nat) (s : St) (h : FW w g b s) (x : Nm) (d : List Byte) (n : Nat) (A : Option Addr) (c : Nat) (hl : Hid (d.length = n)) (hd : Dt w w.heap.size d A c) (hm : n ≤ 1000000) :
    Calls Try.prog 10 #[.pointer (some ⟨g, 0, none⟩), .string (nm x), .slice A n c] w fun e w' => e = .returned (I (puE s x d : Int)) ∧ FW w' g b (puS s x d) ∧ Only [b] w w' := by
  have hwk := works_any w g true _ _ _ h.cel
  have hna := name_any x x.length w (Lib.hid rfl)
  have c3 := h.cel.cell 3; simp at c3
  cases h0 : okN x with
  | false =>
    rw [h0] at hna
    have k0 : puE s x d = 1 := by unfold puE; rw [h0]; rfl
    have k1 : puS s x d = s := by unfold puS; rw [k0]; rfl
    rw [k0, k1]
    have HF := h
    clear h0 hd k0 k1 hl h
    go_enter Try.func10, Try.ntmps10
    go_wp2_with (first
      | (go_at_call 24; refine hwk.mono ?_; rintro e w' ⟨rfl, rfl⟩)
      | (go_at_call 17; refine hna.mono ?_; rintro e w' ⟨rfl, rfl⟩))
    go_ret
    exact ⟨rfl, HF, Only.refl _ _⟩
  | true =>
  rw [h0] at hna
  by_cases h5 : 65536 < n
  · have k0 : puE s x d = 6 := by unfold puE; rw [h0, if_pos rfl, if_pos (by rw [hl.out]; exact h5)]
    have k1 : puS s x d = s := by unfold puS; rw [k0]; rfl
    rw [k0, k1]
    have q1 : decide ((65536 : Int) < (n : Int)) = true := decide_eq_true (by omega)
    have q2 : decide (65536 < n) = true := decide_eq_true h5
    have HF := h
    clear h0 hd k0 k1 hl h h5
    go_enter Try.func10, Try.ntmps10
    go_wp2_with (first
      | (go_at_call 24; refine hwk.mono ?_; rintro e w' ⟨rfl, rfl⟩)
      | (go_at_call 17; refine hna.mono ?_; rintro e w' ⟨rfl, rfl⟩))
    go_ret
    exact ⟨rfl, HF, Only.refl _ _⟩
  have q1 : decide ((65536 : Int) < (n : Int)) = false := decide_eq_false (by omega)
  have q2 : decide (65536 < n) = false := decide_eq_false h5
  have hft := fits_any w g b s h x h0 n
  cases h6 : fits s x n with
  | false =>
    rw [h6] at hft
    have k0 : puE s x d = 7 := by unfold puE; rw [h0, if_pos rfl, if_neg (by rw [hl.out]; exact h5), hl.out, h6]; rfl
    have k1 : puS s x d = s := by unfold puS; rw [k0]; rfl
    rw [k0, k1]
    have HF := h
    clear h0 hd k0 k1 hl h h5 h6
    go_enter Try.func10, Try.ntmps10
    go_wp2_with (first
      | (go_at_call 24; refine hwk.mono ?_; rintro e w' ⟨rfl, rfl⟩)
      | (go_at_call 17; refine hna.mono ?_; rintro e w' ⟨rfl, rfl⟩)
      | (go_at_call 25; refine hft.mono ?_; rintro e w' ⟨rfl, hbe⟩))
    go_ret
    exact ⟨rfl, HF.below hbe, Only.of_below hbe⟩
  | true =>
  rw [h6] at hft
  have k0 : puE s x d = 0 := by unfold puE; rw [h0, if_pos rfl, if_neg (by rw [hl.out]; exact h5), hl.out, h6]; rfl
  have hlen : x.length ≤ maxLen := by have := okN_le h0; unfold maxLen; omega
  obtain ⟨S2, hS2⟩ : ∃ S2, S2 = puS s x d := ⟨_, rfl⟩
  rw [k0, ← hS2]
  have HS2 := Lib.hid hS2
  have K0 := Lib.hid k0
  clear hS2 k0 h0 h5 h6
  go_enter Try.func10, Try.ntmps10
  go_wp2_with (first
    | (go_at_call 24; refine hwk.mono ?_; rintro e w' ⟨rfl, rfl⟩)
    | (go_at_call 17; refine hna.mono ?_; rintro e w' ⟨rfl, rfl⟩)
    | (go_at_call 25; refine hft.mono ?_; rintro e w1 ⟨rfl, hbe⟩))
  have hf1 := h.below hbe
  obtain ⟨Q, h1, hmp1, h3⟩ := hf1.ex
  have hd1 := hd.later hbe
  have k3 : w1.cell? ⟨g, 3, none⟩ = some (.map (some b)) := by have := hf1.cel.cell 3; simpa using this
  have hne : g ≠ b := hmp1.ne hf1.cel
  have hQ : (vs Q).length < maxLen := by rw [len_vs, h1]; have := hf1.ok.cnt; have := hf1.ok.m; unfold maxLen; omega
  refine wp_region_held_drew (S := (fun w' => w'.cell? ⟨g, 3, none⟩ = some (.map (some b)))) (by kernel_rfl) (k3) (fun hHeld => ?_)
  refine wpAnyH_here 0 (v := ?_) rfl (by kernel_rfl) (by kernel_rfl) (by kernel_rfl) (fun _ _ _ h => h) (Or.inl ⟨by rfl, ?_⟩) hHeld ?_
  rotate_left
  · intro w hSw; (try dsimp only at hSw); go_simp; all_goals (with_reducible rfl)
  try simp only [Act.put, List.setIfInBounds_toArray, List.set_cons_zero, List.set_cons_succ]
  refine wpAnyH_here 1 (v := ?_) rfl (by kernel_rfl) (by kernel_rfl) (by kernel_rfl) (fun _ _ _ h => h) (Or.inl ⟨by rfl, ?_⟩) hHeld ?_
  rotate_left
  · intro w hSw; (try dsimp only at hSw); go_simp; all_goals (with_reducible rfl)
  try simp only [Act.put, List.setIfInBounds_toArray, List.set_cons_zero, List.set_cons_succ]
  refine wpAnyH_here 2 (v := ?_) rfl (by kernel_rfl) (by kernel_rfl) (by kernel_rfl) (fun _ _ _ h => h) (Or.inl ⟨by rfl, ?_⟩) hHeld ?_
  rotate_left
  · intro w hSw; (try dsimp only at hSw); go_simp; all_goals (with_reducible rfl)
  try simp only [Act.put, List.setIfInBounds_toArray, List.set_cons_zero, List.set_cons_succ]
  refine wpAnyH_here 3 (v := ?_) rfl (by kernel_rfl) (by kernel_rfl) (by kernel_rfl) (fun _ _ _ h => h) (Or.inl ⟨by rfl, ?_⟩) hHeld ?_
  rotate_left
  · intro w hSw; (try dsimp only at hSw); go_simp; all_goals (with_reducible rfl)
  try simp only [Act.put, List.setIfInBounds_toArray, List.set_cons_zero, List.set_cons_succ]
  refine wpAnyH_here 4 (v := ?_) rfl (by kernel_rfl) (by kernel_rfl) (by kernel_rfl) (fun _ _ _ h => h) (Or.inl ⟨by rfl, ?_⟩) hHeld ?_
  rotate_left
  · intro w hSw; (try dsimp only at hSw); go_simp; all_goals (with_reducible rfl)
  try simp only [Act.put, List.setIfInBounds_toArray, List.set_cons_zero, List.set_cons_succ]
  refine wpAnyH_here 5 (v := ?_) rfl (by kernel_rfl) (by kernel_rfl) (by kernel_rfl) (fun _ _ _ h => h) (Or.inl ⟨by rfl, ?_⟩) hHeld ?_
  rotate_left
  · intro w hSw; (try dsimp only at hSw); go_simp; all_goals (with_reducible rfl)
  try simp only [Act.put, List.setIfInBounds_toArray, List.set_cons_zero, List.set_cons_succ]
  refine wpAnyH_alone 6 rfl (by kernel_rfl) (fun K hK => ?_)
  go_simp
  (go_at_call 26; refine (clone_any d n _ A c hl (hd1.draws 1) (by omega)).mono ?_; rintro e W2 ⟨A2, c2, rfl, hd2, hb2'⟩; have hb2 : Below w1.heap.size w1 W2 := (drewN_below (B := w1.heap.size) w1 1).trans hb2'; have k4 := (hb2.cell (p := ⟨g, 3, none⟩) hf1.lt.1).trans k3)
  refine hK.out _ _ (k4) (fun hHeld => ?_)
  clear hK K
  try simp only [Act.put, List.setIfInBounds_toArray, List.set_cons_zero, List.set_cons_succ]
  have hmp2 := hmp1.below (w' := W2) hb2
  refine wpAnyH_alone 7 rfl (by kernel_rfl) (fun K hK => ?_)
  refine step_store rfl hmp2 Try.underlying9 map_ty (.tmp 25) (.tmp 26) (.tmp 28) rfl (x := x) (z := ⟨A2, n, c2⟩) hlen hQ rfl rfl rfl ?_
  intro w3 hmp3 ho3
  have k5 : w3.cell? ⟨g, 3, none⟩ = some (.map (some b)) := (cell_only ho3 (p := ⟨g, 3, none⟩) (Nat.lt_of_lt_of_le hf1.lt.1 hb2.size) (by simpa using hne)).trans k4
  refine hK.out _ _ k5 (fun hHeld => ?_)
  clear hK K
  try simp only [Act.put]
  refine wpAnyH_done (by kernel_rfl) ?_ _
  go_wp2
  go_ret
  have hk2 : Kq w1 W2 := .of_below hb2
  have hk3 : Kq W2 w3 := .of_only ho3 fun y hy => by
    rw [List.mem_singleton] at hy
    subst hy
    exact not_mp hmp2
  have hfin := put_fw (x := x) (d := d) hf1 h1 h3 (hk2.trans hk3) (hd2.keep hk3) hl.out hmp3 K0.out
  refine ⟨rfl, by rw [HS2.out]; exact hfin, ?_⟩
  exact ((Only.of_below (S := [b]) hbe).trans (T := []) (Only.of_below (S := []) hb2) (by simp)).trans (T := [b]) ho3 (by simp)

set_option maxHeartbeats 1000000 in
theorem get_any (w : World) (g b : Nat) (s : St) (h : FW w g b s) (x : Nm) :
    Calls Try.prog 15 #[.pointer (some ⟨g, 0, none⟩), .string (nm x)] w fun e w' => ∃ A c, e = .returned (.tuple #[.slice A (geD s x).length c, I (geE s x : Int)]) ∧ Dq w' (geD s x) A c ∧ Below w.heap.size w w' := by
  have hck := check_any w g b s h x
  obtain ⟨Q, h1, h2, h3⟩ := h.ex
  have c3 := h.cel.cell 3; simp at c3
  by_cases h0 : geE s x = 0
  · have hx : okN x = true ∧ (get x s.l).isSome = true := by
      unfold geE at h0
      cases k1 : okN x <;> cases k2 : (get x s.l).isSome <;> simp_all
    have hlen : x.length ≤ maxLen := by have := okN_le hx.1; unfold maxLen; omega
    have hlk := h2.look1 Try.underlying9 map_ty (zeroS w) hlen
    rw [get_vs] at hlk
    have hgd : geD s x = (get x s.l).getD [] := by unfold geD; rw [if_pos hx.1]
    have hx2 := hx.2
    rw [← h1, get_lst] at hgd hx2
    rw [Option.isSome_map] at hx2
    obtain ⟨q, hq⟩ := Option.isSome_iff_exists.1 hx2
    rw [hq] at hgd hlk
    have hgd2 : geD s x = q.l := hgd
    have hdq := h3 _ (get_some hq)
    have hsm : q.l.length ≤ 140737488355328 := by
      have h5 := sz_del (n := x) h.ok.srt
      rw [← h1, get_lst, hq, h1] at h5
      simp only [Option.map_some, Option.getD_some] at h5
      have := h.ok.sum; have := h.ok.r
      omega
    have hcl := clone_any q.l q.l.length w q.a q.c (Lib.hid rfl) hdq.dt hsm
    rw [h0] at hck
    rw [h0, hgd2]
    obtain ⟨d, hd⟩ : ∃ d, d = q.l := ⟨_, rfl⟩
    obtain ⟨m, hm⟩ : ∃ m, m = q.l.length := ⟨_, rfl⟩
    rw [← hm] at hcl ⊢
    rw [← hd] at hcl ⊢
    have hl3 : (Instr.lookup 54 (.map (some b)) (.string (nm x)) false).run Try.prog w = .ok (.slice q.a m q.c) w := by rw [hm]; exact hlk
    clear hlk hm hd hsm hdq hgd2 hgd hq hx2 hlen hx h0 h1 h2 h3 h
    go_enter Try.func15, Try.ntmps15
    go_wp2_with (first
      | (go_at_call 28; refine hck.mono ?_; rintro e w' ⟨rfl, rfl⟩)
      | (go_at_call 26; refine hcl.mono ?_; rintro e w' ⟨A2, c2, rfl, hd2, hb2⟩))
    go_ret2
    exact ⟨A2, c2, rfl, hd2, hb2⟩
  · have hgd : geD s x = [] := by
      unfold geD
      split
      · rename_i hx
        unfold geE at h0
        rw [if_pos hx] at h0
        cases k2 : get x s.l with
        | none => rfl
        | some d => rw [k2] at h0; simp at h0
      · rfl
    obtain ⟨E, hE⟩ : ∃ E : Nat, E = geE s x := ⟨_, rfl⟩
    rw [hgd]
    rw [← hE] at hck h0 ⊢
    have q1 : ((E : Int) != 0) = true := by simpa using h0
    have q2 : ((E : Int) == 0) = false := by simpa using h0
    clear h0 hE h1 h2 h3 h hgd
    go_enter Try.func15, Try.ntmps15
    go_wp2_with (go_at_call 28; refine hck.mono ?_; rintro e w' ⟨rfl, rfl⟩)
    go_ret2
    exact ⟨none, 0, rfl, Dq.nil_ _, Below.refl _ _⟩

set_option maxHeartbeats 1000000 in
theorem dele_any (w : World) (g b : Nat) (s : St) (h : FW w g b s) (x : Nm) :
    Calls Try.prog 12 #[.pointer (some ⟨g, 0, none⟩), .string (nm x)] w fun e w' => e = .returned (I (geE s x : Int)) ∧ FW w' g b (deS s x) ∧ Only [b] w w' := by
  have hck := check_any w g b s h x
  obtain ⟨Q, h1, h2, h3⟩ := h.ex
  have c3 := h.cel.cell 3; simp at c3
  by_cases h0 : geE s x = 0
  · have hx : okN x = true := by
      unfold geE at h0
      cases k1 : okN x
      · rw [k1] at h0; simp at h0
      · rfl
    have hlen : x.length ≤ maxLen := by have := okN_le hx; unfold maxLen; omega
    have hok := h.ok.dele x
    have e : deS s x = ⟨s.most, s.room, del x s.l⟩ := by unfold deS; rw [if_pos h0]
    rw [h0] at hck
    rw [h0, e]
    rw [e] at hok
    clear h0 hx e
    go_enter Try.func12, Try.ntmps12
    go_wp2_with (first
      | (go_at_call 28; refine hck.mono ?_; rintro e w' ⟨rfl, rfl⟩)
      | (at_delete; refine wpList_drop rfl h2 Try.underlying9 map_ty (.tmp 15) (.tmp 16) rfl hlen rfl rfl ?_; intro w1 hmp1 ho1))
    go_ret
    have hk : Kq w w1 := h.kq ho1
    refine ⟨rfl, ⟨hk.cel h.cel (by decide), ⟨del x Q, ?_, ?_, fun p hp => (h3 p (mem_del.1 hp).1).keep hk⟩, hok⟩, ho1⟩
    · show _ = del x s.l
      rw [← h1, lst_eq, lst_eq, ← del_on]
    · rw [vs_eq, ← del_on]
      exact hmp1
  · have e : deS s x = s := by unfold deS; rw [if_neg h0]
    obtain ⟨E, hE⟩ : ∃ E : Nat, E = geE s x := ⟨_, rfl⟩
    rw [e]
    rw [← hE] at hck h0 ⊢
    have q1 : ((E : Int) != 0) = true := by simpa using h0
    have q2 : ((E : Int) == 0) = false := by simpa using h0
    have HF := h
    clear h0 hE h1 h2 h3 h e
    go_enter Try.func12, Try.ntmps12
    go_wp2_with (go_at_call 28; refine hck.mono ?_; rintro e w' ⟨rfl, rfl⟩)
    go_ret
    exact ⟨rfl, HF, Only.refl _ _⟩
end Go.Proofs.Ytbeekfbcflmemaa.Fil
