/-
  Package files: Free, fits, check.
-/
import Derived.Test.YtbeekfbcflmemaaFilW0
namespace Go.Proofs.Ytbeekfbcflmemaa.Fil
open Go.RowKit Go.Proofs.Ytbeekfbcflmemaa.Row
open Lst (Qb Dt)

theorem of_vs {Q : List T} {x : Nm} {y : V} (h : (x, y) ∈ vs Q) : ∃ q, (x, q) ∈ Q ∧ y = qv q := by
  obtain ⟨p, hp, e⟩ := List.mem_map.1 h
  injection e with e1 e2
  subst e1
  exact ⟨p.2, hp, e2.symm⟩
theorem sz_le (gn : Nm → Bool) : ∀ Q : List T, sz (lst (gl gn Q)) ≤ sz (lst Q)
  | [] => Nat.le_refl _
  | p :: Q => by
    have ih := sz_le gn Q
    unfold gl at ih ⊢
    rw [List.filter_cons]
    split
    · simp only [lst, sz, List.map_cons, List.sum_cons] at ih ⊢; omega
    · simp only [lst, sz, List.map_cons, List.sum_cons] at ih ⊢; omega
theorem sz_step {Q : List T} (hs : Srt Q) {gn : Nm → Bool} {x : Nm} {q : Qb} (hm : (x, q) ∈ Q) (hn : gn x = false) : sz (lst (gl (fun z => gn z || z == x) Q)) = sz (lst (gl gn Q)) + q.l.length := by
  rw [gl_step hs hm]
  unfold put
  rw [gl_new hn, lst_eq, lst_eq, ← ins_on, sz_ins]
theorem FW.srt {w : World} {g b : Nat} {s : St} (h : FW w g b s) {Q : List T} (h1 : lst Q = s.l) : Srt Q := srt_on Qb.l (by rw [← lst_eq, h1]; exact h.ok.srt)

set_option maxHeartbeats 1000000 in
theorem free_any (w : World) (g b : Nat) (s : St) (h : FW w g b s) :
    Calls Try.prog 19 #[.pointer (some ⟨g, 0, none⟩)] w fun e w' => e = .returned (I ((s.room : Int) - (sz s.l : Int))) ∧ Below w.heap.size w w' := by
  obtain ⟨Q, h1, h2, h3⟩ := h.ex
  have hsr := h.srt h1
  have hsv : Srt (vs Q) := on_srt qv hsr
  have hok := h.ok
  have c2 := h.cel.cell 2; simp at c2
  have c3 := h.cel.cell 3; simp at c3
  have hwk := works_any w g true _ _ _ h.cel
  have hr := hok.r
  have hsm := hok.sum
  obtain ⟨rm, hrm⟩ : ∃ rm, rm = s.room := ⟨_, rfl⟩
  rw [← hrm] at c2 hr hsm ⊢
  rw [← h1] at hsm ⊢
  obtain ⟨E, hE⟩ : ∃ E : Int, E = (rm : Int) - (sz (lst Q) : Int) := ⟨_, rfl⟩
  rw [← hE]
  have HE := Lib.hid hE
  have HS := Lib.hid hsm
  have hc := h.cel
  have b0 := fun n => drewN_below (B := w.heap.size) w n
  clear hE hsm hrm h h1 hok h3
  go_enter Try.func19, Try.ntmps19
  go_wp2_with (first
    | (go_at_call 24; refine hwk.mono ?_; rintro e w' ⟨rfl, rfl⟩)
    | (at_range; refine wpList_range rfl h2 hsv Try.underlying9 map_ty _ rfl rfl ?_; intro w0 hrg0 hbel0))
  go_frame
  go_loopw [3] (fun v wr => ∃ (gn : Nm → Bool) (F : Nat), v = I F ∧ F ≤ rm ∧ Hid (F + sz (lst (gl gn Q)) = rm) ∧ Rg Try.prog 9 wr b w.heap.size (vs Q) gn ∧ Below w.heap.size w wr) (fun _ wr => wr.rangeLeft b w.heap.size)
  case atStart => exact ⟨_, rm, rfl, Nat.le_refl _, Lib.hid (by rw [gl_none]; simp [lst, sz]), hrg0, hbel0⟩
  case round =>
    obtain ⟨gn, F, rfl, hF, HF, hrg, hbel⟩ := hrel
    go_wp2_with (at_next; refine wpList_next rfl hrg Try.underlying9 _ rfl rfl ?_ ?_)
    · intro hall
      have hz : (F : Int) = E := by
        have h1 := HF.out
        have h2 : gl gn Q = Q := gl_all fun p hp => hall p.1 (qv p.2) (List.mem_map.2 ⟨p, hp, rfl⟩)
        rw [h2] at h1
        rw [HE.out]; omega
      clear hall
      go_wp2
      go_ret
      exact ⟨ret_int hz, hbel⟩
    · intro x y w1 hm hgx hrg1 hlt ho hen
      obtain ⟨q, hq, rfl⟩ := of_vs hm
      have hst := sz_step hsr hq hgx
      have hle := sz_le (fun z => gn z || z == x) Q
      obtain ⟨m, hmm⟩ : ∃ m, m = q.l.length := ⟨_, rfl⟩
      have hb1 := hbel.trans (ho.below hbel.size (by simp))
      have hen2 : (Instr.entry (.pointer (some ⟨w.heap.size, 0, none⟩))).run Try.prog w1 = .ok (.tuple #[.string (nm x), .slice q.a m q.c]) w1 := by rw [hmm]; exact hen
      have k1 : (qv q).v = .slice q.a m q.c := by rw [hmm]; rfl
      rw [k1]
      rw [← hmm] at hst
      have hFm : m ≤ F := by have h1 := HF.out; have h2 := HS.out; omega
      obtain ⟨G, hG⟩ : ∃ G, F = G + m := ⟨F - m, by omega⟩
      have HF2 : Hid (G + sz (lst (gl (fun z => gn z || z == x) Q)) = rm) := Lib.hid (by have h1 := HF.out; omega)
      have u1 : (F : Int) - (m : Int) = (G : Int) := by omega
      have u2 : (0 : Int) ≤ (F : Int) - (m : Int) := by omega
      have u3 : (F : Int) - (m : Int) ≤ 2147483648 := by omega
      clear hst hle hen k1 hmm hm hq
      go_wp2
      exact ⟨⟨_, G, rfl, by omega, HF2, hrg1, hb1⟩, hlt⟩

theorem zeroS (w : World) : (zeroValue 30).run Try.prog w = .ok (.slice none 0 0) w := by kernel_rfl
theorem len_vs (Q : List T) : (vs Q).length = (lst Q).length := by simp [vs, lst]
theorem get_vs (n : Nm) (Q : List T) : get n (vs Q) = (get n Q).map qv := get_on qv n Q
theorem get_lst (n : Nm) (Q : List T) : get n (lst Q) = (get n Q).map Qb.l := get_on Qb.l n Q

set_option maxHeartbeats 1000000 in
theorem check_any (w : World) (g b : Nat) (s : St) (h : FW w g b s) (x : Nm) :
    Calls Try.prog 28 #[.pointer (some ⟨g, 0, none⟩), .string (nm x)] w fun e w' => e = .returned (I (geE s x : Int)) ∧ w = w' := by
  obtain ⟨Q, h1, h2, h3⟩ := h.ex
  have c3 := h.cel.cell 3; simp at c3
  have hwk := works_any w g true _ _ _ h.cel
  have hna := name_any x x.length w (Lib.hid rfl)
  by_cases h0 : okN x = true
  · have hlen : x.length ≤ maxLen := by have := okN_le h0; unfold maxLen; omega
    have hlk := h2.look Try.underlying9 map_ty (zeroS w) hlen
    rw [h0] at hna
    have hge : geE s x = if (get x s.l).isSome then 0 else 8 := by unfold geE; rw [if_pos h0]
    rw [← h1, get_lst, Option.isSome_map] at hge
    rw [get_vs] at hlk
    rw [Option.isSome_map] at hlk
    cases hg : get x Q with
    | none =>
      rw [hg] at hge hlk
      have k0 : geE s x = 8 := hge
      rw [k0]
      have hl2 : (Instr.lookup 54 (.map (some b)) (.string (nm x)) true).run Try.prog w = .ok (.tuple #[.slice none 0 0, .bool false]) w := hlk
      clear hlk hge k0 hg h1 h2 h3 h0 hlen h
      go_enter Try.func28, Try.ntmps28
      go_wp2_with (first
        | (go_at_call 24; refine hwk.mono ?_; rintro e w' ⟨rfl, rfl⟩)
        | (go_at_call 17; refine hna.mono ?_; rintro e w' ⟨rfl, rfl⟩))
      go_ret
      exact ⟨rfl, rfl⟩
    | some q =>
      rw [hg] at hge hlk
      have k0 : geE s x = 0 := hge
      rw [k0]
      have hl2 : (Instr.lookup 54 (.map (some b)) (.string (nm x)) true).run Try.prog w = .ok (.tuple #[.slice q.a q.l.length q.c, .bool true]) w := hlk
      clear hlk hge k0 hg h1 h2 h3 h0 hlen h
      go_enter Try.func28, Try.ntmps28
      go_wp2_with (first
        | (go_at_call 24; refine hwk.mono ?_; rintro e w' ⟨rfl, rfl⟩)
        | (go_at_call 17; refine hna.mono ?_; rintro e w' ⟨rfl, rfl⟩))
      go_ret
      exact ⟨rfl, rfl⟩
  · have h0' : okN x = false := by cases k : okN x <;> simp_all
    rw [h0'] at hna
    have k0 : geE s x = 1 := by unfold geE; rw [if_neg h0]
    rw [k0]
    clear h1 h2 h3 h0 h
    go_enter Try.func28, Try.ntmps28
    go_wp2_with (first
      | (go_at_call 24; refine hwk.mono ?_; rintro e w' ⟨rfl, rfl⟩)
      | (go_at_call 17; refine hna.mono ?_; rintro e w' ⟨rfl, rfl⟩))
    go_ret
    exact ⟨rfl, rfl⟩

set_option maxHeartbeats 1000000 in
theorem fits_any (w : World) (g b : Nat) (s : St) (h : FW w g b s) (x : Nm) (hx : okN x = true) (k : Nat) :
    Calls Try.prog 25 #[.pointer (some ⟨g, 0, none⟩), .string (nm x), I (k : Int)] w fun e w' => e = .returned (.bool (fits s x k)) ∧ Below w.heap.size w w' := by
  obtain ⟨Q, h1, h2, h3⟩ := h.ex
  have c1 := h.cel.cell 1; simp at c1
  have c3 := h.cel.cell 3; simp at c3
  have hfr := fun W (hb : Below w.heap.size w W) => free_any W g b s (h.below hb)
  have hlen : x.length ≤ maxLen := by have := okN_le hx; unfold maxLen; omega
  have hlk := h2.look Try.underlying9 map_ty (zeroS w) hlen
  have hln := fun W (hb : Below w.heap.size w W) => (h2.below hb).len map_ty
  rw [get_vs] at hlk
  rw [Option.isSome_map] at hlk
  have hfit : fits s x k = (!((get x Q).isNone && decide (s.most ≤ (vs Q).length)) && decide (sz s.l + k ≤ s.room + (((get x Q).map Qb.l).getD []).length)) := by
    unfold fits
    rw [← h1, get_lst, len_vs, Option.isNone_map]
  have hm := h.ok.m
  have hr := h.ok.r
  have hsm := h.ok.sum
  have hct := h.ok.cnt
  obtain ⟨M, hM⟩ : ∃ M, M = s.most := ⟨_, rfl⟩
  obtain ⟨rm, hrm⟩ : ∃ rm, rm = s.room := ⟨_, rfl⟩
  obtain ⟨Z, hZ⟩ : ∃ Z, Z = sz s.l := ⟨_, rfl⟩
  obtain ⟨L, hL⟩ : ∃ L, L = (vs Q).length := ⟨_, rfl⟩
  have hmz0 : ∀ q, get x Q = some q → q.l.length ≤ Z := fun q hq => by
    have h5 := sz_del (n := x) h.ok.srt
    rw [← h1, get_lst, hq, h1] at h5
    simp only [Option.map_some, Option.getD_some] at h5
    omega
  have hl2 : L ≤ 256 := by rw [hL, len_vs, h1]; omega
  rw [← hL] at hln hfit
  rw [← hM] at c1 hm hfit
  rw [← hrm, ← hZ] at hfr hfit hsm
  rw [← hrm] at hr
  obtain ⟨G, hG⟩ : ∃ G : Nat, (rm : Int) - (Z : Int) = (G : Int) := ⟨rm - Z, by omega⟩
  rw [hG] at hfr
  have hG2 : G + Z = rm := by omega
  have hfit2 := hfit
  clear hfit hct hM hrm hZ hL h1 h2 h3 hx hlen h
  have hd := fun n ty => hln (w.drewN n) (drewN_below _ _) ty
  cases hg : get x Q with
  | none =>
    rw [hg] at hlk hfit2
    have hl3 : (Instr.lookup 54 (.map (some b)) (.string (nm x)) true).run Try.prog w = .ok (.tuple #[.slice none 0 0, .bool false]) w := hlk
    have hl4 : (Instr.lookup 54 (.map (some b)) (.string (nm x)) true).run Try.prog w = .ok (.tuple #[.slice none 0 0, .bool false]) w := hl3
    clear hlk hg hl4
    by_cases hc : M ≤ L
    · have k0 : fits s x k = false := by rw [hfit2, decide_eq_true hc]; rfl
      rw [k0]
      have q1 : decide ((M : Int) ≤ (L : Int)) = true := decide_eq_true (by omega)
      have q2 : decide (M ≤ L) = true := decide_eq_true hc
      clear k0 hfit2 hc hG hG2
      go_enter Try.func25, Try.ntmps25
      go_wp2
      go_quiet (fail)
      go_wp2
      go_ret
      exact ⟨rfl, drewN_below _ _⟩
    · have k0 : fits s x k = decide (k ≤ G) := by
        rw [hfit2, decide_eq_false hc]
        show decide (Z + k ≤ rm + 0) = _
        congr 1
        exact propext (by omega)
      rw [k0]
      have q1 : decide ((M : Int) ≤ (L : Int)) = false := decide_eq_false (by omega)
      have q2 : decide (M ≤ L) = false := decide_eq_false hc
      clear k0 hfit2 hc hG
      go_enter Try.func25, Try.ntmps25
      go_wp2
      go_quiet (fail)
      go_wp2_with (go_at_call 19; refine (hfr _ (drewN_below _ _)).mono ?_; rintro e w' ⟨rfl, hbe⟩)
      go_ret
      exact ⟨rfl, (drewN_below _ _).trans hbe⟩
  | some q =>
    rw [hg] at hlk hfit2
    obtain ⟨m, hmm⟩ : ∃ m, m = q.l.length := ⟨_, rfl⟩
    have hl3 : (Instr.lookup 54 (.map (some b)) (.string (nm x)) true).run Try.prog w = .ok (.tuple #[.slice q.a m q.c, .bool true]) w := by rw [hmm]; exact hlk
    have k0 : fits s x k = decide ((k : Int) ≤ (G : Int) + (m : Int)) := by
      rw [hfit2]
      show decide (Z + k ≤ rm + q.l.length) = _
      rw [← hmm]
      congr 1
      exact propext (by omega)
    have hmz : m ≤ 2147483648 := by have := hmz0 q hg; omega
    rw [k0]
    clear hlk hg hfit2 k0 hG hmm hmz0
    go_enter Try.func25, Try.ntmps25
    go_wp2
    go_quiet (fail)
    go_wp2_with (go_at_call 19; refine (hfr _ (drewN_below _ _)).mono ?_; rintro e w' ⟨rfl, hbe⟩)
    go_ret
    exact ⟨rfl, (drewN_below _ _).trans hbe⟩
end Go.Proofs.Ytbeekfbcflmemaa.Fil
