/-
  The walk of the law FilesBounds.
-/
import Derived.Test.YtbeekfbcflmemaaLaw26a
import Derived.Test.YtbeekfbcflmemaaFilNm
import Derived.Test.YtbeekfbcflmemaaHand
import Derived.Deep.Cut
import Derived.Deep.CutBlock
namespace Go.Proofs.Ytbeekfbcflmemaa.Fil
open Go.RowKit Go.Proofs.Ytbeekfbcflmemaa.Row
open Lst (Qb Dt LS)

theorem make_file (w : World) :
    (Instr.makeSlice 30 (.int .i64 65537) (.int .i64 65537)).run Try.prog w = .ok (.slice (some ⟨w.heap.size, 0, none⟩) 65537 65537) (w.alloc (.cells (madeCells #[.int .u8 0] 65537) 5)) := by
  obtain ⟨ht, _, i, hi, hz, hs, hb⟩ := is_bytes
  have hr := run_make (P := Try.prog) w 30 5 i (.int .u8 0) ht hi hz .i64 .i64 65537 65537 (by omega) (by omega) (by rw [hb]; omega) (by omega)
  simp only [hs, Nat.mul_one] at hr
  exact hr
theorem made_zeros (n : Nat) : madeCells #[.int .u8 0] n = ((List.replicate n (0#8)).map B8).toArray := by
  apply Array.ext'
  have h := toList_madeCells_one (.int .u8 0) n
  rw [h, List.map_replicate]
  rfl
theorem big_no {s : St} : puE s [121] (List.replicate 65537 (0#8)) = 6 ∧ puS s [121] (List.replicate 65537 (0#8)) = s := by
  have h0 : puE s [121] (List.replicate 65537 (0#8)) = 6 := by
    unfold puE
    rw [if_pos (by decide), if_pos (by rw [List.length_replicate]; decide)]
  exact ⟨h0, by unfold puS; rw [h0]; rfl⟩
theorem bad_no {s : St} : puE s [97, 32, 98] [] = 1 ∧ puS s [97, 32, 98] [] = s := by
  have h0 : puE s [97, 32, 98] [] = 1 := by
    unfold puE
    rw [if_neg (by decide)]
  exact ⟨h0, by unfold puS; rw [h0]; rfl⟩
/-- what Put of a new name answers and leaves -/
theorem Among.put {s : St} {k : Nat} (h : Among s 120 k) (hk : k ≤ 60) (d : List Byte) (hd : d.length ≤ 300) :
    (s.l.length < s.most ∧ sz s.l + d.length ≤ s.room → puE s (nn 120 k) d = 0 ∧ (puS s (nn 120 k) d).l.length = s.l.length + 1 ∧ sz (puS s (nn 120 k) d).l = sz s.l + d.length) ∧
    (¬ (s.l.length < s.most ∧ sz s.l + d.length ≤ s.room) → puE s (nn 120 k) d = 7 ∧ puS s (nn 120 k) d = s) := by
  have hn := h.none hk
  have hN : okN (nn 120 k) = true := okN_nn (by decide) hk
  have hf : fits s (nn 120 k) d.length = (!decide (s.most ≤ s.l.length) && decide (sz s.l + d.length ≤ s.room)) := by
    rw [fits_ref h.ok, del_same hn]
  have hp : puE s (nn 120 k) d = if fits s (nn 120 k) d.length then 0 else 7 := by
    unfold puE
    rw [if_pos hN, if_neg (by omega)]
  constructor
  · rintro ⟨h1, h2⟩
    have h0 : puE s (nn 120 k) d = 0 := by
      rw [hp, hf, decide_eq_false (show ¬ s.most ≤ s.l.length by omega), decide_eq_true h2]; rfl
    have := put_len hn d
    refine ⟨h0, ?_⟩
    unfold puS
    rw [if_pos h0]
    exact this
  · intro h1
    have h0 : puE s (nn 120 k) d = 7 := by
      rw [hp, hf]
      by_cases h2 : s.most ≤ s.l.length
      · rw [decide_eq_true h2]; rfl
      · rw [decide_eq_false h2, decide_eq_false (show ¬ sz s.l + d.length ≤ s.room by omega)]; rfl
    exact ⟨h0, by unfold puS; rw [h0]; rfl⟩

set_option maxHeartbeats 8000000 in
set_option maxRecDepth 100000 in
theorem bounds_walk (most room : Int) (a : Option Addr) (l : List (List Byte)) (n k0 : Nat) (w : World) (hl : Hid (l.length = n)) (ho : LS w w.heap.size a l) (hnm : n ≤ maxLen) :
    Calls Try.prog 5 #[I most, I room, .slice a n k0] w fun e w' => e = .returned (.bool true) ∧ Below w.heap.size w w' := by
  have hal := fun W => alive_any W
  unfold maxLen at hnm
  by_cases h80 : 60 < n
  · have t1 : decide ((60 : Int) < (n : Int)) = true := decide_eq_true (by omega)
    have t2 : decide (60 < n) = true := decide_eq_true h80
    clear h80
    go_enter Try.func5, Try.ntmps5
    go_wp2_with (go_at_call 7; refine (hal _).mono ?_; rintro e w1 ⟨rfl, b1⟩)
    go_ret
    exact ⟨rfl, b1⟩
  have t1 : decide ((60 : Int) < (n : Int)) = false := decide_eq_false (by omega)
  have t2 : decide (60 < n) = false := decide_eq_false h80
  have hn60 : n ≤ 60 := by omega
  have HO := Lib.hid ho
  have hnew := PF.new (w0 := w) (Below.refl w.heap.size w) most room
  obtain ⟨M, hM⟩ : ∃ M, M = (s0 most room).most := ⟨_, rfl⟩
  obtain ⟨rm, hrm⟩ : ∃ rm, rm = (s0 most room).room := ⟨_, rfl⟩
  have u1 : min (max most 0) 256 = (M : Int) := by rw [hM]; show _ = ((clp most 256 : Nat) : Int); unfold clp; omega
  have u2 : min (max room 0) 2147483648 = (rm : Int) := by rw [hrm]; show _ = ((clp room 2147483648 : Nat) : Int); unfold clp; omega
  have hM2 : M ≤ 256 := by rw [hM]; exact clp_le _ _
  have hr2 : rm ≤ 2147483648 := by rw [hrm]; exact clp_le _ _
  have H0 : Among (s0 most room) 120 0 := ⟨s0_ok _ _, by simp [s0]⟩
  have HM := Lib.hid (And.intro hM hrm)
  clear h80 ho hM hrm
  go_enter Try.func5, Try.ntmps5
  go_wp2_with fail
  refine hnew.mono ?_
  rintro e w3 ⟨g, b, rfl, p3, b3⟩
  have HP3 := Lib.hid p3
  clear hnew p3 b3
  go_wp2
  go_loopw [10, 11, 12] (fun nv uv iv wr => ∃ (k N U : Nat) (s : St), k ≤ n ∧ N ≤ 256 ∧ U ≤ rm ∧ nv = .int .i64 (N : Int) ∧ uv = .int .i64 (U : Int) ∧ iv = .int .i64 (k : Int) ∧ Hid (PF w wr g b s ∧ Among s 120 k ∧ s.most = M ∧ s.room = rm ∧ s.l.length = N ∧ sz s.l = U)) (fun _ _ iv _ => n - (intOf iv).toNat)
  case atStart => exact ⟨0, 0, 0, s0 most room, Nat.zero_le _, by omega, Nat.zero_le _, rfl, rfl, rfl, Lib.hid ⟨HP3.out, H0, HM.out.1.symm, HM.out.2.symm, rfl, rfl⟩⟩
  case round =>
    clear HM H0 HP3
    obtain ⟨k, N, U, s, hk, hN, hU, rfl, rfl, rfl, HH⟩ := hrel
    by_cases hkn : k < n
    · obtain ⟨d, hdd⟩ : ∃ d, l[k]? = some d := ⟨_, List.getElem?_eq_getElem (by rw [hl.out]; exact hkn)⟩
      obtain ⟨ob, oo, A, c, rfl, hob, e00, hdt⟩ := HO.out.at_ hdd
      obtain ⟨m, hm⟩ : ∃ m, d.length = m := ⟨_, rfl⟩
      rw [hm] at e00
      have HMD := Lib.hid hm
      have hmm : m ≤ 9223372036854775807 := by have := hdt.l; have := hdt.m; unfold maxLen at this; omega
      have HDT := Lib.hid hdt
      have i1 : (k : Int) < (n : Int) := by omega
      have e00r := (HH.out.1.bel.cell (p := ⟨ob, oo + k, none⟩) hob).trans e00
      have HK := Lib.hid hkn
      clear hm hdt hdd
      by_cases h3 : 300 < m
      · have t3 : decide ((300 : Int) < (m : Int)) = true := decide_eq_true (by omega)
        have t4 : decide (300 < m) = true := decide_eq_true h3
        have B := Lib.hid HH.out.1.bel
        clear h3 HH
        go_wp2_with fail
        refine (hal _).mono ?_
        rintro e wz ⟨rfl, bz⟩
        go_wp2
        go_ret
        exact ⟨rfl, B.out.trans (bz.mono B.out.size)⟩
      have t3 : decide ((300 : Int) < (m : Int)) = false := decide_eq_false (by omega)
      have t4 : decide (300 < m) = false := decide_eq_false h3
      have hm3 : m ≤ 300 := by omega
      clear h3
      go_upto_region 13 with fail
      have hk60 : k ≤ 60 := by omega
      have e0 : wr.drew.cell? ⟨ob, oo + k, none⟩ = some (.slice A m c) := e00r
      have hbz : Below wr.heap.size wr (wr.alloc (.cells #[.int .u8 (33 + (k : Int))] 5)).drew := (bel_new wr _).drew
      have hce : Cel (wr.alloc (.cells #[.int .u8 (33 + (k : Int))] 5)).drew wr.heap.size 5 #[.int .u8 (33 + (k : Int))] := Cel.new wr _ _
      have p5 := HH.out.1.later hbz
      have e1 := (p5.bel.cell (p := ⟨ob, oo + k, none⟩) hob).trans e00
      have e2 := e00
      have hcv := conv_ch _ _ hk60 hce
      have hcat : ({ data := #[120] } : ByteArray) ++ nm [ch k] = nm (nn 120 k) := nm_cat [120] [ch k]
      obtain ⟨E, hE⟩ : ∃ E, puE s (nn 120 k) d = E := ⟨_, rfl⟩
      obtain ⟨S', hS⟩ : ∃ S', puS s (nn 120 k) d = S' := ⟨_, rfl⟩
      have hput := p5.put (nn 120 k) d m A c E S' hE hS HMD (HDT.out.later p5.bel) (by omega)
      have hz1 : IntKind.i64.wrap (33 + (k : Int)) = 33 + (k : Int) := by rw [IntKind.wrap_i64]; omega
      have hz2 : IntKind.u8.wrap (33 + (k : Int)) = 33 + (k : Int) := by show (33 + (k : Int)) % 256 = _; omega
      have HES := Lib.hid (And.intro hE hS)
      clear hE hS p5
      refine wp_region_held_drew (S := (fun W => W.cell? ⟨ob, oo + k, none⟩ = some (.slice A m c))) (by kernel_rfl) (e0) (fun hHeld => ?_)
      refine wpAnyH_here 0 (v := ?_) rfl (by kernel_rfl) (by kernel_rfl) (by kernel_rfl) (fun _ _ _ h => h) (Or.inl ⟨by rfl, ?_⟩) hHeld ?_
      rotate_left
      · intro w hSw; (try dsimp only at hSw); go_simp; all_goals (with_reducible rfl)
      try simp only [Act.put, List.setIfInBounds_toArray, List.set_cons_zero, List.set_cons_succ]
      refine wpAnyH_here 1 (v := ?_) rfl (by kernel_rfl) (by kernel_rfl) (by kernel_rfl) (fun _ _ _ h => h) (Or.inl ⟨by rfl, ?_⟩) hHeld ?_
      rotate_left
      · intro w hSw; (try dsimp only at hSw); go_simp; all_goals (with_reducible rfl)
      try simp only [Act.put, List.setIfInBounds_toArray, List.set_cons_zero, List.set_cons_succ]
      refine wpAnyH_here 2 (v := ?_) rfl (by kernel_rfl) (by kernel_rfl) (by kernel_rfl) (fun _ _ _ h => h) (Or.inl ⟨by rfl, ?_⟩) hHeld ?_
      rotate_left
      · intro w hSw; (try dsimp only at hSw); go_simp; all_goals (with_reducible rfl)
      try simp only [Act.put, List.setIfInBounds_toArray, List.set_cons_zero, List.set_cons_succ]
      refine wpAnyH_here 3 (v := ?_) rfl (by kernel_rfl) (by kernel_rfl) (by kernel_rfl) (fun _ _ _ h => h) (Or.inl ⟨by rfl, ?_⟩) hHeld ?_
      rotate_left
      · intro w hSw; (try dsimp only at hSw); go_simp; all_goals (with_reducible rfl)
      try simp only [Act.put, List.setIfInBounds_toArray, List.set_cons_zero, List.set_cons_succ]
      refine wpAnyH_here 7 (v := ?_) rfl (by kernel_rfl) (by kernel_rfl) (by kernel_rfl) (fun _ _ _ h => h) (Or.inl ⟨by rfl, ?_⟩) hHeld ?_
      rotate_left
      · intro w hSw; (try dsimp only at hSw); go_simp; all_goals (with_reducible rfl)
      try simp only [Act.put, List.setIfInBounds_toArray, List.set_cons_zero, List.set_cons_succ]
      refine wpAnyH_here 8 (v := ?_) rfl (by kernel_rfl) (by kernel_rfl) (by kernel_rfl) (fun _ _ _ h => h) (Or.inl ⟨by rfl, ?_⟩) hHeld ?_
      rotate_left
      · intro w hSw; (try dsimp only at hSw); go_simp; all_goals (with_reducible rfl)
      try simp only [Act.put, List.setIfInBounds_toArray, List.set_cons_zero, List.set_cons_succ]
      refine wpAnyH_here 9 (v := ?_) rfl (by kernel_rfl) (by kernel_rfl) (by kernel_rfl) (fun _ _ _ h => h) (Or.inl ⟨by rfl, ?_⟩) hHeld ?_
      rotate_left
      · intro w hSw; (try dsimp only at hSw); go_simp; all_goals (with_reducible rfl)
      try simp only [Act.put, List.setIfInBounds_toArray, List.set_cons_zero, List.set_cons_succ]
      refine wpAnyH_here 10 (v := ?_) rfl (by kernel_rfl) (by kernel_rfl) (by kernel_rfl) (fun _ _ _ h => h) (Or.inl ⟨by rfl, ?_⟩) hHeld ?_
      rotate_left
      · intro w hSw; (try dsimp only at hSw); go_simp; all_goals (with_reducible rfl)
      try simp only [Act.put, List.setIfInBounds_toArray, List.set_cons_zero, List.set_cons_succ]
      refine wpAnyH_alone 4 rfl (by kernel_rfl) (fun K hK => ?_)
      go_simp
      skip
      refine hK.out _ _ (e1) (fun hHeld => ?_)
      clear hK K
      try simp only [Act.put, List.setIfInBounds_toArray, List.set_cons_zero, List.set_cons_succ]
      refine wpAnyH_alone 5 rfl (by kernel_rfl) (fun K hK => ?_)
      go_simp
      skip
      refine hK.out _ _ (e1) (fun hHeld => ?_)
      clear hK K
      try simp only [Act.put, List.setIfInBounds_toArray, List.set_cons_zero, List.set_cons_succ]
      refine wpAnyH_alone 6 rfl (by kernel_rfl) (fun K hK => ?_)
      go_simp
      skip
      refine hK.out _ _ (e1) (fun hHeld => ?_)
      clear hK K
      try simp only [Act.put, List.setIfInBounds_toArray, List.set_cons_zero, List.set_cons_succ]
      refine wpAnyH_alone 11 rfl (by kernel_rfl) (fun K hK => ?_)
      go_simp
      (go_at_call 10; refine hput.mono ?_; rintro e w6 ⟨rfl, p6, o6, q6⟩; have e6 := (p6.bel.cell (p := ⟨ob, oo + k, none⟩) hob).trans e2)
      refine hK.out _ _ (e6) (fun hHeld => ?_)
      clear hK K
      try simp only [Act.put, List.setIfInBounds_toArray, List.set_cons_zero, List.set_cons_succ]
      refine wpAnyH_here 12 (v := ?_) rfl (by kernel_rfl) (by kernel_rfl) (by kernel_rfl) (fun _ _ _ h => h) (Or.inl ⟨by rfl, ?_⟩) hHeld ?_
      rotate_left
      · intro w hSw; (try dsimp only at hSw); go_simp; all_goals (with_reducible rfl)
      try simp only [Act.put, List.setIfInBounds_toArray, List.set_cons_zero, List.set_cons_succ]
      refine wpAnyH_done (by kernel_rfl) ?_ _
      have h9 := HH.out.2.1.put hk60 d (by rw [HMD.out]; exact hm3)
      rw [HES.out.1, HES.out.2, HMD.out, HH.out.2.2.1, HH.out.2.2.2.1, HH.out.2.2.2.2.1, HH.out.2.2.2.2.2] at h9
      have hA2 := HH.out.2.1.next d
      rw [HES.out.2] at hA2
      have hq1 : S'.most = M := by
        have := HH.out.2.2.1
        rw [← HES.out.2]; unfold puS; split <;> exact this
      have hq2 : S'.room = rm := by
        have := HH.out.2.2.2.1
        rw [← HES.out.2]; unfold puS; split <;> exact this
      by_cases hfit : N < M ∧ U + m ≤ rm
      · obtain ⟨hE0, hq3, hq4⟩ := h9.1 hfit
        subst hE0
        obtain ⟨U2, hU2⟩ : ∃ U2, U2 = U + m := ⟨_, rfl⟩
        obtain ⟨N2, hN2⟩ : ∃ N2, N2 = N + 1 := ⟨_, rfl⟩
        rw [← hU2] at hq4
        rw [← hN2] at hq3
        obtain ⟨R2, hR2⟩ : ∃ R2, R2 = rm - U2 := ⟨_, rfl⟩
        have v1 : decide ((N : Int) < (M : Int)) = true := decide_eq_true (by omega)
        have v2 : decide (N < M) = true := decide_eq_true hfit.1
        have v3 : (U : Int) + (m : Int) = (U2 : Int) := by omega
        have v4 : decide ((U2 : Int) ≤ (rm : Int)) = true := decide_eq_true (by omega)
        have v5 : decide (U2 ≤ rm) = true := decide_eq_true (by omega)
        have v6 : (N : Int) + 1 = (N2 : Int) := by omega
        have v7 : (rm : Int) - (U2 : Int) = (R2 : Int) := by omega
        have v8 : ((R2 : Int) != (R2 : Int)) = false := by simp
        have v9 : ((N2 : Int) != (N2 : Int)) = false := by simp
        have hN2' : N2 ≤ 256 := by omega
        have hU2' : U2 ≤ rm := by omega
        have HU2 := Lib.hid (And.intro hU2 (And.intro hN2 hR2))
        have hfr := p6.free (R2 : Int) (by rw [hq2, hq4]; omega)
        clear h9 hU2 hN2 hR2
        have HP6 := Lib.hid p6
        have e7 := e6
        clear HES HH hcv hcat hput e0 e1 e2 e00 e00r hbz hce o6 q6 hHeld hz1 hz2 hfit p6
        go_wp2_with fail
        refine hfr.mono ?_
        rintro e w7 ⟨rfl, p7, b7⟩
        obtain ⟨NL, hNL⟩ : ∃ NL, S'.l.map (·.1) = NL := ⟨_, rfl⟩
        have hnl : NL.length = N2 := by rw [← hNL, List.length_map, hq3]
        have hnm1 := p7.names NL N2 hNL hnl
        clear hfr b7 hNL hnl p7
        go_wp2_with fail
        refine hnm1.mono ?_
        rintro e w8 ⟨A8, c8, rfl, p8, _, b8⟩
        have HH8 := Lib.hid (And.intro p8 (And.intro hA2 (And.intro hq1 (And.intro hq2 (And.intro hq3 hq4)))))
        clear hnm1 p8 b8 hA2 hq1 hq2 hq3 hq4
        go_wp2
        go_roundw
        case rel => exact ⟨k + 1, N2, U2, S', HK.out, by omega, by omega, by go_num, by go_num, by go_num, HH8⟩
        case measure => have := HK.out; simp [intOf]; omega
      · obtain ⟨hE7, hSs⟩ := h9.2 hfit
        subst hE7
        have hq3 : S'.l.length = N := by rw [hSs]; exact HH.out.2.2.2.2.1
        have hq4 : sz S'.l = U := by rw [hSs]; exact HH.out.2.2.2.2.2
        obtain ⟨R2, hR2⟩ : ∃ R2, R2 = rm - U := ⟨_, rfl⟩
        have v7 : (rm : Int) - (U : Int) = (R2 : Int) := by omega
        have v8 : ((R2 : Int) != (R2 : Int)) = false := by simp
        have v9 : ((N : Int) != (N : Int)) = false := by simp
        have hfr := p6.free (R2 : Int) (by rw [hq2, hq4]; omega)
        clear h9 hR2 hSs
        by_cases hNM : N < M
        · have v1 : decide ((N : Int) < (M : Int)) = true := decide_eq_true (by omega)
          have v2 : decide (N < M) = true := decide_eq_true hNM
          obtain ⟨UU, hUU⟩ : ∃ UU, UU = U + m := ⟨_, rfl⟩
          have v3 : (U : Int) + (m : Int) = (UU : Int) := by omega
          have v4 : decide ((UU : Int) ≤ (rm : Int)) = false := decide_eq_false (by omega)
          have v5 : decide (UU ≤ rm) = false := decide_eq_false (by omega)
          clear hNM hUU
          have HP6 := Lib.hid p6
          have e7 := e6
          clear HES HH hcv hcat hput e0 e1 e2 e00 e00r hbz hce o6 q6 hHeld hz1 hz2 hfit p6
          go_wp2_with fail
          refine hfr.mono ?_
          rintro e w7 ⟨rfl, p7, b7⟩
          obtain ⟨NL, hNL⟩ : ∃ NL, S'.l.map (·.1) = NL := ⟨_, rfl⟩
          have hnl : NL.length = N := by rw [← hNL, List.length_map, hq3]
          have hnm1 := p7.names NL N hNL hnl
          clear hfr b7 hNL hnl p7
          go_wp2_with fail
          refine hnm1.mono ?_
          rintro e w8 ⟨A8, c8, rfl, p8, _, b8⟩
          have HH8 := Lib.hid (And.intro p8 (And.intro hA2 (And.intro hq1 (And.intro hq2 (And.intro hq3 hq4)))))
          clear hnm1 p8 b8 hA2 hq1 hq2 hq3 hq4
          go_wp2
          go_roundw
          case rel => exact ⟨k + 1, N, U, S', HK.out, by omega, by omega, by go_num, by go_num, by go_num, HH8⟩
          case measure => have := HK.out; simp [intOf]; omega
  
        · have v1 : decide ((N : Int) < (M : Int)) = false := decide_eq_false (by omega)
          have v2 : decide (N < M) = false := decide_eq_false hNM
          clear hNM
          have HP6 := Lib.hid p6
          have e7 := e6
          clear HES HH hcv hcat hput e0 e1 e2 e00 e00r hbz hce o6 q6 hHeld hz1 hz2 hfit p6
          go_wp2_with fail
          refine hfr.mono ?_
          rintro e w7 ⟨rfl, p7, b7⟩
          obtain ⟨NL, hNL⟩ : ∃ NL, S'.l.map (·.1) = NL := ⟨_, rfl⟩
          have hnl : NL.length = N := by rw [← hNL, List.length_map, hq3]
          have hnm1 := p7.names NL N hNL hnl
          clear hfr b7 hNL hnl p7
          go_wp2_with fail
          refine hnm1.mono ?_
          rintro e w8 ⟨A8, c8, rfl, p8, _, b8⟩
          have HH8 := Lib.hid (And.intro p8 (And.intro hA2 (And.intro hq1 (And.intro hq2 (And.intro hq3 hq4)))))
          clear hnm1 p8 b8 hA2 hq1 hq2 hq3 hq4
          go_wp2
          go_roundw
          case rel => exact ⟨k + 1, N, U, S', HK.out, by omega, by omega, by go_num, by go_num, by go_num, HH8⟩
          case measure => have := HK.out; simp [intOf]; omega
  
    · obtain rfl : k = n := by omega
      have hbd := @bad_no s
      have hbg := @big_no s
      have hp1 := HH.out.1.put [97, 32, 98] [] 0 none 0 1 s hbd.1 hbd.2 (Lib.hid rfl) (Dq.nil_ wr).dt (by decide)
      have hmk := fun W => make_file W
      have hj1 : (1 : Nat) = 1 := rfl
      have HF := Lib.hid (And.intro HH.out.2.2.2.2.1 hbg)
      clear HH hkn hbd hbg hj1
      go_wp2_with fail
      refine hp1.mono ?_
      rintro e w6 ⟨rfl, p6, _, _⟩
      have p7 := p6.later (bel_new w6 (.cells (madeCells #[.int .u8 0] 65537) 5))
      have hdt : Dt (w6.alloc (.cells (madeCells #[.int .u8 0] 65537) 5)) (w6.alloc (.cells (madeCells #[.int .u8 0] 65537) 5)).heap.size (List.replicate 65537 (0#8)) (some ⟨w6.heap.size, 0, none⟩) 65537 :=
        ⟨Bs_new w6 5 _ _ (made_zeros 65537) _ (by simp), (fun h => by cases h), by rw [List.length_replicate]; exact Nat.le_refl _, by unfold maxLen; omega⟩
      have hp2 := p7.put [121] (List.replicate 65537 (0#8)) 65537 (some ⟨w6.heap.size, 0, none⟩) 65537 6 s HF.out.2.1 HF.out.2.2 (Lib.hid (by rw [List.length_replicate])) hdt (by decide)
      clear hp1 p6 p7 hdt
      go_wp2_with fail
      refine hp2.mono ?_
      rintro e w8 ⟨rfl, p8, _, _⟩
      obtain ⟨NL, hNL⟩ : ∃ NL, s.l.map (·.1) = NL := ⟨_, rfl⟩
      have hnl : NL.length = N := by rw [← hNL, List.length_map]; exact HF.out.1
      have hnm1 := p8.names NL N hNL hnl
      have v9 : ((N : Int) == (N : Int)) = true := by simp
      clear hp2 hNL hnl p8 hmk
      go_wp2_with fail
      refine hnm1.mono ?_
      rintro e w9 ⟨A9, c9, rfl, p9, _, _⟩
      clear hnm1
      go_wp2_with fail
      refine (hal _).mono ?_
      rintro e wz ⟨rfl, bz⟩
      go_wp2
      go_ret
      exact ⟨rfl, p9.bel.trans (bz.mono p9.bel.size)⟩
end Go.Proofs.Ytbeekfbcflmemaa.Fil
