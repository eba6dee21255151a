/-
  The reference of layer 20: Take where it works.
-/
import Derived.Test.YtcmonalnhdodmaaRef20c
import Derived.Deep.CutRange
import Derived.Deep.CutBlock
namespace Go.Proofs.Ytcmonalnhdodmaa.Unp
open Go.RowKit Go.Proofs.Ytcmonalnhdodmaa.Row Lst
open Pac (bel_new siE siN tot b8 b8_at siE_short siE_zero Cel.later)

/-- how many elements a slice value has -/
def slLen : Value → Nat
  | .slice _ n _ => n
  | _ => 0

section
variable {w : World} {A a : Option Addr} {n c m cd ct fn : Nat} {r : RU} {d : List Byte}
set_option maxRecDepth 100000 in
set_option maxHeartbeats 8000000 in
theorem xtake_ok (hok : r.Ok) (hlo : r.lo ≤ 1000000000000) (hr : Rd w A r.rs n c) (hd : Rd w a d m cd) (hm : m ≤ 1000000) (hct : ct < 256) (hf : fn < m ∨ fn = 2047 ∨ fn = 2046) :
    Calls Try.prog 12 #[.agg #[.bool r.st, .int .i64 (r.nx : Int), .int .i64 (r.lo : Int), .bool r.sp, .slice A n c], .int .i64 (ct : Int), .int .i64 (fn : Int), .slice a m cd] w fun e w' =>
      ∃ (r' : RU) (A' : Option Addr) (n' c' : Nat) (R : Value), e = .returned (.tuple #[.agg #[.bool r'.st, .int .i64 (r'.nx : Int), .int .i64 (r'.lo : Int), .bool r'.sp, .slice A' n' c'], R]) ∧ XtOut w A (tkS r.us (ct : Int) (fn : Int) d) (tkO r.us (ct : Int) (fn : Int) d) r' A' n' c' R w' := by
  have hX1 := Xs.start w r A n c
  have hAr : Arg (ct : Int) (fn : Int) d := ⟨by omega, by omega, by rw [hd.len]; omega⟩
  have e1 : tkS r.us (ct : Int) (fn : Int) d = if (fn : Int) = 2046 then flw r.us ct else { flw r.us ct with rs := (prs (stm (flw r.us ct).rs fn d)).2 } := by unfold tkS; rw [if_pos hAr]; rfl
  have e2 : tkO r.us (ct : Int) (fn : Int) d = if (fn : Int) = 2046 then [] else (prs (stm (flw r.us ct).rs fn d)).1 := by unfold tkO; rw [if_pos hAr]; rfl
  rw [e1, e2, ← RU.flw_us]
  clear e1 e2 hAr
  obtain ⟨D, hD⟩ : ∃ D, dst r.us ct = D := ⟨_, rfl⟩
  have hDb : D < 256 := by rw [← hD]; exact dst_lt _ _
  have hDs : r.st = true → ((ct : Int) + 256 - (r.nx : Int)).tmod 256 = (D : Int) := fun hs => by
    rw [← hD]
    unfold dst RU.us
    simp only [hs, if_true]
    have := hok.e
    rw [Int.tmod_eq_emod_of_nonneg (by omega)]
    omega
  have hDn : r.st = false → D = 0 := fun hs => by
    rw [← hD]
    unfold dst RU.us
    simp [hs]
  obtain ⟨L, hL⟩ : ∃ L, r.lo + D = L := ⟨_, rfl⟩
  obtain ⟨N, hN⟩ : ∃ N, (ct + 1) % 256 = N := ⟨_, rfl⟩
  have hfl : r.flw ct = ⟨true, N, L, r.sp && decide (D = 0), r.rs⟩ := by unfold RU.flw; rw [hD, hL, hN]
  rw [hfl]
  obtain ⟨S', hS'⟩ : ∃ S', (if (fn : Int) = 2046 then RU.us ⟨true, N, L, r.sp && decide (D = 0), r.rs⟩ else { RU.us ⟨true, N, L, r.sp && decide (D = 0), r.rs⟩ with rs := (prs (stm (RU.us ⟨true, N, L, r.sp && decide (D = 0), r.rs⟩).rs fn d)).2 }) = S' := ⟨_, rfl⟩
  obtain ⟨O', hO'⟩ : ∃ O', (if (fn : Int) = 2046 then [] else (prs (stm (RU.us ⟨true, N, L, r.sp && decide (D = 0), r.rs⟩).rs fn d)).1) = O' := ⟨_, rfl⟩
  rw [hS', hO']
  have hokr := hok.k
  have hnx := hok.e
  obtain ⟨st, nx, lo, sp, rs⟩ := r
  simp only at hX1 hDs hDn hL hr hlo hokr hnx hS' hO' ⊢
  clear hok hD hfl
  obtain ⟨sp1, hsp1⟩ : ∃ sp1, (sp && decide (D = 0)) = sp1 := ⟨_, rfl⟩
  rw [hsp1] at hS' hO'
  have HSO := Lib.hid (And.intro hS' hO')
  clear hS' hO'
  obtain ⟨W1, hW1⟩ : ∃ W1, W1 = (w.alloc (.cells #[.bool st, .int .i64 (nx : Int), .int .i64 (lo : Int), .bool sp, .slice A n c] 28)).alloc (.cells #[.bool false, .int .i64 0, .int .i64 0, .bool false, .slice none 0 0] 28) := ⟨_, rfl⟩
  have hX1 : Xs w ⟨st, nx, lo, sp, rs⟩ A n c W1 := by rw [hW1]; exact hX1
  have HX1 := Lib.hid hX1
  have HR := Lib.hid (And.intro hr (And.intro hd hokr))
  have u1 : decide ((ct : Int) < 0) = false := by simp
  have u2 : decide ((255 : Int) < (ct : Int)) = false := by simp; omega
  have u3 : decide ((fn : Int) < 0) = false := by simp
  clear hX1 hr hd hokr
  go_enter Try.func12, Try.ntmps12
  go_upto_region 1 with fail
  rw [← hW1]
  clear hW1
  go_cut [37] from 14 to 36 (fun t wx => t = .bool false ∧ wx = W1)
  case first =>
    rcases Nat.lt_or_ge fn m with h1 | h1
    · have u4 : decide ((m : Int) ≤ (fn : Int)) = false := by simp; omega
      have u4' : decide (m ≤ fn) = false := by simp; omega
      clear hDs hDn hL hN hf h1
      go_wp2
      go_meet
      case rel => exact ⟨rfl, rfl⟩
    · have u4 : decide ((m : Int) ≤ (fn : Int)) = true := by simp; omega
      have u4' : decide (m ≤ fn) = true := by simp; omega
      by_cases h2 : fn = 2047
      · have u5 : ((fn : Int) != 2047) = false := by simp; omega
        clear hDs hDn hL hN hf h1 h2
        go_wp2
        go_meet
        case rel => exact ⟨rfl, rfl⟩
      · have u5 : ((fn : Int) != 2047) = true := by simp; omega
        have u6 : ((fn : Int) != 2046) = false := by simp; omega
        clear hDs hDn hL hN hf h1 h2
        go_wp2
        go_meet
        case rel => exact ⟨rfl, rfl⟩
  case rest =>
    obtain ⟨rfl, rfl⟩ := hcut
    have c0 := HX1.out.p.cell 0
    simp [RU.cs] at c0
    go_upto_if 40 with fail
    clear c0
    go_cut [10] from 41 to 58 (fun _ wx => Xs w ⟨st, nx, L, sp1, rs⟩ A n c wx)
    case first =>
      have c1 := HX1.out.p.cell 1
      have c2 := HX1.out.p.cell 2
      have c3 := HX1.out.p.cell 3
      have f2 := HX1.out.p.free 2
      have f3 := HX1.out.p.free 3
      simp [RU.cs] at c1 c2 c3
      cases st with
      | false =>
        have hD0 := hDn rfl
        subst hD0
        have hX : Xs w ⟨false, nx, L, sp1, rs⟩ A n c wc := by have h := HX1.out; rw [← hsp1, ← hL]; simpa using h
        have HX := Lib.hid hX
        clear hDs hDn hL hN hf hX
        go_wp2
        go_meet
        case rel => exact HX.out
      | true =>
        have hT := hDs rfl
        have hL1 : (lo : Int) + (D : Int) = (L : Int) := by omega
        have hLb : L ≤ 2000000000000 := by omega
        have hX : Xs w ⟨true, nx, L, sp1, rs⟩ A n c _ := (HX1.out.set_ (i := 2) (v := .int .i64 (L : Int)) (r2 := ⟨true, nx, L, sp, rs⟩) (A2 := A) (n2 := n) (c2 := c) rfl).set_ (i := 3) (v := .bool sp1) (r2 := ⟨true, nx, L, sp1, rs⟩) (A2 := A) (n2 := n) (c2 := c) rfl
        have HX := Lib.hid hX
        have hwL : wrap64 (L : Int) = (L : Int) := by clear hT hL1 hDs hDn hL hN; unfold wrap64; omega
        cases sp with
        | false =>
          have e : sp1 = false := by rw [← hsp1]; rfl
          subst e
          clear hDs hDn hL hN hf hX hsp1
          go_wp2
          go_meet
          case rel => exact HX.out
        | true =>
          have e : sp1 = ((D : Int) == 0) := by rw [← hsp1, Bool.eq_iff_iff]; simp
          subst e
          obtain ⟨b, hb⟩ : ∃ b, ((D : Int) == 0) = b := ⟨_, rfl⟩
          rw [hb] at HX
          clear hDs hDn hL hN hf hX hsp1
          go_wp2
          go_meet
          case rel => rw [hb]; exact HX.out
    case rest =>
      have HX2 := Lib.hid hcut
      clear hcut HX1 hDs hDn hL hsp1 u1 u2 u3
      obtain ⟨W2, hW2⟩ : ∃ W2, W2 = (wc.setCell ⟨w.heap.size, 0, none⟩ (.bool true)).setCell ⟨w.heap.size, 1, none⟩ (.int .i64 (N : Int)) := ⟨_, rfl⟩
      have hX2 : Xs w ⟨true, N, L, sp1, rs⟩ A n c W2 := by
        rw [hW2]
        exact (HX2.out.set_ (i := 0) (v := .bool true) (r2 := ⟨true, nx, L, sp1, rs⟩) (A2 := A) (n2 := n) (c2 := c) rfl).set_ (i := 1) (v := .int .i64 (N : Int)) (r2 := ⟨true, N, L, sp1, rs⟩) (A2 := A) (n2 := n) (c2 := c) rfl
      have c0 := HX2.out.p.cell 0
      have c1 := HX2.out.p.cell 1
      have f0 := HX2.out.p.free 0
      have f1 := HX2.out.p.free 1
      simp [RU.cs] at c0 c1
      have hT : ((ct : Int) + 1).tmod 256 = (N : Int) := by rw [Int.tmod_eq_emod_of_nonneg (by omega)]; omega
      have HX3 := Lib.hid hX2
      clear hX2 HX2
      go_upto_region 9 with fail
      rw [← hW2]
      clear hW2 c0 c1 f0 f1 hT
      by_cases h46 : fn = 2046
      · have t46 : ((fn : Int) == 2046) = true := by simp; omega
        have hSO := HSO.out
        rw [if_pos (by omega), if_pos (by omega)] at hSO
        have HSO2 := Lib.hid hSO
        clear hSO
        have c0 := HX3.out.p.cell 0
        have c1 := HX3.out.p.cell 1
        have c2 := HX3.out.p.cell 2
        have c3 := HX3.out.p.cell 3
        have c4 := HX3.out.p.cell 4
        simp [RU.cs] at c0 c1 c2 c3 c4
        have y0 := HX3.out.z.cell 0
        have y1 := HX3.out.z.cell 1
        have y2 := HX3.out.z.cell 2
        have y3 := HX3.out.z.cell 3
        have y4 := HX3.out.z.cell 4
        simp at y0 y1 y2 y3 y4
        have f0 := HX3.out.z.free 0
        have f1 := HX3.out.z.free 1
        have f2 := HX3.out.z.free 2
        have f3 := HX3.out.z.free 3
        have f4 := HX3.out.z.free 4
        have q5 := put5_cel HX3.out.z (.bool true) (.int .i64 (N : Int)) (.int .i64 (L : Int)) (.bool sp1) (.slice A n c)
        have k5 := put5_only W2 (w.heap.size + 1) (.bool true) (.int .i64 (N : Int)) (.int .i64 (L : Int)) (.bool sp1) (.slice A n c)
        have b5 := HX3.out.b.trans (k5.below HX3.out.b.size (by simp))
        unfold put5 at q5 b5
        have HF := Lib.hid (And.intro q5 b5)
        clear q5 k5 b5 hf h46
        go_wp2
        refine bodyPost_ret (xt_results rfl rfl HF.out.1) rfl ⟨⟨true, N, L, sp1, rs⟩, A, n, c, _, rfl, ⟨HR.out.1.later HF.out.2, HSO2.out.1, ⟨HR.out.2.2, by have := hN; simp only; omega⟩, ⟨[], by rw [← HSO2.out.2]; exact LO.nil_ _ _ _ _⟩, fun x hx => .inl hx, HF.out.2⟩⟩
      · have t46 : ((fn : Int) == 2046) = false := by simp; omega
        have hSO := HSO.out
        rw [if_neg (by omega), if_neg (by omega)] at hSO
        have HSO2 := Lib.hid hSO
        clear hSO HSO
        go_upto_region 11 with fail
        obtain ⟨q, hq⟩ : ∃ q, ((fn : Int) != fit rs d) = q := ⟨_, rfl⟩
        obtain ⟨F, hF⟩ : ∃ F, fit rs d = F := ⟨_, rfl⟩
        have hst : ((sp1 && !q) = true → stm (if sp1 then rs else []) fn d = rs ++ d) ∧ ((sp1 && !q) = false → stm (if sp1 then rs else []) fn d = if fn = 2047 then [] else d.drop fn) := by
          have hk := HR.out.2.2
          have e : (if (fn : Int) = 2047 then ([] : List Byte) else d.drop (fn : Int).toNat) = if fn = 2047 then [] else d.drop fn := by
            by_cases h : fn = 2047
            · rw [if_pos h, if_pos (by omega)]
            · rw [if_neg h, if_neg (by omega)]; rfl
          refine ⟨fun h => ?_, fun h => ?_⟩
          · simp only [Bool.and_eq_true, Bool.not_eq_true'] at h
            rw [if_pos h.1]
            exact stm_fit hk (by omega) (by have := h.2; rw [← hq] at this; simpa using this)
          · cases sp1 with
            | false => rw [if_neg (by simp), stm_out, e]
            | true =>
              rw [if_pos rfl, stm_not hk (by omega) (by
                simp only [Bool.true_and, Bool.not_eq_false'] at h
                rw [← hq] at h
                simpa using h), e]
        have hu : (RU.us ⟨true, N, L, sp1, rs⟩).rs = if sp1 then rs else [] := rfl
        rw [hF] at hq
        obtain ⟨tt, htt⟩ : ∃ tt, (sp1 && q) = tt := ⟨_, rfl⟩
        obtain ⟨sp2, hsp2⟩ : ∃ sp2, (sp1 && !q) = sp2 := ⟨_, rfl⟩
        have hz : sp2 = if tt then false else sp1 := by rw [← htt, ← hsp2]; cases sp1 <;> cases q <;> rfl
        have ht1 : sp1 = true → tt = q := fun h => by rw [← htt, h]; rfl
        have ht0 : sp1 = false → tt = false := fun h => by rw [← htt, h]; rfl
        rw [hsp2] at hst
        have HST := Lib.hid hst
        have HTT := Lib.hid (And.intro hz (And.intro ht1 ht0))
        clear hst hz ht1 ht0 htt hsp2
        go_cut [76] from 67 to 75 (fun t wx => t = .bool tt ∧ Xs w ⟨true, N, L, sp1, rs⟩ A n c wx)
        case first =>
          have c3 := HX3.out.p.cell 3
          have c4 := HX3.out.p.cell 4
          simp [RU.cs] at c3 c4
          have xf := xfitting_any W2 (HR.out.1.later HX3.out.b) (HR.out.2.1.later HX3.out.b) HR.out.2.2 hm
          rw [hF] at xf
          clear hf h46 hF
          cases sp1 with
          | false =>
            clear HST hu HSO2
            go_wp2
            go_meet
            case rel => exact ⟨by have k := HTT.out.2.2; simp at k; rw [k], HX3.out⟩
          | true =>
            clear HST hu HSO2
            go_wp2_with fail
            refine xf.mono ?_
            rintro e w5 ⟨rfl, b5⟩
            go_wp2
            go_meet
            case rel => exact ⟨by have k := HTT.out.2.1; simp at k; rw [k], HX3.out.below b5⟩
        case rest =>
          obtain ⟨rfl, hX4⟩ := hcut
          have HX4 := Lib.hid hX4
          clear hX4 HX3 hq hF
          go_upto_if 76 with fail
          go_cut [] from 77 to 77 (fun wx => Xs w ⟨true, N, L, sp2, rs⟩ A n c wx)
          case first =>
            have c3 := HX4.out.p.cell 3
            have f3 := HX4.out.p.free 3
            simp [RU.cs] at c3
            have HX := Lib.hid (HX4.out.set_ (i := 3) (v := .bool false) (r2 := ⟨true, N, L, false, rs⟩) (A2 := A) (n2 := n) (c2 := c) rfl)
            have hz := HTT.out.1
            clear HST hu HSO2 hf h46
            cases tt with
            | false =>
              clear HX
              have HZ := Lib.hid hz
              clear hz
              go_wp2
              go_meet
              case rel => have := HZ.out; simp at this; rw [this]; exact HX4.out
            | true =>
              have HZ := Lib.hid hz
              clear hz
              go_wp2
              go_meet
              case rel => have := HZ.out; simp at this; rw [this]; exact HX.out
          case rest =>
            have HX5 := Lib.hid hcut
            clear hcut HX4 HTT
            obtain ⟨Y, hY⟩ : ∃ Y, stm (if sp1 then rs else []) fn d = Y := ⟨_, rfl⟩
            rw [hu, hY] at HSO2
            rw [hY] at HST
            clear hu hY
            have c4 := HX5.out.p.cell 4
            simp [RU.cs] at c4
            obtain ⟨M, hM⟩ : ∃ M, n + m = M := ⟨_, rfl⟩
            have HRC := Lib.hid (And.intro (HR.out.1.later HX5.out.b) (HR.out.2.1.later HX5.out.b))
            have hnl : n ≤ 4096 := by have := HR.out.2.2.len; have := HR.out.1.len; omega
            have HN : Hid (n ≤ 4096 ∧ rs.length + m ≤ 1004096 ∧ (rs ++ d).length = M) := Lib.hid ⟨hnl, by have := HR.out.1.len; omega, by rw [List.length_append]; have := HR.out.1.len; have := HR.out.2.1.len; omega⟩
            have b1 := bel_new wc (.cells #[] 5)
            have o1 := Ow_empty wc wc.heap.size 5 (Nat.le_refl _)
            have e4 := (Cel.later HX5.out.p b1).cell 4
            simp [RU.cs] at e4
            clear hM hnl
            by_cases hpath : sp2 = false ∧ fn = 2047
            · obtain ⟨rfl, h47⟩ := hpath
              have hY0 : Y = [] := by rw [HST.out.2 rfl, if_pos h47]
              have t47 : ((fn : Int) == 2047) = true := by simp; omega
              have HY := Lib.hid hY0
              clear hf h46 h47 hY0 HST
              go_wp2_with (first
                | (at_builtin; refine wpList_appN _ is_bytes rfl (.tmp 78) (.tmp 80) rfl (m := []) rfl o1 HRC.out.1.len rfl (HRC.out.1.bs.below b1) HRC.out.1.nil (by have := HN.out; simp; omega) b1.size ?_; intro v2 w2 ho2 hg2 hv2; have b2 := b1.grown hg2 b1.size o1.base_le; clear hg2 hv2)
                | (at_builtin; refine wpList_appN _ is_bytes rfl (.tmp 81) (.tmp 82) rfl (m := [] ++ rs) rfl ho2 HRC.out.2.len rfl (HRC.out.2.bs.below b2) HRC.out.2.nil (by have := HN.out; simp; omega) b2.size ?_; intro v3 w3 ho3 hg3 hv3; have b3 := b2.grown hg3 b2.size ho2.base_le; rw [List.nil_append] at ho3; obtain ⟨A3, c3, rfl, r3⟩ := Rd.of (n := M) ho3 HN.out.2.2; clear hg3 hv3 ho2 b2; have X3 := HX5.out.below b3; have c0 := X3.p.cell 0; have c1 := X3.p.cell 1; have c2 := X3.p.cell 2; have d3 := X3.p.cell 3; have c4 := X3.p.cell 4; have f4 := X3.p.free 4; simp [RU.cs] at c0 c1 c2 d3 c4; have y0 := X3.z.cell 0; have y1 := X3.z.cell 1; have y2 := X3.z.cell 2; have y3 := X3.z.cell 3; have y4 := X3.z.cell 4; simp at y0 y1 y2 y3 y4; have g0 := X3.z.free 0; have g1 := X3.z.free 1; have g2 := X3.z.free 2; have g3 := X3.z.free 3; have g4 := X3.z.free 4; have X4 : Xs w ⟨true, N, L, false, []⟩ none 0 0 _ := X3.set_ (i := 4) (v := .slice none 0 0) rfl; have q5 := put5_cel X4.z (.bool true) (.int .i64 (N : Int)) (.int .i64 (L : Int)) (.bool false) (.slice none 0 0); have b5 := X4.b.trans ((put5_only (w3.setCell ⟨w.heap.size, 4, none⟩ (.slice none 0 0)) (w.heap.size + 1) (.bool true) (.int .i64 (N : Int)) (.int .i64 (L : Int)) (.bool false) (.slice none 0 0)).below X4.b.size (by simp)); unfold put5 at q5 b5; have HF := Lib.hid (And.intro q5 b5); clear X3 X4 q5 b5 b3 r3 ho3))
              refine bodyPost_ret (xt_results rfl rfl HF.out.1) rfl ⟨⟨true, N, L, false, []⟩, none, 0, 0, _, rfl, ⟨⟨rfl, Bs.nil_, fun _ => rfl, Nat.le_refl _, by decide⟩, ?_, ⟨.nil_, by have := hN; simp only; omega⟩, ⟨[], ?_⟩, (fun x hx => nomatch hx), HF.out.2⟩⟩
              · rw [← HSO2.out.1, HY.out, prs_few (l := []) (by simp)]
                rfl
              · rw [← HSO2.out.2, HY.out, prs_few (l := []) (by simp)]
                exact LO.nil_ _ _ _ _
            · have hp2 : sp2 = true ∨ fn ≠ 2047 := by
                cases sp2 with
                | true => exact .inl rfl
                | false => exact .inr (fun e => hpath ⟨rfl, e⟩)
              have HYb : Hid (Y.length ≤ 2000000) := Lib.hid (by
                have h1 := HRC.out.1.len
                have h2 := HRC.out.2.len
                have h3 := HN.out
                cases sp2 with
                | true => rw [HST.out.1 rfl, List.length_append]; omega
                | false =>
                  rw [HST.out.2 rfl]
                  split
                  · simp
                  · rw [List.length_drop]; omega)
              clear hpath
              go_upto_if 86 with (first
                | (at_builtin; refine wpList_appN _ is_bytes rfl (.tmp 78) (.tmp 80) rfl (m := []) rfl o1 HRC.out.1.len rfl (HRC.out.1.bs.below b1) HRC.out.1.nil (by have := HN.out; simp; omega) b1.size ?_; intro v2 w2 ho2 hg2 hv2; have b2 := b1.grown hg2 b1.size o1.base_le; clear hg2 hv2)
                | (at_builtin; refine wpList_appN _ is_bytes rfl (.tmp 81) (.tmp 82) rfl (m := [] ++ rs) rfl ho2 HRC.out.2.len rfl (HRC.out.2.bs.below b2) HRC.out.2.nil (by have := HN.out; simp; omega) b2.size ?_; intro v3 w3 ho3 hg3 hv3; have b3 := b2.grown hg3 b2.size ho2.base_le; rw [List.nil_append] at ho3; obtain ⟨A3, c3, rfl, r3⟩ := Rd.of (n := M) ho3 HN.out.2.2; clear hg3 hv3 ho2 b2; have X3 := HX5.out.below b3; have d3 := X3.p.cell 3; simp [RU.cs] at d3; have l3 := Lk.own (ho3.more HX5.out.b.size) HN.out.2.2; have HL3 := Lib.hid (And.intro X3 l3); clear X3 l3 b3 r3 ho3))
              go_cut [11] from 87 to 93 (fun bv wx => ∃ (A9 : Option Addr) (n9 c9 : Nat), bv = .slice A9 n9 c9 ∧ Lk w.heap.size wx A9 Y n9 c9 ∧ Xs w ⟨true, N, L, sp2, rs⟩ A n c wx)
              case first =>
                cases sp2 with
                | true =>
                  have hY1 := Lib.hid (HST.out.1 rfl)
                  clear hf h46 HST hp2
                  go_wp2
                  go_meet
                  case rel => exact ⟨_, _, _, rfl, by rw [hY1.out]; exact HL3.out.2, HL3.out.1⟩
                | false =>
                  have h47 : fn ≠ 2047 := by rcases hp2 with h | h; cases h; exact h
                  have hfm : fn < m := by omega
                  have hY1 : Hid (Y = d.drop fn) := Lib.hid (by rw [HST.out.2 rfl, if_neg h47])
                  have t47 : ((fn : Int) == 2047) = false := by simp; omega
                  have lk0 := (Lk.old HR.out.2.1 (by omega)).only (S := []) (B := w.heap.size) (w' := w3) (Only.of_below HL3.out.1.b) (by simp)
                  have hcd := HR.out.2.1.le
                  have lk1 := lk0.drop (k := fn) (by omega)
                  obtain ⟨ad, had⟩ : ∃ ad, (if cd = fn then a else Option.map (fun x => x.add fn) a) = ad := ⟨_, rfl⟩
                  obtain ⟨md, hmd⟩ : ∃ md, m - fn = md := ⟨_, rfl⟩
                  obtain ⟨ed, hed⟩ : ∃ ed, cd - fn = ed := ⟨_, rfl⟩
                  rw [had, hmd, hed] at lk1
                  have s1_ : (fn : Int) ≤ (cd : Int) := by omega
                  have s2_ : fn ≤ cd := by omega
                  have s3_ : (fn : Int) ≤ (m : Int) := by omega
                  have s4_ : fn ≤ m := by omega
                  have HLK := Lib.hid lk1
                  clear hf h46 HST hp2 h47 hfm lk0 lk1 hcd
                  go_wp2
                  go_meet
                  case rel => exact ⟨_, _, _, rfl, by rw [hY1.out]; exact HLK.out, HL3.out.1⟩
              case rest =>
                obtain ⟨A9, n9, c9, rfl, hl9, hx9⟩ := hcut
                clear HL3 d3 c4 e4 o1 b1 hf h46 HST hp2 t46
                have hY2 : n9 ≤ 2000000 := by rw [← hl9.r.len]; exact HYb.out
                have f3 := hx9.p.free 3
                have d3 := hx9.p.cell 3
                simp [RU.cs] at d3
                have hs0 : Ls w N L rs A n c Y Y A9 n9 c9 [] (.slice none 0 0) [] true _ := Ls.start (hx9.set_ (i := 3) (v := .bool true) (r2 := ⟨true, N, L, true, rs⟩) (A2 := A) (n2 := n) (c2 := c) rfl) (hl9.only (set_only wc w.heap.size 3 (.bool true)) hx9.hS)
                have HS0 := Lib.hid hs0
                have HY := Lib.hid hY2
                have HNN : Hid (N < 256) := Lib.hid (by omega)
                clear hs0 hl9 hx9 hY2
                go_wp2_with fail
                go_loopw [11, 12, 13] (fun bv ov _ wr => ∃ (l : List Byte) (A3 : Option Addr) (n3 c3 : Nat) (O : List (List Byte)) (E : List Nat) (stp : Bool), bv = .slice A3 n3 c3 ∧ n3 ≤ 2000000 ∧ Ls w N L rs A n c Y l A3 n3 c3 O ov E stp wr) (fun bv _ _ _ => slLen bv)
                case atStart => exact ⟨_, _, _, _, _, _, _, rfl, HY.out, HS0.out⟩
                case round =>
                  obtain ⟨l, A3, n3, c3, O, E, stp, rfl, hn3, hL⟩ := hrel
                  clear HS0 d3 f3
                  have c3_ := hL.xs.p.cell 3
                  have f3_ := hL.xs.p.free 3
                  simp [RU.cs] at c3_
                  have hlen := hL.lk.r.len
                  cases stp with
                  | false =>
                    have hl0 := hL.hz rfl
                    have hpp : prs Y = (O, l) := by have := hL.hp; rw [hl0, prs_few (l := []) (by simp), List.append_nil] at this; rw [hl0]; exact this
                    clear hl0 hlen
                    have hxw := hL.xs
                    have b7 := bel_new wr (.cells #[] 5)
                    have o7 := Ow_empty wr wr.heap.size 5 (Nat.le_refl _)
                    have HL := Lib.hid (And.intro hL hpp)
                    have hr7 := hL.lk.r
                    have HB7 := Lib.hid (And.intro hr7 hn3)
                    clear hL hpp hxw hr7 hn3
                    go_wp2_with (first
                      | (at_builtin; refine wpList_appN _ is_bytes rfl (.tmp 134) (.tmp 135) rfl (m := []) rfl o7 HB7.out.1.len rfl (HB7.out.1.bs.below b7) HB7.out.1.nil (by have := HB7.out.2; simp; omega) b7.size ?_; intro v8 w8 ho8 hg8 hv8; have b8 := b7.grown hg8 b7.size o7.base_le; rw [List.nil_append] at ho8; obtain ⟨A8, c8, rfl, _⟩ := ho8.reads_len HB7.out.1.len; clear hg8 hv8; have X8 := HL.out.1.xs.below b8; have i0 := X8.p.cell 0; have i1 := X8.p.cell 1; have i2 := X8.p.cell 2; have i3 := X8.p.cell 3; have i4 := X8.p.cell 4; have k4 := X8.p.free 4; simp [RU.cs] at i0 i1 i2 i3 i4; have y0 := X8.z.cell 0; have y1 := X8.z.cell 1; have y2 := X8.z.cell 2; have y3 := X8.z.cell 3; have y4 := X8.z.cell 4; simp at y0 y1 y2 y3 y4; have k0 := X8.z.free 0; have k1 := X8.z.free 1; have k2 := X8.z.free 2; have k3 := X8.z.free 3; have k5 := X8.z.free 4; have hdone := HL.out.1.done HL.out.2 b8 ho8 HSO2.out.1 HSO2.out.2 HNN.out; unfold put5 at hdone; have HD := Lib.hid hdone; clear X8 hdone b8 ho8))
                    exact bodyPost_ret (xt_results rfl rfl HD.out.1) rfl ⟨_, _, _, _, _, rfl, HD.out.2⟩
                  | true =>
                    by_cases h6 : n3 < 6
                    · have t1 : decide ((6 : Int) ≤ (n3 : Int)) = false := by simp; omega
                      have t1' : decide (6 ≤ n3) = false := by simp; omega
                      have hpp : prs Y = (O, l) := by have := hL.hp; rw [prs_few (l := l) (by omega), List.append_nil] at this; exact this
                      clear hlen h6
                      have hxw := hL.xs
                      have b7 := bel_new wr (.cells #[] 5)
                      have o7 := Ow_empty wr wr.heap.size 5 (Nat.le_refl _)
                      have HL := Lib.hid (And.intro hL hpp)
                      have hr7 := hL.lk.r
                      have HB7 := Lib.hid (And.intro hr7 hn3)
                      clear hL hpp hxw hr7 hn3
                      go_wp2_with (first
                        | (at_builtin; refine wpList_appN _ is_bytes rfl (.tmp 134) (.tmp 135) rfl (m := []) rfl o7 HB7.out.1.len rfl (HB7.out.1.bs.below b7) HB7.out.1.nil (by have := HB7.out.2; simp; omega) b7.size ?_; intro v8 w8 ho8 hg8 hv8; have b8 := b7.grown hg8 b7.size o7.base_le; rw [List.nil_append] at ho8; obtain ⟨A8, c8, rfl, _⟩ := ho8.reads_len HB7.out.1.len; clear hg8 hv8; have X8 := HL.out.1.xs.below b8; have i0 := X8.p.cell 0; have i1 := X8.p.cell 1; have i2 := X8.p.cell 2; have i3 := X8.p.cell 3; have i4 := X8.p.cell 4; have k4 := X8.p.free 4; simp [RU.cs] at i0 i1 i2 i3 i4; have y0 := X8.z.cell 0; have y1 := X8.z.cell 1; have y2 := X8.z.cell 2; have y3 := X8.z.cell 3; have y4 := X8.z.cell 4; simp at y0 y1 y2 y3 y4; have k0 := X8.z.free 0; have k1 := X8.z.free 1; have k2 := X8.z.free 2; have k3 := X8.z.free 3; have k5 := X8.z.free 4; have hdone := HL.out.1.done HL.out.2 b8 ho8 HSO2.out.1 HSO2.out.2 HNN.out; unfold put5 at hdone; have HD := Lib.hid hdone; clear X8 hdone b8 ho8))
                      exact bodyPost_ret (xt_results rfl rfl HD.out.1) rfl ⟨_, _, _, _, _, rfl, HD.out.2⟩
                    · have t1 : decide ((6 : Int) ≤ (n3 : Int)) = true := by simp; omega
                      have t1' : decide (6 ≤ n3) = true := by simp; omega
                      have xl := xlength_any A3 l n3 c3 wr hL.lk.r (by omega)
                      by_cases hz : siE l = 0
                      · rw [siN_tot hz] at xl
                        have hT7 := tot_seven l
                        have hT4 := (siE_zero hz).2.2
                        obtain ⟨T, hT⟩ : ∃ T, tot l = T := ⟨_, rfl⟩
                        rw [hT] at xl hT7 hT4
                        have t2 : ((T : Int) == 0) = false := by simp; omega
                        by_cases hw : n3 < T
                        · have t3 : decide ((n3 : Int) < (T : Int)) = true := by simp; omega
                          have t3' : decide (n3 < T) = true := by simp; omega
                          have hpp : prs Y = (O, l) := by have := hL.hp; rw [prs_wait hz (by omega), List.append_nil] at this; exact this
                          have HL0 := Lib.hid (And.intro hL (And.intro hpp hn3))
                          clear hlen h6 hz hT hT7 hT4 hw hL hpp hn3
                          go_wp2_with fail
                          refine xl.mono ?_
                          rintro e wr2 ⟨rfl, b2⟩
                          have hL := HL0.out.1.below b2
                          have hpp := HL0.out.2.1
                          have hn3 := HL0.out.2.2
                          clear c3_ f3_ xl b2 HL0
                          have hxw := hL.xs
                          have b7 := bel_new wr2 (.cells #[] 5)
                          have o7 := Ow_empty wr2 wr2.heap.size 5 (Nat.le_refl _)
                          have HL := Lib.hid (And.intro hL hpp)
                          have hr7 := hL.lk.r
                          have HB7 := Lib.hid (And.intro hr7 hn3)
                          clear hL hpp hxw hr7 hn3
                          go_wp2_with (first
                            | (at_builtin; refine wpList_appN _ is_bytes rfl (.tmp 134) (.tmp 135) rfl (m := []) rfl o7 HB7.out.1.len rfl (HB7.out.1.bs.below b7) HB7.out.1.nil (by have := HB7.out.2; simp; omega) b7.size ?_; intro v8 w8 ho8 hg8 hv8; have b8 := b7.grown hg8 b7.size o7.base_le; rw [List.nil_append] at ho8; obtain ⟨A8, c8, rfl, _⟩ := ho8.reads_len HB7.out.1.len; clear hg8 hv8; have X8 := HL.out.1.xs.below b8; have i0 := X8.p.cell 0; have i1 := X8.p.cell 1; have i2 := X8.p.cell 2; have i3 := X8.p.cell 3; have i4 := X8.p.cell 4; have k4 := X8.p.free 4; simp [RU.cs] at i0 i1 i2 i3 i4; have y0 := X8.z.cell 0; have y1 := X8.z.cell 1; have y2 := X8.z.cell 2; have y3 := X8.z.cell 3; have y4 := X8.z.cell 4; simp at y0 y1 y2 y3 y4; have k0 := X8.z.free 0; have k1 := X8.z.free 1; have k2 := X8.z.free 2; have k3 := X8.z.free 3; have k5 := X8.z.free 4; have hdone := HL.out.1.done HL.out.2 b8 ho8 HSO2.out.1 HSO2.out.2 HNN.out; unfold put5 at hdone; have HD := Lib.hid hdone; clear X8 hdone b8 ho8))
                          exact bodyPost_ret (xt_results rfl rfl HD.out.1) rfl ⟨_, _, _, _, _, rfl, HD.out.2⟩
                        · have t3 : decide ((n3 : Int) < (T : Int)) = false := by simp; omega
                          have t3' : decide (n3 < T) = false := by simp; omega
                          obtain ⟨b3, o3, hA3, hb3, hc3⟩ := hL.lk.r.at_ (by omega)
                          obtain ⟨x0, hx0⟩ : ∃ x, l[0]? = some x := ⟨_, List.getElem?_eq_getElem (by omega)⟩
                          obtain ⟨x1, hx1⟩ : ∃ x, l[1]? = some x := ⟨_, List.getElem?_eq_getElem (by omega)⟩
                          have z0 := hc3 0 x0 hx0
                          have z1 := hc3 1 x1 hx1
                          rw [Nat.add_zero] at z0
                          have y0 := b8_at hx0
                          have y1 := b8_at hx1
                          have g0 := x0.isLt
                          have g1 := x1.isLt
                          obtain ⟨v0, hv0⟩ : ∃ v, x0.toNat = v := ⟨_, rfl⟩
                          obtain ⟨v1, hv1⟩ : ∃ v, x1.toNat = v := ⟨_, rfl⟩
                          have z0' : wr.cell? ⟨b3, o3, none⟩ = some (.int .u8 (v0 : Int)) := by rw [z0]; show some (Value.int .u8 ((x0.toNat : Nat) : Int)) = _; rw [hv0]
                          have z1' : wr.cell? ⟨b3, o3 + 1, none⟩ = some (.int .u8 (v1 : Int)) := by rw [z1]; show some (Value.int .u8 ((x1.toNat : Nat) : Int)) = _; rw [hv1]
                          obtain ⟨u0, hu0⟩ : ∃ u0, v0 % 8 = u0 := ⟨_, rfl⟩
                          obtain ⟨H, hH⟩ : ∃ H, u0 * 256 + v1 = H := ⟨_, rfl⟩
                          have hu1 : (v0 : Int).tmod 8 = (u0 : Int) := by rw [Int.tmod_eq_emod_of_nonneg (by omega)]; omega
                          have hu2 : (v0 : Int) % 8 = (u0 : Int) := by omega
                          have hvb0 : v0 < 256 := by omega
                          have hvb1 : v1 < 256 := by omega
                          have hub : u0 < 8 := by omega
                          have HT : Hid ((u0 : Int) * 256 + (v1 : Int) = (H : Int)) := Lib.hid (by omega)
                          have hid : idl l = (H == 2047) := by
                            rw [Bool.eq_iff_iff, beq_iff_eq]
                            unfold idl
                            rw [y0, y1, hv0, hv1, decide_eq_true_eq]
                            omega
                          have i0 : (0 : Int) < (n3 : Int) := by omega
                          have i1 : (1 : Int) < (n3 : Int) := by omega
                          have hcp := hL.lk.r.le
                          obtain ⟨A4, hA4⟩ : ∃ A4, (if c3 = T then A3 else Option.map (fun x => x.add T) A3) = A4 := ⟨_, rfl⟩
                          have hA4' : (if c3 = T then some (⟨b3, o3, none⟩ : Addr) else some (⟨b3, o3 + T, none⟩ : Addr)) = A4 := by
                            rw [← hA4, hA3]
                            by_cases hq : c3 = T
                            · rw [if_pos hq, if_pos hq]
                            · rw [if_neg hq, if_neg hq]; simp [Addr.add]; omega
                          obtain ⟨n4, hn4⟩ : ∃ n4, n3 - T = n4 := ⟨_, rfl⟩
                          obtain ⟨c4, hc4⟩ : ∃ c4, c3 - T = c4 := ⟨_, rfl⟩
                          have hm4 : n4 < n3 := by omega
                          have hn4b : n4 ≤ 2000000 := by omega
                          have s1 : (T : Int) ≤ (c3 : Int) := by omega
                          have s2 : T ≤ c3 := by omega
                          have s3 : (T : Int) ≤ (n3 : Int) := by omega
                          have s4 : T ≤ n3 := by omega
                          rw [hA3] at hA4
                          subst hA3
                          cases hi : idl l with
                          | true =>
                            have t4 : ((H : Int) != 2047) = false := by rw [hid] at hi; simp at hi ⊢; omega
                            have hk := hL.skip hz (by omega) hi
                            rw [hT, hn4, hc4] at hk
                            rw [hA4] at hk
                            have HK := Lib.hid (And.intro hk (And.intro hm4 hn4b))
                            have HZ := Lib.hid (And.intro hb3 (And.intro z0' z1'))
                            clear hL hk hz hT hi hid hlen h6 hx0 hx1 z0 z1 z0' z1' y0 y1 g0 g1 hv0 hv1 hu0 hH hc3 hw hn3 hT4 hT7 hcp hm4 hn4b
                            go_wp2_with fail
                            refine xl.mono ?_
                            rintro e w2 ⟨rfl, b2⟩
                            have z0 := (b2.cell (p := ⟨b3, o3, none⟩) HZ.out.1).trans HZ.out.2.1
                            have z1 := (b2.cell (p := ⟨b3, o3 + 1, none⟩) HZ.out.1).trans HZ.out.2.2
                            have HK2 := Lib.hid (HK.out.1.below b2)
                            clear xl b2 c3_ f3_
                            go_wp2
                            go_quiet (fail)
                            rw [HT.out]
                            go_wp2
                            go_roundw
                            case rel => exact ⟨_, _, _, _, _, _, _, rfl, HK.out.2.2, HK2.out.draws _⟩
                            case measure => have := HK.out.2.1; simp [slLen]; omega
                          | false =>
                            have t4 : ((H : Int) != 2047) = true := by rw [hid] at hi; simp at hi ⊢; omega
                            have hlX : (l.take T).length = T := by rw [List.length_take]; omega
                            have hOY := hL.len
                            have HX := Lib.hid (And.intro hlX (And.intro hOY (And.intro hz (And.intro hT hi))))
                            have HK := Lib.hid (And.intro hL (And.intro hm4 hn4b))
                            have HZ := Lib.hid (And.intro hb3 (And.intro z0' z1'))
                            have HC := Lib.hid (And.intro hA4 (And.intro hn4 hc4))
                            obtain ⟨_, AR, kR, rfl, _⟩ := hL.ol.parts (n := O.length) rfl
                            clear hL hz hT hi hid hlen h6 hx0 hx1 z0 z1 z0' z1' y0 y1 g0 g1 hv0 hv1 hu0 hH hc3 hw hn3 hT7 hcp hm4 hn4b hlX hOY
                            go_wp2_with fail
                            refine xl.mono ?_
                            rintro e w2 ⟨rfl, b2⟩
                            have z0 := (b2.cell (p := ⟨b3, o3, none⟩) HZ.out.1).trans HZ.out.2.1
                            have z1 := (b2.cell (p := ⟨b3, o3 + 1, none⟩) HZ.out.1).trans HZ.out.2.2
                            have HK2 := Lib.hid (HK.out.1.below b2)
                            clear xl b2 c3_ f3_
                            go_wp2
                            go_quiet (fail)
                            rw [HT.out]
                            obtain ⟨W5, hW5⟩ : ∃ W5, W5 = w2.drewN nq := ⟨_, rfl⟩
                            have HK5 : Hid (Ls w N L rs A n c Y l (some ⟨b3, o3, none⟩) n3 c3 O (.slice AR O.length kR) E true W5) := Lib.hid (by rw [hW5]; exact HK2.out.draws _)
                            have rX := Rd.head HK5.out.lk.r T s4
                            have b7 := bel_new W5 (.cells #[] 5)
                            have o7 := Ow_empty W5 W5.heap.size 5 (Nat.le_refl _)
                            rw [← hW5]
                            clear hW5 HK2 z0 z1
                            go_wp2_with (first
                              | (at_builtin; refine wpList_appN _ is_bytes rfl (.tmp 124) (.tmp 127) rfl (m := []) rfl o7 HX.out.1 rfl (rX.bs.below b7) rX.nil (by simp; omega) b7.size ?_; intro v4 w4 ho4 hg4 hv4; have b4 := b7.grown hg4 b7.size o7.base_le; rw [List.nil_append] at ho4; obtain ⟨A5, k5, rfl, _⟩ := ho4.reads_len HX.out.1; clear hg4 hv4; obtain ⟨qs, AR', kR', he, hqn, hqe, hqo, hqr, hqz, hq3⟩ := (HK5.out.ol.below b4).parts (n := O.length) rfl; cases he; have HO : Hid (w.heap.size ≤ w4.heap.size) := Lib.hid (Nat.le_trans HK5.out.xs.b.size b4.size))
                              | (at_builtin; refine wpList_row _ enc_ok is_lists (by decide) rfl (.tmp 123) (.tmp 129) rfl rfl (hqo.alloc _) (l := [⟨l.take T, A5, k5⟩]) (n := 1) rfl rfl (Rs_new1 enc_ok w4 _ _ _ (by simp only [enc, HX.out.1])) (by simp) (by rw [hqn]; have := HX.out.2.1; have := HYb.out; simp; omega) (by have := HO.out; simp; omega) ?_; intro R2 w6 ho6 hg6 hr6; obtain ⟨qz, qT, qi⟩ := HX.out.2.2; have hd6 := HK5.out.add (A4 := A5) (n4 := T) (c4 := k5) qz (by rw [qT]; exact s4) qi (by rw [qT]; exact ho4) (by rw [qT]; exact HX.out.1) b4 hqe (fun q hq => ⟨(hq3 q hq).1.alloc _, (hq3 q hq).2⟩) rfl hg6 (by rw [qT]; exact ho6); rw [qT, HC.out.1, HC.out.2.1, HC.out.2.2] at hd6; have HD6 := Lib.hid hd6; clear hd6 ho6 hg6 hr6 ho4 hqo hqr hqz hq3 hqe hqn rX b7 o7 b4))
                            go_roundw
                            case rel => exact ⟨_, _, _, _, _, _, _, rfl, HK.out.2.2, HD6.out⟩
                            case measure => have := HK.out.2.1; simp [slLen]; omega
                      · rw [siN_zero hz] at xl
                        have hb := fun W (hW : Below wr.heap.size wr W) => (hL.below hW).bad (by omega) hz
                        have hgl := hL.xs.p.lt
                        have HLb := Lib.hid (And.intro hL hb)
                        have h1n : 0 < n3 := by omega
                        clear hL hb h6 hz hn3
                        go_wp2_with fail
                        refine xl.mono ?_
                        rintro e w2 ⟨rfl, b2⟩
                        have X2 := HLb.out.1.xs.below b2
                        have d3 := X2.p.cell 3
                        have k3 := X2.p.free 3
                        simp [RU.cs] at d3
                        have HR2 := Lib.hid (HLb.out.2 w2 b2)
                        clear c3_ f3_ xl b2 X2
                        go_wp2
                        go_roundw
                        case rel => exact ⟨_, _, _, _, _, _, _, rfl, by omega, HR2.out⟩
                        case measure => simp [slLen]; omega
end
end Go.Proofs.Ytcmonalnhdodmaa.Unp
