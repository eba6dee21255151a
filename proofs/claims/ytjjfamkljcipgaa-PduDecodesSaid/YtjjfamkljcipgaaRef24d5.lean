/-
  The reference of layer 24: Decode, kind 5.
-/
import Derived.Test.YtjjfamkljcipgaaRef24d0
import Derived.Test.YtjjfamkljcipgaaHand
namespace Go.Proofs.Ytjjfamkljcipgaa.Pdu
open Go.RowKit Go.Proofs.Ytjjfamkljcipgaa.Row

set_option maxRecDepth 100000 in
set_option maxHeartbeats 8000000 in
theorem rdec_k5 (a : Option Addr) (l : List Byte) (n c : Nat) (w : World) (h : Bx w a l n c) (hL : n ≤ 2000) (V1 : Nat) (st1 : Option (List Byte)) (hV1 : rd 0 (fun l => tkU l (1 : Int)) (some l) = (V1, st1)) (hk : (V1 : Int) = 5) :
    Calls Try.prog 17 #[.slice a n c] w (DO (deP l) w (deE l)) := by
  obtain ⟨DP, hDP⟩ : ∃ DP, DP = deP l := ⟨_, rfl⟩
  obtain ⟨DE, hDE⟩ : ∃ DE, DE = deE l := ⟨_, rfl⟩
  rw [← hDP, ← hDE]
  have HDP := Lib.hid hDP
  have HDE := Lib.hid hDE
  clear hDP hDE
  have hR0 := Cel.new w 29 #[I 0, I 0, I 0, I 0, .string ⟨#[]⟩, I 0, I 0, .slice none 0 0, .int .u32 0, I 0, .slice none 0 0]
  have g1 := bel_new w (.cells #[I 0, I 0, I 0, I 0, .string ⟨#[]⟩, I 0, I 0, .slice none 0 0, .int .u32 0, I 0, .slice none 0 0] 29)
  have hG1 := Cel_two w (.cells #[I 0, I 0, I 0, I 0, .string ⟨#[]⟩, I 0, I 0, .slice none 0 0, .int .u32 0, I 0, .slice none 0 0] 29) 65 #[.slice a n c, .bool false]
  have hR1 := Cel.on hR0 (bel_new _ (.cells #[.slice a n c, .bool false] 65))
  have g2 := g1.alloc g1.size (.cells #[.slice a n c, .bool false] 65)
  have hP2 := Cel.new ((w.alloc (.cells #[I 0, I 0, I 0, I 0, .string ⟨#[]⟩, I 0, I 0, .slice none 0 0, .int .u32 0, I 0, .slice none 0 0] 29)).alloc (.cells #[.slice a n c, .bool false] 65)) 29 #[I 0, I 0, I 0, I 0, .string ⟨#[]⟩, I 0, I 0, .slice none 0 0, .int .u32 0, I 0, .slice none 0 0]
  have hs2 : ((w.alloc (.cells #[I 0, I 0, I 0, I 0, .string ⟨#[]⟩, I 0, I 0, .slice none 0 0, .int .u32 0, I 0, .slice none 0 0] 29)).alloc (.cells #[.slice a n c, .bool false] 65)).heap.size = w.heap.size + 1 + 1 := by simp
  rw [hs2] at hP2
  have g3 := g2.alloc g2.size (.cells #[I 0, I 0, I 0, I 0, .string ⟨#[]⟩, I 0, I 0, .slice none 0 0, .int .u32 0, I 0, .slice none 0 0] 29)
  have s0 : VS w (w.heap.size + 1) (some l) w.heap.size (w.heap.size + 1 + 1) #[I 0, I 0, I 0, I 0, .string ⟨#[]⟩, I 0, I 0, .slice none 0 0, .int .u32 0, I 0, .slice none 0 0] (((w.alloc (.cells #[I 0, I 0, I 0, I 0, .string ⟨#[]⟩, I 0, I 0, .slice none 0 0, .int .u32 0, I 0, .slice none 0 0] 29)).alloc (.cells #[.slice a n c, .bool false] 65)).alloc (.cells #[I 0, I 0, I 0, I 0, .string ⟨#[]⟩, I 0, I 0, .slice none 0 0, .int .u32 0, I 0, .slice none 0 0] 29)) :=
    ⟨⟨a, n, c, Cel.on hG1 (bel_new _ _), h.len.symm, h.bs.below g3, h.nil, h.le, h.max, by omega⟩, Cel.on hR1 (bel_new _ _), hP2, g3, by omega, Nat.le_refl _, by omega⟩
  have hlen := h.len
  have hl0 : lft (some l) ≤ 2000 := by show l.length ≤ 2000; omega
  clear hR0 g1 hG1 hR1 g2 hP2 hs2 g3 hlen
  have hu := yuint_any _ _ _ (some l) (1 : Int) s0.o (by rw [lft_eq]; omega)
  rw [hV1] at hu
  simp only at hu
  have Q1 := Lib.hid (qU (k := 1) hV1)
  have hl1 : lft st1 ≤ 2000 := Nat.le_trans (rd_short hV1) hl0
  have vb1 : V1 < 256 := qU_lt (k := 1) hV1
  have wa1 : IntKind.i64.wrap (V1 : Int) = (V1 : Int) := by rw [IntKind.wrap_i64]; omega
  clear hV1
  have HK := Lib.hid hk
  clear hk
  go_enter Try.func17, Try.ntmps17
  go_wp2_with fail
  refine hu.mono ?_
  rintro e w1 ⟨rfl, o1, k1⟩
  have s1' := s0.step o1 k1
  have s1 := s1'.put 0 (I (V1 : Int))
  have cc1 := s1'.cp.cell 0
  have cx1 := s1'.cp.free 0
  simp only [List.getElem?_toArray, List.getElem?_cons_zero] at cc1
  simp only [List.setIfInBounds_toArray, List.set_cons_zero] at s1
  have ck := s1.cp.cell 0
  simp only [List.getElem?_toArray, List.getElem?_cons_zero] at ck
  clear hu o1 k1 s0 s1'
  have hu := yuint_any _ _ _ st1 (1 : Int) s1.o (by rw [lft_eq]; omega)
  obtain ⟨V2, st2, hV⟩ : ∃ v s, rd 0 (fun l => tkU l (1 : Int)) st1 = (v, s) := ⟨_, _, rfl⟩
  rw [hV] at hu
  simp only at hu
  have Q2 := Lib.hid (qU (k := 1) hV)
  have hl2 : lft st2 ≤ 2000 := Nat.le_trans (rd_short hV) hl1
  have vb2 : V2 < 256 ^ 1 := qU_lt (k := 1) hV
  have vc2 : V2 < 4294967296 := Nat.lt_of_lt_of_le vb2 (by decide)
  have wa2 : IntKind.i64.wrap (V2 : Int) = (V2 : Int) := by rw [IntKind.wrap_i64]; omega
  clear vb2
  clear hV
  go_wp2_with fail
  refine hu.mono ?_
  rintro e w2 ⟨rfl, o2, k2⟩
  have s2' := s1.step o2 k2
  have s2 := s2'.put 1 (I (V2 : Int))
  have cc2 := s2'.cp.cell 1
  have cx2 := s2'.cp.free 1
  simp only [List.getElem?_toArray, List.getElem?_cons_zero, List.getElem?_cons_succ] at cc2
  simp only [List.setIfInBounds_toArray, List.set_cons_zero, List.set_cons_succ] at s2
  rw [HK.out] at s2
  have ck := s2.cp.cell 0
  simp only [List.getElem?_toArray, List.getElem?_cons_zero] at ck
  clear hu o2 k2 s1 s2'
  have hu := yuint_any _ _ _ st2 (2 : Int) s2.o (by rw [lft_eq]; omega)
  obtain ⟨V3, st3, hV⟩ : ∃ v s, rd 0 (fun l => tkU l (2 : Int)) st2 = (v, s) := ⟨_, _, rfl⟩
  rw [hV] at hu
  simp only at hu
  have Q3 := Lib.hid (qU (k := 2) hV)
  have hl3 : lft st3 ≤ 2000 := Nat.le_trans (rd_short hV) hl2
  have vb3 : V3 < 256 ^ 2 := qU_lt (k := 2) hV
  have vc3 : V3 < 4294967296 := Nat.lt_of_lt_of_le vb3 (by decide)
  have wa3 : IntKind.i64.wrap (V3 : Int) = (V3 : Int) := by rw [IntKind.wrap_i64]; omega
  clear vb3
  clear hV
  go_wp2_with fail
  refine hu.mono ?_
  rintro e w3 ⟨rfl, o3, k3⟩
  have s3' := s2.step o3 k3
  have s3 := s3'.put 2 (I (V3 : Int))
  have cc3 := s3'.cp.cell 2
  have cx3 := s3'.cp.free 2
  simp only [List.getElem?_toArray, List.getElem?_cons_zero, List.getElem?_cons_succ] at cc3
  simp only [List.setIfInBounds_toArray, List.set_cons_zero, List.set_cons_succ] at s3
  have ck := s3.cp.cell 0
  simp only [List.getElem?_toArray, List.getElem?_cons_zero] at ck
  clear hu o3 k3 s2 s3'
  have hu := yuint_any _ _ _ st3 (1 : Int) s3.o (by rw [lft_eq]; omega)
  obtain ⟨V4, st4, hV⟩ : ∃ v s, rd 0 (fun l => tkU l (1 : Int)) st3 = (v, s) := ⟨_, _, rfl⟩
  rw [hV] at hu
  simp only at hu
  have Q4 := Lib.hid (qU (k := 1) hV)
  have hl4 : lft st4 ≤ 2000 := Nat.le_trans (rd_short hV) hl3
  have vb4 : V4 < 256 ^ 1 := qU_lt (k := 1) hV
  have vc4 : V4 < 4294967296 := Nat.lt_of_lt_of_le vb4 (by decide)
  have wa4 : IntKind.i64.wrap (V4 : Int) = (V4 : Int) := by rw [IntKind.wrap_i64]; omega
  clear vb4
  clear hV
  go_wp2_with fail
  refine hu.mono ?_
  rintro e w4 ⟨rfl, o4, k4⟩
  have s4' := s3.step o4 k4
  have s4 := s4'.put 9 (I (V4 : Int))
  have cc4 := s4'.cp.cell 9
  have cx4 := s4'.cp.free 9
  simp only [List.getElem?_toArray, List.getElem?_cons_zero, List.getElem?_cons_succ] at cc4
  simp only [List.setIfInBounds_toArray, List.set_cons_zero, List.set_cons_succ] at s4
  have ck := s4.cp.cell 0
  simp only [List.getElem?_toArray, List.getElem?_cons_zero] at ck
  clear hu o4 k4 s3 s4'
  have HX : prs l = st4.map fun r => (⟨5, (V2 : Int), (V3 : Int), 0, [], 0, 0, [], 0, (V4 : Int), []⟩, r) := by rw [prs_q Q1.out Q2.out Q3.out, HK.out]; exact pB_q5 Q4.out
  have hXX := Lib.hid HX
  clear HX
  have py : Py (w4.setCell ⟨w.heap.size + 1 + 1, 9, none⟩ (I (V4 : Int))) ⟨5, (V2 : Int), (V3 : Int), 0, [], 0, 0, [], 0, (V4 : Int), []⟩ none  0  0  none  0  0 := ⟨ow_nil _, rfl, os_nil _, rfl, (show (0 : Nat) < 4294967296 by decide)⟩
  obtain ⟨E, hE⟩ : ∃ E, E = enO ⟨5, (V2 : Int), (V3 : Int), 0, [], 0, 0, [], 0, (V4 : Int), []⟩ := ⟨_, rfl⟩
  obtain ⟨D, hD⟩ : ∃ D, D = enE ⟨5, (V2 : Int), (V3 : Int), 0, [], 0, 0, [], 0, (V4 : Int), []⟩ := ⟨_, rfl⟩
  have hen := rencode_any (5) ((V2 : Int)) ((V3 : Int)) (0) ([]) (0) (0) ([]) (0) ((V4 : Int)) ([]) none  0  0  none  0  0 (w4.setCell ⟨w.heap.size + 1 + 1, 9, none⟩ (I (V4 : Int))) py.px
  rw [← hE, ← hD] at hen
  have HE := Lib.hid hE
  have HD := Lib.hid hD
  have p0 := s4.cp.cell 0
  have p1 := s4.cp.cell 1
  have p2 := s4.cp.cell 2
  have p3 := s4.cp.cell 3
  have p4 := s4.cp.cell 4
  have p5 := s4.cp.cell 5
  have p6 := s4.cp.cell 6
  have p7 := s4.cp.cell 7
  have p8 := s4.cp.cell 8
  have p9 := s4.cp.cell 9
  have p10 := s4.cp.cell 10
  simp only [List.getElem?_toArray, List.getElem?_cons_zero, List.getElem?_cons_succ] at p0 p1 p2 p3 p4 p5 p6 p7 p8 p9 p10
  clear hE hD
  go_wp2_with fail
  refine hen.mono ?_
  rintro e wE ⟨⟨AE, nE, aE, rfl, hBE⟩, hbE⟩
  have sE := s4.on hbE
  have pyE := py.on hbE
  have bE := sE.b
  have hne := sE.ne
  clear hen p0 p1 p2 p3 p4 p5 p6 p7 p8 p9 p10 py s4 hbE
  have r0 := sE.cr.cell 0
  have z0 := sE.cr.free 0
  have r1 := sE.cr.cell 1
  have z1 := sE.cr.free 1
  have r2 := sE.cr.cell 2
  have z2 := sE.cr.free 2
  have r3 := sE.cr.cell 3
  have z3 := sE.cr.free 3
  have r4 := sE.cr.cell 4
  have z4 := sE.cr.free 4
  have r5 := sE.cr.cell 5
  have z5 := sE.cr.free 5
  have r6 := sE.cr.cell 6
  have z6 := sE.cr.free 6
  have r7 := sE.cr.cell 7
  have z7 := sE.cr.free 7
  have r8 := sE.cr.cell 8
  have z8 := sE.cr.free 8
  have r9 := sE.cr.cell 9
  have z9 := sE.cr.free 9
  have r10 := sE.cr.cell 10
  have z10 := sE.cr.free 10
  simp only [List.getElem?_toArray, List.getElem?_cons_zero, List.getElem?_cons_succ] at r0 r1 r2 r3 r4 r5 r6 r7 r8 r9 r10
  have p0 := sE.cp.cell 0
  have p1 := sE.cp.cell 1
  have p2 := sE.cp.cell 2
  have p3 := sE.cp.cell 3
  have p4 := sE.cp.cell 4
  have p5 := sE.cp.cell 5
  have p6 := sE.cp.cell 6
  have p7 := sE.cp.cell 7
  have p8 := sE.cp.cell 8
  have p9 := sE.cp.cell 9
  have p10 := sE.cp.cell 10
  simp only [List.getElem?_toArray, List.getElem?_cons_zero, List.getElem?_cons_succ] at p0 p1 p2 p3 p4 p5 p6 p7 p8 p9 p10
  obtain ⟨AY, nY, cY, hY, _⟩ := sE.o
  have cb := hY.cell 1
  simp only [List.getElem?_toArray, List.getElem?_cons_zero, List.getElem?_cons_succ] at cb
  have kR := put11_only wE w.heap.size (I 0) (I 0) (I 0) (I 0) (.string ⟨#[]⟩) (I 0) (I 0) (.slice none 0 0) (.int .u32 0) (I 0) (.slice none 0 0)
  have f1 := Lib.hid (put11_cel sE.cr (I 0) (I 0) (I 0) (I 0) (.string ⟨#[]⟩) (I 0) (I 0) (.slice none 0 0) (.int .u32 0) (I 0) (.slice none 0 0))
  have f2 := Lib.hid (bE.trans (kR.below bE.size (by simp)))
  have kP := put11_only wE w.heap.size (I 5) (I (V2 : Int)) (I (V3 : Int)) (I 0) (.string ⟨#[]⟩) (I 0) (I 0) (.slice none 0 0) (.int .u32 0) (I (V4 : Int)) (.slice none 0 0)
  have f3 := Lib.hid (put11_cel sE.cr (I 5) (I (V2 : Int)) (I (V3 : Int)) (I 0) (.string ⟨#[]⟩) (I 0) (I 0) (.slice none 0 0) (.int .u32 0) (I (V4 : Int)) (.slice none 0 0))
  have f4 := Lib.hid (bE.trans (kP.below bE.size (by simp)))
  have f5 := Lib.hid (pyE.only sE.cr kP)
  have cv1 := hBE.conv (Below.refl _ _)
  have cv2 := h.conv bE
  clear sE pyE bE hY kR kP hBE h
  cases st4 with
  | none =>
    have q := dd_none hXX.out
    have e8 : DP = Pd.none := HDP.out.trans q.1
    have e9 : DE = 4 := HDE.out.trans q.2
    subst e8 e9
    clear q HDP HDE
    go_wp2
    exact bodyPost_ret (rdec_results rfl rfl f1.out) rfl ⟨⟨none, 0, 0, none, 0, 0, rfl, Py.zero _⟩, f2.out⟩
  | some r =>
    have hXs := hXX.out
    simp only [Option.map_some] at hXs
    have HXS := Lib.hid hXs
    clear hXs
    cases hok : ok ⟨5, (V2 : Int), (V3 : Int), 0, [], 0, 0, [], 0, (V4 : Int), []⟩ with
    | false =>
      have q := dd_left HXS.out (fun q => by rw [hok] at q; exact nomatch q.2)
      have e8 : DP = Pd.none := HDP.out.trans q.1
      have e9 : DE = 4 := HDE.out.trans q.2
      subst e8 e9
      clear HDP HDE
      have d1 : D = 1 := HD.out.trans (en_no' hok).2
      subst d1
      clear q hok HE HD
      go_wp2
      exact bodyPost_ret (rdec_results rfl rfl f1.out) rfl ⟨⟨none, 0, 0, none, 0, 0, rfl, Py.zero _⟩, f2.out⟩
    | true =>
      have d1 : D = 0 := HD.out.trans (en_yes' hok).2
      have d2 : E = enc ⟨5, (V2 : Int), (V3 : Int), 0, [], 0, 0, [], 0, (V4 : Int), []⟩ := HE.out.trans (en_yes' hok).1
      have d3 := prs_some HXS.out
      subst d1
      by_cases hEl : E = l
      · have hr0 : r = [] := by rw [← d2, hEl] at d3; exact List.self_eq_append_right.1 d3
        have q := dd_good HXS.out hr0 hok
        have e8 : DP = ⟨5, (V2 : Int), (V3 : Int), 0, [], 0, 0, [], 0, (V4 : Int), []⟩ := HDP.out.trans q.1
        have e9 : DE = 0 := HDE.out.trans q.2
        subst e8 e9
        clear HDP HDE
        subst hEl
        have e1 : ((str E).toList != (str E).toList) = false := by simp
        have e1' : ((str E).toList == (str E).toList) = true := by simp
        clear q hok HE HD d2 d3 hr0 HXS hXX
        go_wp2
        exact bodyPost_ret (rdec_results rfl rfl f3.out) rfl ⟨⟨none, 0, 0, none, 0, 0, rfl, f5.out⟩, f4.out⟩
      · have hr0 : ¬ r = [] := by intro hr; rw [hr, List.append_nil, ← d2] at d3; exact hEl d3.symm
        have q := dd_left HXS.out (fun q => hr0 q.1)
        have e8 : DP = Pd.none := HDP.out.trans q.1
        have e9 : DE = 4 := HDE.out.trans q.2
        subst e8 e9
        clear HDP HDE
        have e0 : ((str E).toList == (str l).toList) = false := by rw [str_beq]; exact decide_eq_false hEl
        have e1 : ((str E).toList != (str l).toList) = true := by rw [bne, e0]; rfl
        clear q hok HE HD d2 d3 hr0 HXS hXX hEl
        go_wp2
        exact bodyPost_ret (rdec_results rfl rfl f1.out) rfl ⟨⟨none, 0, 0, none, 0, 0, rfl, Py.zero _⟩, f2.out⟩
end Go.Proofs.Ytjjfamkljcipgaa.Pdu
