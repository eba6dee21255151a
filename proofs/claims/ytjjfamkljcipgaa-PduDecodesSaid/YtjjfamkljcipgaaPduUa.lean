/-
  Package pdu: unit, kind 1.
  Package pdu: unit, kind 2.
  Package pdu: unit, kind 3.
-/
import Derived.Test.YtjjfamkljcipgaaPduU0
namespace Go.Proofs.Ytjjfamkljcipgaa.Pdu
open Go.RowKit Go.Proofs.Ytjjfamkljcipgaa.Row

set_option maxRecDepth 100000 in
set_option maxHeartbeats 4000000 in
theorem unit_k1 (w : World) (B g : Nat) (l l1 : List Byte) (V0 : Nat) (h : OR w B g (some l)) (hL : l.length < 1000000) (ht0 : tU 1 l = some (V0, l1)) (hk : (V0 : Int) = 1) :
    Calls Try.prog 38 #[.agg #[.pointer (some ⟨g, 0, none⟩)]] w (UO (prs l) w B g) := by
  obtain ⟨X, hX⟩ : ∃ X, prs l = X := ⟨_, rfl⟩
  rw [hX]
  have HX := Lib.hid hX
  have HT0 := Lib.hid ht0
  clear hX
  have hs := h.lt.2
  have hF0 := Cel.new w 60 #[.pointer (some ⟨g, 0, none⟩)]
  have bo := box_only w [g] (.cells #[.pointer (some ⟨g, 0, none⟩)] 60)
  have o0 := OR.box h (.cells #[.pointer (some ⟨g, 0, none⟩)] 60)
  have o1 := OR.box o0 (.cells #[I 0, I 0, I 0, I 0, .string ⟨#[]⟩, I 0, I 0, .slice none 0 0, .int .u32 0, I 0, .slice none 0 0] 29)
  have hF1 := Cel.on hF0 (bel_new _ (.cells #[I 0, I 0, I 0, I 0, .string ⟨#[]⟩, I 0, I 0, .slice none 0 0, .int .u32 0, I 0, .slice none 0 0] 29))
  have hR1 := Cel_two w (.cells #[.pointer (some ⟨g, 0, none⟩)] 60) 29 #[I 0, I 0, I 0, I 0, .string ⟨#[]⟩, I 0, I 0, .slice none 0 0, .int .u32 0, I 0, .slice none 0 0]
  have k1 := bo.alloc (.cells #[I 0, I 0, I 0, I 0, .string ⟨#[]⟩, I 0, I 0, .slice none 0 0, .int .u32 0, I 0, .slice none 0 0] 29)
  have hgf : w.heap.size ≠ g := by omega
  have hgr : w.heap.size + 1 ≠ g := by omega
  have c0 := hF1.cell 0
  simp only [List.getElem?_toArray, List.getElem?_cons_zero] at c0
  clear bo o0 hF0
  have hr := num_yes 1 V0 o1 ht0 (by have hv : V0 < 256 := (tU_some ht0).1; omega) hL
  have sh0 := tU_short ht0
  clear h o1
  go_enter Try.func38, Try.ntmps38
  go_wp2_with fail
  refine hr.mono ?_
  rintro e w1 ⟨rfl, o2, k2⟩
  have s0 : US w B g (some l1) w.heap.size (w.heap.size + 1) w1.heap.size #[I (V0 : Int), I 0, I 0, I 0, .string ⟨#[]⟩, I 0, I 0, .slice none 0 0, .int .u32 0, I 0, .slice none 0 0] (w1.alloc (.cells #[I (V0 : Int), I 0, I 0, I 0, .string ⟨#[]⟩, I 0, I 0, .slice none 0 0, .int .u32 0, I 0, .slice none 0 0] 29)) := by
    have q := k2.size
    have q2 := k1.size
    have q3 := hR1.lt
    exact ⟨OR.box o2 _, Cel.on (hF1.only k2 (by simpa using hgf)) (bel_new _ _), ⟨_, rfl, Cel.on (hR1.only k2 (by simpa using hgr)) (bel_new _ _)⟩, Cel.new _ _ _, (lift_panic k1 k2).alloc _, by omega, by omega, by omega⟩
  have cf := s0.cf.cell 0
  simp only [List.getElem?_toArray, List.getElem?_cons_zero] at cf
  clear hr o2 k2 hF1 hR1 k1 c0 hgf hgr
  have HK := Lib.hid hk
  clear ht0 hk
  cases ht1 : tU 1 l1 with
  | none =>
    have hr := num_no 1 s0.o ht1 (by omega)
    have e1 : X = none := by rw [← HX.out]; simp [prs, pH, pB, HT0.out, ht1, HK.out]
    subst e1
    have HS := Lib.hid s0.k
    clear HX ht1
    go_wp2_with fail
    refine hr.mono ?_
    rintro e w9 ⟨rfl, k⟩
    exact ⟨rfl, rfl, lift_panic HS.out k⟩
  | some a1 =>
    obtain ⟨V1, l2⟩ := a1
    have hr := num_yes 1 V1 s0.o ht1 (by have hv : V1 < 256 ^ 1 := (tU_some ht1).1; have : (256 : Nat) ^ 1 ≤ 4294967296 := (by decide); omega) (by omega)
    have sh1 := tU_short ht1
    have HT1 := Lib.hid ht1
    have hb1 : V1 < 256 ^ 1 := (tU_some ht1).1
    have HB1 := Lib.hid hb1
    clear hb1
    clear ht1
    go_wp2_with fail
    refine hr.mono ?_
    rintro e w2 ⟨rfl, o, k⟩
    have s1' := s0.step o k
    have s1 := s1'.put hs 1 (I (V1 : Int))
    have cc1 := s1'.cp.cell 1
    have cx1 := s1'.cp.free 1
    simp only [List.getElem?_toArray, List.getElem?_cons_zero, List.getElem?_cons_succ] at cc1
    simp only [List.setIfInBounds_toArray, List.set_cons_zero, List.set_cons_succ] at s1
    rw [HK.out] at s1
    have cf := s1.cf.cell 0
    have ck := s1.cp.cell 0
    simp only [List.getElem?_toArray, List.getElem?_cons_zero] at cf ck
    clear hr o k s0 s1'
    cases ht2 : tU 2 l2 with
    | none =>
      have hr := num_no 2 s1.o ht2 (by omega)
      have e1 : X = none := by rw [← HX.out]; simp [prs, pH, pB, HT0.out, HT1.out, ht2, HK.out]
      subst e1
      have HS := Lib.hid s1.k
      clear HX ht2
      go_wp2_with fail
      refine hr.mono ?_
      rintro e w9 ⟨rfl, k⟩
      exact ⟨rfl, rfl, lift_panic HS.out k⟩
    | some a2 =>
      obtain ⟨V2, l3⟩ := a2
      have hr := num_yes 2 V2 s1.o ht2 (by have hv : V2 < 256 ^ 2 := (tU_some ht2).1; have : (256 : Nat) ^ 2 ≤ 4294967296 := (by decide); omega) (by omega)
      have sh2 := tU_short ht2
      have HT2 := Lib.hid ht2
      have hb2 : V2 < 256 ^ 2 := (tU_some ht2).1
      have HB2 := Lib.hid hb2
      clear hb2
      clear ht2
      go_wp2_with fail
      refine hr.mono ?_
      rintro e w3 ⟨rfl, o, k⟩
      have s2' := s1.step o k
      have s2 := s2'.put hs 2 (I (V2 : Int))
      have cc2 := s2'.cp.cell 2
      have cx2 := s2'.cp.free 2
      simp only [List.getElem?_toArray, List.getElem?_cons_zero, List.getElem?_cons_succ] at cc2
      simp only [List.setIfInBounds_toArray, List.set_cons_zero, List.set_cons_succ] at s2
      have cf := s2.cf.cell 0
      have ck := s2.cp.cell 0
      simp only [List.getElem?_toArray, List.getElem?_cons_zero] at cf ck
      clear hr o k s1 s2'
      cases ht3 : tU 1 l3 with
      | none =>
        have hr := num_no 1 s2.o ht3 (by omega)
        have e1 : X = none := by rw [← HX.out]; simp [prs, pH, pB, HT0.out, HT1.out, HT2.out, ht3, HK.out]
        subst e1
        have HS := Lib.hid s2.k
        clear HX ht3
        go_wp2_with fail
        refine hr.mono ?_
        rintro e w9 ⟨rfl, k⟩
        exact ⟨rfl, rfl, lift_panic HS.out k⟩
      | some a3 =>
        obtain ⟨V3, l4⟩ := a3
        have hr := num_yes 1 V3 s2.o ht3 (by have hv : V3 < 256 ^ 1 := (tU_some ht3).1; have : (256 : Nat) ^ 1 ≤ 4294967296 := (by decide); omega) (by omega)
        have sh3 := tU_short ht3
        have HT3 := Lib.hid ht3
        have hb3 : V3 < 256 ^ 1 := (tU_some ht3).1
        have HB3 := Lib.hid hb3
        clear hb3
        clear ht3
        go_wp2_with fail
        refine hr.mono ?_
        rintro e w4 ⟨rfl, o, k⟩
        have s3' := s2.step o k
        have s3 := s3'.put hs 3 (I (V3 : Int))
        have cc3 := s3'.cp.cell 3
        have cx3 := s3'.cp.free 3
        simp only [List.getElem?_toArray, List.getElem?_cons_zero, List.getElem?_cons_succ] at cc3
        simp only [List.setIfInBounds_toArray, List.set_cons_zero, List.set_cons_succ] at s3
        have cf := s3.cf.cell 0
        have ck := s3.cp.cell 0
        simp only [List.getElem?_toArray, List.getElem?_cons_zero] at cf ck
        clear hr o k s2 s3'
        cases ht4 : tI l4 with
        | none =>
          have hr := sgn_no s3.o ht4 (by omega)
          have e1 : X = none := by rw [← HX.out]; simp [prs, pH, pB, HT0.out, HT1.out, HT2.out, HT3.out, ht4, HK.out]
          subst e1
          have HS := Lib.hid s3.k
          clear HX ht4
          go_wp2_with fail
          refine hr.mono ?_
          rintro e w9 ⟨rfl, k⟩
          exact ⟨rfl, rfl, lift_panic HS.out k⟩
        | some a4 =>
          obtain ⟨V4, l5⟩ := a4
          have hr := sgn_yes V4 s3.o ht4 (by omega)
          have sh4 := tI_short ht4
          have HT4 := Lib.hid ht4
          clear ht4
          go_wp2_with fail
          refine hr.mono ?_
          rintro e w5 ⟨rfl, o, k⟩
          have s4' := s3.step o k
          have s4 := s4'.put hs 5 (I V4)
          have cc4 := s4'.cp.cell 5
          have cx4 := s4'.cp.free 5
          simp only [List.getElem?_toArray, List.getElem?_cons_zero, List.getElem?_cons_succ] at cc4
          simp only [List.setIfInBounds_toArray, List.set_cons_zero, List.set_cons_succ] at s4
          have cf := s4.cf.cell 0
          have ck := s4.cp.cell 0
          simp only [List.getElem?_toArray, List.getElem?_cons_zero] at cf ck
          clear hr o k s3 s4'
          cases ht5 : tB 64 l5 with
          | none =>
            have hr := blob_no 64 s4.o ht5 (by omega)
            have e1 : X = none := by rw [← HX.out]; simp [prs, pH, pB, HT0.out, HT1.out, HT2.out, HT3.out, HT4.out, ht5, HK.out]
            subst e1
            have HS := Lib.hid s4.k
            clear HX ht5
            go_wp2_with fail
            refine hr.mono ?_
            rintro e w9 ⟨rfl, k⟩
            exact ⟨rfl, rfl, lift_panic HS.out k⟩
          | some a5 =>
            obtain ⟨V5, l6⟩ := a5
            have hr := blob_yes 64 V5 s4.o ht5 (by omega)
            have sh5 := tB_short ht5
            have HT5 := Lib.hid ht5
            clear ht5
            go_wp2_with fail
            refine hr.mono ?_
            rintro e w6 ⟨⟨x, sx, rfl, how⟩, o, k⟩
            obtain ⟨AX, CX, rfl, hBx⟩ := Bx.of how (n := V5.length) rfl
            have s5' := s4.step o k
            have cv := hBx.conv (Below.refl _ _)
            have s5 := s5'.put hs 4 (.string (str V5))
            have cc5 := s5'.cp.cell 4
            have cx5 := s5'.cp.free 4
            simp only [List.getElem?_toArray, List.getElem?_cons_zero, List.getElem?_cons_succ] at cc5
            simp only [List.setIfInBounds_toArray, List.set_cons_zero, List.set_cons_succ] at s5
            have cf := s5.cf.cell 0
            have ck := s5.cp.cell 0
            simp only [List.getElem?_toArray, List.getElem?_cons_zero] at cf ck
            clear hr o k s4 s5'
            have e1 : X = some (⟨1, (V1 : Int), (V2 : Int), (V3 : Int), V5, V4, 0, [], 0, 0, []⟩, l6) := by rw [← HX.out]; simp [prs, pH, pB, HT0.out, HT1.out, HT2.out, HT3.out, HT4.out, HT5.out, HK.out]
            obtain ⟨zs, hz, hR⟩ := s5.cr
            have hzz := eleven hz
            rw [hzz] at hR
            obtain ⟨WL, hWL⟩ : ∃ WL, WL = (w6.setCell ⟨w1.heap.size, 4, none⟩ (.string (str V5))) := ⟨_, rfl⟩
            rw [← hWL] at s5 hR cf ck
            have kW := put11_only WL (w.heap.size + 1) (I 1) (I (V1 : Int)) (I (V2 : Int)) (I (V3 : Int)) (.string (str V5)) (I V4) (I 0) (.slice none 0 0) (.int .u32 0) (I 0) (.slice none 0 0)
            have hR2 := put11_cel hR (I 1) (I (V1 : Int)) (I (V2 : Int)) (I (V3 : Int)) (.string (str V5)) (I V4) (I 0) (.slice none 0 0) (.int .u32 0) (I 0) (.slice none 0 0)
            have hrr := s5.hr
            have hoB := s5.o.lt.1
            have o9 := s5.o.only kW (by simp; omega) (by simp; omega)
            have K9 : Only [g] w (put11 WL (w.heap.size + 1) (I 1) (I (V1 : Int)) (I (V2 : Int)) (I (V3 : Int)) (.string (str V5)) (I V4) (I 0) (.slice none 0 0) (.int .u32 0) (I 0) (.slice none 0 0)) := s5.k.trans (kW.more (T := [w.heap.size + 1]) (fun x hx => .inl hx)) (fun x hx => .inr (by simp at hx; omega))
            have HQ := Lib.hid (show UO (some (⟨1, (V1 : Int), (V2 : Int), (V3 : Int), V5, V4, 0, [], 0, 0, []⟩, l6)) w B g (.returned (.agg #[I 1, I (V1 : Int), I (V2 : Int), I (V3 : Int), .string (str V5), I V4, I 0, .slice none 0 0, .int .u32 0, I 0, .slice none 0 0])) (put11 WL (w.heap.size + 1) (I 1) (I (V1 : Int)) (I (V2 : Int)) (I (V3 : Int)) (.string (str V5)) (I V4) (I 0) (.slice none 0 0) (.int .u32 0) (I 0) (.slice none 0 0)) from ⟨⟨none, 0, 0, none, 0, 0, rfl, ⟨ow_nil _, rfl, os_nil _, rfl, (show (0 : Nat) < 4294967296 by decide)⟩⟩, o9, K9⟩)
            have r0 := hR.cell 0
            have f0 := hR.free 0
            have p0 := s5.cp.cell 0
            have r1 := hR.cell 1
            have f1 := hR.free 1
            have p1 := s5.cp.cell 1
            have r2 := hR.cell 2
            have f2 := hR.free 2
            have p2 := s5.cp.cell 2
            have r3 := hR.cell 3
            have f3 := hR.free 3
            have p3 := s5.cp.cell 3
            have r4 := hR.cell 4
            have f4 := hR.free 4
            have p4 := s5.cp.cell 4
            have r5 := hR.cell 5
            have f5 := hR.free 5
            have p5 := s5.cp.cell 5
            have r6 := hR.cell 6
            have f6 := hR.free 6
            have p6 := s5.cp.cell 6
            have r7 := hR.cell 7
            have f7 := hR.free 7
            have p7 := s5.cp.cell 7
            have r8 := hR.cell 8
            have f8 := hR.free 8
            have p8 := s5.cp.cell 8
            have r9 := hR.cell 9
            have f9 := hR.free 9
            have p9 := s5.cp.cell 9
            have r10 := hR.cell 10
            have f10 := hR.free 10
            have p10 := s5.cp.cell 10
            simp only [List.getElem?_toArray, List.getElem?_cons_zero, List.getElem?_cons_succ] at r0 p0 r1 p1 r2 p2 r3 p3 r4 p4 r5 p5 r6 p6 r7 p7 r8 p8 r9 p9 r10 p10
            subst e1
            have HR2 := Lib.hid hR2
            have HWL := Lib.hid hWL
            have hne := s5.ne
            clear HX kW hR2 o9 K9 hR s5 hzz hz
            subst hWL
            go_wp2
            exact bodyPost_ret (unit_results rfl HR2.out) rfl HQ.out
end Go.Proofs.Ytjjfamkljcipgaa.Pdu
namespace Go.Proofs.Ytjjfamkljcipgaa.Pdu
open Go.RowKit Go.Proofs.Ytjjfamkljcipgaa.Row

set_option maxRecDepth 100000 in
set_option maxHeartbeats 4000000 in
theorem unit_k2 (w : World) (B g : Nat) (l l1 : List Byte) (V0 : Nat) (h : OR w B g (some l)) (hL : l.length < 1000000) (ht0 : tU 1 l = some (V0, l1)) (hk : (V0 : Int) = 2) :
    Calls Try.prog 38 #[.agg #[.pointer (some ⟨g, 0, none⟩)]] w (UO (prs l) w B g) := by
  obtain ⟨X, hX⟩ : ∃ X, prs l = X := ⟨_, rfl⟩
  rw [hX]
  have HX := Lib.hid hX
  have HT0 := Lib.hid ht0
  clear hX
  have hs := h.lt.2
  have hF0 := Cel.new w 60 #[.pointer (some ⟨g, 0, none⟩)]
  have bo := box_only w [g] (.cells #[.pointer (some ⟨g, 0, none⟩)] 60)
  have o0 := OR.box h (.cells #[.pointer (some ⟨g, 0, none⟩)] 60)
  have o1 := OR.box o0 (.cells #[I 0, I 0, I 0, I 0, .string ⟨#[]⟩, I 0, I 0, .slice none 0 0, .int .u32 0, I 0, .slice none 0 0] 29)
  have hF1 := Cel.on hF0 (bel_new _ (.cells #[I 0, I 0, I 0, I 0, .string ⟨#[]⟩, I 0, I 0, .slice none 0 0, .int .u32 0, I 0, .slice none 0 0] 29))
  have hR1 := Cel_two w (.cells #[.pointer (some ⟨g, 0, none⟩)] 60) 29 #[I 0, I 0, I 0, I 0, .string ⟨#[]⟩, I 0, I 0, .slice none 0 0, .int .u32 0, I 0, .slice none 0 0]
  have k1 := bo.alloc (.cells #[I 0, I 0, I 0, I 0, .string ⟨#[]⟩, I 0, I 0, .slice none 0 0, .int .u32 0, I 0, .slice none 0 0] 29)
  have hgf : w.heap.size ≠ g := by omega
  have hgr : w.heap.size + 1 ≠ g := by omega
  have c0 := hF1.cell 0
  simp only [List.getElem?_toArray, List.getElem?_cons_zero] at c0
  clear bo o0 hF0
  have hr := num_yes 1 V0 o1 ht0 (by have hv : V0 < 256 := (tU_some ht0).1; omega) hL
  have sh0 := tU_short ht0
  clear h o1
  go_enter Try.func38, Try.ntmps38
  go_wp2_with fail
  refine hr.mono ?_
  rintro e w1 ⟨rfl, o2, k2⟩
  have s0 : US w B g (some l1) w.heap.size (w.heap.size + 1) w1.heap.size #[I (V0 : Int), I 0, I 0, I 0, .string ⟨#[]⟩, I 0, I 0, .slice none 0 0, .int .u32 0, I 0, .slice none 0 0] (w1.alloc (.cells #[I (V0 : Int), I 0, I 0, I 0, .string ⟨#[]⟩, I 0, I 0, .slice none 0 0, .int .u32 0, I 0, .slice none 0 0] 29)) := by
    have q := k2.size
    have q2 := k1.size
    have q3 := hR1.lt
    exact ⟨OR.box o2 _, Cel.on (hF1.only k2 (by simpa using hgf)) (bel_new _ _), ⟨_, rfl, Cel.on (hR1.only k2 (by simpa using hgr)) (bel_new _ _)⟩, Cel.new _ _ _, (lift_panic k1 k2).alloc _, by omega, by omega, by omega⟩
  have cf := s0.cf.cell 0
  simp only [List.getElem?_toArray, List.getElem?_cons_zero] at cf
  clear hr o2 k2 hF1 hR1 k1 c0 hgf hgr
  have HK := Lib.hid hk
  clear ht0 hk
  cases ht1 : tU 1 l1 with
  | none =>
    have hr := num_no 1 s0.o ht1 (by omega)
    have e1 : X = none := by rw [← HX.out]; simp [prs, pH, pB, HT0.out, ht1, HK.out]
    subst e1
    have HS := Lib.hid s0.k
    clear HX ht1
    go_wp2_with fail
    refine hr.mono ?_
    rintro e w9 ⟨rfl, k⟩
    exact ⟨rfl, rfl, lift_panic HS.out k⟩
  | some a1 =>
    obtain ⟨V1, l2⟩ := a1
    have hr := num_yes 1 V1 s0.o ht1 (by have hv : V1 < 256 ^ 1 := (tU_some ht1).1; have : (256 : Nat) ^ 1 ≤ 4294967296 := (by decide); omega) (by omega)
    have sh1 := tU_short ht1
    have HT1 := Lib.hid ht1
    have hb1 : V1 < 256 ^ 1 := (tU_some ht1).1
    have HB1 := Lib.hid hb1
    clear hb1
    clear ht1
    go_wp2_with fail
    refine hr.mono ?_
    rintro e w2 ⟨rfl, o, k⟩
    have s1' := s0.step o k
    have s1 := s1'.put hs 1 (I (V1 : Int))
    have cc1 := s1'.cp.cell 1
    have cx1 := s1'.cp.free 1
    simp only [List.getElem?_toArray, List.getElem?_cons_zero, List.getElem?_cons_succ] at cc1
    simp only [List.setIfInBounds_toArray, List.set_cons_zero, List.set_cons_succ] at s1
    rw [HK.out] at s1
    have cf := s1.cf.cell 0
    have ck := s1.cp.cell 0
    simp only [List.getElem?_toArray, List.getElem?_cons_zero] at cf ck
    clear hr o k s0 s1'
    cases ht2 : tU 2 l2 with
    | none =>
      have hr := num_no 2 s1.o ht2 (by omega)
      have e1 : X = none := by rw [← HX.out]; simp [prs, pH, pB, HT0.out, HT1.out, ht2, HK.out]
      subst e1
      have HS := Lib.hid s1.k
      clear HX ht2
      go_wp2_with fail
      refine hr.mono ?_
      rintro e w9 ⟨rfl, k⟩
      exact ⟨rfl, rfl, lift_panic HS.out k⟩
    | some a2 =>
      obtain ⟨V2, l3⟩ := a2
      have hr := num_yes 2 V2 s1.o ht2 (by have hv : V2 < 256 ^ 2 := (tU_some ht2).1; have : (256 : Nat) ^ 2 ≤ 4294967296 := (by decide); omega) (by omega)
      have sh2 := tU_short ht2
      have HT2 := Lib.hid ht2
      have hb2 : V2 < 256 ^ 2 := (tU_some ht2).1
      have HB2 := Lib.hid hb2
      clear hb2
      clear ht2
      go_wp2_with fail
      refine hr.mono ?_
      rintro e w3 ⟨rfl, o, k⟩
      have s2' := s1.step o k
      have s2 := s2'.put hs 2 (I (V2 : Int))
      have cc2 := s2'.cp.cell 2
      have cx2 := s2'.cp.free 2
      simp only [List.getElem?_toArray, List.getElem?_cons_zero, List.getElem?_cons_succ] at cc2
      simp only [List.setIfInBounds_toArray, List.set_cons_zero, List.set_cons_succ] at s2
      have cf := s2.cf.cell 0
      have ck := s2.cp.cell 0
      simp only [List.getElem?_toArray, List.getElem?_cons_zero] at cf ck
      clear hr o k s1 s2'
      cases ht3 : tI l3 with
      | none =>
        have hr := sgn_no s2.o ht3 (by omega)
        have e1 : X = none := by rw [← HX.out]; simp [prs, pH, pB, HT0.out, HT1.out, HT2.out, ht3, HK.out]
        subst e1
        have HS := Lib.hid s2.k
        clear HX ht3
        go_wp2_with fail
        refine hr.mono ?_
        rintro e w9 ⟨rfl, k⟩
        exact ⟨rfl, rfl, lift_panic HS.out k⟩
      | some a3 =>
        obtain ⟨V3, l4⟩ := a3
        have hr := sgn_yes V3 s2.o ht3 (by omega)
        have sh3 := tI_short ht3
        have HT3 := Lib.hid ht3
        clear ht3
        go_wp2_with fail
        refine hr.mono ?_
        rintro e w4 ⟨rfl, o, k⟩
        have s3' := s2.step o k
        have s3 := s3'.put hs 6 (I V3)
        have cc3 := s3'.cp.cell 6
        have cx3 := s3'.cp.free 6
        simp only [List.getElem?_toArray, List.getElem?_cons_zero, List.getElem?_cons_succ] at cc3
        simp only [List.setIfInBounds_toArray, List.set_cons_zero, List.set_cons_succ] at s3
        have cf := s3.cf.cell 0
        have ck := s3.cp.cell 0
        simp only [List.getElem?_toArray, List.getElem?_cons_zero] at cf ck
        clear hr o k s2 s3'
        cases ht4 : tB 512 l4 with
        | none =>
          have hr := blob_no 512 s3.o ht4 (by omega)
          have e1 : X = none := by rw [← HX.out]; simp [prs, pH, pB, HT0.out, HT1.out, HT2.out, HT3.out, ht4, HK.out]
          subst e1
          have HS := Lib.hid s3.k
          clear HX ht4
          go_wp2_with fail
          refine hr.mono ?_
          rintro e w9 ⟨rfl, k⟩
          exact ⟨rfl, rfl, lift_panic HS.out k⟩
        | some a4 =>
          obtain ⟨V4, l5⟩ := a4
          have hr := blob_yes 512 V4 s3.o ht4 (by omega)
          have sh4 := tB_short ht4
          have HT4 := Lib.hid ht4
          clear ht4
          go_wp2_with fail
          refine hr.mono ?_
          rintro e w5 ⟨⟨x, sx, rfl, how⟩, o, k⟩
          obtain ⟨AX, CX, rfl, hBx⟩ := Bx.of how (n := V4.length) rfl
          have s4' := s3.step o k
          have s4 := s4'.put hs 7 (.slice AX V4.length CX)
          have cc4 := s4'.cp.cell 7
          have cx4 := s4'.cp.free 7
          simp only [List.getElem?_toArray, List.getElem?_cons_zero, List.getElem?_cons_succ] at cc4
          simp only [List.setIfInBounds_toArray, List.set_cons_zero, List.set_cons_succ] at s4
          have how2 := how.only (set_only w5 w1.heap.size 7 (.slice AX V4.length CX)) (fun i hi => by have hn := how.apart s4'.cp (by decide); intro hm; simp at hm; exact hn (hm ▸ hi))
          have cf := s4.cf.cell 0
          have ck := s4.cp.cell 0
          simp only [List.getElem?_toArray, List.getElem?_cons_zero] at cf ck
          clear hr o k s3 s4'
          have e1 : X = some (⟨2, (V1 : Int), (V2 : Int), 0, [], 0, V3, V4, 0, 0, []⟩, l5) := by rw [← HX.out]; simp [prs, pH, pB, HT0.out, HT1.out, HT2.out, HT3.out, HT4.out, HK.out]
          obtain ⟨zs, hz, hR⟩ := s4.cr
          have hzz := eleven hz
          rw [hzz] at hR
          obtain ⟨WL, hWL⟩ : ∃ WL, WL = (w5.setCell ⟨w1.heap.size, 7, none⟩ (.slice AX V4.length CX)) := ⟨_, rfl⟩
          rw [← hWL] at s4 hR cf ck how2
          have kW := put11_only WL (w.heap.size + 1) (I 2) (I (V1 : Int)) (I (V2 : Int)) (I 0) (.string ⟨#[]⟩) (I 0) (I V3) (.slice AX V4.length CX) (.int .u32 0) (I 0) (.slice none 0 0)
          have hR2 := put11_cel hR (I 2) (I (V1 : Int)) (I (V2 : Int)) (I 0) (.string ⟨#[]⟩) (I 0) (I V3) (.slice AX V4.length CX) (.int .u32 0) (I 0) (.slice none 0 0)
          have hrr := s4.hr
          have hoB := s4.o.lt.1
          have o9 := s4.o.only kW (by simp; omega) (by simp; omega)
          have K9 : Only [g] w (put11 WL (w.heap.size + 1) (I 2) (I (V1 : Int)) (I (V2 : Int)) (I 0) (.string ⟨#[]⟩) (I 0) (I V3) (.slice AX V4.length CX) (.int .u32 0) (I 0) (.slice none 0 0)) := s4.k.trans (kW.more (T := [w.heap.size + 1]) (fun x hx => .inl hx)) (fun x hx => .inr (by simp at hx; omega))
          have how3 := how2.only kW (fun i hi => by have hn := how2.apart hR (by decide); intro hm; simp at hm; exact hn (hm ▸ hi))
          have HQ := Lib.hid (show UO (some (⟨2, (V1 : Int), (V2 : Int), 0, [], 0, V3, V4, 0, 0, []⟩, l5)) w B g (.returned (.agg #[I 2, I (V1 : Int), I (V2 : Int), I 0, .string ⟨#[]⟩, I 0, I V3, .slice AX V4.length CX, .int .u32 0, I 0, .slice none 0 0])) (put11 WL (w.heap.size + 1) (I 2) (I (V1 : Int)) (I (V2 : Int)) (I 0) (.string ⟨#[]⟩) (I 0) (I V3) (.slice AX V4.length CX) (.int .u32 0) (I 0) (.slice none 0 0)) from ⟨⟨AX, V4.length, CX, none, 0, 0, rfl, ⟨⟨_, how3⟩, rfl, os_nil _, rfl, (show (0 : Nat) < 4294967296 by decide)⟩⟩, o9, K9⟩)
          have r0 := hR.cell 0
          have f0 := hR.free 0
          have p0 := s4.cp.cell 0
          have r1 := hR.cell 1
          have f1 := hR.free 1
          have p1 := s4.cp.cell 1
          have r2 := hR.cell 2
          have f2 := hR.free 2
          have p2 := s4.cp.cell 2
          have r3 := hR.cell 3
          have f3 := hR.free 3
          have p3 := s4.cp.cell 3
          have r4 := hR.cell 4
          have f4 := hR.free 4
          have p4 := s4.cp.cell 4
          have r5 := hR.cell 5
          have f5 := hR.free 5
          have p5 := s4.cp.cell 5
          have r6 := hR.cell 6
          have f6 := hR.free 6
          have p6 := s4.cp.cell 6
          have r7 := hR.cell 7
          have f7 := hR.free 7
          have p7 := s4.cp.cell 7
          have r8 := hR.cell 8
          have f8 := hR.free 8
          have p8 := s4.cp.cell 8
          have r9 := hR.cell 9
          have f9 := hR.free 9
          have p9 := s4.cp.cell 9
          have r10 := hR.cell 10
          have f10 := hR.free 10
          have p10 := s4.cp.cell 10
          simp only [List.getElem?_toArray, List.getElem?_cons_zero, List.getElem?_cons_succ] at r0 p0 r1 p1 r2 p2 r3 p3 r4 p4 r5 p5 r6 p6 r7 p7 r8 p8 r9 p9 r10 p10
          subst e1
          have HR2 := Lib.hid hR2
          have HWL := Lib.hid hWL
          have hne := s4.ne
          clear HX kW hR2 o9 K9 hR s4 hzz hz
          subst hWL
          go_wp2
          exact bodyPost_ret (unit_results rfl HR2.out) rfl HQ.out
end Go.Proofs.Ytjjfamkljcipgaa.Pdu
namespace Go.Proofs.Ytjjfamkljcipgaa.Pdu
open Go.RowKit Go.Proofs.Ytjjfamkljcipgaa.Row

set_option maxRecDepth 100000 in
set_option maxHeartbeats 4000000 in
theorem unit_k3 (w : World) (B g : Nat) (l l1 : List Byte) (V0 : Nat) (h : OR w B g (some l)) (hL : l.length < 1000000) (ht0 : tU 1 l = some (V0, l1)) (hk : (V0 : Int) = 3) :
    Calls Try.prog 38 #[.agg #[.pointer (some ⟨g, 0, none⟩)]] w (UO (prs l) w B g) := by
  obtain ⟨X, hX⟩ : ∃ X, prs l = X := ⟨_, rfl⟩
  rw [hX]
  have HX := Lib.hid hX
  have HT0 := Lib.hid ht0
  clear hX
  have hs := h.lt.2
  have hF0 := Cel.new w 60 #[.pointer (some ⟨g, 0, none⟩)]
  have bo := box_only w [g] (.cells #[.pointer (some ⟨g, 0, none⟩)] 60)
  have o0 := OR.box h (.cells #[.pointer (some ⟨g, 0, none⟩)] 60)
  have o1 := OR.box o0 (.cells #[I 0, I 0, I 0, I 0, .string ⟨#[]⟩, I 0, I 0, .slice none 0 0, .int .u32 0, I 0, .slice none 0 0] 29)
  have hF1 := Cel.on hF0 (bel_new _ (.cells #[I 0, I 0, I 0, I 0, .string ⟨#[]⟩, I 0, I 0, .slice none 0 0, .int .u32 0, I 0, .slice none 0 0] 29))
  have hR1 := Cel_two w (.cells #[.pointer (some ⟨g, 0, none⟩)] 60) 29 #[I 0, I 0, I 0, I 0, .string ⟨#[]⟩, I 0, I 0, .slice none 0 0, .int .u32 0, I 0, .slice none 0 0]
  have k1 := bo.alloc (.cells #[I 0, I 0, I 0, I 0, .string ⟨#[]⟩, I 0, I 0, .slice none 0 0, .int .u32 0, I 0, .slice none 0 0] 29)
  have hgf : w.heap.size ≠ g := by omega
  have hgr : w.heap.size + 1 ≠ g := by omega
  have c0 := hF1.cell 0
  simp only [List.getElem?_toArray, List.getElem?_cons_zero] at c0
  clear bo o0 hF0
  have hr := num_yes 1 V0 o1 ht0 (by have hv : V0 < 256 := (tU_some ht0).1; omega) hL
  have sh0 := tU_short ht0
  clear h o1
  go_enter Try.func38, Try.ntmps38
  go_wp2_with fail
  refine hr.mono ?_
  rintro e w1 ⟨rfl, o2, k2⟩
  have s0 : US w B g (some l1) w.heap.size (w.heap.size + 1) w1.heap.size #[I (V0 : Int), I 0, I 0, I 0, .string ⟨#[]⟩, I 0, I 0, .slice none 0 0, .int .u32 0, I 0, .slice none 0 0] (w1.alloc (.cells #[I (V0 : Int), I 0, I 0, I 0, .string ⟨#[]⟩, I 0, I 0, .slice none 0 0, .int .u32 0, I 0, .slice none 0 0] 29)) := by
    have q := k2.size
    have q2 := k1.size
    have q3 := hR1.lt
    exact ⟨OR.box o2 _, Cel.on (hF1.only k2 (by simpa using hgf)) (bel_new _ _), ⟨_, rfl, Cel.on (hR1.only k2 (by simpa using hgr)) (bel_new _ _)⟩, Cel.new _ _ _, (lift_panic k1 k2).alloc _, by omega, by omega, by omega⟩
  have cf := s0.cf.cell 0
  simp only [List.getElem?_toArray, List.getElem?_cons_zero] at cf
  clear hr o2 k2 hF1 hR1 k1 c0 hgf hgr
  have HK := Lib.hid hk
  clear ht0 hk
  cases ht1 : tU 1 l1 with
  | none =>
    have hr := num_no 1 s0.o ht1 (by omega)
    have e1 : X = none := by rw [← HX.out]; simp [prs, pH, pB, HT0.out, ht1, HK.out]
    subst e1
    have HS := Lib.hid s0.k
    clear HX ht1
    go_wp2_with fail
    refine hr.mono ?_
    rintro e w9 ⟨rfl, k⟩
    exact ⟨rfl, rfl, lift_panic HS.out k⟩
  | some a1 =>
    obtain ⟨V1, l2⟩ := a1
    have hr := num_yes 1 V1 s0.o ht1 (by have hv : V1 < 256 ^ 1 := (tU_some ht1).1; have : (256 : Nat) ^ 1 ≤ 4294967296 := (by decide); omega) (by omega)
    have sh1 := tU_short ht1
    have HT1 := Lib.hid ht1
    have hb1 : V1 < 256 ^ 1 := (tU_some ht1).1
    have HB1 := Lib.hid hb1
    clear hb1
    clear ht1
    go_wp2_with fail
    refine hr.mono ?_
    rintro e w2 ⟨rfl, o, k⟩
    have s1' := s0.step o k
    have s1 := s1'.put hs 1 (I (V1 : Int))
    have cc1 := s1'.cp.cell 1
    have cx1 := s1'.cp.free 1
    simp only [List.getElem?_toArray, List.getElem?_cons_zero, List.getElem?_cons_succ] at cc1
    simp only [List.setIfInBounds_toArray, List.set_cons_zero, List.set_cons_succ] at s1
    rw [HK.out] at s1
    have cf := s1.cf.cell 0
    have ck := s1.cp.cell 0
    simp only [List.getElem?_toArray, List.getElem?_cons_zero] at cf ck
    clear hr o k s0 s1'
    cases ht2 : tU 2 l2 with
    | none =>
      have hr := num_no 2 s1.o ht2 (by omega)
      have e1 : X = none := by rw [← HX.out]; simp [prs, pH, pB, HT0.out, HT1.out, ht2, HK.out]
      subst e1
      have HS := Lib.hid s1.k
      clear HX ht2
      go_wp2_with fail
      refine hr.mono ?_
      rintro e w9 ⟨rfl, k⟩
      exact ⟨rfl, rfl, lift_panic HS.out k⟩
    | some a2 =>
      obtain ⟨V2, l3⟩ := a2
      have hr := num_yes 2 V2 s1.o ht2 (by have hv : V2 < 256 ^ 2 := (tU_some ht2).1; have : (256 : Nat) ^ 2 ≤ 4294967296 := (by decide); omega) (by omega)
      have sh2 := tU_short ht2
      have HT2 := Lib.hid ht2
      have hb2 : V2 < 256 ^ 2 := (tU_some ht2).1
      have HB2 := Lib.hid hb2
      clear hb2
      clear ht2
      go_wp2_with fail
      refine hr.mono ?_
      rintro e w3 ⟨rfl, o, k⟩
      have s2' := s1.step o k
      have s2 := s2'.put hs 2 (I (V2 : Int))
      have cc2 := s2'.cp.cell 2
      have cx2 := s2'.cp.free 2
      simp only [List.getElem?_toArray, List.getElem?_cons_zero, List.getElem?_cons_succ] at cc2
      simp only [List.setIfInBounds_toArray, List.set_cons_zero, List.set_cons_succ] at s2
      have cf := s2.cf.cell 0
      have ck := s2.cp.cell 0
      simp only [List.getElem?_toArray, List.getElem?_cons_zero] at cf ck
      clear hr o k s1 s2'
      cases ht3 : tU 1 l3 with
      | none =>
        have hr := num_no 1 s2.o ht3 (by omega)
        have e1 : X = none := by rw [← HX.out]; simp [prs, pH, pB, HT0.out, HT1.out, HT2.out, ht3, HK.out]
        subst e1
        have HS := Lib.hid s2.k
        clear HX ht3
        go_wp2_with fail
        refine hr.mono ?_
        rintro e w9 ⟨rfl, k⟩
        exact ⟨rfl, rfl, lift_panic HS.out k⟩
      | some a3 =>
        obtain ⟨V3, l4⟩ := a3
        have hr := num_yes 1 V3 s2.o ht3 (by have hv : V3 < 256 ^ 1 := (tU_some ht3).1; have : (256 : Nat) ^ 1 ≤ 4294967296 := (by decide); omega) (by omega)
        have sh3 := tU_short ht3
        have HT3 := Lib.hid ht3
        have hb3 : V3 < 256 ^ 1 := (tU_some ht3).1
        have HB3 := Lib.hid hb3
        clear hb3
        clear ht3
        go_wp2_with fail
        refine hr.mono ?_
        rintro e w4 ⟨rfl, o, k⟩
        have s3' := s2.step o k
        have s3 := s3'.put hs 3 (I (V3 : Int))
        have cc3 := s3'.cp.cell 3
        have cx3 := s3'.cp.free 3
        simp only [List.getElem?_toArray, List.getElem?_cons_zero, List.getElem?_cons_succ] at cc3
        simp only [List.setIfInBounds_toArray, List.set_cons_zero, List.set_cons_succ] at s3
        have cf := s3.cf.cell 0
        have ck := s3.cp.cell 0
        simp only [List.getElem?_toArray, List.getElem?_cons_zero] at cf ck
        clear hr o k s2 s3'
        cases ht4 : tI l4 with
        | none =>
          have hr := sgn_no s3.o ht4 (by omega)
          have e1 : X = none := by rw [← HX.out]; simp [prs, pH, pB, HT0.out, HT1.out, HT2.out, HT3.out, ht4, HK.out]
          subst e1
          have HS := Lib.hid s3.k
          clear HX ht4
          go_wp2_with fail
          refine hr.mono ?_
          rintro e w9 ⟨rfl, k⟩
          exact ⟨rfl, rfl, lift_panic HS.out k⟩
        | some a4 =>
          obtain ⟨V4, l5⟩ := a4
          have hr := sgn_yes V4 s3.o ht4 (by omega)
          have sh4 := tI_short ht4
          have HT4 := Lib.hid ht4
          clear ht4
          go_wp2_with fail
          refine hr.mono ?_
          rintro e w5 ⟨rfl, o, k⟩
          have s4' := s3.step o k
          have s4 := s4'.put hs 5 (I V4)
          have cc4 := s4'.cp.cell 5
          have cx4 := s4'.cp.free 5
          simp only [List.getElem?_toArray, List.getElem?_cons_zero, List.getElem?_cons_succ] at cc4
          simp only [List.setIfInBounds_toArray, List.set_cons_zero, List.set_cons_succ] at s4
          have cf := s4.cf.cell 0
          have ck := s4.cp.cell 0
          simp only [List.getElem?_toArray, List.getElem?_cons_zero] at cf ck
          clear hr o k s3 s4'
          cases ht5 : tU 4 l5 with
          | none =>
            have hr := num_no 4 s4.o ht5 (by omega)
            have e1 : X = none := by rw [← HX.out]; simp [prs, pH, pB, HT0.out, HT1.out, HT2.out, HT3.out, HT4.out, ht5, HK.out]
            subst e1
            have HS := Lib.hid s4.k
            clear HX ht5
            go_wp2_with fail
            refine hr.mono ?_
            rintro e w9 ⟨rfl, k⟩
            exact ⟨rfl, rfl, lift_panic HS.out k⟩
          | some a5 =>
            obtain ⟨V5, l6⟩ := a5
            have hr := num_yes 4 V5 s4.o ht5 (by have hv : V5 < 256 ^ 4 := (tU_some ht5).1; have : (256 : Nat) ^ 4 ≤ 4294967296 := (by decide); omega) (by omega)
            have sh5 := tU_short ht5
            have HT5 := Lib.hid ht5
            have hsu : V5 < 4294967296 := (tU_some ht5).1
            have hb5 : V5 < 256 ^ 4 := (tU_some ht5).1
            have HB5 := Lib.hid hb5
            clear hb5
            clear ht5
            go_wp2_with fail
            refine hr.mono ?_
            rintro e w6 ⟨rfl, o, k⟩
            have s5' := s4.step o k
            have w32 : IntKind.u32.wrap (V5 : Int) = (V5 : Int) := by rw [IntKind.wrap_u32]; omega
            have s5 := s5'.put hs 8 (.int .u32 (V5 : Int))
            have cc5 := s5'.cp.cell 8
            have cx5 := s5'.cp.free 8
            simp only [List.getElem?_toArray, List.getElem?_cons_zero, List.getElem?_cons_succ] at cc5
            simp only [List.setIfInBounds_toArray, List.set_cons_zero, List.set_cons_succ] at s5
            have cf := s5.cf.cell 0
            have ck := s5.cp.cell 0
            simp only [List.getElem?_toArray, List.getElem?_cons_zero] at cf ck
            clear hr o k s4 s5'
            cases ht6 : tU 1 l6 with
            | none =>
              have hr := num_no 1 s5.o ht6 (by omega)
              have e1 : X = none := by rw [← HX.out]; simp [prs, pH, pB, HT0.out, HT1.out, HT2.out, HT3.out, HT4.out, HT5.out, ht6, HK.out]
              subst e1
              have HS := Lib.hid s5.k
              clear HX ht6
              go_wp2_with fail
              refine hr.mono ?_
              rintro e w9 ⟨rfl, k⟩
              exact ⟨rfl, rfl, lift_panic HS.out k⟩
            | some a6 =>
              obtain ⟨V6, l7⟩ := a6
              have hr := num_yes 1 V6 s5.o ht6 (by have hv : V6 < 256 ^ 1 := (tU_some ht6).1; have : (256 : Nat) ^ 1 ≤ 4294967296 := (by decide); omega) (by omega)
              have sh6 := tU_short ht6
              have HT6 := Lib.hid ht6
              have hb6 : V6 < 256 ^ 1 := (tU_some ht6).1
              have HB6 := Lib.hid hb6
              clear hb6
              clear ht6
              go_wp2_with fail
              refine hr.mono ?_
              rintro e w7 ⟨rfl, o, k⟩
              have s6' := s5.step o k
              have s6 := s6'.put hs 9 (I (V6 : Int))
              have cc6 := s6'.cp.cell 9
              have cx6 := s6'.cp.free 9
              simp only [List.getElem?_toArray, List.getElem?_cons_zero, List.getElem?_cons_succ] at cc6
              simp only [List.setIfInBounds_toArray, List.set_cons_zero, List.set_cons_succ] at s6
              have cf := s6.cf.cell 0
              have ck := s6.cp.cell 0
              simp only [List.getElem?_toArray, List.getElem?_cons_zero] at cf ck
              clear hr o k s5 s6'
              have e1 : X = some (⟨3, (V1 : Int), (V2 : Int), (V3 : Int), [], V4, 0, [], V5, (V6 : Int), []⟩, l7) := by rw [← HX.out]; simp [prs, pH, pB, HT0.out, HT1.out, HT2.out, HT3.out, HT4.out, HT5.out, HT6.out, HK.out]
              obtain ⟨zs, hz, hR⟩ := s6.cr
              have hzz := eleven hz
              rw [hzz] at hR
              obtain ⟨WL, hWL⟩ : ∃ WL, WL = (w7.setCell ⟨w1.heap.size, 9, none⟩ (I (V6 : Int))) := ⟨_, rfl⟩
              rw [← hWL] at s6 hR cf ck
              have kW := put11_only WL (w.heap.size + 1) (I 3) (I (V1 : Int)) (I (V2 : Int)) (I (V3 : Int)) (.string ⟨#[]⟩) (I V4) (I 0) (.slice none 0 0) (.int .u32 (V5 : Int)) (I (V6 : Int)) (.slice none 0 0)
              have hR2 := put11_cel hR (I 3) (I (V1 : Int)) (I (V2 : Int)) (I (V3 : Int)) (.string ⟨#[]⟩) (I V4) (I 0) (.slice none 0 0) (.int .u32 (V5 : Int)) (I (V6 : Int)) (.slice none 0 0)
              have hrr := s6.hr
              have hoB := s6.o.lt.1
              have o9 := s6.o.only kW (by simp; omega) (by simp; omega)
              have K9 : Only [g] w (put11 WL (w.heap.size + 1) (I 3) (I (V1 : Int)) (I (V2 : Int)) (I (V3 : Int)) (.string ⟨#[]⟩) (I V4) (I 0) (.slice none 0 0) (.int .u32 (V5 : Int)) (I (V6 : Int)) (.slice none 0 0)) := s6.k.trans (kW.more (T := [w.heap.size + 1]) (fun x hx => .inl hx)) (fun x hx => .inr (by simp at hx; omega))
              have HQ := Lib.hid (show UO (some (⟨3, (V1 : Int), (V2 : Int), (V3 : Int), [], V4, 0, [], V5, (V6 : Int), []⟩, l7)) w B g (.returned (.agg #[I 3, I (V1 : Int), I (V2 : Int), I (V3 : Int), .string ⟨#[]⟩, I V4, I 0, .slice none 0 0, .int .u32 (V5 : Int), I (V6 : Int), .slice none 0 0])) (put11 WL (w.heap.size + 1) (I 3) (I (V1 : Int)) (I (V2 : Int)) (I (V3 : Int)) (.string ⟨#[]⟩) (I V4) (I 0) (.slice none 0 0) (.int .u32 (V5 : Int)) (I (V6 : Int)) (.slice none 0 0)) from ⟨⟨none, 0, 0, none, 0, 0, rfl, ⟨ow_nil _, rfl, os_nil _, rfl, hsu⟩⟩, o9, K9⟩)
              have r0 := hR.cell 0
              have f0 := hR.free 0
              have p0 := s6.cp.cell 0
              have r1 := hR.cell 1
              have f1 := hR.free 1
              have p1 := s6.cp.cell 1
              have r2 := hR.cell 2
              have f2 := hR.free 2
              have p2 := s6.cp.cell 2
              have r3 := hR.cell 3
              have f3 := hR.free 3
              have p3 := s6.cp.cell 3
              have r4 := hR.cell 4
              have f4 := hR.free 4
              have p4 := s6.cp.cell 4
              have r5 := hR.cell 5
              have f5 := hR.free 5
              have p5 := s6.cp.cell 5
              have r6 := hR.cell 6
              have f6 := hR.free 6
              have p6 := s6.cp.cell 6
              have r7 := hR.cell 7
              have f7 := hR.free 7
              have p7 := s6.cp.cell 7
              have r8 := hR.cell 8
              have f8 := hR.free 8
              have p8 := s6.cp.cell 8
              have r9 := hR.cell 9
              have f9 := hR.free 9
              have p9 := s6.cp.cell 9
              have r10 := hR.cell 10
              have f10 := hR.free 10
              have p10 := s6.cp.cell 10
              simp only [List.getElem?_toArray, List.getElem?_cons_zero, List.getElem?_cons_succ] at r0 p0 r1 p1 r2 p2 r3 p3 r4 p4 r5 p5 r6 p6 r7 p7 r8 p8 r9 p9 r10 p10
              subst e1
              have HR2 := Lib.hid hR2
              have HWL := Lib.hid hWL
              have hne := s6.ne
              clear HX kW hR2 o9 K9 hR s6 hzz hz
              subst hWL
              go_wp2
              exact bodyPost_ret (unit_results rfl HR2.out) rfl HQ.out
end Go.Proofs.Ytjjfamkljcipgaa.Pdu
