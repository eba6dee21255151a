/-
  Package pdu: unit, kind 4.
  Package pdu: unit, kind 5.
  Package pdu: unit, the other kinds.
  Package pdu: unit, of all bytes.
-/
import Derived.Test.YtjjfamkljcipgaaPduU0
import Derived.Test.YtjjfamkljcipgaaPduUa
namespace Go.Proofs.Ytjjfamkljcipgaa.Pdu
open Go.RowKit Go.Proofs.Ytjjfamkljcipgaa.Row

set_option maxRecDepth 100000 in
set_option maxHeartbeats 4000000 in
theorem unit_k4 (w : World) (B g : Nat) (l l1 : List Byte) (V0 : Nat) (h : OR w B g (some l)) (hL : l.length < 1000000) (ht0 : tU 1 l = some (V0, l1)) (hk : (V0 : Int) = 4) :
    Calls Try.prog 38 #[.agg #[.pointer (some ⟨g, 0, none⟩)]] w (UO (prs l) w B g) := by
  obtain ⟨X, hX⟩ : ∃ X, prs l = X := ⟨_, rfl⟩
  rw [hX]
  have HX := Lib.hid hX
  have HT0 := Lib.hid ht0
  clear hX
  have hs := h.lt.2
  have hF0 := Cel.new w 60 #[.pointer (some ⟨g, 0, none⟩)]
  have bo := box_only w [g] (.cells #[.pointer (some ⟨g, 0, none⟩)] 60)
  have o0 := OR.box h (.cells #[.pointer (some ⟨g, 0, none⟩)] 60)
  have o1 := OR.box o0 (.cells #[I 0, I 0, I 0, I 0, .string ⟨#[]⟩, I 0, I 0, .slice none 0 0, .int .u32 0, I 0, .slice none 0 0] 29)
  have hF1 := Cel.on hF0 (bel_new _ (.cells #[I 0, I 0, I 0, I 0, .string ⟨#[]⟩, I 0, I 0, .slice none 0 0, .int .u32 0, I 0, .slice none 0 0] 29))
  have hR1 := Cel_two w (.cells #[.pointer (some ⟨g, 0, none⟩)] 60) 29 #[I 0, I 0, I 0, I 0, .string ⟨#[]⟩, I 0, I 0, .slice none 0 0, .int .u32 0, I 0, .slice none 0 0]
  have k1 := bo.alloc (.cells #[I 0, I 0, I 0, I 0, .string ⟨#[]⟩, I 0, I 0, .slice none 0 0, .int .u32 0, I 0, .slice none 0 0] 29)
  have hgf : w.heap.size ≠ g := by omega
  have hgr : w.heap.size + 1 ≠ g := by omega
  have c0 := hF1.cell 0
  simp only [List.getElem?_toArray, List.getElem?_cons_zero] at c0
  clear bo o0 hF0
  have hr := num_yes 1 V0 o1 ht0 (by have hv : V0 < 256 := (tU_some ht0).1; omega) hL
  have sh0 := tU_short ht0
  clear h o1
  go_enter Try.func38, Try.ntmps38
  go_wp2_with fail
  refine hr.mono ?_
  rintro e w1 ⟨rfl, o2, k2⟩
  have s0 : US w B g (some l1) w.heap.size (w.heap.size + 1) w1.heap.size #[I (V0 : Int), I 0, I 0, I 0, .string ⟨#[]⟩, I 0, I 0, .slice none 0 0, .int .u32 0, I 0, .slice none 0 0] (w1.alloc (.cells #[I (V0 : Int), I 0, I 0, I 0, .string ⟨#[]⟩, I 0, I 0, .slice none 0 0, .int .u32 0, I 0, .slice none 0 0] 29)) := by
    have q := k2.size
    have q2 := k1.size
    have q3 := hR1.lt
    exact ⟨OR.box o2 _, Cel.on (hF1.only k2 (by simpa using hgf)) (bel_new _ _), ⟨_, rfl, Cel.on (hR1.only k2 (by simpa using hgr)) (bel_new _ _)⟩, Cel.new _ _ _, (lift_panic k1 k2).alloc _, by omega, by omega, by omega⟩
  have cf := s0.cf.cell 0
  simp only [List.getElem?_toArray, List.getElem?_cons_zero] at cf
  clear hr o2 k2 hF1 hR1 k1 c0 hgf hgr
  have HK := Lib.hid hk
  clear ht0 hk
  cases ht1 : tU 1 l1 with
  | none =>
    have hr := num_no 1 s0.o ht1 (by omega)
    have e1 : X = none := by rw [← HX.out]; simp [prs, pH, pB, HT0.out, ht1, HK.out]
    subst e1
    have HS := Lib.hid s0.k
    clear HX ht1
    go_wp2_with fail
    refine hr.mono ?_
    rintro e w9 ⟨rfl, k⟩
    exact ⟨rfl, rfl, lift_panic HS.out k⟩
  | some a1 =>
    obtain ⟨V1, l2⟩ := a1
    have hr := num_yes 1 V1 s0.o ht1 (by have hv : V1 < 256 ^ 1 := (tU_some ht1).1; have : (256 : Nat) ^ 1 ≤ 4294967296 := (by decide); omega) (by omega)
    have sh1 := tU_short ht1
    have HT1 := Lib.hid ht1
    have hb1 : V1 < 256 ^ 1 := (tU_some ht1).1
    have HB1 := Lib.hid hb1
    clear hb1
    clear ht1
    go_wp2_with fail
    refine hr.mono ?_
    rintro e w2 ⟨rfl, o, k⟩
    have s1' := s0.step o k
    have s1 := s1'.put hs 1 (I (V1 : Int))
    have cc1 := s1'.cp.cell 1
    have cx1 := s1'.cp.free 1
    simp only [List.getElem?_toArray, List.getElem?_cons_zero, List.getElem?_cons_succ] at cc1
    simp only [List.setIfInBounds_toArray, List.set_cons_zero, List.set_cons_succ] at s1
    rw [HK.out] at s1
    have cf := s1.cf.cell 0
    have ck := s1.cp.cell 0
    simp only [List.getElem?_toArray, List.getElem?_cons_zero] at cf ck
    clear hr o k s0 s1'
    cases ht2 : tU 2 l2 with
    | none =>
      have hr := num_no 2 s1.o ht2 (by omega)
      have e1 : X = none := by rw [← HX.out]; simp [prs, pH, pB, HT0.out, HT1.out, ht2, HK.out]
      subst e1
      have HS := Lib.hid s1.k
      clear HX ht2
      go_wp2_with fail
      refine hr.mono ?_
      rintro e w9 ⟨rfl, k⟩
      exact ⟨rfl, rfl, lift_panic HS.out k⟩
    | some a2 =>
      obtain ⟨V2, l3⟩ := a2
      have hr := num_yes 2 V2 s1.o ht2 (by have hv : V2 < 256 ^ 2 := (tU_some ht2).1; have : (256 : Nat) ^ 2 ≤ 4294967296 := (by decide); omega) (by omega)
      have sh2 := tU_short ht2
      have HT2 := Lib.hid ht2
      have hb2 : V2 < 256 ^ 2 := (tU_some ht2).1
      have HB2 := Lib.hid hb2
      clear hb2
      clear ht2
      go_wp2_with fail
      refine hr.mono ?_
      rintro e w3 ⟨rfl, o, k⟩
      have s2' := s1.step o k
      have s2 := s2'.put hs 2 (I (V2 : Int))
      have cc2 := s2'.cp.cell 2
      have cx2 := s2'.cp.free 2
      simp only [List.getElem?_toArray, List.getElem?_cons_zero, List.getElem?_cons_succ] at cc2
      simp only [List.setIfInBounds_toArray, List.set_cons_zero, List.set_cons_succ] at s2
      have cf := s2.cf.cell 0
      have ck := s2.cp.cell 0
      simp only [List.getElem?_toArray, List.getElem?_cons_zero] at cf ck
      clear hr o k s1 s2'
      cases ht3 : pGp l3 with
      | none =>
        have hr := gaps_any _ B g l3 s2.o (by omega)
        rw [ht3] at hr
        have e1 : X = none := by rw [← HX.out]; simp [prs, pH, pB, HT0.out, HT1.out, HT2.out, ht3, HK.out, pGp_bind]
        subst e1
        have HS := Lib.hid s2.k
        clear HX ht3
        go_wp2_with fail
        refine hr.mono ?_
        rintro e w9 ⟨rfl, k⟩
        exact ⟨rfl, rfl, lift_panic HS.out k⟩
      | some a3 =>
        obtain ⟨V3, l4⟩ := a3
        have hr := gaps_any _ B g l3 s2.o (by omega)
        rw [ht3] at hr
        have sh3 := pGp_short ht3
        have HT3 := Lib.hid ht3
        clear ht3
        go_wp2_with fail
        refine hr.mono ?_
        rintro e w4 ⟨⟨GX, CX, sx, rfl, hos⟩, o, k⟩
        have s3' := s2.step o k
        have s3 := s3'.put hs 10 (.slice GX V3.length CX)
        have cc3 := s3'.cp.cell 10
        have cx3 := s3'.cp.free 10
        simp only [List.getElem?_toArray, List.getElem?_cons_zero, List.getElem?_cons_succ] at cc3
        simp only [List.setIfInBounds_toArray, List.set_cons_zero, List.set_cons_succ] at s3
        have hos2 := hos.only (set_only w4 w1.heap.size 10 (.slice GX V3.length CX)) (fun i hi => by have hn := Row.Os.apart hos s3'.cp (by decide); intro hm; simp at hm; exact hn (hm ▸ hi))
        have cf := s3.cf.cell 0
        have ck := s3.cp.cell 0
        simp only [List.getElem?_toArray, List.getElem?_cons_zero] at cf ck
        clear hr o k s2 s3'
        have e1 : X = some (⟨4, (V1 : Int), (V2 : Int), 0, [], 0, 0, [], 0, 0, V3⟩, l4) := by rw [← HX.out]; simp [prs, pH, pB, HT0.out, HT1.out, HT2.out, HT3.out, HK.out, pGp_bind]
        obtain ⟨zs, hz, hR⟩ := s3.cr
        have hzz := eleven hz
        rw [hzz] at hR
        obtain ⟨WL, hWL⟩ : ∃ WL, WL = (w4.setCell ⟨w1.heap.size, 10, none⟩ (.slice GX V3.length CX)) := ⟨_, rfl⟩
        rw [← hWL] at s3 hR cf ck hos2
        have kW := put11_only WL (w.heap.size + 1) (I 4) (I (V1 : Int)) (I (V2 : Int)) (I 0) (.string ⟨#[]⟩) (I 0) (I 0) (.slice none 0 0) (.int .u32 0) (I 0) (.slice GX V3.length CX)
        have hR2 := put11_cel hR (I 4) (I (V1 : Int)) (I (V2 : Int)) (I 0) (.string ⟨#[]⟩) (I 0) (I 0) (.slice none 0 0) (.int .u32 0) (I 0) (.slice GX V3.length CX)
        have hrr := s3.hr
        have hoB := s3.o.lt.1
        have o9 := s3.o.only kW (by simp; omega) (by simp; omega)
        have K9 : Only [g] w (put11 WL (w.heap.size + 1) (I 4) (I (V1 : Int)) (I (V2 : Int)) (I 0) (.string ⟨#[]⟩) (I 0) (I 0) (.slice none 0 0) (.int .u32 0) (I 0) (.slice GX V3.length CX)) := s3.k.trans (kW.more (T := [w.heap.size + 1]) (fun x hx => .inl hx)) (fun x hx => .inr (by simp at hx; omega))
        have hos3 := hos2.only kW (fun i hi => by have hn := Row.Os.apart hos2 hR (by decide); intro hm; simp at hm; exact hn (hm ▸ hi))
        have HQ := Lib.hid (show UO (some (⟨4, (V1 : Int), (V2 : Int), 0, [], 0, 0, [], 0, 0, V3⟩, l4)) w B g (.returned (.agg #[I 4, I (V1 : Int), I (V2 : Int), I 0, .string ⟨#[]⟩, I 0, I 0, .slice none 0 0, .int .u32 0, I 0, .slice GX V3.length CX])) (put11 WL (w.heap.size + 1) (I 4) (I (V1 : Int)) (I (V2 : Int)) (I 0) (.string ⟨#[]⟩) (I 0) (I 0) (.slice none 0 0) (.int .u32 0) (I 0) (.slice GX V3.length CX)) from ⟨⟨none, 0, 0, GX, V3.length, CX, rfl, ⟨ow_nil _, rfl, ⟨_, hos3⟩, rfl, (show (0 : Nat) < 4294967296 by decide)⟩⟩, o9, K9⟩)
        have r0 := hR.cell 0
        have f0 := hR.free 0
        have p0 := s3.cp.cell 0
        have r1 := hR.cell 1
        have f1 := hR.free 1
        have p1 := s3.cp.cell 1
        have r2 := hR.cell 2
        have f2 := hR.free 2
        have p2 := s3.cp.cell 2
        have r3 := hR.cell 3
        have f3 := hR.free 3
        have p3 := s3.cp.cell 3
        have r4 := hR.cell 4
        have f4 := hR.free 4
        have p4 := s3.cp.cell 4
        have r5 := hR.cell 5
        have f5 := hR.free 5
        have p5 := s3.cp.cell 5
        have r6 := hR.cell 6
        have f6 := hR.free 6
        have p6 := s3.cp.cell 6
        have r7 := hR.cell 7
        have f7 := hR.free 7
        have p7 := s3.cp.cell 7
        have r8 := hR.cell 8
        have f8 := hR.free 8
        have p8 := s3.cp.cell 8
        have r9 := hR.cell 9
        have f9 := hR.free 9
        have p9 := s3.cp.cell 9
        have r10 := hR.cell 10
        have f10 := hR.free 10
        have p10 := s3.cp.cell 10
        simp only [List.getElem?_toArray, List.getElem?_cons_zero, List.getElem?_cons_succ] at r0 p0 r1 p1 r2 p2 r3 p3 r4 p4 r5 p5 r6 p6 r7 p7 r8 p8 r9 p9 r10 p10
        subst e1
        have HR2 := Lib.hid hR2
        have HWL := Lib.hid hWL
        have hne := s3.ne
        clear HX kW hR2 o9 K9 hR s3 hzz hz
        subst hWL
        go_wp2
        exact bodyPost_ret (unit_results rfl HR2.out) rfl HQ.out
end Go.Proofs.Ytjjfamkljcipgaa.Pdu
namespace Go.Proofs.Ytjjfamkljcipgaa.Pdu
open Go.RowKit Go.Proofs.Ytjjfamkljcipgaa.Row

set_option maxRecDepth 100000 in
set_option maxHeartbeats 4000000 in
theorem unit_k5 (w : World) (B g : Nat) (l l1 : List Byte) (V0 : Nat) (h : OR w B g (some l)) (hL : l.length < 1000000) (ht0 : tU 1 l = some (V0, l1)) (hk : (V0 : Int) = 5) :
    Calls Try.prog 38 #[.agg #[.pointer (some ⟨g, 0, none⟩)]] w (UO (prs l) w B g) := by
  obtain ⟨X, hX⟩ : ∃ X, prs l = X := ⟨_, rfl⟩
  rw [hX]
  have HX := Lib.hid hX
  have HT0 := Lib.hid ht0
  clear hX
  have hs := h.lt.2
  have hF0 := Cel.new w 60 #[.pointer (some ⟨g, 0, none⟩)]
  have bo := box_only w [g] (.cells #[.pointer (some ⟨g, 0, none⟩)] 60)
  have o0 := OR.box h (.cells #[.pointer (some ⟨g, 0, none⟩)] 60)
  have o1 := OR.box o0 (.cells #[I 0, I 0, I 0, I 0, .string ⟨#[]⟩, I 0, I 0, .slice none 0 0, .int .u32 0, I 0, .slice none 0 0] 29)
  have hF1 := Cel.on hF0 (bel_new _ (.cells #[I 0, I 0, I 0, I 0, .string ⟨#[]⟩, I 0, I 0, .slice none 0 0, .int .u32 0, I 0, .slice none 0 0] 29))
  have hR1 := Cel_two w (.cells #[.pointer (some ⟨g, 0, none⟩)] 60) 29 #[I 0, I 0, I 0, I 0, .string ⟨#[]⟩, I 0, I 0, .slice none 0 0, .int .u32 0, I 0, .slice none 0 0]
  have k1 := bo.alloc (.cells #[I 0, I 0, I 0, I 0, .string ⟨#[]⟩, I 0, I 0, .slice none 0 0, .int .u32 0, I 0, .slice none 0 0] 29)
  have hgf : w.heap.size ≠ g := by omega
  have hgr : w.heap.size + 1 ≠ g := by omega
  have c0 := hF1.cell 0
  simp only [List.getElem?_toArray, List.getElem?_cons_zero] at c0
  clear bo o0 hF0
  have hr := num_yes 1 V0 o1 ht0 (by have hv : V0 < 256 := (tU_some ht0).1; omega) hL
  have sh0 := tU_short ht0
  clear h o1
  go_enter Try.func38, Try.ntmps38
  go_wp2_with fail
  refine hr.mono ?_
  rintro e w1 ⟨rfl, o2, k2⟩
  have s0 : US w B g (some l1) w.heap.size (w.heap.size + 1) w1.heap.size #[I (V0 : Int), I 0, I 0, I 0, .string ⟨#[]⟩, I 0, I 0, .slice none 0 0, .int .u32 0, I 0, .slice none 0 0] (w1.alloc (.cells #[I (V0 : Int), I 0, I 0, I 0, .string ⟨#[]⟩, I 0, I 0, .slice none 0 0, .int .u32 0, I 0, .slice none 0 0] 29)) := by
    have q := k2.size
    have q2 := k1.size
    have q3 := hR1.lt
    exact ⟨OR.box o2 _, Cel.on (hF1.only k2 (by simpa using hgf)) (bel_new _ _), ⟨_, rfl, Cel.on (hR1.only k2 (by simpa using hgr)) (bel_new _ _)⟩, Cel.new _ _ _, (lift_panic k1 k2).alloc _, by omega, by omega, by omega⟩
  have cf := s0.cf.cell 0
  simp only [List.getElem?_toArray, List.getElem?_cons_zero] at cf
  clear hr o2 k2 hF1 hR1 k1 c0 hgf hgr
  have HK := Lib.hid hk
  clear ht0 hk
  cases ht1 : tU 1 l1 with
  | none =>
    have hr := num_no 1 s0.o ht1 (by omega)
    have e1 : X = none := by rw [← HX.out]; simp [prs, pH, pB, HT0.out, ht1, HK.out]
    subst e1
    have HS := Lib.hid s0.k
    clear HX ht1
    go_wp2_with fail
    refine hr.mono ?_
    rintro e w9 ⟨rfl, k⟩
    exact ⟨rfl, rfl, lift_panic HS.out k⟩
  | some a1 =>
    obtain ⟨V1, l2⟩ := a1
    have hr := num_yes 1 V1 s0.o ht1 (by have hv : V1 < 256 ^ 1 := (tU_some ht1).1; have : (256 : Nat) ^ 1 ≤ 4294967296 := (by decide); omega) (by omega)
    have sh1 := tU_short ht1
    have HT1 := Lib.hid ht1
    have hb1 : V1 < 256 ^ 1 := (tU_some ht1).1
    have HB1 := Lib.hid hb1
    clear hb1
    clear ht1
    go_wp2_with fail
    refine hr.mono ?_
    rintro e w2 ⟨rfl, o, k⟩
    have s1' := s0.step o k
    have s1 := s1'.put hs 1 (I (V1 : Int))
    have cc1 := s1'.cp.cell 1
    have cx1 := s1'.cp.free 1
    simp only [List.getElem?_toArray, List.getElem?_cons_zero, List.getElem?_cons_succ] at cc1
    simp only [List.setIfInBounds_toArray, List.set_cons_zero, List.set_cons_succ] at s1
    rw [HK.out] at s1
    have cf := s1.cf.cell 0
    have ck := s1.cp.cell 0
    simp only [List.getElem?_toArray, List.getElem?_cons_zero] at cf ck
    clear hr o k s0 s1'
    cases ht2 : tU 2 l2 with
    | none =>
      have hr := num_no 2 s1.o ht2 (by omega)
      have e1 : X = none := by rw [← HX.out]; simp [prs, pH, pB, HT0.out, HT1.out, ht2, HK.out]
      subst e1
      have HS := Lib.hid s1.k
      clear HX ht2
      go_wp2_with fail
      refine hr.mono ?_
      rintro e w9 ⟨rfl, k⟩
      exact ⟨rfl, rfl, lift_panic HS.out k⟩
    | some a2 =>
      obtain ⟨V2, l3⟩ := a2
      have hr := num_yes 2 V2 s1.o ht2 (by have hv : V2 < 256 ^ 2 := (tU_some ht2).1; have : (256 : Nat) ^ 2 ≤ 4294967296 := (by decide); omega) (by omega)
      have sh2 := tU_short ht2
      have HT2 := Lib.hid ht2
      have hb2 : V2 < 256 ^ 2 := (tU_some ht2).1
      have HB2 := Lib.hid hb2
      clear hb2
      clear ht2
      go_wp2_with fail
      refine hr.mono ?_
      rintro e w3 ⟨rfl, o, k⟩
      have s2' := s1.step o k
      have s2 := s2'.put hs 2 (I (V2 : Int))
      have cc2 := s2'.cp.cell 2
      have cx2 := s2'.cp.free 2
      simp only [List.getElem?_toArray, List.getElem?_cons_zero, List.getElem?_cons_succ] at cc2
      simp only [List.setIfInBounds_toArray, List.set_cons_zero, List.set_cons_succ] at s2
      have cf := s2.cf.cell 0
      have ck := s2.cp.cell 0
      simp only [List.getElem?_toArray, List.getElem?_cons_zero] at cf ck
      clear hr o k s1 s2'
      cases ht3 : tU 1 l3 with
      | none =>
        have hr := num_no 1 s2.o ht3 (by omega)
        have e1 : X = none := by rw [← HX.out]; simp [prs, pH, pB, HT0.out, HT1.out, HT2.out, ht3, HK.out]
        subst e1
        have HS := Lib.hid s2.k
        clear HX ht3
        go_wp2_with fail
        refine hr.mono ?_
        rintro e w9 ⟨rfl, k⟩
        exact ⟨rfl, rfl, lift_panic HS.out k⟩
      | some a3 =>
        obtain ⟨V3, l4⟩ := a3
        have hr := num_yes 1 V3 s2.o ht3 (by have hv : V3 < 256 ^ 1 := (tU_some ht3).1; have : (256 : Nat) ^ 1 ≤ 4294967296 := (by decide); omega) (by omega)
        have sh3 := tU_short ht3
        have HT3 := Lib.hid ht3
        have hb3 : V3 < 256 ^ 1 := (tU_some ht3).1
        have HB3 := Lib.hid hb3
        clear hb3
        clear ht3
        go_wp2_with fail
        refine hr.mono ?_
        rintro e w4 ⟨rfl, o, k⟩
        have s3' := s2.step o k
        have s3 := s3'.put hs 9 (I (V3 : Int))
        have cc3 := s3'.cp.cell 9
        have cx3 := s3'.cp.free 9
        simp only [List.getElem?_toArray, List.getElem?_cons_zero, List.getElem?_cons_succ] at cc3
        simp only [List.setIfInBounds_toArray, List.set_cons_zero, List.set_cons_succ] at s3
        have cf := s3.cf.cell 0
        have ck := s3.cp.cell 0
        simp only [List.getElem?_toArray, List.getElem?_cons_zero] at cf ck
        clear hr o k s2 s3'
        have e1 : X = some (⟨5, (V1 : Int), (V2 : Int), 0, [], 0, 0, [], 0, (V3 : Int), []⟩, l4) := by rw [← HX.out]; simp [prs, pH, pB, HT0.out, HT1.out, HT2.out, HT3.out, HK.out]
        obtain ⟨zs, hz, hR⟩ := s3.cr
        have hzz := eleven hz
        rw [hzz] at hR
        obtain ⟨WL, hWL⟩ : ∃ WL, WL = (w4.setCell ⟨w1.heap.size, 9, none⟩ (I (V3 : Int))) := ⟨_, rfl⟩
        rw [← hWL] at s3 hR cf ck
        have kW := put11_only WL (w.heap.size + 1) (I 5) (I (V1 : Int)) (I (V2 : Int)) (I 0) (.string ⟨#[]⟩) (I 0) (I 0) (.slice none 0 0) (.int .u32 0) (I (V3 : Int)) (.slice none 0 0)
        have hR2 := put11_cel hR (I 5) (I (V1 : Int)) (I (V2 : Int)) (I 0) (.string ⟨#[]⟩) (I 0) (I 0) (.slice none 0 0) (.int .u32 0) (I (V3 : Int)) (.slice none 0 0)
        have hrr := s3.hr
        have hoB := s3.o.lt.1
        have o9 := s3.o.only kW (by simp; omega) (by simp; omega)
        have K9 : Only [g] w (put11 WL (w.heap.size + 1) (I 5) (I (V1 : Int)) (I (V2 : Int)) (I 0) (.string ⟨#[]⟩) (I 0) (I 0) (.slice none 0 0) (.int .u32 0) (I (V3 : Int)) (.slice none 0 0)) := s3.k.trans (kW.more (T := [w.heap.size + 1]) (fun x hx => .inl hx)) (fun x hx => .inr (by simp at hx; omega))
        have HQ := Lib.hid (show UO (some (⟨5, (V1 : Int), (V2 : Int), 0, [], 0, 0, [], 0, (V3 : Int), []⟩, l4)) w B g (.returned (.agg #[I 5, I (V1 : Int), I (V2 : Int), I 0, .string ⟨#[]⟩, I 0, I 0, .slice none 0 0, .int .u32 0, I (V3 : Int), .slice none 0 0])) (put11 WL (w.heap.size + 1) (I 5) (I (V1 : Int)) (I (V2 : Int)) (I 0) (.string ⟨#[]⟩) (I 0) (I 0) (.slice none 0 0) (.int .u32 0) (I (V3 : Int)) (.slice none 0 0)) from ⟨⟨none, 0, 0, none, 0, 0, rfl, ⟨ow_nil _, rfl, os_nil _, rfl, (show (0 : Nat) < 4294967296 by decide)⟩⟩, o9, K9⟩)
        have r0 := hR.cell 0
        have f0 := hR.free 0
        have p0 := s3.cp.cell 0
        have r1 := hR.cell 1
        have f1 := hR.free 1
        have p1 := s3.cp.cell 1
        have r2 := hR.cell 2
        have f2 := hR.free 2
        have p2 := s3.cp.cell 2
        have r3 := hR.cell 3
        have f3 := hR.free 3
        have p3 := s3.cp.cell 3
        have r4 := hR.cell 4
        have f4 := hR.free 4
        have p4 := s3.cp.cell 4
        have r5 := hR.cell 5
        have f5 := hR.free 5
        have p5 := s3.cp.cell 5
        have r6 := hR.cell 6
        have f6 := hR.free 6
        have p6 := s3.cp.cell 6
        have r7 := hR.cell 7
        have f7 := hR.free 7
        have p7 := s3.cp.cell 7
        have r8 := hR.cell 8
        have f8 := hR.free 8
        have p8 := s3.cp.cell 8
        have r9 := hR.cell 9
        have f9 := hR.free 9
        have p9 := s3.cp.cell 9
        have r10 := hR.cell 10
        have f10 := hR.free 10
        have p10 := s3.cp.cell 10
        simp only [List.getElem?_toArray, List.getElem?_cons_zero, List.getElem?_cons_succ] at r0 p0 r1 p1 r2 p2 r3 p3 r4 p4 r5 p5 r6 p6 r7 p7 r8 p8 r9 p9 r10 p10
        subst e1
        have HR2 := Lib.hid hR2
        have HWL := Lib.hid hWL
        have hne := s3.ne
        clear HX kW hR2 o9 K9 hR s3 hzz hz
        subst hWL
        go_wp2
        exact bodyPost_ret (unit_results rfl HR2.out) rfl HQ.out
end Go.Proofs.Ytjjfamkljcipgaa.Pdu
namespace Go.Proofs.Ytjjfamkljcipgaa.Pdu
open Go.RowKit Go.Proofs.Ytjjfamkljcipgaa.Row

set_option maxRecDepth 100000 in
set_option maxHeartbeats 4000000 in
theorem unit_k6 (w : World) (B g : Nat) (l l1 : List Byte) (V0 : Nat) (h : OR w B g (some l)) (hL : l.length < 1000000) (ht0 : tU 1 l = some (V0, l1)) (h1 : ¬ (V0 : Int) = 1) (h2 : ¬ (V0 : Int) = 2) (h3 : ¬ (V0 : Int) = 3) (h4 : ¬ (V0 : Int) = 4) (h5 : ¬ (V0 : Int) = 5) :
    Calls Try.prog 38 #[.agg #[.pointer (some ⟨g, 0, none⟩)]] w (UO (prs l) w B g) := by
  obtain ⟨X, hX⟩ : ∃ X, prs l = X := ⟨_, rfl⟩
  rw [hX]
  have HX := Lib.hid hX
  have HT0 := Lib.hid ht0
  clear hX
  have hs := h.lt.2
  have hF0 := Cel.new w 60 #[.pointer (some ⟨g, 0, none⟩)]
  have bo := box_only w [g] (.cells #[.pointer (some ⟨g, 0, none⟩)] 60)
  have o0 := OR.box h (.cells #[.pointer (some ⟨g, 0, none⟩)] 60)
  have o1 := OR.box o0 (.cells #[I 0, I 0, I 0, I 0, .string ⟨#[]⟩, I 0, I 0, .slice none 0 0, .int .u32 0, I 0, .slice none 0 0] 29)
  have hF1 := Cel.on hF0 (bel_new _ (.cells #[I 0, I 0, I 0, I 0, .string ⟨#[]⟩, I 0, I 0, .slice none 0 0, .int .u32 0, I 0, .slice none 0 0] 29))
  have hR1 := Cel_two w (.cells #[.pointer (some ⟨g, 0, none⟩)] 60) 29 #[I 0, I 0, I 0, I 0, .string ⟨#[]⟩, I 0, I 0, .slice none 0 0, .int .u32 0, I 0, .slice none 0 0]
  have k1 := bo.alloc (.cells #[I 0, I 0, I 0, I 0, .string ⟨#[]⟩, I 0, I 0, .slice none 0 0, .int .u32 0, I 0, .slice none 0 0] 29)
  have hgf : w.heap.size ≠ g := by omega
  have hgr : w.heap.size + 1 ≠ g := by omega
  have c0 := hF1.cell 0
  simp only [List.getElem?_toArray, List.getElem?_cons_zero] at c0
  clear bo o0 hF0
  have hr := num_yes 1 V0 o1 ht0 (by have hv : V0 < 256 := (tU_some ht0).1; omega) hL
  have sh0 := tU_short ht0
  clear h o1
  go_enter Try.func38, Try.ntmps38
  go_wp2_with fail
  refine hr.mono ?_
  rintro e w1 ⟨rfl, o2, k2⟩
  have s0 : US w B g (some l1) w.heap.size (w.heap.size + 1) w1.heap.size #[I (V0 : Int), I 0, I 0, I 0, .string ⟨#[]⟩, I 0, I 0, .slice none 0 0, .int .u32 0, I 0, .slice none 0 0] (w1.alloc (.cells #[I (V0 : Int), I 0, I 0, I 0, .string ⟨#[]⟩, I 0, I 0, .slice none 0 0, .int .u32 0, I 0, .slice none 0 0] 29)) := by
    have q := k2.size
    have q2 := k1.size
    have q3 := hR1.lt
    exact ⟨OR.box o2 _, Cel.on (hF1.only k2 (by simpa using hgf)) (bel_new _ _), ⟨_, rfl, Cel.on (hR1.only k2 (by simpa using hgr)) (bel_new _ _)⟩, Cel.new _ _ _, (lift_panic k1 k2).alloc _, by omega, by omega, by omega⟩
  have cf := s0.cf.cell 0
  simp only [List.getElem?_toArray, List.getElem?_cons_zero] at cf
  clear hr o2 k2 hF1 hR1 k1 c0 hgf hgr
  have t1 : ((V0 : Int) == 1) = false := by simpa using h1
  have t2 : ((V0 : Int) == 2) = false := by simpa using h2
  have t3 : ((V0 : Int) == 3) = false := by simpa using h3
  have t4 : ((V0 : Int) == 4) = false := by simpa using h4
  have t5 : ((V0 : Int) == 5) = false := by simpa using h5
  have hq1 : ∀ q, q = (V0 : Int) → q = (V0 : Int) := fun _ e => e
  have H1 := Lib.hid h1
  have H2 := Lib.hid h2
  have H3 := Lib.hid h3
  have H4 := Lib.hid h4
  have H5 := Lib.hid h5
  obtain ⟨KV, hKV⟩ : ∃ KV : Int, KV = (V0 : Int) := ⟨_, rfl⟩
  rw [← hKV] at t1 t2 t3 t4 t5
  have HKV := Lib.hid hKV
  clear ht0 h1 h2 h3 h4 h5 hq1 hKV
  cases ht1 : tU 1 l1 with
  | none =>
    have hr := num_no 1 s0.o ht1 (by omega)
    have e1 : X = none := by rw [← HX.out]; simp [prs, pH, HT0.out, ht1]
    subst e1
    have HS := Lib.hid s0.k
    clear HX ht1
    go_wp2_with fail
    refine hr.mono ?_
    rintro e w9 ⟨rfl, k⟩
    exact ⟨rfl, rfl, lift_panic HS.out k⟩
  | some a1 =>
    obtain ⟨V1, l2⟩ := a1
    have hr := num_yes 1 V1 s0.o ht1 (by have hv : V1 < 256 ^ 1 := (tU_some ht1).1; have : (256 : Nat) ^ 1 ≤ 4294967296 := (by decide); omega) (by omega)
    have sh1 := tU_short ht1
    have HT1 := Lib.hid ht1
    have hb1 : V1 < 256 ^ 1 := (tU_some ht1).1
    have HB1 := Lib.hid hb1
    clear hb1
    clear ht1
    go_wp2_with fail
    refine hr.mono ?_
    rintro e w2 ⟨rfl, o, k⟩
    have s1' := s0.step o k
    have s1 := s1'.put hs 1 (I (V1 : Int))
    have cc1 := s1'.cp.cell 1
    have cx1 := s1'.cp.free 1
    simp only [List.getElem?_toArray, List.getElem?_cons_zero, List.getElem?_cons_succ] at cc1
    simp only [List.setIfInBounds_toArray, List.set_cons_zero, List.set_cons_succ] at s1
    rw [← HKV.out] at s1
    have cf := s1.cf.cell 0
    have ck := s1.cp.cell 0
    simp only [List.getElem?_toArray, List.getElem?_cons_zero] at cf ck
    clear hr o k s0 s1'
    cases ht2 : tU 2 l2 with
    | none =>
      have hr := num_no 2 s1.o ht2 (by omega)
      have e1 : X = none := by rw [← HX.out]; simp [prs, pH, HT0.out, HT1.out, ht2]
      subst e1
      have HS := Lib.hid s1.k
      clear HX ht2
      go_wp2_with fail
      refine hr.mono ?_
      rintro e w9 ⟨rfl, k⟩
      exact ⟨rfl, rfl, lift_panic HS.out k⟩
    | some a2 =>
      obtain ⟨V2, l3⟩ := a2
      have hr := num_yes 2 V2 s1.o ht2 (by have hv : V2 < 256 ^ 2 := (tU_some ht2).1; have : (256 : Nat) ^ 2 ≤ 4294967296 := (by decide); omega) (by omega)
      have sh2 := tU_short ht2
      have HT2 := Lib.hid ht2
      have hb2 : V2 < 256 ^ 2 := (tU_some ht2).1
      have HB2 := Lib.hid hb2
      clear hb2
      clear ht2
      go_wp2_with fail
      refine hr.mono ?_
      rintro e w3 ⟨rfl, o, k⟩
      have s2' := s1.step o k
      have s2 := s2'.put hs 2 (I (V2 : Int))
      have cc2 := s2'.cp.cell 2
      have cx2 := s2'.cp.free 2
      simp only [List.getElem?_toArray, List.getElem?_cons_zero, List.getElem?_cons_succ] at cc2
      simp only [List.setIfInBounds_toArray, List.set_cons_zero, List.set_cons_succ] at s2
      have cf := s2.cf.cell 0
      have ck := s2.cp.cell 0
      simp only [List.getElem?_toArray, List.getElem?_cons_zero] at cf ck
      clear hr o k s1 s2'
      have e1 : X = some (⟨KV, (V1 : Int), (V2 : Int), 0, [], 0, 0, [], 0, 0, []⟩, l3) := by rw [← HX.out]; simp [prs, pH, pB, HT0.out, HT1.out, HT2.out, H1.out, H2.out, H3.out, H4.out, H5.out, HKV.out]
      obtain ⟨zs, hz, hR⟩ := s2.cr
      have hzz := eleven hz
      rw [hzz] at hR
      obtain ⟨WL, hWL⟩ : ∃ WL, WL = (w3.setCell ⟨w1.heap.size, 2, none⟩ (I (V2 : Int))) := ⟨_, rfl⟩
      rw [← hWL] at s2 hR cf ck
      have kW := put11_only WL (w.heap.size + 1) (I KV) (I (V1 : Int)) (I (V2 : Int)) (I 0) (.string ⟨#[]⟩) (I 0) (I 0) (.slice none 0 0) (.int .u32 0) (I 0) (.slice none 0 0)
      have hR2 := put11_cel hR (I KV) (I (V1 : Int)) (I (V2 : Int)) (I 0) (.string ⟨#[]⟩) (I 0) (I 0) (.slice none 0 0) (.int .u32 0) (I 0) (.slice none 0 0)
      have hrr := s2.hr
      have hoB := s2.o.lt.1
      have o9 := s2.o.only kW (by simp; omega) (by simp; omega)
      have K9 : Only [g] w (put11 WL (w.heap.size + 1) (I KV) (I (V1 : Int)) (I (V2 : Int)) (I 0) (.string ⟨#[]⟩) (I 0) (I 0) (.slice none 0 0) (.int .u32 0) (I 0) (.slice none 0 0)) := s2.k.trans (kW.more (T := [w.heap.size + 1]) (fun x hx => .inl hx)) (fun x hx => .inr (by simp at hx; omega))
      have HQ := Lib.hid (show UO (some (⟨KV, (V1 : Int), (V2 : Int), 0, [], 0, 0, [], 0, 0, []⟩, l3)) w B g (.returned (.agg #[I KV, I (V1 : Int), I (V2 : Int), I 0, .string ⟨#[]⟩, I 0, I 0, .slice none 0 0, .int .u32 0, I 0, .slice none 0 0])) (put11 WL (w.heap.size + 1) (I KV) (I (V1 : Int)) (I (V2 : Int)) (I 0) (.string ⟨#[]⟩) (I 0) (I 0) (.slice none 0 0) (.int .u32 0) (I 0) (.slice none 0 0)) from ⟨⟨none, 0, 0, none, 0, 0, rfl, ⟨ow_nil _, rfl, os_nil _, rfl, (show (0 : Nat) < 4294967296 by decide)⟩⟩, o9, K9⟩)
      have r0 := hR.cell 0
      have f0 := hR.free 0
      have p0 := s2.cp.cell 0
      have r1 := hR.cell 1
      have f1 := hR.free 1
      have p1 := s2.cp.cell 1
      have r2 := hR.cell 2
      have f2 := hR.free 2
      have p2 := s2.cp.cell 2
      have r3 := hR.cell 3
      have f3 := hR.free 3
      have p3 := s2.cp.cell 3
      have r4 := hR.cell 4
      have f4 := hR.free 4
      have p4 := s2.cp.cell 4
      have r5 := hR.cell 5
      have f5 := hR.free 5
      have p5 := s2.cp.cell 5
      have r6 := hR.cell 6
      have f6 := hR.free 6
      have p6 := s2.cp.cell 6
      have r7 := hR.cell 7
      have f7 := hR.free 7
      have p7 := s2.cp.cell 7
      have r8 := hR.cell 8
      have f8 := hR.free 8
      have p8 := s2.cp.cell 8
      have r9 := hR.cell 9
      have f9 := hR.free 9
      have p9 := s2.cp.cell 9
      have r10 := hR.cell 10
      have f10 := hR.free 10
      have p10 := s2.cp.cell 10
      simp only [List.getElem?_toArray, List.getElem?_cons_zero, List.getElem?_cons_succ] at r0 p0 r1 p1 r2 p2 r3 p3 r4 p4 r5 p5 r6 p6 r7 p7 r8 p8 r9 p9 r10 p10
      subst e1
      have HR2 := Lib.hid hR2
      have HWL := Lib.hid hWL
      have hne := s2.ne
      clear HX kW hR2 o9 K9 hR s2 hzz hz
      subst hWL
      go_wp2
      exact bodyPost_ret (unit_results rfl HR2.out) rfl HQ.out
end Go.Proofs.Ytjjfamkljcipgaa.Pdu
namespace Go.Proofs.Ytjjfamkljcipgaa.Pdu
open Go.RowKit Go.Proofs.Ytjjfamkljcipgaa.Row

theorem unit_any (w : World) (B g : Nat) (l : List Byte) (h : OR w B g (some l)) (hL : l.length < 1000000) :
    Calls Try.prog 38 #[.agg #[.pointer (some ⟨g, 0, none⟩)]] w (UO (prs l) w B g) := by
  cases ht0 : tU 1 l with
  | none =>
    rw [show prs l = none by simp [prs, pH, ht0]]
    exact unit_h0 w B g l h hL ht0
  | some a =>
    obtain ⟨V0, l1⟩ := a
    by_cases h1 : (V0 : Int) = 1
    · exact unit_k1 w B g l l1 V0 h hL ht0 h1
    by_cases h2 : (V0 : Int) = 2
    · exact unit_k2 w B g l l1 V0 h hL ht0 h2
    by_cases h3 : (V0 : Int) = 3
    · exact unit_k3 w B g l l1 V0 h hL ht0 h3
    by_cases h4 : (V0 : Int) = 4
    · exact unit_k4 w B g l l1 V0 h hL ht0 h4
    by_cases h5 : (V0 : Int) = 5
    · exact unit_k5 w B g l l1 V0 h hL ht0 h5
    exact unit_k6 w B g l l1 V0 h hL ht0 h1 h2 h3 h4 h5
end Go.Proofs.Ytjjfamkljcipgaa.Pdu
