/-
  Package pdu: Decode.
-/
import Derived.Test.YtjjfamkljcipgaaPduD0
namespace Go.Proofs.Ytjjfamkljcipgaa.Pdu
open Go.RowKit Go.Proofs.Ytjjfamkljcipgaa.Row

theorem dec_results {tmps : Array Value} {W : World} {g q : Nat} {x0 x1 x2 x3 x4 x5 x6 x7 x8 x9 x10 y : Value} (h2 : tmps.getD 2 undef = .pointer (some ⟨g, 0, none⟩)) (h3 : tmps.getD 3 undef = .pointer (some ⟨q, 0, none⟩)) (hC : Cel W g 29 #[x0, x1, x2, x3, x4, x5, x6, x7, x8, x9, x10]) (hQ : Cel W q 26 #[y]) :
    (results Try.f16 tmps).run Try.prog W = .ok (.tuple #[.agg #[x0, x1, x2, x3, x4, x5, x6, x7, x8, x9, x10], y]) W := by
  have c0 := hC.cell 0
  have c1 := hC.cell 1
  have c2 := hC.cell 2
  have c3 := hC.cell 3
  have c4 := hC.cell 4
  have c5 := hC.cell 5
  have c6 := hC.cell 6
  have c7 := hC.cell 7
  have c8 := hC.cell 8
  have c9 := hC.cell 9
  have c10 := hC.cell 10
  have d0 := hQ.cell 0
  simp at c0 c1 c2 c3 c4 c5 c6 c7 c8 c9 c10 d0
  simp only [Array.getD_eq_getD_getElem?] at h2 h3
  simp [results, Try.results16, go_sem, h2, h3, c0, c1, c2, c3, c4, c5, c6, c7, c8, c9, c10, d0]
set_option maxHeartbeats 400000 in
theorem works_cel (w : World) (g n c : Nat) (A : Option Addr) (h : Cel w g 74 #[.bool true, .bool false, .slice A n c]) :
    Calls Try.prog 60 #[.pointer (some ⟨g, 0, none⟩)] w fun e w' => e = .returned (.bool true) ∧ w = w' := by
  have c0 := h.cell 0
  have c1 := h.cell 1
  simp at c0 c1
  clear h
  go_enter Try.func60, Try.ntmps60
  go_wp2
  go_ret
  exact ⟨rfl, rfl⟩
set_option maxHeartbeats 400000 in
theorem left_cel (w : World) (g n c : Nat) (A : Option Addr) (h : Cel w g 74 #[.bool true, .bool false, .slice A n c]) :
    Calls Try.prog 40 #[.pointer (some ⟨g, 0, none⟩)] w fun e w' => e = .returned (.int .i64 (n : Int)) ∧ w = w' := by
  have hw := works_cel w g n c A h
  have c2 := h.cell 2
  simp at c2
  clear h
  go_enter Try.func40, Try.ntmps40
  go_wp2_with (go_at_call 60; refine hw.mono ?_; rintro e w' ⟨rfl, rfl⟩)
  go_ret
  exact ⟨rfl, rfl⟩
/-- a unit's value in Decode's results -/
def DO (p : Pd) (w : World) (x : Int) (e : Ending) (w' : World) : Prop :=
  (∃ A n a G m c, e = .returned (.tuple #[.agg #[I p.kd, I p.sr, I p.nm, I p.cl, .string (str p.na), I p.sz, I p.of, .slice A n a, .int .u32 (p.su : Int), I p.co, .slice G m c], I x]) ∧ Py w' p A n a G m c) ∧ Below w.heap.size w w'
theorem dd_none {l : List Byte} (h : prs l = none) : deP l = Pd.none ∧ deE l = 4 := by
  have e : dd l = none := by unfold dd; rw [h]; rfl
  simp [deP, deE, e]
theorem dd_left {l r : List Byte} {p : Pd} (h : prs l = some (p, r)) (hr : ¬ (r = [] ∧ ok p = true)) : deP l = Pd.none ∧ deE l = 4 := by
  have e : dd l = none := by unfold dd; rw [h]; simp only [Option.bind_some]; rw [if_neg hr]
  simp [deP, deE, e]
theorem dd_good {l r : List Byte} {p : Pd} (h : prs l = some (p, r)) (h1 : r = []) (h2 : ok p = true) : deP l = p ∧ deE l = 0 := by
  have e : dd l = some p := by unfold dd; rw [h]; simp only [Option.bind_some]; rw [if_pos ⟨h1, h2⟩]
  simp [deP, deE, e]
theorem Py.onE {w w' : World} {p : Pd} {A G : Option Addr} {n a m c q : Nat} {cs : Array Value} (h : Py w p A n a G m c) (hq : Cel w q 26 cs) (k : Only [q] w w') : Py w' p A n a G m c := by
  obtain ⟨s, h1⟩ := h.b
  obtain ⟨s2, h2⟩ := h.g
  refine ⟨⟨s, h1.only k (fun i hi => ?_)⟩, h.bl, ⟨s2, h2.only k (fun i hi => ?_)⟩, h.gl, h.s⟩
  · have hn := h1.apart hq (by decide)
    intro hm
    simp at hm
    exact hn (hm ▸ hi)
  · have hn := Row.Os.apart h2 hq (by decide)
    intro hm
    simp at hm
    exact hn (hm ▸ hi)
theorem Py.zero (w : World) : Py w Pd.none none 0 0 none 0 0 := ⟨ow_nil _, rfl, os_nil _, rfl, (show (0 : Nat) < 4294967296 by decide)⟩
/-- the world behind the closure that has recovered -/
theorem caught {w0 w : World} {p q : Nat} {x0 x1 x2 x3 x4 x5 x6 x7 x8 x9 x10 y : Value} (hp : Cel w p 29 #[x0, x1, x2, x3, x4, x5, x6, x7, x8, x9, x10]) (hq : Cel w q 26 #[y]) (hb : Below w0.heap.size w0 w) (h1 : w0.heap.size ≤ p) (h2 : w0.heap.size ≤ q) :
    Cel ((put11 w p (I 0) (I 0) (I 0) (I 0) (.string ⟨#[]⟩) (I 0) (I 0) (.slice none 0 0) (.int .u32 0) (I 0) (.slice none 0 0)).setCell ⟨q, 0, none⟩ (I 4)) p 29 #[I 0, I 0, I 0, I 0, .string ⟨#[]⟩, I 0, I 0, .slice none 0 0, .int .u32 0, I 0, .slice none 0 0] ∧ Cel ((put11 w p (I 0) (I 0) (I 0) (I 0) (.string ⟨#[]⟩) (I 0) (I 0) (.slice none 0 0) (.int .u32 0) (I 0) (.slice none 0 0)).setCell ⟨q, 0, none⟩ (I 4)) q 26 #[I 4] ∧ Below w0.heap.size w0 ((put11 w p (I 0) (I 0) (I 0) (I 0) (.string ⟨#[]⟩) (I 0) (I 0) (.slice none 0 0) (.int .u32 0) (I 0) (.slice none 0 0)).setCell ⟨q, 0, none⟩ (I 4)) := by
  have hne : p ≠ q := hp.apart hq (by decide)
  have k1 := put11_only w p (I 0) (I 0) (I 0) (I 0) (.string ⟨#[]⟩) (I 0) (I 0) (.slice none 0 0) (.int .u32 0) (I 0) (.slice none 0 0)
  have k2 := set_only (put11 w p (I 0) (I 0) (I 0) (I 0) (.string ⟨#[]⟩) (I 0) (I 0) (.slice none 0 0) (.int .u32 0) (I 0) (.slice none 0 0)) q 0 (I 4)
  have c1 := put11_cel hp (I 0) (I 0) (I 0) (I 0) (.string ⟨#[]⟩) (I 0) (I 0) (.slice none 0 0) (.int .u32 0) (I 0) (.slice none 0 0)
  have c2 := hq.only k1 (by simpa using fun e => hne e.symm)
  have s1 := k1.size
  exact ⟨c1.only k2 (by simpa using hne), c2.put 0 (I 4), hb.trans ((k1.below hb.size (by simpa using h1)).trans (k2.below (by have := hb.size; omega) (by simpa using h2)))⟩

set_option maxRecDepth 100000 in
set_option maxHeartbeats 4000000 in
theorem pdec_any (a : Option Addr) (l : List Byte) (n c : Nat) (w : World) (hx : Bx w a l n c) (hL : n ≤ 500000) :
    Calls Try.prog 16 #[.slice a n c] w (DO (deP l) w (deE l)) := by
  have hmf : ∀ (fn : Fn) (first cap : Array Value) (w : World), (Instr.makeFunc fn first cap).run Try.prog w = .ok (.func fn first cap) w := fun _ _ _ _ => rfl
  obtain ⟨E, hE⟩ : ∃ E, E = deP l := ⟨_, rfl⟩
  obtain ⟨D, hD⟩ : ∃ D, D = deE l := ⟨_, rfl⟩
  rw [← hE, ← hD]
  have HE := Lib.hid hE
  have HD := Lib.hid hD
  have hln := hx.len
  have b0 := bel_new w (.cells #[I 0, I 0, I 0, I 0, .string ⟨#[]⟩, I 0, I 0, .slice none 0 0, .int .u32 0, I 0, .slice none 0 0] 29)
  have b1 := b0.alloc b0.size (.cells #[I 0] 26)
  have hp1 : Cel ((w.alloc (.cells #[I 0, I 0, I 0, I 0, .string ⟨#[]⟩, I 0, I 0, .slice none 0 0, .int .u32 0, I 0, .slice none 0 0] 29)).alloc (.cells #[I 0] 26)) w.heap.size 29 #[I 0, I 0, I 0, I 0, .string ⟨#[]⟩, I 0, I 0, .slice none 0 0, .int .u32 0, I 0, .slice none 0 0] := Cel.on (Cel.new w _ _) (bel_new _ _)
  have hq1 := Cel_two w (.cells #[I 0, I 0, I 0, I 0, .string ⟨#[]⟩, I 0, I 0, .slice none 0 0, .int .u32 0, I 0, .slice none 0 0] 29) 26 #[I 0]
  have hnew := orNew a l n c _ (Lib.hid hx.len) (hx.later b1).bs hx.nil (by omega)
  clear hE hD
  go_enter_defers Try.func16, Try.ntmps16
  go_wp2_with fail
  refine hnew.mono ?_
  rintro e w1 ⟨g, rfl, o1, hg, hb1⟩
  have hwg : w.heap.size ≤ g := Nat.le_trans b1.size hg
  have bw1 := b1.trans (hb1.mono b1.size)
  have o2 := OR.box o1 (.cells #[.pointer (some ⟨g, 0, none⟩)] 60)
  have hp2 := Cel.on (Cel.on hp1 hb1) (bel_new w1 (.cells #[.pointer (some ⟨g, 0, none⟩)] 60))
  have hq2 := Cel.on (Cel.on hq1 hb1) (bel_new w1 (.cells #[.pointer (some ⟨g, 0, none⟩)] 60))
  have hf2 := Cel.new w1 60 #[.pointer (some ⟨g, 0, none⟩)]
  have bw2 := bw1.alloc bw1.size (.cells #[.pointer (some ⟨g, 0, none⟩)] 60)
  have hu := unit_any _ g g l o2 (by omega)
  have hpg := OR.cel_ne o2 hp2 (by decide)
  have hqg := OR.cel_ne o2 hq2 (by decide)
  have hfg := OR.cel_ne o2 hf2 (by decide)
  have hfp : w1.heap.size ≠ w.heap.size := hf2.apart hp2 (by decide)
  have hpq : w.heap.size ≠ w.heap.size + 1 := by omega
  have s2 := bw2.size
  have c0 := hf2.cell 0
  simp only [List.getElem?_toArray, List.getElem?_cons_zero] at c0
  clear hnew hx b0 b1 hp1 hq1 o1 hb1
  go_wp2_with fail
  refine hu.mono ?_
  rintro e w3 hX
  cases hpr : prs l with
  | none =>
    rw [hpr] at hX
    obtain ⟨rfl, k⟩ := hX
    obtain ⟨q1, q2⟩ := dd_none hpr
    have e1 : E = Pd.none := HE.out.trans q1
    have e2 : D = 4 := HD.out.trans q2
    subst e1 e2
    have hp3 := hp2.only k (by simpa using hpg)
    have hq3 := hq2.only k (by simpa using hqg)
    have b3 := bw2.trans (k.below s2 (by simpa using hwg))
    obtain ⟨f1, f2, f3⟩ := caught hp3 hq3 b3 (Nat.le_refl _) (Nat.le_succ _)
    clear hu HE HD hpr q1 q2
    refine leaves_cons (f := 36) (args := #[.pointer (some ⟨w.heap.size, 0, none⟩), .pointer (some ⟨w.heap.size + 1, 0, none⟩)]) (by simp) (by simp [go_sem]) ?_
    refine (catch_panic w.heap.size (w.heap.size + 1) [] w3 hp3 hq3 hpq).mono ?_
    rintro e u' w'' ⟨rfl, rfl, rfl⟩
    exact ⟨_, dec_results rfl rfl f1 f2, ⟨⟨none, 0, 0, none, 0, 0, rfl, Py.zero _⟩, f3⟩⟩
  | some pr =>
    obtain ⟨⟨kd, sr, nm, cl, na, sz, of, da, su, co, ga⟩, r⟩ := pr
    rw [hpr] at hX
    obtain ⟨⟨A, n', a', G, m, c', rfl, py⟩, o3, k⟩ := hX
    have HP := Lib.hid hpr
    have hp3 := hp2.only k (by simpa using hpg)
    have hq3 := hq2.only k (by simpa using hqg)
    have hf3 := hf2.only k (by simpa using hfg)
    have b3 := bw2.trans (k.below s2 (by simpa using hwg))
    clear hu hpr hp2 hq2 hf2 o2 k c0
    have hk := put11_only w3 w.heap.size (I kd) (I sr) (I nm) (I cl) (.string (str na)) (I sz) (I of) (.slice A n' a') (.int .u32 (su : Int)) (I co) (.slice G m c')
    have hp4 := put11_cel hp3 (I kd) (I sr) (I nm) (I cl) (.string (str na)) (I sz) (I of) (.slice A n' a') (.int .u32 (su : Int)) (I co) (.slice G m c')
    have hq4 := hq3.only hk (by simp)
    have hf4 := hf3.only hk (by simpa using hfp)
    have py4 := py.only hp3 hk
    have b4 := b3.trans (hk.below b3.size (by simp))
    obtain ⟨AR, lr, cR, hR, _, _, _, _, _, _, hlr⟩ := o3
    obtain rfl := hlr r rfl
    have hR4 := hR.only hk (by simpa using fun e => hpg e.symm)
    have hl := left_cel _ g lr.length cR AR hR4
    have cf := hf4.cell 0
    simp only [List.getElem?_toArray, List.getElem?_cons_zero] at cf
    unfold put11 at cf
    have r0 := hp3.cell 0
    have z0 := hp3.free 0
    have r1 := hp3.cell 1
    have z1 := hp3.free 1
    have r2 := hp3.cell 2
    have z2 := hp3.free 2
    have r3 := hp3.cell 3
    have z3 := hp3.free 3
    have r4 := hp3.cell 4
    have z4 := hp3.free 4
    have r5 := hp3.cell 5
    have z5 := hp3.free 5
    have r6 := hp3.cell 6
    have z6 := hp3.free 6
    have r7 := hp3.cell 7
    have z7 := hp3.free 7
    have r8 := hp3.cell 8
    have z8 := hp3.free 8
    have r9 := hp3.cell 9
    have z9 := hp3.free 9
    have r10 := hp3.cell 10
    have z10 := hp3.free 10
    simp only [List.getElem?_toArray, List.getElem?_cons_zero, List.getElem?_cons_succ] at r0 r1 r2 r3 r4 r5 r6 r7 r8 r9 r10
    clear hR hR4 hf3 hf4 hk hlr py
    go_wp2_with fail
    refine hl.mono ?_
    rintro e w4 ⟨rfl, rfl⟩
    obtain ⟨W4, hW4⟩ : ∃ W4, W4 = put11 w3 w.heap.size (I kd) (I sr) (I nm) (I cl) (.string (str na)) (I sz) (I of) (.slice A n' a') (.int .u32 (su : Int)) (I co) (.slice G m c') := ⟨_, rfl⟩
    rw [← hW4] at hp4 hq4 py4 b4 hl ⊢
    clear hW4 cf hl hp3 hq3 b3 r0 r1 r2 r3 r4 r5 r6 r7 r8 r9 r10 z0 z1 z2 z3 z4 z5 z6 z7 z8 z9 z10
    by_cases hr0 : lr = []
    · have t1 : ((lr.length : Int) == 0) = true := by rw [hr0]; rfl
      have t2 : (lr.length == 0) = true := by rw [hr0]; rfl
      have HR0 := Lib.hid hr0
      clear hr0
      have hv := pvalid_any kd sr nm cl na sz of da su co ga A n' a' G m c' W4 py4.px
      obtain ⟨V, hV⟩ : ∃ V, ok ⟨kd, sr, nm, cl, na, sz, of, da, su, co, ga⟩ = V := ⟨_, rfl⟩
      rw [hV] at hv
      have HV := Lib.hid hV
      have r0 := hp4.cell 0
      have r1 := hp4.cell 1
      have r2 := hp4.cell 2
      have r3 := hp4.cell 3
      have r4 := hp4.cell 4
      have r5 := hp4.cell 5
      have r6 := hp4.cell 6
      have r7 := hp4.cell 7
      have r8 := hp4.cell 8
      have r9 := hp4.cell 9
      have r10 := hp4.cell 10
      simp only [List.getElem?_toArray, List.getElem?_cons_zero, List.getElem?_cons_succ] at r0 r1 r2 r3 r4 r5 r6 r7 r8 r9 r10
      clear hV
      go_wp2_with fail
      refine (req_yes _).mono ?_
      rintro e w4 ⟨rfl, rfl⟩
      go_wp2_with fail
      refine hv.mono ?_
      rintro e w5 ⟨rfl, hb5⟩
      have hp5 := Cel.on hp4 hb5
      have hq5 := Cel.on hq4 hb5
      have py5 := py4.on hb5
      have b5 := b4.trans (hb5.mono b4.size)
      clear hv hp4 hq4 py4 hb5 r0 r1 r2 r3 r4 r5 r6 r7 r8 r9 r10
      cases V with
      | false =>
        obtain ⟨q1, q2⟩ := dd_left HP.out (fun h => by rw [HV.out] at h; exact nomatch h.2)
        have e1 : E = Pd.none := HE.out.trans q1
        have e2 : D = 4 := HD.out.trans q2
        subst e1 e2
        clear HE HD q1 q2
        go_wp2_with fail
        refine (req_no _).mono ?_
        rintro e w6 ⟨rfl, rfl⟩
        obtain ⟨f1, f2, f3⟩ := caught hp5 hq5 b5 (Nat.le_refl _) (Nat.le_succ _)
        refine leaves_cons (f := 36) (args := #[.pointer (some ⟨w.heap.size, 0, none⟩), .pointer (some ⟨w.heap.size + 1, 0, none⟩)]) (by simp) (by simp [go_sem]) ?_
        refine (catch_panic w.heap.size (w.heap.size + 1) [] w5 hp5 hq5 hpq).mono ?_
        rintro e u' w'' ⟨rfl, rfl, rfl⟩
        exact ⟨_, dec_results rfl rfl f1 f2, ⟨⟨none, 0, 0, none, 0, 0, rfl, Py.zero _⟩, f3⟩⟩
      | true =>
        obtain ⟨q1, q2⟩ := dd_good HP.out HR0.out HV.out
        have e1 : E = ⟨kd, sr, nm, cl, na, sz, of, da, su, co, ga⟩ := HE.out.trans q1
        have e2 : D = 0 := HD.out.trans q2
        subst e1 e2
        clear HE HD q1 q2
        have r0 := hp5.cell 0
        have z0 := hp5.free 0
        have r1 := hp5.cell 1
        have z1 := hp5.free 1
        have r2 := hp5.cell 2
        have z2 := hp5.free 2
        have r3 := hp5.cell 3
        have z3 := hp5.free 3
        have r4 := hp5.cell 4
        have z4 := hp5.free 4
        have r5 := hp5.cell 5
        have z5 := hp5.free 5
        have r6 := hp5.cell 6
        have z6 := hp5.free 6
        have r7 := hp5.cell 7
        have z7 := hp5.free 7
        have r8 := hp5.cell 8
        have z8 := hp5.free 8
        have r9 := hp5.cell 9
        have z9 := hp5.free 9
        have r10 := hp5.cell 10
        have z10 := hp5.free 10
        simp only [List.getElem?_toArray, List.getElem?_cons_zero, List.getElem?_cons_succ] at r0 r1 r2 r3 r4 r5 r6 r7 r8 r9 r10
        have y0 := hq5.cell 0
        have y1 := hq5.free 0
        simp only [List.getElem?_toArray, List.getElem?_cons_zero] at y0
        have k6 := put11_only w5 w.heap.size (I kd) (I sr) (I nm) (I cl) (.string (str na)) (I sz) (I of) (.slice A n' a') (.int .u32 (su : Int)) (I co) (.slice G m c')
        have hp6 := put11_cel hp5 (I kd) (I sr) (I nm) (I cl) (.string (str na)) (I sz) (I of) (.slice A n' a') (.int .u32 (su : Int)) (I co) (.slice G m c')
        have hq6 := hq5.only k6 (by simp)
        have k7 := set_only (put11 w5 w.heap.size (I kd) (I sr) (I nm) (I cl) (.string (str na)) (I sz) (I of) (.slice A n' a') (.int .u32 (su : Int)) (I co) (.slice G m c')) (w.heap.size + 1) 0 (I 0)
        have HP7 := Lib.hid (hp6.only k7 (by simp))
        have HQ7 := Lib.hid (hq6.put 0 (I 0))
        have py7 := (py5.only hp5 k6).onE hq6 k7
        have b6 := b5.trans (k6.below b5.size (by simp))
        have HB7 := Lib.hid (b6.trans (k7.below b6.size (by simp)))
        have HY7 := Lib.hid py7
        clear hp5 hq5 py5 b5 k6 hp6 hq6 k7 py7 b6
        go_wp2_with fail
        refine (req_yes _).mono ?_
        rintro e w6 ⟨rfl, rfl⟩
        go_wp2
        refine leaves_cons (f := 36) (args := #[.pointer (some ⟨w.heap.size, 0, none⟩), .pointer (some ⟨w.heap.size + 1, 0, none⟩)]) (by simp) (by simp [go_sem]) ?_
        refine (catch_idle ⟨w.heap.size, 0, none⟩ ⟨w.heap.size + 1, 0, none⟩ _).mono ?_
        rintro e u' w'' ⟨rfl, rfl, rfl⟩
        exact ⟨_, dec_results rfl rfl HP7.out HQ7.out, ⟨⟨A, n', a', G, m, c', rfl, HY7.out⟩, HB7.out⟩⟩
    · have t1 : ((lr.length : Int) == 0) = false := by have := List.length_pos_iff.2 hr0; simp; omega
      have t2 : (lr.length == 0) = false := by have := List.length_pos_iff.2 hr0; simp; omega
      obtain ⟨q1, q2⟩ := dd_left HP.out (fun h => hr0 h.1)
      have e1 : E = Pd.none := HE.out.trans q1
      have e2 : D = 4 := HD.out.trans q2
      subst e1 e2
      clear hr0 HE HD q1 q2
      go_wp2_with fail
      refine (req_no _).mono ?_
      rintro e w5 ⟨rfl, rfl⟩
      obtain ⟨f1, f2, f3⟩ := caught hp4 hq4 b4 (Nat.le_refl _) (Nat.le_succ _)
      refine leaves_cons (f := 36) (args := #[.pointer (some ⟨w.heap.size, 0, none⟩), .pointer (some ⟨w.heap.size + 1, 0, none⟩)]) (by simp) (by simp [go_sem]) ?_
      refine (catch_panic w.heap.size (w.heap.size + 1) [] W4 hp4 hq4 hpq).mono ?_
      rintro e u' w'' ⟨rfl, rfl, rfl⟩
      exact ⟨_, dec_results rfl rfl f1 f2, ⟨⟨none, 0, 0, none, 0, 0, rfl, Py.zero _⟩, f3⟩⟩
end Go.Proofs.Ytjjfamkljcipgaa.Pdu
