/-
  The walk of the law LinkPlays.
-/
import Derived.Test.YtllhdgllgoanbaaLaw23f
import Derived.Deep.Cut
import Derived.Deep.CutBlock
namespace Go.Proofs.Ytllhdgllgoanbaa.Lnk
open Go.RowKit Go.Proofs.Ytllhdgllgoanbaa.Row
open Rng (R)
open Lst (Qb)

set_option maxHeartbeats 20000000 in
set_option maxRecDepth 100000 in
theorem linkPlays_walk (c : Cf) (Ao Al Af : Option Addr) (no co nl cl nf cf : Nat) (a : Option Addr) (l : List Op23) (n k0 : Nat) (w : World) (h : Cg w c Ao no co Al nl cl Af nf cf) (hl : Hid (l.length = n)) (ho : Ops23 w a l) :
    Calls Try.prog 3 #[.agg #[I c.dl, .slice Ao no co, .slice Al nl cl, .slice Af nf cf], .slice a n k0] w fun e w' => e = .returned (.bool true) ∧ Below w.heap.size w w' := by
  have m1 : no ≤ maxLen := Nat.le_trans h.o.le h.o.max
  have m2 : nl ≤ maxLen := Nat.le_trans h.l.le h.l.max
  have m3 : nf ≤ maxLen := Nat.le_trans h.f.le h.f.max
  have b1 := bel_new w (.cells #[I c.dl, .slice Ao no co, .slice Al nl cl, .slice Af nf cf] 26)
  have X1 := Cel.new w 26 #[I c.dl, .slice Ao no co, .slice Al nl cl, .slice Af nf cf]
  have h1 := h.below b1
  have ho1 := ho.below b1
  obtain ⟨w1, hw1⟩ : ∃ w1, w1 = w.alloc (.cells #[I c.dl, .slice Ao no co, .slice Al nl cl, .slice Af nf cf] 26) := ⟨_, rfl⟩
  rw [← hw1] at b1 X1 h1 ho1
  clear h ho
  have hfew := few_any c.dl Ao Al Af no co nl cl nf cf w1 m1 m2 m3
  obtain ⟨Fw, hFw⟩ : ∃ Fw, Fw = ((decide (no ≤ 30) && decide (nl ≤ 60)) && decide (nf ≤ 60)) := ⟨_, rfl⟩
  rw [← hFw] at hfew
  have HFw := Lib.hid hFw
  have HB1 := Lib.hid b1
  have H1 := Lib.hid h1
  have HX1 := Lib.hid X1
  have HO1 := Lib.hid ho1
  clear hFw m1 m2 m3 b1 h1 X1 ho1
  obtain ⟨dl, hdl⟩ : ∃ dl, dl = c.dl := ⟨_, rfl⟩
  rw [← hdl] at hw1 hfew ⊢
  have HDL := Lib.hid hdl
  rw [← hdl] at HX1
  clear hdl
  cases Fw with
  | false =>
    go_enter Try.func3, Try.ntmps3
    go_wp2_with fail
    rw [← hw1]
    clear hw1
    refine hfew.mono ?_
    rintro e w2 ⟨rfl, b2⟩
    have B2 := HB1.out.trans (b2.mono HB1.out.size)
    clear hfew
    go_wp2_with fail
    refine (alive_any _).mono ?_
    rintro e wz ⟨rfl, bz⟩
    go_wp2
    go_ret
    exact ⟨rfl, B2.trans (bz.mono B2.size)⟩
  | true =>
    have hq : no ≤ 30 ∧ nl ≤ 60 ∧ nf ≤ 60 := by
      have := HFw.out
      simp only [Bool.true_eq, Bool.and_eq_true, decide_eq_true_eq] at this
      omega
    by_cases h60 : 60 < n
    · have t1 : decide ((60 : Int) < (n : Int)) = true := by simp; omega
      have t1' : decide (60 < n) = true := by simpa using h60
      clear h60 hq
      go_enter Try.func3, Try.ntmps3
      go_wp2_with fail
      rw [← hw1]
      clear hw1
      refine hfew.mono ?_
      rintro e w2 ⟨rfl, b2⟩
      have B2 := HB1.out.trans (b2.mono HB1.out.size)
      clear hfew
      go_wp2_with fail
      refine (alive_any _).mono ?_
      rintro e wz ⟨rfl, bz⟩
      go_wp2
      go_ret
      exact ⟨rfl, B2.trans (bz.mono B2.size)⟩
    have t1 : decide ((60 : Int) < (n : Int)) = false := by simp; omega
    have t1' : decide (60 < n) = false := by simpa using h60
    have hn60 : n ≤ 60 := by omega
    clear h60
    cases hok : c.ok with
    | false =>
      have hnb := fun W (b : Below w1.heap.size w1 W) => new_bad (H1.out.below b) (by omega) (by omega) hok
      have hxb := fun W (b : Below w1.heap.size w1 W) => xnew_bad (H1.out.below b) (by omega) (by omega) hok
      simp only [← HDL.out] at hnb hxb
      clear hq hok
      go_enter Try.func3, Try.ntmps3
      go_wp2_with fail
      rw [← hw1]
      clear hw1
      refine hfew.mono ?_
      rintro e w2 ⟨rfl, b2⟩
      have X2 := Cel.on HX1.out b2
      have c0 := X2.cell 0
      have c1 := X2.cell 1
      have c2 := X2.cell 2
      have c3 := X2.cell 3
      simp at c0 c1 c2 c3
      clear hfew
      go_wp2_with fail
      refine (hnb w2 b2).mono ?_
      rintro e w3 ⟨rfl, b3⟩
      have b3' := b2.trans (b3.mono b2.size)
      have X3 := Cel.on X2 b3
      clear c0 c1 c2 c3
      have c0 := X3.cell 0
      have c1 := X3.cell 1
      have c2 := X3.cell 2
      have c3 := X3.cell 3
      simp at c0 c1 c2 c3
      clear hnb X2 X3
      go_wp2_with fail
      refine (hxb w3 b3').mono ?_
      rintro e w4 ⟨rfl, b4⟩
      have B4 := HB1.out.trans ((b3'.trans (b4.mono b3'.size)).mono HB1.out.size)
      clear hxb c0 c1 c2 c3
      go_wp2_with fail
      refine (alive_any _).mono ?_
      rintro e wz ⟨rfl, bz⟩
      go_wp2
      go_ret
      exact ⟨rfl, (B4.alloc B4.size _).trans (bz.mono (B4.alloc B4.size _).size)⟩
    | true =>
      have hnk := fun W (b : Below w1.heap.size w1 W) => PL.new w1 b (H1.out.below b) (by omega) (by omega) (by omega) hok
      have hxk := fun W (b : Below w1.heap.size w1 W) => xnew_ok (H1.out.below b) (by omega) (by omega) hok
      simp only [← HDL.out] at hnk hxk
      have HOK := Lib.hid hok
      have HQ := Lib.hid hq
      clear hq hok
      go_enter Try.func3, Try.ntmps3
      go_wp2_with fail
      rw [← hw1]
      clear hw1
      refine hfew.mono ?_
      rintro e w2 ⟨rfl, b2⟩
      have X2 := Cel.on HX1.out b2
      have c0 := X2.cell 0
      have c1 := X2.cell 1
      have c2 := X2.cell 2
      have c3 := X2.cell 3
      simp at c0 c1 c2 c3
      clear hfew
      go_wp2_with fail
      refine (hnk w2 b2).mono ?_
      rintro e w3 ⟨g, F, rfl, p3, b3, _⟩
      have X3 := Cel.on X2 b3
      clear c0 c1 c2 c3
      have c0 := X3.cell 0
      have c1 := X3.cell 1
      have c2 := X3.cell 2
      have c3 := X3.cell 3
      simp at c0 c1 c2 c3
      clear hnk X2 X3
      go_wp2_with fail
      refine (hxk w3 p3.b).mono ?_
      rintro e w4 ⟨rfl, b4⟩
      have p4 := p3.below b4
      obtain ⟨w5, hw5⟩ : ∃ w5, w5 = w4.alloc (.cells #[I dl, .slice Ao no co, .slice Al nl cl, .slice Af nf cf, I 0, I 0, .slice none 0 0] 36) := ⟨_, rfl⟩
      have P0 : PR w1 w5 g F w4.heap.size c s0 s0 0 Ao no co Al nl cl Af nf cf none 0 0 := by
        rw [hw5]
        exact ⟨p4.below (bel_new _ _), by rw [← HDL.out]; exact Cel.new _ _ _, Fq.nil_ _, p4.b.size⟩
      obtain ⟨X, hX⟩ : ∃ X, X = w4.heap.size := ⟨_, rfl⟩
      rw [← hX] at P0
      clear hxk c0 c1 c2 c3 p3 p4 b3 b4
      go_upto_region 5 with fail
      rw [← hw5, ← hX]
      clear hw5 hX
      go_wp2
      go_loopw [5, 9] (fun av iv wr => ∃ (k g : Nat) (F : List Nat) (s : LS) (AL : Option Addr) (nL cL : Nat), k ≤ n ∧ av = .pointer (some ⟨g, 0, none⟩) ∧ iv = .int .i64 (k : Int) ∧ Hid (PR w1 wr g F X c s s k Ao no co Al nl cl Af nf cf AL nL cL)) (fun _ iv _ => n - (intOf iv).toNat)
      case atStart => exact ⟨0, g, F, s0, none, 0, 0, Nat.zero_le _, rfl, rfl, Lib.hid P0⟩
      case round =>
        clear P0
        obtain ⟨k, g, F, s, AL, nL, cL, hk, rfl, rfl, HP⟩ := hrel
        by_cases hkn : k < n
        · obtain ⟨o, hoo⟩ : ∃ o, l[k]? = some o := ⟨_, List.getElem?_eq_getElem (by rw [hl.out]; exact hkn)⟩
          obtain ⟨bo, off, rfl, hbo, e0, e1, e2, dt⟩ := (HO1.out.below HP.out.p.b) k o hoo
          have dt1 : Lst.Dt w1 w1.heap.size o.b o.A o.c := by
            obtain ⟨_, _, _, _, _, _, _, d⟩ := HO1.out k o hoo
            exact d
          obtain ⟨call, now, A, cc, b⟩ := o
          obtain ⟨M, hM⟩ : ∃ M, b.length = M := ⟨_, rfl⟩
          dsimp only at e0 e1 e2 dt dt1
          rw [hM] at e2
          have HM := Lib.hid hM
          have HDT := Lib.hid dt1
          have hMm : M ≤ 9223372036854775807 := by have := dt1.l; have := dt1.m; unfold maxLen at this; omega
          obtain ⟨wA, hwA⟩ : ∃ wA, wA = wr.alloc (.cells #[I call, I now, .slice A M cc] 41) := ⟨_, rfl⟩
          have bA : Below wr.heap.size wr wA := by rw [hwA]; exact bel_new _ _
          obtain ⟨Y, hY⟩ : ∃ Y, Y = wr.heap.size := ⟨_, rfl⟩
          have XA : Cel wA Y 41 #[I call, I now, .slice A M cc] := by rw [hwA, hY]; exact Cel.new _ _ _
          have HPA := Lib.hid (HP.out.below bA)
          have HK := Lib.hid hkn
          have HXA := Lib.hid XA
          have i1 : (k : Int) < (n : Int) := by omega
          clear bA XA HP hoo dt dt1 hM
          go_upto_region 13 with fail
          rw [← hwA, ← hY]
          clear e0 e1 e2 hwA hY
          have XA := HXA.out
          have f0 := XA.cell 0
          have f1 := XA.cell 1
          have f2 := XA.cell 2
          simp at f0 f1 f2
          by_cases hlong : 100 < M
          · have t2 : decide ((100 : Int) < (M : Int)) = true := by simp; omega
            have t2' : decide (100 < M) = true := by simpa using hlong
            have B := Lib.hid (HB1.out.trans (HPA.out.p.b.mono HB1.out.size))
            clear hlong XA
            go_wp2_with fail
            refine (alive_any _).mono ?_
            rintro e wz ⟨rfl, bz⟩
            go_wp2
            go_ret
            exact ⟨rfl, B.out.trans (bz.mono B.out.size)⟩
          have t2 : decide ((100 : Int) < (M : Int)) = false := by simp; omega
          have t2' : decide (100 < M) = false := by simpa using hlong
          have hM1 : M ≤ 1000000 := by omega
          clear hlong
          go_upto_block 2 with fail
          go_cut [5, 11, 12, 13, 14] from 44 to 119 (fun av _ _ _ _ wx => ∃ (g' : Nat) (F' : List Nat) (s' : LS) (AL' : Option Addr) (nL' cL' : Nat), av = .pointer (some ⟨g', 0, none⟩) ∧ Hid (PR w1 wx g' F' X c s' s' (k + 1) Ao no co Al nl cl Af nf cf AL' nL' cL'))
          case first =>
            have PA := HPA.out
            have hsok := PA.p.ok
            have HQo := HQ.out
            clear f0 f1 f2
            rcases Decidable.em (call = 1) with rfl | n1
            · obtain ⟨S', hS⟩ : ∃ S', snd c now b s = S' := ⟨_, rfl⟩
              have hcall := PA.send1 (by omega) HM.out HDT.out.b HDT.out.n hM1 (now := now)
              rw [hS] at hcall
              have HS := Lib.hid hS
              have f1 := XA.cell 1
              have f2 := XA.cell 2
              simp at f1 f2
              clear PA hS
              go_wp2_with fail
              refine hcall.mono ?_
              rintro e w3 ⟨rfl, ⟨F3, P3⟩, q3⟩
              have X3 := q3 _ _ _ XA (by decide)
              clear f1 f2 XA hcall q3
              have href := xsend_any (H1.out.below P3.p.b) HOK.out hsok (by omega) (by omega) (by omega) (by omega) P3.f now A b M cc (Lib.hid HM.out) ((HDT.out.b.below P3.p.b).more P3.p.b.size) HDT.out.n hM1
              rw [HS.out] at href
              have f1 := X3.cell 1
              have f2 := X3.cell 2
              simp at f1 f2
              have x0 := P3.x.cell 0
              have x1 := P3.x.cell 1
              have x2 := P3.x.cell 2
              have x3 := P3.x.cell 3
              have x4 := P3.x.cell 4
              have x5 := P3.x.cell 5
              have x6 := P3.x.cell 6
              simp at x0 x1 x2 x3 x4 x5 x6
              have HP3 := Lib.hid P3
              clear P3 X3
              go_wp2_with fail
              refine href.mono ?_
              rintro e w4 ⟨⟨A', n', c', rfl, v4⟩, b4⟩
              have P4 := HP3.out.below b4
              clear href f1 f2 b4 x0 x1 x2 x3 x4 x5 x6
              have y0 := P4.x.cell 0
              have y1 := P4.x.cell 1
              have y2 := P4.x.cell 2
              have y3 := P4.x.cell 3
              have y4 := P4.x.cell 4
              have y5 := P4.x.cell 5
              have y6 := P4.x.cell 6
              simp at y0 y1 y2 y3 y4 y5 y6
              have yy0 := P4.x.free 0
              have yy1 := P4.x.free 1
              have yy2 := P4.x.free 2
              have yy3 := P4.x.free 3
              have yy4 := P4.x.free 4
              have yy5 := P4.x.free 5
              have yy6 := P4.x.free 6
              have P5 := (P4.store v4).1
              unfold put7 at P5
              have HP5 := Lib.hid P5
              clear P5 P4 v4 hsok HQo
              go_wp2
              go_meet
              case rel => exact ⟨_, _, _, _, _, _, rfl, HP5⟩
            rcases Decidable.em (call = 2) with rfl | n2
            · have v1 : ((2 : Int) == 1) = false := rfl
              obtain ⟨S', hS⟩ : ∃ S', rcS now s = S' := ⟨_, rfl⟩
              obtain ⟨O', hO⟩ : ∃ O', rcO now s = O' := ⟨_, rfl⟩
              obtain ⟨K, hK⟩ : ∃ K, O'.length = K := ⟨_, rfl⟩
              have hcall := PA.recv1 (by omega) (now := now)
              rw [hS, hO] at hcall
              have HS := Lib.hid (And.intro hS hO)
              have HKK := Lib.hid hK
              have hKl : Hid (K ≤ 1000000) := Lib.hid (by
                rw [← hK, ← hO]
                unfold rcO
                rw [List.length_map, List.length_take]
                have := hsok.w
                have := hsok.n
                omega)
              have f1 := XA.cell 1
              simp at f1
              clear PA hS hO hK
              go_wp2_with fail
              refine hcall.mono ?_
              rintro e w3 ⟨v3, rfl, ls3, P3, q3⟩
              obtain ⟨A3, k3, rfl, _⟩ := ls3.len HKK.out
              have X3 := q3 _ _ _ XA (by decide)
              clear f1 XA hcall q3
              have href := xrecv_any (Ao := Ao) (no := no) (co := co) (Al := Al) (nl := nl) (cl := cl) (Af := Af) (nf := nf) (cf := cf) c.dl hsok (by omega) P3.f now
              rw [HS.out.1, HS.out.2] at href
              have f1 := X3.cell 1
              simp at f1
              have x0 := P3.x.cell 0
              have x1 := P3.x.cell 1
              have x2 := P3.x.cell 2
              have x3 := P3.x.cell 3
              have x4 := P3.x.cell 4
              have x5 := P3.x.cell 5
              have x6 := P3.x.cell 6
              simp at x0 x1 x2 x3 x4 x5 x6
              have HP3 := Lib.hid P3
              have HL3 := Lib.hid ls3
              clear P3 X3 ls3
              go_wp2_with fail
              refine href.mono ?_
              rintro e w4 ⟨⟨A', n', c', vr, rfl, v4, lr⟩, b4⟩
              obtain ⟨Ar, kr, rfl, _⟩ := lr.len HKK.out
              have P4 := HP3.out.below b4
              have l4 := HL3.out.below b4
              clear href f1 b4 x0 x1 x2 x3 x4 x5 x6
              obtain ⟨w5, hw5⟩ : ∃ w5, w5 = w4.alloc (.cells #[I c.dl, .slice Ao no co, .slice Al nl cl, .slice Af nf cf, I S'.tm, I (S'.sn : Int), .slice A' n' c'] 36) := ⟨_, rfl⟩
              have b5 : Below w4.heap.size w4 w5 := by rw [hw5]; exact bel_new _ _
              have P5 := P4.below b5
              have l5 := l4.below b5
              have r5 := lr.below b5
              have v5 := v4.below b5
              have z5 : Cel w5 w4.heap.size 36 #[I c.dl, .slice Ao no co, .slice Al nl cl, .slice Af nf cf, I S'.tm, I (S'.sn : Int), .slice A' n' c'] := by rw [hw5]; exact Cel.new _ _ _
              obtain ⟨P6, q6, k6⟩ := P5.store v5
              have hX6 : ∀ {base : Nat} {v : Value} {ls : List (List Byte)}, Ls w5 base v ls → ∀ i, v.ownBlock = some i → i ∉ [X] := fun hh i hi hm => by
                obtain ⟨qs, _, h2, _⟩ := hh
                obtain ⟨cs, hc⟩ := Lst.own_cel h2 hi
                rw [List.mem_singleton.1 hm] at hc
                exact Cel.apart hc P5.x (by decide) rfl
              have l6 := l5.only k6 q6 (hX6 l5)
              have r6 := r5.only k6 q6 (hX6 r5)
              obtain ⟨_, _, e1, s1, _⟩ := l6.len HKK.out
              injection e1 with e1 _ e2
              subst e1 e2
              obtain ⟨_, _, e1, s2, _⟩ := r6.len HKK.out
              injection e1 with e1 _ e2
              subst e1 e2
              have hsame := same_eq O' K k3 kr A3 Ar _ (Lib.hid HKK.out) s1 s2 hKl.out
              obtain ⟨w6, hw6⟩ : ∃ w6, w6 = put7 w5 X (I c.dl) (.slice Ao no co) (.slice Al nl cl) (.slice Af nf cf) (I S'.tm) (I (S'.sn : Int)) (.slice A' n' c') := ⟨_, rfl⟩
              rw [← hw6] at hsame P6
              have HP6 := Lib.hid P6
              unfold put7 at hw6
              have z0 := z5.cell 0
              have z1 := z5.cell 1
              have z2 := z5.cell 2
              have z3 := z5.cell 3
              have z4 := z5.cell 4
              have z5_ := z5.cell 5
              have z6 := z5.cell 6
              simp at z0 z1 z2 z3 z4 z5_ z6
              have y0 := P5.x.cell 0
              have y1 := P5.x.cell 1
              have y2 := P5.x.cell 2
              have y3 := P5.x.cell 3
              have y4 := P5.x.cell 4
              have y5 := P5.x.cell 5
              have y6 := P5.x.cell 6
              simp at y0 y1 y2 y3 y4 y5 y6
              have yy0 := P5.x.free 0
              have yy1 := P5.x.free 1
              have yy2 := P5.x.free 2
              have yy3 := P5.x.free 3
              have yy4 := P5.x.free 4
              have yy5 := P5.x.free 5
              have yy6 := P5.x.free 6
              obtain ⟨Zd, hZd⟩ : ∃ Zd, Zd = w4.heap.size := ⟨_, rfl⟩
              rw [← hZd] at z0 z1 z2 z3 z4 z5_ z6
              clear P6 P5 P4 l4 l5 l6 r5 r6 lr v4 v5 q6 k6 hX6 s1 s2 b5 z5 hsok HQo
              go_upto_region 23 with fail
              rw [← hw5, ← hZd]
              clear hw5 hZd
              go_wp2_with fail
              rw [← hw6]
              clear hw6
              refine hsame.mono ?_
              rintro e w7 ⟨rfl, b7⟩
              have HP7 := Lib.hid (HP6.out.below b7)
              clear hsame b7 y0 y1 y2 y3 y4 y5 y6 z0 z1 z2 z3 z4 z5_ z6 yy0 yy1 yy2 yy3 yy4 yy5 yy6
              go_wp2
              go_meet
              case rel => exact ⟨_, _, _, _, _, _, rfl, Lib.hid (HP7.out.up (Nat.le_succ k))⟩
            rcases Decidable.em (call = 3) with rfl | n3
            · have v1 : ((3 : Int) == 1) = false := rfl
              have v2 : ((3 : Int) == 2) = false := rfl
              have hcall := PA.clone1 (by omega)
              clear PA
              go_wp2_with fail
              refine hcall.mono ?_
              rintro e w3 ⟨g3, F3, rfl, P3, pg, hd, b3⟩
              have X3 := Cel.on XA b3
              have f1 := X3.cell 1
              have f2 := X3.cell 2
              simp at f1 f2
              have h4 := pg.send (by omega) HM.out (pg.bo_low HDT.out.b) HDT.out.n hM1 (now := now) rfl
              have HH := Lib.hid (And.intro P3 (And.intro pg hd))
              clear hcall P3 pg hd b3 XA
              go_wp2_with fail
              refine h4.mono ?_
              rintro e w4 ⟨rfl, F4, p4, k4, hF4⟩
              obtain ⟨P3, pg, hd⟩ := HH.out
              obtain ⟨P4, hd4⟩ := P3.other pg hd k4 hF4
              have h5 := p4.recv (by omega) (now := 1099511627776) rfl rfl
              have HH4 := Lib.hid (And.intro P4 (And.intro p4 hd4))
              clear h4 f1 f2 X3 P3 pg hd k4 hF4 P4 hd4 p4 HH
              go_wp2_with fail
              refine h5.mono ?_
              rintro e w5 ⟨v5, rfl, _, p5, k5⟩
              obtain ⟨P4, p4, hd4⟩ := HH4.out
              have HP5 := Lib.hid (P4.other p4 hd4 k5 (F2' := F4) (fun x hx => .inl hx)).1
              clear h5 P4 p4 hd4 p5 k5 HH4 hsok HQo
              go_wp2
              go_meet
              case rel => exact ⟨_, _, _, _, _, _, rfl, Lib.hid (HP5.out.up (Nat.le_succ k))⟩
            have v1 : (call == 1) = false := by simpa using n1
            have v2 : (call == 2) = false := by simpa using n2
            have v3 : (call == 3) = false := by simpa using n3
            clear PA hsok HQo XA
            go_wp2
            go_meet
            case rel => exact ⟨_, _, _, _, _, _, rfl, Lib.hid (HPA.out.up (Nat.le_succ k))⟩
          case rest =>
            clear f0 f1 f2
            obtain ⟨g', F', s', AL', nL', cL', rfl, HP9⟩ := hcut
            have hXn := HP9.out.x.lt
            have e5 := HP9.out.x.cell 5
            have e6 := HP9.out.x.cell 6
            simp at e5 e6
            have d5 : ∀ q : Later wc, q.W.cell? ⟨X, 5, none⟩ = some (I (s'.sn : Int)) := later_cell e5 hXn
            have d6 : ∀ q : Later wc, q.W.cell? ⟨X, 6, none⟩ = some (.slice AL' nL' cL') := later_cell e6 hXn
            have v1 := fun q : Later wc => later_same (p := q) ((HP9.out.p.below q.h).sent rfl)
            have v2 := fun q : Later wc => later_same (p := q) ((HP9.out.p.below q.h).pend HP9.out.f.len)
            obtain ⟨sn, hsn⟩ : ∃ x, x = s'.sn := ⟨_, rfl⟩
            rw [← hsn] at d5
            simp only [← hsn] at v1
            have j1 : ((sn : Int) != (sn : Int)) = false := by simp
            have j2 : ((nL' : Int) != (nL' : Int)) = false := by simp
            clear e5 e6 hsn XA hXn
            go_upto_region 31 with fail
            refine wp_region_later (by kernel_rfl) (by kernel_rfl) ?_
            repeat (go_big_quiet_step ((first
              | (go_at_call 17; exact v1 _)
              | (go_at_call 18; exact v2 _))))
            refine wpQuiet_nil ?_
            rintro w10 ⟨p10, hp10⟩
            have b10 : Below wc.heap.size wc w10 := by rw [hp10]; exact p10.h
            have HP10 := Lib.hid (HP9.out.below b10)
            clear v1 v2 d5 d6 HP9 b10 hp10 p10
            go_wp2
            go_roundw
            case rel => exact ⟨k + 1, g', F', s', AL', nL', cL', HK.out, rfl, by simp, HP10⟩
            case measure => have := HK.out; simp [intOf]; omega
        · obtain rfl : k = n := by omega
          have B := Lib.hid (HB1.out.trans (HP.out.p.b.mono HB1.out.size))
          clear HP hkn
          go_wp2_with fail
          refine (alive_any wr).mono ?_
          rintro e wz ⟨rfl, bz⟩
          go_wp2
          go_ret
          exact ⟨rfl, B.out.trans (bz.mono B.out.size)⟩
end Go.Proofs.Ytllhdgllgoanbaa.Lnk
