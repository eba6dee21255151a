/-
  The walk of the law FilesPlays.
-/
import Derived.Test.YtbeekfbcflmemaaVals26
import Derived.Test.YtbeekfbcflmemaaRef26c
import Derived.Deep.Cut
import Derived.Deep.CutBlock
namespace Go.Proofs.Ytbeekfbcflmemaa.Fil
open Go.RowKit Go.Proofs.Ytbeekfbcflmemaa.Row
open Lst (Qb Dt)

/-- a Store in play beside the reference's in a variable -/
structure PR (w0 w : World) (g b X : Nat) (s : St) (A : Option Addr) (n c : Nat) : Prop where
  p : PF w0 w g b s
  x : Cel w X 28 #[I (s.most : Int), I (s.room : Int), .slice A n c]
  f : RX w A n c s.l
  lo : w0.heap.size ≤ X
section
variable {w0 w w' : World} {g b X : Nat} {s : St} {A : Option Addr} {n c : Nat}
theorem PR.later (h : PR w0 w g b X s A n c) (k : Below w.heap.size w w') : PR w0 w' g b X s A n c := ⟨h.p.later k, Cel.on h.x k, h.f.later k, h.lo⟩
theorem PF.ne (h : PF w0 w g b s) {X : Nat} {t : TypeId} {cs : Array Value} (x : Cel w X t cs) : X ≠ b := by
  obtain ⟨Q, h1, h2, h3⟩ := h.fw.ex
  exact h2.ne x
/-- the reference's is stored -/
theorem PF.store (h : PF w0 w g b s) {u0 u1 u2 : Value} (x : Cel w X 28 #[u0, u1, u2]) (f : RX w A n c s.l) (lo : w0.heap.size ≤ X) : PR w0 (put3 w X (I (s.most : Int)) (I (s.room : Int)) (.slice A n c)) g b X s A n c := by
  have h1 := put3_only w X (I (s.most : Int)) (I (s.room : Int)) (.slice A n c)
  have q := box_kq x h1
  have hne := h.ne x
  exact ⟨h.only h1 q (by simp; omega) (by simpa using lo), put3_cel x _ _ _, f.keep q, lo⟩
end
theorem PF.store2 {w0 w : World} {g b X : Nat} {s s2 : St} {A : Option Addr} {n c : Nat} (h : PF w0 w g b s2) (hm : s2.most = s.most ∧ s2.room = s.room) {u0 u1 u2 : Value} (x : Cel w X 28 #[u0, u1, u2]) (f : RX w A n c s2.l) (lo : w0.heap.size ≤ X) :
    PR w0 (put3 w X (I (s.most : Int)) (I (s.room : Int)) (.slice A n c)) g b X s2 A n c ∧ Kq w (put3 w X (I (s.most : Int)) (I (s.room : Int)) (.slice A n c)) := by
  rw [← hm.1, ← hm.2]
  exact ⟨h.store x f lo, box_kq x (put3_only _ _ _ _ _)⟩
theorem puS_mr (s : St) (x : Nm) (d : List Byte) : (puS s x d).most = s.most ∧ (puS s x d).room = s.room := by
  unfold puS; split <;> exact ⟨rfl, rfl⟩
theorem deS_mr (s : St) (x : Nm) : (deS s x).most = s.most ∧ (deS s x).room = s.room := by
  unfold deS; split <;> exact ⟨rfl, rfl⟩

set_option maxHeartbeats 8000000 in
set_option maxRecDepth 100000 in
theorem plays_walk (most room : Int) (a : Option Addr) (l : List Op26) (n k0 : Nat) (w : World) (hl : Hid (l.length = n)) (ho : Ops w w.heap.size a l) (hnm : n ≤ maxLen) :
    Calls Try.prog 3 #[I most, I room, .slice a n k0] w fun e w' => e = .returned (.bool true) ∧ Below w.heap.size w w' := by
  have hal := fun W => alive_any W
  unfold maxLen at hnm
  by_cases h80 : 80 < n
  · have t1 : decide ((80 : Int) < (n : Int)) = true := decide_eq_true (by omega)
    have t2 : decide (80 < n) = true := decide_eq_true h80
    clear h80
    go_enter Try.func3, Try.ntmps3
    go_wp2_with (go_at_call 7; refine (hal _).mono ?_; rintro e w1 ⟨rfl, b1⟩)
    go_ret
    exact ⟨rfl, b1⟩
  have t1 : decide ((80 : Int) < (n : Int)) = false := decide_eq_false (by omega)
  have t2 : decide (80 < n) = false := decide_eq_false h80
  have hn80 : n ≤ 80 := by omega
  have HO := Lib.hid ho
  have hnew := PF.new (w0 := w) (Below.refl w.heap.size w) most room
  have href := fun W => rnew_any most room W
  obtain ⟨M, hM⟩ : ∃ M, M = (s0 most room).most := ⟨_, rfl⟩
  obtain ⟨rm, hrm⟩ : ∃ rm, rm = (s0 most room).room := ⟨_, rfl⟩
  rw [← hM, ← hrm] at href
  have HM := Lib.hid (And.intro hM hrm)
  clear h80 ho hM hrm
  go_enter Try.func3, Try.ntmps3
  go_wp2_with fail
  refine hnew.mono ?_
  rintro e w3 ⟨g, b, rfl, p3, b3⟩
  clear hnew
  go_wp2_with fail
  refine (href w3).mono ?_
  rintro e w4 ⟨rfl, b4⟩
  clear href
  have p4 := p3.later b4
  have P0 : PR w (w4.alloc (.cells #[I (M : Int), I (rm : Int), .slice none 0 0] 28)) g b w4.heap.size (s0 most room) none 0 0 := by
    rw [HM.out.1, HM.out.2]
    exact ⟨p4.later (bel_new _ _), Cel.new _ _ _, RX.zero _, p4.bel.size⟩
  obtain ⟨w5, hw5⟩ : ∃ w5, w5 = w4.alloc (.cells #[I (M : Int), I (rm : Int), .slice none 0 0] 28) := ⟨_, rfl⟩
  obtain ⟨X, hX⟩ : ∃ X, X = w4.heap.size := ⟨_, rfl⟩
  rw [← hw5, ← hX] at P0
  have HP0 := Lib.hid P0
  clear p3 p4 b3 b4 P0
  go_upto_region 5 with fail
  rw [← hw5, ← hX]
  clear hw5 hX
  go_wp2
  go_loopw [7, 9] (fun av iv wr => ∃ (k g b : Nat) (s : St) (AL : Option Addr) (nL cL : Nat), k ≤ n ∧ av = .pointer (some ⟨g, 0, none⟩) ∧ iv = .int .i64 (k : Int) ∧ Hid (PR w wr g b X s AL nL cL)) (fun _ iv _ => n - (intOf iv).toNat)
  case atStart => exact ⟨0, g, b, s0 most room, none, 0, 0, Nat.zero_le _, rfl, rfl, HP0⟩
  case round =>
    clear HP0 HM
    obtain ⟨k, g, b, s, AL, nL, cL, hk, rfl, rfl, HP⟩ := hrel
    by_cases hkn : k < n
    · obtain ⟨o, hoo⟩ : ∃ o, l[k]? = some o := ⟨_, List.getElem?_eq_getElem (by rw [hl.out]; exact hkn)⟩
      obtain ⟨bo, off, A, m, cc, hoa⟩ := HO.out k o hoo
      have HOA := Lib.hid hoa
      obtain ⟨e, hbo, e0, e1, e2, hmd, hdt⟩ := hoa.below HP.out.p.bel
      subst e
      obtain ⟨call, x, d⟩ := o
      dsimp only at e0 e1 e2 hmd hdt
      obtain ⟨q, hq⟩ : ∃ q, q = x.length := ⟨_, rfl⟩
      have hsz : (nm x).size = q := by rw [nm_size, hq]
      obtain ⟨wA, hwA⟩ : ∃ wA, wA = wr.alloc (.cells #[I call, .string (nm x), .slice A m cc] 32) := ⟨_, rfl⟩
      have bA : Below wr.heap.size wr wA := by rw [hwA]; exact bel_new _ _
      obtain ⟨Y, hY⟩ : ∃ Y, Y = wr.heap.size := ⟨_, rfl⟩
      have XA : Cel wA Y 32 #[I call, .string (nm x), .slice A m cc] := by rw [hwA, hY]; exact Cel.new _ _ _
      have HPA := Lib.hid (HP.out.later bA)
      have HK := Lib.hid hkn
      have HXA := Lib.hid XA
      have hmm : m ≤ 9223372036854775807 := by have := hdt.l; have := hdt.m; unfold maxLen at this; omega
      have HMD := Lib.hid hmd
      have HQ := Lib.hid hq
      have i1 : (k : Int) < (n : Int) := by omega
      clear bA XA HP hoo hoa hmd hdt hq
      by_cases h3 : 300 < m
      · have t3 : decide ((300 : Int) < (m : Int)) = true := decide_eq_true (by omega)
        have t4 : decide (300 < m) = true := decide_eq_true h3
        have B := Lib.hid HPA.out.p.bel
        clear h3 HPA
        go_wp2_with fail
        rw [← hwA]
        clear hwA
        refine (hal _).mono ?_
        rintro e wz ⟨rfl, bz⟩
        go_wp2
        go_ret
        exact ⟨rfl, B.out.trans (bz.mono B.out.size)⟩
      have t3 : decide ((300 : Int) < (m : Int)) = false := decide_eq_false (by omega)
      have t4 : decide (300 < m) = false := decide_eq_false h3
      by_cases h4 : 300 < q
      · have t5 : decide ((300 : Int) < (q : Int)) = true := decide_eq_true (by omega)
        have t6 : decide (300 < q) = true := decide_eq_true h4
        have B := Lib.hid HPA.out.p.bel
        clear h3 h4 HPA
        go_wp2_with fail
        rw [← hwA]
        clear hwA
        refine (hal _).mono ?_
        rintro e wz ⟨rfl, bz⟩
        go_wp2
        go_ret
        exact ⟨rfl, B.out.trans (bz.mono B.out.size)⟩
      have t5 : decide ((300 : Int) < (q : Int)) = false := decide_eq_false (by omega)
      have t6 : decide (300 < q) = false := decide_eq_false h4
      have hm3 : m ≤ 1000000 := by omega
      clear h3 h4
      go_upto_region 13 with fail
      rw [← hwA, ← hY]
      clear e0 e1 e2 hwA hY
      have XA := HXA.out
      have f0 := XA.cell 0
      have f1 := XA.cell 1
      have f2 := XA.cell 2
      simp at f0 f1 f2
      go_upto_block 2 with fail
      go_cut [7, 11, 12, 13] from 51 to 93 (fun av ea eb _ wx => ∃ (E : Nat) (g' b' : Nat) (s' : St) (AL' : Option Addr) (nL' cL' : Nat), av = .pointer (some ⟨g', 0, none⟩) ∧ ea = .int .i64 (E : Int) ∧ eb = .int .i64 (E : Int) ∧ Hid (PR w wx g' b' X s' AL' nL' cL') ∧ Hid (Cel wx Y 32 #[I call, .string (nm x), .slice A m cc]))
      case first =>
        have PA := HPA.out
        clear f0 f1 f2
        have f1 := XA.cell 1
        have f2 := XA.cell 2
        simp at f1 f2
        rcases Decidable.em (call = 1) with rfl | n1
        · obtain ⟨S', hS⟩ : ∃ S', puS s x d = S' := ⟨_, rfl⟩
          obtain ⟨E, hE⟩ : ∃ E, puE s x d = E := ⟨_, rfl⟩
          have hmr := puS_mr s x d
          rw [hS] at hmr
          have hdt := HOA.out.dt.later PA.p.bel
          have hcall := PA.p.put x d m A cc E S' hE hS HMD hdt hm3
          have hPx := PA.x
          have hPf := PA.f
          have hPl := PA.lo
          have hXb := PA.p.ne hPx
          have hok := PA.p.fw.ok
          have HE := Lib.hid (And.intro hE hS)
          have HMR := Lib.hid hmr
          clear PA hS hE hmr hdt
          go_wp2_with fail
          refine hcall.mono ?_
          rintro e w6 ⟨rfl, p6, o6, q6⟩
          have x6 := hPx.only o6 (by simpa using hXb)
          have X6 := q6.cel XA (by decide)
          have f6 := hPf.keep q6
          have hdt6 := HOA.out.dt.later p6.bel
          have href := rput_any w6 AL nL cL s f6 hok x d m A cc HMD hdt6 hm3
          rw [HE.out.1, HE.out.2] at href
          clear f1 f2 XA hcall q6 o6 f6 hdt6 hPx hPf hXb hok
          have f1 := X6.cell 1
          have f2 := X6.cell 2
          simp at f1 f2
          have x0 := Cel_c0 x6
          have x1 := Cel_c1 x6
          have x2 := Cel_c2 x6
          have HP6 := Lib.hid p6
          clear p6
          go_wp2_with fail
          refine href.mono ?_
          rintro e w7 ⟨A7, n7, c7, rfl, f7, b7⟩
          have x7 := Cel.on x6 b7
          have X7 := Cel.on X6 b7
          have p7 := HP6.out.later b7
          clear href f1 f2 x0 x1 x2 x6 X6 b7
          have x0 := Cel_c0 x7
          have x1 := Cel_c1 x7
          have x2 := Cel_c2 x7
          have y0 := x7.free 0
          have y1 := x7.free 1
          have y2 := x7.free 2
          obtain ⟨P8, q8⟩ := p7.store2 HMR.out x7 f7 hPl
          have X8 := Lib.hid (q8.cel X7 (by decide))
          have HP8 := Lib.hid P8
          unfold put3 at HP8 X8
          clear P8 q8 p7 f7 x7 X7
          go_wp2
          go_meet
          case rel => exact ⟨E, g, b, S', A7, n7, c7, rfl, rfl, rfl, HP8, X8⟩
        rcases Decidable.em (call = 3) with rfl | n3
        · have v1 : ((3 : Int) == 1) = false := rfl
          obtain ⟨S', hS⟩ : ∃ S', deS s x = S' := ⟨_, rfl⟩
          obtain ⟨E, hE⟩ : ∃ E, geE s x = E := ⟨_, rfl⟩
          have hmr := deS_mr s x
          rw [hS] at hmr
          have hcall := PA.p.dele x E S' hE hS
          have hPx := PA.x
          have hPf := PA.f
          have hPl := PA.lo
          have hXb := PA.p.ne hPx
          have hsr := PA.p.fw.ok.srt
          have hnL : nL ≤ 1000 := by rw [← PA.f.len]; have := PA.p.fw.ok.cnt; have := PA.p.fw.ok.m; omega
          have HE := Lib.hid (And.intro hE hS)
          have HMR := Lib.hid hmr
          clear PA hS hE hmr f2
          go_wp2_with fail
          refine hcall.mono ?_
          rintro e w6 ⟨rfl, p6, o6, q6⟩
          have x6 := hPx.only o6 (by simpa using hXb)
          have X6 := q6.cel XA (by decide)
          have f6 := hPf.keep q6
          have href := rdele_any w6 (s.most : Int) (s.room : Int) AL nL cL s f6 hsr x hnL
          rw [HE.out.1, HE.out.2] at href
          clear f1 XA hcall q6 o6 f6 hPx hPf hXb hsr
          have f1 := X6.cell 1
          simp at f1
          have x0 := Cel_c0 x6
          have x1 := Cel_c1 x6
          have x2 := Cel_c2 x6
          have HP6 := Lib.hid p6
          clear p6
          go_wp2_with fail
          refine href.mono ?_
          rintro e w7 ⟨A7, n7, c7, rfl, f7, b7⟩
          have x7 := Cel.on x6 b7
          have X7 := Cel.on X6 b7
          have p7 := HP6.out.later b7
          clear href f1 x0 x1 x2 x6 X6 b7
          have x0 := Cel_c0 x7
          have x1 := Cel_c1 x7
          have x2 := Cel_c2 x7
          have y0 := x7.free 0
          have y1 := x7.free 1
          have y2 := x7.free 2
          obtain ⟨P8, q8⟩ := p7.store2 HMR.out x7 f7 hPl
          have X8 := Lib.hid (q8.cel X7 (by decide))
          have HP8 := Lib.hid P8
          unfold put3 at HP8 X8
          clear P8 q8 p7 f7 x7 X7
          go_wp2
          go_meet
          case rel => exact ⟨E, g, b, S', A7, n7, c7, rfl, rfl, rfl, HP8, X8⟩
        rcases Decidable.em (call = 4) with rfl | n4
        · have v1 : ((4 : Int) == 1) = false := rfl
          have v3 : ((4 : Int) == 3) = false := rfl
          have hcall := PA.p.copy
          have hPx := PA.x
          have hPf := PA.f
          have hPl := PA.lo
          have hdt := HOA.out.dt
          clear PA
          go_wp2_with fail
          refine hcall.mono ?_
          rintro e w6 ⟨g2, b2, rfl, p6, pc6, hbb, b6⟩
          have x6 := Cel.on hPx b6
          have X6 := Cel.on XA b6
          have f6 := hPf.later b6
          have hput := p6.put [99, 108, 111, 110, 101] d m A cc _ _ rfl rfl HMD (hdt.later p6.bel) hm3
          clear f1 f2 XA hcall hPx hPf b6
          have f1 := X6.cell 1
          have f2 := X6.cell 2
          simp at f1 f2
          have HH6 := Lib.hid (And.intro pc6 (And.intro x6 f6))
          have hXb := p6.ne x6
          clear pc6 f6 x6 p6
          go_wp2_with fail
          refine hput.mono ?_
          rintro e w7 ⟨rfl, p7, o7, q7⟩
          have pc7 := HH6.out.1.only o7 q7 (by simpa using hbb) (by simpa using p7.lb)
          have x7 := HH6.out.2.1.only o7 (by simpa using hXb)
          have f7 := HH6.out.2.2.keep q7
          have X7 := q7.cel X6 (by decide)
          have hdel := p7.dele x _ _ rfl rfl
          clear f1 f2 X6 hput o7 q7 HH6
          have f1 := X7.cell 1
          simp at f1
          have HH7 := Lib.hid (And.intro pc7 (And.intro x7 f7))
          clear pc7 f7 x7 p7
          go_wp2_with fail
          refine hdel.mono ?_
          rintro e w8 ⟨rfl, p8, o8, q8⟩
          have pc8 := HH7.out.1.only o8 q8 (by simpa using hbb) (by simpa using p8.lb)
          have x8 := HH7.out.2.1.only o8 (by simpa using hXb)
          have f8 := HH7.out.2.2.keep q8
          have X8 := Lib.hid (q8.cel X7 (by decide))
          have HP8 : Hid (PR w w8 g2 b2 X s AL nL cL) := Lib.hid ⟨pc8, x8, f8, hPl⟩
          clear f1 X7 hdel o8 q8 pc8 x8 f8 HH7 p8
          go_wp2
          go_meet
          case rel => exact ⟨0, g2, b2, s, AL, nL, cL, rfl, rfl, rfl, HP8, X8⟩
        have v1 : (call == 1) = false := by simpa using n1
        have v3 : (call == 3) = false := by simpa using n3
        have v4 : (call == 4) = false := by simpa using n4
        clear PA f1 f2
        have X8 := Lib.hid XA
        clear XA
        go_wp2
        go_meet
        case rel => exact ⟨0, g, b, s, AL, nL, cL, rfl, rfl, rfl, HPA, X8⟩
      case rest =>
        clear f0 f1 f2
        obtain ⟨E, g', b', s', AL', nL', cL', rfl, rfl, rfl, HP9, HX9⟩ := hcut
        have X9 := HX9.out
        have f1 := X9.cell 1
        simp at f1
        obtain ⟨D, hD⟩ : ∃ D, geD s' x = D := ⟨_, rfl⟩
        obtain ⟨G, hG⟩ : ∃ G, geE s' x = G := ⟨_, rfl⟩
        obtain ⟨N, hN⟩ : ∃ N, D.length = N := ⟨_, rfl⟩
        have HN := Lib.hid hN
        have hget := HP9.out.p.get x G D N hG hD HN
        have HDG := Lib.hid (And.intro hD hG)
        clear hD hG hN XA
        go_wp2_with fail
        refine hget.mono ?_
        rintro e w10 ⟨A10, c10, rfl, _, d10, b10⟩
        have P10 := HP9.out.later b10
        have X10 := Cel.on X9 b10
        have hnL : nL' ≤ 1000 := by rw [← P10.f.len]; have := P10.p.fw.ok.cnt; have := P10.p.fw.ok.m; omega
        have href := rget_any w10 (s'.most : Int) (s'.room : Int) AL' nL' cL' s' P10.f P10.p.fw.ok.srt x (by omega)
        rw [HDG.out.1, HDG.out.2, HN.out] at href
        clear hget f1 X9 HX9 HP9 b10
        have f1 := X10.cell 1
        simp at f1
        have x0 := Cel_c0 P10.x
        have x1 := Cel_c1 P10.x
        have x2 := Cel_c2 P10.x
        have HP10 := Lib.hid P10
        have HD10 := Lib.hid d10
        clear P10 d10
        go_wp2_with fail
        refine href.mono ?_
        rintro e w11 ⟨A11, c11, rfl, d11, b11⟩
        have P11 := HP10.out.later b11
        have X11 := Cel.on X10 b11
        have d10 := HD10.out.later b11
        clear href f1 x0 x1 x2 X10 b11 HP10 HD10
        have hok := P11.p.fw.ok
        have hna := fun W => name_any x x.length W (Lib.hid rfl)
        have hrn := fun W => rname_any x x.length W (Lib.hid rfl)
        obtain ⟨B, hB⟩ : ∃ B, B = okN x := ⟨_, rfl⟩
        rw [← hB] at hna hrn
        obtain ⟨R, hR⟩ : ∃ R : Int, (s'.room : Int) - (sz s'.l : Int) = R := ⟨_, rfl⟩
        have hfr := fun W (hb : Below w11.heap.size w11 W) => (P11.p.later hb).free R hR
        have hrf := fun W (hb : Below w11.heap.size w11 W) => rfree_any W (s'.most : Int) s'.room AL' nL' cL' s'.l (P11.f.later hb) (by omega) hok.r hok.sum
        rw [hR] at hrf
        obtain ⟨NL, hNL⟩ : ∃ NL, s'.l.map (·.1) = NL := ⟨_, rfl⟩
        obtain ⟨NN, hNN⟩ : ∃ NN, NL.length = NN := ⟨_, rfl⟩
        have hNN2 : NN ≤ 1000000 := by rw [← hNN, ← hNL, List.length_map]; have := hok.cnt; have := hok.m; omega
        have hnm1 := fun W (hb : Below w11.heap.size w11 W) => (P11.p.later hb).names NL NN hNL hNN
        have hnm2 := fun W (hb : Below w11.heap.size w11 W) => rnames_any W (s'.most : Int) (s'.room : Int) AL' nL' cL' s'.l (P11.f.later hb) (by omega)
        rw [hNL] at hnm2
        have hSS : ∀ W, Below w11.heap.size w11 W → W.cell? ⟨Y, 1, none⟩ = some (.string (nm x)) ∧ W.cell? ⟨X, 0, none⟩ = some (I (s'.most : Int)) ∧ W.cell? ⟨X, 1, none⟩ = some (I (s'.room : Int)) ∧ W.cell? ⟨X, 2, none⟩ = some (.slice AL' nL' cL') ∧ (convert 30 9 (.slice A10 N c10)).run Try.prog W = .ok (.string (str D)) W ∧ (convert 30 9 (.slice A11 N c11)).run Try.prog W = .ok (.string (str D)) W := fun W hb => by
          have hx := Cel.on P11.x hb
          refine ⟨?_, Cel_c0 hx, Cel_c1 hx, Cel_c2 hx, d10.conv HN.out hb, d11.conv HN.out hb⟩
          have := (Cel.on X11 hb).cell 1
          simpa using this
        obtain ⟨Mo, hMo⟩ : ∃ Mo, Mo = s'.most := ⟨_, rfl⟩
        obtain ⟨Ro, hRo⟩ : ∃ Ro, Ro = s'.room := ⟨_, rfl⟩
        rw [← hMo, ← hRo] at hSS hrf hnm2
        have hb0 : Below w11.heap.size w11 w11.drew := drewN_below w11 1
        have j1 : ((E : Int) != (E : Int)) = false := by simp
        have j2 : ((G : Int) != (G : Int)) = false := by simp
        have j3 : (B != B) = false := by simp
        have j4 : ((str D).toList == (str D).toList) = true := by simp
        have j5 : (R != R) = false := by simp
        have HP11 := Lib.hid P11
        have HX11 := Lib.hid X11
        clear hMo hRo hB hR hNL hok P11 X11 d10 d11 hnL
        go_upto_region 27 with fail
        refine wp_region_held_drew (S := (fun W => W.cell? ⟨Y, 1, none⟩ = some (.string (nm x)) ∧ W.cell? ⟨X, 0, none⟩ = some (I (Mo : Int)) ∧ W.cell? ⟨X, 1, none⟩ = some (I (Ro : Int)) ∧ W.cell? ⟨X, 2, none⟩ = some (.slice AL' nL' cL') ∧ (convert 30 9 (.slice A10 N c10)).run Try.prog W = .ok (.string (str D)) W ∧ (convert 30 9 (.slice A11 N c11)).run Try.prog W = .ok (.string (str D)) W)) (by kernel_rfl) (hSS _ hb0) (fun hHeld => ?_)
        refine wpAnyH_here 0 (v := ?_) rfl (by kernel_rfl) (by kernel_rfl) (by kernel_rfl) (fun _ _ _ h => h) (Or.inl ⟨by rfl, ?_⟩) hHeld ?_
        rotate_left
        · intro w hSw; (try dsimp only at hSw); go_simp; all_goals (with_reducible rfl)
        try simp only [Act.put, List.setIfInBounds_toArray, List.set_cons_zero, List.set_cons_succ]
        refine wpAnyH_here 1 (v := ?_) rfl (by kernel_rfl) (by kernel_rfl) (by kernel_rfl) (fun _ _ _ h => h) (Or.inl ⟨by rfl, ?_⟩) hHeld ?_
        rotate_left
        · intro w hSw; (try dsimp only at hSw); go_simp; all_goals (with_reducible rfl)
        try simp only [Act.put, List.setIfInBounds_toArray, List.set_cons_zero, List.set_cons_succ]
        refine wpAnyH_here 3 (v := ?_) rfl (by kernel_rfl) (by kernel_rfl) (by kernel_rfl) (fun _ _ _ h => h) (Or.inl ⟨by rfl, ?_⟩) hHeld ?_
        rotate_left
        · intro w hSw; (try dsimp only at hSw); go_simp; all_goals (with_reducible rfl)
        try simp only [Act.put, List.setIfInBounds_toArray, List.set_cons_zero, List.set_cons_succ]
        refine wpAnyH_here 4 (v := ?_) rfl (by kernel_rfl) (by kernel_rfl) (by kernel_rfl) (fun _ _ _ h => h) (Or.inl ⟨by rfl, ?_⟩) hHeld ?_
        rotate_left
        · intro w hSw; (try dsimp only at hSw); go_simp; all_goals (with_reducible rfl)
        try simp only [Act.put, List.setIfInBounds_toArray, List.set_cons_zero, List.set_cons_succ]
        refine wpAnyH_alone 2 rfl (by kernel_rfl) (fun K hK => ?_)
        go_simp
        (go_at_call 17; refine (hna _).mono ?_; rintro e w12 ⟨rfl, rfl⟩)
        refine hK.out _ _ (hSS _ hb0) (fun hHeld => ?_)
        clear hK K
        try simp only [Act.put, List.setIfInBounds_toArray, List.set_cons_zero, List.set_cons_succ]
        refine wpAnyH_alone 5 rfl (by kernel_rfl) (fun K hK => ?_)
        go_simp
        (go_at_call 18; refine (hrn _).mono ?_; rintro e w12 ⟨rfl, rfl⟩)
        refine hK.out _ _ (hSS _ hb0) (fun hHeld => ?_)
        clear hK K
        try simp only [Act.put, List.setIfInBounds_toArray, List.set_cons_zero, List.set_cons_succ]
        refine wpAnyH_here 6 (v := ?_) rfl (by kernel_rfl) (by kernel_rfl) (by kernel_rfl) (fun _ _ _ h => h) (Or.inl ⟨by rfl, ?_⟩) hHeld ?_
        rotate_left
        · intro w hSw; (try dsimp only at hSw); go_simp; all_goals (with_reducible rfl)
        try simp only [Act.put, List.setIfInBounds_toArray, List.set_cons_zero, List.set_cons_succ]
        refine wpAnyH_here 7 (v := ?_) rfl (by kernel_rfl) (by kernel_rfl) (by kernel_rfl) (fun _ _ _ h => h) (Or.inl ⟨by rfl, ?_⟩) hHeld ?_
        rotate_left
        · intro w hSw; (try dsimp only at hSw); go_simp; all_goals (with_reducible rfl)
        try simp only [Act.put, List.setIfInBounds_toArray, List.set_cons_zero, List.set_cons_succ]
        refine wpAnyH_here 8 (v := ?_) rfl (by kernel_rfl) (by kernel_rfl) (by kernel_rfl) (fun _ _ _ h => h) (Or.inl ⟨by rfl, ?_⟩) hHeld ?_
        rotate_left
        · intro w hSw; (try dsimp only at hSw); go_simp; all_goals (with_reducible rfl)
        try simp only [Act.put, List.setIfInBounds_toArray, List.set_cons_zero, List.set_cons_succ]
        refine wpAnyH_here 9 (v := ?_) rfl (by kernel_rfl) (by kernel_rfl) (by kernel_rfl) (fun _ _ _ h => h) (Or.inl ⟨by rfl, ?_⟩) hHeld ?_
        rotate_left
        · intro w hSw; (try dsimp only at hSw); go_simp; all_goals (with_reducible rfl)
        try simp only [Act.put, List.setIfInBounds_toArray, List.set_cons_zero, List.set_cons_succ]
        refine wpAnyH_here 10 (v := ?_) rfl (by kernel_rfl) (by kernel_rfl) (by kernel_rfl) (fun _ _ _ h => h) (Or.inl ⟨by rfl, ?_⟩) hHeld ?_
        rotate_left
        · intro w hSw; (try dsimp only at hSw); go_simp; all_goals (with_reducible rfl)
        try simp only [Act.put, List.setIfInBounds_toArray, List.set_cons_zero, List.set_cons_succ]
        refine wpAnyH_here 11 (v := ?_) rfl (by kernel_rfl) (by kernel_rfl) (by kernel_rfl) (fun _ _ _ h => h) (Or.inl ⟨by rfl, ?_⟩) hHeld ?_
        rotate_left
        · intro w hSw; (try dsimp only at hSw); go_simp; all_goals (with_reducible rfl)
        try simp only [Act.put, List.setIfInBounds_toArray, List.set_cons_zero, List.set_cons_succ]
        refine wpAnyH_here 12 (v := ?_) rfl (by kernel_rfl) (by kernel_rfl) (by kernel_rfl) (fun _ _ _ h => h) (Or.inl ⟨by rfl, ?_⟩) hHeld ?_
        rotate_left
        · intro w hSw; (try dsimp only at hSw); go_simp; all_goals (with_reducible rfl)
        try simp only [Act.put, List.setIfInBounds_toArray, List.set_cons_zero, List.set_cons_succ]
        refine wpAnyH_here 13 (v := ?_) rfl (by kernel_rfl) (by kernel_rfl) (by kernel_rfl) (fun _ _ _ h => h) (Or.inl ⟨by rfl, ?_⟩) hHeld ?_
        rotate_left
        · intro w hSw; (try dsimp only at hSw); go_simp; all_goals (with_reducible rfl)
        try simp only [Act.put, List.setIfInBounds_toArray, List.set_cons_zero, List.set_cons_succ]
        refine wpAnyH_here 14 (v := ?_) rfl (by kernel_rfl) (by kernel_rfl) (by kernel_rfl) (fun _ _ _ h => h) (Or.inl ⟨by rfl, ?_⟩) hHeld ?_
        rotate_left
        · intro w hSw; (try dsimp only at hSw); go_simp; all_goals (with_reducible rfl)
        try simp only [Act.put, List.setIfInBounds_toArray, List.set_cons_zero, List.set_cons_succ]
        refine wpAnyH_here 15 (v := ?_) rfl (by kernel_rfl) (by kernel_rfl) (by kernel_rfl) (fun _ _ _ h => h) (Or.inl ⟨by rfl, ?_⟩) hHeld ?_
        rotate_left
        · intro w hSw; (try dsimp only at hSw); go_simp; all_goals (with_reducible rfl)
        try simp only [Act.put, List.setIfInBounds_toArray, List.set_cons_zero, List.set_cons_succ]
        refine wpAnyH_here 16 (v := ?_) rfl (by kernel_rfl) (by kernel_rfl) (by kernel_rfl) (fun _ _ _ h => h) (Or.inl ⟨by rfl, ?_⟩) hHeld ?_
        rotate_left
        · intro w hSw; (try dsimp only at hSw); go_simp; all_goals (with_reducible rfl)
        try simp only [Act.put, List.setIfInBounds_toArray, List.set_cons_zero, List.set_cons_succ]
        refine wpAnyH_here 17 (v := ?_) rfl (by kernel_rfl) (by kernel_rfl) (by kernel_rfl) (fun _ _ _ h => h) (Or.inl ⟨by rfl, ?_⟩) hHeld ?_
        rotate_left
        · intro w hSw; (try dsimp only at hSw); go_simp; all_goals (with_reducible rfl)
        try simp only [Act.put, List.setIfInBounds_toArray, List.set_cons_zero, List.set_cons_succ]
        refine wpAnyH_here 18 (v := ?_) rfl (by kernel_rfl) (by kernel_rfl) (by kernel_rfl) (fun _ _ _ h => h) (Or.inl ⟨by rfl, ?_⟩) hHeld ?_
        rotate_left
        · intro w hSw; (try dsimp only at hSw); go_simp; all_goals (with_reducible rfl)
        try simp only [Act.put, List.setIfInBounds_toArray, List.set_cons_zero, List.set_cons_succ]
        refine wpAnyH_here 19 (v := ?_) rfl (by kernel_rfl) (by kernel_rfl) (by kernel_rfl) (fun _ _ _ h => h) (Or.inl ⟨by rfl, ?_⟩) hHeld ?_
        rotate_left
        · intro w hSw; (try dsimp only at hSw); go_simp; all_goals (with_reducible rfl)
        try simp only [Act.put, List.setIfInBounds_toArray, List.set_cons_zero, List.set_cons_succ]
        refine wpAnyH_here 20 (v := ?_) rfl (by kernel_rfl) (by kernel_rfl) (by kernel_rfl) (fun _ _ _ h => h) (Or.inl ⟨by rfl, ?_⟩) hHeld ?_
        rotate_left
        · intro w hSw; (try dsimp only at hSw); go_simp; all_goals (with_reducible rfl)
        try simp only [Act.put, List.setIfInBounds_toArray, List.set_cons_zero, List.set_cons_succ]
        refine wpAnyH_here 21 (v := ?_) rfl (by kernel_rfl) (by kernel_rfl) (by kernel_rfl) (fun _ _ _ h => h) (Or.inl ⟨by rfl, ?_⟩) hHeld ?_
        rotate_left
        · intro w hSw; (try dsimp only at hSw); go_simp; all_goals (with_reducible rfl)
        try simp only [Act.put, List.setIfInBounds_toArray, List.set_cons_zero, List.set_cons_succ]
        refine wpAnyH_here 22 (v := ?_) rfl (by kernel_rfl) (by kernel_rfl) (by kernel_rfl) (fun _ _ _ h => h) (Or.inl ⟨by rfl, ?_⟩) hHeld ?_
        rotate_left
        · intro w hSw; (try dsimp only at hSw); go_simp; all_goals (with_reducible rfl)
        try simp only [Act.put, List.setIfInBounds_toArray, List.set_cons_zero, List.set_cons_succ]
        refine wpAnyH_here 23 (v := ?_) rfl (by kernel_rfl) (by kernel_rfl) (by kernel_rfl) (fun _ _ _ h => h) (Or.inl ⟨by rfl, ?_⟩) hHeld ?_
        rotate_left
        · intro w hSw; (try dsimp only at hSw); go_simp; all_goals (with_reducible rfl)
        try simp only [Act.put, List.setIfInBounds_toArray, List.set_cons_zero, List.set_cons_succ]
        refine wpAnyH_here 24 (v := ?_) rfl (by kernel_rfl) (by kernel_rfl) (by kernel_rfl) (fun _ _ _ h => h) (Or.inl ⟨by rfl, ?_⟩) hHeld ?_
        rotate_left
        · intro w hSw; (try dsimp only at hSw); go_simp; all_goals (with_reducible rfl)
        try simp only [Act.put, List.setIfInBounds_toArray, List.set_cons_zero, List.set_cons_succ]
        refine wpAnyH_here 25 (v := ?_) rfl (by kernel_rfl) (by kernel_rfl) (by kernel_rfl) (fun _ _ _ h => h) (Or.inl ⟨by rfl, ?_⟩) hHeld ?_
        rotate_left
        · intro w hSw; (try dsimp only at hSw); go_simp; all_goals (with_reducible rfl)
        try simp only [Act.put, List.setIfInBounds_toArray, List.set_cons_zero, List.set_cons_succ]
        refine wpAnyH_here 27 (v := ?_) rfl (by kernel_rfl) (by kernel_rfl) (by kernel_rfl) (fun _ _ _ h => h) (Or.inl ⟨by rfl, ?_⟩) hHeld ?_
        rotate_left
        · intro w hSw; (try dsimp only at hSw); go_simp; all_goals (with_reducible rfl)
        try simp only [Act.put, List.setIfInBounds_toArray, List.set_cons_zero, List.set_cons_succ]
        refine wpAnyH_alone 26 rfl (by kernel_rfl) (fun K hK => ?_)
        go_simp
        (go_at_call 19; refine (hfr _ hb0).mono ?_; rintro e w13 ⟨rfl, _, hb13'⟩; have hb13 := hb0.trans (hb13'.mono hb0.size))
        refine hK.out _ _ (hSS _ hb13) (fun hHeld => ?_)
        clear hK K
        try simp only [Act.put, List.setIfInBounds_toArray, List.set_cons_zero, List.set_cons_succ]
        refine wpAnyH_alone 28 rfl (by kernel_rfl) (fun K hK => ?_)
        go_simp
        (go_at_call 20; refine (hrf _ hb13).mono ?_; rintro e w14 ⟨rfl, hb14'⟩; have hb14 := hb13.trans (hb14'.mono hb13.size))
        refine hK.out _ _ (hSS _ hb14) (fun hHeld => ?_)
        clear hK K
        try simp only [Act.put, List.setIfInBounds_toArray, List.set_cons_zero, List.set_cons_succ]
        refine wpAnyH_here 29 (v := ?_) rfl (by kernel_rfl) (by kernel_rfl) (by kernel_rfl) (fun _ _ _ h => h) (Or.inl ⟨by rfl, ?_⟩) hHeld ?_
        rotate_left
        · intro w hSw; (try dsimp only at hSw); go_simp; all_goals (with_reducible rfl)
        try simp only [Act.put, List.setIfInBounds_toArray, List.set_cons_zero, List.set_cons_succ]
        refine wpAnyH_here 30 (v := ?_) rfl (by kernel_rfl) (by kernel_rfl) (by kernel_rfl) (fun _ _ _ h => h) (Or.inl ⟨by rfl, ?_⟩) hHeld ?_
        rotate_left
        · intro w hSw; (try dsimp only at hSw); go_simp; all_goals (with_reducible rfl)
        try simp only [Act.put, List.setIfInBounds_toArray, List.set_cons_zero, List.set_cons_succ]
        refine wpAnyH_here 31 (v := ?_) rfl (by kernel_rfl) (by kernel_rfl) (by kernel_rfl) (fun _ _ _ h => h) (Or.inl ⟨by rfl, ?_⟩) hHeld ?_
        rotate_left
        · intro w hSw; (try dsimp only at hSw); go_simp; all_goals (with_reducible rfl)
        try simp only [Act.put, List.setIfInBounds_toArray, List.set_cons_zero, List.set_cons_succ]
        refine wpAnyH_here 32 (v := ?_) rfl (by kernel_rfl) (by kernel_rfl) (by kernel_rfl) (fun _ _ _ h => h) (Or.inl ⟨by rfl, ?_⟩) hHeld ?_
        rotate_left
        · intro w hSw; (try dsimp only at hSw); go_simp; all_goals (with_reducible rfl)
        try simp only [Act.put, List.setIfInBounds_toArray, List.set_cons_zero, List.set_cons_succ]
        refine wpAnyH_here 34 (v := ?_) rfl (by kernel_rfl) (by kernel_rfl) (by kernel_rfl) (fun _ _ _ h => h) (Or.inl ⟨by rfl, ?_⟩) hHeld ?_
        rotate_left
        · intro w hSw; (try dsimp only at hSw); go_simp; all_goals (with_reducible rfl)
        try simp only [Act.put, List.setIfInBounds_toArray, List.set_cons_zero, List.set_cons_succ]
        refine wpAnyH_alone 33 rfl (by kernel_rfl) (fun K hK => ?_)
        go_simp
        (go_at_call 22; refine (hnm1 _ hb14).mono ?_; rintro e w15 ⟨A15, c15, rfl, _, hr15, hb15'⟩; have hb15 := hb14.trans (hb15'.mono hb14.size))
        refine hK.out _ _ (hSS _ hb15) (fun hHeld => ?_)
        clear hK K
        try simp only [Act.put, List.setIfInBounds_toArray, List.set_cons_zero, List.set_cons_succ]
        refine wpAnyH_alone 35 rfl (by kernel_rfl) (fun K hK => ?_)
        go_simp
        (go_at_call 23; refine (hnm2 _ hb15).mono ?_; rintro e w16 ⟨v16, rfl, ho16, hb16'⟩; obtain ⟨A16, c16, rfl, hr16, _⟩ := ho16.reads_len sen_ok hNN; have hb16 := hb15.trans (hb16'.mono hb15.size))
        refine hK.out _ _ (hSS _ hb16) (fun hHeld => ?_)
        clear hK K
        try simp only [Act.put, List.setIfInBounds_toArray, List.set_cons_zero, List.set_cons_succ]
        refine wpAnyH_alone 36 rfl (by kernel_rfl) (fun K hK => ?_)
        go_simp
        (go_at_call 21; refine (texts_any _ A15 A16 NN c15 c16 NL hNN ((hr15.below hb16').more hb16'.size) hr16 hNN2).mono ?_; rintro e w17 ⟨rfl, hb17'⟩; have hb17 := hb16.trans (hb17'.mono hb16.size))
        refine hK.out _ _ (hSS _ hb17) (fun hHeld => ?_)
        clear hK K
        try simp only [Act.put, List.setIfInBounds_toArray, List.set_cons_zero, List.set_cons_succ]
        refine wpAnyH_here 37 (v := ?_) rfl (by kernel_rfl) (by kernel_rfl) (by kernel_rfl) (fun _ _ _ h => h) (Or.inl ⟨by rfl, ?_⟩) hHeld ?_
        rotate_left
        · intro w hSw; (try dsimp only at hSw); go_simp; all_goals (with_reducible rfl)
        try simp only [Act.put, List.setIfInBounds_toArray, List.set_cons_zero, List.set_cons_succ]
        refine wpAnyH_here 38 (v := ?_) rfl (by kernel_rfl) (by kernel_rfl) (by kernel_rfl) (fun _ _ _ h => h) (Or.inl ⟨by rfl, ?_⟩) hHeld ?_
        rotate_left
        · intro w hSw; (try dsimp only at hSw); go_simp; all_goals (with_reducible rfl)
        try simp only [Act.put, List.setIfInBounds_toArray, List.set_cons_zero, List.set_cons_succ]
        refine wpAnyH_done (by kernel_rfl) ?_ _
        have HPF := Lib.hid (HP11.out.later hb17)
        clear hb0 hb13 hb14 hb15 hb16 hb17 hb13' hb14' hb15' hb16' hb17' hSS hfr hrf hnm1 hnm2 hna hrn hr15 hr16 ho16
        go_wp2
        go_roundw
        case rel => exact ⟨k + 1, g', b', s', AL', nL', cL', HK.out, rfl, by simp, HPF⟩
        case measure => have := HK.out; simp [intOf]; omega
    · obtain rfl : k = n := by omega
      have B := Lib.hid HP.out.p.bel
      clear HP hkn
      go_wp2_with fail
      refine (hal wr).mono ?_
      rintro e wz ⟨rfl, bz⟩
      go_wp2
      go_ret
      exact ⟨rfl, B.out.trans (bz.mono B.out.size)⟩
end Go.Proofs.Ytbeekfbcflmemaa.Fil
