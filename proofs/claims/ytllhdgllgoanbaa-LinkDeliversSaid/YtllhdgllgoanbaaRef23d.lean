/-
  The reference of layer 23: Receive.
-/
import Derived.Test.YtllhdgllgoanbaaRef23c
import Derived.Test.YtllhdgllgoanbaaLnkW5
namespace Go.Proofs.Ytllhdgllgoanbaa.Lnk
open Go.RowKit Go.Proofs.Ytllhdgllgoanbaa.Row
open Rng (R)
open Lst (Qb)

def sLen : Value → Nat
  | .slice _ n _ => n
  | _ => 0
theorem Sq.tail {w : World} {b off n c : Nat} {x : Tq} {l : List Tq} (h : Sq encT 2 w (some ⟨b, off, none⟩) n c (x :: l)) : Sq encT 2 w (if c = 1 then some ⟨b, off, none⟩ else some ⟨b, off + 2, none⟩) (n - 1) (c - 1) l := by
  obtain ⟨h1, h2, h3, h4, h5⟩ := h
  simp only [List.length_cons] at h2
  refine ⟨fun hl => ?_, by omega, (fun e => by split at e <;> cases e), by omega, by omega⟩
  obtain ⟨b', off', e, hb, hc⟩ := h1 (by simp)
  injection e with e
  injection e with e1 e2
  subst e1 e2
  rw [if_neg (by omega)]
  refine ⟨b, off + 2, rfl, hb, fun i y hy j u hu => ?_⟩
  have := hc (i + 1) y (by simpa using hy) j u hu
  rw [show off + 2 + i * 2 + j = off + (i + 1) * 2 + j by omega]
  exact this
theorem xrecv_results {tmps : Array Value} {W : World} {g : Nat} {u0 u1 u2 u3 u4 u5 u6 v : Value} (h2 : tmps.getD 4 undef = .pointer (some ⟨g, 0, none⟩)) (h3 : tmps.getD 5 undef = v)
    (hC : Cel W g 36 #[u0, u1, u2, u3, u4, u5, u6]) :
    (results Try.f14 tmps).run Try.prog W = .ok (.tuple #[.agg #[u0, u1, u2, u3, u4, u5, u6], v]) W := by
  have c0 := hC.cell 0
  have c1 := hC.cell 1
  have c2 := hC.cell 2
  have c3 := hC.cell 3
  have c4 := hC.cell 4
  have c5 := hC.cell 5
  have c6 := hC.cell 6
  simp at c0 c1 c2 c3 c4 c5 c6
  simp only [Array.getD_eq_getD_getElem?] at h2 h3
  simp [results, Try.results14, go_sem, h2, h3, c0, c1, c2, c3, c4, c5, c6]

section
variable {c : Cf} {Ao Al Af : Option Addr} {no co nl cl nf cf : Nat} {w : World} {s : LS}
set_option maxHeartbeats 4000000 in
set_option maxRecDepth 100000 in
theorem xrecv_any (dl : Int) {N : Nat} (hs : s.Ok N) (hN : N ≤ 100000) {AL : Option Addr} {nL cL : Nat} (hL : Fq w AL nL cL s.wt) (now : Int) :
    Calls Try.prog 14 #[.agg #[I dl, .slice Ao no co, .slice Al nl cl, .slice Af nf cf, I s.tm, I (s.sn : Int), .slice AL nL cL], I now] w fun e w' => (∃ A' n' c' vr, e = .returned (.tuple #[.agg #[I dl, .slice Ao no co, .slice Al nl cl, .slice Af nf cf, I (rcS now s).tm, I ((rcS now s).sn : Int), .slice A' n' c'], vr]) ∧ Fq w' A' n' c' (rcS now s).wt ∧ Ls w' w.heap.size vr (rcO now s)) ∧ Below w.heap.size w w' := by
  obtain ⟨S', hS'⟩ : ∃ S', S' = rcS now s := ⟨_, rfl⟩
  obtain ⟨O', hO'⟩ : ∃ O', O' = rcO now s := ⟨_, rfl⟩
  rw [← hS', ← hO']
  unfold rcS at hS'
  unfold rcO at hO'
  obtain ⟨sn, hsn⟩ : ∃ sn, sn = s.sn := ⟨_, rfl⟩
  obtain ⟨wt, hwt⟩ : ∃ wt, wt = s.wt := ⟨_, rfl⟩
  obtain ⟨t0, ht0⟩ : ∃ t0, t0 = s.tm := ⟨_, rfl⟩
  obtain ⟨t, ht⟩ : ∃ t, t = adv t0 now := ⟨_, rfl⟩
  have hnL : nL ≤ 100000 := by have := hs.n; have := hs.w; have := hL.len; omega
  rw [← hsn, ← hwt, ← ht0, ← ht] at hS'
  rw [← hwt, ← ht0, ← ht] at hO'
  rw [← hwt] at hL
  rw [← hsn, ← ht0]
  have HS := Lib.hid hS'
  have HO := Lib.hid hO'
  have HT := Lib.hid ht
  obtain ⟨ts, hts, hsq, hdq⟩ := hL
  have HTP := Lib.hid hts
  have HTL := Lib.hid hsq.len
  have HSL := Lib.hid hsq
  have HDQ := Lib.hid hdq
  have HWL : Hid (wt.length = nL) := Lib.hid (by rw [← hts, List.length_map]; exact hsq.len)
  clear hs hN hsn hwt ht0 hS' hO' ht hts hsq hdq
  obtain ⟨w1, hw1⟩ : ∃ w1, w1 = (w.alloc (.cells #[I dl, .slice Ao no co, .slice Al nl cl, .slice Af nf cf, I t0, I (sn : Int), .slice AL nL cL] 36)).alloc (.cells #[I 0, .slice none 0 0, .slice none 0 0, .slice none 0 0, I 0, I 0, .slice none 0 0] 36) := ⟨_, rfl⟩
  have b1 : Below w.heap.size w w1 := by rw [hw1]; exact (bel_new _ _).alloc (bel_new _ _).size _
  have X1 : Cel w1 w.heap.size 36 #[I dl, .slice Ao no co, .slice Al nl cl, .slice Af nf cf, I t0, I (sn : Int), .slice AL nL cL] := by rw [hw1]; exact Cel.on (Cel.new _ _ _) (bel_new _ _)
  have Z1 : Cel w1 (w.heap.size + 1) 36 #[I 0, .slice none 0 0, .slice none 0 0, .slice none 0 0, I 0, I 0, .slice none 0 0] := by rw [hw1]; exact Cel_at (by simp)
  have xa := xat_any (Ao := Ao) (no := no) (co := co) (Al := Al) (nl := nl) (cl := cl) (Af := Af) (nf := nf) (cf := cf) dl (sn : Int) t0 now AL nL cL w1
  rw [← HT.out] at xa
  go_enter Try.func14, Try.ntmps14
  go_wp2_with fail
  rw [← hw1]
  clear hw1
  refine xa.mono ?_
  rintro e w2 ⟨rfl, b2⟩
  have X2 := Cel.on X1 b2
  have Z2 := Cel.on Z1 b2
  have B2 := b1.trans (b2.mono b1.size)
  have e0 := X2.cell 0
  have e1 := X2.cell 1
  have e2 := X2.cell 2
  have e3 := X2.cell 3
  have e4 := X2.cell 4
  have e5 := X2.cell 5
  have e6 := X2.cell 6
  simp at e0 e1 e2 e3 e4 e5 e6
  have f0 := X2.free 0
  have f1 := X2.free 1
  have f2 := X2.free 2
  have f3 := X2.free 3
  have f4 := X2.free 4
  have f5 := X2.free 5
  have f6 := X2.free 6
  have X3 := put7_cel X2 (I dl) (.slice Ao no co) (.slice Al nl cl) (.slice Af nf cf) (I t) (I (sn : Int)) (.slice AL nL cL)
  have B3 := put7_below B2 (Nat.le_refl _) (I dl) (.slice Ao no co) (.slice Al nl cl) (.slice Af nf cf) (I t) (I (sn : Int)) (.slice AL nL cL)
  have Z3 := Z2.only (put7_only w2 w.heap.size (I dl) (.slice Ao no co) (.slice Al nl cl) (.slice Af nf cf) (I t) (I (sn : Int)) (.slice AL nL cL)) (by simp)
  obtain ⟨w3, hw3⟩ : ∃ w3, w3 = put7 w2 w.heap.size (I dl) (.slice Ao no co) (.slice Al nl cl) (.slice Af nf cf) (I t) (I (sn : Int)) (.slice AL nL cL) := ⟨_, rfl⟩
  rw [← hw3] at X3 B3 Z3
  unfold put7 at hw3
  clear b1 b2 X1 X2 Z1 Z2 B2 xa
  go_upto_region 2 with fail
  rw [← hw3]
  clear hw3 e0 e1 e2 e3 e4 e5 e6 f0 f1 f2 f3 f4 f5 f6
  go_wp2_with fail
  have hst : Hid (Cel w3 w.heap.size 36 #[I dl, .slice Ao no co, .slice Al nl cl, .slice Af nf cf, I t, I (sn : Int), .slice AL (nL - 0) cL] ∧ Sq encT 2 w3 AL (nL - 0) cL (ts.drop 0) ∧ Cel w3 (w.heap.size + 1) 36 #[I 0, .slice none 0 0, .slice none 0 0, .slice none 0 0, I 0, I 0, .slice none 0 0] ∧ Below w.heap.size w w3) := Lib.hid ⟨X3, HSL.out.keep (Kq.of_below B3), Z3, B3⟩
  have hz := Lib.hid (show w.heap.size + 1 < w3.heap.size from Z3.lt)
  clear X3 Z3 B3
  go_loopw [6] (fun ov wr => ∃ k : Nat, k ≤ nL ∧ (∃ Ak ck, Hid (Cel wr w.heap.size 36 #[I dl, .slice Ao no co, .slice Al nl cl, .slice Af nf cf, I t, I (sn : Int), .slice Ak (nL - k) ck] ∧ Sq encT 2 wr Ak (nL - k) ck (ts.drop k) ∧ Cel wr (w.heap.size + 1) 36 #[I 0, .slice none 0 0, .slice none 0 0, .slice none 0 0, I 0, I 0, .slice none 0 0] ∧ Below w.heap.size w wr)) ∧ (∃ Ar cr, ov = .slice Ar k cr ∧ Row.Os Lst.enc 1 wr (w.heap.size + 2) 39 (.slice Ar k cr) ((ts.take k).map (·.q))) ∧ Hid (∀ x ∈ wt.take k, x.1 ≤ t)) (fun ov _ => nL - sLen ov)
  case atStart => exact ⟨0, Nat.zero_le _, ⟨_, _, hst⟩, ⟨none, 0, rfl, Row.Os.nil_ _ _ _⟩, Lib.hid (by simp)⟩
  case round =>
    obtain ⟨k, hk, ⟨Ak, ck, HC⟩, ⟨Ar, cr, rfl, ho⟩, hle⟩ := hrel
    clear hst
    obtain ⟨X, hsq, Z, B⟩ := HC.out
    have c4 := X.cell 4
    have c6 := X.cell 6
    simp at c4 c6
    by_cases hkn : k < nL
    · have hkl : k < ts.length := by rw [HTL.out]; exact hkn
      have hsplit : ts.drop k = ts[k] :: ts.drop (k + 1) := List.drop_eq_getElem_cons hkl
      have HT2 := Lib.hid (show (ts.take (k + 1)).map (·.q) = (ts.take k).map (·.q) ++ [ts[k].q] by rw [List.take_add_one, List.getElem?_eq_getElem hkl, List.map_append]; rfl)
      have HW := Lib.hid (show wt[k]? = some ts[k].p by rw [show wt = ts.map Tq.p from HTP.out.symm, List.getElem?_map, List.getElem?_eq_getElem hkl]; rfl)
      rw [hsplit] at hsq
      generalize ts[k] = x at hsq HT2 HW hsplit
      obtain ⟨xa, q⟩ := x
      obtain ⟨M1, hM1⟩ : ∃ M1, M1 = nL - k := ⟨_, rfl⟩
      have hM0 : 0 < M1 := by omega
      rw [← hM1] at hsq c6 X
      obtain ⟨bf, off, rfl, hbf, hcc⟩ := hsq.r (by simp)
      have e0 : wr.cell? ⟨bf, off, none⟩ = some (I xa) := by simpa using hcc 0 _ rfl 0 _ rfl
      have e1 : wr.cell? ⟨bf, off + 1, none⟩ = some (.slice q.a q.l.length q.c) := by simpa using hcc 0 _ rfl 1 _ rfl
      have htl := hsq.tail
      clear hcc hkl
      by_cases hx : xa ≤ t
      · have t1 : decide (xa ≤ t) = true := by simpa using hx
        have t0a : decide ((0 : Int) < (M1 : Int)) = true := by simp; omega
        have t0b : decide (0 < M1) = true := by simp; omega
        have t0c : (0 : Int) < (M1 : Int) := by omega
        have hck := hsq.le
        have hcm := hsq.max
        unfold maxLen at hcm
        have HX := Lib.hid hx
        have HM := Lib.hid hM1
        have hB0 := Lib.hid B.size
        have b4 := fun q' : Nat => (drewN_below wr q').trans (show Below wr.heap.size (wr.drewN q') _ from bel_new (wr.drewN q') (.cells #[.slice q.a q.l.length q.c] 39))
        clear hx hM1
        go_wp2_with fail
        go_quiet (fail)
        have ho4 := ho.below (b4 nq)
        have rs4 : Row.Rs Lst.enc 1 ((wr.drewN nq).alloc (.cells #[.slice q.a q.l.length q.c] 39)) (wr.heap.size + 1) (some ⟨wr.heap.size, 0, none⟩) [q] := Row.Rs_new1 Lst.enc_ok (wr.drewN nq) _ q _ rfl
        have hl4 : ((ts.take k).map (·.q)).length = k := by rw [List.length_map, List.length_take, HTL.out]; omega
        have hb4 : w.heap.size + 2 ≤ ((wr.drewN nq).alloc (.cells #[.slice q.a q.l.length q.c] 39)).heap.size := Nat.le_trans Z.lt (b4 nq).size
        have X4 := Cel.on X (b4 nq)
        have Z4 := Cel.on Z (b4 nq)
        have sq4 := htl.keep (Kq.of_below (b4 nq))
        have B4 := B.trans ((b4 nq).mono B.size)
        obtain ⟨A3, hA3⟩ : ∃ A3, (if ck = 1 then (some ⟨bf, off, none⟩ : Option Addr) else some ⟨bf, off + 2, none⟩) = A3 := ⟨_, rfl⟩
        rw [hA3] at sq4
        obtain ⟨M, hM⟩ : ∃ M, M1 - 1 = M := ⟨_, rfl⟩
        obtain ⟨c3, hc3⟩ : ∃ c3, ck - 1 = c3 := ⟨_, rfl⟩
        rw [hM, hc3] at sq4
        have h1M : (1 : Int) ≤ (M1 : Int) := by omega
        have HM2 : Hid (M = nL - (k + 1)) := Lib.hid (by have := HM.out; omega)
        have HSQ := Lib.hid sq4
        clear sq4 htl hsq B HC
        go_wp2_with (at_builtin; refine Row.wpList_row _ Lst.enc_ok is_lists (by decide) rfl (.tmp 24) (.tmp 30) rfl (v := Value.slice Ar k cr) rfl ho4 (l := [q]) (n := 1) (A := some ⟨wr.heap.size, 0, none⟩) (c := 1) rfl rfl rs4 (fun h => nomatch h) (by rw [hl4]; simp; omega) hb4 ?_; intro v5 w5 own5 gr5 hv5; rw [← HT2.out] at own5; (obtain ⟨A5, c5', rfl, _⟩ := own5.reads_len (n := k + 1) Lst.enc_ok (by rw [List.length_map, List.length_take]; have := HTL.out; omega)); have hlt4 := ho4.lt; have X5 := X4.only (Only.of_grown gr5) (fun hm => by have := hlt4 _ (by simpa using hm); omega); have Z5 := Z4.only (Only.of_grown gr5) (fun hm => by have := hlt4 _ (by simpa using hm); omega); have x56 := X5.cell 6; have f56 := X5.free 6; simp at x56)
        have hr4 : ∀ x ∈ (Value.slice Ar k cr).ownBlock.toList, ∀ t cs, Cel ((wr.drewN nq).alloc (.cells #[.slice q.a q.l.length q.c] 39)) x t cs → ¬ Fx t := fun x hx => by
          obtain ⟨cs, hc⟩ := Lst.own_cel ho4 (by simpa using hx)
          exact not_fx hc (by decide)
        have k6 : Only [w.heap.size] w5 (w5.setCell ⟨w.heap.size, 6, none⟩ (.slice A3 M c3)) := (Only.refl _ _).put (.inl (by simp)) _
        have q6 : Kq w5 (w5.setCell ⟨w.heap.size, 6, none⟩ (.slice A3 M c3)) := .of_only k6 (fun x hx => by rw [List.mem_singleton.1 hx]; exact not_fx X5 (by decide))
        have B5 := B4.grown gr5 B4.size (fun i hi => by have := (hlt4 i hi).1; omega)
        have X6 := X5.put 6 (.slice A3 M c3)
        have sq6 := HSQ.out.keep ((Kq.of_only (Only.of_grown gr5) hr4).trans q6)
        rw [HM2.out] at X6 sq6 k6 ⊢
        refine ⟨⟨k + 1, hkn, ⟨A3, c3, Lib.hid ⟨X6, sq6, Z5.only k6 (by simp), B5.trans (k6.below B5.size (by simp))⟩⟩, ⟨_, _, rfl, Row.Os.only own5 k6 (fun i hi hm => by have := (own5.lt i hi).1; rw [List.mem_singleton.1 hm] at this; omega)⟩, Lib.hid ?_⟩, by show nL - (k + 1) < nL - k; omega⟩
        intro y hy
        rw [List.take_add_one, HW.out] at hy
        rcases List.mem_append.1 hy with hy | hy
        · exact hle.out y hy
        · rw [List.mem_singleton.1 hy]; exact HX.out
      · have t1 : decide (xa ≤ t) = false := by simpa using hx
        have HB : Hid (k = wt.length ∨ ∃ x, wt[k]? = some x ∧ t < x.1) := Lib.hid (.inr ⟨_, HW.out, by show t < xa; omega⟩)
        have t0a : decide ((0 : Int) < (M1 : Int)) = true := by simp; omega
        have t0b : decide (0 < M1) = true := by simp; omega
        have t0c : (0 : Int) < (M1 : Int) := by omega
        have hck := hsq.le
        have hcm := hsq.max
        unfold maxLen at hcm
        have HSP := Lib.hid (show ts.drop k = ⟨xa, q⟩ :: ts.drop (k + 1) from hsplit)
        have HQ0 := Lib.hid (And.intro hsq (And.intro Z B))
        have HXX := Lib.hid (And.intro X (And.intro hM1 ho))
        clear hx X Z B hsq htl hM1 ho HC
        go_wp2_with fail
        go_quiet (fail)
        obtain ⟨W5, hW5⟩ : ∃ W5, W5 = wr.drewN nq := ⟨_, rfl⟩
        have b5 : Below wr.heap.size wr W5 := by rw [hW5]; exact drewN_below _ _
        rw [← hW5]
        clear hW5 t1 t0a t0b t0c c4 c6 e0 e1
        obtain ⟨X, hM1, ho⟩ := HXX.out
        obtain ⟨hsq, Z, B⟩ := HQ0.out
        rw [hM1] at X hsq
        rw [← HSP.out] at hsq
        obtain ⟨Ak, hAk⟩ : ∃ Ak, Ak = some (⟨bf, off, none⟩ : Addr) := ⟨_, rfl⟩
        rw [← hAk] at X hsq
        have X5 := Cel.on X b5
        have Z5 := Cel.on Z b5
        have sq5 := hsq.keep (Kq.of_below b5)
        have ho5 := ho.below b5
        have B5 := B.trans (b5.mono B.size)
        clear X Z hsq ho B hM1 hAk HXX HQ0 HSP b5
        have hrn : rn t wt = k := rn_at hle.out HB.out (by have := HWL.out; omega)
        have HS2 : Hid (S' = ⟨t, sn, wt.drop k⟩) := Lib.hid (by rw [HS.out, hrn])
        have HO2 : Hid (O' = (wt.take k).map (·.2)) := Lib.hid (by rw [HO.out, hrn])
        have K9 := put7_only W5 (w.heap.size + 1) (I dl) (.slice Ao no co) (.slice Al nl cl) (.slice Af nf cf) (I t) (I (sn : Int)) (.slice Ak (nL - k) ck)
        have Q9 := Kq.of_only K9 (fun x hx => by rw [List.mem_singleton.1 hx]; exact not_fx Z5 (by decide))
        have HFq : Hid (Fq (put7 W5 (w.heap.size + 1) (I dl) (.slice Ao no co) (.slice Al nl cl) (.slice Af nf cf) (I t) (I (sn : Int)) (.slice Ak (nL - k) ck)) Ak (nL - k) ck (wt.drop k)) := Lib.hid ⟨ts.drop k, by rw [List.map_drop, HTP.out], sq5.keep Q9, fun y hy => (HDQ.out y (List.mem_of_mem_drop hy)).keep ((Kq.of_below B5).trans Q9)⟩
        have HLs : Hid (Ls (put7 W5 (w.heap.size + 1) (I dl) (.slice Ao no co) (.slice Al nl cl) (.slice Af nf cf) (I t) (I (sn : Int)) (.slice Ak (nL - k) ck)) w.heap.size (.slice Ar k cr) O') := Lib.hid ⟨(ts.take k).map (·.q), by
          rw [HO2.out, ← HTP.out, ← List.map_take, List.map_map, List.map_map]
          rfl, (Row.Os.only ho5 K9 (fun i hi hm => by have := (ho5.lt i hi).1; rw [List.mem_singleton.1 hm] at this; omega)).more (by omega), fun y hy => by
          obtain ⟨z, hz, rfl⟩ := List.mem_map.1 hy
          exact (HDQ.out z (List.mem_of_mem_take hz)).keep ((Kq.of_below B5).trans Q9)⟩
        have HB9 := Lib.hid (put7_below B5 (by omega : w.heap.size ≤ w.heap.size + 1) (I dl) (.slice Ao no co) (.slice Al nl cl) (.slice Af nf cf) (I t) (I (sn : Int)) (.slice Ak (nL - k) ck))
        have HZ9 := Lib.hid Z5
        obtain ⟨NK, hNK⟩ : ∃ NK, nL - k = NK := ⟨_, rfl⟩
        rw [hNK] at HFq HLs HB9 X5
        have z0 := Z5.cell 0
        have z1 := Z5.cell 1
        have z2 := Z5.cell 2
        have z3 := Z5.cell 3
        have z4 := Z5.cell 4
        have z5 := Z5.cell 5
        have z6 := Z5.cell 6
        simp at z0 z1 z2 z3 z4 z5 z6
        have y0 := Z5.free 0
        have y1 := Z5.free 1
        have y2 := Z5.free 2
        have y3 := Z5.free 3
        have y4 := Z5.free 4
        have y5 := Z5.free 5
        have y6 := Z5.free 6
        have x0 := X5.cell 0
        have x1 := X5.cell 1
        have x2 := X5.cell 2
        have x3 := X5.cell 3
        have x4 := X5.cell 4
        have x5 := X5.cell 5
        have x6 := X5.cell 6
        simp at x0 x1 x2 x3 x4 x5 x6
        clear hrn K9 Q9 X5 Z5 B5 sq5 ho5 HB hle hNK
        go_wp2_with fail
        exact bodyPost_ret (xrecv_results rfl rfl (put7_cel HZ9.out _ _ _ _ _ _ _)) rfl ⟨⟨_, _, _, _, (by rw [HS2.out]; rfl), by rw [HS2.out]; exact HFq.out, HLs.out⟩, HB9.out⟩
    · obtain rfl : k = nL := by omega
      have HB : Hid (k = wt.length ∨ ∃ x, wt[k]? = some x ∧ t < x.1) := Lib.hid (.inl HWL.out.symm)
      have HQ0 := Lib.hid (And.intro hsq (And.intro Z B))
      have HXX := Lib.hid (And.intro X ho)
      rw [Nat.sub_self] at c6
      clear X Z B hsq ho HC
      go_wp2_with fail
      go_quiet (fail)
      obtain ⟨W5, hW5⟩ : ∃ W5, W5 = wr.drewN nq := ⟨_, rfl⟩
      have b5 : Below wr.heap.size wr W5 := by rw [hW5]; exact drewN_below _ _
      rw [← hW5]
      clear hW5 c4 c6
      obtain ⟨X, ho⟩ := HXX.out
      obtain ⟨hsq, Z, B⟩ := HQ0.out
      have X5 := Cel.on X b5
      have Z5 := Cel.on Z b5
      have sq5 := hsq.keep (Kq.of_below b5)
      have ho5 := ho.below b5
      have B5 := B.trans (b5.mono B.size)
      clear X Z hsq ho B HXX HQ0 b5
      have hrn : rn t wt = k := rn_at hle.out HB.out (by have := HWL.out; omega)
      have HS2 : Hid (S' = ⟨t, sn, wt.drop k⟩) := Lib.hid (by rw [HS.out, hrn])
      have HO2 : Hid (O' = (wt.take k).map (·.2)) := Lib.hid (by rw [HO.out, hrn])
      have K9 := put7_only W5 (w.heap.size + 1) (I dl) (.slice Ao no co) (.slice Al nl cl) (.slice Af nf cf) (I t) (I (sn : Int)) (.slice Ak (k - k) ck)
      have Q9 := Kq.of_only K9 (fun x hx => by rw [List.mem_singleton.1 hx]; exact not_fx Z5 (by decide))
      have HFq : Hid (Fq (put7 W5 (w.heap.size + 1) (I dl) (.slice Ao no co) (.slice Al nl cl) (.slice Af nf cf) (I t) (I (sn : Int)) (.slice Ak (k - k) ck)) Ak (k - k) ck (wt.drop k)) := Lib.hid ⟨ts.drop k, by rw [List.map_drop, HTP.out], sq5.keep Q9, fun y hy => (HDQ.out y (List.mem_of_mem_drop hy)).keep ((Kq.of_below B5).trans Q9)⟩
      have HLs : Hid (Ls (put7 W5 (w.heap.size + 1) (I dl) (.slice Ao no co) (.slice Al nl cl) (.slice Af nf cf) (I t) (I (sn : Int)) (.slice Ak (k - k) ck)) w.heap.size (.slice Ar k cr) O') := Lib.hid ⟨(ts.take k).map (·.q), by
        rw [HO2.out, ← HTP.out, ← List.map_take, List.map_map, List.map_map]
        rfl, (Row.Os.only ho5 K9 (fun i hi hm => by have := (ho5.lt i hi).1; rw [List.mem_singleton.1 hm] at this; omega)).more (by omega), fun y hy => by
        obtain ⟨z, hz, rfl⟩ := List.mem_map.1 hy
        exact (HDQ.out z (List.mem_of_mem_take hz)).keep ((Kq.of_below B5).trans Q9)⟩
      have HB9 := Lib.hid (put7_below B5 (by omega : w.heap.size ≤ w.heap.size + 1) (I dl) (.slice Ao no co) (.slice Al nl cl) (.slice Af nf cf) (I t) (I (sn : Int)) (.slice Ak (k - k) ck))
      have HZ9 := Lib.hid Z5
      obtain ⟨NK, hNK⟩ : ∃ NK, k - k = NK := ⟨_, rfl⟩
      rw [hNK] at HFq HLs HB9 X5
      have z0 := Z5.cell 0
      have z1 := Z5.cell 1
      have z2 := Z5.cell 2
      have z3 := Z5.cell 3
      have z4 := Z5.cell 4
      have z5 := Z5.cell 5
      have z6 := Z5.cell 6
      simp at z0 z1 z2 z3 z4 z5 z6
      have y0 := Z5.free 0
      have y1 := Z5.free 1
      have y2 := Z5.free 2
      have y3 := Z5.free 3
      have y4 := Z5.free 4
      have y5 := Z5.free 5
      have y6 := Z5.free 6
      have x0 := X5.cell 0
      have x1 := X5.cell 1
      have x2 := X5.cell 2
      have x3 := X5.cell 3
      have x4 := X5.cell 4
      have x5 := X5.cell 5
      have x6 := X5.cell 6
      simp at x0 x1 x2 x3 x4 x5 x6
      clear hrn K9 Q9 X5 Z5 B5 sq5 ho5 HB hle hNK
      go_wp2_with fail
      exact bodyPost_ret (xrecv_results rfl rfl (put7_cel HZ9.out _ _ _ _ _ _ _)) rfl ⟨⟨_, _, _, _, (by rw [HS2.out]; rfl), by rw [HS2.out]; exact HFq.out, HLs.out⟩, HB9.out⟩
end
end Go.Proofs.Ytllhdgllgoanbaa.Lnk
