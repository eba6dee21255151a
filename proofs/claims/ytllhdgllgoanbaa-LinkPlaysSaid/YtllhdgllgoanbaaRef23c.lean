/-
  The reference of layer 23: flights (Fq); Send.
-/
import Derived.Test.YtllhdgllgoanbaaRef23b
import Derived.Test.YtllhdgllgoanbaaHand
import Derived.Test.YtllhdgllgoanbaaLnkW3
import Derived.Deep.Cut
namespace Go.Proofs.Ytllhdgllgoanbaa.Lnk
open Go.RowKit Go.Proofs.Ytllhdgllgoanbaa.Row
open Rng (R)

/-- (A, n, c) leads to flights -/
structure Fq (w : World) (A : Option Addr) (n c : Nat) (ls : List (Int × List Byte)) : Prop where
  ex : ∃ ts : List Tq, ts.map Tq.p = ls ∧ Sq encT 2 w A n c ts ∧ ∀ t ∈ ts, Dq w t.q.l t.q.a t.q.c
theorem Fq.keep {w w' : World} {A : Option Addr} {n c : Nat} {ls : List (Int × List Byte)} (h : Fq w A n c ls) (q : Kq w w') : Fq w' A n c ls := by
  obtain ⟨ts, h1, h2, h3⟩ := h
  exact ⟨ts, h1, h2.keep q, fun t ht => (h3 t ht).keep q⟩
theorem Fq.below {w w' : World} {A : Option Addr} {n c : Nat} {ls : List (Int × List Byte)} (h : Fq w A n c ls) (k : Below w.heap.size w w') : Fq w' A n c ls := h.keep (.of_below k)
theorem Fq.len {w : World} {A : Option Addr} {n c : Nat} {ls : List (Int × List Byte)} (h : Fq w A n c ls) : ls.length = n := by
  obtain ⟨ts, h1, h2, _⟩ := h
  rw [← h1, List.length_map]; exact h2.len
theorem Fq.nil_ (w : World) : Fq w none 0 0 [] := ⟨[], rfl, ⟨fun h => absurd h (by simp), rfl, fun _ => rfl, Nat.le_refl _, by decide⟩, fun t ht => nomatch ht⟩

section
variable {P : Program} {ops : Array Oper} {Q : Exit → Act → World → Prop} {md : Region.Mode} {S : World → Prop}
/-- numbers i, j, k may come up: three ways -/
theorem wpAnyH_three {l : List Oper} (i j k : Nat) {o o' o2 : Oper} {fuel : Nat} {listed : Array Bool} {a : Act} {w : World} (hi : l[i]? = some o) (hj : l[j]? = some o') (hk : l[k]? = some o2) (hr : Region.ready md l.toArray listed = [i, j, k])
    (h : ∀ K' : Act → World → Prop, Shut (∀ a w, S w → (S w → wpAnyH P md l.toArray Q S fuel (listed.setIfInBounds i true) a w) → K' a w) → if Region.wanted o (yielded l.toArray a.tmps) = true then Oper.wp P o a w K' Q else K' (a.put o.dst undef) w)
    (h' : ∀ K' : Act → World → Prop, Shut (∀ a w, S w → (S w → wpAnyH P md l.toArray Q S fuel (listed.setIfInBounds j true) a w) → K' a w) → if Region.wanted o' (yielded l.toArray a.tmps) = true then Oper.wp P o' a w K' Q else K' (a.put o'.dst undef) w)
    (h2 : ∀ K' : Act → World → Prop, Shut (∀ a w, S w → (S w → wpAnyH P md l.toArray Q S fuel (listed.setIfInBounds k true) a w) → K' a w) → if Region.wanted o2 (yielded l.toArray a.tmps) = true then Oper.wp P o2 a w K' Q else K' (a.put o2.dst undef) w) :
    wpAnyH P md l.toArray Q S (fuel + 1) listed a w :=
  wpAnyH_ready hr (by simp) (AllReadyH.cons (by simpa using hi) h (AllReadyH.cons (by simpa using hj) h' (AllReadyH.cons (by simpa using hk) h2 AllReadyH.nil)))
end
theorem Rs_cel {w : World} {x : Nat} {e : TypeId} {y : Tq} {cs : Array Value} (h : Cel w x e cs) (hc : cs = (encT y).toArray) : Row.Rs encT 2 w w.heap.size (some ⟨x, 0, none⟩) [y] := fun _ => by
  refine ⟨x, 0, rfl, h.lt, fun i z hz j u hu => ?_⟩
  match i, hz with
  | 0, hz =>
    cases hz
    rw [Nat.zero_mul, Nat.zero_add, h.cell, hc]
    simpa using hu
theorem Os_cel0 {w : World} {e0 base : Nat} {e : TypeId} (h : Cel w e0 e #[]) (hb : base ≤ e0) : Row.Os encT 2 w base e (.slice (some ⟨e0, 0, none⟩) 0 0) [] :=
  ⟨by simp [Row.flat], .inr ⟨e0, 0, #[], rfl, hb, h, Nat.le_refl _, by simp, by simp, by simp [Row.flat]⟩⟩

theorem xsend_results {tmps : Array Value} {W : World} {g : Nat} {u0 u1 u2 u3 u4 u5 u6 : Value} (h2 : tmps.getD 6 undef = .pointer (some ⟨g, 0, none⟩))
    (hC : Cel W g 36 #[u0, u1, u2, u3, u4, u5, u6]) :
    (results Try.f12 tmps).run Try.prog W = .ok (.agg #[u0, u1, u2, u3, u4, u5, u6]) W := by
  have c0 := hC.cell 0
  have c1 := hC.cell 1
  have c2 := hC.cell 2
  have c3 := hC.cell 3
  have c4 := hC.cell 4
  have c5 := hC.cell 5
  have c6 := hC.cell 6
  simp at c0 c1 c2 c3 c4 c5 c6
  simp only [Array.getD_eq_getD_getElem?] at h2
  simp [results, Try.results12, go_sem, h2, c0, c1, c2, c3, c4, c5, c6]

section
variable {c : Cf} {Ao Al Af : Option Addr} {no co nl cl nf cf : Nat} {w : World} {s : LS}
set_option maxHeartbeats 40000000 in
set_option maxRecDepth 100000 in
theorem xsend_any (h : Cg w c Ao no co Al nl cl Af nf cf) (hk : c.ok = true) {N : Nat} (hs : s.Ok N) (hN : N ≤ 100000) (m1 : no ≤ 1000000) (m2 : nl ≤ 1000000) (m3 : nf ≤ 1000000) {AL : Option Addr} {nL cL : Nat} (hL : Fq w AL nL cL s.wt)
    (now : Int) (a : Option Addr) (b : List Byte) (n k : Nat) (hl : Hid (b.length = n)) (hb : Bs w w.heap.size a b) (hn : a = none → k = 0) (hm : n ≤ 1000000) :
    Calls Try.prog 12 #[.agg #[I c.dl, .slice Ao no co, .slice Al nl cl, .slice Af nf cf, I s.tm, I (s.sn : Int), .slice AL nL cL], I now, .slice a n k] w fun e w' => (∃ A' n' c', e = .returned (.agg #[I c.dl, .slice Ao no co, .slice Al nl cl, .slice Af nf cf, I (snd c now b s).tm, I ((snd c now b s).sn : Int), .slice A' n' c']) ∧ Fq w' A' n' c' (snd c now b s).wt) ∧ Below w.heap.size w w' := by
  obtain ⟨S', hS'⟩ : ∃ S', S' = snd c now b s := ⟨_, rfl⟩
  rw [← hS']
  unfold snd at hS'
  obtain ⟨sn, hsn⟩ : ∃ sn, sn = s.sn := ⟨_, rfl⟩
  obtain ⟨wt, hwt⟩ : ∃ wt, wt = s.wt := ⟨_, rfl⟩
  obtain ⟨t0, ht0⟩ : ∃ t0, t0 = s.tm := ⟨_, rfl⟩
  obtain ⟨t, ht⟩ : ∃ t, t = adv t0 now := ⟨_, rfl⟩
  have hbd := adv_bd (now := now) hs.t0 hs.t1
  have hN2 := hs.n
  have hW2 := hs.w
  have hdl := Cf.ok_dl hk
  rw [← hsn, ← hwt, ← ht0, ← ht] at hS'
  rw [← hwt] at hL hW2
  rw [← ht0, ← ht] at hbd
  rw [← hsn] at hN2 hW2 ⊢
  rw [← ht0]
  have hLl := hL.len
  have HP := Lib.hid (fun (x : R) (hx : x ∈ c.fl) => Cf.ok_fl hk hx)
  have H0 := Lib.hid h
  have HL := Lib.hid hL
  have HB := Lib.hid hb
  have HLN := Lib.hid hLl
  have HS := Lib.hid hS'
  have HT := Lib.hid ht
  have hnL : nL ≤ 100000 := by omega
  have hsn1 : (sn : Int) + 1 ≤ 200000 := by omega
  have hsn0 : (0 : Int) ≤ (sn : Int) := by omega
  clear h hk hL hb hs hsn hwt ht0 ht hS' hLl hN hN2 hW2
  obtain ⟨dl, hdl2⟩ : ∃ dl, dl = c.dl := ⟨_, rfl⟩
  have HDL := Lib.hid hdl2
  rw [← hdl2] at hdl ⊢
  clear hdl2
  obtain ⟨w1, hw1⟩ : ∃ w1, w1 = (w.alloc (.cells #[I dl, .slice Ao no co, .slice Al nl cl, .slice Af nf cf, I t0, I (sn : Int), .slice AL nL cL] 36)).alloc (.cells #[I 0, .slice none 0 0, .slice none 0 0, .slice none 0 0, I 0, I 0, .slice none 0 0] 36) := ⟨_, rfl⟩
  have b1 : Below w.heap.size w w1 := by rw [hw1]; exact (bel_new _ _).alloc (bel_new _ _).size _
  have X1 : Cel w1 w.heap.size 36 #[I dl, .slice Ao no co, .slice Al nl cl, .slice Af nf cf, I t0, I (sn : Int), .slice AL nL cL] := by rw [hw1]; exact Cel.on (Cel.new _ _ _) (bel_new _ _)
  have Z1 : Cel w1 (w.heap.size + 1) 36 #[I 0, .slice none 0 0, .slice none 0 0, .slice none 0 0, I 0, I 0, .slice none 0 0] := by rw [hw1]; exact Cel_at (by simp)
  have xa := xat_any (Ao := Ao) (no := no) (co := co) (Al := Al) (nl := nl) (cl := cl) (Af := Af) (nf := nf) (cf := cf) dl (sn : Int) t0 now AL nL cL w1
  rw [← HT.out] at xa
  go_enter Try.func12, Try.ntmps12
  go_wp2_with fail
  rw [← hw1]
  clear hw1
  refine xa.mono ?_
  rintro e w2 ⟨rfl, b2⟩
  have X2 := Cel.on X1 b2
  have Z2 := Cel.on Z1 b2
  have B2 := b1.trans (b2.mono b1.size)
  have e0 := X2.cell 0
  have e1 := X2.cell 1
  have e2 := X2.cell 2
  have e3 := X2.cell 3
  have e4 := X2.cell 4
  have e5 := X2.cell 5
  have e6 := X2.cell 6
  simp at e0 e1 e2 e3 e4 e5 e6
  have f0 := X2.free 0
  have f1 := X2.free 1
  have f2 := X2.free 2
  have f3 := X2.free 3
  have f4 := X2.free 4
  have f5 := X2.free 5
  have f6 := X2.free 6
  have X3 := put7_cel X2 (I dl) (.slice Ao no co) (.slice Al nl cl) (.slice Af nf cf) (I t) (I (sn : Int)) (.slice AL nL cL)
  have B3 := put7_below B2 (Nat.le_refl _) (I dl) (.slice Ao no co) (.slice Al nl cl) (.slice Af nf cf) (I t) (I (sn : Int)) (.slice AL nL cL)
  have Z3 := Z2.only (put7_only w2 w.heap.size (I dl) (.slice Ao no co) (.slice Al nl cl) (.slice Af nf cf) (I t) (I (sn : Int)) (.slice AL nL cL)) (by simp)
  obtain ⟨w3, hw3⟩ : ∃ w3, w3 = put7 w2 w.heap.size (I dl) (.slice Ao no co) (.slice Al nl cl) (.slice Af nf cf) (I t) (I (sn : Int)) (.slice AL nL cL) := ⟨_, rfl⟩
  rw [← hw3] at X3 B3 Z3
  unfold put7 at hw3
  clear b1 b2 X1 X2 Z1 Z2 B2 xa
  go_upto_region 2 with fail
  rw [← hw3]
  clear hw3 e0 e1 e2 e3 e4 e5 e6 f0 f1 f2 f3 f4 f5 f6
  have bel4 := (Below.refl w3.heap.size w3).alloc (Nat.le_refl _) (.cells #[] 5)
  have hown4 := Ow_empty w3 w3.heap.size 5 (Nat.le_refl _)
  have hb4 := ((HB.out.below B3).more B3.size).below bel4
  go_wp2_with (at_builtin; refine wpList_app _ is_bytes rfl (.tmp 13) (.tmp 14) rfl (m := []) rfl hown4 (l := b) (A := a) (c := k) (by rw [hl.out]; rfl) hb4 hn (by rw [hl.out]; simp; omega) bel4.size ?_; intro v4 w4 o4 g4; have b4 := bel4.grown g4 bel4.size (Ow.base_le (l := []) hown4))
  obtain ⟨A4, c4, rfl, _⟩ := o4.reads_len (n := n) hl.out
  rw [List.nil_append] at o4
  have HR := Lib.hid H0.out.f.len
  have hrf := (H0.out.below (B3.trans (b4.mono B3.size))).f.r
  obtain ⟨fl, hfl⟩ : ∃ fl, fl = c.fl := ⟨_, rfl⟩
  have HFL := Lib.hid hfl
  rw [← hfl] at HR hrf HP
  have hrf3 := (H0.out.below B3).f.r
  rw [← hfl] at hrf3
  have HX3 := Lib.hid (And.intro X3 (And.intro Z3 B3))
  have HSZ := Lib.hid (show w.heap.size + 1 < w3.heap.size from Z3.lt)
  clear hfl hb4 hown4 bel4 g4 X3 Z3 B3 hrf
  go_loopw [8, 9] (fun iv _ wr => ∃ j : Nat, iv = .int .i64 (j : Int) ∧ j ≤ nf ∧ (n = 0 → j = 0) ∧ Ow wr w3.heap.size 5 (.slice A4 n c4) (flk fl (sn : Int) b j) ∧ Below w3.heap.size w3 wr) (fun iv _ _ => nf - (intOf iv).toNat)
  case atStart => exact ⟨0, rfl, Nat.zero_le _, fun _ => rfl, o4, b4⟩
  case round =>
    obtain ⟨j, rfl, hj, hj0, ho, hB⟩ := hrel
    clear o4 b4
    obtain ⟨X3, Z3, B3⟩ := HX3.out
    have X5 := Cel.on X3 hB
    have Z5 := Cel.on Z3 hB
    have B5 := B3.trans (hB.mono B3.size)
    have c0 := X5.cell 0
    have c1 := X5.cell 1
    have c2 := X5.cell 2
    have c3 := X5.cell 3
    have c4' := X5.cell 4
    have c5 := X5.cell 5
    have c6 := X5.cell 6
    simp at c0 c1 c2 c3 c4' c5 c6
    by_cases hjn : j < nf
    · rcases Nat.eq_zero_or_pos n with h0 | h0
      · obtain rfl := hj0 h0
        have t0' : decide ((0 : Int) < (n : Int)) = false := by simp; omega
        have t0'' : decide (0 < n) = false := by simp; omega
        rw [show flk fl (sn : Int) b 0 = dmg fl (sn : Int) b from by rw [dmg_0 (l := fl) (by rw [hl.out]; exact h0)]; rfl] at ho
        clear h0 hj0 hrf3 hj
        clear c0 c1 c2 c3 c4' c5 c6
        have HO := Lib.hid ho
        have xl := lost_any (H0.out.below B5) m1 m2 t sn AL nL cL
        rw [← HDL.out] at xl
        obtain ⟨G, hG⟩ : ∃ G, G = gone c t sn := ⟨_, rfl⟩
        rw [← hG] at xl
        have HG := Lib.hid hG
        clear hG ho X3 Z3 B3
        have c0 := X5.cell 0
        have c1 := X5.cell 1
        have c2 := X5.cell 2
        have c3 := X5.cell 3
        have c4' := X5.cell 4
        have c5 := X5.cell 5
        have c6 := X5.cell 6
        simp at c0 c1 c2 c3 c4' c5 c6
        cases G with
        | true =>
          have HS2 : Hid (S' = ⟨t, sn + 1, wt⟩) := Lib.hid (by rw [HS.out, if_pos HG.out.symm])
          go_wp2_with fail
          refine xl.mono ?_
          rintro e w6 ⟨rfl, b6⟩
          have X7 := Cel.on X5 b6
          have Z7 := Cel.on Z5 b6
          have B7 := B5.trans (b6.mono B5.size)
          clear X5 Z5 B5 xl c0 c1 c2 c3 c4' c5 c6
          have x0 := X7.cell 0
          have x1 := X7.cell 1
          have x2 := X7.cell 2
          have x3 := X7.cell 3
          have x4 := X7.cell 4
          have x5 := X7.cell 5
          have x6 := X7.cell 6
          simp at x0 x1 x2 x3 x4 x5 x6
          have z0 := Z7.cell 0
          have z1 := Z7.cell 1
          have z2 := Z7.cell 2
          have z3 := Z7.cell 3
          have z4 := Z7.cell 4
          have z5 := Z7.cell 5
          have z6 := Z7.cell 6
          simp at z0 z1 z2 z3 z4 z5 z6
          have fx := X7.free 5
          have y0 := Z7.free 0
          have y1 := Z7.free 1
          have y2 := Z7.free 2
          have y3 := Z7.free 3
          have y4 := Z7.free 4
          have y5 := Z7.free 5
          have y6 := Z7.free 6
          have Z9 := Z7.only (S := [w.heap.size]) ((Only.refl _ _).put (p := ⟨w.heap.size, 5, none⟩) (.inl (by simp)) (I ((sn : Int) + 1))) (by simp)
          have B9 := put7_below (B7.trans (((Only.refl [w.heap.size] w6).put (p := ⟨w.heap.size, 5, none⟩) (.inl (by simp)) (I ((sn : Int) + 1))).below B7.size (by simp))) (by omega : w.heap.size ≤ w.heap.size + 1) (I dl) (.slice Ao no co) (.slice Al nl cl) (.slice Af nf cf) (I t) (I ((sn : Int) + 1)) (.slice AL nL cL)
          have K9 : Only [w.heap.size, w.heap.size + 1] w6 (put7 (w6.setCell ⟨w.heap.size, 5, none⟩ (I ((sn : Int) + 1))) (w.heap.size + 1) (I dl) (.slice Ao no co) (.slice Al nl cl) (.slice Af nf cf) (I t) (I ((sn : Int) + 1)) (.slice AL nL cL)) := (((Only.refl [w.heap.size] w6).put (p := ⟨w.heap.size, 5, none⟩) (.inl (by simp)) (I ((sn : Int) + 1))).more (fun x hx => .inl (by simp at hx; simp [hx]))).trans (put7_only _ _ _ _ _ _ _ _ _) (fun x hx => .inl (by simp at hx; simp [hx]))
          have Q9 := Kq.of_only K9 (fun x hx => by
            rcases List.mem_cons.1 hx with rfl | hx
            · exact not_fx X7 (by decide)
            · rw [List.mem_singleton.1 hx]; exact not_fx Z7 (by decide))
          have HFq := Lib.hid ((HL.out.below B7).keep Q9)
          have HB9 := Lib.hid B9
          have HZ9 := Lib.hid Z9
          clear B9 Z9 K9 Q9 X7 Z7
          go_wp2_with fail
          exact bodyPost_ret (xsend_results rfl (put7_cel HZ9.out _ _ _ _ _ _ _)) rfl ⟨⟨_, _, _, (by rw [HS2.out]; rfl), by rw [HS2.out]; exact HFq.out⟩, HB9.out⟩
        | false =>
          have HS2 : Hid (S' = ⟨t, sn + 1, wt ++ [(t + dl, dmg c.fl (sn : Int) b)]⟩) := Lib.hid (by rw [HS.out, if_neg (by rw [← HG.out]; decide), HDL.out])
          obtain ⟨X, hX⟩ : ∃ X, X = t + dl := ⟨_, rfl⟩
          have hX1 : wrap64 (t + dl) = X := by rw [hX]; exact IntWalk.wrap64_in _ (by omega)
          have hX2 : IntKind.i64.wrap (t + dl) = X := by rw [IntKind.wrap_i64]; omega
          have hX3 : IntKind.i64.wrap X = X := by rw [IntKind.wrap_i64]; omega
          have hX4 : wrap64 X = X := IntWalk.wrap64_in _ (by omega)
          obtain ⟨D, hD⟩ : ∃ D, D = dmg c.fl (sn : Int) b := ⟨_, rfl⟩
          rw [← hX, ← hD] at HS2
          have HO2 := HO.out
          rw [HFL.out, ← hD] at HO2
          have HDl : Hid (D.length = n) := Lib.hid (by rw [hD, dmg_len]; exact hl.out)
          clear hX hD
          go_wp2_with fail
          refine xl.mono ?_
          rintro e w6 ⟨rfl, b6⟩
          have X7 := Cel.on X5 b6
          have Z7 := Cel.on Z5 b6
          have B7 := B5.trans (b6.mono B5.size)
          obtain ⟨ts, hts, hsq0, hdq0⟩ := HL.out.below B7
          have HTP := Lib.hid hts
          have HTL := Lib.hid hsq0.len
          have HSL := Lib.hid hsq0
          have HDQ := Lib.hid hdq0
          have o6 := HO2.below b6
          have HD6 : Hid (Dq w6 D A4 c4) := Lib.hid (by have e := HDl.out; subst e; exact Dq.own o6)
          have hb0 : Below w6.heap.size w6 w6.drew := drewN_below w6 1
          have s60 := X7.cell 0
          have s64 := X7.cell 4
          simp at s60 s64
          clear X5 Z5 B5 xl c0 c1 c2 c3 c4' c5 c6 hts hsq0 hdq0 o6 HO2
          go_wp2_with fail
          refine wp_region_held_drew (S := (fun w' => w'.cell? ⟨w.heap.size, 0, none⟩ = some (I dl) ∧ w'.cell? ⟨w.heap.size, 4, none⟩ = some (I t))) (by kernel_rfl) (⟨s60, s64⟩) (fun hHeld => ?_)
          clear hHeld s60 s64
          obtain ⟨W0, hW0⟩ : ∃ W0, W0 = w6.drew := ⟨_, rfl⟩
          rw [← hW0] at hb0 ⊢
          clear hW0
          have X6 := Cel.on X7 hb0
          have x60 := X6.cell 0
          have x64 := X6.cell 4
          have x66 := X6.cell 6
          simp at x60 x64 x66
          have hHeld : (fun w' : World => w'.cell? ⟨w.heap.size, 0, none⟩ = some (I dl) ∧ w'.cell? ⟨w.heap.size, 4, none⟩ = some (I t)) W0 := ⟨x60, x64⟩
          refine wpAnyH_here 1 (v := ?_) rfl (by kernel_rfl) (by kernel_rfl) (by kernel_rfl) (fun _ _ _ h => h) (Or.inl ⟨by rfl, ?_⟩) hHeld ?_
          rotate_left
          · intro w hSw; (try dsimp only at hSw); go_simp; all_goals (with_reducible rfl)
          try simp only [Act.put, List.setIfInBounds_toArray, List.set_cons_zero, List.set_cons_succ]
          refine wpAnyH_here 4 (v := ?_) rfl (by kernel_rfl) (by kernel_rfl) (by kernel_rfl) (fun _ _ _ h => h) (Or.inl ⟨by rfl, ?_⟩) hHeld ?_
          rotate_left
          · intro w hSw; (try dsimp only at hSw); go_simp; all_goals (with_reducible rfl)
          try simp only [Act.put, List.setIfInBounds_toArray, List.set_cons_zero, List.set_cons_succ]
          refine wpAnyH_here 5 (v := ?_) rfl (by kernel_rfl) (by kernel_rfl) (by kernel_rfl) (fun _ _ _ h => h) (Or.inl ⟨by rfl, ?_⟩) hHeld ?_
          rotate_left
          · intro w hSw; (try dsimp only at hSw); go_simp; all_goals (with_reducible rfl)
          try simp only [Act.put, List.setIfInBounds_toArray, List.set_cons_zero, List.set_cons_succ]
          refine wpAnyH_here 6 (v := ?_) rfl (by kernel_rfl) (by kernel_rfl) (by kernel_rfl) (fun _ _ _ h => h) (Or.inl ⟨by rfl, ?_⟩) hHeld ?_
          rotate_left
          · intro w hSw; (try dsimp only at hSw); go_simp; all_goals (with_reducible rfl)
          try simp only [Act.put, List.setIfInBounds_toArray, List.set_cons_zero, List.set_cons_succ]
          refine wpAnyH_here 7 (v := ?_) rfl (by kernel_rfl) (by kernel_rfl) (by kernel_rfl) (fun _ _ _ h => h) (Or.inl ⟨by rfl, ?_⟩) hHeld ?_
          rotate_left
          · intro w hSw; (try dsimp only at hSw); go_simp; all_goals (with_reducible rfl)
          try simp only [Act.put, List.setIfInBounds_toArray, List.set_cons_zero, List.set_cons_succ]
          refine wpAnyH_here 8 (v := ?_) rfl (by kernel_rfl) (by kernel_rfl) (by kernel_rfl) (fun _ _ _ h => h) (Or.inl ⟨by rfl, ?_⟩) hHeld ?_
          rotate_left
          · intro w hSw; (try dsimp only at hSw); go_simp; all_goals (with_reducible rfl)
          try simp only [Act.put, List.setIfInBounds_toArray, List.set_cons_zero, List.set_cons_succ]
          refine wpAnyH_here 9 (v := ?_) rfl (by kernel_rfl) (by kernel_rfl) (by kernel_rfl) (fun _ _ _ h => h) (Or.inl ⟨by rfl, ?_⟩) hHeld ?_
          rotate_left
          · intro w hSw; (try dsimp only at hSw); go_simp; all_goals (with_reducible rfl)
          try simp only [Act.put, List.setIfInBounds_toArray, List.set_cons_zero, List.set_cons_succ]
          refine wpAnyH_here 10 (v := ?_) rfl (by kernel_rfl) (by kernel_rfl) (by kernel_rfl) (fun _ _ _ h => h) (Or.inl ⟨by rfl, ?_⟩) hHeld ?_
          rotate_left
          · intro w hSw; (try dsimp only at hSw); go_simp; all_goals (with_reducible rfl)
          try simp only [Act.put, List.setIfInBounds_toArray, List.set_cons_zero, List.set_cons_succ]
          refine wpAnyH_here 11 (v := ?_) rfl (by kernel_rfl) (by kernel_rfl) (by kernel_rfl) (fun _ _ _ h => h) (Or.inl ⟨by rfl, ?_⟩) hHeld ?_
          rotate_left
          · intro w hSw; (try dsimp only at hSw); go_simp; all_goals (with_reducible rfl)
          try simp only [Act.put, List.setIfInBounds_toArray, List.set_cons_zero, List.set_cons_succ]
          refine wpAnyH_three 0 2 12 rfl rfl rfl (by kernel_rfl) (fun K hK => ?_) (fun K hK => ?_) (fun K hK => ?_)
          · go_simp
            obtain ⟨V1, hV1⟩ : ∃ V, V = W0.alloc (.cells #[] 75) := ⟨_, rfl⟩
            have bV1 : Below W0.heap.size W0 V1 := by rw [hV1]; exact bel_new _ _
            have cN1 : Cel V1 W0.heap.size 75 #[] := by rw [hV1]; exact Cel.new _ _ _
            have hb1 := hb0.trans (bV1.mono hb0.size)
            have X11 := Cel.on X7 hb1
            have x110 := X11.cell 0
            have x114 := X11.cell 4
            have x116 := X11.cell 6
            simp at x110 x114 x116
            rw [← hV1]
            clear hV1
            refine hK.out _ _ ⟨x110, x114⟩ (fun hHeld => ?_)
            clear hK K
            try simp only [Act.put, List.setIfInBounds_toArray, List.set_cons_zero, List.set_cons_succ]
            refine wpAnyH_both 2 12 rfl rfl (by kernel_rfl) (fun K hK => ?_) (fun K hK => ?_)
            · go_simp
              refine hK.out _ _ ⟨x110, x114⟩ (fun hHeld => ?_)
              clear hK K
              try simp only [Act.put, List.setIfInBounds_toArray, List.set_cons_zero, List.set_cons_succ]
              refine wpAnyH_both 3 12 rfl rfl (by kernel_rfl) (fun K hK => ?_) (fun K hK => ?_)
              · refine Row.step_row _ encT_ok is_flights (by decide) rfl (.tmp 67) (.tmp 69) rfl (v := Value.slice (some ⟨W0.heap.size, 0, none⟩) 0 0) (m := []) rfl (Os_cel0 cN1 (hb0.size)) (l := ts) (n := nL) (A := AL) (c := cL) HTL.out rfl (HSL.out.sl.below hb1).r HSL.out.nil (by rw [HTL.out]; simp; omega) hb1.size ?_
                intro v2 V2 own2 gr2 hv2
                rw [List.nil_append] at own2
                have hb2 := hb1.grown gr2 hb1.size (fun i hi => by injection hi with hi; have := hb0.size; simp at hi; omega)
                have X12 := Cel.on X7 hb2
                have x120 := X12.cell 0
                have x124 := X12.cell 4
                have x126 := X12.cell 6
                simp at x120 x124 x126
                refine hK.out _ _ ⟨x120, x124⟩ (fun hHeld => ?_)
                clear hK K
                try simp only [Act.put, List.setIfInBounds_toArray, List.set_cons_zero, List.set_cons_succ]
                refine wpAnyH_alone 12 rfl (by kernel_rfl) (fun K hK => ?_)
                go_simp
                obtain ⟨V3, hV3⟩ : ∃ V, V = V2.alloc (.cells #[I X, .slice A4 n c4] 75) := ⟨_, rfl⟩
                have bV3 : Below V2.heap.size V2 V3 := by rw [hV3]; exact bel_new _ _
                have cN3 : Cel V3 V2.heap.size 75 #[I X, .slice A4 n c4] := by rw [hV3]; exact Cel.new _ _ _
                have hb3 := hb2.trans (bV3.mono hb2.size)
                have own3 := Row.Os.below own2 bV3
                have X13 := Cel.on X7 hb3
                have x130 := X13.cell 0
                have x134 := X13.cell 4
                have x136 := X13.cell 6
                simp at x130 x134 x136
                rw [← hV3]
                clear hV3
                refine hK.out _ _ ⟨x130, x134⟩ (fun hHeld => ?_)
                clear hK K
                try simp only [Act.put, List.setIfInBounds_toArray, List.set_cons_zero, List.set_cons_succ]
                refine wpAnyH_alone 13 rfl (by kernel_rfl) (fun K hK => ?_)
                refine Row.step_row _ encT_ok is_flights (by decide) rfl (.tmp 70) (.tmp 79) rfl (v := v2) (m := ts) rfl own3 (l := [(⟨X, ⟨D, A4, c4⟩⟩ : Tq)]) (n := 1) (A := some ⟨V2.heap.size, 0, none⟩) (c := 1) rfl rfl (Rs_cel cN3 (by unfold encT; rw [HDl.out])) (fun h => nomatch h) (by rw [HTL.out]; simp; omega) hb3.size ?_
                intro v4 V4 own4 gr4 hv4
                obtain ⟨A8, c8, e8, hsq⟩ := Sq.own encT_ok own4 (by decide) (n := nL + 1) (by rw [List.length_append, HTL.out]; rfl)
                subst e8
                have hb4 := hb3.grown gr4 hb3.size (fun i hi => (own3.lt i hi).1)
                have HFQ : Hid (Fq V4 A8 (nL + 1) c8 (wt ++ [(X, D)])) := Lib.hid ⟨_, by rw [List.map_append, HTP.out]; rfl, hsq, fun y hy => by
                  rcases List.mem_append.1 hy with hy | hy
                  · exact (HDQ.out y hy).keep (Kq.of_below hb4)
                  · rw [List.mem_singleton.1 hy]; exact HD6.out.keep (Kq.of_below hb4)⟩
                have X14 := Cel.on X7 hb4
                have x140 := X14.cell 0
                have x144 := X14.cell 4
                have x146 := X14.cell 6
                simp at x140 x144 x146
                have x14f := X14.free 6
                have N4 := X14.put 6 (.slice A8 (nL + 1) c8)
                have n40 := N4.cell 0
                have n44 := N4.cell 4
                simp at n40 n44
                refine hK.out _ _ ⟨x140, x144⟩ (fun hHeld => ?_)
                clear hK K
                try simp only [Act.put, List.setIfInBounds_toArray, List.set_cons_zero, List.set_cons_succ]
                refine wpAnyH_here 14 (v := ?_) rfl (by kernel_rfl) (by kernel_rfl) (by kernel_rfl) (fun _ _ _ h => h) (Or.inl ⟨by rfl, ?_⟩) hHeld ?_
                rotate_left
                · intro w hSw; (try dsimp only at hSw); go_simp; all_goals (with_reducible rfl)
                try simp only [Act.put, List.setIfInBounds_toArray, List.set_cons_zero, List.set_cons_succ]
                refine wpAnyH_alone 15 rfl (by kernel_rfl) (fun K hK => ?_)
                go_simp
                skip
                refine hK.out _ _ (⟨n40, n44⟩) (fun hHeld => ?_)
                clear hK K
                try simp only [Act.put, List.setIfInBounds_toArray, List.set_cons_zero, List.set_cons_succ]
                refine wpAnyH_done (by kernel_rfl) ?_ _
                have KW := (Only.refl [w.heap.size] V4).put (p := ⟨w.heap.size, 6, none⟩) (.inl (by simp)) (Value.slice A8 (nL + 1) c8)
                have ZW := (Cel.on Z7 hb4).only KW (by simp)
                have BW := (B7.trans (hb4.mono B7.size)).trans (KW.below (B7.trans (hb4.mono B7.size)).size (by simp))
                have FQW := HFQ.out.keep (Kq.of_only KW (fun x hx => by rw [List.mem_singleton.1 hx]; exact not_fx X14 (by decide)))
                have XW : Cel (V4.setCell ⟨w.heap.size, 6, none⟩ (Value.slice A8 (nL + 1) c8)) w.heap.size 36 #[I dl, .slice Ao no co, .slice Al nl cl, .slice Af nf cf, I t, I (sn : Int), .slice A8 (nL + 1) c8] := N4
                obtain ⟨W9, hW9⟩ : ∃ W9, W9 = V4.setCell ⟨w.heap.size, 6, none⟩ (Value.slice A8 (nL + 1) c8) := ⟨_, rfl⟩
                rw [← hW9] at ZW BW FQW XW ⊢
                clear hW9 KW N4
                have x0 := XW.cell 0
                have x1 := XW.cell 1
                have x2 := XW.cell 2
                have x3 := XW.cell 3
                have x4 := XW.cell 4
                have x5 := XW.cell 5
                have x6 := XW.cell 6
                simp at x0 x1 x2 x3 x4 x5 x6
                have z0 := ZW.cell 0
                have z1 := ZW.cell 1
                have z2 := ZW.cell 2
                have z3 := ZW.cell 3
                have z4 := ZW.cell 4
                have z5 := ZW.cell 5
                have z6 := ZW.cell 6
                simp at z0 z1 z2 z3 z4 z5 z6
                have fx := XW.free 5
                have y0 := ZW.free 0
                have y1 := ZW.free 1
                have y2 := ZW.free 2
                have y3 := ZW.free 3
                have y4 := ZW.free 4
                have y5 := ZW.free 5
                have y6 := ZW.free 6
                have Z9 := ZW.only (S := [w.heap.size]) ((Only.refl _ _).put (p := ⟨w.heap.size, 5, none⟩) (.inl (by simp)) (I ((sn : Int) + 1))) (by simp)
                have B9 := put7_below (BW.trans (((Only.refl [w.heap.size] W9).put (p := ⟨w.heap.size, 5, none⟩) (.inl (by simp)) (I ((sn : Int) + 1))).below BW.size (by simp))) (by omega : w.heap.size ≤ w.heap.size + 1) (I dl) (.slice Ao no co) (.slice Al nl cl) (.slice Af nf cf) (I t) (I ((sn : Int) + 1)) (.slice A8 (nL + 1) c8)
                have K9 : Only [w.heap.size, w.heap.size + 1] W9 (put7 (W9.setCell ⟨w.heap.size, 5, none⟩ (I ((sn : Int) + 1))) (w.heap.size + 1) (I dl) (.slice Ao no co) (.slice Al nl cl) (.slice Af nf cf) (I t) (I ((sn : Int) + 1)) (.slice A8 (nL + 1) c8)) := (((Only.refl [w.heap.size] W9).put (p := ⟨w.heap.size, 5, none⟩) (.inl (by simp)) (I ((sn : Int) + 1))).more (fun x hx => .inl (by simp at hx; simp [hx]))).trans (put7_only _ _ _ _ _ _ _ _ _) (fun x hx => .inl (by simp at hx; simp [hx]))
                have Q9 := Kq.of_only K9 (fun x hx => by
                  rcases List.mem_cons.1 hx with rfl | hx
                  · exact not_fx XW (by decide)
                  · rw [List.mem_singleton.1 hx]; exact not_fx ZW (by decide))
                have HFq := Lib.hid ((FQW).keep Q9)
                have HB9 := Lib.hid B9
                have HZ9 := Lib.hid Z9
                clear B9 Z9 K9 Q9 XW ZW
                go_wp2_with fail
                exact bodyPost_ret (xsend_results rfl (put7_cel HZ9.out _ _ _ _ _ _ _)) rfl ⟨⟨_, _, _, (by rw [HS2.out]; rfl), by rw [HS2.out]; exact HFq.out⟩, HB9.out⟩
              · go_simp
                obtain ⟨V5, hV5⟩ : ∃ V, V = V1.alloc (.cells #[I X, .slice A4 n c4] 75) := ⟨_, rfl⟩
                have bV5 : Below V1.heap.size V1 V5 := by rw [hV5]; exact bel_new _ _
                have cN5 : Cel V5 V1.heap.size 75 #[I X, .slice A4 n c4] := by rw [hV5]; exact Cel.new _ _ _
                have hb5 := hb1.trans (bV5.mono hb1.size)
                have cE5 := Cel.on cN1 bV5
                have hxe5 : V1.heap.size ≠ W0.heap.size := Ne.symm (Nat.ne_of_lt cN1.lt)
                have X15 := Cel.on X7 hb5
                have x150 := X15.cell 0
                have x154 := X15.cell 4
                have x156 := X15.cell 6
                simp at x150 x154 x156
                rw [← hV5]
                clear hV5
                refine hK.out _ _ ⟨x150, x154⟩ (fun hHeld => ?_)
                clear hK K
                try simp only [Act.put, List.setIfInBounds_toArray, List.set_cons_zero, List.set_cons_succ]
                refine wpAnyH_alone 3 rfl (by kernel_rfl) (fun K hK => ?_)
                refine Row.step_row _ encT_ok is_flights (by decide) rfl (.tmp 67) (.tmp 69) rfl (v := Value.slice (some ⟨W0.heap.size, 0, none⟩) 0 0) (m := []) rfl (Os_cel0 cE5 (hb0.size)) (l := ts) (n := nL) (A := AL) (c := cL) HTL.out rfl (HSL.out.sl.below hb5).r HSL.out.nil (by rw [HTL.out]; simp; omega) hb5.size ?_
                intro v6 V6 own6 gr6 hv6
                rw [List.nil_append] at own6
                have hb6 := hb5.grown gr6 hb5.size (fun i hi => by injection hi with hi; have := hb0.size; simp at hi; omega)
                have cX6 := cN5.only (Only.of_grown gr6) (by simpa [Value.ownBlock] using hxe5)
                have X16 := Cel.on X7 hb6
                have x160 := X16.cell 0
                have x164 := X16.cell 4
                have x166 := X16.cell 6
                simp at x160 x164 x166
                refine hK.out _ _ ⟨x160, x164⟩ (fun hHeld => ?_)
                clear hK K
                try simp only [Act.put, List.setIfInBounds_toArray, List.set_cons_zero, List.set_cons_succ]
                refine wpAnyH_alone 13 rfl (by kernel_rfl) (fun K hK => ?_)
                refine Row.step_row _ encT_ok is_flights (by decide) rfl (.tmp 70) (.tmp 79) rfl (v := v6) (m := ts) rfl own6 (l := [(⟨X, ⟨D, A4, c4⟩⟩ : Tq)]) (n := 1) (A := some ⟨V1.heap.size, 0, none⟩) (c := 1) rfl rfl (Rs_cel cX6 (by unfold encT; rw [HDl.out])) (fun h => nomatch h) (by rw [HTL.out]; simp; omega) hb6.size ?_
                intro v7 V7 own7 gr7 hv7
                obtain ⟨A8, c8, e8, hsq⟩ := Sq.own encT_ok own7 (by decide) (n := nL + 1) (by rw [List.length_append, HTL.out]; rfl)
                subst e8
                have hb7 := hb6.grown gr7 hb6.size (fun i hi => (own6.lt i hi).1)
                have HFQ : Hid (Fq V7 A8 (nL + 1) c8 (wt ++ [(X, D)])) := Lib.hid ⟨_, by rw [List.map_append, HTP.out]; rfl, hsq, fun y hy => by
                  rcases List.mem_append.1 hy with hy | hy
                  · exact (HDQ.out y hy).keep (Kq.of_below hb7)
                  · rw [List.mem_singleton.1 hy]; exact HD6.out.keep (Kq.of_below hb7)⟩
                have X17 := Cel.on X7 hb7
                have x170 := X17.cell 0
                have x174 := X17.cell 4
                have x176 := X17.cell 6
                simp at x170 x174 x176
                have x17f := X17.free 6
                have N7 := X17.put 6 (.slice A8 (nL + 1) c8)
                have n70 := N7.cell 0
                have n74 := N7.cell 4
                simp at n70 n74
                refine hK.out _ _ ⟨x170, x174⟩ (fun hHeld => ?_)
                clear hK K
                try simp only [Act.put, List.setIfInBounds_toArray, List.set_cons_zero, List.set_cons_succ]
                refine wpAnyH_here 14 (v := ?_) rfl (by kernel_rfl) (by kernel_rfl) (by kernel_rfl) (fun _ _ _ h => h) (Or.inl ⟨by rfl, ?_⟩) hHeld ?_
                rotate_left
                · intro w hSw; (try dsimp only at hSw); go_simp; all_goals (with_reducible rfl)
                try simp only [Act.put, List.setIfInBounds_toArray, List.set_cons_zero, List.set_cons_succ]
                refine wpAnyH_alone 15 rfl (by kernel_rfl) (fun K hK => ?_)
                go_simp
                skip
                refine hK.out _ _ (⟨n70, n74⟩) (fun hHeld => ?_)
                clear hK K
                try simp only [Act.put, List.setIfInBounds_toArray, List.set_cons_zero, List.set_cons_succ]
                refine wpAnyH_done (by kernel_rfl) ?_ _
                have KW := (Only.refl [w.heap.size] V7).put (p := ⟨w.heap.size, 6, none⟩) (.inl (by simp)) (Value.slice A8 (nL + 1) c8)
                have ZW := (Cel.on Z7 hb7).only KW (by simp)
                have BW := (B7.trans (hb7.mono B7.size)).trans (KW.below (B7.trans (hb7.mono B7.size)).size (by simp))
                have FQW := HFQ.out.keep (Kq.of_only KW (fun x hx => by rw [List.mem_singleton.1 hx]; exact not_fx X17 (by decide)))
                have XW : Cel (V7.setCell ⟨w.heap.size, 6, none⟩ (Value.slice A8 (nL + 1) c8)) w.heap.size 36 #[I dl, .slice Ao no co, .slice Al nl cl, .slice Af nf cf, I t, I (sn : Int), .slice A8 (nL + 1) c8] := N7
                obtain ⟨W9, hW9⟩ : ∃ W9, W9 = V7.setCell ⟨w.heap.size, 6, none⟩ (Value.slice A8 (nL + 1) c8) := ⟨_, rfl⟩
                rw [← hW9] at ZW BW FQW XW ⊢
                clear hW9 KW N7
                have x0 := XW.cell 0
                have x1 := XW.cell 1
                have x2 := XW.cell 2
                have x3 := XW.cell 3
                have x4 := XW.cell 4
                have x5 := XW.cell 5
                have x6 := XW.cell 6
                simp at x0 x1 x2 x3 x4 x5 x6
                have z0 := ZW.cell 0
                have z1 := ZW.cell 1
                have z2 := ZW.cell 2
                have z3 := ZW.cell 3
                have z4 := ZW.cell 4
                have z5 := ZW.cell 5
                have z6 := ZW.cell 6
                simp at z0 z1 z2 z3 z4 z5 z6
                have fx := XW.free 5
                have y0 := ZW.free 0
                have y1 := ZW.free 1
                have y2 := ZW.free 2
                have y3 := ZW.free 3
                have y4 := ZW.free 4
                have y5 := ZW.free 5
                have y6 := ZW.free 6
                have Z9 := ZW.only (S := [w.heap.size]) ((Only.refl _ _).put (p := ⟨w.heap.size, 5, none⟩) (.inl (by simp)) (I ((sn : Int) + 1))) (by simp)
                have B9 := put7_below (BW.trans (((Only.refl [w.heap.size] W9).put (p := ⟨w.heap.size, 5, none⟩) (.inl (by simp)) (I ((sn : Int) + 1))).below BW.size (by simp))) (by omega : w.heap.size ≤ w.heap.size + 1) (I dl) (.slice Ao no co) (.slice Al nl cl) (.slice Af nf cf) (I t) (I ((sn : Int) + 1)) (.slice A8 (nL + 1) c8)
                have K9 : Only [w.heap.size, w.heap.size + 1] W9 (put7 (W9.setCell ⟨w.heap.size, 5, none⟩ (I ((sn : Int) + 1))) (w.heap.size + 1) (I dl) (.slice Ao no co) (.slice Al nl cl) (.slice Af nf cf) (I t) (I ((sn : Int) + 1)) (.slice A8 (nL + 1) c8)) := (((Only.refl [w.heap.size] W9).put (p := ⟨w.heap.size, 5, none⟩) (.inl (by simp)) (I ((sn : Int) + 1))).more (fun x hx => .inl (by simp at hx; simp [hx]))).trans (put7_only _ _ _ _ _ _ _ _ _) (fun x hx => .inl (by simp at hx; simp [hx]))
                have Q9 := Kq.of_only K9 (fun x hx => by
                  rcases List.mem_cons.1 hx with rfl | hx
                  · exact not_fx XW (by decide)
                  · rw [List.mem_singleton.1 hx]; exact not_fx ZW (by decide))
                have HFq := Lib.hid ((FQW).keep Q9)
                have HB9 := Lib.hid B9
                have HZ9 := Lib.hid Z9
                clear B9 Z9 K9 Q9 XW ZW
                go_wp2_with fail
                exact bodyPost_ret (xsend_results rfl (put7_cel HZ9.out _ _ _ _ _ _ _)) rfl ⟨⟨_, _, _, (by rw [HS2.out]; rfl), by rw [HS2.out]; exact HFq.out⟩, HB9.out⟩
            · go_simp
              obtain ⟨V8, hV8⟩ : ∃ V, V = V1.alloc (.cells #[I X, .slice A4 n c4] 75) := ⟨_, rfl⟩
              have bV8 : Below V1.heap.size V1 V8 := by rw [hV8]; exact bel_new _ _
              have cN8 : Cel V8 V1.heap.size 75 #[I X, .slice A4 n c4] := by rw [hV8]; exact Cel.new _ _ _
              have hb8 := hb1.trans (bV8.mono hb1.size)
              have cE8 := Cel.on cN1 bV8
              have hxe8 : V1.heap.size ≠ W0.heap.size := Ne.symm (Nat.ne_of_lt cN1.lt)
              have X18 := Cel.on X7 hb8
              have x180 := X18.cell 0
              have x184 := X18.cell 4
              have x186 := X18.cell 6
              simp at x180 x184 x186
              rw [← hV8]
              clear hV8
              refine hK.out _ _ ⟨x180, x184⟩ (fun hHeld => ?_)
              clear hK K
              try simp only [Act.put, List.setIfInBounds_toArray, List.set_cons_zero, List.set_cons_succ]
              refine wpAnyH_alone 2 rfl (by kernel_rfl) (fun K hK => ?_)
              go_simp
              refine hK.out _ _ ⟨x180, x184⟩ (fun hHeld => ?_)
              clear hK K
              try simp only [Act.put, List.setIfInBounds_toArray, List.set_cons_zero, List.set_cons_succ]
              refine wpAnyH_alone 3 rfl (by kernel_rfl) (fun K hK => ?_)
              refine Row.step_row _ encT_ok is_flights (by decide) rfl (.tmp 67) (.tmp 69) rfl (v := Value.slice (some ⟨W0.heap.size, 0, none⟩) 0 0) (m := []) rfl (Os_cel0 cE8 (hb0.size)) (l := ts) (n := nL) (A := AL) (c := cL) HTL.out rfl (HSL.out.sl.below hb8).r HSL.out.nil (by rw [HTL.out]; simp; omega) hb8.size ?_
              intro v9 V9 own9 gr9 hv9
              rw [List.nil_append] at own9
              have hb9 := hb8.grown gr9 hb8.size (fun i hi => by injection hi with hi; have := hb0.size; simp at hi; omega)
              have cX9 := cN8.only (Only.of_grown gr9) (by simpa [Value.ownBlock] using hxe8)
              have X19 := Cel.on X7 hb9
              have x190 := X19.cell 0
              have x194 := X19.cell 4
              have x196 := X19.cell 6
              simp at x190 x194 x196
              refine hK.out _ _ ⟨x190, x194⟩ (fun hHeld => ?_)
              clear hK K
              try simp only [Act.put, List.setIfInBounds_toArray, List.set_cons_zero, List.set_cons_succ]
              refine wpAnyH_alone 13 rfl (by kernel_rfl) (fun K hK => ?_)
              refine Row.step_row _ encT_ok is_flights (by decide) rfl (.tmp 70) (.tmp 79) rfl (v := v9) (m := ts) rfl own9 (l := [(⟨X, ⟨D, A4, c4⟩⟩ : Tq)]) (n := 1) (A := some ⟨V1.heap.size, 0, none⟩) (c := 1) rfl rfl (Rs_cel cX9 (by unfold encT; rw [HDl.out])) (fun h => nomatch h) (by rw [HTL.out]; simp; omega) hb9.size ?_
              intro v10 V10 own10 gr10 hv10
              obtain ⟨A8, c8, e8, hsq⟩ := Sq.own encT_ok own10 (by decide) (n := nL + 1) (by rw [List.length_append, HTL.out]; rfl)
              subst e8
              have hb10 := hb9.grown gr10 hb9.size (fun i hi => (own9.lt i hi).1)
              have HFQ : Hid (Fq V10 A8 (nL + 1) c8 (wt ++ [(X, D)])) := Lib.hid ⟨_, by rw [List.map_append, HTP.out]; rfl, hsq, fun y hy => by
                rcases List.mem_append.1 hy with hy | hy
                · exact (HDQ.out y hy).keep (Kq.of_below hb10)
                · rw [List.mem_singleton.1 hy]; exact HD6.out.keep (Kq.of_below hb10)⟩
              have X20 := Cel.on X7 hb10
              have x200 := X20.cell 0
              have x204 := X20.cell 4
              have x206 := X20.cell 6
              simp at x200 x204 x206
              have x20f := X20.free 6
              have N10 := X20.put 6 (.slice A8 (nL + 1) c8)
              have n100 := N10.cell 0
              have n104 := N10.cell 4
              simp at n100 n104
              refine hK.out _ _ ⟨x200, x204⟩ (fun hHeld => ?_)
              clear hK K
              try simp only [Act.put, List.setIfInBounds_toArray, List.set_cons_zero, List.set_cons_succ]
              refine wpAnyH_here 14 (v := ?_) rfl (by kernel_rfl) (by kernel_rfl) (by kernel_rfl) (fun _ _ _ h => h) (Or.inl ⟨by rfl, ?_⟩) hHeld ?_
              rotate_left
              · intro w hSw; (try dsimp only at hSw); go_simp; all_goals (with_reducible rfl)
              try simp only [Act.put, List.setIfInBounds_toArray, List.set_cons_zero, List.set_cons_succ]
              refine wpAnyH_alone 15 rfl (by kernel_rfl) (fun K hK => ?_)
              go_simp
              skip
              refine hK.out _ _ (⟨n100, n104⟩) (fun hHeld => ?_)
              clear hK K
              try simp only [Act.put, List.setIfInBounds_toArray, List.set_cons_zero, List.set_cons_succ]
              refine wpAnyH_done (by kernel_rfl) ?_ _
              have KW := (Only.refl [w.heap.size] V10).put (p := ⟨w.heap.size, 6, none⟩) (.inl (by simp)) (Value.slice A8 (nL + 1) c8)
              have ZW := (Cel.on Z7 hb10).only KW (by simp)
              have BW := (B7.trans (hb10.mono B7.size)).trans (KW.below (B7.trans (hb10.mono B7.size)).size (by simp))
              have FQW := HFQ.out.keep (Kq.of_only KW (fun x hx => by rw [List.mem_singleton.1 hx]; exact not_fx X20 (by decide)))
              have XW : Cel (V10.setCell ⟨w.heap.size, 6, none⟩ (Value.slice A8 (nL + 1) c8)) w.heap.size 36 #[I dl, .slice Ao no co, .slice Al nl cl, .slice Af nf cf, I t, I (sn : Int), .slice A8 (nL + 1) c8] := N10
              obtain ⟨W9, hW9⟩ : ∃ W9, W9 = V10.setCell ⟨w.heap.size, 6, none⟩ (Value.slice A8 (nL + 1) c8) := ⟨_, rfl⟩
              rw [← hW9] at ZW BW FQW XW ⊢
              clear hW9 KW N10
              have x0 := XW.cell 0
              have x1 := XW.cell 1
              have x2 := XW.cell 2
              have x3 := XW.cell 3
              have x4 := XW.cell 4
              have x5 := XW.cell 5
              have x6 := XW.cell 6
              simp at x0 x1 x2 x3 x4 x5 x6
              have z0 := ZW.cell 0
              have z1 := ZW.cell 1
              have z2 := ZW.cell 2
              have z3 := ZW.cell 3
              have z4 := ZW.cell 4
              have z5 := ZW.cell 5
              have z6 := ZW.cell 6
              simp at z0 z1 z2 z3 z4 z5 z6
              have fx := XW.free 5
              have y0 := ZW.free 0
              have y1 := ZW.free 1
              have y2 := ZW.free 2
              have y3 := ZW.free 3
              have y4 := ZW.free 4
              have y5 := ZW.free 5
              have y6 := ZW.free 6
              have Z9 := ZW.only (S := [w.heap.size]) ((Only.refl _ _).put (p := ⟨w.heap.size, 5, none⟩) (.inl (by simp)) (I ((sn : Int) + 1))) (by simp)
              have B9 := put7_below (BW.trans (((Only.refl [w.heap.size] W9).put (p := ⟨w.heap.size, 5, none⟩) (.inl (by simp)) (I ((sn : Int) + 1))).below BW.size (by simp))) (by omega : w.heap.size ≤ w.heap.size + 1) (I dl) (.slice Ao no co) (.slice Al nl cl) (.slice Af nf cf) (I t) (I ((sn : Int) + 1)) (.slice A8 (nL + 1) c8)
              have K9 : Only [w.heap.size, w.heap.size + 1] W9 (put7 (W9.setCell ⟨w.heap.size, 5, none⟩ (I ((sn : Int) + 1))) (w.heap.size + 1) (I dl) (.slice Ao no co) (.slice Al nl cl) (.slice Af nf cf) (I t) (I ((sn : Int) + 1)) (.slice A8 (nL + 1) c8)) := (((Only.refl [w.heap.size] W9).put (p := ⟨w.heap.size, 5, none⟩) (.inl (by simp)) (I ((sn : Int) + 1))).more (fun x hx => .inl (by simp at hx; simp [hx]))).trans (put7_only _ _ _ _ _ _ _ _ _) (fun x hx => .inl (by simp at hx; simp [hx]))
              have Q9 := Kq.of_only K9 (fun x hx => by
                rcases List.mem_cons.1 hx with rfl | hx
                · exact not_fx XW (by decide)
                · rw [List.mem_singleton.1 hx]; exact not_fx ZW (by decide))
              have HFq := Lib.hid ((FQW).keep Q9)
              have HB9 := Lib.hid B9
              have HZ9 := Lib.hid Z9
              clear B9 Z9 K9 Q9 XW ZW
              go_wp2_with fail
              exact bodyPost_ret (xsend_results rfl (put7_cel HZ9.out _ _ _ _ _ _ _)) rfl ⟨⟨_, _, _, (by rw [HS2.out]; rfl), by rw [HS2.out]; exact HFq.out⟩, HB9.out⟩
          · go_simp
            refine hK.out _ _ ⟨x60, x64⟩ (fun hHeld => ?_)
            clear hK K
            try simp only [Act.put, List.setIfInBounds_toArray, List.set_cons_zero, List.set_cons_succ]
            refine wpAnyH_both 0 12 rfl rfl (by kernel_rfl) (fun K hK => ?_) (fun K hK => ?_)
            · go_simp
              obtain ⟨V11, hV11⟩ : ∃ V, V = W0.alloc (.cells #[] 75) := ⟨_, rfl⟩
              have bV11 : Below W0.heap.size W0 V11 := by rw [hV11]; exact bel_new _ _
              have cN11 : Cel V11 W0.heap.size 75 #[] := by rw [hV11]; exact Cel.new _ _ _
              have hb11 := hb0.trans (bV11.mono hb0.size)
              have X21 := Cel.on X7 hb11
              have x210 := X21.cell 0
              have x214 := X21.cell 4
              have x216 := X21.cell 6
              simp at x210 x214 x216
              rw [← hV11]
              clear hV11
              refine hK.out _ _ ⟨x210, x214⟩ (fun hHeld => ?_)
              clear hK K
              try simp only [Act.put, List.setIfInBounds_toArray, List.set_cons_zero, List.set_cons_succ]
              refine wpAnyH_both 3 12 rfl rfl (by kernel_rfl) (fun K hK => ?_) (fun K hK => ?_)
              · refine Row.step_row _ encT_ok is_flights (by decide) rfl (.tmp 67) (.tmp 69) rfl (v := Value.slice (some ⟨W0.heap.size, 0, none⟩) 0 0) (m := []) rfl (Os_cel0 cN11 (hb0.size)) (l := ts) (n := nL) (A := AL) (c := cL) HTL.out rfl (HSL.out.sl.below hb11).r HSL.out.nil (by rw [HTL.out]; simp; omega) hb11.size ?_
                intro v12 V12 own12 gr12 hv12
                rw [List.nil_append] at own12
                have hb12 := hb11.grown gr12 hb11.size (fun i hi => by injection hi with hi; have := hb0.size; simp at hi; omega)
                have X22 := Cel.on X7 hb12
                have x220 := X22.cell 0
                have x224 := X22.cell 4
                have x226 := X22.cell 6
                simp at x220 x224 x226
                refine hK.out _ _ ⟨x220, x224⟩ (fun hHeld => ?_)
                clear hK K
                try simp only [Act.put, List.setIfInBounds_toArray, List.set_cons_zero, List.set_cons_succ]
                refine wpAnyH_alone 12 rfl (by kernel_rfl) (fun K hK => ?_)
                go_simp
                obtain ⟨V13, hV13⟩ : ∃ V, V = V12.alloc (.cells #[I X, .slice A4 n c4] 75) := ⟨_, rfl⟩
                have bV13 : Below V12.heap.size V12 V13 := by rw [hV13]; exact bel_new _ _
                have cN13 : Cel V13 V12.heap.size 75 #[I X, .slice A4 n c4] := by rw [hV13]; exact Cel.new _ _ _
                have hb13 := hb12.trans (bV13.mono hb12.size)
                have own13 := Row.Os.below own12 bV13
                have X23 := Cel.on X7 hb13
                have x230 := X23.cell 0
                have x234 := X23.cell 4
                have x236 := X23.cell 6
                simp at x230 x234 x236
                rw [← hV13]
                clear hV13
                refine hK.out _ _ ⟨x230, x234⟩ (fun hHeld => ?_)
                clear hK K
                try simp only [Act.put, List.setIfInBounds_toArray, List.set_cons_zero, List.set_cons_succ]
                refine wpAnyH_alone 13 rfl (by kernel_rfl) (fun K hK => ?_)
                refine Row.step_row _ encT_ok is_flights (by decide) rfl (.tmp 70) (.tmp 79) rfl (v := v12) (m := ts) rfl own13 (l := [(⟨X, ⟨D, A4, c4⟩⟩ : Tq)]) (n := 1) (A := some ⟨V12.heap.size, 0, none⟩) (c := 1) rfl rfl (Rs_cel cN13 (by unfold encT; rw [HDl.out])) (fun h => nomatch h) (by rw [HTL.out]; simp; omega) hb13.size ?_
                intro v14 V14 own14 gr14 hv14
                obtain ⟨A8, c8, e8, hsq⟩ := Sq.own encT_ok own14 (by decide) (n := nL + 1) (by rw [List.length_append, HTL.out]; rfl)
                subst e8
                have hb14 := hb13.grown gr14 hb13.size (fun i hi => (own13.lt i hi).1)
                have HFQ : Hid (Fq V14 A8 (nL + 1) c8 (wt ++ [(X, D)])) := Lib.hid ⟨_, by rw [List.map_append, HTP.out]; rfl, hsq, fun y hy => by
                  rcases List.mem_append.1 hy with hy | hy
                  · exact (HDQ.out y hy).keep (Kq.of_below hb14)
                  · rw [List.mem_singleton.1 hy]; exact HD6.out.keep (Kq.of_below hb14)⟩
                have X24 := Cel.on X7 hb14
                have x240 := X24.cell 0
                have x244 := X24.cell 4
                have x246 := X24.cell 6
                simp at x240 x244 x246
                have x24f := X24.free 6
                have N14 := X24.put 6 (.slice A8 (nL + 1) c8)
                have n140 := N14.cell 0
                have n144 := N14.cell 4
                simp at n140 n144
                refine hK.out _ _ ⟨x240, x244⟩ (fun hHeld => ?_)
                clear hK K
                try simp only [Act.put, List.setIfInBounds_toArray, List.set_cons_zero, List.set_cons_succ]
                refine wpAnyH_here 14 (v := ?_) rfl (by kernel_rfl) (by kernel_rfl) (by kernel_rfl) (fun _ _ _ h => h) (Or.inl ⟨by rfl, ?_⟩) hHeld ?_
                rotate_left
                · intro w hSw; (try dsimp only at hSw); go_simp; all_goals (with_reducible rfl)
                try simp only [Act.put, List.setIfInBounds_toArray, List.set_cons_zero, List.set_cons_succ]
                refine wpAnyH_alone 15 rfl (by kernel_rfl) (fun K hK => ?_)
                go_simp
                skip
                refine hK.out _ _ (⟨n140, n144⟩) (fun hHeld => ?_)
                clear hK K
                try simp only [Act.put, List.setIfInBounds_toArray, List.set_cons_zero, List.set_cons_succ]
                refine wpAnyH_done (by kernel_rfl) ?_ _
                have KW := (Only.refl [w.heap.size] V14).put (p := ⟨w.heap.size, 6, none⟩) (.inl (by simp)) (Value.slice A8 (nL + 1) c8)
                have ZW := (Cel.on Z7 hb14).only KW (by simp)
                have BW := (B7.trans (hb14.mono B7.size)).trans (KW.below (B7.trans (hb14.mono B7.size)).size (by simp))
                have FQW := HFQ.out.keep (Kq.of_only KW (fun x hx => by rw [List.mem_singleton.1 hx]; exact not_fx X24 (by decide)))
                have XW : Cel (V14.setCell ⟨w.heap.size, 6, none⟩ (Value.slice A8 (nL + 1) c8)) w.heap.size 36 #[I dl, .slice Ao no co, .slice Al nl cl, .slice Af nf cf, I t, I (sn : Int), .slice A8 (nL + 1) c8] := N14
                obtain ⟨W9, hW9⟩ : ∃ W9, W9 = V14.setCell ⟨w.heap.size, 6, none⟩ (Value.slice A8 (nL + 1) c8) := ⟨_, rfl⟩
                rw [← hW9] at ZW BW FQW XW ⊢
                clear hW9 KW N14
                have x0 := XW.cell 0
                have x1 := XW.cell 1
                have x2 := XW.cell 2
                have x3 := XW.cell 3
                have x4 := XW.cell 4
                have x5 := XW.cell 5
                have x6 := XW.cell 6
                simp at x0 x1 x2 x3 x4 x5 x6
                have z0 := ZW.cell 0
                have z1 := ZW.cell 1
                have z2 := ZW.cell 2
                have z3 := ZW.cell 3
                have z4 := ZW.cell 4
                have z5 := ZW.cell 5
                have z6 := ZW.cell 6
                simp at z0 z1 z2 z3 z4 z5 z6
                have fx := XW.free 5
                have y0 := ZW.free 0
                have y1 := ZW.free 1
                have y2 := ZW.free 2
                have y3 := ZW.free 3
                have y4 := ZW.free 4
                have y5 := ZW.free 5
                have y6 := ZW.free 6
                have Z9 := ZW.only (S := [w.heap.size]) ((Only.refl _ _).put (p := ⟨w.heap.size, 5, none⟩) (.inl (by simp)) (I ((sn : Int) + 1))) (by simp)
                have B9 := put7_below (BW.trans (((Only.refl [w.heap.size] W9).put (p := ⟨w.heap.size, 5, none⟩) (.inl (by simp)) (I ((sn : Int) + 1))).below BW.size (by simp))) (by omega : w.heap.size ≤ w.heap.size + 1) (I dl) (.slice Ao no co) (.slice Al nl cl) (.slice Af nf cf) (I t) (I ((sn : Int) + 1)) (.slice A8 (nL + 1) c8)
                have K9 : Only [w.heap.size, w.heap.size + 1] W9 (put7 (W9.setCell ⟨w.heap.size, 5, none⟩ (I ((sn : Int) + 1))) (w.heap.size + 1) (I dl) (.slice Ao no co) (.slice Al nl cl) (.slice Af nf cf) (I t) (I ((sn : Int) + 1)) (.slice A8 (nL + 1) c8)) := (((Only.refl [w.heap.size] W9).put (p := ⟨w.heap.size, 5, none⟩) (.inl (by simp)) (I ((sn : Int) + 1))).more (fun x hx => .inl (by simp at hx; simp [hx]))).trans (put7_only _ _ _ _ _ _ _ _ _) (fun x hx => .inl (by simp at hx; simp [hx]))
                have Q9 := Kq.of_only K9 (fun x hx => by
                  rcases List.mem_cons.1 hx with rfl | hx
                  · exact not_fx XW (by decide)
                  · rw [List.mem_singleton.1 hx]; exact not_fx ZW (by decide))
                have HFq := Lib.hid ((FQW).keep Q9)
                have HB9 := Lib.hid B9
                have HZ9 := Lib.hid Z9
                clear B9 Z9 K9 Q9 XW ZW
                go_wp2_with fail
                exact bodyPost_ret (xsend_results rfl (put7_cel HZ9.out _ _ _ _ _ _ _)) rfl ⟨⟨_, _, _, (by rw [HS2.out]; rfl), by rw [HS2.out]; exact HFq.out⟩, HB9.out⟩
              · go_simp
                obtain ⟨V15, hV15⟩ : ∃ V, V = V11.alloc (.cells #[I X, .slice A4 n c4] 75) := ⟨_, rfl⟩
                have bV15 : Below V11.heap.size V11 V15 := by rw [hV15]; exact bel_new _ _
                have cN15 : Cel V15 V11.heap.size 75 #[I X, .slice A4 n c4] := by rw [hV15]; exact Cel.new _ _ _
                have hb15 := hb11.trans (bV15.mono hb11.size)
                have cE15 := Cel.on cN11 bV15
                have hxe15 : V11.heap.size ≠ W0.heap.size := Ne.symm (Nat.ne_of_lt cN11.lt)
                have X25 := Cel.on X7 hb15
                have x250 := X25.cell 0
                have x254 := X25.cell 4
                have x256 := X25.cell 6
                simp at x250 x254 x256
                rw [← hV15]
                clear hV15
                refine hK.out _ _ ⟨x250, x254⟩ (fun hHeld => ?_)
                clear hK K
                try simp only [Act.put, List.setIfInBounds_toArray, List.set_cons_zero, List.set_cons_succ]
                refine wpAnyH_alone 3 rfl (by kernel_rfl) (fun K hK => ?_)
                refine Row.step_row _ encT_ok is_flights (by decide) rfl (.tmp 67) (.tmp 69) rfl (v := Value.slice (some ⟨W0.heap.size, 0, none⟩) 0 0) (m := []) rfl (Os_cel0 cE15 (hb0.size)) (l := ts) (n := nL) (A := AL) (c := cL) HTL.out rfl (HSL.out.sl.below hb15).r HSL.out.nil (by rw [HTL.out]; simp; omega) hb15.size ?_
                intro v16 V16 own16 gr16 hv16
                rw [List.nil_append] at own16
                have hb16 := hb15.grown gr16 hb15.size (fun i hi => by injection hi with hi; have := hb0.size; simp at hi; omega)
                have cX16 := cN15.only (Only.of_grown gr16) (by simpa [Value.ownBlock] using hxe15)
                have X26 := Cel.on X7 hb16
                have x260 := X26.cell 0
                have x264 := X26.cell 4
                have x266 := X26.cell 6
                simp at x260 x264 x266
                refine hK.out _ _ ⟨x260, x264⟩ (fun hHeld => ?_)
                clear hK K
                try simp only [Act.put, List.setIfInBounds_toArray, List.set_cons_zero, List.set_cons_succ]
                refine wpAnyH_alone 13 rfl (by kernel_rfl) (fun K hK => ?_)
                refine Row.step_row _ encT_ok is_flights (by decide) rfl (.tmp 70) (.tmp 79) rfl (v := v16) (m := ts) rfl own16 (l := [(⟨X, ⟨D, A4, c4⟩⟩ : Tq)]) (n := 1) (A := some ⟨V11.heap.size, 0, none⟩) (c := 1) rfl rfl (Rs_cel cX16 (by unfold encT; rw [HDl.out])) (fun h => nomatch h) (by rw [HTL.out]; simp; omega) hb16.size ?_
                intro v17 V17 own17 gr17 hv17
                obtain ⟨A8, c8, e8, hsq⟩ := Sq.own encT_ok own17 (by decide) (n := nL + 1) (by rw [List.length_append, HTL.out]; rfl)
                subst e8
                have hb17 := hb16.grown gr17 hb16.size (fun i hi => (own16.lt i hi).1)
                have HFQ : Hid (Fq V17 A8 (nL + 1) c8 (wt ++ [(X, D)])) := Lib.hid ⟨_, by rw [List.map_append, HTP.out]; rfl, hsq, fun y hy => by
                  rcases List.mem_append.1 hy with hy | hy
                  · exact (HDQ.out y hy).keep (Kq.of_below hb17)
                  · rw [List.mem_singleton.1 hy]; exact HD6.out.keep (Kq.of_below hb17)⟩
                have X27 := Cel.on X7 hb17
                have x270 := X27.cell 0
                have x274 := X27.cell 4
                have x276 := X27.cell 6
                simp at x270 x274 x276
                have x27f := X27.free 6
                have N17 := X27.put 6 (.slice A8 (nL + 1) c8)
                have n170 := N17.cell 0
                have n174 := N17.cell 4
                simp at n170 n174
                refine hK.out _ _ ⟨x270, x274⟩ (fun hHeld => ?_)
                clear hK K
                try simp only [Act.put, List.setIfInBounds_toArray, List.set_cons_zero, List.set_cons_succ]
                refine wpAnyH_here 14 (v := ?_) rfl (by kernel_rfl) (by kernel_rfl) (by kernel_rfl) (fun _ _ _ h => h) (Or.inl ⟨by rfl, ?_⟩) hHeld ?_
                rotate_left
                · intro w hSw; (try dsimp only at hSw); go_simp; all_goals (with_reducible rfl)
                try simp only [Act.put, List.setIfInBounds_toArray, List.set_cons_zero, List.set_cons_succ]
                refine wpAnyH_alone 15 rfl (by kernel_rfl) (fun K hK => ?_)
                go_simp
                skip
                refine hK.out _ _ (⟨n170, n174⟩) (fun hHeld => ?_)
                clear hK K
                try simp only [Act.put, List.setIfInBounds_toArray, List.set_cons_zero, List.set_cons_succ]
                refine wpAnyH_done (by kernel_rfl) ?_ _
                have KW := (Only.refl [w.heap.size] V17).put (p := ⟨w.heap.size, 6, none⟩) (.inl (by simp)) (Value.slice A8 (nL + 1) c8)
                have ZW := (Cel.on Z7 hb17).only KW (by simp)
                have BW := (B7.trans (hb17.mono B7.size)).trans (KW.below (B7.trans (hb17.mono B7.size)).size (by simp))
                have FQW := HFQ.out.keep (Kq.of_only KW (fun x hx => by rw [List.mem_singleton.1 hx]; exact not_fx X27 (by decide)))
                have XW : Cel (V17.setCell ⟨w.heap.size, 6, none⟩ (Value.slice A8 (nL + 1) c8)) w.heap.size 36 #[I dl, .slice Ao no co, .slice Al nl cl, .slice Af nf cf, I t, I (sn : Int), .slice A8 (nL + 1) c8] := N17
                obtain ⟨W9, hW9⟩ : ∃ W9, W9 = V17.setCell ⟨w.heap.size, 6, none⟩ (Value.slice A8 (nL + 1) c8) := ⟨_, rfl⟩
                rw [← hW9] at ZW BW FQW XW ⊢
                clear hW9 KW N17
                have x0 := XW.cell 0
                have x1 := XW.cell 1
                have x2 := XW.cell 2
                have x3 := XW.cell 3
                have x4 := XW.cell 4
                have x5 := XW.cell 5
                have x6 := XW.cell 6
                simp at x0 x1 x2 x3 x4 x5 x6
                have z0 := ZW.cell 0
                have z1 := ZW.cell 1
                have z2 := ZW.cell 2
                have z3 := ZW.cell 3
                have z4 := ZW.cell 4
                have z5 := ZW.cell 5
                have z6 := ZW.cell 6
                simp at z0 z1 z2 z3 z4 z5 z6
                have fx := XW.free 5
                have y0 := ZW.free 0
                have y1 := ZW.free 1
                have y2 := ZW.free 2
                have y3 := ZW.free 3
                have y4 := ZW.free 4
                have y5 := ZW.free 5
                have y6 := ZW.free 6
                have Z9 := ZW.only (S := [w.heap.size]) ((Only.refl _ _).put (p := ⟨w.heap.size, 5, none⟩) (.inl (by simp)) (I ((sn : Int) + 1))) (by simp)
                have B9 := put7_below (BW.trans (((Only.refl [w.heap.size] W9).put (p := ⟨w.heap.size, 5, none⟩) (.inl (by simp)) (I ((sn : Int) + 1))).below BW.size (by simp))) (by omega : w.heap.size ≤ w.heap.size + 1) (I dl) (.slice Ao no co) (.slice Al nl cl) (.slice Af nf cf) (I t) (I ((sn : Int) + 1)) (.slice A8 (nL + 1) c8)
                have K9 : Only [w.heap.size, w.heap.size + 1] W9 (put7 (W9.setCell ⟨w.heap.size, 5, none⟩ (I ((sn : Int) + 1))) (w.heap.size + 1) (I dl) (.slice Ao no co) (.slice Al nl cl) (.slice Af nf cf) (I t) (I ((sn : Int) + 1)) (.slice A8 (nL + 1) c8)) := (((Only.refl [w.heap.size] W9).put (p := ⟨w.heap.size, 5, none⟩) (.inl (by simp)) (I ((sn : Int) + 1))).more (fun x hx => .inl (by simp at hx; simp [hx]))).trans (put7_only _ _ _ _ _ _ _ _ _) (fun x hx => .inl (by simp at hx; simp [hx]))
                have Q9 := Kq.of_only K9 (fun x hx => by
                  rcases List.mem_cons.1 hx with rfl | hx
                  · exact not_fx XW (by decide)
                  · rw [List.mem_singleton.1 hx]; exact not_fx ZW (by decide))
                have HFq := Lib.hid ((FQW).keep Q9)
                have HB9 := Lib.hid B9
                have HZ9 := Lib.hid Z9
                clear B9 Z9 K9 Q9 XW ZW
                go_wp2_with fail
                exact bodyPost_ret (xsend_results rfl (put7_cel HZ9.out _ _ _ _ _ _ _)) rfl ⟨⟨_, _, _, (by rw [HS2.out]; rfl), by rw [HS2.out]; exact HFq.out⟩, HB9.out⟩
            · go_simp
              obtain ⟨V18, hV18⟩ : ∃ V, V = W0.alloc (.cells #[I X, .slice A4 n c4] 75) := ⟨_, rfl⟩
              have bV18 : Below W0.heap.size W0 V18 := by rw [hV18]; exact bel_new _ _
              have cN18 : Cel V18 W0.heap.size 75 #[I X, .slice A4 n c4] := by rw [hV18]; exact Cel.new _ _ _
              have hb18 := hb0.trans (bV18.mono hb0.size)
              have X28 := Cel.on X7 hb18
              have x280 := X28.cell 0
              have x284 := X28.cell 4
              have x286 := X28.cell 6
              simp at x280 x284 x286
              rw [← hV18]
              clear hV18
              refine hK.out _ _ ⟨x280, x284⟩ (fun hHeld => ?_)
              clear hK K
              try simp only [Act.put, List.setIfInBounds_toArray, List.set_cons_zero, List.set_cons_succ]
              refine wpAnyH_alone 0 rfl (by kernel_rfl) (fun K hK => ?_)
              go_simp
              obtain ⟨V19, hV19⟩ : ∃ V, V = V18.alloc (.cells #[] 75) := ⟨_, rfl⟩
              have bV19 : Below V18.heap.size V18 V19 := by rw [hV19]; exact bel_new _ _
              have cN19 : Cel V19 V18.heap.size 75 #[] := by rw [hV19]; exact Cel.new _ _ _
              have hb19 := hb18.trans (bV19.mono hb18.size)
              have cX19 := Cel.on cN18 bV19
              have hxe19 : W0.heap.size ≠ V18.heap.size := Nat.ne_of_lt cN18.lt
              have X29 := Cel.on X7 hb19
              have x290 := X29.cell 0
              have x294 := X29.cell 4
              have x296 := X29.cell 6
              simp at x290 x294 x296
              rw [← hV19]
              clear hV19
              refine hK.out _ _ ⟨x290, x294⟩ (fun hHeld => ?_)
              clear hK K
              try simp only [Act.put, List.setIfInBounds_toArray, List.set_cons_zero, List.set_cons_succ]
              refine wpAnyH_alone 3 rfl (by kernel_rfl) (fun K hK => ?_)
              refine Row.step_row _ encT_ok is_flights (by decide) rfl (.tmp 67) (.tmp 69) rfl (v := Value.slice (some ⟨V18.heap.size, 0, none⟩) 0 0) (m := []) rfl (Os_cel0 cN19 (hb18.size)) (l := ts) (n := nL) (A := AL) (c := cL) HTL.out rfl (HSL.out.sl.below hb19).r HSL.out.nil (by rw [HTL.out]; simp; omega) hb19.size ?_
              intro v20 V20 own20 gr20 hv20
              rw [List.nil_append] at own20
              have hb20 := hb19.grown gr20 hb19.size (fun i hi => by injection hi with hi; have := hb18.size; simp at hi; omega)
              have cX20 := cX19.only (Only.of_grown gr20) (by simpa [Value.ownBlock] using hxe19)
              have X30 := Cel.on X7 hb20
              have x300 := X30.cell 0
              have x304 := X30.cell 4
              have x306 := X30.cell 6
              simp at x300 x304 x306
              refine hK.out _ _ ⟨x300, x304⟩ (fun hHeld => ?_)
              clear hK K
              try simp only [Act.put, List.setIfInBounds_toArray, List.set_cons_zero, List.set_cons_succ]
              refine wpAnyH_alone 13 rfl (by kernel_rfl) (fun K hK => ?_)
              refine Row.step_row _ encT_ok is_flights (by decide) rfl (.tmp 70) (.tmp 79) rfl (v := v20) (m := ts) rfl own20 (l := [(⟨X, ⟨D, A4, c4⟩⟩ : Tq)]) (n := 1) (A := some ⟨W0.heap.size, 0, none⟩) (c := 1) rfl rfl (Rs_cel cX20 (by unfold encT; rw [HDl.out])) (fun h => nomatch h) (by rw [HTL.out]; simp; omega) hb20.size ?_
              intro v21 V21 own21 gr21 hv21
              obtain ⟨A8, c8, e8, hsq⟩ := Sq.own encT_ok own21 (by decide) (n := nL + 1) (by rw [List.length_append, HTL.out]; rfl)
              subst e8
              have hb21 := hb20.grown gr21 hb20.size (fun i hi => (own20.lt i hi).1)
              have HFQ : Hid (Fq V21 A8 (nL + 1) c8 (wt ++ [(X, D)])) := Lib.hid ⟨_, by rw [List.map_append, HTP.out]; rfl, hsq, fun y hy => by
                rcases List.mem_append.1 hy with hy | hy
                · exact (HDQ.out y hy).keep (Kq.of_below hb21)
                · rw [List.mem_singleton.1 hy]; exact HD6.out.keep (Kq.of_below hb21)⟩
              have X31 := Cel.on X7 hb21
              have x310 := X31.cell 0
              have x314 := X31.cell 4
              have x316 := X31.cell 6
              simp at x310 x314 x316
              have x31f := X31.free 6
              have N21 := X31.put 6 (.slice A8 (nL + 1) c8)
              have n210 := N21.cell 0
              have n214 := N21.cell 4
              simp at n210 n214
              refine hK.out _ _ ⟨x310, x314⟩ (fun hHeld => ?_)
              clear hK K
              try simp only [Act.put, List.setIfInBounds_toArray, List.set_cons_zero, List.set_cons_succ]
              refine wpAnyH_here 14 (v := ?_) rfl (by kernel_rfl) (by kernel_rfl) (by kernel_rfl) (fun _ _ _ h => h) (Or.inl ⟨by rfl, ?_⟩) hHeld ?_
              rotate_left
              · intro w hSw; (try dsimp only at hSw); go_simp; all_goals (with_reducible rfl)
              try simp only [Act.put, List.setIfInBounds_toArray, List.set_cons_zero, List.set_cons_succ]
              refine wpAnyH_alone 15 rfl (by kernel_rfl) (fun K hK => ?_)
              go_simp
              skip
              refine hK.out _ _ (⟨n210, n214⟩) (fun hHeld => ?_)
              clear hK K
              try simp only [Act.put, List.setIfInBounds_toArray, List.set_cons_zero, List.set_cons_succ]
              refine wpAnyH_done (by kernel_rfl) ?_ _
              have KW := (Only.refl [w.heap.size] V21).put (p := ⟨w.heap.size, 6, none⟩) (.inl (by simp)) (Value.slice A8 (nL + 1) c8)
              have ZW := (Cel.on Z7 hb21).only KW (by simp)
              have BW := (B7.trans (hb21.mono B7.size)).trans (KW.below (B7.trans (hb21.mono B7.size)).size (by simp))
              have FQW := HFQ.out.keep (Kq.of_only KW (fun x hx => by rw [List.mem_singleton.1 hx]; exact not_fx X31 (by decide)))
              have XW : Cel (V21.setCell ⟨w.heap.size, 6, none⟩ (Value.slice A8 (nL + 1) c8)) w.heap.size 36 #[I dl, .slice Ao no co, .slice Al nl cl, .slice Af nf cf, I t, I (sn : Int), .slice A8 (nL + 1) c8] := N21
              obtain ⟨W9, hW9⟩ : ∃ W9, W9 = V21.setCell ⟨w.heap.size, 6, none⟩ (Value.slice A8 (nL + 1) c8) := ⟨_, rfl⟩
              rw [← hW9] at ZW BW FQW XW ⊢
              clear hW9 KW N21
              have x0 := XW.cell 0
              have x1 := XW.cell 1
              have x2 := XW.cell 2
              have x3 := XW.cell 3
              have x4 := XW.cell 4
              have x5 := XW.cell 5
              have x6 := XW.cell 6
              simp at x0 x1 x2 x3 x4 x5 x6
              have z0 := ZW.cell 0
              have z1 := ZW.cell 1
              have z2 := ZW.cell 2
              have z3 := ZW.cell 3
              have z4 := ZW.cell 4
              have z5 := ZW.cell 5
              have z6 := ZW.cell 6
              simp at z0 z1 z2 z3 z4 z5 z6
              have fx := XW.free 5
              have y0 := ZW.free 0
              have y1 := ZW.free 1
              have y2 := ZW.free 2
              have y3 := ZW.free 3
              have y4 := ZW.free 4
              have y5 := ZW.free 5
              have y6 := ZW.free 6
              have Z9 := ZW.only (S := [w.heap.size]) ((Only.refl _ _).put (p := ⟨w.heap.size, 5, none⟩) (.inl (by simp)) (I ((sn : Int) + 1))) (by simp)
              have B9 := put7_below (BW.trans (((Only.refl [w.heap.size] W9).put (p := ⟨w.heap.size, 5, none⟩) (.inl (by simp)) (I ((sn : Int) + 1))).below BW.size (by simp))) (by omega : w.heap.size ≤ w.heap.size + 1) (I dl) (.slice Ao no co) (.slice Al nl cl) (.slice Af nf cf) (I t) (I ((sn : Int) + 1)) (.slice A8 (nL + 1) c8)
              have K9 : Only [w.heap.size, w.heap.size + 1] W9 (put7 (W9.setCell ⟨w.heap.size, 5, none⟩ (I ((sn : Int) + 1))) (w.heap.size + 1) (I dl) (.slice Ao no co) (.slice Al nl cl) (.slice Af nf cf) (I t) (I ((sn : Int) + 1)) (.slice A8 (nL + 1) c8)) := (((Only.refl [w.heap.size] W9).put (p := ⟨w.heap.size, 5, none⟩) (.inl (by simp)) (I ((sn : Int) + 1))).more (fun x hx => .inl (by simp at hx; simp [hx]))).trans (put7_only _ _ _ _ _ _ _ _ _) (fun x hx => .inl (by simp at hx; simp [hx]))
              have Q9 := Kq.of_only K9 (fun x hx => by
                rcases List.mem_cons.1 hx with rfl | hx
                · exact not_fx XW (by decide)
                · rw [List.mem_singleton.1 hx]; exact not_fx ZW (by decide))
              have HFq := Lib.hid ((FQW).keep Q9)
              have HB9 := Lib.hid B9
              have HZ9 := Lib.hid Z9
              clear B9 Z9 K9 Q9 XW ZW
              go_wp2_with fail
              exact bodyPost_ret (xsend_results rfl (put7_cel HZ9.out _ _ _ _ _ _ _)) rfl ⟨⟨_, _, _, (by rw [HS2.out]; rfl), by rw [HS2.out]; exact HFq.out⟩, HB9.out⟩
          · go_simp
            obtain ⟨V22, hV22⟩ : ∃ V, V = W0.alloc (.cells #[I X, .slice A4 n c4] 75) := ⟨_, rfl⟩
            have bV22 : Below W0.heap.size W0 V22 := by rw [hV22]; exact bel_new _ _
            have cN22 : Cel V22 W0.heap.size 75 #[I X, .slice A4 n c4] := by rw [hV22]; exact Cel.new _ _ _
            have hb22 := hb0.trans (bV22.mono hb0.size)
            have X32 := Cel.on X7 hb22
            have x320 := X32.cell 0
            have x324 := X32.cell 4
            have x326 := X32.cell 6
            simp at x320 x324 x326
            rw [← hV22]
            clear hV22
            refine hK.out _ _ ⟨x320, x324⟩ (fun hHeld => ?_)
            clear hK K
            try simp only [Act.put, List.setIfInBounds_toArray, List.set_cons_zero, List.set_cons_succ]
            refine wpAnyH_both 0 2 rfl rfl (by kernel_rfl) (fun K hK => ?_) (fun K hK => ?_)
            · go_simp
              obtain ⟨V23, hV23⟩ : ∃ V, V = V22.alloc (.cells #[] 75) := ⟨_, rfl⟩
              have bV23 : Below V22.heap.size V22 V23 := by rw [hV23]; exact bel_new _ _
              have cN23 : Cel V23 V22.heap.size 75 #[] := by rw [hV23]; exact Cel.new _ _ _
              have hb23 := hb22.trans (bV23.mono hb22.size)
              have cX23 := Cel.on cN22 bV23
              have hxe23 : W0.heap.size ≠ V22.heap.size := Nat.ne_of_lt cN22.lt
              have X33 := Cel.on X7 hb23
              have x330 := X33.cell 0
              have x334 := X33.cell 4
              have x336 := X33.cell 6
              simp at x330 x334 x336
              rw [← hV23]
              clear hV23
              refine hK.out _ _ ⟨x330, x334⟩ (fun hHeld => ?_)
              clear hK K
              try simp only [Act.put, List.setIfInBounds_toArray, List.set_cons_zero, List.set_cons_succ]
              refine wpAnyH_alone 2 rfl (by kernel_rfl) (fun K hK => ?_)
              go_simp
              refine hK.out _ _ ⟨x330, x334⟩ (fun hHeld => ?_)
              clear hK K
              try simp only [Act.put, List.setIfInBounds_toArray, List.set_cons_zero, List.set_cons_succ]
              refine wpAnyH_alone 3 rfl (by kernel_rfl) (fun K hK => ?_)
              refine Row.step_row _ encT_ok is_flights (by decide) rfl (.tmp 67) (.tmp 69) rfl (v := Value.slice (some ⟨V22.heap.size, 0, none⟩) 0 0) (m := []) rfl (Os_cel0 cN23 (hb22.size)) (l := ts) (n := nL) (A := AL) (c := cL) HTL.out rfl (HSL.out.sl.below hb23).r HSL.out.nil (by rw [HTL.out]; simp; omega) hb23.size ?_
              intro v24 V24 own24 gr24 hv24
              rw [List.nil_append] at own24
              have hb24 := hb23.grown gr24 hb23.size (fun i hi => by injection hi with hi; have := hb22.size; simp at hi; omega)
              have cX24 := cX23.only (Only.of_grown gr24) (by simpa [Value.ownBlock] using hxe23)
              have X34 := Cel.on X7 hb24
              have x340 := X34.cell 0
              have x344 := X34.cell 4
              have x346 := X34.cell 6
              simp at x340 x344 x346
              refine hK.out _ _ ⟨x340, x344⟩ (fun hHeld => ?_)
              clear hK K
              try simp only [Act.put, List.setIfInBounds_toArray, List.set_cons_zero, List.set_cons_succ]
              refine wpAnyH_alone 13 rfl (by kernel_rfl) (fun K hK => ?_)
              refine Row.step_row _ encT_ok is_flights (by decide) rfl (.tmp 70) (.tmp 79) rfl (v := v24) (m := ts) rfl own24 (l := [(⟨X, ⟨D, A4, c4⟩⟩ : Tq)]) (n := 1) (A := some ⟨W0.heap.size, 0, none⟩) (c := 1) rfl rfl (Rs_cel cX24 (by unfold encT; rw [HDl.out])) (fun h => nomatch h) (by rw [HTL.out]; simp; omega) hb24.size ?_
              intro v25 V25 own25 gr25 hv25
              obtain ⟨A8, c8, e8, hsq⟩ := Sq.own encT_ok own25 (by decide) (n := nL + 1) (by rw [List.length_append, HTL.out]; rfl)
              subst e8
              have hb25 := hb24.grown gr25 hb24.size (fun i hi => (own24.lt i hi).1)
              have HFQ : Hid (Fq V25 A8 (nL + 1) c8 (wt ++ [(X, D)])) := Lib.hid ⟨_, by rw [List.map_append, HTP.out]; rfl, hsq, fun y hy => by
                rcases List.mem_append.1 hy with hy | hy
                · exact (HDQ.out y hy).keep (Kq.of_below hb25)
                · rw [List.mem_singleton.1 hy]; exact HD6.out.keep (Kq.of_below hb25)⟩
              have X35 := Cel.on X7 hb25
              have x350 := X35.cell 0
              have x354 := X35.cell 4
              have x356 := X35.cell 6
              simp at x350 x354 x356
              have x35f := X35.free 6
              have N25 := X35.put 6 (.slice A8 (nL + 1) c8)
              have n250 := N25.cell 0
              have n254 := N25.cell 4
              simp at n250 n254
              refine hK.out _ _ ⟨x350, x354⟩ (fun hHeld => ?_)
              clear hK K
              try simp only [Act.put, List.setIfInBounds_toArray, List.set_cons_zero, List.set_cons_succ]
              refine wpAnyH_here 14 (v := ?_) rfl (by kernel_rfl) (by kernel_rfl) (by kernel_rfl) (fun _ _ _ h => h) (Or.inl ⟨by rfl, ?_⟩) hHeld ?_
              rotate_left
              · intro w hSw; (try dsimp only at hSw); go_simp; all_goals (with_reducible rfl)
              try simp only [Act.put, List.setIfInBounds_toArray, List.set_cons_zero, List.set_cons_succ]
              refine wpAnyH_alone 15 rfl (by kernel_rfl) (fun K hK => ?_)
              go_simp
              skip
              refine hK.out _ _ (⟨n250, n254⟩) (fun hHeld => ?_)
              clear hK K
              try simp only [Act.put, List.setIfInBounds_toArray, List.set_cons_zero, List.set_cons_succ]
              refine wpAnyH_done (by kernel_rfl) ?_ _
              have KW := (Only.refl [w.heap.size] V25).put (p := ⟨w.heap.size, 6, none⟩) (.inl (by simp)) (Value.slice A8 (nL + 1) c8)
              have ZW := (Cel.on Z7 hb25).only KW (by simp)
              have BW := (B7.trans (hb25.mono B7.size)).trans (KW.below (B7.trans (hb25.mono B7.size)).size (by simp))
              have FQW := HFQ.out.keep (Kq.of_only KW (fun x hx => by rw [List.mem_singleton.1 hx]; exact not_fx X35 (by decide)))
              have XW : Cel (V25.setCell ⟨w.heap.size, 6, none⟩ (Value.slice A8 (nL + 1) c8)) w.heap.size 36 #[I dl, .slice Ao no co, .slice Al nl cl, .slice Af nf cf, I t, I (sn : Int), .slice A8 (nL + 1) c8] := N25
              obtain ⟨W9, hW9⟩ : ∃ W9, W9 = V25.setCell ⟨w.heap.size, 6, none⟩ (Value.slice A8 (nL + 1) c8) := ⟨_, rfl⟩
              rw [← hW9] at ZW BW FQW XW ⊢
              clear hW9 KW N25
              have x0 := XW.cell 0
              have x1 := XW.cell 1
              have x2 := XW.cell 2
              have x3 := XW.cell 3
              have x4 := XW.cell 4
              have x5 := XW.cell 5
              have x6 := XW.cell 6
              simp at x0 x1 x2 x3 x4 x5 x6
              have z0 := ZW.cell 0
              have z1 := ZW.cell 1
              have z2 := ZW.cell 2
              have z3 := ZW.cell 3
              have z4 := ZW.cell 4
              have z5 := ZW.cell 5
              have z6 := ZW.cell 6
              simp at z0 z1 z2 z3 z4 z5 z6
              have fx := XW.free 5
              have y0 := ZW.free 0
              have y1 := ZW.free 1
              have y2 := ZW.free 2
              have y3 := ZW.free 3
              have y4 := ZW.free 4
              have y5 := ZW.free 5
              have y6 := ZW.free 6
              have Z9 := ZW.only (S := [w.heap.size]) ((Only.refl _ _).put (p := ⟨w.heap.size, 5, none⟩) (.inl (by simp)) (I ((sn : Int) + 1))) (by simp)
              have B9 := put7_below (BW.trans (((Only.refl [w.heap.size] W9).put (p := ⟨w.heap.size, 5, none⟩) (.inl (by simp)) (I ((sn : Int) + 1))).below BW.size (by simp))) (by omega : w.heap.size ≤ w.heap.size + 1) (I dl) (.slice Ao no co) (.slice Al nl cl) (.slice Af nf cf) (I t) (I ((sn : Int) + 1)) (.slice A8 (nL + 1) c8)
              have K9 : Only [w.heap.size, w.heap.size + 1] W9 (put7 (W9.setCell ⟨w.heap.size, 5, none⟩ (I ((sn : Int) + 1))) (w.heap.size + 1) (I dl) (.slice Ao no co) (.slice Al nl cl) (.slice Af nf cf) (I t) (I ((sn : Int) + 1)) (.slice A8 (nL + 1) c8)) := (((Only.refl [w.heap.size] W9).put (p := ⟨w.heap.size, 5, none⟩) (.inl (by simp)) (I ((sn : Int) + 1))).more (fun x hx => .inl (by simp at hx; simp [hx]))).trans (put7_only _ _ _ _ _ _ _ _ _) (fun x hx => .inl (by simp at hx; simp [hx]))
              have Q9 := Kq.of_only K9 (fun x hx => by
                rcases List.mem_cons.1 hx with rfl | hx
                · exact not_fx XW (by decide)
                · rw [List.mem_singleton.1 hx]; exact not_fx ZW (by decide))
              have HFq := Lib.hid ((FQW).keep Q9)
              have HB9 := Lib.hid B9
              have HZ9 := Lib.hid Z9
              clear B9 Z9 K9 Q9 XW ZW
              go_wp2_with fail
              exact bodyPost_ret (xsend_results rfl (put7_cel HZ9.out _ _ _ _ _ _ _)) rfl ⟨⟨_, _, _, (by rw [HS2.out]; rfl), by rw [HS2.out]; exact HFq.out⟩, HB9.out⟩
            · go_simp
              refine hK.out _ _ ⟨x320, x324⟩ (fun hHeld => ?_)
              clear hK K
              try simp only [Act.put, List.setIfInBounds_toArray, List.set_cons_zero, List.set_cons_succ]
              refine wpAnyH_alone 0 rfl (by kernel_rfl) (fun K hK => ?_)
              go_simp
              obtain ⟨V26, hV26⟩ : ∃ V, V = V22.alloc (.cells #[] 75) := ⟨_, rfl⟩
              have bV26 : Below V22.heap.size V22 V26 := by rw [hV26]; exact bel_new _ _
              have cN26 : Cel V26 V22.heap.size 75 #[] := by rw [hV26]; exact Cel.new _ _ _
              have hb26 := hb22.trans (bV26.mono hb22.size)
              have cX26 := Cel.on cN22 bV26
              have hxe26 : W0.heap.size ≠ V22.heap.size := Nat.ne_of_lt cN22.lt
              have X36 := Cel.on X7 hb26
              have x360 := X36.cell 0
              have x364 := X36.cell 4
              have x366 := X36.cell 6
              simp at x360 x364 x366
              rw [← hV26]
              clear hV26
              refine hK.out _ _ ⟨x360, x364⟩ (fun hHeld => ?_)
              clear hK K
              try simp only [Act.put, List.setIfInBounds_toArray, List.set_cons_zero, List.set_cons_succ]
              refine wpAnyH_alone 3 rfl (by kernel_rfl) (fun K hK => ?_)
              refine Row.step_row _ encT_ok is_flights (by decide) rfl (.tmp 67) (.tmp 69) rfl (v := Value.slice (some ⟨V22.heap.size, 0, none⟩) 0 0) (m := []) rfl (Os_cel0 cN26 (hb22.size)) (l := ts) (n := nL) (A := AL) (c := cL) HTL.out rfl (HSL.out.sl.below hb26).r HSL.out.nil (by rw [HTL.out]; simp; omega) hb26.size ?_
              intro v27 V27 own27 gr27 hv27
              rw [List.nil_append] at own27
              have hb27 := hb26.grown gr27 hb26.size (fun i hi => by injection hi with hi; have := hb22.size; simp at hi; omega)
              have cX27 := cX26.only (Only.of_grown gr27) (by simpa [Value.ownBlock] using hxe26)
              have X37 := Cel.on X7 hb27
              have x370 := X37.cell 0
              have x374 := X37.cell 4
              have x376 := X37.cell 6
              simp at x370 x374 x376
              refine hK.out _ _ ⟨x370, x374⟩ (fun hHeld => ?_)
              clear hK K
              try simp only [Act.put, List.setIfInBounds_toArray, List.set_cons_zero, List.set_cons_succ]
              refine wpAnyH_alone 13 rfl (by kernel_rfl) (fun K hK => ?_)
              refine Row.step_row _ encT_ok is_flights (by decide) rfl (.tmp 70) (.tmp 79) rfl (v := v27) (m := ts) rfl own27 (l := [(⟨X, ⟨D, A4, c4⟩⟩ : Tq)]) (n := 1) (A := some ⟨W0.heap.size, 0, none⟩) (c := 1) rfl rfl (Rs_cel cX27 (by unfold encT; rw [HDl.out])) (fun h => nomatch h) (by rw [HTL.out]; simp; omega) hb27.size ?_
              intro v28 V28 own28 gr28 hv28
              obtain ⟨A8, c8, e8, hsq⟩ := Sq.own encT_ok own28 (by decide) (n := nL + 1) (by rw [List.length_append, HTL.out]; rfl)
              subst e8
              have hb28 := hb27.grown gr28 hb27.size (fun i hi => (own27.lt i hi).1)
              have HFQ : Hid (Fq V28 A8 (nL + 1) c8 (wt ++ [(X, D)])) := Lib.hid ⟨_, by rw [List.map_append, HTP.out]; rfl, hsq, fun y hy => by
                rcases List.mem_append.1 hy with hy | hy
                · exact (HDQ.out y hy).keep (Kq.of_below hb28)
                · rw [List.mem_singleton.1 hy]; exact HD6.out.keep (Kq.of_below hb28)⟩
              have X38 := Cel.on X7 hb28
              have x380 := X38.cell 0
              have x384 := X38.cell 4
              have x386 := X38.cell 6
              simp at x380 x384 x386
              have x38f := X38.free 6
              have N28 := X38.put 6 (.slice A8 (nL + 1) c8)
              have n280 := N28.cell 0
              have n284 := N28.cell 4
              simp at n280 n284
              refine hK.out _ _ ⟨x380, x384⟩ (fun hHeld => ?_)
              clear hK K
              try simp only [Act.put, List.setIfInBounds_toArray, List.set_cons_zero, List.set_cons_succ]
              refine wpAnyH_here 14 (v := ?_) rfl (by kernel_rfl) (by kernel_rfl) (by kernel_rfl) (fun _ _ _ h => h) (Or.inl ⟨by rfl, ?_⟩) hHeld ?_
              rotate_left
              · intro w hSw; (try dsimp only at hSw); go_simp; all_goals (with_reducible rfl)
              try simp only [Act.put, List.setIfInBounds_toArray, List.set_cons_zero, List.set_cons_succ]
              refine wpAnyH_alone 15 rfl (by kernel_rfl) (fun K hK => ?_)
              go_simp
              skip
              refine hK.out _ _ (⟨n280, n284⟩) (fun hHeld => ?_)
              clear hK K
              try simp only [Act.put, List.setIfInBounds_toArray, List.set_cons_zero, List.set_cons_succ]
              refine wpAnyH_done (by kernel_rfl) ?_ _
              have KW := (Only.refl [w.heap.size] V28).put (p := ⟨w.heap.size, 6, none⟩) (.inl (by simp)) (Value.slice A8 (nL + 1) c8)
              have ZW := (Cel.on Z7 hb28).only KW (by simp)
              have BW := (B7.trans (hb28.mono B7.size)).trans (KW.below (B7.trans (hb28.mono B7.size)).size (by simp))
              have FQW := HFQ.out.keep (Kq.of_only KW (fun x hx => by rw [List.mem_singleton.1 hx]; exact not_fx X38 (by decide)))
              have XW : Cel (V28.setCell ⟨w.heap.size, 6, none⟩ (Value.slice A8 (nL + 1) c8)) w.heap.size 36 #[I dl, .slice Ao no co, .slice Al nl cl, .slice Af nf cf, I t, I (sn : Int), .slice A8 (nL + 1) c8] := N28
              obtain ⟨W9, hW9⟩ : ∃ W9, W9 = V28.setCell ⟨w.heap.size, 6, none⟩ (Value.slice A8 (nL + 1) c8) := ⟨_, rfl⟩
              rw [← hW9] at ZW BW FQW XW ⊢
              clear hW9 KW N28
              have x0 := XW.cell 0
              have x1 := XW.cell 1
              have x2 := XW.cell 2
              have x3 := XW.cell 3
              have x4 := XW.cell 4
              have x5 := XW.cell 5
              have x6 := XW.cell 6
              simp at x0 x1 x2 x3 x4 x5 x6
              have z0 := ZW.cell 0
              have z1 := ZW.cell 1
              have z2 := ZW.cell 2
              have z3 := ZW.cell 3
              have z4 := ZW.cell 4
              have z5 := ZW.cell 5
              have z6 := ZW.cell 6
              simp at z0 z1 z2 z3 z4 z5 z6
              have fx := XW.free 5
              have y0 := ZW.free 0
              have y1 := ZW.free 1
              have y2 := ZW.free 2
              have y3 := ZW.free 3
              have y4 := ZW.free 4
              have y5 := ZW.free 5
              have y6 := ZW.free 6
              have Z9 := ZW.only (S := [w.heap.size]) ((Only.refl _ _).put (p := ⟨w.heap.size, 5, none⟩) (.inl (by simp)) (I ((sn : Int) + 1))) (by simp)
              have B9 := put7_below (BW.trans (((Only.refl [w.heap.size] W9).put (p := ⟨w.heap.size, 5, none⟩) (.inl (by simp)) (I ((sn : Int) + 1))).below BW.size (by simp))) (by omega : w.heap.size ≤ w.heap.size + 1) (I dl) (.slice Ao no co) (.slice Al nl cl) (.slice Af nf cf) (I t) (I ((sn : Int) + 1)) (.slice A8 (nL + 1) c8)
              have K9 : Only [w.heap.size, w.heap.size + 1] W9 (put7 (W9.setCell ⟨w.heap.size, 5, none⟩ (I ((sn : Int) + 1))) (w.heap.size + 1) (I dl) (.slice Ao no co) (.slice Al nl cl) (.slice Af nf cf) (I t) (I ((sn : Int) + 1)) (.slice A8 (nL + 1) c8)) := (((Only.refl [w.heap.size] W9).put (p := ⟨w.heap.size, 5, none⟩) (.inl (by simp)) (I ((sn : Int) + 1))).more (fun x hx => .inl (by simp at hx; simp [hx]))).trans (put7_only _ _ _ _ _ _ _ _ _) (fun x hx => .inl (by simp at hx; simp [hx]))
              have Q9 := Kq.of_only K9 (fun x hx => by
                rcases List.mem_cons.1 hx with rfl | hx
                · exact not_fx XW (by decide)
                · rw [List.mem_singleton.1 hx]; exact not_fx ZW (by decide))
              have HFq := Lib.hid ((FQW).keep Q9)
              have HB9 := Lib.hid B9
              have HZ9 := Lib.hid Z9
              clear B9 Z9 K9 Q9 XW ZW
              go_wp2_with fail
              exact bodyPost_ret (xsend_results rfl (put7_cel HZ9.out _ _ _ _ _ _ _)) rfl ⟨⟨_, _, _, (by rw [HS2.out]; rfl), by rw [HS2.out]; exact HFq.out⟩, HB9.out⟩
      · have hkl : j < fl.length := by rw [HR.out]; exact hjn
        have hx := List.getElem?_eq_getElem hkl
        have HS9 := Lib.hid (flk_s (idx := (sn : Int)) (b := b) hx)
        obtain ⟨bf, off, rfl, hbf, e0, e1⟩ := r_at (hrf3.below hB) hkl
        have hp := HP.out _ (List.getElem_mem hkl)
        obtain ⟨Y, hY⟩ : ∃ Y, Y = flk fl (sn : Int) b j := ⟨_, rfl⟩
        have hYl : Y.length = n := by rw [hY, flk_len]; exact hl.out
        rw [← hY] at ho HS9
        generalize fl[j] = f at e0 e1 hp HS9
        clear hkl hY hx hrf3 hj0
        obtain ⟨fi, fbit⟩ := f
        dsimp only at e0 e1 hp
        have t0' : decide ((0 : Int) < (n : Int)) = true := by simp; omega
        have t0'' : decide (0 < n) = true := by simp; omega
        have hn8a : (0 : Int) < 8 * (n : Int) := by omega
        obtain ⟨gr, cp, e4, hgr, hgr2, _, _⟩ := Ow_form ho hYl h0
        injection e4 with e4 _ e5
        subst e4 e5
        by_cases hq : fi = (sn : Int)
        · subst hq
          obtain ⟨F, rfl⟩ := Int.eq_ofNat_of_zero_le hp.2
          obtain ⟨K, hK⟩ : ∃ K, K = F % (8 * n) := ⟨_, rfl⟩
          have hK8 : K < 8 * n := by rw [hK]; exact Nat.mod_lt _ (by omega)
          obtain ⟨J1, hJ1⟩ : ∃ J1, J1 = K / 8 := ⟨_, rfl⟩
          obtain ⟨J, hJ⟩ : ∃ J, J = K % 8 := ⟨_, rfl⟩
          have hJ8 : J < 8 := by omega
          have hJn : J1 < n := by omega
          obtain ⟨y, hy⟩ : ∃ y, Y[J1]? = some y := ⟨_, List.getElem?_eq_getElem (by omega)⟩
          have hst : flk fl (sn : Int) b (j + 1) = Y.set J1 (y ^^^ mk J) := by
            rw [HS9.out]
            unfold fl1
            simp only [if_pos, Int.toNat_natCast]
            rw [hYl, ← hK, fb_at (x := y) (by rw [← hJ1]; exact hy), ← hJ1, ← hJ]
          have hx := xor_r y hJ8
          obtain ⟨Z, hZ⟩ : ∃ Z, Z = y ^^^ mk J := ⟨_, rfl⟩
          rw [← hZ] at hx hst
          obtain ⟨P7, hP7⟩ : ∃ P7, P7 = 7 - J := ⟨_, rfl⟩
          rw [← hP7] at hx
          have t1 : (F : Int).tmod (8 * (n : Int)) = (K : Int) := by rw [hK, Int.tmod_eq_emod_of_nonneg (by omega)]; simp
          have t2 : (F : Int) % (8 * (n : Int)) = (K : Int) := by rw [hK]; simp
          have t3 : (K : Int) / 8 = (J1 : Int) := by omega
          have t4 : (K : Int).tdiv 8 = (J1 : Int) := by rw [Int.tdiv_eq_ediv_of_nonneg (by omega)]; omega
          have t5 : (K : Int) % 8 = (J : Int) := by omega
          have t6 : (K : Int).tmod 8 = (J : Int) := by rw [Int.tmod_eq_emod_of_nonneg (by omega)]; omega
          have t7 : (J1 : Int) < (n : Int) := by omega
          have t8 : ¬ 8 * (n : Int) = 0 := by omega
          have t9 : (7 : Int) - (J : Int) = (P7 : Int) := by omega
          have hP8 : P7 < 8 := by omega
          have p1 := fun q => Ow_at (ho.below (drewN_below wr q)) hYl hy
          have q1 := fun q => (p1 q).1
          have q2 := fun q => (p1 q).2
          have hnew := fun q => (ho.below (drewN_below wr q)).set_ (gr := gr) (i := J1) rfl Z
          rw [← hst] at hnew
          have hB2 : ∀ q, Below w3.heap.size w3 ((wr.drewN q).setCell ⟨gr, J1, none⟩ (B8 Z)) := fun q =>
            (hB.trans (drewN_below wr q)).trans (((Only.refl [gr] _).put (.inl (by simp)) _).below hB.size (by simpa using hgr))
          have HH := Lib.hid (fun q => And.intro (hnew q) (hB2 q))
          clear p1 hnew hB2 hst HS9 hy hK hJ1 hJ hp ho hB hYl hZ hK8 X3 Z3 B3 X5 Z5 B5 hP7
          go_wp2_with fail
          go_quiet (fail)
          have q1' := q1 nq
          have q2' := q2 nq
          go_wp2_with fail
          go_region
          go_wp2
          go_roundw
          case rel => exact ⟨j + 1, by go_num, hjn, fun h => by omega, (HH.out nq).1.drew, (HH.out nq).2.trans (drewN_below _ 1)⟩
          case measure => simp [intOf]; omega
        · have hst : flk fl (sn : Int) b (j + 1) = Y := by
            rw [HS9.out]
            exact if_neg hq
          rw [← hst] at ho
          have t1 : (fi == (sn : Int)) = false := by simpa using hq
          have HH := Lib.hid (And.intro ho hB)
          have hn0 : ¬ n = 0 := by omega
          clear hst HS9 hp ho hB hYl hq X3 Z3 B3 X5 Z5 B5
          go_wp2_with fail
          go_quiet (fail)
          go_wp2
          go_roundw
          case rel => exact ⟨j + 1, by go_num, hjn, fun h => absurd h hn0, HH.out.1.draws _, HH.out.2.trans (drewN_below _ _)⟩
          case measure => simp [intOf]; omega
    · obtain rfl : j = nf := by omega
      have hdm : flk fl (sn : Int) b j = dmg fl (sn : Int) b := by
        rcases Nat.eq_zero_or_pos n with h0 | h0
        · rw [hj0 h0, dmg_0 (by rw [hl.out]; exact h0)]; rfl
        · rw [dmg_1 (by rw [hl.out]; omega), HR.out]
      rw [hdm] at ho
      clear hdm hj0 hrf3 hj
      clear c0 c1 c2 c3 c4' c5 c6
      have HO := Lib.hid ho
      have xl := lost_any (H0.out.below B5) m1 m2 t sn AL nL cL
      rw [← HDL.out] at xl
      obtain ⟨G, hG⟩ : ∃ G, G = gone c t sn := ⟨_, rfl⟩
      rw [← hG] at xl
      have HG := Lib.hid hG
      clear hG ho X3 Z3 B3
      have c0 := X5.cell 0
      have c1 := X5.cell 1
      have c2 := X5.cell 2
      have c3 := X5.cell 3
      have c4' := X5.cell 4
      have c5 := X5.cell 5
      have c6 := X5.cell 6
      simp at c0 c1 c2 c3 c4' c5 c6
      cases G with
      | true =>
        have HS2 : Hid (S' = ⟨t, sn + 1, wt⟩) := Lib.hid (by rw [HS.out, if_pos HG.out.symm])
        go_wp2_with fail
        refine xl.mono ?_
        rintro e w6 ⟨rfl, b6⟩
        have X7 := Cel.on X5 b6
        have Z7 := Cel.on Z5 b6
        have B7 := B5.trans (b6.mono B5.size)
        clear X5 Z5 B5 xl c0 c1 c2 c3 c4' c5 c6
        have x0 := X7.cell 0
        have x1 := X7.cell 1
        have x2 := X7.cell 2
        have x3 := X7.cell 3
        have x4 := X7.cell 4
        have x5 := X7.cell 5
        have x6 := X7.cell 6
        simp at x0 x1 x2 x3 x4 x5 x6
        have z0 := Z7.cell 0
        have z1 := Z7.cell 1
        have z2 := Z7.cell 2
        have z3 := Z7.cell 3
        have z4 := Z7.cell 4
        have z5 := Z7.cell 5
        have z6 := Z7.cell 6
        simp at z0 z1 z2 z3 z4 z5 z6
        have fx := X7.free 5
        have y0 := Z7.free 0
        have y1 := Z7.free 1
        have y2 := Z7.free 2
        have y3 := Z7.free 3
        have y4 := Z7.free 4
        have y5 := Z7.free 5
        have y6 := Z7.free 6
        have Z9 := Z7.only (S := [w.heap.size]) ((Only.refl _ _).put (p := ⟨w.heap.size, 5, none⟩) (.inl (by simp)) (I ((sn : Int) + 1))) (by simp)
        have B9 := put7_below (B7.trans (((Only.refl [w.heap.size] w6).put (p := ⟨w.heap.size, 5, none⟩) (.inl (by simp)) (I ((sn : Int) + 1))).below B7.size (by simp))) (by omega : w.heap.size ≤ w.heap.size + 1) (I dl) (.slice Ao no co) (.slice Al nl cl) (.slice Af j cf) (I t) (I ((sn : Int) + 1)) (.slice AL nL cL)
        have K9 : Only [w.heap.size, w.heap.size + 1] w6 (put7 (w6.setCell ⟨w.heap.size, 5, none⟩ (I ((sn : Int) + 1))) (w.heap.size + 1) (I dl) (.slice Ao no co) (.slice Al nl cl) (.slice Af j cf) (I t) (I ((sn : Int) + 1)) (.slice AL nL cL)) := (((Only.refl [w.heap.size] w6).put (p := ⟨w.heap.size, 5, none⟩) (.inl (by simp)) (I ((sn : Int) + 1))).more (fun x hx => .inl (by simp at hx; simp [hx]))).trans (put7_only _ _ _ _ _ _ _ _ _) (fun x hx => .inl (by simp at hx; simp [hx]))
        have Q9 := Kq.of_only K9 (fun x hx => by
          rcases List.mem_cons.1 hx with rfl | hx
          · exact not_fx X7 (by decide)
          · rw [List.mem_singleton.1 hx]; exact not_fx Z7 (by decide))
        have HFq := Lib.hid ((HL.out.below B7).keep Q9)
        have HB9 := Lib.hid B9
        have HZ9 := Lib.hid Z9
        clear B9 Z9 K9 Q9 X7 Z7
        go_wp2_with fail
        exact bodyPost_ret (xsend_results rfl (put7_cel HZ9.out _ _ _ _ _ _ _)) rfl ⟨⟨_, _, _, (by rw [HS2.out]; rfl), by rw [HS2.out]; exact HFq.out⟩, HB9.out⟩
      | false =>
        have HS2 : Hid (S' = ⟨t, sn + 1, wt ++ [(t + dl, dmg c.fl (sn : Int) b)]⟩) := Lib.hid (by rw [HS.out, if_neg (by rw [← HG.out]; decide), HDL.out])
        obtain ⟨X, hX⟩ : ∃ X, X = t + dl := ⟨_, rfl⟩
        have hX1 : wrap64 (t + dl) = X := by rw [hX]; exact IntWalk.wrap64_in _ (by omega)
        have hX2 : IntKind.i64.wrap (t + dl) = X := by rw [IntKind.wrap_i64]; omega
        have hX3 : IntKind.i64.wrap X = X := by rw [IntKind.wrap_i64]; omega
        have hX4 : wrap64 X = X := IntWalk.wrap64_in _ (by omega)
        obtain ⟨D, hD⟩ : ∃ D, D = dmg c.fl (sn : Int) b := ⟨_, rfl⟩
        rw [← hX, ← hD] at HS2
        have HO2 := HO.out
        rw [HFL.out, ← hD] at HO2
        have HDl : Hid (D.length = n) := Lib.hid (by rw [hD, dmg_len]; exact hl.out)
        clear hX hD
        go_wp2_with fail
        refine xl.mono ?_
        rintro e w6 ⟨rfl, b6⟩
        have X7 := Cel.on X5 b6
        have Z7 := Cel.on Z5 b6
        have B7 := B5.trans (b6.mono B5.size)
        obtain ⟨ts, hts, hsq0, hdq0⟩ := HL.out.below B7
        have HTP := Lib.hid hts
        have HTL := Lib.hid hsq0.len
        have HSL := Lib.hid hsq0
        have HDQ := Lib.hid hdq0
        have o6 := HO2.below b6
        have HD6 : Hid (Dq w6 D A4 c4) := Lib.hid (by have e := HDl.out; subst e; exact Dq.own o6)
        have hb0 : Below w6.heap.size w6 w6.drew := drewN_below w6 1
        have s60 := X7.cell 0
        have s64 := X7.cell 4
        simp at s60 s64
        clear X5 Z5 B5 xl c0 c1 c2 c3 c4' c5 c6 hts hsq0 hdq0 o6 HO2
        go_wp2_with fail
        refine wp_region_held_drew (S := (fun w' => w'.cell? ⟨w.heap.size, 0, none⟩ = some (I dl) ∧ w'.cell? ⟨w.heap.size, 4, none⟩ = some (I t))) (by kernel_rfl) (⟨s60, s64⟩) (fun hHeld => ?_)
        clear hHeld s60 s64
        obtain ⟨W0, hW0⟩ : ∃ W0, W0 = w6.drew := ⟨_, rfl⟩
        rw [← hW0] at hb0 ⊢
        clear hW0
        have X6 := Cel.on X7 hb0
        have x60 := X6.cell 0
        have x64 := X6.cell 4
        have x66 := X6.cell 6
        simp at x60 x64 x66
        have hHeld : (fun w' : World => w'.cell? ⟨w.heap.size, 0, none⟩ = some (I dl) ∧ w'.cell? ⟨w.heap.size, 4, none⟩ = some (I t)) W0 := ⟨x60, x64⟩
        refine wpAnyH_here 1 (v := ?_) rfl (by kernel_rfl) (by kernel_rfl) (by kernel_rfl) (fun _ _ _ h => h) (Or.inl ⟨by rfl, ?_⟩) hHeld ?_
        rotate_left
        · intro w hSw; (try dsimp only at hSw); go_simp; all_goals (with_reducible rfl)
        try simp only [Act.put, List.setIfInBounds_toArray, List.set_cons_zero, List.set_cons_succ]
        refine wpAnyH_here 4 (v := ?_) rfl (by kernel_rfl) (by kernel_rfl) (by kernel_rfl) (fun _ _ _ h => h) (Or.inl ⟨by rfl, ?_⟩) hHeld ?_
        rotate_left
        · intro w hSw; (try dsimp only at hSw); go_simp; all_goals (with_reducible rfl)
        try simp only [Act.put, List.setIfInBounds_toArray, List.set_cons_zero, List.set_cons_succ]
        refine wpAnyH_here 5 (v := ?_) rfl (by kernel_rfl) (by kernel_rfl) (by kernel_rfl) (fun _ _ _ h => h) (Or.inl ⟨by rfl, ?_⟩) hHeld ?_
        rotate_left
        · intro w hSw; (try dsimp only at hSw); go_simp; all_goals (with_reducible rfl)
        try simp only [Act.put, List.setIfInBounds_toArray, List.set_cons_zero, List.set_cons_succ]
        refine wpAnyH_here 6 (v := ?_) rfl (by kernel_rfl) (by kernel_rfl) (by kernel_rfl) (fun _ _ _ h => h) (Or.inl ⟨by rfl, ?_⟩) hHeld ?_
        rotate_left
        · intro w hSw; (try dsimp only at hSw); go_simp; all_goals (with_reducible rfl)
        try simp only [Act.put, List.setIfInBounds_toArray, List.set_cons_zero, List.set_cons_succ]
        refine wpAnyH_here 7 (v := ?_) rfl (by kernel_rfl) (by kernel_rfl) (by kernel_rfl) (fun _ _ _ h => h) (Or.inl ⟨by rfl, ?_⟩) hHeld ?_
        rotate_left
        · intro w hSw; (try dsimp only at hSw); go_simp; all_goals (with_reducible rfl)
        try simp only [Act.put, List.setIfInBounds_toArray, List.set_cons_zero, List.set_cons_succ]
        refine wpAnyH_here 8 (v := ?_) rfl (by kernel_rfl) (by kernel_rfl) (by kernel_rfl) (fun _ _ _ h => h) (Or.inl ⟨by rfl, ?_⟩) hHeld ?_
        rotate_left
        · intro w hSw; (try dsimp only at hSw); go_simp; all_goals (with_reducible rfl)
        try simp only [Act.put, List.setIfInBounds_toArray, List.set_cons_zero, List.set_cons_succ]
        refine wpAnyH_here 9 (v := ?_) rfl (by kernel_rfl) (by kernel_rfl) (by kernel_rfl) (fun _ _ _ h => h) (Or.inl ⟨by rfl, ?_⟩) hHeld ?_
        rotate_left
        · intro w hSw; (try dsimp only at hSw); go_simp; all_goals (with_reducible rfl)
        try simp only [Act.put, List.setIfInBounds_toArray, List.set_cons_zero, List.set_cons_succ]
        refine wpAnyH_here 10 (v := ?_) rfl (by kernel_rfl) (by kernel_rfl) (by kernel_rfl) (fun _ _ _ h => h) (Or.inl ⟨by rfl, ?_⟩) hHeld ?_
        rotate_left
        · intro w hSw; (try dsimp only at hSw); go_simp; all_goals (with_reducible rfl)
        try simp only [Act.put, List.setIfInBounds_toArray, List.set_cons_zero, List.set_cons_succ]
        refine wpAnyH_here 11 (v := ?_) rfl (by kernel_rfl) (by kernel_rfl) (by kernel_rfl) (fun _ _ _ h => h) (Or.inl ⟨by rfl, ?_⟩) hHeld ?_
        rotate_left
        · intro w hSw; (try dsimp only at hSw); go_simp; all_goals (with_reducible rfl)
        try simp only [Act.put, List.setIfInBounds_toArray, List.set_cons_zero, List.set_cons_succ]
        refine wpAnyH_three 0 2 12 rfl rfl rfl (by kernel_rfl) (fun K hK => ?_) (fun K hK => ?_) (fun K hK => ?_)
        · go_simp
          obtain ⟨V1, hV1⟩ : ∃ V, V = W0.alloc (.cells #[] 75) := ⟨_, rfl⟩
          have bV1 : Below W0.heap.size W0 V1 := by rw [hV1]; exact bel_new _ _
          have cN1 : Cel V1 W0.heap.size 75 #[] := by rw [hV1]; exact Cel.new _ _ _
          have hb1 := hb0.trans (bV1.mono hb0.size)
          have X11 := Cel.on X7 hb1
          have x110 := X11.cell 0
          have x114 := X11.cell 4
          have x116 := X11.cell 6
          simp at x110 x114 x116
          rw [← hV1]
          clear hV1
          refine hK.out _ _ ⟨x110, x114⟩ (fun hHeld => ?_)
          clear hK K
          try simp only [Act.put, List.setIfInBounds_toArray, List.set_cons_zero, List.set_cons_succ]
          refine wpAnyH_both 2 12 rfl rfl (by kernel_rfl) (fun K hK => ?_) (fun K hK => ?_)
          · go_simp
            refine hK.out _ _ ⟨x110, x114⟩ (fun hHeld => ?_)
            clear hK K
            try simp only [Act.put, List.setIfInBounds_toArray, List.set_cons_zero, List.set_cons_succ]
            refine wpAnyH_both 3 12 rfl rfl (by kernel_rfl) (fun K hK => ?_) (fun K hK => ?_)
            · refine Row.step_row _ encT_ok is_flights (by decide) rfl (.tmp 67) (.tmp 69) rfl (v := Value.slice (some ⟨W0.heap.size, 0, none⟩) 0 0) (m := []) rfl (Os_cel0 cN1 (hb0.size)) (l := ts) (n := nL) (A := AL) (c := cL) HTL.out rfl (HSL.out.sl.below hb1).r HSL.out.nil (by rw [HTL.out]; simp; omega) hb1.size ?_
              intro v2 V2 own2 gr2 hv2
              rw [List.nil_append] at own2
              have hb2 := hb1.grown gr2 hb1.size (fun i hi => by injection hi with hi; have := hb0.size; simp at hi; omega)
              have X12 := Cel.on X7 hb2
              have x120 := X12.cell 0
              have x124 := X12.cell 4
              have x126 := X12.cell 6
              simp at x120 x124 x126
              refine hK.out _ _ ⟨x120, x124⟩ (fun hHeld => ?_)
              clear hK K
              try simp only [Act.put, List.setIfInBounds_toArray, List.set_cons_zero, List.set_cons_succ]
              refine wpAnyH_alone 12 rfl (by kernel_rfl) (fun K hK => ?_)
              go_simp
              obtain ⟨V3, hV3⟩ : ∃ V, V = V2.alloc (.cells #[I X, .slice A4 n c4] 75) := ⟨_, rfl⟩
              have bV3 : Below V2.heap.size V2 V3 := by rw [hV3]; exact bel_new _ _
              have cN3 : Cel V3 V2.heap.size 75 #[I X, .slice A4 n c4] := by rw [hV3]; exact Cel.new _ _ _
              have hb3 := hb2.trans (bV3.mono hb2.size)
              have own3 := Row.Os.below own2 bV3
              have X13 := Cel.on X7 hb3
              have x130 := X13.cell 0
              have x134 := X13.cell 4
              have x136 := X13.cell 6
              simp at x130 x134 x136
              rw [← hV3]
              clear hV3
              refine hK.out _ _ ⟨x130, x134⟩ (fun hHeld => ?_)
              clear hK K
              try simp only [Act.put, List.setIfInBounds_toArray, List.set_cons_zero, List.set_cons_succ]
              refine wpAnyH_alone 13 rfl (by kernel_rfl) (fun K hK => ?_)
              refine Row.step_row _ encT_ok is_flights (by decide) rfl (.tmp 70) (.tmp 79) rfl (v := v2) (m := ts) rfl own3 (l := [(⟨X, ⟨D, A4, c4⟩⟩ : Tq)]) (n := 1) (A := some ⟨V2.heap.size, 0, none⟩) (c := 1) rfl rfl (Rs_cel cN3 (by unfold encT; rw [HDl.out])) (fun h => nomatch h) (by rw [HTL.out]; simp; omega) hb3.size ?_
              intro v4 V4 own4 gr4 hv4
              obtain ⟨A8, c8, e8, hsq⟩ := Sq.own encT_ok own4 (by decide) (n := nL + 1) (by rw [List.length_append, HTL.out]; rfl)
              subst e8
              have hb4 := hb3.grown gr4 hb3.size (fun i hi => (own3.lt i hi).1)
              have HFQ : Hid (Fq V4 A8 (nL + 1) c8 (wt ++ [(X, D)])) := Lib.hid ⟨_, by rw [List.map_append, HTP.out]; rfl, hsq, fun y hy => by
                rcases List.mem_append.1 hy with hy | hy
                · exact (HDQ.out y hy).keep (Kq.of_below hb4)
                · rw [List.mem_singleton.1 hy]; exact HD6.out.keep (Kq.of_below hb4)⟩
              have X14 := Cel.on X7 hb4
              have x140 := X14.cell 0
              have x144 := X14.cell 4
              have x146 := X14.cell 6
              simp at x140 x144 x146
              have x14f := X14.free 6
              have N4 := X14.put 6 (.slice A8 (nL + 1) c8)
              have n40 := N4.cell 0
              have n44 := N4.cell 4
              simp at n40 n44
              refine hK.out _ _ ⟨x140, x144⟩ (fun hHeld => ?_)
              clear hK K
              try simp only [Act.put, List.setIfInBounds_toArray, List.set_cons_zero, List.set_cons_succ]
              refine wpAnyH_here 14 (v := ?_) rfl (by kernel_rfl) (by kernel_rfl) (by kernel_rfl) (fun _ _ _ h => h) (Or.inl ⟨by rfl, ?_⟩) hHeld ?_
              rotate_left
              · intro w hSw; (try dsimp only at hSw); go_simp; all_goals (with_reducible rfl)
              try simp only [Act.put, List.setIfInBounds_toArray, List.set_cons_zero, List.set_cons_succ]
              refine wpAnyH_alone 15 rfl (by kernel_rfl) (fun K hK => ?_)
              go_simp
              skip
              refine hK.out _ _ (⟨n40, n44⟩) (fun hHeld => ?_)
              clear hK K
              try simp only [Act.put, List.setIfInBounds_toArray, List.set_cons_zero, List.set_cons_succ]
              refine wpAnyH_done (by kernel_rfl) ?_ _
              have KW := (Only.refl [w.heap.size] V4).put (p := ⟨w.heap.size, 6, none⟩) (.inl (by simp)) (Value.slice A8 (nL + 1) c8)
              have ZW := (Cel.on Z7 hb4).only KW (by simp)
              have BW := (B7.trans (hb4.mono B7.size)).trans (KW.below (B7.trans (hb4.mono B7.size)).size (by simp))
              have FQW := HFQ.out.keep (Kq.of_only KW (fun x hx => by rw [List.mem_singleton.1 hx]; exact not_fx X14 (by decide)))
              have XW : Cel (V4.setCell ⟨w.heap.size, 6, none⟩ (Value.slice A8 (nL + 1) c8)) w.heap.size 36 #[I dl, .slice Ao no co, .slice Al nl cl, .slice Af j cf, I t, I (sn : Int), .slice A8 (nL + 1) c8] := N4
              obtain ⟨W9, hW9⟩ : ∃ W9, W9 = V4.setCell ⟨w.heap.size, 6, none⟩ (Value.slice A8 (nL + 1) c8) := ⟨_, rfl⟩
              rw [← hW9] at ZW BW FQW XW ⊢
              clear hW9 KW N4
              have x0 := XW.cell 0
              have x1 := XW.cell 1
              have x2 := XW.cell 2
              have x3 := XW.cell 3
              have x4 := XW.cell 4
              have x5 := XW.cell 5
              have x6 := XW.cell 6
              simp at x0 x1 x2 x3 x4 x5 x6
              have z0 := ZW.cell 0
              have z1 := ZW.cell 1
              have z2 := ZW.cell 2
              have z3 := ZW.cell 3
              have z4 := ZW.cell 4
              have z5 := ZW.cell 5
              have z6 := ZW.cell 6
              simp at z0 z1 z2 z3 z4 z5 z6
              have fx := XW.free 5
              have y0 := ZW.free 0
              have y1 := ZW.free 1
              have y2 := ZW.free 2
              have y3 := ZW.free 3
              have y4 := ZW.free 4
              have y5 := ZW.free 5
              have y6 := ZW.free 6
              have Z9 := ZW.only (S := [w.heap.size]) ((Only.refl _ _).put (p := ⟨w.heap.size, 5, none⟩) (.inl (by simp)) (I ((sn : Int) + 1))) (by simp)
              have B9 := put7_below (BW.trans (((Only.refl [w.heap.size] W9).put (p := ⟨w.heap.size, 5, none⟩) (.inl (by simp)) (I ((sn : Int) + 1))).below BW.size (by simp))) (by omega : w.heap.size ≤ w.heap.size + 1) (I dl) (.slice Ao no co) (.slice Al nl cl) (.slice Af j cf) (I t) (I ((sn : Int) + 1)) (.slice A8 (nL + 1) c8)
              have K9 : Only [w.heap.size, w.heap.size + 1] W9 (put7 (W9.setCell ⟨w.heap.size, 5, none⟩ (I ((sn : Int) + 1))) (w.heap.size + 1) (I dl) (.slice Ao no co) (.slice Al nl cl) (.slice Af j cf) (I t) (I ((sn : Int) + 1)) (.slice A8 (nL + 1) c8)) := (((Only.refl [w.heap.size] W9).put (p := ⟨w.heap.size, 5, none⟩) (.inl (by simp)) (I ((sn : Int) + 1))).more (fun x hx => .inl (by simp at hx; simp [hx]))).trans (put7_only _ _ _ _ _ _ _ _ _) (fun x hx => .inl (by simp at hx; simp [hx]))
              have Q9 := Kq.of_only K9 (fun x hx => by
                rcases List.mem_cons.1 hx with rfl | hx
                · exact not_fx XW (by decide)
                · rw [List.mem_singleton.1 hx]; exact not_fx ZW (by decide))
              have HFq := Lib.hid ((FQW).keep Q9)
              have HB9 := Lib.hid B9
              have HZ9 := Lib.hid Z9
              clear B9 Z9 K9 Q9 XW ZW
              go_wp2_with fail
              exact bodyPost_ret (xsend_results rfl (put7_cel HZ9.out _ _ _ _ _ _ _)) rfl ⟨⟨_, _, _, (by rw [HS2.out]; rfl), by rw [HS2.out]; exact HFq.out⟩, HB9.out⟩
            · go_simp
              obtain ⟨V5, hV5⟩ : ∃ V, V = V1.alloc (.cells #[I X, .slice A4 n c4] 75) := ⟨_, rfl⟩
              have bV5 : Below V1.heap.size V1 V5 := by rw [hV5]; exact bel_new _ _
              have cN5 : Cel V5 V1.heap.size 75 #[I X, .slice A4 n c4] := by rw [hV5]; exact Cel.new _ _ _
              have hb5 := hb1.trans (bV5.mono hb1.size)
              have cE5 := Cel.on cN1 bV5
              have hxe5 : V1.heap.size ≠ W0.heap.size := Ne.symm (Nat.ne_of_lt cN1.lt)
              have X15 := Cel.on X7 hb5
              have x150 := X15.cell 0
              have x154 := X15.cell 4
              have x156 := X15.cell 6
              simp at x150 x154 x156
              rw [← hV5]
              clear hV5
              refine hK.out _ _ ⟨x150, x154⟩ (fun hHeld => ?_)
              clear hK K
              try simp only [Act.put, List.setIfInBounds_toArray, List.set_cons_zero, List.set_cons_succ]
              refine wpAnyH_alone 3 rfl (by kernel_rfl) (fun K hK => ?_)
              refine Row.step_row _ encT_ok is_flights (by decide) rfl (.tmp 67) (.tmp 69) rfl (v := Value.slice (some ⟨W0.heap.size, 0, none⟩) 0 0) (m := []) rfl (Os_cel0 cE5 (hb0.size)) (l := ts) (n := nL) (A := AL) (c := cL) HTL.out rfl (HSL.out.sl.below hb5).r HSL.out.nil (by rw [HTL.out]; simp; omega) hb5.size ?_
              intro v6 V6 own6 gr6 hv6
              rw [List.nil_append] at own6
              have hb6 := hb5.grown gr6 hb5.size (fun i hi => by injection hi with hi; have := hb0.size; simp at hi; omega)
              have cX6 := cN5.only (Only.of_grown gr6) (by simpa [Value.ownBlock] using hxe5)
              have X16 := Cel.on X7 hb6
              have x160 := X16.cell 0
              have x164 := X16.cell 4
              have x166 := X16.cell 6
              simp at x160 x164 x166
              refine hK.out _ _ ⟨x160, x164⟩ (fun hHeld => ?_)
              clear hK K
              try simp only [Act.put, List.setIfInBounds_toArray, List.set_cons_zero, List.set_cons_succ]
              refine wpAnyH_alone 13 rfl (by kernel_rfl) (fun K hK => ?_)
              refine Row.step_row _ encT_ok is_flights (by decide) rfl (.tmp 70) (.tmp 79) rfl (v := v6) (m := ts) rfl own6 (l := [(⟨X, ⟨D, A4, c4⟩⟩ : Tq)]) (n := 1) (A := some ⟨V1.heap.size, 0, none⟩) (c := 1) rfl rfl (Rs_cel cX6 (by unfold encT; rw [HDl.out])) (fun h => nomatch h) (by rw [HTL.out]; simp; omega) hb6.size ?_
              intro v7 V7 own7 gr7 hv7
              obtain ⟨A8, c8, e8, hsq⟩ := Sq.own encT_ok own7 (by decide) (n := nL + 1) (by rw [List.length_append, HTL.out]; rfl)
              subst e8
              have hb7 := hb6.grown gr7 hb6.size (fun i hi => (own6.lt i hi).1)
              have HFQ : Hid (Fq V7 A8 (nL + 1) c8 (wt ++ [(X, D)])) := Lib.hid ⟨_, by rw [List.map_append, HTP.out]; rfl, hsq, fun y hy => by
                rcases List.mem_append.1 hy with hy | hy
                · exact (HDQ.out y hy).keep (Kq.of_below hb7)
                · rw [List.mem_singleton.1 hy]; exact HD6.out.keep (Kq.of_below hb7)⟩
              have X17 := Cel.on X7 hb7
              have x170 := X17.cell 0
              have x174 := X17.cell 4
              have x176 := X17.cell 6
              simp at x170 x174 x176
              have x17f := X17.free 6
              have N7 := X17.put 6 (.slice A8 (nL + 1) c8)
              have n70 := N7.cell 0
              have n74 := N7.cell 4
              simp at n70 n74
              refine hK.out _ _ ⟨x170, x174⟩ (fun hHeld => ?_)
              clear hK K
              try simp only [Act.put, List.setIfInBounds_toArray, List.set_cons_zero, List.set_cons_succ]
              refine wpAnyH_here 14 (v := ?_) rfl (by kernel_rfl) (by kernel_rfl) (by kernel_rfl) (fun _ _ _ h => h) (Or.inl ⟨by rfl, ?_⟩) hHeld ?_
              rotate_left
              · intro w hSw; (try dsimp only at hSw); go_simp; all_goals (with_reducible rfl)
              try simp only [Act.put, List.setIfInBounds_toArray, List.set_cons_zero, List.set_cons_succ]
              refine wpAnyH_alone 15 rfl (by kernel_rfl) (fun K hK => ?_)
              go_simp
              skip
              refine hK.out _ _ (⟨n70, n74⟩) (fun hHeld => ?_)
              clear hK K
              try simp only [Act.put, List.setIfInBounds_toArray, List.set_cons_zero, List.set_cons_succ]
              refine wpAnyH_done (by kernel_rfl) ?_ _
              have KW := (Only.refl [w.heap.size] V7).put (p := ⟨w.heap.size, 6, none⟩) (.inl (by simp)) (Value.slice A8 (nL + 1) c8)
              have ZW := (Cel.on Z7 hb7).only KW (by simp)
              have BW := (B7.trans (hb7.mono B7.size)).trans (KW.below (B7.trans (hb7.mono B7.size)).size (by simp))
              have FQW := HFQ.out.keep (Kq.of_only KW (fun x hx => by rw [List.mem_singleton.1 hx]; exact not_fx X17 (by decide)))
              have XW : Cel (V7.setCell ⟨w.heap.size, 6, none⟩ (Value.slice A8 (nL + 1) c8)) w.heap.size 36 #[I dl, .slice Ao no co, .slice Al nl cl, .slice Af j cf, I t, I (sn : Int), .slice A8 (nL + 1) c8] := N7
              obtain ⟨W9, hW9⟩ : ∃ W9, W9 = V7.setCell ⟨w.heap.size, 6, none⟩ (Value.slice A8 (nL + 1) c8) := ⟨_, rfl⟩
              rw [← hW9] at ZW BW FQW XW ⊢
              clear hW9 KW N7
              have x0 := XW.cell 0
              have x1 := XW.cell 1
              have x2 := XW.cell 2
              have x3 := XW.cell 3
              have x4 := XW.cell 4
              have x5 := XW.cell 5
              have x6 := XW.cell 6
              simp at x0 x1 x2 x3 x4 x5 x6
              have z0 := ZW.cell 0
              have z1 := ZW.cell 1
              have z2 := ZW.cell 2
              have z3 := ZW.cell 3
              have z4 := ZW.cell 4
              have z5 := ZW.cell 5
              have z6 := ZW.cell 6
              simp at z0 z1 z2 z3 z4 z5 z6
              have fx := XW.free 5
              have y0 := ZW.free 0
              have y1 := ZW.free 1
              have y2 := ZW.free 2
              have y3 := ZW.free 3
              have y4 := ZW.free 4
              have y5 := ZW.free 5
              have y6 := ZW.free 6
              have Z9 := ZW.only (S := [w.heap.size]) ((Only.refl _ _).put (p := ⟨w.heap.size, 5, none⟩) (.inl (by simp)) (I ((sn : Int) + 1))) (by simp)
              have B9 := put7_below (BW.trans (((Only.refl [w.heap.size] W9).put (p := ⟨w.heap.size, 5, none⟩) (.inl (by simp)) (I ((sn : Int) + 1))).below BW.size (by simp))) (by omega : w.heap.size ≤ w.heap.size + 1) (I dl) (.slice Ao no co) (.slice Al nl cl) (.slice Af j cf) (I t) (I ((sn : Int) + 1)) (.slice A8 (nL + 1) c8)
              have K9 : Only [w.heap.size, w.heap.size + 1] W9 (put7 (W9.setCell ⟨w.heap.size, 5, none⟩ (I ((sn : Int) + 1))) (w.heap.size + 1) (I dl) (.slice Ao no co) (.slice Al nl cl) (.slice Af j cf) (I t) (I ((sn : Int) + 1)) (.slice A8 (nL + 1) c8)) := (((Only.refl [w.heap.size] W9).put (p := ⟨w.heap.size, 5, none⟩) (.inl (by simp)) (I ((sn : Int) + 1))).more (fun x hx => .inl (by simp at hx; simp [hx]))).trans (put7_only _ _ _ _ _ _ _ _ _) (fun x hx => .inl (by simp at hx; simp [hx]))
              have Q9 := Kq.of_only K9 (fun x hx => by
                rcases List.mem_cons.1 hx with rfl | hx
                · exact not_fx XW (by decide)
                · rw [List.mem_singleton.1 hx]; exact not_fx ZW (by decide))
              have HFq := Lib.hid ((FQW).keep Q9)
              have HB9 := Lib.hid B9
              have HZ9 := Lib.hid Z9
              clear B9 Z9 K9 Q9 XW ZW
              go_wp2_with fail
              exact bodyPost_ret (xsend_results rfl (put7_cel HZ9.out _ _ _ _ _ _ _)) rfl ⟨⟨_, _, _, (by rw [HS2.out]; rfl), by rw [HS2.out]; exact HFq.out⟩, HB9.out⟩
          · go_simp
            obtain ⟨V8, hV8⟩ : ∃ V, V = V1.alloc (.cells #[I X, .slice A4 n c4] 75) := ⟨_, rfl⟩
            have bV8 : Below V1.heap.size V1 V8 := by rw [hV8]; exact bel_new _ _
            have cN8 : Cel V8 V1.heap.size 75 #[I X, .slice A4 n c4] := by rw [hV8]; exact Cel.new _ _ _
            have hb8 := hb1.trans (bV8.mono hb1.size)
            have cE8 := Cel.on cN1 bV8
            have hxe8 : V1.heap.size ≠ W0.heap.size := Ne.symm (Nat.ne_of_lt cN1.lt)
            have X18 := Cel.on X7 hb8
            have x180 := X18.cell 0
            have x184 := X18.cell 4
            have x186 := X18.cell 6
            simp at x180 x184 x186
            rw [← hV8]
            clear hV8
            refine hK.out _ _ ⟨x180, x184⟩ (fun hHeld => ?_)
            clear hK K
            try simp only [Act.put, List.setIfInBounds_toArray, List.set_cons_zero, List.set_cons_succ]
            refine wpAnyH_alone 2 rfl (by kernel_rfl) (fun K hK => ?_)
            go_simp
            refine hK.out _ _ ⟨x180, x184⟩ (fun hHeld => ?_)
            clear hK K
            try simp only [Act.put, List.setIfInBounds_toArray, List.set_cons_zero, List.set_cons_succ]
            refine wpAnyH_alone 3 rfl (by kernel_rfl) (fun K hK => ?_)
            refine Row.step_row _ encT_ok is_flights (by decide) rfl (.tmp 67) (.tmp 69) rfl (v := Value.slice (some ⟨W0.heap.size, 0, none⟩) 0 0) (m := []) rfl (Os_cel0 cE8 (hb0.size)) (l := ts) (n := nL) (A := AL) (c := cL) HTL.out rfl (HSL.out.sl.below hb8).r HSL.out.nil (by rw [HTL.out]; simp; omega) hb8.size ?_
            intro v9 V9 own9 gr9 hv9
            rw [List.nil_append] at own9
            have hb9 := hb8.grown gr9 hb8.size (fun i hi => by injection hi with hi; have := hb0.size; simp at hi; omega)
            have cX9 := cN8.only (Only.of_grown gr9) (by simpa [Value.ownBlock] using hxe8)
            have X19 := Cel.on X7 hb9
            have x190 := X19.cell 0
            have x194 := X19.cell 4
            have x196 := X19.cell 6
            simp at x190 x194 x196
            refine hK.out _ _ ⟨x190, x194⟩ (fun hHeld => ?_)
            clear hK K
            try simp only [Act.put, List.setIfInBounds_toArray, List.set_cons_zero, List.set_cons_succ]
            refine wpAnyH_alone 13 rfl (by kernel_rfl) (fun K hK => ?_)
            refine Row.step_row _ encT_ok is_flights (by decide) rfl (.tmp 70) (.tmp 79) rfl (v := v9) (m := ts) rfl own9 (l := [(⟨X, ⟨D, A4, c4⟩⟩ : Tq)]) (n := 1) (A := some ⟨V1.heap.size, 0, none⟩) (c := 1) rfl rfl (Rs_cel cX9 (by unfold encT; rw [HDl.out])) (fun h => nomatch h) (by rw [HTL.out]; simp; omega) hb9.size ?_
            intro v10 V10 own10 gr10 hv10
            obtain ⟨A8, c8, e8, hsq⟩ := Sq.own encT_ok own10 (by decide) (n := nL + 1) (by rw [List.length_append, HTL.out]; rfl)
            subst e8
            have hb10 := hb9.grown gr10 hb9.size (fun i hi => (own9.lt i hi).1)
            have HFQ : Hid (Fq V10 A8 (nL + 1) c8 (wt ++ [(X, D)])) := Lib.hid ⟨_, by rw [List.map_append, HTP.out]; rfl, hsq, fun y hy => by
              rcases List.mem_append.1 hy with hy | hy
              · exact (HDQ.out y hy).keep (Kq.of_below hb10)
              · rw [List.mem_singleton.1 hy]; exact HD6.out.keep (Kq.of_below hb10)⟩
            have X20 := Cel.on X7 hb10
            have x200 := X20.cell 0
            have x204 := X20.cell 4
            have x206 := X20.cell 6
            simp at x200 x204 x206
            have x20f := X20.free 6
            have N10 := X20.put 6 (.slice A8 (nL + 1) c8)
            have n100 := N10.cell 0
            have n104 := N10.cell 4
            simp at n100 n104
            refine hK.out _ _ ⟨x200, x204⟩ (fun hHeld => ?_)
            clear hK K
            try simp only [Act.put, List.setIfInBounds_toArray, List.set_cons_zero, List.set_cons_succ]
            refine wpAnyH_here 14 (v := ?_) rfl (by kernel_rfl) (by kernel_rfl) (by kernel_rfl) (fun _ _ _ h => h) (Or.inl ⟨by rfl, ?_⟩) hHeld ?_
            rotate_left
            · intro w hSw; (try dsimp only at hSw); go_simp; all_goals (with_reducible rfl)
            try simp only [Act.put, List.setIfInBounds_toArray, List.set_cons_zero, List.set_cons_succ]
            refine wpAnyH_alone 15 rfl (by kernel_rfl) (fun K hK => ?_)
            go_simp
            skip
            refine hK.out _ _ (⟨n100, n104⟩) (fun hHeld => ?_)
            clear hK K
            try simp only [Act.put, List.setIfInBounds_toArray, List.set_cons_zero, List.set_cons_succ]
            refine wpAnyH_done (by kernel_rfl) ?_ _
            have KW := (Only.refl [w.heap.size] V10).put (p := ⟨w.heap.size, 6, none⟩) (.inl (by simp)) (Value.slice A8 (nL + 1) c8)
            have ZW := (Cel.on Z7 hb10).only KW (by simp)
            have BW := (B7.trans (hb10.mono B7.size)).trans (KW.below (B7.trans (hb10.mono B7.size)).size (by simp))
            have FQW := HFQ.out.keep (Kq.of_only KW (fun x hx => by rw [List.mem_singleton.1 hx]; exact not_fx X20 (by decide)))
            have XW : Cel (V10.setCell ⟨w.heap.size, 6, none⟩ (Value.slice A8 (nL + 1) c8)) w.heap.size 36 #[I dl, .slice Ao no co, .slice Al nl cl, .slice Af j cf, I t, I (sn : Int), .slice A8 (nL + 1) c8] := N10
            obtain ⟨W9, hW9⟩ : ∃ W9, W9 = V10.setCell ⟨w.heap.size, 6, none⟩ (Value.slice A8 (nL + 1) c8) := ⟨_, rfl⟩
            rw [← hW9] at ZW BW FQW XW ⊢
            clear hW9 KW N10
            have x0 := XW.cell 0
            have x1 := XW.cell 1
            have x2 := XW.cell 2
            have x3 := XW.cell 3
            have x4 := XW.cell 4
            have x5 := XW.cell 5
            have x6 := XW.cell 6
            simp at x0 x1 x2 x3 x4 x5 x6
            have z0 := ZW.cell 0
            have z1 := ZW.cell 1
            have z2 := ZW.cell 2
            have z3 := ZW.cell 3
            have z4 := ZW.cell 4
            have z5 := ZW.cell 5
            have z6 := ZW.cell 6
            simp at z0 z1 z2 z3 z4 z5 z6
            have fx := XW.free 5
            have y0 := ZW.free 0
            have y1 := ZW.free 1
            have y2 := ZW.free 2
            have y3 := ZW.free 3
            have y4 := ZW.free 4
            have y5 := ZW.free 5
            have y6 := ZW.free 6
            have Z9 := ZW.only (S := [w.heap.size]) ((Only.refl _ _).put (p := ⟨w.heap.size, 5, none⟩) (.inl (by simp)) (I ((sn : Int) + 1))) (by simp)
            have B9 := put7_below (BW.trans (((Only.refl [w.heap.size] W9).put (p := ⟨w.heap.size, 5, none⟩) (.inl (by simp)) (I ((sn : Int) + 1))).below BW.size (by simp))) (by omega : w.heap.size ≤ w.heap.size + 1) (I dl) (.slice Ao no co) (.slice Al nl cl) (.slice Af j cf) (I t) (I ((sn : Int) + 1)) (.slice A8 (nL + 1) c8)
            have K9 : Only [w.heap.size, w.heap.size + 1] W9 (put7 (W9.setCell ⟨w.heap.size, 5, none⟩ (I ((sn : Int) + 1))) (w.heap.size + 1) (I dl) (.slice Ao no co) (.slice Al nl cl) (.slice Af j cf) (I t) (I ((sn : Int) + 1)) (.slice A8 (nL + 1) c8)) := (((Only.refl [w.heap.size] W9).put (p := ⟨w.heap.size, 5, none⟩) (.inl (by simp)) (I ((sn : Int) + 1))).more (fun x hx => .inl (by simp at hx; simp [hx]))).trans (put7_only _ _ _ _ _ _ _ _ _) (fun x hx => .inl (by simp at hx; simp [hx]))
            have Q9 := Kq.of_only K9 (fun x hx => by
              rcases List.mem_cons.1 hx with rfl | hx
              · exact not_fx XW (by decide)
              · rw [List.mem_singleton.1 hx]; exact not_fx ZW (by decide))
            have HFq := Lib.hid ((FQW).keep Q9)
            have HB9 := Lib.hid B9
            have HZ9 := Lib.hid Z9
            clear B9 Z9 K9 Q9 XW ZW
            go_wp2_with fail
            exact bodyPost_ret (xsend_results rfl (put7_cel HZ9.out _ _ _ _ _ _ _)) rfl ⟨⟨_, _, _, (by rw [HS2.out]; rfl), by rw [HS2.out]; exact HFq.out⟩, HB9.out⟩
        · go_simp
          refine hK.out _ _ ⟨x60, x64⟩ (fun hHeld => ?_)
          clear hK K
          try simp only [Act.put, List.setIfInBounds_toArray, List.set_cons_zero, List.set_cons_succ]
          refine wpAnyH_both 0 12 rfl rfl (by kernel_rfl) (fun K hK => ?_) (fun K hK => ?_)
          · go_simp
            obtain ⟨V11, hV11⟩ : ∃ V, V = W0.alloc (.cells #[] 75) := ⟨_, rfl⟩
            have bV11 : Below W0.heap.size W0 V11 := by rw [hV11]; exact bel_new _ _
            have cN11 : Cel V11 W0.heap.size 75 #[] := by rw [hV11]; exact Cel.new _ _ _
            have hb11 := hb0.trans (bV11.mono hb0.size)
            have X21 := Cel.on X7 hb11
            have x210 := X21.cell 0
            have x214 := X21.cell 4
            have x216 := X21.cell 6
            simp at x210 x214 x216
            rw [← hV11]
            clear hV11
            refine hK.out _ _ ⟨x210, x214⟩ (fun hHeld => ?_)
            clear hK K
            try simp only [Act.put, List.setIfInBounds_toArray, List.set_cons_zero, List.set_cons_succ]
            refine wpAnyH_both 3 12 rfl rfl (by kernel_rfl) (fun K hK => ?_) (fun K hK => ?_)
            · refine Row.step_row _ encT_ok is_flights (by decide) rfl (.tmp 67) (.tmp 69) rfl (v := Value.slice (some ⟨W0.heap.size, 0, none⟩) 0 0) (m := []) rfl (Os_cel0 cN11 (hb0.size)) (l := ts) (n := nL) (A := AL) (c := cL) HTL.out rfl (HSL.out.sl.below hb11).r HSL.out.nil (by rw [HTL.out]; simp; omega) hb11.size ?_
              intro v12 V12 own12 gr12 hv12
              rw [List.nil_append] at own12
              have hb12 := hb11.grown gr12 hb11.size (fun i hi => by injection hi with hi; have := hb0.size; simp at hi; omega)
              have X22 := Cel.on X7 hb12
              have x220 := X22.cell 0
              have x224 := X22.cell 4
              have x226 := X22.cell 6
              simp at x220 x224 x226
              refine hK.out _ _ ⟨x220, x224⟩ (fun hHeld => ?_)
              clear hK K
              try simp only [Act.put, List.setIfInBounds_toArray, List.set_cons_zero, List.set_cons_succ]
              refine wpAnyH_alone 12 rfl (by kernel_rfl) (fun K hK => ?_)
              go_simp
              obtain ⟨V13, hV13⟩ : ∃ V, V = V12.alloc (.cells #[I X, .slice A4 n c4] 75) := ⟨_, rfl⟩
              have bV13 : Below V12.heap.size V12 V13 := by rw [hV13]; exact bel_new _ _
              have cN13 : Cel V13 V12.heap.size 75 #[I X, .slice A4 n c4] := by rw [hV13]; exact Cel.new _ _ _
              have hb13 := hb12.trans (bV13.mono hb12.size)
              have own13 := Row.Os.below own12 bV13
              have X23 := Cel.on X7 hb13
              have x230 := X23.cell 0
              have x234 := X23.cell 4
              have x236 := X23.cell 6
              simp at x230 x234 x236
              rw [← hV13]
              clear hV13
              refine hK.out _ _ ⟨x230, x234⟩ (fun hHeld => ?_)
              clear hK K
              try simp only [Act.put, List.setIfInBounds_toArray, List.set_cons_zero, List.set_cons_succ]
              refine wpAnyH_alone 13 rfl (by kernel_rfl) (fun K hK => ?_)
              refine Row.step_row _ encT_ok is_flights (by decide) rfl (.tmp 70) (.tmp 79) rfl (v := v12) (m := ts) rfl own13 (l := [(⟨X, ⟨D, A4, c4⟩⟩ : Tq)]) (n := 1) (A := some ⟨V12.heap.size, 0, none⟩) (c := 1) rfl rfl (Rs_cel cN13 (by unfold encT; rw [HDl.out])) (fun h => nomatch h) (by rw [HTL.out]; simp; omega) hb13.size ?_
              intro v14 V14 own14 gr14 hv14
              obtain ⟨A8, c8, e8, hsq⟩ := Sq.own encT_ok own14 (by decide) (n := nL + 1) (by rw [List.length_append, HTL.out]; rfl)
              subst e8
              have hb14 := hb13.grown gr14 hb13.size (fun i hi => (own13.lt i hi).1)
              have HFQ : Hid (Fq V14 A8 (nL + 1) c8 (wt ++ [(X, D)])) := Lib.hid ⟨_, by rw [List.map_append, HTP.out]; rfl, hsq, fun y hy => by
                rcases List.mem_append.1 hy with hy | hy
                · exact (HDQ.out y hy).keep (Kq.of_below hb14)
                · rw [List.mem_singleton.1 hy]; exact HD6.out.keep (Kq.of_below hb14)⟩
              have X24 := Cel.on X7 hb14
              have x240 := X24.cell 0
              have x244 := X24.cell 4
              have x246 := X24.cell 6
              simp at x240 x244 x246
              have x24f := X24.free 6
              have N14 := X24.put 6 (.slice A8 (nL + 1) c8)
              have n140 := N14.cell 0
              have n144 := N14.cell 4
              simp at n140 n144
              refine hK.out _ _ ⟨x240, x244⟩ (fun hHeld => ?_)
              clear hK K
              try simp only [Act.put, List.setIfInBounds_toArray, List.set_cons_zero, List.set_cons_succ]
              refine wpAnyH_here 14 (v := ?_) rfl (by kernel_rfl) (by kernel_rfl) (by kernel_rfl) (fun _ _ _ h => h) (Or.inl ⟨by rfl, ?_⟩) hHeld ?_
              rotate_left
              · intro w hSw; (try dsimp only at hSw); go_simp; all_goals (with_reducible rfl)
              try simp only [Act.put, List.setIfInBounds_toArray, List.set_cons_zero, List.set_cons_succ]
              refine wpAnyH_alone 15 rfl (by kernel_rfl) (fun K hK => ?_)
              go_simp
              skip
              refine hK.out _ _ (⟨n140, n144⟩) (fun hHeld => ?_)
              clear hK K
              try simp only [Act.put, List.setIfInBounds_toArray, List.set_cons_zero, List.set_cons_succ]
              refine wpAnyH_done (by kernel_rfl) ?_ _
              have KW := (Only.refl [w.heap.size] V14).put (p := ⟨w.heap.size, 6, none⟩) (.inl (by simp)) (Value.slice A8 (nL + 1) c8)
              have ZW := (Cel.on Z7 hb14).only KW (by simp)
              have BW := (B7.trans (hb14.mono B7.size)).trans (KW.below (B7.trans (hb14.mono B7.size)).size (by simp))
              have FQW := HFQ.out.keep (Kq.of_only KW (fun x hx => by rw [List.mem_singleton.1 hx]; exact not_fx X24 (by decide)))
              have XW : Cel (V14.setCell ⟨w.heap.size, 6, none⟩ (Value.slice A8 (nL + 1) c8)) w.heap.size 36 #[I dl, .slice Ao no co, .slice Al nl cl, .slice Af j cf, I t, I (sn : Int), .slice A8 (nL + 1) c8] := N14
              obtain ⟨W9, hW9⟩ : ∃ W9, W9 = V14.setCell ⟨w.heap.size, 6, none⟩ (Value.slice A8 (nL + 1) c8) := ⟨_, rfl⟩
              rw [← hW9] at ZW BW FQW XW ⊢
              clear hW9 KW N14
              have x0 := XW.cell 0
              have x1 := XW.cell 1
              have x2 := XW.cell 2
              have x3 := XW.cell 3
              have x4 := XW.cell 4
              have x5 := XW.cell 5
              have x6 := XW.cell 6
              simp at x0 x1 x2 x3 x4 x5 x6
              have z0 := ZW.cell 0
              have z1 := ZW.cell 1
              have z2 := ZW.cell 2
              have z3 := ZW.cell 3
              have z4 := ZW.cell 4
              have z5 := ZW.cell 5
              have z6 := ZW.cell 6
              simp at z0 z1 z2 z3 z4 z5 z6
              have fx := XW.free 5
              have y0 := ZW.free 0
              have y1 := ZW.free 1
              have y2 := ZW.free 2
              have y3 := ZW.free 3
              have y4 := ZW.free 4
              have y5 := ZW.free 5
              have y6 := ZW.free 6
              have Z9 := ZW.only (S := [w.heap.size]) ((Only.refl _ _).put (p := ⟨w.heap.size, 5, none⟩) (.inl (by simp)) (I ((sn : Int) + 1))) (by simp)
              have B9 := put7_below (BW.trans (((Only.refl [w.heap.size] W9).put (p := ⟨w.heap.size, 5, none⟩) (.inl (by simp)) (I ((sn : Int) + 1))).below BW.size (by simp))) (by omega : w.heap.size ≤ w.heap.size + 1) (I dl) (.slice Ao no co) (.slice Al nl cl) (.slice Af j cf) (I t) (I ((sn : Int) + 1)) (.slice A8 (nL + 1) c8)
              have K9 : Only [w.heap.size, w.heap.size + 1] W9 (put7 (W9.setCell ⟨w.heap.size, 5, none⟩ (I ((sn : Int) + 1))) (w.heap.size + 1) (I dl) (.slice Ao no co) (.slice Al nl cl) (.slice Af j cf) (I t) (I ((sn : Int) + 1)) (.slice A8 (nL + 1) c8)) := (((Only.refl [w.heap.size] W9).put (p := ⟨w.heap.size, 5, none⟩) (.inl (by simp)) (I ((sn : Int) + 1))).more (fun x hx => .inl (by simp at hx; simp [hx]))).trans (put7_only _ _ _ _ _ _ _ _ _) (fun x hx => .inl (by simp at hx; simp [hx]))
              have Q9 := Kq.of_only K9 (fun x hx => by
                rcases List.mem_cons.1 hx with rfl | hx
                · exact not_fx XW (by decide)
                · rw [List.mem_singleton.1 hx]; exact not_fx ZW (by decide))
              have HFq := Lib.hid ((FQW).keep Q9)
              have HB9 := Lib.hid B9
              have HZ9 := Lib.hid Z9
              clear B9 Z9 K9 Q9 XW ZW
              go_wp2_with fail
              exact bodyPost_ret (xsend_results rfl (put7_cel HZ9.out _ _ _ _ _ _ _)) rfl ⟨⟨_, _, _, (by rw [HS2.out]; rfl), by rw [HS2.out]; exact HFq.out⟩, HB9.out⟩
            · go_simp
              obtain ⟨V15, hV15⟩ : ∃ V, V = V11.alloc (.cells #[I X, .slice A4 n c4] 75) := ⟨_, rfl⟩
              have bV15 : Below V11.heap.size V11 V15 := by rw [hV15]; exact bel_new _ _
              have cN15 : Cel V15 V11.heap.size 75 #[I X, .slice A4 n c4] := by rw [hV15]; exact Cel.new _ _ _
              have hb15 := hb11.trans (bV15.mono hb11.size)
              have cE15 := Cel.on cN11 bV15
              have hxe15 : V11.heap.size ≠ W0.heap.size := Ne.symm (Nat.ne_of_lt cN11.lt)
              have X25 := Cel.on X7 hb15
              have x250 := X25.cell 0
              have x254 := X25.cell 4
              have x256 := X25.cell 6
              simp at x250 x254 x256
              rw [← hV15]
              clear hV15
              refine hK.out _ _ ⟨x250, x254⟩ (fun hHeld => ?_)
              clear hK K
              try simp only [Act.put, List.setIfInBounds_toArray, List.set_cons_zero, List.set_cons_succ]
              refine wpAnyH_alone 3 rfl (by kernel_rfl) (fun K hK => ?_)
              refine Row.step_row _ encT_ok is_flights (by decide) rfl (.tmp 67) (.tmp 69) rfl (v := Value.slice (some ⟨W0.heap.size, 0, none⟩) 0 0) (m := []) rfl (Os_cel0 cE15 (hb0.size)) (l := ts) (n := nL) (A := AL) (c := cL) HTL.out rfl (HSL.out.sl.below hb15).r HSL.out.nil (by rw [HTL.out]; simp; omega) hb15.size ?_
              intro v16 V16 own16 gr16 hv16
              rw [List.nil_append] at own16
              have hb16 := hb15.grown gr16 hb15.size (fun i hi => by injection hi with hi; have := hb0.size; simp at hi; omega)
              have cX16 := cN15.only (Only.of_grown gr16) (by simpa [Value.ownBlock] using hxe15)
              have X26 := Cel.on X7 hb16
              have x260 := X26.cell 0
              have x264 := X26.cell 4
              have x266 := X26.cell 6
              simp at x260 x264 x266
              refine hK.out _ _ ⟨x260, x264⟩ (fun hHeld => ?_)
              clear hK K
              try simp only [Act.put, List.setIfInBounds_toArray, List.set_cons_zero, List.set_cons_succ]
              refine wpAnyH_alone 13 rfl (by kernel_rfl) (fun K hK => ?_)
              refine Row.step_row _ encT_ok is_flights (by decide) rfl (.tmp 70) (.tmp 79) rfl (v := v16) (m := ts) rfl own16 (l := [(⟨X, ⟨D, A4, c4⟩⟩ : Tq)]) (n := 1) (A := some ⟨V11.heap.size, 0, none⟩) (c := 1) rfl rfl (Rs_cel cX16 (by unfold encT; rw [HDl.out])) (fun h => nomatch h) (by rw [HTL.out]; simp; omega) hb16.size ?_
              intro v17 V17 own17 gr17 hv17
              obtain ⟨A8, c8, e8, hsq⟩ := Sq.own encT_ok own17 (by decide) (n := nL + 1) (by rw [List.length_append, HTL.out]; rfl)
              subst e8
              have hb17 := hb16.grown gr17 hb16.size (fun i hi => (own16.lt i hi).1)
              have HFQ : Hid (Fq V17 A8 (nL + 1) c8 (wt ++ [(X, D)])) := Lib.hid ⟨_, by rw [List.map_append, HTP.out]; rfl, hsq, fun y hy => by
                rcases List.mem_append.1 hy with hy | hy
                · exact (HDQ.out y hy).keep (Kq.of_below hb17)
                · rw [List.mem_singleton.1 hy]; exact HD6.out.keep (Kq.of_below hb17)⟩
              have X27 := Cel.on X7 hb17
              have x270 := X27.cell 0
              have x274 := X27.cell 4
              have x276 := X27.cell 6
              simp at x270 x274 x276
              have x27f := X27.free 6
              have N17 := X27.put 6 (.slice A8 (nL + 1) c8)
              have n170 := N17.cell 0
              have n174 := N17.cell 4
              simp at n170 n174
              refine hK.out _ _ ⟨x270, x274⟩ (fun hHeld => ?_)
              clear hK K
              try simp only [Act.put, List.setIfInBounds_toArray, List.set_cons_zero, List.set_cons_succ]
              refine wpAnyH_here 14 (v := ?_) rfl (by kernel_rfl) (by kernel_rfl) (by kernel_rfl) (fun _ _ _ h => h) (Or.inl ⟨by rfl, ?_⟩) hHeld ?_
              rotate_left
              · intro w hSw; (try dsimp only at hSw); go_simp; all_goals (with_reducible rfl)
              try simp only [Act.put, List.setIfInBounds_toArray, List.set_cons_zero, List.set_cons_succ]
              refine wpAnyH_alone 15 rfl (by kernel_rfl) (fun K hK => ?_)
              go_simp
              skip
              refine hK.out _ _ (⟨n170, n174⟩) (fun hHeld => ?_)
              clear hK K
              try simp only [Act.put, List.setIfInBounds_toArray, List.set_cons_zero, List.set_cons_succ]
              refine wpAnyH_done (by kernel_rfl) ?_ _
              have KW := (Only.refl [w.heap.size] V17).put (p := ⟨w.heap.size, 6, none⟩) (.inl (by simp)) (Value.slice A8 (nL + 1) c8)
              have ZW := (Cel.on Z7 hb17).only KW (by simp)
              have BW := (B7.trans (hb17.mono B7.size)).trans (KW.below (B7.trans (hb17.mono B7.size)).size (by simp))
              have FQW := HFQ.out.keep (Kq.of_only KW (fun x hx => by rw [List.mem_singleton.1 hx]; exact not_fx X27 (by decide)))
              have XW : Cel (V17.setCell ⟨w.heap.size, 6, none⟩ (Value.slice A8 (nL + 1) c8)) w.heap.size 36 #[I dl, .slice Ao no co, .slice Al nl cl, .slice Af j cf, I t, I (sn : Int), .slice A8 (nL + 1) c8] := N17
              obtain ⟨W9, hW9⟩ : ∃ W9, W9 = V17.setCell ⟨w.heap.size, 6, none⟩ (Value.slice A8 (nL + 1) c8) := ⟨_, rfl⟩
              rw [← hW9] at ZW BW FQW XW ⊢
              clear hW9 KW N17
              have x0 := XW.cell 0
              have x1 := XW.cell 1
              have x2 := XW.cell 2
              have x3 := XW.cell 3
              have x4 := XW.cell 4
              have x5 := XW.cell 5
              have x6 := XW.cell 6
              simp at x0 x1 x2 x3 x4 x5 x6
              have z0 := ZW.cell 0
              have z1 := ZW.cell 1
              have z2 := ZW.cell 2
              have z3 := ZW.cell 3
              have z4 := ZW.cell 4
              have z5 := ZW.cell 5
              have z6 := ZW.cell 6
              simp at z0 z1 z2 z3 z4 z5 z6
              have fx := XW.free 5
              have y0 := ZW.free 0
              have y1 := ZW.free 1
              have y2 := ZW.free 2
              have y3 := ZW.free 3
              have y4 := ZW.free 4
              have y5 := ZW.free 5
              have y6 := ZW.free 6
              have Z9 := ZW.only (S := [w.heap.size]) ((Only.refl _ _).put (p := ⟨w.heap.size, 5, none⟩) (.inl (by simp)) (I ((sn : Int) + 1))) (by simp)
              have B9 := put7_below (BW.trans (((Only.refl [w.heap.size] W9).put (p := ⟨w.heap.size, 5, none⟩) (.inl (by simp)) (I ((sn : Int) + 1))).below BW.size (by simp))) (by omega : w.heap.size ≤ w.heap.size + 1) (I dl) (.slice Ao no co) (.slice Al nl cl) (.slice Af j cf) (I t) (I ((sn : Int) + 1)) (.slice A8 (nL + 1) c8)
              have K9 : Only [w.heap.size, w.heap.size + 1] W9 (put7 (W9.setCell ⟨w.heap.size, 5, none⟩ (I ((sn : Int) + 1))) (w.heap.size + 1) (I dl) (.slice Ao no co) (.slice Al nl cl) (.slice Af j cf) (I t) (I ((sn : Int) + 1)) (.slice A8 (nL + 1) c8)) := (((Only.refl [w.heap.size] W9).put (p := ⟨w.heap.size, 5, none⟩) (.inl (by simp)) (I ((sn : Int) + 1))).more (fun x hx => .inl (by simp at hx; simp [hx]))).trans (put7_only _ _ _ _ _ _ _ _ _) (fun x hx => .inl (by simp at hx; simp [hx]))
              have Q9 := Kq.of_only K9 (fun x hx => by
                rcases List.mem_cons.1 hx with rfl | hx
                · exact not_fx XW (by decide)
                · rw [List.mem_singleton.1 hx]; exact not_fx ZW (by decide))
              have HFq := Lib.hid ((FQW).keep Q9)
              have HB9 := Lib.hid B9
              have HZ9 := Lib.hid Z9
              clear B9 Z9 K9 Q9 XW ZW
              go_wp2_with fail
              exact bodyPost_ret (xsend_results rfl (put7_cel HZ9.out _ _ _ _ _ _ _)) rfl ⟨⟨_, _, _, (by rw [HS2.out]; rfl), by rw [HS2.out]; exact HFq.out⟩, HB9.out⟩
          · go_simp
            obtain ⟨V18, hV18⟩ : ∃ V, V = W0.alloc (.cells #[I X, .slice A4 n c4] 75) := ⟨_, rfl⟩
            have bV18 : Below W0.heap.size W0 V18 := by rw [hV18]; exact bel_new _ _
            have cN18 : Cel V18 W0.heap.size 75 #[I X, .slice A4 n c4] := by rw [hV18]; exact Cel.new _ _ _
            have hb18 := hb0.trans (bV18.mono hb0.size)
            have X28 := Cel.on X7 hb18
            have x280 := X28.cell 0
            have x284 := X28.cell 4
            have x286 := X28.cell 6
            simp at x280 x284 x286
            rw [← hV18]
            clear hV18
            refine hK.out _ _ ⟨x280, x284⟩ (fun hHeld => ?_)
            clear hK K
            try simp only [Act.put, List.setIfInBounds_toArray, List.set_cons_zero, List.set_cons_succ]
            refine wpAnyH_alone 0 rfl (by kernel_rfl) (fun K hK => ?_)
            go_simp
            obtain ⟨V19, hV19⟩ : ∃ V, V = V18.alloc (.cells #[] 75) := ⟨_, rfl⟩
            have bV19 : Below V18.heap.size V18 V19 := by rw [hV19]; exact bel_new _ _
            have cN19 : Cel V19 V18.heap.size 75 #[] := by rw [hV19]; exact Cel.new _ _ _
            have hb19 := hb18.trans (bV19.mono hb18.size)
            have cX19 := Cel.on cN18 bV19
            have hxe19 : W0.heap.size ≠ V18.heap.size := Nat.ne_of_lt cN18.lt
            have X29 := Cel.on X7 hb19
            have x290 := X29.cell 0
            have x294 := X29.cell 4
            have x296 := X29.cell 6
            simp at x290 x294 x296
            rw [← hV19]
            clear hV19
            refine hK.out _ _ ⟨x290, x294⟩ (fun hHeld => ?_)
            clear hK K
            try simp only [Act.put, List.setIfInBounds_toArray, List.set_cons_zero, List.set_cons_succ]
            refine wpAnyH_alone 3 rfl (by kernel_rfl) (fun K hK => ?_)
            refine Row.step_row _ encT_ok is_flights (by decide) rfl (.tmp 67) (.tmp 69) rfl (v := Value.slice (some ⟨V18.heap.size, 0, none⟩) 0 0) (m := []) rfl (Os_cel0 cN19 (hb18.size)) (l := ts) (n := nL) (A := AL) (c := cL) HTL.out rfl (HSL.out.sl.below hb19).r HSL.out.nil (by rw [HTL.out]; simp; omega) hb19.size ?_
            intro v20 V20 own20 gr20 hv20
            rw [List.nil_append] at own20
            have hb20 := hb19.grown gr20 hb19.size (fun i hi => by injection hi with hi; have := hb18.size; simp at hi; omega)
            have cX20 := cX19.only (Only.of_grown gr20) (by simpa [Value.ownBlock] using hxe19)
            have X30 := Cel.on X7 hb20
            have x300 := X30.cell 0
            have x304 := X30.cell 4
            have x306 := X30.cell 6
            simp at x300 x304 x306
            refine hK.out _ _ ⟨x300, x304⟩ (fun hHeld => ?_)
            clear hK K
            try simp only [Act.put, List.setIfInBounds_toArray, List.set_cons_zero, List.set_cons_succ]
            refine wpAnyH_alone 13 rfl (by kernel_rfl) (fun K hK => ?_)
            refine Row.step_row _ encT_ok is_flights (by decide) rfl (.tmp 70) (.tmp 79) rfl (v := v20) (m := ts) rfl own20 (l := [(⟨X, ⟨D, A4, c4⟩⟩ : Tq)]) (n := 1) (A := some ⟨W0.heap.size, 0, none⟩) (c := 1) rfl rfl (Rs_cel cX20 (by unfold encT; rw [HDl.out])) (fun h => nomatch h) (by rw [HTL.out]; simp; omega) hb20.size ?_
            intro v21 V21 own21 gr21 hv21
            obtain ⟨A8, c8, e8, hsq⟩ := Sq.own encT_ok own21 (by decide) (n := nL + 1) (by rw [List.length_append, HTL.out]; rfl)
            subst e8
            have hb21 := hb20.grown gr21 hb20.size (fun i hi => (own20.lt i hi).1)
            have HFQ : Hid (Fq V21 A8 (nL + 1) c8 (wt ++ [(X, D)])) := Lib.hid ⟨_, by rw [List.map_append, HTP.out]; rfl, hsq, fun y hy => by
              rcases List.mem_append.1 hy with hy | hy
              · exact (HDQ.out y hy).keep (Kq.of_below hb21)
              · rw [List.mem_singleton.1 hy]; exact HD6.out.keep (Kq.of_below hb21)⟩
            have X31 := Cel.on X7 hb21
            have x310 := X31.cell 0
            have x314 := X31.cell 4
            have x316 := X31.cell 6
            simp at x310 x314 x316
            have x31f := X31.free 6
            have N21 := X31.put 6 (.slice A8 (nL + 1) c8)
            have n210 := N21.cell 0
            have n214 := N21.cell 4
            simp at n210 n214
            refine hK.out _ _ ⟨x310, x314⟩ (fun hHeld => ?_)
            clear hK K
            try simp only [Act.put, List.setIfInBounds_toArray, List.set_cons_zero, List.set_cons_succ]
            refine wpAnyH_here 14 (v := ?_) rfl (by kernel_rfl) (by kernel_rfl) (by kernel_rfl) (fun _ _ _ h => h) (Or.inl ⟨by rfl, ?_⟩) hHeld ?_
            rotate_left
            · intro w hSw; (try dsimp only at hSw); go_simp; all_goals (with_reducible rfl)
            try simp only [Act.put, List.setIfInBounds_toArray, List.set_cons_zero, List.set_cons_succ]
            refine wpAnyH_alone 15 rfl (by kernel_rfl) (fun K hK => ?_)
            go_simp
            skip
            refine hK.out _ _ (⟨n210, n214⟩) (fun hHeld => ?_)
            clear hK K
            try simp only [Act.put, List.setIfInBounds_toArray, List.set_cons_zero, List.set_cons_succ]
            refine wpAnyH_done (by kernel_rfl) ?_ _
            have KW := (Only.refl [w.heap.size] V21).put (p := ⟨w.heap.size, 6, none⟩) (.inl (by simp)) (Value.slice A8 (nL + 1) c8)
            have ZW := (Cel.on Z7 hb21).only KW (by simp)
            have BW := (B7.trans (hb21.mono B7.size)).trans (KW.below (B7.trans (hb21.mono B7.size)).size (by simp))
            have FQW := HFQ.out.keep (Kq.of_only KW (fun x hx => by rw [List.mem_singleton.1 hx]; exact not_fx X31 (by decide)))
            have XW : Cel (V21.setCell ⟨w.heap.size, 6, none⟩ (Value.slice A8 (nL + 1) c8)) w.heap.size 36 #[I dl, .slice Ao no co, .slice Al nl cl, .slice Af j cf, I t, I (sn : Int), .slice A8 (nL + 1) c8] := N21
            obtain ⟨W9, hW9⟩ : ∃ W9, W9 = V21.setCell ⟨w.heap.size, 6, none⟩ (Value.slice A8 (nL + 1) c8) := ⟨_, rfl⟩
            rw [← hW9] at ZW BW FQW XW ⊢
            clear hW9 KW N21
            have x0 := XW.cell 0
            have x1 := XW.cell 1
            have x2 := XW.cell 2
            have x3 := XW.cell 3
            have x4 := XW.cell 4
            have x5 := XW.cell 5
            have x6 := XW.cell 6
            simp at x0 x1 x2 x3 x4 x5 x6
            have z0 := ZW.cell 0
            have z1 := ZW.cell 1
            have z2 := ZW.cell 2
            have z3 := ZW.cell 3
            have z4 := ZW.cell 4
            have z5 := ZW.cell 5
            have z6 := ZW.cell 6
            simp at z0 z1 z2 z3 z4 z5 z6
            have fx := XW.free 5
            have y0 := ZW.free 0
            have y1 := ZW.free 1
            have y2 := ZW.free 2
            have y3 := ZW.free 3
            have y4 := ZW.free 4
            have y5 := ZW.free 5
            have y6 := ZW.free 6
            have Z9 := ZW.only (S := [w.heap.size]) ((Only.refl _ _).put (p := ⟨w.heap.size, 5, none⟩) (.inl (by simp)) (I ((sn : Int) + 1))) (by simp)
            have B9 := put7_below (BW.trans (((Only.refl [w.heap.size] W9).put (p := ⟨w.heap.size, 5, none⟩) (.inl (by simp)) (I ((sn : Int) + 1))).below BW.size (by simp))) (by omega : w.heap.size ≤ w.heap.size + 1) (I dl) (.slice Ao no co) (.slice Al nl cl) (.slice Af j cf) (I t) (I ((sn : Int) + 1)) (.slice A8 (nL + 1) c8)
            have K9 : Only [w.heap.size, w.heap.size + 1] W9 (put7 (W9.setCell ⟨w.heap.size, 5, none⟩ (I ((sn : Int) + 1))) (w.heap.size + 1) (I dl) (.slice Ao no co) (.slice Al nl cl) (.slice Af j cf) (I t) (I ((sn : Int) + 1)) (.slice A8 (nL + 1) c8)) := (((Only.refl [w.heap.size] W9).put (p := ⟨w.heap.size, 5, none⟩) (.inl (by simp)) (I ((sn : Int) + 1))).more (fun x hx => .inl (by simp at hx; simp [hx]))).trans (put7_only _ _ _ _ _ _ _ _ _) (fun x hx => .inl (by simp at hx; simp [hx]))
            have Q9 := Kq.of_only K9 (fun x hx => by
              rcases List.mem_cons.1 hx with rfl | hx
              · exact not_fx XW (by decide)
              · rw [List.mem_singleton.1 hx]; exact not_fx ZW (by decide))
            have HFq := Lib.hid ((FQW).keep Q9)
            have HB9 := Lib.hid B9
            have HZ9 := Lib.hid Z9
            clear B9 Z9 K9 Q9 XW ZW
            go_wp2_with fail
            exact bodyPost_ret (xsend_results rfl (put7_cel HZ9.out _ _ _ _ _ _ _)) rfl ⟨⟨_, _, _, (by rw [HS2.out]; rfl), by rw [HS2.out]; exact HFq.out⟩, HB9.out⟩
        · go_simp
          obtain ⟨V22, hV22⟩ : ∃ V, V = W0.alloc (.cells #[I X, .slice A4 n c4] 75) := ⟨_, rfl⟩
          have bV22 : Below W0.heap.size W0 V22 := by rw [hV22]; exact bel_new _ _
          have cN22 : Cel V22 W0.heap.size 75 #[I X, .slice A4 n c4] := by rw [hV22]; exact Cel.new _ _ _
          have hb22 := hb0.trans (bV22.mono hb0.size)
          have X32 := Cel.on X7 hb22
          have x320 := X32.cell 0
          have x324 := X32.cell 4
          have x326 := X32.cell 6
          simp at x320 x324 x326
          rw [← hV22]
          clear hV22
          refine hK.out _ _ ⟨x320, x324⟩ (fun hHeld => ?_)
          clear hK K
          try simp only [Act.put, List.setIfInBounds_toArray, List.set_cons_zero, List.set_cons_succ]
          refine wpAnyH_both 0 2 rfl rfl (by kernel_rfl) (fun K hK => ?_) (fun K hK => ?_)
          · go_simp
            obtain ⟨V23, hV23⟩ : ∃ V, V = V22.alloc (.cells #[] 75) := ⟨_, rfl⟩
            have bV23 : Below V22.heap.size V22 V23 := by rw [hV23]; exact bel_new _ _
            have cN23 : Cel V23 V22.heap.size 75 #[] := by rw [hV23]; exact Cel.new _ _ _
            have hb23 := hb22.trans (bV23.mono hb22.size)
            have cX23 := Cel.on cN22 bV23
            have hxe23 : W0.heap.size ≠ V22.heap.size := Nat.ne_of_lt cN22.lt
            have X33 := Cel.on X7 hb23
            have x330 := X33.cell 0
            have x334 := X33.cell 4
            have x336 := X33.cell 6
            simp at x330 x334 x336
            rw [← hV23]
            clear hV23
            refine hK.out _ _ ⟨x330, x334⟩ (fun hHeld => ?_)
            clear hK K
            try simp only [Act.put, List.setIfInBounds_toArray, List.set_cons_zero, List.set_cons_succ]
            refine wpAnyH_alone 2 rfl (by kernel_rfl) (fun K hK => ?_)
            go_simp
            refine hK.out _ _ ⟨x330, x334⟩ (fun hHeld => ?_)
            clear hK K
            try simp only [Act.put, List.setIfInBounds_toArray, List.set_cons_zero, List.set_cons_succ]
            refine wpAnyH_alone 3 rfl (by kernel_rfl) (fun K hK => ?_)
            refine Row.step_row _ encT_ok is_flights (by decide) rfl (.tmp 67) (.tmp 69) rfl (v := Value.slice (some ⟨V22.heap.size, 0, none⟩) 0 0) (m := []) rfl (Os_cel0 cN23 (hb22.size)) (l := ts) (n := nL) (A := AL) (c := cL) HTL.out rfl (HSL.out.sl.below hb23).r HSL.out.nil (by rw [HTL.out]; simp; omega) hb23.size ?_
            intro v24 V24 own24 gr24 hv24
            rw [List.nil_append] at own24
            have hb24 := hb23.grown gr24 hb23.size (fun i hi => by injection hi with hi; have := hb22.size; simp at hi; omega)
            have cX24 := cX23.only (Only.of_grown gr24) (by simpa [Value.ownBlock] using hxe23)
            have X34 := Cel.on X7 hb24
            have x340 := X34.cell 0
            have x344 := X34.cell 4
            have x346 := X34.cell 6
            simp at x340 x344 x346
            refine hK.out _ _ ⟨x340, x344⟩ (fun hHeld => ?_)
            clear hK K
            try simp only [Act.put, List.setIfInBounds_toArray, List.set_cons_zero, List.set_cons_succ]
            refine wpAnyH_alone 13 rfl (by kernel_rfl) (fun K hK => ?_)
            refine Row.step_row _ encT_ok is_flights (by decide) rfl (.tmp 70) (.tmp 79) rfl (v := v24) (m := ts) rfl own24 (l := [(⟨X, ⟨D, A4, c4⟩⟩ : Tq)]) (n := 1) (A := some ⟨W0.heap.size, 0, none⟩) (c := 1) rfl rfl (Rs_cel cX24 (by unfold encT; rw [HDl.out])) (fun h => nomatch h) (by rw [HTL.out]; simp; omega) hb24.size ?_
            intro v25 V25 own25 gr25 hv25
            obtain ⟨A8, c8, e8, hsq⟩ := Sq.own encT_ok own25 (by decide) (n := nL + 1) (by rw [List.length_append, HTL.out]; rfl)
            subst e8
            have hb25 := hb24.grown gr25 hb24.size (fun i hi => (own24.lt i hi).1)
            have HFQ : Hid (Fq V25 A8 (nL + 1) c8 (wt ++ [(X, D)])) := Lib.hid ⟨_, by rw [List.map_append, HTP.out]; rfl, hsq, fun y hy => by
              rcases List.mem_append.1 hy with hy | hy
              · exact (HDQ.out y hy).keep (Kq.of_below hb25)
              · rw [List.mem_singleton.1 hy]; exact HD6.out.keep (Kq.of_below hb25)⟩
            have X35 := Cel.on X7 hb25
            have x350 := X35.cell 0
            have x354 := X35.cell 4
            have x356 := X35.cell 6
            simp at x350 x354 x356
            have x35f := X35.free 6
            have N25 := X35.put 6 (.slice A8 (nL + 1) c8)
            have n250 := N25.cell 0
            have n254 := N25.cell 4
            simp at n250 n254
            refine hK.out _ _ ⟨x350, x354⟩ (fun hHeld => ?_)
            clear hK K
            try simp only [Act.put, List.setIfInBounds_toArray, List.set_cons_zero, List.set_cons_succ]
            refine wpAnyH_here 14 (v := ?_) rfl (by kernel_rfl) (by kernel_rfl) (by kernel_rfl) (fun _ _ _ h => h) (Or.inl ⟨by rfl, ?_⟩) hHeld ?_
            rotate_left
            · intro w hSw; (try dsimp only at hSw); go_simp; all_goals (with_reducible rfl)
            try simp only [Act.put, List.setIfInBounds_toArray, List.set_cons_zero, List.set_cons_succ]
            refine wpAnyH_alone 15 rfl (by kernel_rfl) (fun K hK => ?_)
            go_simp
            skip
            refine hK.out _ _ (⟨n250, n254⟩) (fun hHeld => ?_)
            clear hK K
            try simp only [Act.put, List.setIfInBounds_toArray, List.set_cons_zero, List.set_cons_succ]
            refine wpAnyH_done (by kernel_rfl) ?_ _
            have KW := (Only.refl [w.heap.size] V25).put (p := ⟨w.heap.size, 6, none⟩) (.inl (by simp)) (Value.slice A8 (nL + 1) c8)
            have ZW := (Cel.on Z7 hb25).only KW (by simp)
            have BW := (B7.trans (hb25.mono B7.size)).trans (KW.below (B7.trans (hb25.mono B7.size)).size (by simp))
            have FQW := HFQ.out.keep (Kq.of_only KW (fun x hx => by rw [List.mem_singleton.1 hx]; exact not_fx X35 (by decide)))
            have XW : Cel (V25.setCell ⟨w.heap.size, 6, none⟩ (Value.slice A8 (nL + 1) c8)) w.heap.size 36 #[I dl, .slice Ao no co, .slice Al nl cl, .slice Af j cf, I t, I (sn : Int), .slice A8 (nL + 1) c8] := N25
            obtain ⟨W9, hW9⟩ : ∃ W9, W9 = V25.setCell ⟨w.heap.size, 6, none⟩ (Value.slice A8 (nL + 1) c8) := ⟨_, rfl⟩
            rw [← hW9] at ZW BW FQW XW ⊢
            clear hW9 KW N25
            have x0 := XW.cell 0
            have x1 := XW.cell 1
            have x2 := XW.cell 2
            have x3 := XW.cell 3
            have x4 := XW.cell 4
            have x5 := XW.cell 5
            have x6 := XW.cell 6
            simp at x0 x1 x2 x3 x4 x5 x6
            have z0 := ZW.cell 0
            have z1 := ZW.cell 1
            have z2 := ZW.cell 2
            have z3 := ZW.cell 3
            have z4 := ZW.cell 4
            have z5 := ZW.cell 5
            have z6 := ZW.cell 6
            simp at z0 z1 z2 z3 z4 z5 z6
            have fx := XW.free 5
            have y0 := ZW.free 0
            have y1 := ZW.free 1
            have y2 := ZW.free 2
            have y3 := ZW.free 3
            have y4 := ZW.free 4
            have y5 := ZW.free 5
            have y6 := ZW.free 6
            have Z9 := ZW.only (S := [w.heap.size]) ((Only.refl _ _).put (p := ⟨w.heap.size, 5, none⟩) (.inl (by simp)) (I ((sn : Int) + 1))) (by simp)
            have B9 := put7_below (BW.trans (((Only.refl [w.heap.size] W9).put (p := ⟨w.heap.size, 5, none⟩) (.inl (by simp)) (I ((sn : Int) + 1))).below BW.size (by simp))) (by omega : w.heap.size ≤ w.heap.size + 1) (I dl) (.slice Ao no co) (.slice Al nl cl) (.slice Af j cf) (I t) (I ((sn : Int) + 1)) (.slice A8 (nL + 1) c8)
            have K9 : Only [w.heap.size, w.heap.size + 1] W9 (put7 (W9.setCell ⟨w.heap.size, 5, none⟩ (I ((sn : Int) + 1))) (w.heap.size + 1) (I dl) (.slice Ao no co) (.slice Al nl cl) (.slice Af j cf) (I t) (I ((sn : Int) + 1)) (.slice A8 (nL + 1) c8)) := (((Only.refl [w.heap.size] W9).put (p := ⟨w.heap.size, 5, none⟩) (.inl (by simp)) (I ((sn : Int) + 1))).more (fun x hx => .inl (by simp at hx; simp [hx]))).trans (put7_only _ _ _ _ _ _ _ _ _) (fun x hx => .inl (by simp at hx; simp [hx]))
            have Q9 := Kq.of_only K9 (fun x hx => by
              rcases List.mem_cons.1 hx with rfl | hx
              · exact not_fx XW (by decide)
              · rw [List.mem_singleton.1 hx]; exact not_fx ZW (by decide))
            have HFq := Lib.hid ((FQW).keep Q9)
            have HB9 := Lib.hid B9
            have HZ9 := Lib.hid Z9
            clear B9 Z9 K9 Q9 XW ZW
            go_wp2_with fail
            exact bodyPost_ret (xsend_results rfl (put7_cel HZ9.out _ _ _ _ _ _ _)) rfl ⟨⟨_, _, _, (by rw [HS2.out]; rfl), by rw [HS2.out]; exact HFq.out⟩, HB9.out⟩
          · go_simp
            refine hK.out _ _ ⟨x320, x324⟩ (fun hHeld => ?_)
            clear hK K
            try simp only [Act.put, List.setIfInBounds_toArray, List.set_cons_zero, List.set_cons_succ]
            refine wpAnyH_alone 0 rfl (by kernel_rfl) (fun K hK => ?_)
            go_simp
            obtain ⟨V26, hV26⟩ : ∃ V, V = V22.alloc (.cells #[] 75) := ⟨_, rfl⟩
            have bV26 : Below V22.heap.size V22 V26 := by rw [hV26]; exact bel_new _ _
            have cN26 : Cel V26 V22.heap.size 75 #[] := by rw [hV26]; exact Cel.new _ _ _
            have hb26 := hb22.trans (bV26.mono hb22.size)
            have cX26 := Cel.on cN22 bV26
            have hxe26 : W0.heap.size ≠ V22.heap.size := Nat.ne_of_lt cN22.lt
            have X36 := Cel.on X7 hb26
            have x360 := X36.cell 0
            have x364 := X36.cell 4
            have x366 := X36.cell 6
            simp at x360 x364 x366
            rw [← hV26]
            clear hV26
            refine hK.out _ _ ⟨x360, x364⟩ (fun hHeld => ?_)
            clear hK K
            try simp only [Act.put, List.setIfInBounds_toArray, List.set_cons_zero, List.set_cons_succ]
            refine wpAnyH_alone 3 rfl (by kernel_rfl) (fun K hK => ?_)
            refine Row.step_row _ encT_ok is_flights (by decide) rfl (.tmp 67) (.tmp 69) rfl (v := Value.slice (some ⟨V22.heap.size, 0, none⟩) 0 0) (m := []) rfl (Os_cel0 cN26 (hb22.size)) (l := ts) (n := nL) (A := AL) (c := cL) HTL.out rfl (HSL.out.sl.below hb26).r HSL.out.nil (by rw [HTL.out]; simp; omega) hb26.size ?_
            intro v27 V27 own27 gr27 hv27
            rw [List.nil_append] at own27
            have hb27 := hb26.grown gr27 hb26.size (fun i hi => by injection hi with hi; have := hb22.size; simp at hi; omega)
            have cX27 := cX26.only (Only.of_grown gr27) (by simpa [Value.ownBlock] using hxe26)
            have X37 := Cel.on X7 hb27
            have x370 := X37.cell 0
            have x374 := X37.cell 4
            have x376 := X37.cell 6
            simp at x370 x374 x376
            refine hK.out _ _ ⟨x370, x374⟩ (fun hHeld => ?_)
            clear hK K
            try simp only [Act.put, List.setIfInBounds_toArray, List.set_cons_zero, List.set_cons_succ]
            refine wpAnyH_alone 13 rfl (by kernel_rfl) (fun K hK => ?_)
            refine Row.step_row _ encT_ok is_flights (by decide) rfl (.tmp 70) (.tmp 79) rfl (v := v27) (m := ts) rfl own27 (l := [(⟨X, ⟨D, A4, c4⟩⟩ : Tq)]) (n := 1) (A := some ⟨W0.heap.size, 0, none⟩) (c := 1) rfl rfl (Rs_cel cX27 (by unfold encT; rw [HDl.out])) (fun h => nomatch h) (by rw [HTL.out]; simp; omega) hb27.size ?_
            intro v28 V28 own28 gr28 hv28
            obtain ⟨A8, c8, e8, hsq⟩ := Sq.own encT_ok own28 (by decide) (n := nL + 1) (by rw [List.length_append, HTL.out]; rfl)
            subst e8
            have hb28 := hb27.grown gr28 hb27.size (fun i hi => (own27.lt i hi).1)
            have HFQ : Hid (Fq V28 A8 (nL + 1) c8 (wt ++ [(X, D)])) := Lib.hid ⟨_, by rw [List.map_append, HTP.out]; rfl, hsq, fun y hy => by
              rcases List.mem_append.1 hy with hy | hy
              · exact (HDQ.out y hy).keep (Kq.of_below hb28)
              · rw [List.mem_singleton.1 hy]; exact HD6.out.keep (Kq.of_below hb28)⟩
            have X38 := Cel.on X7 hb28
            have x380 := X38.cell 0
            have x384 := X38.cell 4
            have x386 := X38.cell 6
            simp at x380 x384 x386
            have x38f := X38.free 6
            have N28 := X38.put 6 (.slice A8 (nL + 1) c8)
            have n280 := N28.cell 0
            have n284 := N28.cell 4
            simp at n280 n284
            refine hK.out _ _ ⟨x380, x384⟩ (fun hHeld => ?_)
            clear hK K
            try simp only [Act.put, List.setIfInBounds_toArray, List.set_cons_zero, List.set_cons_succ]
            refine wpAnyH_here 14 (v := ?_) rfl (by kernel_rfl) (by kernel_rfl) (by kernel_rfl) (fun _ _ _ h => h) (Or.inl ⟨by rfl, ?_⟩) hHeld ?_
            rotate_left
            · intro w hSw; (try dsimp only at hSw); go_simp; all_goals (with_reducible rfl)
            try simp only [Act.put, List.setIfInBounds_toArray, List.set_cons_zero, List.set_cons_succ]
            refine wpAnyH_alone 15 rfl (by kernel_rfl) (fun K hK => ?_)
            go_simp
            skip
            refine hK.out _ _ (⟨n280, n284⟩) (fun hHeld => ?_)
            clear hK K
            try simp only [Act.put, List.setIfInBounds_toArray, List.set_cons_zero, List.set_cons_succ]
            refine wpAnyH_done (by kernel_rfl) ?_ _
            have KW := (Only.refl [w.heap.size] V28).put (p := ⟨w.heap.size, 6, none⟩) (.inl (by simp)) (Value.slice A8 (nL + 1) c8)
            have ZW := (Cel.on Z7 hb28).only KW (by simp)
            have BW := (B7.trans (hb28.mono B7.size)).trans (KW.below (B7.trans (hb28.mono B7.size)).size (by simp))
            have FQW := HFQ.out.keep (Kq.of_only KW (fun x hx => by rw [List.mem_singleton.1 hx]; exact not_fx X38 (by decide)))
            have XW : Cel (V28.setCell ⟨w.heap.size, 6, none⟩ (Value.slice A8 (nL + 1) c8)) w.heap.size 36 #[I dl, .slice Ao no co, .slice Al nl cl, .slice Af j cf, I t, I (sn : Int), .slice A8 (nL + 1) c8] := N28
            obtain ⟨W9, hW9⟩ : ∃ W9, W9 = V28.setCell ⟨w.heap.size, 6, none⟩ (Value.slice A8 (nL + 1) c8) := ⟨_, rfl⟩
            rw [← hW9] at ZW BW FQW XW ⊢
            clear hW9 KW N28
            have x0 := XW.cell 0
            have x1 := XW.cell 1
            have x2 := XW.cell 2
            have x3 := XW.cell 3
            have x4 := XW.cell 4
            have x5 := XW.cell 5
            have x6 := XW.cell 6
            simp at x0 x1 x2 x3 x4 x5 x6
            have z0 := ZW.cell 0
            have z1 := ZW.cell 1
            have z2 := ZW.cell 2
            have z3 := ZW.cell 3
            have z4 := ZW.cell 4
            have z5 := ZW.cell 5
            have z6 := ZW.cell 6
            simp at z0 z1 z2 z3 z4 z5 z6
            have fx := XW.free 5
            have y0 := ZW.free 0
            have y1 := ZW.free 1
            have y2 := ZW.free 2
            have y3 := ZW.free 3
            have y4 := ZW.free 4
            have y5 := ZW.free 5
            have y6 := ZW.free 6
            have Z9 := ZW.only (S := [w.heap.size]) ((Only.refl _ _).put (p := ⟨w.heap.size, 5, none⟩) (.inl (by simp)) (I ((sn : Int) + 1))) (by simp)
            have B9 := put7_below (BW.trans (((Only.refl [w.heap.size] W9).put (p := ⟨w.heap.size, 5, none⟩) (.inl (by simp)) (I ((sn : Int) + 1))).below BW.size (by simp))) (by omega : w.heap.size ≤ w.heap.size + 1) (I dl) (.slice Ao no co) (.slice Al nl cl) (.slice Af j cf) (I t) (I ((sn : Int) + 1)) (.slice A8 (nL + 1) c8)
            have K9 : Only [w.heap.size, w.heap.size + 1] W9 (put7 (W9.setCell ⟨w.heap.size, 5, none⟩ (I ((sn : Int) + 1))) (w.heap.size + 1) (I dl) (.slice Ao no co) (.slice Al nl cl) (.slice Af j cf) (I t) (I ((sn : Int) + 1)) (.slice A8 (nL + 1) c8)) := (((Only.refl [w.heap.size] W9).put (p := ⟨w.heap.size, 5, none⟩) (.inl (by simp)) (I ((sn : Int) + 1))).more (fun x hx => .inl (by simp at hx; simp [hx]))).trans (put7_only _ _ _ _ _ _ _ _ _) (fun x hx => .inl (by simp at hx; simp [hx]))
            have Q9 := Kq.of_only K9 (fun x hx => by
              rcases List.mem_cons.1 hx with rfl | hx
              · exact not_fx XW (by decide)
              · rw [List.mem_singleton.1 hx]; exact not_fx ZW (by decide))
            have HFq := Lib.hid ((FQW).keep Q9)
            have HB9 := Lib.hid B9
            have HZ9 := Lib.hid Z9
            clear B9 Z9 K9 Q9 XW ZW
            go_wp2_with fail
            exact bodyPost_ret (xsend_results rfl (put7_cel HZ9.out _ _ _ _ _ _ _)) rfl ⟨⟨_, _, _, (by rw [HS2.out]; rfl), by rw [HS2.out]; exact HFq.out⟩, HB9.out⟩
end
end Go.Proofs.Ytllhdgllgoanbaa.Lnk
