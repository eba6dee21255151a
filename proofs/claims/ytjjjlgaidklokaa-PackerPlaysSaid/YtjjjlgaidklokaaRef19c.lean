/-
  The reference of layer 19: Push takes a packet.
-/
import Derived.Test.YtjjjlgaidklokaaRef19b
namespace Go.Proofs.Ytjjjlgaidklokaa.Pkr
open Go.RowKit Go.Proofs.Ytjjjlgaidklokaa.Lst
open Pac (bel_new Cel.later deE deN deP xdecode_any)

theorem is_lists19 : Row.IsRows Try.prog 34 28 (.slice none 0 0) 1 24 := Row.IsRows.of Try.underlying34 rfl (by kernel_rfl)
section
variable {w : World} {D : Nat → Prop} {R Re n c Tk N cap : Nat} {A a : Option Addr} {s : PS} {l : List Byte}
set_option maxRecDepth 100000 in
set_option maxHeartbeats 8000000 in
theorem xpush_yes (Z : Int) (h : RV w D R Re A n c Tk s) (hl : Rd w a l N cap) (hp : Pkt l) (hf : ¬ R < s.wt.length + l.length) :
    Calls Try.prog 17 #[.agg #[.int .i64 Z, .int .i64 (R : Int), .int .i64 (Re : Int), .slice A n c, .int .i64 (Tk : Int)], .slice a N cap] w fun e w' => (∃ A' n' c', e = .returned (.tuple #[.agg #[.int .i64 Z, .int .i64 (R : Int), .int .i64 (Re : Int), .slice A' n' c', .int .i64 (Tk : Int)], .int .i64 (psE R l s)]) ∧ RV w' (fun b => D b ∨ w.heap.size ≤ b) R Re A' n' c' Tk (psS R l s)) ∧ Below w.heap.size w w' := by
  rw [(ps_yes hp hf).1, (ps_yes hp hf).2]
  have hd := fun W (hW : Below w.heap.size w W) => xdecode_any a l N cap W (Lib.hid hl.len) (hl.later hW).bs hl.nil hl.le hl.max
  have hln := hl.len
  obtain ⟨M, hM⟩ : ∃ M, deN l = M := ⟨_, rfl⟩
  obtain ⟨E, hE⟩ : ∃ E, deE l = E := ⟨_, rfl⟩
  obtain ⟨P, hP⟩ : ∃ P, deP l = P := ⟨_, rfl⟩
  obtain ⟨com, sec, ap, fl, ct, d⟩ := P
  simp only [hM, hE, hP] at hd
  obtain ⟨w1, hw1⟩ : ∃ w1, w1 = (w.alloc (.cells #[.int .i64 Z, .int .i64 (R : Int), .int .i64 (Re : Int), .slice A n c, .int .i64 (Tk : Int)] 36)).alloc (.cells #[.int .i64 0, .int .i64 0, .int .i64 0, .slice none 0 0, .int .i64 0] 36) := ⟨_, rfl⟩
  have b1 : Below w.heap.size w w1 := by rw [hw1]; exact (bel_new _ _).alloc (by simp) _
  have p1 : Cel w1 w.heap.size 36 #[.int .i64 Z, .int .i64 (R : Int), .int .i64 (Re : Int), .slice A n c, .int .i64 (Tk : Int)] := by rw [hw1]; exact Cel.later (Cel_at rfl) (bel_new _ _)
  have z1 : Cel w1 (w.heap.size + 1) 36 #[.int .i64 0, .int .i64 0, .int .i64 0, .slice none 0 0, .int .i64 0] := by rw [hw1]; exact Cel_at (by simp)
  have x1 := hd w1 b1
  have HH := Lib.hid (And.intro h (And.intro hl (And.intro b1 (And.intro p1 z1))))
  have hE0 : E = 0 := hE.symm.trans hp.e
  have hMN : M = N := hM.symm.trans (hp.n.trans hln)
  have hap : ap ≠ 2047 := by have := hp.a; rw [hP] at this; exact this
  have t1 : (E != 0) = false := by simpa using hE0
  have t2 : ((M : Int) != (N : Int)) = false := by simp; omega
  have t3 : (ap == 2047) = false := by simpa using hap
  obtain ⟨m, hm⟩ : ∃ m, s.wt.length = m := ⟨_, rfl⟩
  obtain ⟨Q, hQ⟩ : ∃ Q, m + N = Q := ⟨_, rfl⟩
  have hmost := hp.most
  have hw := h.ok.w
  have hr := h.r
  have i1 : (m : Int) + (N : Int) = (Q : Int) := by omega
  have i2 : wrap64 (Q : Int) = (Q : Int) := by unfold wrap64; omega
  have hQR : ¬ R < Q := by rw [← hQ, ← hm, ← hln]; exact hf
  have t4 : decide ((R : Int) < (Q : Int)) = false := decide_eq_false (fun k => hQR (Int.ofNat_lt.1 k))
  have t4' : decide (R < Q) = false := decide_eq_false hQR
  have hok := h.ok.push hp hf
  obtain ⟨Lr, hLD, hRR, _, _, hn6⟩ := h.left
  obtain ⟨qs, hq1, hq2, hq3⟩ := hLD.rs
  have hqn : Hid (qs.length = n) := Lib.hid (by rw [← hLD.len, ← hq1, List.length_map])
  have HQ := Lib.hid (And.intro hLD (And.intro (hRR.push hp) (And.intro hq1 (And.intro hq2 (And.intro hq3 (And.intro hok hr))))))
  have hz := hLD.nil
  have hN4 : N ≤ 4096 := by rw [← hln]; exact hmost
  have Hm := Lib.hid hm
  clear h hl b1 p1 z1 hd hM hE hP hln hp hf hmost hw hr hm hE0 hMN hap hQR hok hLD hRR hq1 hq2 hq3
  go_enter Try.func17, Try.ntmps17
  go_wp2_with fail
  rw [← hw1]
  refine x1.mono ?_
  clear x1 hw1
  rintro e w2 ⟨v, rfl, o2, b2⟩
  obtain ⟨A2, kc, rfl, _⟩ := o2.reads
  obtain ⟨h, hl, b1, p1, z1⟩ := HH.out
  have p2 := Cel.later p1 b2
  have z2 := Cel.later z1 b2
  obtain ⟨w3, hw3⟩ : ∃ w3, w3 = w2.alloc (.cells #[.bool com, .bool sec, .int .i64 ap, .int .i64 fl, .int .i64 ct, .slice A2 d.length kc] 60) := ⟨_, rfl⟩
  have k3 : Below w2.heap.size w2 w3 := by rw [hw3]; exact bel_new _ _
  have p3 := Cel.later p2 k3
  have z3 := Cel.later z2 k3
  have b3 := (b1.trans (b2.mono b1.size)).trans (k3.mono (b1.trans (b2.mono b1.size)).size)
  have hlf := fun p : Later w3 => ((h.below b3).below p.h).xleft Z Hm.out
  have c0 := p3.cell 0
  have c1 := p3.cell 1
  have c2 := p3.cell 2
  have c3 := p3.cell 3
  have c4 := p3.cell 4
  simp at c0 c1 c2 c3 c4
  have hg := p3.lt
  have d0 := fun p : Later w3 => later_cell c0 hg p
  have d1 := fun p : Later w3 => later_cell c1 hg p
  have d2 := fun p : Later w3 => later_cell c2 hg p
  have d3 := fun p : Later w3 => later_cell c3 hg p
  have d4 := fun p : Later w3 => later_cell c4 hg p
  have HX := Lib.hid (And.intro hl (And.intro b3 (And.intro p3 z3)))
  clear h hl b1 p1 z1 p2 z2 k3 p3 z3 b3 o2 b2 HH c0 c1 c2 c3 c4
  go_upto_region 4 with fail
  rw [← hw3]
  clear hw3
  refine wp_region_later (by kernel_rfl) (by kernel_rfl) ?_
  repeat (go_big_quiet_step ((go_at_call 20; exact later_of (hlf _))))
  refine wpQuiet_nil ?_
  rintro w4 ⟨p4', hp4⟩
  have b4 : Below w3.heap.size w3 w4 := by rw [hp4]; exact p4'.h
  clear hp4 d0 d1 d2 d3 d4 hlf hg
  obtain ⟨hl, b3, p3, z3⟩ := HX.out
  have p4 := Cel.later p3 b4
  have z4 := Cel.later z3 b4
  have b04 := b3.trans (b4.mono b3.size)
  have hz4 := z4.lt
  have hbs : Bs w w.heap.size a l := hl.bs
  have hnil := hl.nil
  have hln := Lib.hid hl.len
  clear p4'
  -- the new list
  obtain ⟨w5, hw5⟩ : ∃ w5, w5 = w4.alloc (.cells #[] 28) := ⟨_, rfl⟩
  have k5 : Below w4.heap.size w4 w5 := by rw [hw5]; exact bel_new _ _
  have b5 := b04.trans (k5.mono b04.size)
  have own5 : Row.Os Lst.enc 1 w5 w4.heap.size 28 (.slice (some ⟨w4.heap.size, 0, none⟩) 0 0) [] := by rw [hw5]; exact Row.Os.empty w4 w4.heap.size _ (Nat.le_refl _)
  have p5 := Cel.later p4 k5
  have z5 := Cel.later z4 k5
  have rs5 : Row.Rs Lst.enc 1 w5 w.heap.size A qs := HQ.out.2.2.2.1.below b5
  have c3 := p5.cell 3
  simp at c3
  have H5 := Lib.hid (And.intro own5 (And.intro rs5 (And.intro p5 (And.intro z5 (And.intro b5 k5)))))
  have HB4 := Lib.hid (And.intro b04 hz4)
  have HL := Lib.hid (And.intro hbs hnil)
  rw [hw5] at c3
  clear b3 b4 p3 z3 p4 z4 b04 k5 b5 own5 p5 z5 rs5 HX hz4 hbs hnil hl
  go_wp2_with (at_builtin; rw [← hw5]; refine Row.wpList_row _ Lst.enc_ok is_lists19 (by decide) rfl (.tmp 38) (.tmp 40) rfl (m := []) rfl H5.out.1 (l := qs) (n := n) hqn.out rfl H5.out.2.1 hz (by rw [hqn.out]; simp; omega) H5.out.2.2.2.2.2.size ?_)
  intro v6 w6 own6 gr6 _
  rw [← hw5] at gr6
  try rw [List.nil_append] at own6
  obtain ⟨A6, c6, rfl, _⟩ := own6.reads_len Lst.enc_ok hqn.out
  have k6 := Only.of_grown gr6
  have hr6 : ∀ x ∈ (Value.slice (some ⟨w4.heap.size, 0, none⟩) 0 0).ownBlock.toList, x = w4.heap.size := fun x hx => by simpa [Value.ownBlock] using hx
  have p6 := H5.out.2.2.1.only k6 (fun hm => by have := hr6 _ hm; have := HB4.out.2; omega)
  have z6 := H5.out.2.2.2.1.only k6 (fun hm => by have := hr6 _ hm; have := HB4.out.2; omega)
  have b46 : Below w4.heap.size w4 w6 := H5.out.2.2.2.2.2.trans (k6.below H5.out.2.2.2.2.2.size (fun x hx => by have := hr6 _ hx; omega))
  obtain ⟨w7, hw7⟩ : ∃ w7, w7 = w6.alloc (.cells #[] 5) := ⟨_, rfl⟩
  have k7 : Below w6.heap.size w6 w7 := by rw [hw7]; exact bel_new _ _
  have b07 : Below w.heap.size w w7 := (HB4.out.1.trans (b46.mono HB4.out.1.size)).trans (k7.mono (Nat.le_trans HB4.out.1.size b46.size))
  have own7 : Ow w7 w6.heap.size 5 (.slice (some ⟨w6.heap.size, 0, none⟩) 0 0) [] := by rw [hw7]; exact Ow_new w6 _ _ [] 0 #[] rfl rfl (Nat.le_refl _) (by decide) _ rfl
  have H7 := Lib.hid (And.intro own6 (And.intro own7 (And.intro (HL.out.1.below b07) (And.intro HL.out.2 (And.intro k7 (And.intro b46 (And.intro p6 z6)))))))
  clear gr6 k6 hr6 p6 z6 b46 own6 own7 b07 k7 hw5 c3 H5
  go_wp2_with (at_builtin; rw [← hw7]; refine wpList_app _ is_bytes rfl (.tmp 42) (.tmp 43) rfl (m := []) rfl H7.out.2.1 (l := l) (A := a) (c := cap) (by rw [hln.out]; rfl) H7.out.2.2.1 H7.out.2.2.2.1 (by rw [hln.out]; simp; omega) H7.out.2.2.2.2.1.size ?_)
  intro v8 w8 own8 gr8
  rw [← hw7] at gr8
  try rw [List.nil_append] at own8
  obtain ⟨A8, c8, rfl, _⟩ := own8.reads_len hln.out
  have k8 := Only.of_grown gr8
  have hr8 : ∀ x ∈ (Value.slice (some ⟨w6.heap.size, 0, none⟩) 0 0).ownBlock.toList, x = w6.heap.size := fun x hx => by simpa [Value.ownBlock] using hx
  have b68 : Below w6.heap.size w6 w8 := H7.out.2.2.2.2.1.trans (k8.below H7.out.2.2.2.2.1.size (fun x hx => by have := hr8 _ hx; omega))
  obtain ⟨w9, hw9⟩ : ∃ w9, w9 = w8.alloc (.cells #[.slice A8 N c8] 28) := ⟨_, rfl⟩
  have k9 : Below w8.heap.size w8 w9 := by rw [hw9]; exact bel_new _ _
  have b69 := b68.trans (k9.mono b68.size)
  have own9 := H7.out.1.below b69
  have dat9 := own8.below k9
  have rs9 : Row.Rs Lst.enc 1 w9 (w8.heap.size + 1) (some ⟨w8.heap.size, 0, none⟩) [⟨l, A8, c8⟩] := by rw [hw9]; exact Row.Rs_new1 Lst.enc_ok w8 _ _ _ (by simp only [Lst.enc, hln.out])
  have p9 := Cel.later H7.out.2.2.2.2.2.2.1 b69
  have z9 := Cel.later H7.out.2.2.2.2.2.2.2 b69
  have b49 := H7.out.2.2.2.2.2.1.trans (b69.mono H7.out.2.2.2.2.2.1.size)
  have H9 := Lib.hid (And.intro own9 (And.intro dat9 (And.intro rs9 (And.intro p9 (And.intro z9 (And.intro b49 H7.out.2.2.2.2.2.1.size))))))
  clear gr8 k8 hr8 b68 k9 b69 own8 own9 dat9 rs9 p9 z9 b49 hw7 H7
  go_wp2_with (at_builtin; rw [← hw9]; refine Row.wpList_row _ Lst.enc_ok is_lists19 (by decide) rfl (.tmp 41) (.tmp 45) rfl (m := qs) rfl H9.out.1 (l := [⟨l, A8, c8⟩]) (n := 1) rfl rfl H9.out.2.2.1 (fun h => nomatch h) (by rw [hqn.out]; simp; omega) H9.out.2.2.2.2.2.1.size ?_)
  intro v10 w10 own10 gr10 _
  rw [← hw9] at gr10
  obtain ⟨n10, hn10⟩ : ∃ n10, n10 = n + 1 := ⟨_, rfl⟩
  have hl10 : (qs ++ [(⟨l, A8, c8⟩ : Qb)]).length = n10 := by rw [List.length_append, hqn.out, hn10]; rfl
  obtain ⟨A10, c10, rfl, _, hz10, hle10, hm10⟩ := own10.reads_len Lst.enc_ok hl10
  have k10 := Only.of_grown gr10
  have hlow : ∀ x ∈ (Value.slice A6 n c6).ownBlock.toList, w4.heap.size ≤ x := fun x hx => (H9.out.1.lt x (by simpa using hx)).1
  have hz4 := HB4.out.2
  have hs4 := HB4.out.1.size
  have p10 := H9.out.2.2.2.1.only k10 (fun hm => by have := hlow _ hm; omega)
  have z10 := H9.out.2.2.2.2.1.only k10 (fun hm => by have := hlow _ hm; omega)
  have b4A : Below w4.heap.size w4 w10 := H9.out.2.2.2.2.2.1.trans (k10.below H9.out.2.2.2.2.2.1.size hlow)
  have b0A := HB4.out.1.trans (b4A.mono hs4)
  have dat10 := H9.out.2.1.only k10 (fun i hi hm => by
    obtain ⟨cs, hc⟩ := Lst.own_cel H9.out.2.1 hi
    exact Row.Os.apart H9.out.1 hc (by decide) (by simpa using hm))
  have hD : ∀ b, b < w.heap.size → D b → (b < w.heap.size ∧ D b) ∨ w4.heap.size ≤ b := fun b hb hd => .inl ⟨hb, hd⟩
  have dq10 : ∀ q ∈ qs ++ [(⟨l, A8, c8⟩ : Qb)], Dd w10 (fun b => (b < w.heap.size ∧ D b) ∨ w4.heap.size ≤ b) q.l q.a q.c := fun q hq => by
    rcases List.mem_append.1 hq with hq | hq
    · exact ((HQ.out.2.2.2.2.1 q hq).imp hD).keep (.of_below b0A)
    · rw [List.mem_singleton] at hq
      subst hq
      exact Dd.own dat10 hln.out (fun b hb _ => .inr (Nat.le_trans H9.out.2.2.2.2.2.2 hb))
  have ld10 : LD w10 (fun b => (b < w.heap.size ∧ D b) ∨ w4.heap.size ≤ b) A10 n10 c10 (Lr ++ [l]) := by
    have := LD.row own10 hl10 (fun b hb _ => .inr hb) dq10
    rw [List.map_append, HQ.out.2.2.1] at this
    exact this
  obtain ⟨W, hW⟩ : ∃ W, W = w10.setCell ⟨w.heap.size, 3, none⟩ (.slice A10 n10 c10) := ⟨_, rfl⟩
  have kW : Only [w.heap.size] w10 W := by rw [hW]; exact set_only _ _ 3 _
  have zW := z10.only kW (by simp)
  have kX := put5_only W (w.heap.size + 1) (.int .i64 Z) (.int .i64 (R : Int)) (.int .i64 (Re : Int)) (.slice A10 n10 c10) (.int .i64 (Tk : Int))
  have zX := put5_cel zW (.int .i64 Z) (.int .i64 (R : Int)) (.int .i64 (Re : Int)) (.slice A10 n10 c10) (.int .i64 (Tk : Int))
  have ldX := (ld10.keep (Kd.of_only kW (fun i _ hd hm => by have := List.mem_singleton.1 hm; rcases hd with ⟨h1, _⟩ | h1 <;> omega))).keep (Kd.of_only kX (fun i _ hd hm => by have := List.mem_singleton.1 hm; rcases hd with ⟨h1, _⟩ | h1 <;> omega))
  have bX := (b0A.trans (kW.below b0A.size (by simp))).trans (kX.below (b0A.trans (kW.below b0A.size (by simp))).size (by simp))
  unfold put5 at zX ldX bX
  rw [hW] at zX ldX bX
  have HF := Lib.hid (And.intro zX (And.intro (ldX.imp (D' := fun b => D b ∨ w.heap.size ≤ b) (fun b _ hd => by rcases hd with ⟨_, h1⟩ | h1; exact .inl h1; exact .inr (Nat.le_trans hs4 h1))) bX))
  have r0 := p10.cell 0
  have r1 := p10.cell 1
  have r2 := p10.cell 2
  have r3 := p10.cell 3
  have r4 := p10.cell 4
  simp at r0 r1 r2 r3 r4
  have f3 := p10.free 3
  have y0 := z10.cell 0
  have y1 := z10.cell 1
  have y2 := z10.cell 2
  have y3 := z10.cell 3
  have y4 := z10.cell 4
  simp at y0 y1 y2 y3 y4
  have yf0 := z10.free 0
  have yf1 := z10.free 1
  have yf2 := z10.free 2
  have yf3 := z10.free 3
  have yf4 := z10.free 4
  clear own10 gr10 hl10 hz10 hle10 hm10 k10 hlow p10 z10 b4A b0A dat10 dq10 ld10 hW kW zW kX zX ldX bX hD hz4 hs4 hw9 hn10
  go_wp2
  exact bodyPost_ret (xp_results rfl rfl HF.out.1) rfl ⟨⟨_, _, _, rfl, ⟨⟨_, HF.out.2.1, HQ.out.2.1⟩, HQ.out.2.2.2.2.2.1, HQ.out.2.2.2.2.2.2⟩⟩, HF.out.2.2⟩

theorem xpush_any (Z : Int) (h : RV w D R Re A n c Tk s) (hl : Rd w a l N cap) :
    Calls Try.prog 17 #[.agg #[.int .i64 Z, .int .i64 (R : Int), .int .i64 (Re : Int), .slice A n c, .int .i64 (Tk : Int)], .slice a N cap] w fun e w' => (∃ A' n' c', e = .returned (.tuple #[.agg #[.int .i64 Z, .int .i64 (R : Int), .int .i64 (Re : Int), .slice A' n' c', .int .i64 (Tk : Int)], .int .i64 (psE R l s)]) ∧ RV w' (fun b => D b ∨ w.heap.size ≤ b) R Re A' n' c' Tk (psS R l s)) ∧ Below w.heap.size w w' := by
  by_cases hp : Pkt l
  · by_cases hf : R < s.wt.length + l.length
    · exact xpush_full Z h hl hp hf
    · exact xpush_yes Z h hl hp hf
  · exact xpush_no Z h hl hp
end
end Go.Proofs.Ytjjjlgaidklokaa.Pkr
