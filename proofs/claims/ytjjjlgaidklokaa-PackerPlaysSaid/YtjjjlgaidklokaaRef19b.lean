/-
  The reference of layer 19: Push.
-/
import Derived.Test.YtjjjlgaidklokaaRef19a
import Derived.Test.YtjjjlgaidklokaaRef10d
namespace Go.Proofs.Ytjjjlgaidklokaa.Pkr
open Go.RowKit Go.Proofs.Ytjjjlgaidklokaa.Lst
open Pac (bel_new Cel.later deE deN deP xdecode_any)

theorem RR.few {Re Tk : Nat} {Lr : List (List Byte)} {s : PS} (h : RR Re Lr Tk s) : Lr.length ≤ Lr.flatten.length := by
  have : ∀ L : List (List Byte), (∀ x ∈ L, Pkt x) → L.length ≤ L.flatten.length := by
    intro L
    induction L with
    | nil => intro _; simp
    | cons x L ih =>
      intro hp
      have h1 := ih (fun y hy => hp y (List.mem_cons_of_mem _ hy))
      have h2 := (hp x (by simp)).seven
      rw [List.flatten_cons, List.length_append, List.length_cons]
      omega
  exact this Lr h.p
theorem RR.tk {Re Tk : Nat} {Lr : List (List Byte)} {s : PS} (h : RR Re Lr Tk s) : Tk ≤ 4096 := by
  rcases h.k with ⟨h1, _⟩ | ⟨x, _, h2, h3, _⟩
  · omega
  · have := (h.p x (by rw [h3]; simp)).most
    omega
/-- the reference's packer by value: its packets lie at (A, n, c), in blocks of which D holds; it stands in state s -/
structure RV (w : World) (D : Nat → Prop) (R Re : Nat) (A : Option Addr) (n c Tk : Nat) (s : PS) : Prop where
  ex : ∃ Lr, LD w D A n c Lr ∧ RR Re Lr Tk s
  ok : s.Ok R
  r : R ≤ 1048576
section
variable {w w' : World} {D D' : Nat → Prop} {R Re n c Tk : Nat} {A : Option Addr} {s : PS}
theorem RV.keep (h : RV w D R Re A n c Tk s) (k : Kd D w w') : RV w' D R Re A n c Tk s := by
  obtain ⟨⟨Lr, h1, h2⟩, h3, h4⟩ := h
  exact ⟨⟨Lr, h1.keep k, h2⟩, h3, h4⟩
theorem RV.below (h : RV w D R Re A n c Tk s) (k : Below w.heap.size w w') : RV w' D R Re A n c Tk s := h.keep (.of_below k)
theorem RV.imp (h : RV w D R Re A n c Tk s) (hD : ∀ b, b < w.heap.size → D b → D' b) : RV w D' R Re A n c Tk s := by
  obtain ⟨⟨Lr, h1, h2⟩, h3, h4⟩ := h
  exact ⟨⟨Lr, h1.imp hD, h2⟩, h3, h4⟩
theorem RV.left (h : RV w D R Re A n c Tk s) : ∃ Lr, LD w D A n c Lr ∧ RR Re Lr Tk s ∧ Tk + s.wt.length = Lr.flatten.length ∧ Lr.flatten.length ≤ 1060000 ∧ n ≤ 1060000 := by
  obtain ⟨⟨Lr, h1, h2⟩, h3, h4⟩ := h
  have e := h2.left
  have := h2.tk
  have := h3.w
  have := h2.few
  have := h1.len
  exact ⟨Lr, h1, h2, e, by omega, by omega⟩
theorem RV.xleft (h : RV w D R Re A n c Tk s) (Z : Int) {m : Nat} (hm : s.wt.length = m) :
    Calls Try.prog 20 #[.agg #[.int .i64 Z, .int .i64 (R : Int), .int .i64 (Re : Int), .slice A n c, .int .i64 (Tk : Int)]] w fun e w' => e = .returned (.int .i64 (m : Int)) ∧ Below w.heap.size w w' := by
  obtain ⟨Lr, h1, h2, h3, h4, _⟩ := h.left
  exact xleft_any Z R Re A n c Lr Tk m w h1 (by omega) (by omega)
theorem RV.xready (h : RV w D R Re A n c Tk s) (Z : Nat) :
    Calls Try.prog 21 #[.agg #[.int .i64 (Z : Int), .int .i64 (R : Int), .int .i64 (Re : Int), .slice A n c, .int .i64 (Tk : Int)]] w fun e w' => e = .returned (.bool (rdy Z s)) ∧ Below w.heap.size w w' := by
  obtain ⟨Lr, h1, h2, h3, h4, _⟩ := h.left
  unfold rdy
  rw [h2.rl]
  exact xready_any Z Re R A n c Lr Tk s.wt.length w h1 (by omega) (by omega) h2.r
end

theorem xp_results {tmps : Array Value} {W : World} {g : Nat} {E : Int} {u0 u1 u2 u3 u4 : Value} (h2 : tmps.getD 4 undef = .pointer (some ⟨g, 0, none⟩)) (h3 : tmps.getD 5 undef = .int .i64 E)
    (hC : Cel W g 36 #[u0, u1, u2, u3, u4]) :
    (results Try.f17 tmps).run Try.prog W = .ok (.tuple #[.agg #[u0, u1, u2, u3, u4], .int .i64 E]) W := by
  have c0 := hC.cell 0
  have c1 := hC.cell 1
  have c2 := hC.cell 2
  have c3 := hC.cell 3
  have c4 := hC.cell 4
  simp at c0 c1 c2 c3 c4
  simp only [Array.getD_eq_getD_getElem?] at h2 h3
  simp [results, Try.results17, go_sem, h2, h3, c0, c1, c2, c3, c4]

section
variable {w : World} {D : Nat → Prop} {R Re n c Tk N cap : Nat} {A a : Option Addr} {s : PS} {l : List Byte}
set_option maxRecDepth 100000 in
set_option maxHeartbeats 4000000 in
theorem xpush_no (Z : Int) (h : RV w D R Re A n c Tk s) (hl : Rd w a l N cap) (hp : ¬ Pkt l) :
    Calls Try.prog 17 #[.agg #[.int .i64 Z, .int .i64 (R : Int), .int .i64 (Re : Int), .slice A n c, .int .i64 (Tk : Int)], .slice a N cap] w fun e w' => (∃ A' n' c', e = .returned (.tuple #[.agg #[.int .i64 Z, .int .i64 (R : Int), .int .i64 (Re : Int), .slice A' n' c', .int .i64 (Tk : Int)], .int .i64 (psE R l s)]) ∧ RV w' (fun b => D b ∨ w.heap.size ≤ b) R Re A' n' c' Tk (psS R l s)) ∧ Below w.heap.size w w' := by
  rw [(ps_no hp).1, (ps_no hp).2]
  have hd := fun W (hW : Below w.heap.size w W) => xdecode_any a l N cap W (Lib.hid hl.len) (hl.later hW).bs hl.nil hl.le hl.max
  have hln := hl.len
  obtain ⟨M, hM⟩ : ∃ M, deN l = M := ⟨_, rfl⟩
  obtain ⟨E, hE⟩ : ∃ E, deE l = E := ⟨_, rfl⟩
  obtain ⟨P, hP⟩ : ∃ P, deP l = P := ⟨_, rfl⟩
  obtain ⟨com, sec, ap, fl, ct, d⟩ := P
  simp only [hM, hE, hP] at hd
  obtain ⟨w1, hw1⟩ : ∃ w1, w1 = (w.alloc (.cells #[.int .i64 Z, .int .i64 (R : Int), .int .i64 (Re : Int), .slice A n c, .int .i64 (Tk : Int)] 36)).alloc (.cells #[.int .i64 0, .int .i64 0, .int .i64 0, .slice none 0 0, .int .i64 0] 36) := ⟨_, rfl⟩
  have b1 : Below w.heap.size w w1 := by rw [hw1]; exact (bel_new _ _).alloc (by simp) _
  have p1 : Cel w1 w.heap.size 36 #[.int .i64 Z, .int .i64 (R : Int), .int .i64 (Re : Int), .slice A n c, .int .i64 (Tk : Int)] := by rw [hw1]; exact Cel.later (Cel_at rfl) (bel_new _ _)
  have z1 : Cel w1 (w.heap.size + 1) 36 #[.int .i64 0, .int .i64 0, .int .i64 0, .slice none 0 0, .int .i64 0] := by rw [hw1]; exact Cel_at (by simp)
  have x1 := hd w1 b1
  have HH := Lib.hid (And.intro h (And.intro hl (And.intro b1 (And.intro p1 z1))))
  by_cases h1 : E = 0
  · have t1 : (E != 0) = false := by simpa using h1
    by_cases h2 : M = N
    · have t2 : ((M : Int) != (N : Int)) = false := by simp; omega
      have h3 : ap = 2047 := Classical.byContradiction fun k => hp ⟨by rw [hE]; exact h1, by rw [hM, h2, hln], by rw [hP]; exact k⟩
      have t3 : (ap == 2047) = true := by simpa using h3
      clear h hl b1 p1 z1 hd hM hE hP hln hp h1 h2 h3
      go_enter Try.func17, Try.ntmps17
      go_wp2_with fail
      rw [← hw1]
      refine x1.mono ?_
      clear x1 hw1
      rintro e w2 ⟨v, rfl, o2, b2⟩
      obtain ⟨A2, kc, rfl, _⟩ := o2.reads
      obtain ⟨h, hl, b1, p1, z1⟩ := HH.out
      have p2 := Cel.later p1 b2
      have z2 := Cel.later z1 b2
      obtain ⟨w3, hw3⟩ : ∃ w3, w3 = w2.alloc (.cells #[.bool com, .bool sec, .int .i64 ap, .int .i64 fl, .int .i64 ct, .slice A2 d.length kc] 60) := ⟨_, rfl⟩
      have k3 : Below w2.heap.size w2 w3 := by rw [hw3]; exact bel_new _ _
      have p3 := Cel.later p2 k3
      have z3 := Cel.later z2 k3
      have b3 := (b1.trans (b2.mono b1.size)).trans (k3.mono (b1.trans (b2.mono b1.size)).size)
      have c0 := p3.cell 0
      have c1 := p3.cell 1
      have c2 := p3.cell 2
      have c3 := p3.cell 3
      have c4 := p3.cell 4
      simp at c0 c1 c2 c3 c4
      have y0 := z3.cell 0
      have y1 := z3.cell 1
      have y2 := z3.cell 2
      have y3 := z3.cell 3
      have y4 := z3.cell 4
      simp at y0 y1 y2 y3 y4
      have f0 := z3.free 0
      have f1 := z3.free 1
      have f2 := z3.free 2
      have f3 := z3.free 3
      have f4 := z3.free 4
      have q5 := put5_cel z3 (.int .i64 Z) (.int .i64 (R : Int)) (.int .i64 (Re : Int)) (.slice A n c) (.int .i64 (Tk : Int))
      have k5 := put5_only w3 (w.heap.size + 1) (.int .i64 Z) (.int .i64 (R : Int)) (.int .i64 (Re : Int)) (.slice A n c) (.int .i64 (Tk : Int))
      have b5 := b3.trans (k5.below b3.size (by simp))
      unfold put5 at q5 b5
      have HF := Lib.hid (And.intro q5 (And.intro (h.below b5) b5))
      clear h hl b1 p1 z1 p2 z2 k3 p3 z3 b3 q5 k5 b5 o2 b2 HH
      go_upto_region 3 with fail
      rw [← hw3]
      clear hw3
      go_wp2
      exact bodyPost_ret (xp_results rfl rfl HF.out.1) rfl ⟨⟨_, _, _, rfl, HF.out.2.1.imp (fun b _ h => .inl h)⟩, HF.out.2.2⟩
    · have t2 : ((M : Int) != (N : Int)) = true := by simp; omega
      clear h hl b1 p1 z1 hd hM hE hP hln hp h1 h2
      go_enter Try.func17, Try.ntmps17
      go_wp2_with fail
      rw [← hw1]
      refine x1.mono ?_
      clear x1 hw1
      rintro e w2 ⟨v, rfl, o2, b2⟩
      obtain ⟨A2, kc, rfl, _⟩ := o2.reads
      obtain ⟨h, hl, b1, p1, z1⟩ := HH.out
      have p2 := Cel.later p1 b2
      have z2 := Cel.later z1 b2
      obtain ⟨w3, hw3⟩ : ∃ w3, w3 = w2.alloc (.cells #[.bool com, .bool sec, .int .i64 ap, .int .i64 fl, .int .i64 ct, .slice A2 d.length kc] 60) := ⟨_, rfl⟩
      have k3 : Below w2.heap.size w2 w3 := by rw [hw3]; exact bel_new _ _
      have p3 := Cel.later p2 k3
      have z3 := Cel.later z2 k3
      have b3 := (b1.trans (b2.mono b1.size)).trans (k3.mono (b1.trans (b2.mono b1.size)).size)
      have c0 := p3.cell 0
      have c1 := p3.cell 1
      have c2 := p3.cell 2
      have c3 := p3.cell 3
      have c4 := p3.cell 4
      simp at c0 c1 c2 c3 c4
      have y0 := z3.cell 0
      have y1 := z3.cell 1
      have y2 := z3.cell 2
      have y3 := z3.cell 3
      have y4 := z3.cell 4
      simp at y0 y1 y2 y3 y4
      have f0 := z3.free 0
      have f1 := z3.free 1
      have f2 := z3.free 2
      have f3 := z3.free 3
      have f4 := z3.free 4
      have q5 := put5_cel z3 (.int .i64 Z) (.int .i64 (R : Int)) (.int .i64 (Re : Int)) (.slice A n c) (.int .i64 (Tk : Int))
      have k5 := put5_only w3 (w.heap.size + 1) (.int .i64 Z) (.int .i64 (R : Int)) (.int .i64 (Re : Int)) (.slice A n c) (.int .i64 (Tk : Int))
      have b5 := b3.trans (k5.below b3.size (by simp))
      unfold put5 at q5 b5
      have HF := Lib.hid (And.intro q5 (And.intro (h.below b5) b5))
      clear h hl b1 p1 z1 p2 z2 k3 p3 z3 b3 q5 k5 b5 o2 b2 HH
      go_upto_region 3 with fail
      rw [← hw3]
      clear hw3
      go_wp2
      exact bodyPost_ret (xp_results rfl rfl HF.out.1) rfl ⟨⟨_, _, _, rfl, HF.out.2.1.imp (fun b _ h => .inl h)⟩, HF.out.2.2⟩
  · have t1 : (E != 0) = true := by simpa using h1
    clear h hl b1 p1 z1 hd hM hE hP hln hp h1
    go_enter Try.func17, Try.ntmps17
    go_wp2_with fail
    rw [← hw1]
    refine x1.mono ?_
    clear x1 hw1
    rintro e w2 ⟨v, rfl, o2, b2⟩
    obtain ⟨A2, kc, rfl, _⟩ := o2.reads
    obtain ⟨h, hl, b1, p1, z1⟩ := HH.out
    have p2 := Cel.later p1 b2
    have z2 := Cel.later z1 b2
    obtain ⟨w3, hw3⟩ : ∃ w3, w3 = w2.alloc (.cells #[.bool com, .bool sec, .int .i64 ap, .int .i64 fl, .int .i64 ct, .slice A2 d.length kc] 60) := ⟨_, rfl⟩
    have k3 : Below w2.heap.size w2 w3 := by rw [hw3]; exact bel_new _ _
    have p3 := Cel.later p2 k3
    have z3 := Cel.later z2 k3
    have b3 := (b1.trans (b2.mono b1.size)).trans (k3.mono (b1.trans (b2.mono b1.size)).size)
    have c0 := p3.cell 0
    have c1 := p3.cell 1
    have c2 := p3.cell 2
    have c3 := p3.cell 3
    have c4 := p3.cell 4
    simp at c0 c1 c2 c3 c4
    have y0 := z3.cell 0
    have y1 := z3.cell 1
    have y2 := z3.cell 2
    have y3 := z3.cell 3
    have y4 := z3.cell 4
    simp at y0 y1 y2 y3 y4
    have f0 := z3.free 0
    have f1 := z3.free 1
    have f2 := z3.free 2
    have f3 := z3.free 3
    have f4 := z3.free 4
    have q5 := put5_cel z3 (.int .i64 Z) (.int .i64 (R : Int)) (.int .i64 (Re : Int)) (.slice A n c) (.int .i64 (Tk : Int))
    have k5 := put5_only w3 (w.heap.size + 1) (.int .i64 Z) (.int .i64 (R : Int)) (.int .i64 (Re : Int)) (.slice A n c) (.int .i64 (Tk : Int))
    have b5 := b3.trans (k5.below b3.size (by simp))
    unfold put5 at q5 b5
    have HF := Lib.hid (And.intro q5 (And.intro (h.below b5) b5))
    clear h hl b1 p1 z1 p2 z2 k3 p3 z3 b3 q5 k5 b5 o2 b2 HH
    go_upto_region 3 with fail
    rw [← hw3]
    clear hw3
    go_wp2
    exact bodyPost_ret (xp_results rfl rfl HF.out.1) rfl ⟨⟨_, _, _, rfl, HF.out.2.1.imp (fun b _ h => .inl h)⟩, HF.out.2.2⟩

set_option maxRecDepth 100000 in
set_option maxHeartbeats 4000000 in
theorem xpush_full (Z : Int) (h : RV w D R Re A n c Tk s) (hl : Rd w a l N cap) (hp : Pkt l) (hf : R < s.wt.length + l.length) :
    Calls Try.prog 17 #[.agg #[.int .i64 Z, .int .i64 (R : Int), .int .i64 (Re : Int), .slice A n c, .int .i64 (Tk : Int)], .slice a N cap] w fun e w' => (∃ A' n' c', e = .returned (.tuple #[.agg #[.int .i64 Z, .int .i64 (R : Int), .int .i64 (Re : Int), .slice A' n' c', .int .i64 (Tk : Int)], .int .i64 (psE R l s)]) ∧ RV w' (fun b => D b ∨ w.heap.size ≤ b) R Re A' n' c' Tk (psS R l s)) ∧ Below w.heap.size w w' := by
  rw [(ps_full hp hf).1, (ps_full hp hf).2]
  have hd := fun W (hW : Below w.heap.size w W) => xdecode_any a l N cap W (Lib.hid hl.len) (hl.later hW).bs hl.nil hl.le hl.max
  have hln := hl.len
  obtain ⟨M, hM⟩ : ∃ M, deN l = M := ⟨_, rfl⟩
  obtain ⟨E, hE⟩ : ∃ E, deE l = E := ⟨_, rfl⟩
  obtain ⟨P, hP⟩ : ∃ P, deP l = P := ⟨_, rfl⟩
  obtain ⟨com, sec, ap, fl, ct, d⟩ := P
  simp only [hM, hE, hP] at hd
  obtain ⟨w1, hw1⟩ : ∃ w1, w1 = (w.alloc (.cells #[.int .i64 Z, .int .i64 (R : Int), .int .i64 (Re : Int), .slice A n c, .int .i64 (Tk : Int)] 36)).alloc (.cells #[.int .i64 0, .int .i64 0, .int .i64 0, .slice none 0 0, .int .i64 0] 36) := ⟨_, rfl⟩
  have b1 : Below w.heap.size w w1 := by rw [hw1]; exact (bel_new _ _).alloc (by simp) _
  have p1 : Cel w1 w.heap.size 36 #[.int .i64 Z, .int .i64 (R : Int), .int .i64 (Re : Int), .slice A n c, .int .i64 (Tk : Int)] := by rw [hw1]; exact Cel.later (Cel_at rfl) (bel_new _ _)
  have z1 : Cel w1 (w.heap.size + 1) 36 #[.int .i64 0, .int .i64 0, .int .i64 0, .slice none 0 0, .int .i64 0] := by rw [hw1]; exact Cel_at (by simp)
  have x1 := hd w1 b1
  have HH := Lib.hid (And.intro h (And.intro hl (And.intro b1 (And.intro p1 z1))))
  have hE0 : E = 0 := hE.symm.trans hp.e
  have hMN : M = N := hM.symm.trans (hp.n.trans hln)
  have hap : ap ≠ 2047 := by have := hp.a; rw [hP] at this; exact this
  have t1 : (E != 0) = false := by simpa using hE0
  have t2 : ((M : Int) != (N : Int)) = false := by simp; omega
  have t3 : (ap == 2047) = false := by simpa using hap
  obtain ⟨m, hm⟩ : ∃ m, s.wt.length = m := ⟨_, rfl⟩
  obtain ⟨Q, hQ⟩ : ∃ Q, m + N = Q := ⟨_, rfl⟩
  have hmost := hp.most
  have hw := h.ok.w
  have hr := h.r
  have i1 : (m : Int) + (N : Int) = (Q : Int) := by omega
  have i2 : wrap64 (Q : Int) = (Q : Int) := by unfold wrap64; omega
  have hQR : R < Q := by rw [← hQ, ← hm, ← hln]; exact hf
  have t4 : decide ((R : Int) < (Q : Int)) = true := decide_eq_true (Int.ofNat_lt.2 hQR)
  have t4' : decide (R < Q) = true := decide_eq_true hQR
  have Hm := Lib.hid hm
  clear h hl b1 p1 z1 hd hM hE hP hln hp hf hmost hw hr hm hE0 hMN hap hQR
  go_enter Try.func17, Try.ntmps17
  go_wp2_with fail
  rw [← hw1]
  refine x1.mono ?_
  clear x1 hw1
  rintro e w2 ⟨v, rfl, o2, b2⟩
  obtain ⟨A2, kc, rfl, _⟩ := o2.reads
  obtain ⟨h, hl, b1, p1, z1⟩ := HH.out
  have p2 := Cel.later p1 b2
  have z2 := Cel.later z1 b2
  obtain ⟨w3, hw3⟩ : ∃ w3, w3 = w2.alloc (.cells #[.bool com, .bool sec, .int .i64 ap, .int .i64 fl, .int .i64 ct, .slice A2 d.length kc] 60) := ⟨_, rfl⟩
  have k3 : Below w2.heap.size w2 w3 := by rw [hw3]; exact bel_new _ _
  have p3 := Cel.later p2 k3
  have z3 := Cel.later z2 k3
  have b3 := (b1.trans (b2.mono b1.size)).trans (k3.mono (b1.trans (b2.mono b1.size)).size)
  have hlf := fun p : Later w3 => ((h.below b3).below p.h).xleft Z Hm.out
  have c0 := p3.cell 0
  have c1 := p3.cell 1
  have c2 := p3.cell 2
  have c3 := p3.cell 3
  have c4 := p3.cell 4
  simp at c0 c1 c2 c3 c4
  have hg := p3.lt
  have d0 := fun p : Later w3 => later_cell c0 hg p
  have d1 := fun p : Later w3 => later_cell c1 hg p
  have d2 := fun p : Later w3 => later_cell c2 hg p
  have d3 := fun p : Later w3 => later_cell c3 hg p
  have d4 := fun p : Later w3 => later_cell c4 hg p
  have HX := Lib.hid (And.intro h (And.intro b3 (And.intro p3 z3)))
  clear h hl b1 p1 z1 p2 z2 k3 p3 z3 b3 o2 b2 HH c0 c1 c2 c3 c4
  go_upto_region 4 with fail
  rw [← hw3]
  clear hw3
  refine wp_region_later (by kernel_rfl) (by kernel_rfl) ?_
  repeat (go_big_quiet_step ((go_at_call 20; exact later_of (hlf _))))
  refine wpQuiet_nil ?_
  rintro w4 ⟨p4', hp4⟩
  have b4 : Below w3.heap.size w3 w4 := by rw [hp4]; exact p4'.h
  clear hp4
  clear d0 d1 d2 d3 d4 hlf
  obtain ⟨h, b3, p3, z3⟩ := HX.out
  have p4 := Cel.later p3 b4
  have z4 := Cel.later z3 b4
  have c0 := p4.cell 0
  have c1 := p4.cell 1
  have c2 := p4.cell 2
  have c3 := p4.cell 3
  have c4 := p4.cell 4
  simp at c0 c1 c2 c3 c4
  have y0 := z4.cell 0
  have y1 := z4.cell 1
  have y2 := z4.cell 2
  have y3 := z4.cell 3
  have y4 := z4.cell 4
  simp at y0 y1 y2 y3 y4
  have f0 := z4.free 0
  have f1 := z4.free 1
  have f2 := z4.free 2
  have f3 := z4.free 3
  have f4 := z4.free 4
  have q5 := put5_cel z4 (.int .i64 Z) (.int .i64 (R : Int)) (.int .i64 (Re : Int)) (.slice A n c) (.int .i64 (Tk : Int))
  have k5 := put5_only w4 (w.heap.size + 1) (.int .i64 Z) (.int .i64 (R : Int)) (.int .i64 (Re : Int)) (.slice A n c) (.int .i64 (Tk : Int))
  have b5 := (b3.trans (b4.mono b3.size)).trans (k5.below (b3.trans (b4.mono b3.size)).size (by simp))
  unfold put5 at q5 b5
  have HF := Lib.hid (And.intro q5 (And.intro (h.below b5) b5))
  clear h b3 p3 z3 p4 z4 q5 k5 b5 b4 HX
  go_wp2
  exact bodyPost_ret (xp_results rfl rfl HF.out.1) rfl ⟨⟨_, _, _, rfl, HF.out.2.1.imp (fun b _ h => .inl h)⟩, HF.out.2.2⟩
end
end Go.Proofs.Ytjjjlgaidklokaa.Pkr
