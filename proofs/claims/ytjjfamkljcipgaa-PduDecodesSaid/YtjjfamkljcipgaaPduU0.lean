/-
  Package pdu: unit, its state.
-/
import Derived.Test.YtjjfamkljcipgaaPduR1
namespace Go.Proofs.Ytjjfamkljcipgaa.Pdu
open Go.RowKit Go.Proofs.Ytjjfamkljcipgaa.Row

/-! ### a whole unit stored over another -/
theorem set_only (w : World) (g i : Nat) (u : Value) : Only [g] w (w.setCell ⟨g, i, none⟩ u) := (Only.refl [g] w).put (p := ⟨g, i, none⟩) (.inl (by simp)) u
theorem set_then {w w' : World} {g : Nat} (h : Only [g] w w') (i : Nat) (u : Value) : Only [g] w (w'.setCell ⟨g, i, none⟩ u) := h.put (p := ⟨g, i, none⟩) (.inl (by simp)) u
def put11 (w : World) (g : Nat) (v0 v1 v2 v3 v4 v5 v6 v7 v8 v9 v10 : Value) : World :=
  ((((((((((w.setCell ⟨g, 0, none⟩ v0).setCell ⟨g, 1, none⟩ v1).setCell ⟨g, 2, none⟩ v2).setCell ⟨g, 3, none⟩ v3).setCell ⟨g, 4, none⟩ v4).setCell ⟨g, 5, none⟩ v5).setCell ⟨g, 6, none⟩ v6).setCell ⟨g, 7, none⟩ v7).setCell ⟨g, 8, none⟩ v8).setCell ⟨g, 9, none⟩ v9).setCell ⟨g, 10, none⟩ v10
theorem put11_cel {w : World} {g : Nat} {t : TypeId} {x0 x1 x2 x3 x4 x5 x6 x7 x8 x9 x10 : Value} (h : Cel w g t #[x0, x1, x2, x3, x4, x5, x6, x7, x8, x9, x10]) (v0 v1 v2 v3 v4 v5 v6 v7 v8 v9 v10 : Value) : Cel (put11 w g v0 v1 v2 v3 v4 v5 v6 v7 v8 v9 v10) g t #[v0, v1, v2, v3, v4, v5, v6, v7, v8, v9, v10] := by
  unfold put11
  have h0 : Cel _ g t #[v0, x1, x2, x3, x4, x5, x6, x7, x8, x9, x10] := h.put 0 v0
  have h1 : Cel _ g t #[v0, v1, x2, x3, x4, x5, x6, x7, x8, x9, x10] := h0.put 1 v1
  have h2 : Cel _ g t #[v0, v1, v2, x3, x4, x5, x6, x7, x8, x9, x10] := h1.put 2 v2
  have h3 : Cel _ g t #[v0, v1, v2, v3, x4, x5, x6, x7, x8, x9, x10] := h2.put 3 v3
  have h4 : Cel _ g t #[v0, v1, v2, v3, v4, x5, x6, x7, x8, x9, x10] := h3.put 4 v4
  have h5 : Cel _ g t #[v0, v1, v2, v3, v4, v5, x6, x7, x8, x9, x10] := h4.put 5 v5
  have h6 : Cel _ g t #[v0, v1, v2, v3, v4, v5, v6, x7, x8, x9, x10] := h5.put 6 v6
  have h7 : Cel _ g t #[v0, v1, v2, v3, v4, v5, v6, v7, x8, x9, x10] := h6.put 7 v7
  have h8 : Cel _ g t #[v0, v1, v2, v3, v4, v5, v6, v7, v8, x9, x10] := h7.put 8 v8
  have h9 : Cel _ g t #[v0, v1, v2, v3, v4, v5, v6, v7, v8, v9, x10] := h8.put 9 v9
  exact h9.put 10 v10
theorem put11_only (w : World) (g : Nat) (v0 v1 v2 v3 v4 v5 v6 v7 v8 v9 v10 : Value) : Only [g] w (put11 w g v0 v1 v2 v3 v4 v5 v6 v7 v8 v9 v10) := by
  unfold put11
  exact set_then (set_then (set_then (set_then (set_then (set_then (set_then (set_then (set_then (set_then (set_only _ g 0 _) 1 _) 2 _) 3 _) 4 _) 5 _) 6 _) 7 _) 8 _) 9 _) 10 _
theorem unit_results {tmps : Array Value} {W : World} {g : Nat} {x0 x1 x2 x3 x4 x5 x6 x7 x8 x9 x10 : Value} (h2 : tmps.getD 2 undef = .pointer (some ⟨g, 0, none⟩)) (hC : Cel W g 29 #[x0, x1, x2, x3, x4, x5, x6, x7, x8, x9, x10]) :
    (results Try.f38 tmps).run Try.prog W = .ok (.agg #[x0, x1, x2, x3, x4, x5, x6, x7, x8, x9, x10]) W := by
  have c0 := hC.cell 0
  have c1 := hC.cell 1
  have c2 := hC.cell 2
  have c3 := hC.cell 3
  have c4 := hC.cell 4
  have c5 := hC.cell 5
  have c6 := hC.cell 6
  have c7 := hC.cell 7
  have c8 := hC.cell 8
  have c9 := hC.cell 9
  have c10 := hC.cell 10
  simp at c0 c1 c2 c3 c4 c5 c6 c7 c8 c9 c10
  simp only [Array.getD_eq_getD_getElem?] at h2
  simp [results, Try.results38, go_sem, h2, c0, c1, c2, c3, c4, c5, c6, c7, c8, c9, c10]

theorem tU_short {k v : Nat} {l r : List Byte} (h : tU k l = some (v, r)) : r.length ≤ l.length := by
  rw [(tU_some h).2, List.length_append]
  omega
theorem tB_short {m : Int} {v l r : List Byte} (h : tB m l = some (v, r)) : r.length ≤ l.length := by
  rw [(tB_some h).1, List.length_append]
  omega
/-- what stands in the heap while a unit is read: the Reader, the fields' box, the result's cells, the unit's cells -/
structure US (w0 : World) (B g : Nat) (st : Option (List Byte)) (f r p : Nat) (cs : Array Value) (w : World) : Prop where
  o : OR w B g st
  cf : Cel w f 60 #[.pointer (some ⟨g, 0, none⟩)]
  cr : ∃ zs : Array Value, zs.size = 11 ∧ Cel w r 29 zs
  cp : Cel w p 29 cs
  k : Only [g] w0 w
  hp : w0.heap.size ≤ p
  hr : w0.heap.size ≤ r
  ne : r ≠ p
section
variable {w0 w w' : World} {B g f r p : Nat} {st st' : Option (List Byte)} {cs : Array Value}
theorem OR.cel_ne {q : Nat} {t : TypeId} {ds : Array Value} (h : OR w B g st) (hc : Cel w q t ds) (ht : t ≠ 74) : q ≠ g := by
  obtain ⟨A, l, c, hg, _⟩ := h
  exact hc.apart hg ht
theorem US.step (h : US w0 B g st f r p cs w) (o : OR w' B g st') (k : Only [g] w w') : US w0 B g st' f r p cs w' := by
  obtain ⟨zs, hz, hc⟩ := h.cr
  exact ⟨o, h.cf.only k (by simpa using OR.cel_ne h.o h.cf (by decide)), ⟨zs, hz, hc.only k (by simpa using OR.cel_ne h.o hc (by decide))⟩, h.cp.only k (by simpa using OR.cel_ne h.o h.cp (by decide)), h.k.trans k (fun x hx => .inl hx), h.hp, h.hr, h.ne⟩
theorem US.pB (h : US w0 B g st f r p cs w) (hg : g < w0.heap.size) : B ≤ p := by
  have := h.o.lt.1
  have := h.hp
  omega
theorem US.put (h : US w0 B g st f r p cs w) (hg : g < w0.heap.size) (i : Nat) (u : Value) : US w0 B g st f r p (cs.setIfInBounds i u) (w.setCell ⟨p, i, none⟩ u) := by
  have kS := set_only w p i u
  have hB := h.pB hg
  have hp := h.hp
  obtain ⟨zs, hz, hc⟩ := h.cr
  exact ⟨h.o.only kS (by simp; omega) (by simpa using hB), h.cf.only kS (by simpa using h.cf.apart h.cp (by decide)), ⟨zs, hz, hc.only kS (by simpa using h.ne)⟩, h.cp.put i u, h.k.put (p := ⟨p, i, none⟩) (.inr h.hp) u, h.hp, h.hr, h.ne⟩
end
/-- a unit's two slices, of the call's own -/
structure Py (w : World) (p : Pd) (A : Option Addr) (n a : Nat) (G : Option Addr) (m c : Nat) : Prop where
  b : ∃ s, Ow w s 5 (.slice A n a) p.da
  bl : p.da.length = n
  g : ∃ s, Row.Os encR 2 w s 41 (.slice G m c) p.ga
  gl : p.ga.length = m
  s : p.su < 4294967296
section
variable {w w' : World} {p : Pd} {A G : Option Addr} {n a m c : Nat}
theorem Py.px (h : Py w p A n a G m c) : Px w p A n a G m c := by
  obtain ⟨s, h1⟩ := h.b
  obtain ⟨s2, h2⟩ := h.g
  obtain ⟨A3, C3, e3, hB3⟩ := Bx.of h1 h.bl
  injection e3 with e31 _ e33
  subst e31 e33
  obtain ⟨A4, C4, e4, hG4⟩ := Gx.of h2 h.gl
  injection e4 with e41 _ e43
  subst e41 e43
  exact ⟨hB3, hG4, h.s⟩
theorem Py.only (h : Py w p A n a G m c) {q : Nat} {cs : Array Value} (hq : Cel w q 29 cs) (k : Only [q] w w') : Py w' p A n a G m c := by
  obtain ⟨s, h1⟩ := h.b
  obtain ⟨s2, h2⟩ := h.g
  refine ⟨⟨s, h1.only k (fun i hi => ?_)⟩, h.bl, ⟨s2, h2.only k (fun i hi => ?_)⟩, h.gl, h.s⟩
  · have hn := h1.apart hq (by decide)
    intro hm
    simp at hm
    exact hn (hm ▸ hi)
  · have hn := Row.Os.apart h2 hq (by decide)
    intro hm
    simp at hm
    exact hn (hm ▸ hi)
theorem Py.on (h : Py w p A n a G m c) (k : Below w.heap.size w w') : Py w' p A n a G m c := by
  obtain ⟨s, h1⟩ := h.b
  obtain ⟨s2, h2⟩ := h.g
  exact ⟨⟨s, h1.below k⟩, h.bl, ⟨s2, h2.below k⟩, h.gl, h.s⟩
end
theorem ow_nil (w : World) : ∃ s, Ow w s 5 (.slice none 0 0) [] := ⟨0, World.ownsRow_nil _ _ _ _⟩
theorem os_nil (w : World) : ∃ s, Row.Os encR 2 w s 41 (.slice none 0 0) [] := ⟨0, Row.Os.nil_ _ _ _⟩
/-- how 'unit' ends -/
def UO (X : Option (Pd × List Byte)) (w : World) (B g : Nat) (e : Ending) (w' : World) : Prop :=
  match X with
  | some (p, r) => (∃ A n a G m c, e = .returned (.agg #[I p.kd, I p.sr, I p.nm, I p.cl, .string (str p.na), I p.sz, I p.of, .slice A n a, .int .u32 (p.su : Int), I p.co, .slice G m c]) ∧ Py w' p A n a G m c) ∧ OR w' B g (some r) ∧ Only [g] w w'
  | none => e = .panicked mal ∧ Only [g] w w'
theorem lift_panic {w w1 w' : World} {g : Nat} (k : Only [g] w w1) (k' : Only [g] w1 w') : Only [g] w w' := k.trans k' (fun _ hx => .inl hx)

set_option maxRecDepth 100000 in
set_option maxHeartbeats 4000000 in
theorem unit_h0 (w : World) (B g : Nat) (l : List Byte) (h : OR w B g (some l)) (hL : l.length < 1000000) (ht : tU 1 l = none) :
    Calls Try.prog 38 #[.agg #[.pointer (some ⟨g, 0, none⟩)]] w fun e w' => e = .panicked mal ∧ Only [g] w w' := by
  have hs := h.lt.2
  have hF0 := Cel.new w 60 #[.pointer (some ⟨g, 0, none⟩)]
  have bo := box_only w [g] (.cells #[.pointer (some ⟨g, 0, none⟩)] 60)
  have o0 := OR.box h (.cells #[.pointer (some ⟨g, 0, none⟩)] 60)
  have o1 := OR.box o0 (.cells #[I 0, I 0, I 0, I 0, .string ⟨#[]⟩, I 0, I 0, .slice none 0 0, .int .u32 0, I 0, .slice none 0 0] 29)
  have hF1 := Cel.on hF0 (bel_new _ (.cells #[I 0, I 0, I 0, I 0, .string ⟨#[]⟩, I 0, I 0, .slice none 0 0, .int .u32 0, I 0, .slice none 0 0] 29))
  have hR1 := Cel_two w (.cells #[.pointer (some ⟨g, 0, none⟩)] 60) 29 #[I 0, I 0, I 0, I 0, .string ⟨#[]⟩, I 0, I 0, .slice none 0 0, .int .u32 0, I 0, .slice none 0 0]
  have k1 := bo.alloc (.cells #[I 0, I 0, I 0, I 0, .string ⟨#[]⟩, I 0, I 0, .slice none 0 0, .int .u32 0, I 0, .slice none 0 0] 29)
  have hgf : w.heap.size ≠ g := by omega
  have hgr : w.heap.size + 1 ≠ g := by omega
  have c0 := hF1.cell 0
  simp only [List.getElem?_toArray, List.getElem?_cons_zero] at c0
  clear bo o0 hF0
  have hr := num_no 1 o1 ht hL
  clear ht hL h o1 hR1 hF1
  go_enter Try.func38, Try.ntmps38
  go_wp2_with fail
  refine hr.mono ?_
  rintro e w1 ⟨rfl, k⟩
  exact ⟨rfl, rfl, lift_panic k1 k⟩
theorem eleven {cs : Array Value} (h : cs.size = 11) : cs = #[cs.toList.getD 0 undef, cs.toList.getD 1 undef, cs.toList.getD 2 undef, cs.toList.getD 3 undef, cs.toList.getD 4 undef, cs.toList.getD 5 undef, cs.toList.getD 6 undef, cs.toList.getD 7 undef, cs.toList.getD 8 undef, cs.toList.getD 9 undef, cs.toList.getD 10 undef] := by
  obtain ⟨l⟩ := cs
  match l, h with
  | [x0, x1, x2, x3, x4, x5, x6, x7, x8, x9, x10], _ => rfl
theorem pGp_short {l r : List Byte} {v : List R} (h : pGp l = some (v, r)) : r.length ≤ l.length := by
  unfold pGp at h
  cases ha : tC 16 l with
  | none => rw [ha] at h; cases h
  | some a =>
    obtain ⟨a, l1⟩ := a
    rw [ha] at h
    simp only [Option.bind_some] at h
    obtain ⟨h1, _⟩ := tC_tI ha
    have q := tI_short h1
    obtain ⟨_, e, _⟩ := tG_some h
    rw [e, List.length_append] at q
    omega
theorem pGp_bind {β : Type} (l : List Byte) (f : List R × List Byte → β) : ((tC 16 l).bind fun a => (tG a.1.toNat a.2).map f) = (pGp l).map f := by
  unfold pGp
  cases tC 16 l <;> rfl
end Go.Proofs.Ytjjfamkljcipgaa.Pdu
