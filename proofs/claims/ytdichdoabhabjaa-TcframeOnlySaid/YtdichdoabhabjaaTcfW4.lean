/-
  The walks of package tcframe's control, Unlock, SetNext.
-/
import Derived.Test.YtdichdoabhabjaaTcfW3
import Derived.ArgAppend
import Derived.Lib.SlBytesConst
namespace Go.Proofs.Ytdichdoabhabjaa.Tcf
open Go.RowKit Go.Proofs.Ytdichdoabhabjaa.Pac

/-- A leads to the bytes l, n of them, in w -/
structure Rd (w : World) (A : Option Addr) (l : List Byte) (n c : Nat) : Prop where
  len : l.length = n
  bs : Bs w w.heap.size A l
  nil : A = none → c = 0
  le : n ≤ c
  max : c ≤ maxLen
theorem Rd.later {w w' : World} {A : Option Addr} {l : List Byte} {n c : Nat} (h : Rd w A l n c) (hb : Below w.heap.size w w') : Rd w' A l n c := ⟨h.len, (h.bs.below hb).more hb.size, h.nil, h.le, h.max⟩
theorem Rd.of {w : World} {base n : Nat} {v : Value} {l : List Byte} (h : Ow w base 5 v l) (hl : l.length = n) : ∃ A c, v = .slice A n c ∧ Rd w A l n c := by
  obtain ⟨A, c, h1, h2, h3, h4, h5⟩ := h.reads_len hl
  exact ⟨A, c, h1, hl, h2, h3, h4, h5⟩
theorem Rd.only {w w' : World} {b off : Nat} {l : List Byte} {n c : Nat} {S : List Nat} (h : Rd w (some ⟨b, off, none⟩) l n c) (k : Only S w w') (hb : b ∉ S) : Rd w' (some ⟨b, off, none⟩) l n c := by
  refine ⟨h.len, fun hl => ?_, h.nil, h.le, h.max⟩
  obtain ⟨b', o', e, hlt, hc⟩ := h.bs hl
  injection e with e
  injection e with e1 e2
  subst e1 e2
  refine ⟨b, off, rfl, Nat.lt_of_lt_of_le hlt k.size, fun i x hx => ?_⟩
  have h1 := hc i x hx
  have h2 := k.block b hlt hb
  unfold World.cell? at h1 ⊢
  simp only at h1 ⊢
  rw [h2]
  exact h1
theorem Bs.adds {w : World} {B b off : Nat} {l : List Byte} (h : Bs w B (some ⟨b, off, none⟩) l) : ∀ j u, (l.map B8)[j]? = some u → w.cell? ((⟨b, off, none⟩ : Addr).add j) = some u := fun j u hu => by
  rw [List.getElem?_map] at hu
  cases hx : l[j]? with
  | none => rw [hx] at hu; cases hu
  | some x =>
    rw [hx] at hu
    injection hu with hu
    subst hu
    have hj := (List.getElem?_eq_some_iff.1 hx).1
    obtain ⟨b', off', he, _, hc⟩ := h (by omega)
    injection he with he
    injection he with e1 e2
    subst e1 e2
    by_cases h0 : j = 0
    · subst h0; simpa [Addr.add] using hc 0 x hx
    · simpa [Addr.add, h0] using hc j x hx

theorem tco_results {tmps : Array Value} {W : World} {g : Nat} {byp con : Bool} {cr ch sq : Int} {v : Value} (h2 : tmps.getD 6 undef = .pointer (some ⟨g, 0, none⟩))
    (hC : Cel W g 24 #[.bool byp, .bool con, .int .i64 cr, .int .i64 ch, .int .i64 sq, v]) :
    (results Try.f34 tmps).run Try.prog W = .ok (.agg #[.bool byp, .bool con, .int .i64 cr, .int .i64 ch, .int .i64 sq, v]) W := by
  have c0 := hC.cell 0
  have c1 := hC.cell 1
  have c2 := hC.cell 2
  have c3 := hC.cell 3
  have c4 := hC.cell 4
  have c5 := hC.cell 5
  simp at c0 c1 c2 c3 c4 c5
  simp only [Array.getD_eq_getD_getElem?] at h2
  simp [results, Try.results34, go_sem, h2, c0, c1, c2, c3, c4, c5]
theorem tun_results {tmps : Array Value} {W : World} {g : Nat} {byp con : Bool} {cr ch sq : Int} {v : Value} (h2 : tmps.getD 4 undef = .pointer (some ⟨g, 0, none⟩))
    (hC : Cel W g 24 #[.bool byp, .bool con, .int .i64 cr, .int .i64 ch, .int .i64 sq, v]) :
    (results Try.f18 tmps).run Try.prog W = .ok (.agg #[.bool byp, .bool con, .int .i64 cr, .int .i64 ch, .int .i64 sq, v]) W := by
  have c0 := hC.cell 0
  have c1 := hC.cell 1
  have c2 := hC.cell 2
  have c3 := hC.cell 3
  have c4 := hC.cell 4
  have c5 := hC.cell 5
  simp at c0 c1 c2 c3 c4 c5
  simp only [Array.getD_eq_getD_getElem?] at h2
  simp [results, Try.results18, go_sem, h2, c0, c1, c2, c3, c4, c5]
theorem tsn_results {tmps : Array Value} {W : World} {g : Nat} {byp con : Bool} {cr ch sq : Int} {v : Value} (h2 : tmps.getD 6 undef = .pointer (some ⟨g, 0, none⟩))
    (hC : Cel W g 24 #[.bool byp, .bool con, .int .i64 cr, .int .i64 ch, .int .i64 sq, v]) :
    (results Try.f19 tmps).run Try.prog W = .ok (.agg #[.bool byp, .bool con, .int .i64 cr, .int .i64 ch, .int .i64 sq, v]) W := by
  have c0 := hC.cell 0
  have c1 := hC.cell 1
  have c2 := hC.cell 2
  have c3 := hC.cell 3
  have c4 := hC.cell 4
  have c5 := hC.cell 5
  simp at c0 c1 c2 c3 c4 c5
  simp only [Array.getD_eq_getD_getElem?] at h2
  simp [results, Try.results19, go_sem, h2, c0, c1, c2, c3, c4, c5]

set_option maxHeartbeats 400000 in
theorem tcontrol_any (cr ch : Int) (A : Option Addr) (n c : Nat) (w : World) :
    Calls Try.prog 34 #[.int .i64 cr, .int .i64 ch, .slice A n c] w fun e w' => e = .returned (.agg #[.bool true, .bool true, .int .i64 cr, .int .i64 ch, .int .i64 0, .slice A n c]) ∧ Below w.heap.size w w' := by
  have hR := Cel.new w 24 #[.bool true, .bool true, .int .i64 cr, .int .i64 ch, .int .i64 0, .slice A n c]
  have b0 := bel_new w (.cells #[.bool true, .bool true, .int .i64 cr, .int .i64 ch, .int .i64 0, .slice A n c] 24)
  go_enter Try.func34, Try.ntmps34
  go_wp2
  exact bodyPost_ret (tco_results rfl hR) rfl ⟨rfl, b0⟩

set_option maxHeartbeats 1000000 in
theorem tunlock_any (cr ch : Int) (w : World) :
    Calls Try.prog 18 #[.int .i64 cr, .int .i64 ch] w fun e w' => ∃ A c, e = .returned (.agg #[.bool true, .bool true, .int .i64 cr, .int .i64 ch, .int .i64 0, .slice A 1 c]) ∧ Rd w' A [0#8] 1 c ∧ Below w.heap.size w w' := by
  have kc : (convert 22 22 (.slice (some ⟨w.heap.size + 1, 0, none⟩) 1 1)).run Try.prog ((w.alloc (.cells #[.bool false, .bool false, .int .i64 0, .int .i64 0, .int .i64 0, .slice none 0 0] 24)).alloc (.cells #[.int .u8 0] 5)) = .ok (.slice (some ⟨w.heap.size + 1, 0, none⟩) 1 1) ((w.alloc (.cells #[.bool false, .bool false, .int .i64 0, .int .i64 0, .int .i64 0, .slice none 0 0] 24)).alloc (.cells #[.int .u8 0] 5 (1, 2))) := by
    have h := Lib.run_convert_bytes_const (P := Try.prog) (w.alloc (.cells #[.bool false, .bool false, .int .i64 0, .int .i64 0, .int .i64 0, .slice none 0 0] 24)) 22 5 #[.int .u8 0] 1 1 Try.underlying22 Try.underlying5
    rw [show (w.alloc (.cells #[.bool false, .bool false, .int .i64 0, .int .i64 0, .int .i64 0, .slice none 0 0] 24)).heap.size = w.heap.size + 1 by simp] at h
    exact h
  obtain ⟨W0, hW0⟩ : ∃ W0, W0 = w.alloc (.cells #[.bool false, .bool false, .int .i64 0, .int .i64 0, .int .i64 0, .slice none 0 0] 24) := ⟨_, rfl⟩
  have hR0 : Cel W0 w.heap.size 24 #[.bool false, .bool false, .int .i64 0, .int .i64 0, .int .i64 0, .slice none 0 0] := by rw [hW0]; exact Cel.new _ _ _
  have b0 : Below w.heap.size w W0 := by rw [hW0]; exact bel_new _ _
  have hs0 : W0.heap.size = w.heap.size + 1 := by rw [hW0]; simp
  obtain ⟨W1, hW1⟩ : ∃ W1, W1 = W0.alloc (.cells #[.int .u8 0] 5 (1, 2)) := ⟨_, rfl⟩
  have hR1 : Cel W1 w.heap.size 24 #[.bool false, .bool false, .int .i64 0, .int .i64 0, .int .i64 0, .slice none 0 0] := by rw [hW1]; exact Cel.later hR0 (bel_new _ _)
  have b1 : Below w.heap.size w W1 := by rw [hW1]; exact b0.alloc b0.size _
  have hD : Rd W1 (some ⟨w.heap.size + 1, 0, none⟩) [0#8] 1 1 := by
    rw [hW1, ← hs0]
    exact ⟨rfl, Bs_new _ _ _ _ (by simp) _ (by simp) _, (fun h => nomatch h), by decide, by decide⟩
  have hco := tcontrol_any cr ch (some ⟨w.heap.size + 1, 0, none⟩) 1 1 W1
  rw [hW1, hW0] at hco
  rw [hW0] at hW1
  clear hs0 hR0 b0 hW0
  go_enter Try.func18, Try.ntmps18
  go_wp2_with fail
  refine hco.mono ?_
  rw [← hW1]
  rintro e w2 ⟨rfl, h2⟩
  have hR2 := Cel.later hR1 h2
  have b2 := b1.trans (h2.mono b1.size)
  have hD2 := hD.later h2
  have f0 := hR2.free 0
  have f1 := hR2.free 1
  have f2 := hR2.free 2
  have f3 := hR2.free 3
  have f4 := hR2.free 4
  have f5 := hR2.free 5
  have c0 := hR2.cell 0
  have c1 := hR2.cell 1
  have c2 := hR2.cell 2
  have c3 := hR2.cell 3
  have c4 := hR2.cell 4
  have c5 := hR2.cell 5
  simp at c0 c1 c2 c3 c4 c5
  clear hco
  go_wp2
  refine bodyPost_ret (tun_results rfl (putAll_cel hR2 true true cr ch 0 (.slice (some ⟨w.heap.size + 1, 0, none⟩) 1 1))) rfl ⟨_, _, rfl, ?_, putAll_below b2 (Nat.le_refl _) _ _ _ _ _ _⟩
  exact hD2.only (putAll_only _ _ _ _ _ _ _ _) (by simp)

set_option maxHeartbeats 400000 in
theorem tsetNext_no (cr ch x : Int) (w : World) (hx : x < 0 ∨ 255 < x) :
    Calls Try.prog 19 #[.int .i64 cr, .int .i64 ch, .int .i64 x] w fun e w' => e = .returned (.agg #[.bool false, .bool false, .int .i64 0, .int .i64 0, .int .i64 0, .slice none 0 0]) ∧ Below w.heap.size w w' := by
  have hR := Cel.new w 24 #[.bool false, .bool false, .int .i64 0, .int .i64 0, .int .i64 0, .slice none 0 0]
  have b0 := bel_new w (.cells #[.bool false, .bool false, .int .i64 0, .int .i64 0, .int .i64 0, .slice none 0 0] 24)
  rcases hx with hx | hx
  · have g1 : decide (x < 0) = true := by simpa using hx
    go_enter Try.func19, Try.ntmps19
    go_wp2
    exact bodyPost_ret (tsn_results rfl hR) rfl ⟨rfl, b0⟩
  · have g1 : decide (x < 0) = false := by simp; omega
    have g2 : decide (255 < x) = true := by simpa using hx
    go_enter Try.func19, Try.ntmps19
    go_wp2
    exact bodyPost_ret (tsn_results rfl hR) rfl ⟨rfl, b0⟩

set_option maxHeartbeats 1000000 in
theorem tsetNext_yes (cr ch : Int) (z : Byte) (w : World) :
    Calls Try.prog 19 #[.int .i64 cr, .int .i64 ch, .int .i64 (z.toNat : Int)] w fun e w' => ∃ A c, e = .returned (.agg #[.bool true, .bool true, .int .i64 cr, .int .i64 ch, .int .i64 0, .slice A 3 c]) ∧ Rd w' A [130#8, 0#8, z] 3 c ∧ Below w.heap.size w w' := by
  have kc : (convert 22 22 (.slice (some ⟨w.heap.size + 1, 0, none⟩) 2 2)).run Try.prog ((w.alloc (.cells #[.bool false, .bool false, .int .i64 0, .int .i64 0, .int .i64 0, .slice none 0 0] 24)).alloc (.cells #[.int .u8 130, .int .u8 0] 5)) = .ok (.slice (some ⟨w.heap.size + 1, 0, none⟩) 2 2) ((w.alloc (.cells #[.bool false, .bool false, .int .i64 0, .int .i64 0, .int .i64 0, .slice none 0 0] 24)).alloc (.cells #[.int .u8 130, .int .u8 0] 5 (2, 3))) := by
    have h := Lib.run_convert_bytes_const (P := Try.prog) (w.alloc (.cells #[.bool false, .bool false, .int .i64 0, .int .i64 0, .int .i64 0, .slice none 0 0] 24)) 22 5 #[.int .u8 130, .int .u8 0] 2 2 Try.underlying22 Try.underlying5
    rw [show (w.alloc (.cells #[.bool false, .bool false, .int .i64 0, .int .i64 0, .int .i64 0, .slice none 0 0] 24)).heap.size = w.heap.size + 1 by simp] at h
    exact h
  have hz := z.isLt
  have hz2 : (0 : Int) ≤ (z.toNat : Int) := by omega
  have hz3 : (z.toNat : Int) ≤ 255 := by omega
  have hz4 : IntKind.u8.wrap (z.toNat : Int) = (z.toNat : Int) := by rw [IntKind.wrap_u8]; omega
  obtain ⟨Z, hZ⟩ : ∃ Z : Int, Z = (z.toNat : Int) := ⟨_, rfl⟩
  rw [← hZ] at hz2 hz3 hz4 ⊢
  have g1 : decide (Z < 0) = false := by simp; omega
  have g2 : decide (255 < Z) = false := by simp; omega
  obtain ⟨hu, _, i0, hi, hz0, hz1, hzb⟩ := is_bytes
  have hR0 := Cel.new w 24 #[.bool false, .bool false, .int .i64 0, .int .i64 0, .int .i64 0, .slice none 0 0]
  have b0 := bel_new w (.cells #[.bool false, .bool false, .int .i64 0, .int .i64 0, .int .i64 0, .slice none 0 0] 24)
  have s0 : (w.alloc (.cells #[.bool false, .bool false, .int .i64 0, .int .i64 0, .int .i64 0, .slice none 0 0] 24)).heap.size = w.heap.size + 1 := by simp
  have d1 : Bs ((w.alloc (.cells #[.bool false, .bool false, .int .i64 0, .int .i64 0, .int .i64 0, .slice none 0 0] 24)).alloc (.cells #[.int .u8 130, .int .u8 0] 5 (2, 3))) (w.heap.size + 2) (some ⟨w.heap.size + 1, 0, none⟩) [130#8, 0#8] := by
    rw [← s0]; exact Bs_new _ _ _ _ (by simp) _ (by simp) _
  have s1 : ((w.alloc (.cells #[.bool false, .bool false, .int .i64 0, .int .i64 0, .int .i64 0, .slice none 0 0] 24)).alloc (.cells #[.int .u8 130, .int .u8 0] 5 (2, 3))).heap.size = w.heap.size + 1 + 1 := by simp
  have d2 : Bs (((w.alloc (.cells #[.bool false, .bool false, .int .i64 0, .int .i64 0, .int .i64 0, .slice none 0 0] 24)).alloc (.cells #[.int .u8 130, .int .u8 0] 5 (2, 3))).alloc (.cells #[.int .u8 Z] 5)) (w.heap.size + 3) (some ⟨w.heap.size + 1 + 1, 0, none⟩) [z] := by
    rw [← s1]; exact Bs_new _ _ _ _ (by rw [hZ]; rfl) _ (by simp) _
  have b1 : Below w.heap.size w ((w.alloc (.cells #[.bool false, .bool false, .int .i64 0, .int .i64 0, .int .i64 0, .slice none 0 0] 24)).alloc (.cells #[.int .u8 130, .int .u8 0] 5 (2, 3))) := b0.alloc b0.size _
  have hR1 := Cel.later hR0 (bel_new (w.alloc (.cells #[.bool false, .bool false, .int .i64 0, .int .i64 0, .int .i64 0, .slice none 0 0] 24)) (.cells #[.int .u8 130, .int .u8 0] 5 (2, 3)))
  obtain ⟨W1, hW1⟩ : ∃ W1, W1 = (w.alloc (.cells #[.bool false, .bool false, .int .i64 0, .int .i64 0, .int .i64 0, .slice none 0 0] 24)).alloc (.cells #[.int .u8 130, .int .u8 0] 5 (2, 3)) := ⟨_, rfl⟩
  rw [← hW1] at d1 s1 d2 b1 hR1
  have k2 := bel_new W1 (.cells #[.int .u8 Z] 5)
  have d1' : Bs (W1.alloc (.cells #[.int .u8 Z] 5)) (w.heap.size + 2) (some ⟨w.heap.size + 1, 0, none⟩) [130#8, 0#8] := by
    refine d1.keep fun p hp => ?_
    exact k2.cell (p := p) (by omega)
  have b2 := b1.trans (k2.mono b1.size)
  have hR2 := Cel.later hR1 k2
  obtain ⟨W2, hW2⟩ : ∃ W2, W2 = W1.alloc (.cells #[.int .u8 Z] 5) := ⟨_, rfl⟩
  rw [← hW2] at d1' d2 b2 hR2
  rw [hW1] at hW2
  have e1 := Bs.adds d1'
  have e2 := Bs.adds d2
  have HZ := Lib.hid hZ
  clear hZ d1 d2 d1' hR1 b1 k2 hW1 hR0 b0 s0 s1 hz
  go_enter Try.func19, Try.ntmps19
  go_wp2_with (first
    | (at_builtin; rw [← hW2]; refine wpList_append_grows _ rfl (.tmp 17) (.tmp 20) 22 rfl 5 i0 _ 1 1 hu hi hz0 hz1 hzb rfl (by decide) (some ⟨w.heap.size + 1, 0, none⟩) 2 2 ([130#8, 0#8].map B8) rfl (fun h => nomatch h) rfl (fun b hb => by injection hb with hb; subst hb; exact e1) ⟨w.heap.size + 1 + 1, 0, none⟩ 1 1 ([z].map B8) rfl rfl e2 (B8_one _) (by decide) (by decide) (by decide) ?_; intro v3 w3 hown3 hgr3))
  have o3 : Ow w3 W2.heap.size 5 v3 [130#8, 0#8, z] := hown3
  obtain ⟨gr, c9, hv3, hgr, _⟩ := o3.form_len (m := 2) rfl
  have hv3' : v3 = .slice (some ⟨gr, 0, none⟩) 3 c9 := hv3
  subst hv3'
  obtain ⟨A', c', he, hD3⟩ := Rd.of o3 rfl
  injection he with q1 q2 q3
  subst q1 q3
  have b3 := b2.trans ((Only.of_grown hgr3).below b2.size (by simp))
  have hR3 := hR2.only (Only.of_grown hgr3) (by simp)
  have hne : gr ≠ w.heap.size := by have := hR2.lt; omega
  clear hown3 hgr3 hR2 b2 e1 e2 o3 hW2
  refine (tcontrol_any cr ch (some ⟨gr, 0, none⟩) 3 c9 w3).mono ?_
  rintro e w4 ⟨rfl, h4⟩
  have hR4 := Cel.later hR3 h4
  have b4 := b3.trans (h4.mono b3.size)
  have hD4 := hD3.later h4
  have f0 := hR4.free 0
  have f1 := hR4.free 1
  have f2 := hR4.free 2
  have f3 := hR4.free 3
  have f4 := hR4.free 4
  have f5 := hR4.free 5
  have c0 := hR4.cell 0
  have c1 := hR4.cell 1
  have c2 := hR4.cell 2
  have c3 := hR4.cell 3
  have c4 := hR4.cell 4
  have c5 := hR4.cell 5
  simp at c0 c1 c2 c3 c4 c5
  go_wp2
  exact bodyPost_ret (tsn_results rfl (putAll_cel hR4 true true cr ch 0 (.slice (some ⟨gr, 0, none⟩) 3 c9))) rfl ⟨_, _, rfl, hD4.only (putAll_only _ _ _ _ _ _ _ _) (by simpa using hne), putAll_below b4 (Nat.le_refl _) _ _ _ _ _ _⟩
end Go.Proofs.Ytdichdoabhabjaa.Tcf
