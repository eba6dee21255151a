/-
  The walks of the reference of layer 14: Unlock, SetNext.
-/
import Derived.Test.YtdichdoabhabjaaRef14a
namespace Go.Proofs.Ytdichdoabhabjaa.Tcf
open Go.RowKit Go.Proofs.Ytdichdoabhabjaa.Pac

theorem yun_results {tmps : Array Value} {W : World} {g : Nat} {byp con : Bool} {cr ch sq : Int} {v : Value} (h2 : tmps.getD 4 undef = .pointer (some ⟨g, 0, none⟩))
    (hC : Cel W g 24 #[.bool byp, .bool con, .int .i64 cr, .int .i64 ch, .int .i64 sq, v]) :
    (results Try.f20 tmps).run Try.prog W = .ok (.agg #[.bool byp, .bool con, .int .i64 cr, .int .i64 ch, .int .i64 sq, v]) W := by
  have c0 := hC.cell 0
  have c1 := hC.cell 1
  have c2 := hC.cell 2
  have c3 := hC.cell 3
  have c4 := hC.cell 4
  have c5 := hC.cell 5
  simp at c0 c1 c2 c3 c4 c5
  simp only [Array.getD_eq_getD_getElem?] at h2
  simp [results, Try.results20, go_sem, h2, c0, c1, c2, c3, c4, c5]

theorem ysn_results {tmps : Array Value} {W : World} {g : Nat} {byp con : Bool} {cr ch sq : Int} {v : Value} (h2 : tmps.getD 6 undef = .pointer (some ⟨g, 0, none⟩))
    (hC : Cel W g 24 #[.bool byp, .bool con, .int .i64 cr, .int .i64 ch, .int .i64 sq, v]) :
    (results Try.f21 tmps).run Try.prog W = .ok (.agg #[.bool byp, .bool con, .int .i64 cr, .int .i64 ch, .int .i64 sq, v]) W := by
  have c0 := hC.cell 0
  have c1 := hC.cell 1
  have c2 := hC.cell 2
  have c3 := hC.cell 3
  have c4 := hC.cell 4
  have c5 := hC.cell 5
  simp at c0 c1 c2 c3 c4 c5
  simp only [Array.getD_eq_getD_getElem?] at h2
  simp [results, Try.results21, go_sem, h2, c0, c1, c2, c3, c4, c5]

set_option maxHeartbeats 1000000 in
theorem yunlock_any (cr ch : Int) (w : World) :
    Calls Try.prog 20 #[.int .i64 cr, .int .i64 ch] w fun e w' => ∃ A c, e = .returned (.agg #[.bool true, .bool true, .int .i64 cr, .int .i64 ch, .int .i64 0, .slice A 1 c]) ∧ Rd w' A [0#8] 1 c ∧ Below w.heap.size w w' := by
  have hR0 := Cel.new w 24 #[.bool true, .bool true, .int .i64 cr, .int .i64 ch, .int .i64 0, .slice (some ⟨w.heap.size + 1, 0, none⟩) 1 1]
  have b0 := bel_new w (.cells #[.bool true, .bool true, .int .i64 cr, .int .i64 ch, .int .i64 0, .slice (some ⟨w.heap.size + 1, 0, none⟩) 1 1] 24)
  have s0 : (w.alloc (.cells #[.bool true, .bool true, .int .i64 cr, .int .i64 ch, .int .i64 0, .slice (some ⟨w.heap.size + 1, 0, none⟩) 1 1] 24)).heap.size = w.heap.size + 1 := by simp
  have d0 : ∀ W0 : World, W0.heap.size = w.heap.size + 1 → Rd (W0.alloc (.cells #[.int .u8 0] 5)) (some ⟨w.heap.size + 1, 0, none⟩) [0#8] 1 1 := fun W0 h => by
    rw [← h]
    refine ⟨rfl, ?_, (fun h => nomatch h), by decide, by decide⟩
    exact Bs_new _ _ _ _ (by simp) _ (by simp) _
  have d1 := d0 _ s0
  have b1 := b0.alloc b0.size (.cells #[.int .u8 0] 5)
  have hR1 := Cel.later hR0 (bel_new (w.alloc (.cells #[.bool true, .bool true, .int .i64 cr, .int .i64 ch, .int .i64 0, .slice (some ⟨w.heap.size + 1, 0, none⟩) 1 1] 24)) (.cells #[.int .u8 0] 5))
  clear hR0 b0 s0 d0
  go_enter Try.func20, Try.ntmps20
  go_wp2
  exact bodyPost_ret (yun_results rfl hR1) rfl ⟨_, _, rfl, d1, b1⟩

set_option maxHeartbeats 400000 in
theorem ysetNext_no (cr ch x : Int) (w : World) (hx : x < 0 ∨ 255 < x) :
    Calls Try.prog 21 #[.int .i64 cr, .int .i64 ch, .int .i64 x] w fun e w' => e = .returned (.agg #[.bool false, .bool false, .int .i64 0, .int .i64 0, .int .i64 0, .slice none 0 0]) ∧ Below w.heap.size w w' := by
  have hR := Cel.new w 24 #[.bool false, .bool false, .int .i64 0, .int .i64 0, .int .i64 0, .slice none 0 0]
  have b0 := bel_new w (.cells #[.bool false, .bool false, .int .i64 0, .int .i64 0, .int .i64 0, .slice none 0 0] 24)
  rcases hx with hx | hx
  · have g1 : decide (x < 0) = true := by simpa using hx
    go_enter Try.func21, Try.ntmps21
    go_wp2
    exact bodyPost_ret (ysn_results rfl hR) rfl ⟨rfl, b0⟩
  · have g1 : decide (x < 0) = false := by simp; omega
    have g2 : decide (255 < x) = true := by simpa using hx
    go_enter Try.func21, Try.ntmps21
    go_wp2
    exact bodyPost_ret (ysn_results rfl hR) rfl ⟨rfl, b0⟩

set_option maxHeartbeats 1000000 in
theorem ysetNext_yes (cr ch : Int) (z : Byte) (w : World) :
    Calls Try.prog 21 #[.int .i64 cr, .int .i64 ch, .int .i64 (z.toNat : Int)] w fun e w' => ∃ A c, e = .returned (.agg #[.bool true, .bool true, .int .i64 cr, .int .i64 ch, .int .i64 0, .slice A 3 c]) ∧ Rd w' A [130#8, 0#8, z] 3 c ∧ Below w.heap.size w w' := by
  have hz := z.isLt
  have hz2 : (0 : Int) ≤ (z.toNat : Int) := by omega
  have hz3 : (z.toNat : Int) ≤ 255 := by omega
  have hz4 : IntKind.u8.wrap (z.toNat : Int) = (z.toNat : Int) := by rw [IntKind.wrap_u8]; omega
  obtain ⟨Z, hZ⟩ : ∃ Z : Int, Z = (z.toNat : Int) := ⟨_, rfl⟩
  rw [← hZ] at hz2 hz3 hz4 ⊢
  have g1 : decide (Z < 0) = false := by simp; omega
  have g2 : decide (255 < Z) = false := by simp; omega
  have hR0 := Cel.new w 24 #[.bool false, .bool false, .int .i64 0, .int .i64 0, .int .i64 0, .slice none 0 0]
  have b0 := bel_new w (.cells #[.bool false, .bool false, .int .i64 0, .int .i64 0, .int .i64 0, .slice none 0 0] 24)
  have hun := yunlock_any cr ch (w.alloc (.cells #[.bool false, .bool false, .int .i64 0, .int .i64 0, .int .i64 0, .slice none 0 0] 24))
  have HZ := Lib.hid hZ
  clear hZ hz
  go_enter Try.func21, Try.ntmps21
  go_wp2_with fail
  refine hun.mono ?_
  rintro e w1 ⟨A1, c1, rfl, _, h1⟩
  have hR1 := Cel.later hR0 h1
  have b1 := b0.trans (h1.mono b0.size)
  obtain ⟨Wp, hWp⟩ : ∃ Wp, Wp = putAll w1 w.heap.size true true cr ch 0 (.slice (some ⟨w1.heap.size + 1, 0, none⟩) 3 3) := ⟨_, rfl⟩
  have hRp : Cel Wp w.heap.size 24 #[.bool true, .bool true, .int .i64 cr, .int .i64 ch, .int .i64 0, .slice (some ⟨w1.heap.size + 1, 0, none⟩) 3 3] := by rw [hWp]; exact putAll_cel hR1 _ _ _ _ _ _
  have sp : Wp.heap.size = w1.heap.size := by rw [hWp]; simp [putAll, World.setCell]
  have bp : Below w.heap.size w Wp := by rw [hWp]; exact putAll_below b1 (Nat.le_refl _) _ _ _ _ _ _
  have k2 := bel_new Wp (.cells #[.bool true, .bool true, .int .i64 cr, .int .i64 ch, .int .i64 0, .slice (some ⟨w1.heap.size + 1, 0, none⟩) 3 3] 24)
  have s2 : (Wp.alloc (.cells #[.bool true, .bool true, .int .i64 cr, .int .i64 ch, .int .i64 0, .slice (some ⟨w1.heap.size + 1, 0, none⟩) 3 3] 24)).heap.size = w1.heap.size + 1 := by simp [sp]
  have d0 : ∀ W0 : World, W0.heap.size = w1.heap.size + 1 → Rd (W0.alloc (.cells #[.int .u8 130, .int .u8 0, .int .u8 Z] 5)) (some ⟨w1.heap.size + 1, 0, none⟩) [130#8, 0#8, z] 3 3 := fun W0 h => by
    rw [← h]
    refine ⟨rfl, ?_, (fun h => nomatch h), by decide, by decide⟩
    exact Bs_new _ _ _ _ (by rw [HZ.out]; rfl) _ (by simp) _
  have d3 := d0 _ s2
  have k3 := k2.alloc k2.size (.cells #[.int .u8 130, .int .u8 0, .int .u8 Z] 5)
  have hR3 := Cel.later hRp k3
  have b3 := bp.trans (k3.mono bp.size)
  have hlt := hR1.lt
  have e0 := hR1.cell 0
  have e1 := hR1.cell 1
  have e2 := hR1.cell 2
  have e3 := hR1.cell 3
  have e4 := hR1.cell 4
  have e5 := hR1.cell 5
  simp at e0 e1 e2 e3 e4 e5
  have f0 := hR1.free 0
  have f1 := hR1.free 1
  have f2 := hR1.free 2
  have f3 := hR1.free 3
  have f4 := hR1.free 4
  have f5 := hR1.free 5
  rw [hWp] at d3 hR3 b3
  clear hun h1 hR0 b0 s2 k2 k3 d0 hRp sp bp hWp
  go_wp2
  exact bodyPost_ret (ysn_results rfl hR3) rfl ⟨_, _, rfl, d3, b3⟩
end Go.Proofs.Ytdichdoabhabjaa.Tcf
