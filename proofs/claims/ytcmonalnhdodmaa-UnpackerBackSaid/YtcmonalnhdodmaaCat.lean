/-
  slices.Grow of nil, slices.Concat at two byte slices.
-/
import Derived.Test.YtcmonalnhdodmaaRd
import Derived.Test.YtcmonalnhdodmaaLay2
namespace Go.Proofs.Ytcmonalnhdodmaa.Cat
open Go.RowKit

theorem zeroCells_size (z : Array Value) (n : Nat) : (Builtin.zeroCells z n).size = n * z.size := by simp [Builtin.zeroCells]
/-- slices.Grow of the nil slice -/
theorem grow_any (n : Nat) (w : World) (hn : 0 < n) (hl : n ≤ 1000000000001) :
    Calls Try.prog 56 #[.slice none 0 0, .int .i64 n] w fun e w' => ∃ v, e = .returned v ∧ Ow w' w.heap.size 5 v [] ∧ Below w.heap.size w w' := by
  obtain ⟨i, hi, hz, h1, h2⟩ := info_parts info_u8
  have hcon := Any8.slices_Grow_grow Mar.growB i (.int .u8 0) hi hz (by omega) none 0 0 n [] w (by omega) (by omega) (by rw [h2]; omega) (by omega) (by simp) (fun _ => rfl) (fun a h => nomatch h)
  change Calls Try.prog 56 _ _ _ at hcon
  refine hcon.mono ?_
  rintro e w' ⟨rfl, rfl⟩
  have hG := grownCap_ge w (0 + n) 0 5
  have hG2 := grownCap_le_maxLen w (0 + n) 0 5 (by unfold maxLen; omega)
  have hgr : grownCap w (0 + n) 0 (Mar.growB_ren.t 25) = grownCap w (0 + n) 0 5 := rfl
  rw [hgr]
  simp only [Nat.zero_add] at hG hG2 ⊢
  refine ⟨_, rfl, ⟨rfl, .inr ⟨w.heap.size, _, _, rfl, Nat.le_refl _, heap_alloc_new _ _, Nat.zero_le _, hG2, ?_, rfl⟩⟩, (Below.refl w.heap.size w).drew.alloc (Nat.le_refl _) _⟩
  have hzc : ((Value.int .u8 0).cells).size = 1 := rfl
  simp only [Array.size_append, zeroCells_size, hzc]
  simp
  omega

set_option maxHeartbeats 2000000 in
theorem concat_any (l1 l2 : List Byte) (w : World) (A1 A2 : Option Addr) (c1 c2 Bp : Nat) (h1 : Bs w w.heap.size A1 l1) (n1 : A1 = none → c1 = 0) (h2 : Bs w w.heap.size A2 l2) (n2 : A2 = none → c2 = 0) (hl1 : l1.length ≤ 100000000000) (hl2 : l2.length ≤ 100000000000) (h0 : 0 < l1.length)
    (hp : Cel w Bp 26 #[.slice A1 l1.length c1, .slice A2 l2.length c2]) :
    Calls Try.prog 48 #[.slice (some ⟨Bp, 0, none⟩) 2 2] w fun e w' => ∃ v, e = .returned v ∧ Ow w' w.heap.size 5 v (l1 ++ l2) ∧ Below w.heap.size w w' := by
  have hB := hp.lt
  have c0 : w.cell? ⟨Bp, 0, none⟩ = some (.slice A1 l1.length c1) := hp.cell 0
  have d0 : w.cell? ⟨Bp, 1, none⟩ = some (.slice A2 l2.length c2) := hp.cell 1
  have t1 : decide ((l1.length : Int) < 0) = false := by simp
  have t2 : decide ((l1.length : Int) + (l2.length : Int) < 0) = false := by simp; omega
  have hgr := fun W => grow_any (l1.length + l2.length) W (by omega) (by omega)
  simp only [Int.natCast_add] at hgr
  clear hp
  go_enter Try.func48, Try.ntmps48
  go_wp2
  refine wp_loop_rounds 3 ?_
  rw [rounds_succ]
  go_wp2
  rw [rounds_succ]
  go_wp2
  rw [rounds_succ]
  go_wp2_with (go_at_call 56; refine (hgr _).mono ?_; rintro e w2 ⟨v2, rfl, ho2, hb2⟩)
  have e0 := (hb2.cell (p := ⟨Bp, 0, none⟩) hB).trans c0
  have e1 := (hb2.cell (p := ⟨Bp, 1, none⟩) hB).trans d0
  refine wp_loop_rounds 3 ?_
  rw [rounds_succ]
  go_wp2_with (at_builtin; refine wpList_app _ is_bytes rfl (.tmp 31) (.tmp 32) rfl (m := []) rfl ho2 rfl (h1.below hb2) n1 (by simp; omega) hb2.size ?_; intro v3 w3 ho3 hg3; have hb3 := hb2.grown hg3 hb2.size (Ow.base_le (l := []) ho2); have f0 := (hb3.cell (p := ⟨Bp, 0, none⟩) hB).trans c0; have f1 := (hb3.cell (p := ⟨Bp, 1, none⟩) hB).trans d0)
  rw [rounds_succ]
  go_wp2_with (at_builtin; refine wpList_app _ is_bytes rfl (.tmp 31) (.tmp 32) rfl rfl ho3 rfl (h2.below hb3) n2 (by simp; omega) hb3.size ?_; intro v4 w4 ho4 hg4; have hb4 := hb3.grown hg4 hb3.size ho3.base_le)
  rw [rounds_succ]
  go_wp2
  go_ret
  exact ⟨_, rfl, by simpa using ho4, hb4⟩
end Go.Proofs.Ytcmonalnhdodmaa.Cat
