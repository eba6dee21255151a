/-
  slices.Grow, slices.Concat at two byte slices; package marker's Wrap.
-/
import Derived.Test.YtahpogmbkkpmdaaMarW2
import Derived.Test.YtahpogmbkkpmdaaLay2
import Derived.Lib.SlBytesConst
namespace Go.Proofs.Ytahpogmbkkpmdaa.Mar
open Go.RowKit Go.Proofs.Ytahpogmbkkpmdaa.Row Lst
open Scr (app app_len apply_any)

theorem zeroCells_size (z : Array Value) (n : Nat) : (Builtin.zeroCells z n).size = n * z.size := by simp [Builtin.zeroCells]
/-- slices.Grow of the nil slice -/
theorem grow_any (n : Nat) (w : World) (hn : 0 < n) (hl : n ≤ 1000000000001) :
    Calls Try.prog 26 #[.slice none 0 0, .int .i64 n] w fun e w' => ∃ v, e = .returned v ∧ Ow w' w.heap.size 5 v [] ∧ Below w.heap.size w w' := by
  obtain ⟨i, hi, hz, h1, h2⟩ := info_parts info_u8
  have hcon := Any8.slices_Grow_grow growB i (.int .u8 0) hi hz (by omega) none 0 0 n [] w (by omega) (by omega) (by rw [h2]; omega) (by omega) (by simp) (fun _ => rfl) (fun a h => nomatch h)
  change Calls Try.prog 26 _ _ _ at hcon
  refine hcon.mono ?_
  rintro e w' ⟨rfl, rfl⟩
  have hG := grownCap_ge w (0 + n) 0 5
  have hG2 := grownCap_le_maxLen w (0 + n) 0 5 (by unfold maxLen; omega)
  have hgr : grownCap w (0 + n) 0 (growB_ren.t 25) = grownCap w (0 + n) 0 5 := rfl
  rw [hgr]
  simp only [Nat.zero_add] at hG hG2 ⊢
  refine ⟨_, rfl, ⟨rfl, .inr ⟨w.heap.size, _, _, rfl, Nat.le_refl _, heap_alloc_new _ _, Nat.zero_le _, hG2, ?_, rfl⟩⟩, (Below.refl w.heap.size w).drew.alloc (Nat.le_refl _) _⟩
  have hzc : ((Value.int .u8 0).cells).size = 1 := rfl
  simp only [Array.size_append, zeroCells_size, hzc]
  simp
  omega

set_option maxHeartbeats 2000000 in
theorem concat_any (l1 l2 : List Byte) (w : World) (A1 A2 : Option Addr) (c1 c2 Bp : Nat) (h1 : Bs w w.heap.size A1 l1) (n1 : A1 = none → c1 = 0) (h2 : Bs w w.heap.size A2 l2) (n2 : A2 = none → c2 = 0) (hl1 : l1.length ≤ 100000000000) (hl2 : l2.length ≤ 100000000000) (h0 : 0 < l1.length)
    (hp : Cel w Bp 22 #[.slice A1 l1.length c1, .slice A2 l2.length c2]) :
    Calls Try.prog 17 #[.slice (some ⟨Bp, 0, none⟩) 2 2] w fun e w' => ∃ v, e = .returned v ∧ Ow w' w.heap.size 5 v (l1 ++ l2) ∧ Below w.heap.size w w' := by
  have hB := hp.lt
  have c0 : w.cell? ⟨Bp, 0, none⟩ = some (.slice A1 l1.length c1) := hp.cell 0
  have d0 : w.cell? ⟨Bp, 1, none⟩ = some (.slice A2 l2.length c2) := hp.cell 1
  have t1 : decide ((l1.length : Int) < 0) = false := by simp
  have t2 : decide ((l1.length : Int) + (l2.length : Int) < 0) = false := by simp; omega
  have hgr := fun W => grow_any (l1.length + l2.length) W (by omega) (by omega)
  simp only [Int.natCast_add] at hgr
  clear hp
  go_enter Try.func17, Try.ntmps17
  go_wp2
  refine wp_loop_rounds 3 ?_
  rw [rounds_succ]
  go_wp2
  rw [rounds_succ]
  go_wp2
  rw [rounds_succ]
  go_wp2_with (go_at_call 26; refine (hgr _).mono ?_; rintro e w2 ⟨v2, rfl, ho2, hb2⟩)
  have e0 := (hb2.cell (p := ⟨Bp, 0, none⟩) hB).trans c0
  have e1 := (hb2.cell (p := ⟨Bp, 1, none⟩) hB).trans d0
  refine wp_loop_rounds 3 ?_
  rw [rounds_succ]
  go_wp2_with (at_builtin; refine wpList_app _ is_bytes rfl (.tmp 31) (.tmp 32) rfl (m := []) rfl ho2 rfl (h1.below hb2) n1 (by simp; omega) hb2.size ?_; intro v3 w3 ho3 hg3; have hb3 := hb2.grown hg3 hb2.size (Ow.base_le (l := []) ho2); have f0 := (hb3.cell (p := ⟨Bp, 0, none⟩) hB).trans c0; have f1 := (hb3.cell (p := ⟨Bp, 1, none⟩) hB).trans d0)
  rw [rounds_succ]
  go_wp2_with (at_builtin; refine wpList_app _ is_bytes rfl (.tmp 31) (.tmp 32) rfl rfl ho3 rfl (h2.below hb3) n2 (by simp; omega) hb3.size ?_; intro v4 w4 ho4 hg4; have hb4 := hb3.grown hg4 hb3.size ho3.base_le)
  rw [rounds_succ]
  go_wp2
  go_ret
  exact ⟨_, rfl, by simpa using ho4, hb4⟩

set_option maxHeartbeats 2000000 in
theorem wrap_any (a : Option Addr) (l : List Byte) (n c : Nat) (w : World) (hl : Hid (l.length = n)) (hb : Bs w w.heap.size a l) (hm : n ≤ 10000000000) :
    Calls Try.prog 7 #[.slice a n c] w fun e w' => ∃ v, e = .returned v ∧ Ow w' w.heap.size 5 v (pat ++ app l) ∧ Below w.heap.size w w' := by
  obtain ⟨w1, hw1⟩ : ∃ w1, w1 = w.alloc (.cells #[.int .u8 26, .int .u8 207, .int .u8 252, .int .u8 29] 5 (4, 5)) := ⟨_, rfl⟩
  have b1 : Below w.heap.size w w1 := by rw [hw1]; exact (Below.refl _ w).alloc (Nat.le_refl _) _
  have hp1 : Bs w1 w1.heap.size (some ⟨w.heap.size, 0, none⟩) pat := by rw [hw1]; exact Bs_new _ _ _ _ rfl _ (by simp) _
  have hap := apply_any a l n c w1 hl ((hb.below b1).more b1.size) (by omega)
  have HE : Hid ((app l).length = n) := Lib.hid (by rw [app_len, hl.out])
  have kc := fun (w : World) (C : Array Value) (n c : Nat) => Lib.run_convert_bytes_const (P := Try.prog) w 22 5 C n c Try.underlying22 Try.underlying5
  go_enter Try.func7, Try.ntmps7
  go_wp2_with fail
  rw [← hw1]
  refine hap.mono ?_
  rintro e w2 ⟨v2, rfl, o2, b2⟩
  have HE' := HE.out
  subst HE'
  obtain ⟨A2, k2, rfl, hA2, hn2, _⟩ := o2.reads
  have b02 := b1.trans (b2.mono b1.size)
  obtain ⟨w3, hw3⟩ : ∃ w3, w3 = w2.alloc (.cells #[.slice (some ⟨w.heap.size, 0, none⟩) 4 4, .slice A2 (app l).length k2] 22) := ⟨_, rfl⟩
  have b3 : Below w2.heap.size w2 w3 := by rw [hw3]; exact (Below.refl _ w2).alloc (Nat.le_refl _) _
  have hp3 : Cel w3 w2.heap.size 22 #[.slice (some ⟨w.heap.size, 0, none⟩) pat.length 4, .slice A2 (app l).length k2] := by rw [hw3]; exact Cel.new _ _ _
  have hcc := concat_any pat (app l) w3 (some ⟨w.heap.size, 0, none⟩) A2 4 k2 w2.heap.size (((hp1.below b2).more b2.size).below b3 |>.more b3.size) (fun h => nomatch h) ((hA2.below b3).more b3.size) hn2 (by decide) (by omega) (by decide) hp3
  clear hap kc
  go_wp2_with fail
  rw [← hw3]
  refine hcc.mono ?_
  rintro e w4 ⟨v4, rfl, o4, b4⟩
  have b03 := b02.trans (b3.mono b02.size)
  obtain ⟨A4, k4, rfl, _⟩ := o4.reads_len (n := pat.length + (app l).length) List.length_append
  go_wp2_with fail
  go_ret
  exact ⟨_, rfl, o4.more b03.size, b03.trans (b4.mono b03.size)⟩
end Go.Proofs.Ytahpogmbkkpmdaa.Mar
