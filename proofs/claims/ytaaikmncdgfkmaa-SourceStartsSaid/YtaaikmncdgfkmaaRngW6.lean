/-
  slices.Grow, slices.Concat at two slices of ranges; Add.
-/
import Derived.Test.YtaaikmncdgfkmaaRngW2
import Derived.Test.YtaaikmncdgfkmaaRngR0
import Derived.Test.YtaaikmncdgfkmaaLay2
namespace Go.Proofs.Ytaaikmncdgfkmaa.Rng
open Go.RowKit

theorem size_zeroCells (z : Array Value) (n : Nat) : (Builtin.zeroCells z n).size = n * z.size := by simp [Builtin.zeroCells]

/-- slices.Grow of the nil slice -/
theorem grow_any (n : Nat) (w : World) (hn : 0 < n) (hl : n ≤ 1000000000001) :
    Calls Try.prog 68 #[.slice none 0 0, .int .i64 n] w fun e w' => ∃ v, e = .returned v ∧ Os w' w.heap.size 62 v [] ∧ Below w.heap.size w w' := by
  obtain ⟨i, hi, hz, h1, h2⟩ := info_parts info_range
  have hcon := Any8.slices_Grow_grow growR i (.agg #[I 0, I 0]) hi hz (by omega) none 0 0 n [] w (by omega) (by omega) (by rw [h2]; omega) (by omega) (by simp) (fun _ => rfl) (fun a h => nomatch h)
  change Calls Try.prog 68 _ _ _ at hcon
  refine hcon.mono ?_
  rintro e w' ⟨rfl, rfl⟩
  have hG := grownCap_ge w (0 + n) 0 62
  have hG2 := grownCap_le_maxLen w (0 + n) 0 62 (by unfold maxLen; omega)
  have hgr : grownCap w (0 + n) 0 (growR_ren.t 25) = grownCap w (0 + n) 0 62 := rfl
  rw [hgr]
  simp only [Nat.zero_add] at hG hG2 ⊢
  refine ⟨_, rfl, ⟨rfl, .inr ⟨w.heap.size, _, _, rfl, Nat.le_refl _, heap_alloc_new _ _, Nat.zero_le _, hG2, ?_, rfl⟩⟩, (bel_drew (Below.refl _ w)).alloc (Nat.le_refl _) _⟩
  have hzc : ((Value.agg #[I 0, I 0]).cells).size = 2 := rfl
  simp only [Array.size_append, size_zeroCells, hzc]
  simp
  omega

theorem Rs_cel {w : World} {B g : Nat} {e : TypeId} {x y : Int} (h : Cel w g e #[I x, I y]) (hB : g < B) : Rs w B (some ⟨g, 0, none⟩) [(x, y)] := fun _ => by
  refine ⟨g, 0, rfl, hB, fun i z hz => ?_⟩
  rcases i with _ | i
  · simp at hz; subst hz; exact ⟨h.cell 0, h.cell 1⟩
  · simp at hz
set_option maxHeartbeats 2000000 in
theorem concat_any (l : List R) (w : World) (x y : Int) (A : Option Addr) (c Bp Br : Nat) (h : Rs w w.heap.size A l) (hn : A = none → c = 0) (hl : l.length ≤ 1000000000000)
    (hp : Cel w Bp 36 #[.slice A l.length c, .slice (some ⟨Br, 0, none⟩) 1 1]) (hr : Cel w Br 62 #[I x, I y]) :
    Calls Try.prog 63 #[.slice (some ⟨Bp, 0, none⟩) 2 2] w fun e w' => ∃ v, e = .returned v ∧ Os w' w.heap.size 62 v (l ++ [(x, y)]) ∧ Below w.heap.size w w' := by
  have hB := hp.lt
  have hBr := hr.lt
  have c0 : w.cell? ⟨Bp, 0, none⟩ = some (.slice A l.length c) := hp.cell 0
  have c1 : w.cell? ⟨Bp, 1, none⟩ = some (.slice (some ⟨Br, 0, none⟩) 1 1) := hp.cell 1
  obtain ⟨n, hn0⟩ : ∃ n, n = l.length := ⟨_, rfl⟩
  have hw1 : wrap64 ((n : Int) + 1) = ((n + 1 : Nat) : Int) := by unfold wrap64; omega
  have hwi : IntKind.i64.wrap ((n : Int) + 1) = ((n + 1 : Nat) : Int) := by rw [IntKind.wrap_i64]; omega
  have hneg : decide ((n : Int) < 0) = false := by simp
  have hneg2 : decide (((n + 1 : Nat) : Int) < 0) = false := by simp; omega
  have hlen : l.length = n := hn0.symm
  rw [hlen] at c0 hl
  have HL := Lib.hid hlen
  clear hlen hn0
  go_enter Try.func63, Try.ntmps63
  go_wp2
  refine wp_loop_rounds 3 ?_
  rw [rounds_succ]
  go_wp2
  rw [rounds_succ]
  go_wp2
  rw [rounds_succ]
  go_wp2_with (go_at_call 68; refine (grow_any (n + 1) _ (by omega) (by omega)).mono ?_; rintro e w2 ⟨v2, rfl, ho2, hb2⟩)
  have d0 := (hb2.cell (p := ⟨Bp, 0, none⟩) hB).trans c0
  have d1 := (hb2.cell (p := ⟨Bp, 1, none⟩) hB).trans c1
  refine wp_loop_rounds 3 ?_
  rw [rounds_succ]
  go_wp2_with (at_builtin; refine wpList_rapp_n _ is_ranges rfl (.tmp 31) (.tmp 32) rfl rfl ho2 HL.out rfl (h.below hb2) hn (by rw [HL.out]; simp; omega) hb2.size ?_; intro v3 w3 ho3 hg3 hv3; have hb3 := hb2.grown hg3 hb2.size ho2.base_le; have f0 := (hb3.cell (p := ⟨Bp, 0, none⟩) hB).trans c0; have f1 := (hb3.cell (p := ⟨Bp, 1, none⟩) hB).trans c1)
  rw [rounds_succ]
  have hr3 : Cel w3 Br 62 #[I x, I y] := hr.only (Only.of_below (S := []) hb3) (by simp)
  go_wp2_with (at_builtin; refine wpList_rapp_n _ is_ranges rfl (.tmp 31) (.tmp 32) rfl rfl ho3 (l := [(x, y)]) (n := 1) rfl rfl (Rs_cel hr3 hBr) (by simp) (by rw [List.length_append, HL.out]; simp; omega) hb3.size ?_; intro v4 w4 ho4 hg4 hv4; have hb4 := hb3.grown hg4 hb3.size ho3.base_le)
  rw [rounds_succ]
  go_wp2
  go_ret
  exact ⟨_, rfl, by simpa using ho4, hb4⟩

set_option maxHeartbeats 2000000 in
theorem add_any (l : List R) (x y : Int) (w : World) (A : Option Addr) (c : Nat) (h : Rs w w.heap.size A l) (hn : A = none → c = 0) (hl : l.length ≤ 100000000000) :
    Calls Try.prog 52 #[.slice A l.length c, .agg #[I x, I y]] w fun e w' => ∃ v, e = .returned v ∧ Os w' w.heap.size 62 v (add l (x, y)) ∧ Below w.heap.size w w' := by
  obtain ⟨w3, hw3⟩ : ∃ w3, w3 = ((w.alloc (.cells #[I x, I y] 62)).alloc (.cells #[I x, I y] 62)).alloc (.cells #[.slice A l.length c, .slice (some ⟨w.heap.size + 1, 0, none⟩) 1 1] 36) := ⟨_, rfl⟩
  have hb3 : Below w.heap.size w w3 := by rw [hw3]; exact (((Below.refl _ w).alloc (Nat.le_refl _) _).alloc (by simp) _).alloc (by simp; omega) _
  have hs3 : w3.heap.size = w.heap.size + 3 := by rw [hw3]; simp
  have hr : Cel w3 (w.heap.size + 1) 62 #[I x, I y] := by
    rw [hw3]
    have := Cel.new (w.alloc (.cells #[I x, I y] 62)) 62 #[I x, I y]
    rw [show (w.alloc (.cells #[I x, I y] 62)).heap.size = w.heap.size + 1 by simp] at this
    exact this.only ((Only.refl [] _).alloc _) (by simp)
  have hp : Cel w3 (w.heap.size + 1 + 1) 36 #[.slice A l.length c, .slice (some ⟨w.heap.size + 1, 0, none⟩) 1 1] := by
    rw [hw3]
    have := Cel.new ((w.alloc (.cells #[I x, I y] 62)).alloc (.cells #[I x, I y] 62)) 36 #[.slice A l.length c, .slice (some ⟨w.heap.size + 1, 0, none⟩) 1 1]
    rw [show ((w.alloc (.cells #[I x, I y] 62)).alloc (.cells #[I x, I y] 62)).heap.size = w.heap.size + 1 + 1 by simp] at this
    exact this
  have hcon := concat_any l w3 x y A c (w.heap.size + 1 + 1) (w.heap.size + 1) ((h.below hb3).more hb3.size) hn (by omega) hp hr
  obtain ⟨S, hS⟩ : ∃ S, S = l ++ [(x, y)] := ⟨_, rfl⟩
  have hSl : S.length ≤ 1000000000000 := by rw [hS]; simp; omega
  have hA := nrm_snoc l (x, y)
  rw [← hS] at hcon hA
  rw [← hA]
  clear hS hA hr hp h hn
  go_enter Try.func52, Try.ntmps52
  go_wp2_with fail
  rw [← hw3]
  clear hw3
  refine hcon.mono ?_
  rintro e w4 ⟨v4, rfl, ho4, hb4⟩
  obtain ⟨A4, c4, rfl, hr4, _, _, _⟩ := ho4.reads
  have hb5 := hb3.trans (hb4.mono (by omega))
  have hs4 := hb5.size
  clear hcon ho4
  go_wp2_with fail
  refine (normal_any S w4 A4 c4 hr4 (by omega)).mono ?_
  rintro e w6 ⟨v6, rfl, ho6, hb6⟩
  go_wp2_with fail
  go_ret
  exact ⟨_, rfl, ho6.more hs4, hb5.trans (hb6.mono hs4)⟩
end Go.Proofs.Ytaaikmncdgfkmaa.Rng
