/-
  The reference of layer 19: a packer by value; Right, New, Left, Ready.
-/
import Derived.Test.YtjjjlgaidklokaaPkrW0
import Derived.Test.YtjjjlgaidklokaaLstD
import Derived.Test.YtjjjlgaidklokaaLater
namespace Go.Proofs.Ytjjjlgaidklokaa.Pkr
open Go.RowKit Go.Proofs.Ytjjjlgaidklokaa.Lst
open Pac (bel_new Cel.later)

/-- a struct of five cells stored whole over another -/
def put5 (w : World) (g : Nat) (v0 v1 v2 v3 v4 : Value) : World :=
  ((((w.setCell ⟨g, 0, none⟩ v0).setCell ⟨g, 1, none⟩ v1).setCell ⟨g, 2, none⟩ v2).setCell ⟨g, 3, none⟩ v3).setCell ⟨g, 4, none⟩ v4
theorem put5_cel {w : World} {g : Nat} {t : TypeId} {x0 x1 x2 x3 x4 : Value} (h : Cel w g t #[x0, x1, x2, x3, x4]) (v0 v1 v2 v3 v4 : Value) : Cel (put5 w g v0 v1 v2 v3 v4) g t #[v0, v1, v2, v3, v4] := by
  unfold put5
  have h0 : Cel _ g t #[v0, x1, x2, x3, x4] := h.put 0 v0
  have h1 : Cel _ g t #[v0, v1, x2, x3, x4] := h0.put 1 v1
  have h2 : Cel _ g t #[v0, v1, v2, x3, x4] := h1.put 2 v2
  have h3 : Cel _ g t #[v0, v1, v2, v3, x4] := h2.put 3 v3
  exact h3.put 4 v4
theorem put5_only (w : World) (g : Nat) (v0 v1 v2 v3 v4 : Value) : Only [g] w (put5 w g v0 v1 v2 v3 v4) := by
  unfold put5
  exact set_then (set_then (set_then (set_then (set_only _ g 0 _) 1 _) 2 _) 3 _) 4 _
theorem Cel_at {w : World} {k : Nat} {t : TypeId} {cs : Array Value} (h : w.heap.size = k) : Cel (w.alloc (.cells cs t)) k t cs := by subst h; exact Cel.new _ _ _

set_option maxHeartbeats 400000 in
theorem xright_any (z : Int) (w : World) :
    Calls Try.prog 8 #[.int .i64 z] w fun e w' => e = .returned (.bool (decide (1 ≤ z ∧ z ≤ 1012))) ∧ w = w' := by
  rw [Bool.decide_and]
  by_cases h1 : 1 ≤ z
  · have t1 := decide_eq_true h1
    by_cases h2 : z ≤ 1012
    · have t2 := decide_eq_true h2
      rw [t1, t2]
      clear h1 h2
      go_enter Try.func8, Try.ntmps8
      go_wp2
      go_ret
      exact ⟨rfl, rfl⟩
    · have t2 := decide_eq_false h2
      rw [t1, t2]
      clear h1 h2
      go_enter Try.func8, Try.ntmps8
      go_wp2
      go_ret
      exact ⟨rfl, rfl⟩
  · have t1 := decide_eq_false h1
    rw [t1]
    clear h1
    go_enter Try.func8, Try.ntmps8
    go_wp2
    go_ret
    exact ⟨rfl, rfl⟩

theorem xnew19_results {tmps : Array Value} {W : World} {g : Nat} {u0 u1 u2 u3 u4 : Value} (h2 : tmps.getD 4 undef = .pointer (some ⟨g, 0, none⟩))
    (hC : Cel W g 36 #[u0, u1, u2, u3, u4]) :
    (results Try.f16 tmps).run Try.prog W = .ok (.agg #[u0, u1, u2, u3, u4]) W := by
  have c0 := hC.cell 0
  have c1 := hC.cell 1
  have c2 := hC.cell 2
  have c3 := hC.cell 3
  have c4 := hC.cell 4
  simp at c0 c1 c2 c3 c4
  simp only [Array.getD_eq_getD_getElem?] at h2
  simp [results, Try.results16, go_sem, h2, c0, c1, c2, c3, c4]
set_option maxHeartbeats 400000 in
theorem xnew19_any (Z r : Int) (w : World) :
    Calls Try.prog 16 #[.int .i64 Z, .int .i64 r] w fun e w' => e = .returned (.agg #[.int .i64 Z, .int .i64 (rm r : Int), .int .i64 0, .slice none 0 0, .int .i64 0]) ∧ Below w.heap.size w w' := by
  have hm := rm_eq r
  obtain ⟨N, hN⟩ : ∃ N, ((rm r : Nat) : Int) = N := ⟨_, rfl⟩
  rw [hN] at hm ⊢
  obtain ⟨M, hM⟩ : ∃ M, M = max r 0 := ⟨_, rfl⟩
  rw [← hM] at hm
  have hm0 : max r 0 = M := hM.symm
  have hm1 : (if r < 0 then (0 : Int) else r) = M := by split <;> omega
  have hm2 : (if M < 1048576 then M else (1048576 : Int)) = N := by split <;> omega
  have hm3 : (if (1048576 : Int) < M then (1048576 : Int) else M) = N := by split <;> omega
  clear hN hM
  go_enter Try.func16, Try.ntmps16
  go_wp2
  exact bodyPost_ret (xnew19_results rfl (Cel.new _ _ _)) rfl ⟨rfl, bel_new _ _⟩

theorem flat_take {ls : List (List Byte)} {k : Nat} {l : List Byte} (h : ls[k]? = some l) : (ls.take (k + 1)).flatten = (ls.take k).flatten ++ l := by
  rw [List.take_add_one, h]; simp
theorem flat_take_le (ls : List (List Byte)) (k : Nat) : (ls.take k).flatten.length ≤ ls.flatten.length := by
  conv => rhs; rw [← List.take_append_drop k ls]
  rw [List.flatten_append, List.length_append]; omega

set_option maxHeartbeats 1000000 in
theorem xleft_any {D : Nat → Prop} (Z R Re : Int) (A : Option Addr) (n c : Nat) (Lr : List (List Byte)) (Tk m : Nat) (w : World) (h : LD w D A n c Lr) (hb : Lr.flatten.length ≤ 3000000) (hm : Tk + m = Lr.flatten.length) :
    Calls Try.prog 20 #[.agg #[.int .i64 Z, .int .i64 R, .int .i64 Re, .slice A n c, .int .i64 (Tk : Int)]] w fun e w' => e = .returned (.int .i64 (m : Int)) ∧ Below w.heap.size w w' := by
  have b1 := bel_new w (.cells #[.int .i64 Z, .int .i64 R, .int .i64 Re, .slice A n c, .int .i64 (Tk : Int)] 36)
  have hC := Cel.new w 36 #[.int .i64 Z, .int .i64 R, .int .i64 Re, .slice A n c, .int .i64 (Tk : Int)]
  have c3 := hC.cell 3
  have c4 := hC.cell 4
  simp at c3 c4
  have hln := h.len
  have hnm : n ≤ 9223372036854775807 := by have := h.le; have := h.max; unfold maxLen at this; omega
  have HB := Lib.hid b1
  clear hC
  go_enter Try.func20, Try.ntmps20
  go_wp2_with fail
  go_loop [3, 4] (fun nv iv => ∃ k : Nat, iv = .int .i64 (k : Int) ∧ k ≤ n ∧ nv = .int .i64 (((Lr.take k).flatten.length : Nat) : Int)) (fun _ iv => n - (intOf iv).toNat)
  case atStart => exact ⟨0, rfl, Nat.zero_le _, rfl⟩
  case round =>
    obtain ⟨k, rfl, hk, rfl⟩ := hrel
    by_cases hkn : k < n
    · obtain ⟨l, hl⟩ : ∃ l, Lr[k]? = some l := ⟨_, List.getElem?_eq_getElem (by omega)⟩
      obtain ⟨b, off, a, kc, rfl, hbl, _, hcell, _⟩ := h.at_ hl
      have e1 := (HB.out.cell (p := ⟨b, off + k, none⟩) hbl).trans hcell
      have hf := congrArg List.length (flat_take hl)
      rw [List.length_append] at hf
      have hle := flat_take_le Lr (k + 1)
      obtain ⟨X, hX⟩ : ∃ X, (Lr.take k).flatten.length = X := ⟨_, rfl⟩
      obtain ⟨Y, hY⟩ : ∃ Y, (Lr.take (k + 1)).flatten.length = Y := ⟨_, rfl⟩
      obtain ⟨N, hN⟩ : ∃ N, l.length = N := ⟨_, rfl⟩
      rw [hX, hY, hN] at hf
      rw [hY] at hle
      rw [hX]
      rw [hN] at e1
      have hs : (X : Int) + (N : Int) = (Y : Int) := by omega
      have hw : wrap64 (Y : Int) = (Y : Int) := by unfold wrap64; omega
      have HY := Lib.hid hY
      clear hf hle hX hY hN hl hcell
      go_wp2
      go_round
      case rel => exact ⟨k + 1, by go_num, hkn, by rw [HY.out, hw]⟩
      case measure => simp [intOf]; omega
    · obtain rfl : k = n := by omega
      rw [List.take_of_length_le (by omega)]
      obtain ⟨Y, hY⟩ : ∃ Y, Lr.flatten.length = Y := ⟨_, rfl⟩
      rw [hY] at hm hb ⊢
      have hs : (Y : Int) - (Tk : Int) = (m : Int) := by omega
      have hw : wrap64 (m : Int) = (m : Int) := by unfold wrap64; omega
      clear hm hY
      go_wp2
      go_ret
      exact ⟨rfl, HB.out⟩

set_option maxHeartbeats 1000000 in
theorem xready_any {D : Nat → Prop} (Z Re : Nat) (R : Int) (A : Option Addr) (n c : Nat) (Lr : List (List Byte)) (Tk m : Nat) (w : World) (h : LD w D A n c Lr) (hb : Lr.flatten.length ≤ 3000000) (hm : Tk + m = Lr.flatten.length) (hR : Re ≤ 6) :
    Calls Try.prog 21 #[.agg #[.int .i64 (Z : Int), .int .i64 R, .int .i64 (Re : Int), .slice A n c, .int .i64 (Tk : Int)]] w fun e w' => e = .returned (.bool (decide (0 < m) && decide (Z ≤ Re + m))) ∧ Below w.heap.size w w' := by
  have b1 := bel_new w (.cells #[.int .i64 (Z : Int), .int .i64 R, .int .i64 (Re : Int), .slice A n c, .int .i64 (Tk : Int)] 36)
  have hC := Cel.new w 36 #[.int .i64 (Z : Int), .int .i64 R, .int .i64 (Re : Int), .slice A n c, .int .i64 (Tk : Int)]
  obtain ⟨w1, hw1⟩ : ∃ w1, w1 = w.alloc (.cells #[.int .i64 (Z : Int), .int .i64 R, .int .i64 (Re : Int), .slice A n c, .int .i64 (Tk : Int)] 36) := ⟨_, rfl⟩
  rw [← hw1] at b1 hC
  have c0 := hC.cell 0
  have c1 := hC.cell 1
  have c2 := hC.cell 2
  have c3 := hC.cell 3
  have c4 := hC.cell 4
  simp at c0 c1 c2 c3 c4
  have hg := hC.lt
  have d0 := fun p : Later w1 => later_cell c0 hg p
  have d1 := fun p : Later w1 => later_cell c1 hg p
  have d2 := fun p : Later w1 => later_cell c2 hg p
  have d3 := fun p : Later w1 => later_cell c3 hg p
  have d4 := fun p : Later w1 => later_cell c4 hg p
  have hl := fun p : Later w1 => xleft_any (Z : Int) R (Re : Int) A n c Lr Tk m p.W ((h.below b1).below p.h) hb hm
  obtain ⟨M, hM⟩ : ∃ M, Re + m = M := ⟨_, rfl⟩
  have hM' : (Re : Int) + (m : Int) = (M : Int) := by omega
  have hw64 : wrap64 (M : Int) = (M : Int) := by unfold wrap64; omega
  rw [hM]
  have HB := Lib.hid b1
  clear h hb hm hC c0 c1 c2 c3 c4 b1
  by_cases hn : 0 < m
  · have t1 : decide ((0 : Int) < (m : Int)) = true := by simpa using hn
    have t1' : decide (0 < m) = true := by simpa using hn
    by_cases hz : Z ≤ M
    · have t2 : decide ((Z : Int) ≤ (M : Int)) = true := by simpa using hz
      have t2' : decide (Z ≤ M) = true := by simpa using hz
      rw [t1', t2']
      clear hz hn
      go_enter Try.func21, Try.ntmps21
      go_upto_region 1 with fail
      rw [← hw1]
      clear hw1
      refine wp_region_later (by kernel_rfl) (by kernel_rfl) ?_
      repeat (go_big_quiet_step ((go_at_call 20; exact later_of (hl _))))
      refine wpQuiet_nil ?_
      rintro _ ⟨⟨w7, b7⟩, rfl⟩
      go_wp2
      go_ret
      exact ⟨rfl, HB.out.trans (b7.mono HB.out.size)⟩
    · have t2 : decide ((Z : Int) ≤ (M : Int)) = false := by simpa using hz
      have t2' : decide (Z ≤ M) = false := by simpa using hz
      rw [t1', t2']
      clear hz hn
      go_enter Try.func21, Try.ntmps21
      go_upto_region 1 with fail
      rw [← hw1]
      clear hw1
      refine wp_region_later (by kernel_rfl) (by kernel_rfl) ?_
      repeat (go_big_quiet_step ((go_at_call 20; exact later_of (hl _))))
      refine wpQuiet_nil ?_
      rintro _ ⟨⟨w7, b7⟩, rfl⟩
      go_wp2
      go_ret
      exact ⟨rfl, HB.out.trans (b7.mono HB.out.size)⟩
  · have t1 : decide ((0 : Int) < (m : Int)) = false := by simpa using hn
    have t1' : decide (0 < m) = false := by simpa using hn
    rw [t1']
    clear hn
    go_enter Try.func21, Try.ntmps21
    go_upto_region 1 with fail
    rw [← hw1]
    clear hw1
    refine wp_region_later (by kernel_rfl) (by kernel_rfl) ?_
    repeat (go_big_quiet_step ((go_at_call 20; exact later_of (hl _))))
    refine wpQuiet_nil ?_
    rintro _ ⟨⟨w7, b7⟩, rfl⟩
    go_wp2
    go_ret
    exact ⟨rfl, HB.out.trans (b7.mono HB.out.size)⟩
end Go.Proofs.Ytjjjlgaidklokaa.Pkr
