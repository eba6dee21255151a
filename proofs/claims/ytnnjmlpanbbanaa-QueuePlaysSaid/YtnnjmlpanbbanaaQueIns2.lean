/-
  slices.Insert of one entry ahead of another: no room: a new row. Both arms together.
-/
import Derived.Lib.AppendZerosOnto
import Derived.Test.YtnnjmlpanbbanaaQueIns
namespace Go.Proofs.Ytnnjmlpanbbanaa.Rng.Que
open Go.RowKit Go.Shelf

set_option maxHeartbeats 4000000 in
set_option maxRecDepth 100000 in
theorem sinsert_grow (FA FB : List R) (x : R) (w : World) (g c vb : Nat) (i : Int) (hi : i = FA.length) (hR : Rw w 61 g c (FA ++ FB)) (hne : 0 < FB.length)
    (hv : Cel w vb 61 #[I x.1, I x.2]) (hroom : c < (FA ++ FB).length + 1) (hl : (FA ++ FB).length ≤ 1000000) :
    Calls Try.prog 34 #[.slice (some ⟨g, 0, none⟩) (FA ++ FB).length c, I i, .slice (some ⟨vb, 0, none⟩) 1 1] w fun e w' =>
      ∃ c', e = .returned (.slice (some ⟨w.heap.size, 0, none⟩) (FA ++ x :: FB).length c') ∧ Rw w' 61 w.heap.size c' (FA ++ x :: FB) ∧ Only [] w w' := by
  obtain ⟨sp, hg, hs, hm⟩ := hR
  obtain ⟨k, hk⟩ : ∃ k, k = FA.length := ⟨_, rfl⟩
  obtain ⟨m, hmm⟩ : ∃ m, m = FB.length := ⟨_, rfl⟩
  have hn : (FA ++ FB).length = k + m := by simp; omega
  have hAB : (FA ++ x :: FB).length = k + m + 1 := by simp; omega
  rw [hn] at hs hl hroom ⊢
  rw [← hmm] at hne
  rw [hAB]
  rw [← hk] at hi
  subst hi
  obtain ⟨i0, hi0, hz0, hzs, hzb⟩ := info_parts info_entry
  have hgl := hg.lt
  have hvl := hv.lt
  have hlA : (flat FA).length = k * 2 := by rw [flat_length, hk]
  have hlB : (flat FB).length = m * 2 := by rw [flat_length, hmm]
  have hlE : (enc x).length = 2 := rfl
  have hX : flat (FA ++ FB) ++ sp = flat FA ++ (flat FB ++ sp) := by rw [flat_append]; simp
  rw [hX] at hg
  obtain ⟨X0, hX0⟩ : ∃ X0, X0 = flat FA ++ (flat FB ++ sp) := ⟨_, rfl⟩
  have hXA : ∀ j u, (flat FA)[j]? = some u → X0[j]? = some u := fun j u hu => by
    have hjl := (List.getElem?_eq_some_iff.1 hu).1
    rw [hX0, List.getElem?_append_left hjl, hu]
  have hXB : ∀ j u, (flat FB)[j]? = some u → X0[k * 2 + j]? = some u := fun j u hu => by
    have hjl := (List.getElem?_eq_some_iff.1 hu).1
    rw [hX0, List.getElem?_append_right (by rw [hlA]; omega), List.getElem?_append_left (by rw [hlA]; omega), ← hu]
    congr 1
    rw [hlA]; omega
  rw [← hX0] at hg
  have hkk : (k : Int) + (m : Int) + 1 - (k : Int) = ((m + 1 : Nat) : Int) := by omega
  have hold : (Builtin.firstCells i0.size k (.slice (some ⟨g, 0, none⟩) k c)).run Try.prog w.drew = .ok (flat FA).toArray w.drew := by
    rw [hzs]
    exact run_firstCells_some w.drew 2 k ⟨g, 0, none⟩ k c (flat FA) hlA (fun j u hu => by
      rw [Addr.add_lit, Nat.zero_add]
      have := hg.cell j
      rw [List.getElem?_toArray, hXA j u hu] at this
      exact this)
  obtain ⟨G, hG⟩ : ∃ G, G = grownCap w (k + (m + 1)) c 61 := ⟨_, rfl⟩
  have hG1 : k + m + 1 ≤ G := by rw [hG]; exact grownCap_ge w (k + (m + 1)) c _
  have hG2 : G ≤ maxLen := by rw [hG]; exact grownCap_le_maxLen w _ _ _ (by unfold maxLen; omega)
  obtain ⟨Z, hZ⟩ : ∃ Z : List Value, Z = flat FA ++ (Builtin.zeroCells #[I 0, I 0] (m + 1) ++ Builtin.zeroCells #[I 0, I 0] (G - (k + (m + 1)))).toList := ⟨_, rfl⟩
  have hzl : (Builtin.zeroCells #[I 0, I 0] (m + 1) ++ Builtin.zeroCells #[I 0, I 0] (G - (k + (m + 1)))).toList.length = (G - k) * 2 := by
    simp [Builtin.zeroCells]; omega
  obtain ⟨W0, hW0⟩ : ∃ W0, W0 = w.drew.alloc (.cells Z.toArray 61) := ⟨_, rfl⟩
  have hrz : ∀ ty, (Builtin.append_ #[54, 3] ty #[.slice (some ⟨g, 0, none⟩) k c, .int .i64 ((m : Int) + 1)]).run Try.prog w = .ok (.slice (some ⟨w.heap.size, 0, none⟩) (k + m + 1) G) W0 := fun ty => by
    have h := Lib.run_append_grow_zeros w 54 3 ty 61 i0 _ .i64 .i64 Try.underlying54 Try.underlying3 hi0 hz0 (some ⟨g, 0, none⟩) k c (flat FA) hold (m + 1) (by omega) (by omega) (by omega) (by omega) (by rw [hzb]; omega) (by rw [hzb]; exact growslice_fits (by omega) (by omega))
    rw [hW0, hZ, hG]
    rw [show ((m : Int) + 1) = ((m + 1 : Nat) : Int) by omega]
    rw [show (flat FA ++ (Builtin.zeroCells #[I 0, I 0] (m + 1) ++ Builtin.zeroCells #[I 0, I 0] (grownCap w (k + (m + 1)) c 61 - (k + (m + 1)))).toList).toArray = (flat FA).toArray ++ Builtin.zeroCells #[I 0, I 0] (m + 1) ++ Builtin.zeroCells #[I 0, I 0] (grownCap w (k + (m + 1)) c 61 - (k + (m + 1))) by simp]
    exact h
  obtain ⟨sp', hY, hsp'⟩ := splice_grow (flat FA) (enc x) (flat FB) (Builtin.zeroCells #[I 0, I 0] (m + 1) ++ Builtin.zeroCells #[I 0, I 0] (G - (k + (m + 1)))).toList (by rw [hzl, hlE, hlB]; omega)
  rw [← hZ, hlA, hlE, show enc x ++ flat FB = flat (x :: FB) from rfl, ← flat_append, show k * 2 + 2 = (k + 1) * 2 by omega] at hY
  rw [hzl, hlE, hlB] at hsp'
  have hZl : Z.length = G * 2 := by rw [hZ, List.length_append, hzl, hlA]; omega
  have hb0 : Below w.heap.size w W0 := by rw [hW0]; exact ((Below.refl _ w).trans ⟨rfl, rfl, rfl, Nat.le_refl _, fun _ _ => rfl⟩ : Below w.heap.size w w.drew).alloc (Nat.le_refl _) _
  have hn0 : Cel W0 w.heap.size 61 Z.toArray := by rw [hW0]; exact Cel.new w.drew _ _
  have hv0 : Cel W0 vb 61 #[I x.1, I x.2] := (hb0.block vb hvl).trans hv
  have hg0 : Cel W0 g 61 X0.toArray := (hb0.block g hgl).trans hg
  obtain ⟨Y1, hY1⟩ : ∃ Y1, Y1 = splice Z (k * 2) (enc x) := ⟨_, rfl⟩
  rw [← hY1] at hY
  have hYl : Y1.length = Z.length := by rw [hY1]; exact length_splice _ _ _ (by rw [hlE]; omega)
  obtain ⟨W1, hW1⟩ : ∃ W1, W1 = W0.setRow w.heap.size Y1.toArray := ⟨_, rfl⟩
  have hn1 : Cel W1 w.heap.size 61 Y1.toArray := by rw [hW1]; exact Cel_row hn0 Y1
  have ho1 : Only [w.heap.size] W0 W1 := by rw [hW1]; exact Only_row (Only.refl _ W0) (.inl (by simp)) _
  have hg1 : Cel W1 g 61 X0.toArray := hg0.only ho1 (by simp; omega)
  have hsize : (Try.prog.info? 61).map (·.size) = some 2 := by rw [hi0]; simp [hzs]
  have hc1 : ∀ ty d', (Builtin.copy_ #[54, 54] ty #[.slice (some ⟨w.heap.size, k * 2, none⟩) (m + 1) d', .slice (some ⟨vb, 0, none⟩) 1 1]).run Try.prog W0 = .ok (goInt 1) W1 := fun ty d' => by
    rw [hW1, hY1]
    exact run_copyK W0 _ _ ty 61 2 w.heap.size (k * 2) (m + 1) d' ⟨vb, 0, none⟩ 1 1 1 Z 61 (enc x) Try.underlying54 hsize hn0 (by simp) rfl
      (fun j u hu => by
        rw [Addr.add_lit, Nat.zero_add, hv0.cell j]
        simpa [enc] using hu) (by rw [hlE]; omega) (fun u hu => by simp [enc] at hu; rcases hu with rfl | rfl <;> rfl)
  have hc2 : ∀ ty d' s', (Builtin.copy_ #[54, 54] ty #[.slice (some ⟨w.heap.size, (k + 1) * 2, none⟩) m d', .slice (some ⟨g, k * 2, none⟩) m s']).run Try.prog W1.drew = .ok (goInt m) (W1.drew.setRow w.heap.size (splice Y1 ((k + 1) * 2) (flat FB)).toArray) := fun ty d' s' =>
    run_copyK W1.drew _ _ ty 61 2 w.heap.size ((k + 1) * 2) m d' ⟨g, k * 2, none⟩ m s' m Y1 61 (flat FB) Try.underlying54 hsize (hn1.draws 1) (by simp) hlB
      (fun j u hu => by
        rw [Addr.add_lit]
        have := (hg1.draws 1).cell (k * 2 + j)
        rw [List.getElem?_toArray, hXB j u hu] at this
        exact this) (by rw [hlB]; omega) (flat_one _)
  have hfin : Rw (W1.drew.setRow w.heap.size (splice Y1 ((k + 1) * 2) (flat FB)).toArray) 61 w.heap.size G (FA ++ x :: FB) ∧ Only [] w (W1.drew.setRow w.heap.size (splice Y1 ((k + 1) * 2) (flat FB)).toArray) := by
    refine ⟨⟨sp', by rw [← hY]; exact Cel_row (hn1.draws 1) _, by rw [hAB]; omega, hG2⟩, ?_⟩
    exact Only_row (((Only.of_below (S := []) hb0).trans ho1 (by simp)).drew) (.inr (Nat.le_refl _)) _
  obtain ⟨W2, hW2⟩ : ∃ W2, W2 = W1.drew.setRow w.heap.size (splice Y1 ((k + 1) * 2) (flat FB)).toArray := ⟨_, rfl⟩
  rw [← hW2] at hc2 hfin
  have HF := Lib.hid hfin
  have hbig : G ≤ 9223372036854775807 := by simp only [maxLen] at hG2; omega
  have hbigc : c ≤ 9223372036854775807 := by omega
  have mixed : Try.prog.follows Departure.mixedOrders = true := by kernel_rfl
  have q1 : c = k + m := by omega
  clear hk hmm hfin hW2 hW1 hg1 hY hY1 hX0 hXA hXB hX hYl hs hlA hlB hlE hsp' hg hn hAB hm ho1 hv0 hv hsize hW0 hZ hzl hZl hn0 hn1 hg0 hb0 hold hG hG2 hi0 hz0 hzs hzb hroom
  subst q1
  have q3 : decide ((k : Int) = (k : Int) + (m : Int)) = false := by simp; omega
  have q4 : ¬ (m : Int) = 0 := by omega
  have q2 : ¬ m = 0 := by omega
  have q5 : G ≠ k := by omega
  have q6 : G ≠ k + 1 := by omega
  have q7 : k + m + 1 - (k + 1) = m := by omega
  have q8 : k + m + 1 - k = m + 1 := by omega
  have q9 : (k : Int) + 1 ≤ (k : Int) + (m : Int) + 1 := by omega
  have q10 : (k : Int) ≤ (k : Int) + (m : Int) := by omega
  have q11 : (k : Int) ≤ (k : Int) + (m : Int) + 1 := by omega
  have q12 : ((k : Int) + 1).toNat = k + 1 := by omega
  have q14 : (0 : Int) ≤ (k : Int) + 1 := by omega
  have q16 : (k : Int) + (m : Int) < (k : Int) + (m : Int) + 1 := by omega
  have q17 : IntKind.i64.wrap ((k : Int) + 1) = (k : Int) + 1 := by rw [IntKind.wrap_i64]; omega
  have q18 : (k : Int) + (m : Int) + 1 - (k : Int) = (m : Int) + 1 := by omega
  have q19 : k + m - k = m := by omega
  go_enter Try.func34, Try.ntmps34
  go_wp2_with (first
    | (at_builtin; refine wpList_appendK _ rfl _ _ 54 3 rfl _ _ rfl rfl (hrz _) ?_)
    | (at_builtin; refine wpList_copyK _ rfl _ _ 54 54 rfl _ _ rfl rfl (hc1 _ (G - k)) ?_))
  go_region_law (refine step_copyK _ rfl (.tmp 50) (.tmp 53) 54 54 rfl (.slice (some ⟨w.heap.size, (k + 1) * 2, none⟩) m (G - (k + 1))) (.slice (some ⟨g, k * 2, none⟩) m (k + m - k)) (by simp [Act.eval, Act.put]) (by simp [Act.eval, Act.put]) (hc2 _ _ _) ?_)
  go_wp2
  go_ret
  exact ⟨G, rfl, HF.out.1, HF.out.2⟩
end Go.Proofs.Ytnnjmlpanbbanaa.Rng.Que
