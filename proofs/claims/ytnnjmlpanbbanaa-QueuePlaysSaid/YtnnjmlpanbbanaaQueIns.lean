/-
  slices.Insert of one entry ahead of another.
-/
import Derived.Shelf.Abstract
import Derived.Shelf.RegionOpenPlain
import Derived.WalkKit
import Derived.Deep.LoopGhost
import Derived.Deep.RegionLaw
import Derived.Lib.Walk
import Derived.Lib.Overlaps
import Derived.Test.YtnnjmlpanbbanaaQueW0
namespace Go.Proofs.Ytnnjmlpanbbanaa.Rng.Que
open Go.RowKit Go.Shelf

theorem shape_cel {w : World} {g : Nat} {t : TypeId} {cs : Array Value} (h : Cel w g t cs) : w.shape? g = some (t, cs.size) := by unfold Cel at h; simp [World.shape?, h]

set_option maxHeartbeats 4000000 in
set_option maxRecDepth 100000 in
theorem sinsert_room (FA FB : List R) (x : R) (w : World) (g c vb : Nat) (i : Int) (hi : i = FA.length) (hR : Rw w 61 g c (FA ++ FB)) (hne : 0 < FB.length)
    (hv : Cel w vb 61 #[I x.1, I x.2]) (hvb : vb ≠ g) (hroom : (FA ++ FB).length + 1 ≤ c) (hl : (FA ++ FB).length ≤ 1000000) :
    Calls Try.prog 34 #[.slice (some ⟨g, 0, none⟩) (FA ++ FB).length c, I i, .slice (some ⟨vb, 0, none⟩) 1 1] w fun e w' =>
      e = .returned (.slice (some ⟨g, 0, none⟩) (FA ++ x :: FB).length c) ∧ Rw w' 61 g c (FA ++ x :: FB) ∧ Only [g] w w' := by
  obtain ⟨sp, hg, hs, hm⟩ := hR
  obtain ⟨k, hk⟩ : ∃ k, k = FA.length := ⟨_, rfl⟩
  obtain ⟨m, hmm⟩ : ∃ m, m = FB.length := ⟨_, rfl⟩
  have hn : (FA ++ FB).length = k + m := by simp; omega
  have hAB : (FA ++ x :: FB).length = k + m + 1 := by simp; omega
  rw [hn] at hs hl hroom ⊢
  rw [← hmm] at hne
  rw [hAB]
  rw [← hk] at hi
  subst hi
  have hlA : (flat FA).length = k * 2 := by rw [flat_length, hk]
  have hlB : (flat FB).length = m * 2 := by rw [flat_length, hmm]
  have hX : flat (FA ++ FB) ++ sp = flat FA ++ (flat FB ++ sp) := by rw [flat_append]; simp
  rw [hX] at hg
  obtain ⟨sp', hY, hsp'⟩ := splice_insert (flat FA) (enc x) (flat FB) sp (by simp [enc]; omega)
  have hlE : (enc x).length = 2 := rfl
  rw [hlA, hlE, show enc x ++ flat FB = flat (x :: FB) from rfl, ← flat_append, show k * 2 + 2 = (k + 1) * 2 by omega] at hY
  rw [hlE] at hsp'
  obtain ⟨X0, hX0⟩ : ∃ X0, X0 = flat FA ++ (flat FB ++ sp) := ⟨_, rfl⟩
  have hXl : X0.length = (k + m) * 2 + sp.length := by rw [hX0]; simp [hlA, hlB]; omega
  have hXB : ∀ j u, (flat FB)[j]? = some u → X0[k * 2 + j]? = some u := fun j u hu => by
    have hjl := (List.getElem?_eq_some_iff.1 hu).1
    rw [hX0, List.getElem?_append_right (by rw [hlA]; omega), List.getElem?_append_left (by rw [hlA]; omega), ← hu]
    congr 1
    rw [hlA]; omega
  rw [← hX0] at hg hY
  obtain ⟨Y1, hY1⟩ : ∃ Y1, Y1 = splice X0 ((k + 1) * 2) (flat FB) := ⟨_, rfl⟩
  rw [← hY1] at hY
  have hYl : Y1.length = X0.length := by rw [hY1]; exact length_splice _ _ _ (by rw [hlB]; omega)
  obtain ⟨W1, hW1⟩ : ∃ W1, W1 = w.drew.setRow g Y1.toArray := ⟨_, rfl⟩
  have hg1 : Cel W1 g 61 Y1.toArray := by rw [hW1]; exact Cel_row (hg.draws 1) Y1
  have ho1 : Only [g] w W1 := by rw [hW1]; exact Only_row ((Only.refl [g] w).drew) (.inl (by simp)) _
  have hv1 : Cel W1 vb 61 #[I x.1, I x.2] := hv.only ho1 (by simpa using hvb)
  have hsize : (Try.prog.info? 61).map (·.size) = some 2 := by obtain ⟨i, h0, h1, h2, h3⟩ := info_parts info_entry; rw [h0]; simp [h2]
  have hc1 : ∀ ty d' s', (Builtin.copy_ #[54, 54] ty #[.slice (some ⟨g, (k + 1) * 2, none⟩) m d', .slice (some ⟨g, k * 2, none⟩) (m + 1) s']).run Try.prog w.drew = .ok (goInt m) W1 := fun ty d' s' => by
    rw [hW1, hY1]
    exact run_copyK w.drew _ _ ty 61 2 g ((k + 1) * 2) m d' ⟨g, k * 2, none⟩ (m + 1) s' m X0 61 (flat FB) Try.underlying54 hsize (hg.draws 1) (by simp) hlB
      (fun j u hu => by
        rw [Addr.add_lit]
        have := hg.cell (k * 2 + j)
        rw [List.getElem?_toArray, hXB j u hu] at this
        exact this) (by rw [hlB]; omega) (flat_one _)
  have hc2 : ∀ ty d', (Builtin.copy_ #[54, 54] ty #[.slice (some ⟨g, k * 2, none⟩) (m + 1) d', .slice (some ⟨vb, 0, none⟩) 1 1]).run Try.prog W1 = .ok (goInt 1) (W1.setRow g (splice Y1 (k * 2) (enc x)).toArray) := fun ty d' =>
    run_copyK W1 _ _ ty 61 2 g (k * 2) (m + 1) d' ⟨vb, 0, none⟩ 1 1 1 Y1 61 (enc x) Try.underlying54 hsize hg1 (by simp) rfl
      (fun j u hu => by
        rw [Addr.add_lit, Nat.zero_add, hv1.cell j]
        simpa [enc] using hu) (by rw [hlE]; omega) (fun u hu => by simp [enc] at hu; rcases hu with rfl | rfl <;> rfl)
  have hov : ∀ lb cb, (callFunc 35 #[.slice (some ⟨vb, 0, none⟩) 1 1, .slice (some ⟨g, (k + 1) * 2, none⟩) lb cb]).run Try.prog w = .ok (.value (.bool false)) w := fun lb cb => by
    rw [run_callFunc_extern Try.func35 (by kernel_rfl) (by kernel_rfl) (by kernel_rfl) (e := Extern.SlicesOverlaps.overlaps #[54, 54] #[4]) (by kernel_rfl),
      Lib.run_overlaps_apart w 54 4 61 Try.underlying54 2 Try.sizeOf61 ⟨vb, 0, none⟩ ⟨g, (k + 1) * 2, none⟩ 1 1 lb cb hvb _ _ _ _ (shape_cel hv) (shape_cel hg) (by rw [List.size_toArray, hXl]; omega) (hv.free 0) (hv.free _)]
    rfl
  have hfin : Rw (W1.setRow g (splice Y1 (k * 2) (enc x)).toArray) 61 g c (FA ++ x :: FB) ∧ Only [g] w (W1.setRow g (splice Y1 (k * 2) (enc x)).toArray) :=
    ⟨⟨sp', by rw [← hY]; exact Cel_row hg1 _, by rw [hAB]; omega, hm⟩, Only_row ho1 (.inl (by simp)) _⟩
  obtain ⟨W2, hW2⟩ : ∃ W2, W2 = W1.setRow g (splice Y1 (k * 2) (enc x)).toArray := ⟨_, rfl⟩
  rw [← hW2] at hc2 hfin
  have HF := Lib.hid hfin
  have hbig : c ≤ 9223372036854775807 := by simp only [maxLen] at hm; omega
  have mixed : Try.prog.follows Departure.mixedOrders = true := by kernel_rfl
  clear hk hmm hfin hW2 hW1 hg1 hY hY1 hX0 hXl hXB hX hYl hs hlA hlB hlE hsp' hg hn hAB hm ho1 hv1 hv hsize
  have q0 : k ≤ c := by omega
  have q1 : c ≠ k := by omega
  have q2 : c ≠ k + 1 := by omega
  have q3 : decide ((k : Int) = (k : Int) + (m : Int)) = false := by simp; omega
  have q4 : ¬ (m : Int) = 0 := by omega
  have q5 : (k : Int) + (m : Int) + 1 ≤ (c : Int) := by omega
  have q6 : k + m + 1 ≤ c := by omega
  have q7 : k + m + 1 - (k + 1) = m := by omega
  have q8 : k + m + 1 - k = m + 1 := by omega
  have q9 : (k : Int) + 1 ≤ (k : Int) + (m : Int) + 1 := by omega
  have q10 : (k : Int) ≤ (k : Int) + (m : Int) := by omega
  have q11 : (k : Int) ≤ (k : Int) + (m : Int) + 1 := by omega
  have q12 : ((k : Int) + 1).toNat = k + 1 := by omega
  have q13 : ((k : Int) + (m : Int) + 1).toNat = k + m + 1 := by omega
  have q14 : (0 : Int) ≤ (k : Int) + 1 := by omega
  have q15 : (0 : Int) ≤ (k : Int) + (m : Int) + 1 := by omega
  have q17 : IntKind.i64.wrap ((k : Int) + 1) = (k : Int) + 1 := by rw [IntKind.wrap_i64]; omega
  have q16 : ¬ (c : Int) < (k : Int) + (m : Int) + 1 := by omega
  go_enter Try.func34, Try.ntmps34
  go_wp2_with (simp only [hov])
  go_region_law (refine step_copyK _ rfl (.tmp 73) (.tmp 76) 54 54 rfl (.slice (some ⟨g, (k + 1) * 2, none⟩) m (c - (k + 1))) (.slice (some ⟨g, k * 2, none⟩) (m + 1) (c - k)) (by simp [Act.eval, Act.put]) (by simp [Act.eval, Act.put]) (hc1 _ _ _) ?_)
  go_wp2_with (at_builtin; refine wpList_copyK _ rfl _ _ 54 54 rfl _ _ rfl rfl (hc2 _ (c - k)) ?_)
  go_ret
  exact ⟨rfl, HF.out.1, HF.out.2⟩
end Go.Proofs.Ytnnjmlpanbbanaa.Rng.Que
