/-
  slices.Delete of one entry.
-/
import Derived.Shelf.Abstract
import Derived.Shelf.RegionOpenPlain
import Derived.WalkKit
import Derived.Deep.LoopGhost
import Derived.Deep.RegionLaw
import Derived.Lib.Walk
import Derived.Test.YtnnjmlpanbbanaaQueW0
namespace Go.Proofs.Ytnnjmlpanbbanaa.Rng.Que
open Go.RowKit Go.Shelf

set_option maxHeartbeats 4000000 in
set_option maxRecDepth 100000 in
theorem delete_any (FA : List R) (x : R) (FB : List R) (w : World) (base : Nat) (v : Value) (i j : Int) (hi : i = FA.length) (hj : j = FA.length + 1) (h : Os w base 61 v (FA ++ x :: FB)) (hl : (FA ++ x :: FB).length ≤ 1000000) :
    Calls Try.prog 29 #[v, I i, I j] w fun e w' => ∃ v', e = .returned v' ∧ Os w' base 61 v' (FA ++ FB) ∧ v'.ownBlock = v.ownBlock ∧ Only v.ownBlock.toList w w' := by
  obtain ⟨g, c, rfl, hb, sp, hg, hs, hm⟩ := Os_row h (by simp; omega)
  clear h
  obtain ⟨k, hk⟩ : ∃ k, k = FA.length := ⟨_, rfl⟩
  obtain ⟨m, hmm⟩ : ∃ m, m = FB.length := ⟨_, rfl⟩
  have hn : (FA ++ x :: FB).length = k + 1 + m := by simp; omega
  have hAB : (FA ++ FB).length = k + m := by simp; omega
  rw [hn] at hs hl ⊢
  rw [← hk] at hi hj
  subst hi hj
  have hlA : (flat FA).length = k * 2 := by rw [flat_length, hk]
  have hlB : (flat FB).length = m * 2 := by rw [flat_length, hmm]
  have hX : flat (FA ++ x :: FB) ++ sp = flat FA ++ (enc x ++ (flat FB ++ sp)) := by
    rw [flat_append, show flat (x :: FB) = enc x ++ flat FB from rfl]; simp
  rw [hX] at hg
  obtain ⟨sp', hY, hsp'⟩ := splice_delete (flat FA) (enc x) (flat FB) sp [I 0, I 0] rfl
  rw [List.length_append, hlA, hlB, ← flat_append, ← Nat.add_mul] at hY
  obtain ⟨X0, hX0⟩ : ∃ X0, X0 = flat FA ++ (enc x ++ (flat FB ++ sp)) := ⟨_, rfl⟩
  have hXl : X0.length = (k + 1 + m) * 2 + sp.length := by rw [hX0]; simp [hlA, hlB, enc]; omega
  have hXB : ∀ j u, (flat FB)[j]? = some u → X0[(k + 1) * 2 + j]? = some u := fun j u hu => by
    have hjl := (List.getElem?_eq_some_iff.1 hu).1
    rw [hX0, List.getElem?_append_right (by rw [hlA]; omega), List.getElem?_append_right (by rw [hlA]; simp [enc]; omega), List.getElem?_append_left (by rw [hlA]; simp [enc]; omega), ← hu]
    congr 1
    rw [hlA]; simp [enc]; omega
  rw [← hX0] at hg hY
  obtain ⟨Y1, hY1⟩ : ∃ Y1, Y1 = splice X0 (k * 2) (flat FB) := ⟨_, rfl⟩
  rw [← hY1] at hY
  have hYl : Y1.length = X0.length := by rw [hY1]; exact length_splice _ _ _ (by rw [hlB]; omega)
  obtain ⟨A, hA, hsrc⟩ : ∃ A : Addr, (if c = k + 1 then (some (⟨g, 0, none⟩ : Addr)) else some ⟨g, (k + 1) * 2, none⟩) = some A ∧ Hid (∀ j u, (flat FB)[j]? = some u → w.drew.cell? (A.add j) = some u) := by
    by_cases hc : c = k + 1
    · refine ⟨⟨g, 0, none⟩, by simp [hc], Lib.hid fun j u hu => ?_⟩
      have := (List.getElem?_eq_some_iff.1 hu).1
      rw [hlB] at this; omega
    · refine ⟨⟨g, (k + 1) * 2, none⟩, by simp [hc], Lib.hid fun j u hu => ?_⟩
      rw [Addr.add_lit]
      have := hg.cell ((k + 1) * 2 + j)
      rw [List.getElem?_toArray, hXB j u hu] at this
      exact this
  obtain ⟨W1, hW1⟩ : ∃ W1, W1 = w.drew.setRow g Y1.toArray := ⟨_, rfl⟩
  have hg1 : Cel W1 g 61 Y1.toArray := by rw [hW1]; exact Cel_row (hg.draws 1) Y1
  have hap : ∀ ty c', (Builtin.append_ #[54, 54] ty #[.slice (some ⟨g, 0, none⟩) k c, .slice (some A) m c']).run Try.prog w.drew = .ok (.slice (some ⟨g, 0, none⟩) (k + m) c) W1 := fun ty c' => by
    rw [hW1, hY1]
    exact run_appendK w.drew _ ty 61 2 g k c A m c' (k + m) X0 61 (flat FB) Try.underlying54 (by obtain ⟨i, h0, h1, h2, h3⟩ := info_parts info_entry; rw [h0]; simp [h2]) (hg.draws 1) hlB hsrc.out (by omega) rfl (by rw [hlB]; omega) (flat_one _)
  have hcl : ∀ ty c', (Builtin.clear_ #[54] ty #[.slice (some ⟨g, (k + m) * 2, none⟩) (k + 1 + m - (k + m)) c']).run Try.prog W1 = .ok (.tuple #[]) (W1.setRow g (splice Y1 ((k + m) * 2) [I 0, I 0]).toArray) := fun ty c' =>
    run_clearK W1 _ ty 61 (.agg #[I 0, I 0]) g _ _ c' Y1 61 [I 0, I 0] Try.underlying54 Try.zeroValue61 rfl (by omega) hg1 (by rw [hYl, hXl]; simp; omega) (fun u hu => by simp at hu; subst hu; rfl)
  have hfin : Os (W1.setRow g (splice Y1 ((k + m) * 2) [I 0, I 0]).toArray) base 61 (.slice (some ⟨g, 0, none⟩) (k + m) c) (FA ++ FB) ∧ Only [g] w (W1.setRow g (splice Y1 ((k + m) * 2) [I 0, I 0]).toArray) := by
    constructor
    · have : Rw (W1.setRow g (splice Y1 ((k + m) * 2) [I 0, I 0]).toArray) 61 g c (FA ++ FB) := ⟨sp', by rw [← hY]; exact Cel_row hg1 _, by rw [hAB, hsp']; simp [enc]; omega, hm⟩
      have := this.os hb
      rwa [hAB] at this
    · rw [hW1]
      exact Only_row (Only_row ((Only.refl [g] w).drew) (.inl (by simp)) _) (.inl (by simp)) _
  obtain ⟨W2, hW2⟩ : ∃ W2, W2 = W1.setRow g (splice Y1 ((k + m) * 2) [I 0, I 0]).toArray := ⟨_, rfl⟩
  rw [← hW2] at hcl hfin
  have hcb : k + 1 + m ≤ c := by omega
  have HF := Lib.hid hfin
  have hbig : c ≤ 9223372036854775807 := by simp only [maxLen] at hm; omega
  have z1 : decide ((k : Int) = (k : Int) + 1) = false := by simp; omega
  have hck : c ≠ k + m := by omega
  have hkc : k ≤ c := by omega
  have hkc1 : k + 1 ≤ c := by omega
  have hkc2 : (k : Int) + 1 ≤ (c : Int) := by omega
  have hkc3 : (k : Int) ≤ (c : Int) := by omega
  have hkn : ((k : Int) + 1).toNat = k + 1 := by omega
  have hkm : k + 1 + m - (k + 1) = m := by omega
  have hkk : (k : Int) + 1 ≤ (k : Int) + 1 + (m : Int) := by omega
  have hq1 : (k : Int) + (m : Int) ≤ (k : Int) + 1 + (m : Int) := by omega
  have hq2 : (k : Int) + 1 + (m : Int) ≤ (c : Int) := by omega
  have hq3 : ((k : Int) + 1 + (m : Int)).toNat = k + 1 + m := by omega
  have hq4 : ((k : Int) + (m : Int)).toNat = k + m := by omega
  have hq5 : k + m ≤ k + 1 + m := by omega
  have hq6 : (0 : Int) ≤ (k : Int) + 1 + (m : Int) := by omega
  have hp0 : (0 : Int) ≤ (k : Int) + 1 := by omega
  have mixed : Try.prog.follows Departure.mixedOrders = true := by kernel_rfl
  clear hk hmm
  clear hfin hW2 hW1 hg1 hsrc hY hY1 hX0 hXl hXB hX hYl hs hlA hlB hsp' hg hn hAB hm
  go_enter Try.func29, Try.ntmps29
  go_wp2_with fail
  go_region_law (refine step_appendK _ rfl (.tmp 22) (.tmp 25) 54 54 rfl (.slice (some ⟨g, 0, none⟩) k c) (.slice (some A) m (c - (k + 1))) (by simp [Act.eval, Act.put]) (by simp [Act.eval, Act.put]) (hap _ (c - (k + 1))) ?_)
  go_wp2
  go_ret
  exact ⟨_, rfl, HF.out.1, rfl, HF.out.2⟩
end Go.Proofs.Ytnnjmlpanbbanaa.Rng.Que
