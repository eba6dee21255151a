/-
  The reference of layer 7: Remove.
-/
import Derived.Test.YtgomcilmhlafcaaRngT3
namespace Go.Proofs.Ytgomcilmhlafcaa.Rng
open Go.RowKit

set_option maxHeartbeats 2000000 in
theorem rremove_any (l : List R) (rx ry : Int) (w : World) (A : Option Addr) (c : Nat) (h : Rs w w.heap.size A l) (hl : l.length ≤ 100000000000) :
    Calls Try.prog 16 #[.slice A l.length c, .agg #[I rx, I ry]] w fun e w' => ∃ v, e = .returned v ∧ Os w' w.heap.size 24 v (rmv (nrm l) (rx, ry)) ∧ Below w.heap.size w w' := by
  have b1 : Below w.heap.size w (w.alloc (.cells #[I rx, I ry] 24)) := (Below.refl _ w).alloc (Nat.le_refl _) _
  have hcon := of_any l (w.alloc (.cells #[I rx, I ry] 24)) A c ((h.below b1).more (by simp)) (by omega)
  have hbr : Cel (w.alloc (.cells #[I rx, I ry] 24)) w.heap.size 24 #[I rx, I ry] := Cel.new w _ _
  have hs1 : (w.alloc (.cells #[I rx, I ry] 24)).heap.size = w.heap.size + 1 := by simp
  have hnl := nrm_length l
  obtain ⟨s, hs⟩ : ∃ s, s = nrm l := ⟨_, rfl⟩
  rw [← hs] at hcon hnl ⊢
  clear hs h
  obtain ⟨w1, hw1⟩ : ∃ w1, w1 = w.alloc (.cells #[I rx, I ry] 24) := ⟨_, rfl⟩
  rw [← hw1] at b1 hcon hbr hs1
  by_cases hxy : ry ≤ rx
  · have he : decide (ry ≤ rx) = true := by simpa using hxy
    rw [rmv, if_pos (show ry ≤ rx from hxy)]
    go_enter Try.func16, Try.ntmps16
    go_wp2_with fail
    rw [← hw1]
    clear hw1
    refine hcon.mono ?_
    rintro e w2 ⟨v, rfl, ho2, hb2⟩
    have hbr2 : Cel w2 w.heap.size 24 #[I rx, I ry] := hbr.only (Only.of_below (S := []) hb2) (by simp)
    have cr0 : w2.cell? ⟨w.heap.size, 0, none⟩ = some (I rx) := hbr2.cell 0
    have cr1 : w2.cell? ⟨w.heap.size, 1, none⟩ = some (I ry) := hbr2.cell 1
    go_wp2_with fail
    go_ret
    exact ⟨_, rfl, ho2.more (by omega), b1.trans (hb2.mono (by omega))⟩
  · have he : decide (ry ≤ rx) = false := by simpa using hxy
    rw [rmv, if_neg (show ¬ ry ≤ rx from hxy)]
    change Calls _ _ _ _ fun e w' => ∃ v, e = .returned v ∧ Os w' w.heap.size 24 v (cuts (rx, ry) s) ∧ _
    go_enter Try.func16, Try.ntmps16
    go_wp2_with fail
    rw [← hw1]
    clear hw1
    refine hcon.mono ?_
    rintro e w2 ⟨v, rfl, ho2, hb2⟩
    obtain ⟨A2, c2, rfl, hr2, _, _, _⟩ := ho2.reads
    have hbr2 : Cel w2 w.heap.size 24 #[I rx, I ry] := hbr.only (Only.of_below (S := []) hb2) (by simp)
    have cr0 : w2.cell? ⟨w.heap.size, 0, none⟩ = some (I rx) := hbr2.cell 0
    have cr1 : w2.cell? ⟨w.heap.size, 1, none⟩ = some (I ry) := hbr2.cell 1
    have hsz2 := hb2.size
    clear hcon ho2 hbr
    go_wp2_with fail
    clear cr0 cr1
    go_loopw [6, 7] (fun o i wr => ∃ k : Nat, k ≤ s.length ∧ i = .int .i64 k ∧ Os wr w2.heap.size 24 o (cuts (rx, ry) (s.take k)) ∧ Below w2.heap.size w2 wr)
      (fun _ i _ => s.length - (intOf i).toNat)
    case atStart => exact ⟨0, Nat.zero_le _, rfl, Os.nil_ _ _ _, Below.refl _ _⟩
    case round =>
      obtain ⟨k, hk, rfl, ho, hbel⟩ := hrel
      by_cases hlt : k < s.length
      · obtain ⟨b, off, rfl, hbw, hc1, hc2⟩ := (hr2.below hbel).at_ hlt
        obtain ⟨⟨p, q⟩, hx⟩ : ∃ z, z = s[k] := ⟨_, rfl⟩
        have hfl := cuts_take (r := (rx, ry)) (List.getElem?_eq_getElem hlt)
        have hjl : (cuts (rx, ry) (s.take k)).length ≤ 2 * (s.take k).length := cuts_length2 (rx, ry) (s.take k)
        rw [List.length_take] at hjl
        rw [← hx] at hc1 hc2 hfl
        have hxH := Lib.hid hx
        clear hx
        dsimp only at hc1 hc2
        have hsz := hbel.size
        obtain ⟨m, hm⟩ : ∃ m, m = cuts (rx, ry) (s.take k) := ⟨_, rfl⟩
        rw [← hm] at ho hfl hjl
        clear hm
        have hml : m.length ≤ 1000000000000 := by omega
        clear hjl
        obtain ⟨M1, hM1⟩ : ∃ M, M = min q rx := ⟨_, rfl⟩
        have hm1 : (if rx < q then rx else q) = M1 := by rw [hM1]; split <;> omega
        have hm1' : min q rx = M1 := hM1.symm
        obtain ⟨M2, hM2⟩ : ∃ M, M = max p ry := ⟨_, rfl⟩
        have hm2 : (if p < ry then ry else p) = M2 := by rw [hM2]; split <;> omega
        have hm2' : max p ry = M2 := hM2.symm
        have hf1 : fst_ (p, q) (rx, ry) = (p, M1) := by rw [hM1]; rfl
        have hf2 : snd_ (p, q) (rx, ry) = (M2, q) := by rw [hM2]; rfl
        rw [hf1, hf2] at hfl
        have HF := Lib.hid hfl
        clear hM1 hM2 hf1 hf2 hfl
        have hbr3 : Cel wr w.heap.size 24 #[I rx, I ry] := hbr2.only (Only.of_below (S := []) hbel) (by simp)
        have r0 : wr.cell? ⟨w.heap.size, 0, none⟩ = some (I rx) := hbr3.cell 0
        have r1 : wr.cell? ⟨w.heap.size, 1, none⟩ = some (I ry) := hbr3.cell 1
        have hbk : b < wr.heap.size := Nat.lt_of_lt_of_le hbw hsz
        have hRk : w.heap.size < wr.heap.size := hbr3.lt
        have hlo := ho.lt
        have HX := Lib.hid (And.intro hm1 hm2)
        clear hm1 hm1' hm2 hm2' hxH he hbr3
        go_wp2_with fail
        refine r8_any hlt hbk hRk hc1 hc2 r0 HX.out.1 (fun _ _ _ _ _ h => h) ?_
        intro t24 t25 t26 t27 t28 t29 t30 t31 t32 t33 t34 t35 t36 t37 w4 hL4 hbA
        rename_i hK8
        refine hK8 _ _ ?_
        clear hK8
        have hc14 := (hbA.cell (p := ⟨b, off + k * 2, none⟩) hbk).trans hc1
        have hc24 := (hbA.cell (p := ⟨b, off + k * 2 + 1, none⟩) hbk).trans hc2
        have r14 := (hbA.cell (p := ⟨w.heap.size, 1, none⟩) hRk).trans r1
        have hb4 : Below w2.heap.size w2 w4 := hbel.trans (hbA.mono hsz)
        have ho4 := ho.below hbA
        have hG4 := hL4.lt
        have hlo4 : Hid (∀ i, u6.ownBlock = some i → i < w4.heap.size) := Lib.hid (fun i hi => Nat.lt_trans (hlo i hi).2 hG4)
        have hbk4 : b < w4.heap.size := Nat.lt_trans hbk hG4
        have hRk4 : w.heap.size < w4.heap.size := Nat.lt_trans hRk hG4
        clear hc1 hc2 r0 r1 hbA hbel ho hlo
        go_wp2_with fail
        refine r9_any hlt hbk4 hRk4 hc14 hc24 r14 HX.out.2 (fun _ _ _ _ _ h => h) ?_
        intro t38 t39 t40 t41 t42 t43 t44 t45 t46 t47 t48 t49 t50 t51 w5 hR5 hbB
        rename_i hK9
        refine hK9 _ _ ?_
        clear hK9
        have hL5 := hL4.only (Only.of_below (S := []) hbB) (by simp)
        have hb5 : Below w2.heap.size w2 w5 := hb4.trans (hbB.mono hb4.size)
        have ho5 := ho4.below hbB
        refine tail_any (hL5.cell 0) (hL5.cell 1) hR5 ho5 (fun g hg e => by have := hlo4.out g hg; omega) (Nat.le_refl _) hb5 hml ?_
        intro v6 t52 t53 t54 t55 t56 t57 t58 t59 t60 t61 t62 t63 t64 t65 t66 t67 t68 t69 w9 ho9 hb9
        clear hL5 hR5 ho5 hb5 hlo4 hL4 hb4 ho4 hc14 hc24 r14 hbB
        rename_i hK7 Ka Kb
        refine hK7 _ _ ?_
        clear hK7
        refine r7_any (by omega) ?_
        intro t22 t23
        refine ⟨⟨_, _, _, _, _, _, _, _, _, _, _, _, _, _, _, _, _, _, _, _, _, _, _, _, _, _, _, _, _, _, _, _, _, _, _, _, _, _, _, _, _, _, _, _, _, _, _, _, _, _, _, _, _, _, _, _, ⟨k + 1, hlt, ?cnt, ?own, hb9⟩, rfl⟩, ?measure⟩
        case cnt => simp
        case own => rw [HF.out]; exact ho9
        case measure => simp [intOf]; omega
      · obtain rfl : k = s.length := by omega
        rw [List.take_length] at ho
        have hfin : Below w.heap.size w wr := b1.trans ((hb2.mono (by omega)).trans (hbel.mono (by omega)))
        go_wp2_with fail
        go_ret
        exact ⟨_, rfl, ho.more (by omega), hfin⟩

end Go.Proofs.Ytgomcilmhlafcaa.Rng
