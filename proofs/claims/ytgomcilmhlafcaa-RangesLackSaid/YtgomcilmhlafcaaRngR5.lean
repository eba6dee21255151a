/-
  The reference of layer 7: Missing, Add.
-/
import Derived.Test.YtgomcilmhlafcaaRngR2
import Derived.Test.YtgomcilmhlafcaaHand
namespace Go.Proofs.Ytgomcilmhlafcaa.Rng
open Go.RowKit

theorem Rs.drew5 {w : World} {B : Nat} {a : Option Addr} {l : List R} (h : Rs w B a l) : Rs w.drew B a l := h

set_option maxHeartbeats 2000000 in
theorem rmissing_any (l : List R) (T : Int) (w : World) (A : Option Addr) (c : Nat) (h : Rs w w.heap.size A l) (hl : l.length ≤ 10000000000) :
    Calls Try.prog 18 #[.slice A l.length c, I T] w fun e w' => ∃ v, e = .returned v ∧ Os w' w.heap.size 24 v (mis l T) ∧ Below w.heap.size w w' := by
  have b1 : Below w.heap.size w (w.alloc (.cells #[I 0, I T] 24)) := (Below.refl _ w).alloc (Nat.le_refl _) _
  have hcon := of_any [(0, T)] (w.alloc (.cells #[I 0, I T] 24)) (some ⟨w.heap.size, 0, none⟩) 1 ((Rs_new1 w 24 0 T).more (by simp)) (by simp)
  have hs1 : (w.alloc (.cells #[I 0, I T] 24)).heap.size = w.heap.size + 1 := by simp
  obtain ⟨w1, hw1⟩ : ∃ w1, w1 = w.alloc (.cells #[I 0, I T] 24) := ⟨_, rfl⟩
  rw [← hw1] at b1 hcon hs1
  rw [← rmvs_mis l T]
  have hc0 := nrm_canon [(0, T)]
  have hl0 := nrm_length [(0, T)]
  obtain ⟨o0, ho0⟩ : ∃ o0, o0 = nrm [(0, T)] := ⟨_, rfl⟩
  rw [← ho0] at hcon hc0 hl0 ⊢
  obtain ⟨F, hF⟩ : ∃ F, F = l.foldl (fun o x => rmv (nrm o) x) o0 := ⟨_, rfl⟩
  rw [← hF]
  have HF := Lib.hid hF
  clear ho0 hF
  simp only [List.length_cons, List.length_nil] at hcon hl0
  go_enter Try.func18, Try.ntmps18
  go_wp2_with fail
  rw [← hw1]
  clear hw1
  refine hcon.mono ?_
  rintro e w2 ⟨v, rfl, ho2, hb2⟩
  have hb3 := b1.trans (hb2.mono (by omega))
  have ho3 := ho2.more (show w.heap.size ≤ w1.heap.size by omega)
  clear hcon ho2
  go_wp2_with fail
  go_loopw [5, 6] (fun o i wr => ∃ k : Nat, k ≤ l.length ∧ i = .int .i64 k ∧ Os wr w.heap.size 24 o ((l.take k).foldl (fun o x => rmv (nrm o) x) o0) ∧ Below w.heap.size w wr)
    (fun _ i _ => l.length - (intOf i).toNat)
  case atStart => exact ⟨0, Nat.zero_le _, rfl, by simpa using ho3, hb3⟩
  case round =>
    obtain ⟨k, hk, rfl, ho, hbel⟩ := hrel
    have hsz := hbel.size
    by_cases hlt : k < l.length
    · obtain ⟨b, off, rfl, hbw, hc1, hc2⟩ := (h.below hbel).at_ hlt
      obtain ⟨⟨p, q⟩, hx⟩ : ∃ z, z = l[k] := ⟨_, rfl⟩
      have hfl := Lib.hid (foldl_take' (fun (o : List R) x => rmv (nrm o) x) o0 (List.getElem?_eq_getElem hlt))
      have hjl := (rmvs_spec (l.take k) o0 hc0).2.2
      rw [List.length_take] at hjl
      rw [← hx] at hc1 hc2 hfl
      clear hx
      dsimp only at hc1 hc2
      obtain ⟨m, hm⟩ : ∃ m, m = (l.take k).foldl (fun o x => rmv (nrm o) x) o0 := ⟨_, rfl⟩
      rw [← hm] at ho hfl hjl
      clear hm
      obtain ⟨A3, c3, rfl, hr3, _, _, _⟩ := ho.reads
      go_wp2_with (go_at_call 16; refine (rremove_any m p q wr A3 c3 hr3 (by omega)).mono ?_; rintro e w5 ⟨v5, rfl, ho5, hb5⟩)
      go_roundw
      case rel => exact ⟨k + 1, hlt, by simp, by rw [hfl.out]; exact ho5.more hsz, hbel.trans (hb5.mono hsz)⟩
      case measure => simp [intOf]; omega
    · obtain rfl : k = l.length := by omega
      rw [List.take_length] at ho
      go_wp2
      go_ret
      exact ⟨_, rfl, by rw [HF.out]; exact ho, hbel⟩

set_option maxHeartbeats 1000000 in
theorem radd_any (l : List R) (x y : Int) (w : World) (A : Option Addr) (c : Nat) (h : Rs w w.heap.size A l) (hl : l.length ≤ 100000000000) :
    Calls Try.prog 15 #[.slice A l.length c, .agg #[I x, I y]] w fun e w' => ∃ v, e = .returned v ∧ Os w' w.heap.size 24 v (add l (x, y)) ∧ Below w.heap.size w w' := by
  have b1 : Below w.heap.size w (w.alloc (.cells #[I x, I y] 24)) := (Below.refl _ w).alloc (Nat.le_refl _) _
  have hbr : Cel (w.alloc (.cells #[I x, I y] 24)) w.heap.size 24 #[I x, I y] := Cel.new w _ _
  have hs1 : w.heap.size < (w.alloc (.cells #[I x, I y] 24)).heap.size := by simp
  have h1 : Rs (w.alloc (.cells #[I x, I y] 24)) (w.alloc (.cells #[I x, I y] 24)).heap.size A l := (h.below b1).more b1.size
  have hnl := nrm_length l
  obtain ⟨N, hN⟩ : ∃ N, N = nrm l := ⟨_, rfl⟩
  have hadd : add l (x, y) = ins N (x, y) := by rw [hN]; rfl
  rw [hadd]
  rw [← hN] at hnl
  have HN := Lib.hid hN
  clear hadd hN h
  obtain ⟨w1, hw1⟩ : ∃ w1, w1 = w.alloc (.cells #[I x, I y] 24) := ⟨_, rfl⟩
  rw [← hw1] at b1 hbr hs1 h1
  have x0 : w1.cell? ⟨w.heap.size, 0, none⟩ = some (I x) := hbr.cell 0
  have x1 : w1.cell? ⟨w.heap.size, 1, none⟩ = some (I y) := hbr.cell 1
  have hcon := of_any l w1.drew A c (Rs.drew5 h1) (by omega)
  rw [← HN.out] at hcon
  go_enter Try.func15, Try.ntmps15
  go_wp2_with fail
  rw [← hw1]
  clear hw1
  refine wp_region_held_drew (S := (fun w' => w'.cell? ⟨w.heap.size, 0, none⟩ = some (I x) ∧ w'.cell? ⟨w.heap.size, 1, none⟩ = some (I y))) (by kernel_rfl) (⟨x0, x1⟩) (fun hHeld => ?_)
  refine wpAnyH_here 0 (v := ?_) rfl (by kernel_rfl) (by kernel_rfl) (by kernel_rfl) (fun _ _ _ h => h) (Or.inl ⟨by rfl, ?_⟩) hHeld ?_
  rotate_left
  · intro w hSw; (try dsimp only at hSw); go_simp; all_goals (with_reducible rfl)
  try simp only [Act.put, List.setIfInBounds_toArray, List.set_cons_zero, List.set_cons_succ]
  refine wpAnyH_here 2 (v := ?_) rfl (by kernel_rfl) (by kernel_rfl) (by kernel_rfl) (fun _ _ _ h => h) (Or.inl ⟨by rfl, ?_⟩) hHeld ?_
  rotate_left
  · intro w hSw; (try dsimp only at hSw); go_simp; all_goals (with_reducible rfl)
  try simp only [Act.put, List.setIfInBounds_toArray, List.set_cons_zero, List.set_cons_succ]
  refine wpAnyH_alone 1 rfl (by kernel_rfl) (fun K hK => ?_)
  go_simp
  (go_at_call 30; refine hcon.mono ?_; rintro e w2 ⟨v2, rfl, ho2, hb2⟩; have e0 := (hb2.cell (p := ⟨w.heap.size, 0, none⟩) hs1).trans x0; have e1 := (hb2.cell (p := ⟨w.heap.size, 1, none⟩) hs1).trans x1)
  refine hK.out _ _ (⟨e0, e1⟩) (fun hHeld => ?_)
  clear hK K
  try simp only [Act.put, List.setIfInBounds_toArray, List.set_cons_zero, List.set_cons_succ]
  refine wpAnyH_alone 3 rfl (by kernel_rfl) (fun K hK => ?_)
  go_simp
  (go_at_call 29; refine (insert_any N x y _ w1.heap.size v2 ho2 hb2.size (by omega)).mono ?_; rintro e w3 ⟨v3, rfl, ho3, hb3⟩; have hs2 : w.heap.size < w2.heap.size := Nat.lt_of_lt_of_le hs1 hb2.size; have f0 := (hb3.cell (p := ⟨w.heap.size, 0, none⟩) hs2).trans e0; have f1 := (hb3.cell (p := ⟨w.heap.size, 1, none⟩) hs2).trans e1)
  refine hK.out _ _ (⟨f0, f1⟩) (fun hHeld => ?_)
  clear hK K
  try simp only [Act.put, List.setIfInBounds_toArray, List.set_cons_zero, List.set_cons_succ]
  refine wpAnyH_here 4 (v := ?_) rfl (by kernel_rfl) (by kernel_rfl) (by kernel_rfl) (fun _ _ _ h => h) (Or.inl ⟨by rfl, ?_⟩) hHeld ?_
  rotate_left
  · intro w hSw; (try dsimp only at hSw); go_simp; all_goals (with_reducible rfl)
  try simp only [Act.put, List.setIfInBounds_toArray, List.set_cons_zero, List.set_cons_succ]
  refine wpAnyH_done (by kernel_rfl) ?_ _
  go_wp2
  go_ret
  exact ⟨_, rfl, ho3.more b1.size, b1.trans (((bel_drew (Below.refl w1.heap.size w1)).trans (hb2.trans (hb3.mono hb2.size))).mono b1.size)⟩
end Go.Proofs.Ytgomcilmhlafcaa.Rng
