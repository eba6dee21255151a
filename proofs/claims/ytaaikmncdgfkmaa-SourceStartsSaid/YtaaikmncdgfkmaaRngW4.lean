/-
  Package ranges: Remove, Missing.
-/
import Derived.Test.YtaaikmncdgfkmaaRngW2
import Derived.Test.YtaaikmncdgfkmaaRngR0
namespace Go.Proofs.Ytaaikmncdgfkmaa.Rng
open Go.RowKit

set_option maxHeartbeats 1000000 in
theorem remove_any (l : List R) (rx ry : Int) (w : World) (A : Option Addr) (c : Nat) (h : Rs w w.heap.size A l) (hl : l.length ≤ 100000000000) :
    Calls Try.prog 48 #[.slice A l.length c, .agg #[I rx, I ry]] w fun e w' => ∃ v, e = .returned v ∧ Os w' w.heap.size 62 v (rmv (nrm l) (rx, ry)) ∧ Below w.heap.size w w' := by
  have b1 : Below w.heap.size w (w.alloc (.cells #[I rx, I ry] 62)) := (Below.refl _ w).alloc (Nat.le_refl _) _
  have hcon := normal_any l (w.alloc (.cells #[I rx, I ry] 62)) A c ((h.below b1).more (by simp)) (by omega)
  have hbr : Cel (w.alloc (.cells #[I rx, I ry] 62)) w.heap.size 62 #[I rx, I ry] := Cel.new w _ _
  have hs1 : (w.alloc (.cells #[I rx, I ry] 62)).heap.size = w.heap.size + 1 := by simp
  have hnl := nrm_length l
  obtain ⟨s, hs⟩ : ∃ s, s = nrm l := ⟨_, rfl⟩
  have hrm := parts_rmv (rx, ry) (nrm_canon l)
  rw [← hs] at hcon hnl hrm ⊢
  rw [← hrm]
  clear hs hrm h
  obtain ⟨w1, hw1⟩ : ∃ w1, w1 = w.alloc (.cells #[I rx, I ry] 62) := ⟨_, rfl⟩
  rw [← hw1] at b1 hcon hbr hs1
  go_enter Try.func48, Try.ntmps48
  go_wp2_with fail
  rw [← hw1]
  clear hw1
  refine hcon.mono ?_
  rintro e w2 ⟨v, rfl, ho2, hb2⟩
  obtain ⟨A2, c2, rfl, hr2, _, _, _⟩ := ho2.reads
  have hbr2 : Cel w2 w.heap.size 62 #[I rx, I ry] := hbr.only (Only.of_below (S := []) hb2) (by simp)
  have hsz2 := hb2.size
  clear hcon ho2 hbr
  go_wp2_with fail
  go_loopw [5, 11] (fun o i wr => ∃ k : Nat, k ≤ s.length ∧ i = .int .i64 k ∧ Os wr w2.heap.size 62 o ((s.take k).foldl (part (rx, ry)) []) ∧ Below w2.heap.size w2 wr)
    (fun _ i _ => s.length - (intOf i).toNat)
  case atStart => exact ⟨0, Nat.zero_le _, rfl, Os.nil_ _ _ _, Below.refl _ _⟩
  case round =>
    obtain ⟨k, hk, rfl, ho, hbel⟩ := hrel
    by_cases hlt : k < s.length
    · obtain ⟨b, off, rfl, hbw, hc1, hc2⟩ := (hr2.below hbel).at_ hlt
      obtain ⟨⟨p, q⟩, hx⟩ : ∃ z, z = s[k] := ⟨_, rfl⟩
      have hfl := Lib.hid (foldl_take (part (rx, ry)) [] (List.getElem?_eq_getElem hlt))
      have hjl := parts_length (rx, ry) (s.take k) []
      rw [List.length_take] at hjl
      rw [← hx] at hc1 hc2 hfl
      clear hx
      dsimp only at hc1 hc2
      have hsz := hbel.size
      obtain ⟨m, hm⟩ : ∃ m, m = (s.take k).foldl (part (rx, ry)) [] := ⟨_, rfl⟩
      rw [← hm] at ho hfl hjl
      clear hm
      have hml : m.length ≤ 1000000000000 := by simp at hjl; omega
      clear hjl
      obtain ⟨M1, hM1⟩ : ∃ M, M = min q rx := ⟨_, rfl⟩
      have hm1 : (if rx < q then rx else q) = M1 := by rw [hM1]; split <;> omega
      have hm1' : min q rx = M1 := hM1.symm
      obtain ⟨M2, hM2⟩ : ∃ M, M = max p ry := ⟨_, rfl⟩
      have hm2 : (if p < ry then ry else p) = M2 := by rw [hM2]; split <;> omega
      have hm2' : max p ry = M2 := hM2.symm
      have hpart : Hid (part (rx, ry) m (p, q) = join (join m (p, M1)) (M2, q)) := Lib.hid (by rw [hM1, hM2]; rfl)
      clear hM1 hM2
      have hbr3 : Cel wr w.heap.size 62 #[I rx, I ry] := hbr2.only (Only.of_below (S := []) hbel) (by simp)
      have hbr4 : Cel (wr.alloc (.cells #[I p, I q] 62)) w.heap.size 62 #[I rx, I ry] := hbr3.only ((Only.refl [] _).alloc _) (by simp)
      have hbx4 : Cel (wr.alloc (.cells #[I p, I q] 62)) wr.heap.size 62 #[I p, I q] := Cel.new wr _ _
      have r0 : (wr.alloc (.cells #[I p, I q] 62)).cell? ⟨w.heap.size, 0, none⟩ = some (I rx) := hbr4.cell 0
      have hlt1 := ho.lt
      have ho4 := ho.alloc (.cells #[I p, I q] 62)
      have hbel4 := hbel.alloc hsz (.cells #[I p, I q] 62)
      have hsz4 : (wr.alloc (.cells #[I p, I q] 62)).heap.size = wr.heap.size + 1 := by simp
      have j1 := join_any m p M1 (wr.alloc (.cells #[I p, I q] 62)) w2.heap.size _ ho4 (by omega) (by omega)
      have jl1 := join_length m (p, M1)
      obtain ⟨m1, hm1'⟩ : ∃ m1, m1 = join m (p, M1) := ⟨_, rfl⟩
      rw [← hm1'] at j1 jl1 hpart
      clear hm1'
      go_wp2_with fail
      refine j1.mono ?_
      rintro e w5 ⟨v5, rfl, hmd⟩
      have hb5 : Below w2.heap.size (wr.alloc (.cells #[I p, I q] 62)) w5 := made_below hmd (by omega) ho.base_le
      have hbel5 := hbel4.trans hb5
      have hbx5 : Cel w5 wr.heap.size 62 #[I p, I q] := hbx4.only hmd.only (fun hin => by have := hlt1 wr.heap.size (by simpa using hin); omega)
      have hbr5 : Cel w5 w.heap.size 62 #[I rx, I ry] := hbr2.only (Only.of_below (S := []) hbel5) (by simp)
      have r1 : w5.cell? ⟨w.heap.size, 1, none⟩ = some (I ry) := hbr5.cell 1
      have x0 : w5.cell? ⟨wr.heap.size, 0, none⟩ = some (I p) := hbx5.cell 0
      have x1 : w5.cell? ⟨wr.heap.size, 1, none⟩ = some (I q) := hbx5.cell 1
      have hsz5 := hbel5.size
      have ho5 := hmd.own
      clear j1 hbr3 hbr4 hbx4 r0 ho ho4 hlt1
      go_wp2_with fail
      refine (join_any m1 M2 q w5 w2.heap.size _ ho5 hsz5 (by omega)).mono ?_
      rintro e w6 ⟨v6, rfl, hmd6⟩
      go_wp2_with fail
      go_roundw
      case rel => exact ⟨k + 1, hlt, by simp, by rw [hfl.out, hpart.out]; exact hmd6.own, hbel5.trans (made_below hmd6 hsz5 ho5.base_le)⟩
      case measure => simp [intOf]; omega
    · obtain rfl : k = s.length := by omega
      rw [List.take_length] at ho
      have hfin : Below w.heap.size w wr := b1.trans ((hb2.mono (by omega)).trans (hbel.mono (by omega)))
      go_wp2_with fail
      go_ret
      exact ⟨_, rfl, ho.more (by omega), hfin⟩

end Go.Proofs.Ytaaikmncdgfkmaa.Rng
