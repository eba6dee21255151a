/-
  Package ranges: Size, Head.
-/
import Derived.Test.YtaaikmncdgfkmaaRngW2
namespace Go.Proofs.Ytaaikmncdgfkmaa.Rng
open Go.RowKit

theorem u64_of_max (n : Int) (h1 : -9223372036854775808 ≤ n) (h2 : n < 9223372036854775808) : IntKind.u64.wrap (max n 0) = (n.toNat : Int) := by
  rw [IntKind.wrap_u64]; omega

set_option maxHeartbeats 1000000 in
theorem head_any (l : List R) (n : Int) (w : World) (A : Option Addr) (c : Nat) (h : Rs w w.heap.size A l) (hl : l.length ≤ 100000000000) (hi : In64 l) (hn1 : -9223372036854775808 ≤ n) (hn2 : n < 9223372036854775808) :
    Calls Try.prog 47 #[.slice A l.length c, I n] w fun e w' => ∃ v, e = .returned v ∧ Os w' w.heap.size 62 v (hd (nrm l) n.toNat) ∧ Below w.heap.size w w' := by
  have hcon := normal_any l w A c h (by omega)
  have hnl := nrm_length l
  have htk := take_hd n.toNat (nrm_canon l) (nrm_in hi)
  have hcn := nrm_canon l
  have hin := nrm_in hi
  obtain ⟨s, hs⟩ : ∃ s, s = nrm l := ⟨_, rfl⟩
  rw [← hs] at hcon hnl htk hcn hin ⊢
  rw [← htk]
  clear hs htk h
  obtain ⟨N0, hN0⟩ : ∃ N0, N0 = n.toNat := ⟨_, rfl⟩
  have hN0l : N0 < 9223372036854775808 := by omega
  have hm0 : (if n < 0 then (0 : Int) else n) = (N0 : Int) := by rw [hN0]; split <;> omega
  have hm0' : max n 0 = (N0 : Int) := by omega
  have hw0 : IntKind.u64.wrap (N0 : Int) = (N0 : Int) := by rw [IntKind.wrap_u64]; omega
  rw [← hN0]
  clear hN0 hn1 hn2
  go_enter Try.func47, Try.ntmps47
  go_wp2_with fail
  refine hcon.mono ?_
  rintro e w2 ⟨v, rfl, ho2, hb2⟩
  obtain ⟨A2, c2, rfl, hr2, _, _, _⟩ := ho2.reads
  have hsz2 := hb2.size
  clear hcon ho2
  go_wp2_with fail
  go_loopw [5, 6, 9, 16] (fun o lf _ i wr => ∃ k : Nat, k ≤ s.length ∧ i = .int .i64 k ∧ ∃ (m : List R) (N : Nat), Hid ((s.take k).foldl take1 ([], N0) = (m, N)) ∧ N < 9223372036854775808 ∧ lf = .int .u64 N ∧ Os wr w2.heap.size 62 o m ∧ Below w2.heap.size w2 wr)
    (fun _ _ _ i _ => s.length - (intOf i).toNat)
  case atStart => exact ⟨0, Nat.zero_le _, rfl, [], N0, Lib.hid rfl, hN0l, rfl, Os.nil_ _ _ _, Below.refl _ _⟩
  case round =>
    obtain ⟨k, hk, rfl, m, N, hP, hNl, rfl, ho, hbel⟩ := hrel
    have hml0 := take_length (s.take k) ([], N0)
    rw [List.length_take, hP.out] at hml0
    have hml : m.length ≤ 1000000000000 := by simp at hml0; omega
    clear hml0
    have hsz := hbel.size
    by_cases hlt : k < s.length
    · obtain ⟨b, off, rfl, hbw, hc1, hc2⟩ := (hr2.below hbel).at_ hlt
      have hpq := hin s[k] (List.getElem_mem hlt)
      have hpq2 : s[k].1 < s[k].2 := by obtain ⟨lo, hcn⟩ := hcn; exact (hcn.low _ (List.getElem_mem hlt)).2
      obtain ⟨⟨p, q⟩, hx⟩ : ∃ z, z = s[k] := ⟨_, rfl⟩
      have hfl0 := foldl_take take1 ([], N0) (List.getElem?_eq_getElem hlt)
      rw [hP.out] at hfl0
      rw [← hx] at hc1 hc2 hfl0 hpq hpq2
      clear hx
      dsimp only at hc1 hc2 hpq hpq2
      have hlen := len_of (x := (p, q)) hpq2 hpq.1 hpq.2.2.2
      dsimp only at hlen
      have hcall := length_any p q (wr.alloc (.cells #[I p, I q] 62))
      have htk1 : take1 (m, N) (p, q) = (join m (p, p + (min N (len (p, q)) : Nat)), N - min N (len (p, q))) := rfl
      rw [htk1] at hfl0
      obtain ⟨L, hL⟩ : ∃ L, L = len (p, q) := ⟨_, rfl⟩
      rw [← hL] at hfl0 hcall hlen
      clear htk1 hL
      obtain ⟨M, hM⟩ : ∃ M, M = min N L := ⟨_, rfl⟩
      have hm1 : (if (L : Int) < (N : Int) then (L : Int) else (N : Int)) = (M : Int) := by rw [hM]; split <;> omega
      have hmN : (if L < N then L else N) = M := by rw [hM]; split <;> omega
      have hm1' : (if L < N then (L : Int) else (N : Int)) = (M : Int) := by rw [hM]; split <;> omega
      have hm2 : min (N : Int) (L : Int) = (M : Int) := by omega
      have hm2' : min N L = M := hM.symm
      have hw1 : IntKind.i64.wrap (M : Int) = (M : Int) := by rw [IntKind.wrap_i64]; omega
      have hw2 : IntKind.i64.wrap (p + (M : Int)) = p + (M : Int) := by rw [IntKind.wrap_i64]; omega
      have hw2' : wrap64 (p + (M : Int)) = p + (M : Int) := by unfold wrap64; omega
      obtain ⟨N2, hN2⟩ : ∃ N2, N2 = N - M := ⟨_, rfl⟩
      have hw3 : IntKind.u64.wrap ((N : Int) - (M : Int)) = (N2 : Int) := by rw [IntKind.wrap_u64]; omega
      have hN2l : N2 < 9223372036854775808 := by omega
      have hfl : Hid ((s.take (k + 1)).foldl take1 ([], N0) = (join m (p, p + (M : Int)), N2)) := Lib.hid (by rw [hfl0, ← hM, hN2])
      clear hfl0 hM hN2 hlen hpq hpq2
      obtain ⟨PM, hPM⟩ : ∃ PM, PM = p + (M : Int) := ⟨_, rfl⟩
      rw [← hPM] at hfl
      have hv2 : IntKind.i64.wrap (p + (M : Int)) = PM := hw2.trans hPM.symm
      have hv2' : wrap64 (p + (M : Int)) = PM := hw2'.trans hPM.symm
      clear hPM hw2 hw2'
      have hbx4 : Cel (wr.alloc (.cells #[I p, I q] 62)) wr.heap.size 62 #[I p, I q] := Cel.new wr _ _
      obtain ⟨w4, hw4⟩ : ∃ w4, w4 = (wr.alloc (.cells #[I p, I q] 62)).alloc (.cells #[I p, I q] 62) := ⟨_, rfl⟩
      have hbx5 : Cel w4 wr.heap.size 62 #[I p, I q] := by rw [hw4]; exact hbx4.only ((Only.refl [] _).alloc _) (by simp)
      have x0 : w4.cell? ⟨wr.heap.size, 0, none⟩ = some (I p) := hbx5.cell 0
      have ho4 := (ho.alloc (.cells #[I p, I q] 62)).alloc (.cells #[I p, I q] 62)
      rw [← hw4] at ho4
      have hbel4 : Below w2.heap.size w2 w4 := by rw [hw4]; exact (hbel.alloc hsz (.cells #[I p, I q] 62)).alloc (by simp; omega) _
      have hsz4 := hbel4.size
      rw [← hw4] at hcall
      clear hw4 hbx4
      go_wp2_with fail
      refine hcall.mono ?_
      rintro e w5 ⟨rfl, rfl⟩
      go_wp2_with fail
      refine (join_any m p PM _ w2.heap.size _ ho4 hsz4 (by omega)).mono ?_
      rintro e w6 ⟨v6, rfl, hmd⟩
      have hb6 := made_below hmd hsz4 ho4.base_le
      go_wp2_with fail
      go_roundw
      case rel => exact ⟨k + 1, hlt, by simp, _, N2, hfl, hN2l, rfl, hmd.own, hbel4.trans hb6⟩
      case measure => simp [intOf]; omega
    · obtain rfl : k = s.length := by omega
      rw [List.take_length] at hP
      have hfin : Below w.heap.size w wr := hb2.trans (hbel.mono (by omega))
      have HE : Hid ((s.foldl take1 ([], N0)).1 = m) := Lib.hid (by rw [hP.out])
      clear hP
      obtain ⟨E, hE⟩ : ∃ E, E = (s.foldl take1 ([], N0)).1 := ⟨_, rfl⟩
      go_wp2_with fail
      go_ret
      exact ⟨_, rfl, by rw [HE.out]; exact ho.more (by omega), hfin⟩
end Go.Proofs.Ytaaikmncdgfkmaa.Rng
