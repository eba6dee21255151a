/-
  The walks of the reference of layer 3: Zigzag, Int, Uint, Blob.
-/
import Derived.Test.YtjjfamkljcipgaaOctW1
namespace Go.Proofs.Ytjjfamkljcipgaa
open Go.RowKit

set_option maxHeartbeats 400000 in
theorem xzig_any (n : Int) (w : World) (hn : -9223372036854775808 ≤ n ∧ n ≤ 9223372036854775807) :
    Calls Try.prog 49 #[.int .i64 n] w fun e w' => e = .returned (.int .u64 (zig n : Int)) ∧ w = w' := by
  by_cases h0 : n < 0
  · have hz : (zig n : Int) = -2 * n - 1 := by unfold zig; rw [if_pos h0]; omega
    rw [hz]
    clear hz
    go_enter Try.func49, Try.ntmps49
    go_wp2
    go_ret
    exact ⟨ret_int (by omega), rfl⟩
  · have hz : (zig n : Int) = 2 * n := by unfold zig; rw [if_neg h0]; omega
    have h1 : decide (n < 0) = false := decide_eq_false h0
    have h2 : 0 ≤ n := by omega
    rw [hz]
    clear hz h0
    go_enter Try.func49, Try.ntmps49
    go_wp2
    go_ret
    exact ⟨ret_int (by omega), rfl⟩

set_option maxHeartbeats 1000000 in
theorem xint_any (n : Int) (w : World) (hn : -9223372036854775808 ≤ n ∧ n ≤ 9223372036854775807) :
    Calls Try.prog 25 #[.int .i64 n] w fun e w' => ∃ v, e = .returned v ∧ Ow w' w.heap.size 5 v (encI n) ∧ Below w.heap.size w w' := by
  have hz := zig_lt hn
  obtain ⟨E, hE⟩ : ∃ E, E = encI n := ⟨_, rfl⟩
  have HE : Hid (encZ (zig n) = E) := hE.symm
  rw [← hE]
  have hEl : E.length ≤ 10 := by rw [hE]; exact (encI_len hn).2
  have hf := fun W => xzig_any n W hn
  obtain ⟨Z, hZ⟩ : ∃ Z, Z = zig n := ⟨_, rfl⟩
  rw [← hZ] at hz
  simp only [← hZ] at hf
  have HE : Hid (encZ Z = E) := by rw [hZ]; exact HE
  clear hE hn hZ
  go_enter Try.func25, Try.ntmps25
  go_wp2_with (first
    | (go_at_call 49; refine (hf _).mono ?_; rintro e w1 ⟨rfl, rfl⟩))
  clear hf
  go_loopg [3, 4] 9 (fun f i v wr => ∃ (N : Nat) (done : List Byte), i = .int .u64 (N : Int) ∧ N < 128 ^ (f + 1) ∧ N < 18446744073709551616 ∧ Hid (done ++ encF f N = E) ∧ Ow wr w.heap.size 5 v done ∧ Below w.heap.size w wr)
  case atStart => exact ⟨Z, [], rfl, by omega, hz, HE, World.ownsRow_nil _ _ _ _, Below.refl _ _⟩
  case round =>
    obtain ⟨N, done, rfl, hN, hN64, hd, ho, hbel⟩ := hrel
    obtain ⟨A, c, rfl, _⟩ := ho.reads
    have hbs := hbel.size
    have hdl : done.length ≤ 10 := by
      have := congrArg List.length hd.out
      rw [List.length_append] at this
      omega
    by_cases hbig : N < 128
    · have hfin : done ++ [BitVec.ofNat 8 N] = E := by have := hd.out; rwa [encF_small _ _ hbig] at this
      have HF := Lib.hid hfin
      have hm : Hid ((N : Int) % 256 = ((BitVec.ofNat 8 N).toNat : Int)) := Lib.hid (by rw [toNat8 _ (by omega)]; omega)
      have t0 : decide (127 < (N : Int)) = false := by simp; omega
      have HB := Lib.hid hbig
      clear hfin hN hbig
      go_wp2_with (first
        | (at_builtin; refine wpList_appAt _ is_bytes rfl (.tmp 18) (.tmp 21) rfl (v := Value.slice A done.length c) (m := done) rfl (ho.alloc _) (l := [BitVec.ofNat 8 N]) rfl (Bs_new1 _ _ _ _ hm.out) (by simp) (by simp; omega) (by simp; omega) ?_; intro v2 w2 hown2 hgrow2 hat2))
      go_ret
      rw [HF.out] at hown2
      exact ⟨v2, rfl, hown2, (hbel.alloc hbs _).grown hgrow2 (by simp; omega) ho.base_le⟩
    · obtain ⟨f, rfl⟩ : ∃ f, gk = f + 1 := ⟨gk - 1, by cases gk with
        | zero => simp at hN; omega
        | succ k => rfl⟩
      have hfin : (done ++ [BitVec.ofNat 8 (N % 128 + 128)]) ++ encF f (N / 128) = E := by have := hd.out; rw [encF_big _ _ hbig] at this; rw [List.append_assoc]; exact this
      have HF := Lib.hid hfin
      have hNb : 127 < (N : Int) := by omega
      have hq : N / 128 < 128 ^ (f + 1) := by rw [Nat.pow_succ] at hN; omega
      have HQ := Lib.hid hq
      have hm : Hid ((N : Int) % 128 + 128 = ((BitVec.ofNat 8 (N % 128 + 128)).toNat : Int)) := Lib.hid (by rw [toNat8 _ (by omega)]; omega)
      clear hfin hN hq
      go_wp2_with (first
        | (at_builtin; refine wpList_appAt _ is_bytes rfl (.tmp 9) (.tmp 14) rfl (v := Value.slice A done.length c) (m := done) rfl (ho.alloc _) (l := [BitVec.ofNat 8 (N % 128 + 128)]) rfl (Bs_new1 _ _ _ _ hm.out) (by simp) (by simp; omega) (by simp; omega) ?_; intro v2 w2 hown2 hgrow2 hat2))
      have hbel2 := (hbel.alloc hbs (.cells #[.int .u8 ((N : Int) % 128 + 128)] 5)).grown hgrow2 (by simp; omega) ho.base_le
      go_roundg f
      case measure => omega
      case rel => exact ⟨N / 128, done ++ [BitVec.ofNat 8 (N % 128 + 128)], val_int (by omega), HQ.out, by omega, HF, hown2, hbel2⟩

set_option maxHeartbeats 400000 in
theorem xblob_any (A : Option Addr) (l : List Byte) (n c : Nat) (w : World) (hl : Hid (l.length = n)) (hb : Bs w w.heap.size A l) (hn : A = none → c = 0) (hL : n < 1000000) :
    Calls Try.prog 26 #[.slice A n c] w fun e w' => ∃ v, e = .returned v ∧ Ow w' w.heap.size 5 v (encB l) ∧ Below w.heap.size w w' := by
  have hl2 : l.length = n := hl
  subst hl2
  have hE : encB l = encI (l.length : Int) ++ l := rfl
  have hEl := (encI_len (n := (l.length : Int)) ⟨by omega, by omega⟩).2
  have hi := fun W => xint_any (l.length : Int) W ⟨by omega, by omega⟩
  obtain ⟨I, hI⟩ : ∃ I, I = encI (l.length : Int) := ⟨_, rfl⟩
  simp only [← hI] at hi
  rw [← hI] at hE hEl
  rw [hE]
  clear hI hE
  go_enter Try.func26, Try.ntmps26
  go_wp2_with (first
    | (go_at_call 25; refine (hi _).mono ?_; rintro e w1 ⟨v, rfl, ho, hbel⟩; have hb1 := hb.below hbel; have hs1 := hbel.size)
    | (at_builtin; refine wpList_app _ is_bytes rfl (.tmp 5) (.tmp 6) rfl (m := I) rfl ho (l := l) rfl hb1 hn (by omega) hs1 ?_; intro v2 w2 hown2 hgrow2))
  go_ret
  exact ⟨v2, rfl, hown2, hbel.grown hgrow2 hs1 ho.base_le⟩

theorem made_zero (n : Nat) : (madeCells (Value.int .u8 0).cells (n * 1)).toList = (List.replicate n (0#8)).map B8 := by
  have : (Value.int .u8 0).cells = #[.int .u8 0] := rfl
  rw [this, toList_madeCells_one, Nat.mul_one, List.map_replicate]
  rfl
theorem be_set (N K j : Nat) (h : j < K) : (List.replicate (j + 1) (0#8) ++ be N (K - (j + 1))).set j (BitVec.ofNat 8 (N / 256 ^ (K - (j + 1)))) = List.replicate j (0#8) ++ be N (K - j) := by
  rw [show K - j = (K - (j + 1)) + 1 by omega]
  generalize K - (j + 1) = m
  rw [List.replicate_succ', List.append_assoc, List.set_append, if_neg (by simp)]
  simp [be]

set_option maxHeartbeats 1000000 in
theorem xuint_ok (N K : Nat) (w : World) (hN : N < 18446744073709551616) (hK1 : 1 ≤ K) (hK8 : K ≤ 8) :
    Calls Try.prog 27 #[.int .u64 (N : Int), .int .i64 (K : Int)] w fun e w' => ∃ v, e = .returned v ∧ Ow w' w.heap.size 5 v (be N K) ∧ Below w.heap.size w w' := by
  obtain ⟨hu, _, i0, hi, hz0, hz1, hz2⟩ := is_bytes
  have t1 : decide ((K : Int) < 1) = false := by simp; omega
  have t2 : decide (8 < (K : Int)) = false := by simp; omega
  go_enter Try.func27, Try.ntmps27
  go_wp2_with (first
    | (at_make; refine wpList_make_full _ rfl _ _ 24 rfl w.heap.size 5 i0 _ 1 hu hi hz0 hz1 .i64 .i64 _ _ K rfl rfl rfl rfl (by rw [hz2]; omega) (by unfold maxLen; omega) (Nat.le_refl _) ?_; intro w1 hown1 hgrow1; have bel1 := (Below.refl w.heap.size w).grown hgrow1 (Nat.le_refl _) (by simp)))
  have ho1 : Ow w1 w.heap.size 5 (.slice (some ⟨w.heap.size, 0, none⟩) K K) (List.replicate K (0#8)) := by
    unfold Ow
    rw [← made_zero, List.length_replicate]
    exact hown1
  clear hown1 hgrow1 hu hi hz0 hz1 hz2
  go_loopg [0, 6] K (fun k n i wr => n = .int .u64 ((N / 256 ^ (K - k) : Nat) : Int) ∧ i = .int .i64 ((k : Int) - 1) ∧ k ≤ K ∧ Ow wr w.heap.size 5 (.slice (some ⟨w.heap.size, 0, none⟩) K K) (List.replicate k (0#8) ++ be N (K - k)) ∧ Below w.heap.size w wr)
  case atStart => exact ⟨val_int (by simp), rfl, Nat.le_refl _, by rw [Nat.sub_self]; simpa [be] using ho1, bel1⟩
  case round =>
    obtain ⟨rfl, rfl, hk, ho, hbel⟩ := hrel
    by_cases hk0 : gk = 0
    · subst hk0
      go_wp2
      go_ret
      exact ⟨_, rfl, by simpa using ho, hbel⟩
    · obtain ⟨j, rfl⟩ : ∃ j, gk = j + 1 := ⟨gk - 1, by omega⟩
      have ej : (((j + 1 : Nat) : Int) - 1) = (j : Int) := by omega
      rw [ej]
      have hj0 : (0 : Int) ≤ (j : Int) := Int.natCast_nonneg _
      have hjK : (j : Int) < (K : Int) := by omega
      obtain ⟨q, hq⟩ : ∃ q, q = N / 256 ^ (K - (j + 1)) := ⟨_, rfl⟩
      rw [← hq]
      have hq64 : q < 18446744073709551616 := by rw [hq]; exact Nat.lt_of_le_of_lt (Nat.div_le_self _ _) hN
      have hown' : wr.ownsRow w.heap.size 5 1 (.slice (some ⟨w.heap.size, 0, none⟩) K K) K ((List.replicate (j + 1) (0#8) ++ be N (K - (j + 1))).map B8) := by
        have h1 : (List.replicate (j + 1) (0#8) ++ be N (K - (j + 1))).length = K := by rw [List.length_append, List.length_replicate, be_len]; omega
        have h2 : Ow wr w.heap.size 5 (.slice (some ⟨w.heap.size, 0, none⟩) K K) (List.replicate (j + 1) (0#8) ++ be N (K - (j + 1))) := ho
        unfold Ow at h2
        rw [h1] at h2
        exact h2
      have hc : wr.cell? ⟨w.heap.size, j, none⟩ = some (B8 (0#8)) := by
        rw [hown'.cellAt _ (by omega)]
        simp [List.getElem?_append_left]
      have hf : wr.frozen? ⟨w.heap.size, j, none⟩ = false := hown'.frozenAt _
      have HQ := Lib.hid hq
      have hset := Lib.hid (ho.set_ (gr := w.heap.size) (i := j) rfl (BitVec.ofNat 8 (N / 256 ^ (K - (j + 1)))))
      have hm : Hid ((q : Int) % 256 = ((BitVec.ofNat 8 (N / 256 ^ (K - (j + 1)))).toNat : Int)) := Lib.hid (by rw [← hq, BitVec.toNat_ofNat]; omega)
      clear hq hk0 ej ho1 hown' ho
      go_wp2
      go_roundg j
      case measure => omega
      case rel =>
        rw [hm.out]
        refine ⟨val_int ?_, rfl, by omega, ?_, hbel.setCell (Nat.le_refl _) _⟩
        · rw [HQ.out, show K - j = (K - (j + 1)) + 1 by omega, Nat.pow_succ, ← Nat.div_div_eq_div_mul]
          omega
        · have := hset.out
          rw [be_set N K j (by omega)] at this
          exact this

set_option maxHeartbeats 400000 in
theorem xuint_bad (m size : Int) (w : World) (h : size < 1 ∨ 8 < size) :
    Calls Try.prog 27 #[.int .u64 m, .int .i64 size] w fun e w' => e = .returned (.slice none 0 0) ∧ w = w' := by
  rcases h with h | h
  · go_enter Try.func27, Try.ntmps27
    go_wp2
    go_ret
    exact ⟨rfl, rfl⟩
  · have t1 : decide (size < 1) = false := by simp; omega
    go_enter Try.func27, Try.ntmps27
    go_wp2
    go_ret
    exact ⟨rfl, rfl⟩
theorem xuint_any (m size : Int) (N : Nat) (hm : m = (N : Int)) (w : World) (hN : N < 18446744073709551616) :
    Calls Try.prog 27 #[.int .u64 m, .int .i64 size] w fun e w' => ∃ v, e = .returned v ∧ Ow w' w.heap.size 5 v (encU N size) ∧ Below w.heap.size w w' := by
  subst hm
  by_cases hs : 1 ≤ size ∧ size ≤ 8
  · obtain ⟨K, rfl⟩ := Int.eq_ofNat_of_zero_le (show 0 ≤ size by omega)
    have he : encU N (K : Int) = be N K := by unfold encU; rw [if_pos hs, Int.toNat_natCast]
    rw [he]
    exact xuint_ok N K w hN (by omega) (by omega)
  · have he : encU N size = [] := by unfold encU; rw [if_neg hs]
    rw [he]
    refine (xuint_bad (N : Int) size w (by omega)).mono fun e w' ⟨h1, h2⟩ => ⟨_, h1, World.ownsRow_nil _ _ _ _, ?_⟩
    rw [← h2]
    exact Below.refl _ _
end Go.Proofs.Ytjjfamkljcipgaa
