/-
  The walk of the reference's Encode of layer 5.
-/
import Derived.Test.YtboapfkgkehfcaaRef05
namespace Go.Proofs.Ytboapfkgkehfcaa
open Go.RowKit

theorem Ow_one (w : World) (base : Nat) (e : TypeId) (x : Byte) (m : Int) (hm : m = (x.toNat : Int)) (h : base ≤ w.heap.size) : Ow (w.alloc (.cells #[.int .u8 m] e)) base e (.slice (some ⟨w.heap.size, 0, none⟩) 1 1) [x] := by
  subst hm
  exact ⟨rfl, .inr ⟨w.heap.size, 1, #[B8 x], rfl, h, heap_alloc_new w _, Nat.le_refl _, by decide, rfl, rfl⟩⟩

/-- the first i of the fine bytes -/
def fz (x i : Nat) : List Byte := (BitVec.ofNat 8 x :: List.replicate i 0#8).take i
theorem fz_len (x i : Nat) : (fz x i).length = i := by simp [fz]
theorem fz_next (x i : Nat) : fz x (i + 1) = fz x i ++ [if i = 0 then BitVec.ofNat 8 x else 0#8] := by
  cases i with
  | zero => simp [fz]
  | succ i =>
    simp only [fz, List.take_succ_cons, List.take_replicate]
    rw [if_neg (by omega), List.cons_append, show min (i + 1) (i + 1 + 1) = i + 1 by omega, show min i (i + 1) = i by omega, List.replicate_succ']
theorem fz_fin (x f : Nat) (hx : x < 256) : fz x f = fin x f := by
  cases f with
  | zero => simp [fz, fin]
  | succ k =>
    have h := fin_cons (BitVec.ofNat 8 x) (List.replicate k 0#8) (by simp)
    rw [toNat8 x hx, List.length_replicate] at h
    rw [h]
    simp [fz, List.take_replicate]

set_option maxHeartbeats 1000000 in
theorem xencode_bad (t c f : Int) (w : World) (h : cvl c f = false) :
    Calls Try.prog 9 #[.int .i64 t, .agg #[.int .i64 c, .int .i64 f]] w fun e w' => e = .returned (.tuple #[.slice none 0 0, .int .i64 1]) ∧ Below w.heap.size w w' := by
  have hv := fun W => xfvalid_any c f W
  have hb0 := bel_new w (.cells #[.int .i64 c, .int .i64 f] 24)
  simp only [h] at hv
  clear h
  go_enter Try.func9, Try.ntmps9
  go_wp2_with fail
  refine (hv _).mono ?_
  rintro e w1 ⟨rfl, hb⟩
  have hb1 := hb0.trans (hb.mono hb0.size)
  go_wp2
  go_ret2
  exact ⟨rfl, hb1⟩

set_option maxHeartbeats 1000000 in
theorem xencode_out (t c f : Int) (w : World) (h : cvl c f = true) (ht : ¬ (0 ≤ t ∧ t < capT c)) :
    Calls Try.prog 9 #[.int .i64 t, .agg #[.int .i64 c, .int .i64 f]] w fun e w' => e = .returned (.tuple #[.slice none 0 0, .int .i64 10]) ∧ Below w.heap.size w w' := by
  have hv := fun W => xfvalid_any c f W
  have hF0 := Fm_new w 24 c f
  have hb0 := bel_new w (.cells #[.int .i64 c, .int .i64 f] 24)
  simp only [h] at hv
  by_cases h0 : 0 ≤ t
  · by_cases h1 : t ≤ 1099511627776
    · have hl := fun W => most_any c f W h
      obtain ⟨c1, c2, f1, f2⟩ := cvl_iff.1 h
      have hcap := capT_le c1 c2
      have hm := mostV_eq (f := f) c1 c2
      obtain ⟨K, hK⟩ : ∃ K, K = mostV c f := ⟨_, rfl⟩
      have hK0 : 0 ≤ K ∧ K ≤ 1099511627776 := by rw [hK]; unfold mostV; split <;> omega
      rw [← hK] at hm
      simp only [← hK] at hl
      have hq : K / 256 < t / 256 := by omega
      have hn : ¬ (t < 0) := by omega
      have hg : ¬ (1099511627776 < t) := by omega
      clear hK hcap hm ht h
      go_enter Try.func9, Try.ntmps9
      go_wp2_with fail
      refine (hv _).mono ?_
      rintro e w1 ⟨rfl, hb⟩
      have hb1 := hb0.trans (hb.mono hb0.size)
      obtain ⟨_, x0, x1⟩ := hF0.keep hb
      clear hb
      go_wp2_with fail
      refine (hl _).mono ?_
      rintro e w2 ⟨rfl, hb⟩
      have hb2 := hb1.trans (hb.mono hb1.size)
      clear hb x0 x1
      go_wp2
      go_ret2
      exact ⟨rfl, hb2⟩
    · have hn : decide (t < 0) = false := by simp; omega
      have hg : (1099511627776 : Int) < t := by omega
      go_enter Try.func9, Try.ntmps9
      go_wp2_with fail
      refine (hv _).mono ?_
      rintro e w1 ⟨rfl, hb⟩
      have hb1 := hb0.trans (hb.mono hb0.size)
      go_wp2
      go_ret2
      exact ⟨rfl, hb1⟩
  · have hn : t < 0 := by omega
    go_enter Try.func9, Try.ntmps9
    go_wp2_with fail
    refine (hv _).mono ?_
    rintro e w1 ⟨rfl, hb⟩
    have hb1 := hb0.trans (hb.mono hb0.size)
    go_wp2
    go_ret2
    exact ⟨rfl, hb1⟩

set_option maxHeartbeats 2000000 in
theorem xencode_ok (t : Int) (T C F : Nat) (w : World) (h0 : 0 ≤ t) (hTt : Hid (t = (T : Int))) (hC1 : 1 ≤ C) (hC4 : C ≤ 4) (hF3 : F ≤ 3) (ht : T < 256 ^ (C + 1)) :
    Calls Try.prog 9 #[.int .i64 t, .agg #[.int .i64 (C : Int), .int .i64 (F : Int)]] w fun e w' => ∃ v, e = .returned (.tuple #[v, .int .i64 0]) ∧ Ow w' w.heap.size 5 v (code T C F) ∧ Below w.heap.size w w' := by
  have h : cvl (C : Int) (F : Int) = true := cvl_iff.2 (by omega)
  have hv := fun W => xfvalid_any (C : Int) (F : Int) W
  have hF0 := Fm_new w 24 (C : Int) (F : Int)
  have hb0 := bel_new w (.cells #[.int .i64 (C : Int), .int .i64 (F : Int)] 24)
  have hl := fun W => most_any (C : Int) (F : Int) W h
  obtain ⟨c1, c2, p1, p2⟩ := cvl_iff.1 h
  have hcap := capT_le c1 c2
  have hcapT : t < capT (C : Int) := by have := hTt.out; unfold capT; rw [Int.toNat_natCast]; omega
  have hm := mostV_eq (f := (F : Int)) c1 c2
  simp only [h] at hv
  obtain ⟨K, hK⟩ : ∃ K, K = mostV (C : Int) (F : Int) := ⟨_, rfl⟩
  have hK0 : 0 ≤ K ∧ K ≤ 1099511627776 := by rw [hK]; unfold mostV; split <;> omega
  rw [← hK] at hm
  simp only [← hK] at hl
  have hq : ¬ (K / 256 < t / 256) := by omega
  have hn : ¬ (t < 0) := by omega
  have hg : ¬ (1099511627776 < t) := by omega
  obtain ⟨N, hN⟩ : ∃ N, N = T / 256 := ⟨_, rfl⟩
  have HN : Hid (t / 256 = (N : Int)) := Lib.hid (by have := hTt.out; omega)
  have HT : Hid (N = T / 256) := Lib.hid hN
  have hN8 : N < 4294967296 := by have := hTt.out; omega
  obtain ⟨x, hx⟩ : ∃ x, x = T % 256 := ⟨_, rfl⟩
  have HX : Hid (t % 256 = (x : Int)) := Lib.hid (by have := hTt.out; omega)
  have HXT : Hid (x = T % 256) := Lib.hid hx
  have hx8 : x < 256 := by omega
  clear hK hcap hcapT ht hm h hN hx
  go_enter Try.func9, Try.ntmps9
  go_wp2_with fail
  refine (hv _).mono ?_
  rintro e w1 ⟨rfl, hb⟩
  have hb1 := hb0.trans (hb.mono hb0.size)
  have hF1 := hF0.keep hb
  obtain ⟨hlt, x0, x1⟩ := hF0.keep hb
  clear hb
  go_wp2_with fail
  refine (hl _).mono ?_
  rintro e w2 ⟨rfl, hb⟩
  have hb2 := hb1.trans (hb.mono hb1.size)
  have hF2 := hF1.keep hb
  clear hb x0 x1 hlt hF1 hF0 hb0 hb1 hv hl
  go_wp2_with fail

  go_loopg [6, 7, 8] C (fun gk tl n i wr => ∃ j : Nat, j + gk = C ∧ i = .int .i64 (j : Int) ∧ n = .int .i64 ((N / 256 ^ j : Nat) : Int) ∧ Ow wr w2.heap.size 5 tl (be N j) ∧ Below w2.heap.size w2 wr)
  case atStart => exact ⟨0, by omega, rfl, by rw [HN.out]; simp, Ow_nil _ _ _, Below.refl _ _⟩
  case round =>
    obtain ⟨j, hj, rfl, rfl, ho, hbel⟩ := hrel
    obtain ⟨_, x0, x1⟩ := hF2.keep hbel
    obtain ⟨q, hqq⟩ : ∃ q, q = N / 256 ^ j := ⟨_, rfl⟩
    simp only [← hqq]
    have HQ := Lib.hid hqq
    clear hqq
    by_cases hlt : j < C
    · obtain ⟨A, c, rfl, hA, hAn, _⟩ := ho.reads
      obtain ⟨L, hL⟩ : ∃ L, L = be N j := ⟨_, rfl⟩
      have hLl : L.length ≤ 4 := by rw [hL, be_len]; omega
      have HLL := Lib.hid hL
      rw [← hL] at ho hA
      simp only [← hL]
      clear hL

      have hq9 : q ≤ N := by rw [HQ.out]; exact Nat.div_le_self _ _
      have hq10 : (q : Int) < 4294967296 := by omega
      have hm : Hid ((q : Int) % 256 = ((BitVec.ofNat 8 q).toNat : Int)) := Lib.hid (by rw [BitVec.toNat_ofNat]; omega)
      have hown1 := Ow_one wr w2.heap.size 5 (BitVec.ofNat 8 q) ((q : Int) % 256) hm.out hbel.size
      have hbel1 := hbel.alloc hbel.size (.cells #[.int .u8 ((q : Int) % 256)] 5)
      have hlt2 : (j : Int) < (C : Int) := by omega
      go_wp2_with (at_builtin; refine wpList_app _ is_bytes rfl (.tmp 39) (.tmp 40) rfl (m := [BitVec.ofNat 8 q]) rfl hown1 rfl (l := L) (hA.below (bel_new _ _)) hAn (by simp; omega) hbel1.size ?_; intro v2 w3 hown2 hgrow2)
      go_roundg (gk - 1)
      case measure => omega
      case rel =>
        refine ⟨j + 1, by omega, by go_num, val_int ?_, ?_, hbel1.grown hgrow2 hbel1.size (Ow.base_le (l := [BitVec.ofNat 8 q]) hown1)⟩
        · rw [Nat.pow_succ, ← Nat.div_div_eq_div_mul, ← HQ.out]; omega
        · have : be N (j + 1) = [BitVec.ofNat 8 q] ++ L := by rw [HLL.out, HQ.out]; rfl
          rw [this]
          exact hown2
    · have hjC : j = C := by omega
      subst hjC
      go_wp2_with fail
      go_loopg [6, 9] F (fun gk tl i wr2 => ∃ k : Nat, k + gk = F ∧ i = .int .i64 (k : Int) ∧ Ow wr2 w2.heap.size 5 tl (be N j ++ fz x k) ∧ Below w2.heap.size w2 wr2)
      case atStart => exact ⟨0, by omega, rfl, by simpa [fz] using ho, hbel⟩
      case round =>
        obtain ⟨k, hk, rfl, ho2, hbel2⟩ := hrel
        obtain ⟨_, y0, y1⟩ := hF2.keep hbel2
        obtain ⟨L, hL⟩ : ∃ L, L = be N j ++ fz x k := ⟨_, rfl⟩
        have hLl : L.length ≤ 8 := by rw [hL, List.length_append, be_len, fz_len]; omega
        have HLL := Lib.hid hL
        rw [← hL] at ho2
        clear hL
        by_cases hlt2 : k < F
        · obtain ⟨A, c, rfl, _⟩ := ho2.reads
          have hkI : (k : Int) < (F : Int) := by omega
          by_cases hk0 : k = 0
          · have ht8 := HX.out
            have hk1 : ((k : Int) == 0) = true := by rw [hk0]; rfl
            have hk2 : (k : Int) = 0 := by omega
            have hmx : Hid ((x : Int) = ((BitVec.ofNat 8 x).toNat : Int)) := Lib.hid (by rw [toNat8 x hx8])
            subst hk0
            go_wp2_with (at_builtin; refine wpList_app _ is_bytes rfl (.tmp 54) (.tmp 57) rfl (v := Value.slice A L.length c) (m := L) rfl (ho2.alloc _) (l := [BitVec.ofNat 8 x]) rfl (Bs_new1 _ _ _ _ hmx.out) (fun h => nomatch h) (by simp; omega) (by have := hbel2.size; simp; omega) ?_; intro v2 w3 hown2 hgrow2)
            go_roundg (gk - 1)
            case measure => omega
            case rel =>
              refine ⟨0 + 1, by omega, by go_num, ?_, (hbel2.alloc hbel2.size _).grown hgrow2 (by have := hbel2.size; simp; omega) (Ow.base_le (l := L) ho2)⟩
              rw [fz_next, ← List.append_assoc, ← HLL.out, if_pos rfl]
              exact hown2
          · have hk1 : ((k : Int) == 0) = false := by rw [beq_eq_false_iff_ne]; omega
            have hk2 : (k == 0) = false := by rw [beq_eq_false_iff_ne]; exact hk0
            go_wp2_with (at_builtin; refine wpList_app _ is_bytes rfl (.tmp 54) (.tmp 57) rfl (v := Value.slice A L.length c) (m := L) rfl (ho2.alloc _) (l := [0#8]) rfl (Bs_new1 _ _ _ _ rfl) (fun h => nomatch h) (by simp; omega) (by have := hbel2.size; simp; omega) ?_; intro v2 w3 hown2 hgrow2)
            go_roundg (gk - 1)
            case measure => omega
            case rel =>
              refine ⟨k + 1, by omega, by go_num, ?_, (hbel2.alloc hbel2.size _).grown hgrow2 (by have := hbel2.size; simp; omega) (Ow.base_le (l := L) ho2)⟩
              rw [fz_next, ← List.append_assoc, ← HLL.out, if_neg hk0]
              exact hown2
        · have hkF : k = F := by omega
          subst hkF
          obtain ⟨A, c, rfl, hA, hAn, _⟩ := ho2.reads
          have hP := Ow_one wr w2.heap.size 5 (BitVec.ofNat 8 (12 + 4 * j + k)) (16 + 4 * ((j : Int) - 1) + (k : Int)) (by rw [toNat8 _ (by omega)]; omega) hbel2.size
          have hbel3 := hbel2.alloc hbel2.size (.cells #[.int .u8 (16 + 4 * ((j : Int) - 1) + (k : Int))] 5)
          go_wp2_with (at_builtin; refine wpList_app _ is_bytes rfl (.tmp 68) (.tmp 69) rfl (m := [BitVec.ofNat 8 (12 + 4 * j + k)]) rfl hP rfl (l := L) (hA.below (bel_new _ _)) hAn (by simp; omega) hbel3.size ?_; intro v2 w3 hown2 hgrow2)
          go_ret2
          have hbel4 := hbel3.grown hgrow2 hbel3.size (Ow.base_le (l := [BitVec.ofNat 8 (12 + 4 * j + k)]) hP)
          have hcode : [BitVec.ofNat 8 (12 + 4 * j + k)] ++ L = code T j k := by
            rw [HLL.out, HT.out, HXT.out, fz_fin _ _ (Nat.mod_lt _ (by decide))]
            rfl
          rw [hcode] at hown2
          exact ⟨v2, rfl, hown2.more hb2.size, hb2.trans (hbel4.mono hb2.size)⟩

theorem xencode_any (t c f : Int) (w : World) :
    Calls Try.prog 9 #[.int .i64 t, .agg #[.int .i64 c, .int .i64 f]] w fun e w' => ∃ v, e = .returned (.tuple #[v, .int .i64 (eErr t c f)]) ∧ Ow w' w.heap.size 5 v (eVal t c f) ∧ Below w.heap.size w w' := by
  cases h : cvl c f with
  | false =>
    have he := eErr_bad (t := t) h
    rw [he, eVal_bad (by rw [he]; decide)]
    exact (xencode_bad t c f w h).mono fun e w' ⟨h1, h2⟩ => ⟨_, h1, Ow_nil _ _ _, h2⟩
  | true =>
    by_cases ht : 0 ≤ t ∧ t < capT c
    · have he := eErr_ok h ht
      rw [he, eVal_ok he]
      obtain ⟨C, F, rfl, rfl, hC1, hC4, hF3⟩ := cvl_nat h
      have hc : ((t.toNat : Nat) : Int) = t := by omega
      have ht2 := ht.2
      simp only [capT, Int.toNat_natCast] at ht2 ⊢
      exact xencode_ok t t.toNat C F w ht.1 (Lib.hid hc.symm) hC1 hC4 hF3 (by omega)
    · have he := eErr_out h ht
      rw [he, eVal_bad (by rw [he]; decide)]
      exact (xencode_out t c f w h ht).mono fun e w' ⟨h1, h2⟩ => ⟨_, h1, Ow_nil _ _ _, h2⟩
end Go.Proofs.Ytboapfkgkehfcaa
