/-
  The walk of package cuc's Encode.
-/
import Derived.Test.YtboapfkgkehfcaaCucW
import Derived.Test.YtboapfkgkehfcaaOctW1
import Derived.Test.YtboapfkgkehfcaaHand
namespace Go.Proofs.Ytboapfkgkehfcaa
open Go.RowKit

theorem shl_fine (x F : Nat) (hx : x < 256) (h1 : 1 ≤ F) (h3 : F ≤ 3) : Op.shift .shl .u64 (x : Int) .i64 (8 * ((F : Int) - 1)) = pure (.int .u64 ((x * 256 ^ (F - 1) : Nat) : Int)) := by
  have : F = 1 ∨ F = 2 ∨ F = 3 := by omega
  rcases this with rfl | rfl | rfl
  all_goals
    rw [shift_shl_any _ _ _ _ (by decide), wrap64]
    congr 2
  · show (x : Int) * 1 % 18446744073709551616 = ((x * 1 : Nat) : Int); omega
  · show (x : Int) * 256 % 18446744073709551616 = ((x * 256 : Nat) : Int); omega
  · show (x : Int) * 65536 % 18446744073709551616 = ((x * 65536 : Nat) : Int); omega
theorem shl_tick (T F X : Nat) (h1 : 1 ≤ F) (h3 : F ≤ 3) (hX : X = T % 256 * 256 ^ (F - 1)) : Op.shift .shl .u64 (IntKind.u64.wrap ((T : Int).tmod 256)) .i64 (8 * ((F : Int) - 1)) = pure (.int .u64 (X : Int)) := by
  have e : IntKind.u64.wrap ((T : Int).tmod 256) = ((T % 256 : Nat) : Int) := by
    rw [wrap64, Int.tmod_eq_emod_of_nonneg (by omega)]
    omega
  rw [e, shl_fine _ _ (Nat.mod_lt _ (by decide)) h1 h3, hX]

theorem encU_be (n k : Nat) (h1 : 1 ≤ k) (h8 : k ≤ 8) : encU n (k : Int) = be n k := by unfold encU; rw [if_pos (by omega), Int.toNat_natCast]
theorem code_enc0 (T C : Nat) (h1 : 1 ≤ C) (h4 : C ≤ 4) : ([] ++ encU (12 + 4 * C + 0) 1) ++ encU (T / 256) (C : Int) = code T C 0 := by
  rw [encU_be _ C h1 (by omega)]
  simp [code, fin, encU, be]
theorem code_enc (T C F X : Nat) (h1 : 1 ≤ C) (h4 : C ≤ 4) (hF : F ≠ 0) (hF3 : F ≤ 3) (hX : X = T % 256 * 256 ^ (F - 1)) : (([] ++ encU (12 + 4 * C + F) 1) ++ encU (T / 256) (C : Int)) ++ encU X (F : Int) = code T C F := by
  rw [encU_be _ C h1 (by omega), encU_be _ F (by omega) (by omega), hX]
  simp [code, fin, encU, be, hF]

set_option maxHeartbeats 1000000 in
theorem encode_bad (t c f : Int) (w : World) (h : cvl c f = false) :
    Calls Try.prog 8 #[.int .i64 t, .agg #[.int .i64 c, .int .i64 f]] w fun e w' => e = .returned (.tuple #[.slice none 0 0, .int .i64 1]) ∧ Below w.heap.size w w' := by
  have hv := fun W => fvalid_any c f W
  have hb0 := bel_new w (.cells #[.int .i64 c, .int .i64 f] 23)
  simp only [h] at hv
  clear h
  go_enter Try.func8, Try.ntmps8
  go_wp2_with fail
  refine (hv _).mono ?_
  rintro e w1 ⟨rfl, hb⟩
  have hb1 := hb0.trans (hb.mono hb0.size)
  go_wp2
  go_ret2
  exact ⟨rfl, hb1⟩

set_option maxHeartbeats 1000000 in
theorem encode_out (t c f : Int) (w : World) (h : cvl c f = true) (ht : ¬ (0 ≤ t ∧ t < capT c)) :
    Calls Try.prog 8 #[.int .i64 t, .agg #[.int .i64 c, .int .i64 f]] w fun e w' => e = .returned (.tuple #[.slice none 0 0, .int .i64 10]) ∧ Below w.heap.size w w' := by
  have hv := fun W => fvalid_any c f W
  have hF0 := Fm_new w 23 c f
  have hb0 := bel_new w (.cells #[.int .i64 c, .int .i64 f] 23)
  have hu := fun W => ftime_any t W
  have hl := fun W => flast_any c f W h
  obtain ⟨c1, c2, _, _⟩ := cvl_iff.1 h
  have hcap := capT_le c1 c2
  simp only [h] at hv
  obtain ⟨K, hK⟩ : ∃ K, K = capT c - 1 := ⟨_, rfl⟩
  simp only [← hK] at hl
  by_cases hr : 0 ≤ t ∧ t ≤ 1099511627776
  · rw [decide_eq_true hr] at hu
    have hg : K < t := by omega
    clear hK hcap ht
    go_enter Try.func8, Try.ntmps8
    go_wp2_with fail
    refine (hv _).mono ?_
    rintro e w1 ⟨rfl, hb⟩
    have hb1 := hb0.trans (hb.mono hb0.size)
    have hF1 := hF0.keep hb
    clear hb
    go_wp2_with fail
    refine (hu _).mono ?_
    rintro e w2 ⟨rfl, rfl⟩
    obtain ⟨_, x0, x1⟩ := hF1
    go_wp2_with fail
    refine (hl _).mono ?_
    rintro e w2 ⟨rfl, hb⟩
    have hb2 := hb1.trans (hb.mono hb1.size)
    clear hb x0 x1
    go_wp2
    go_ret2
    exact ⟨rfl, hb2⟩
  · rw [decide_eq_false hr] at hu
    clear hK hcap ht
    go_enter Try.func8, Try.ntmps8
    go_wp2_with fail
    refine (hv _).mono ?_
    rintro e w1 ⟨rfl, hb⟩
    have hb1 := hb0.trans (hb.mono hb0.size)
    clear hb
    go_wp2_with fail
    refine (hu _).mono ?_
    rintro e w2 ⟨rfl, rfl⟩
    go_wp2
    go_ret2
    exact ⟨rfl, hb1⟩

set_option maxHeartbeats 2000000 in
theorem encode_ok (T C F : Nat) (w : World) (hC1 : 1 ≤ C) (hC4 : C ≤ 4) (hF3 : F ≤ 3) (ht : T < 256 ^ (C + 1)) :
    Calls Try.prog 8 #[.int .i64 (T : Int), .agg #[.int .i64 (C : Int), .int .i64 (F : Int)]] w fun e w' => ∃ v, e = .returned (.tuple #[v, .int .i64 0]) ∧ Ow w' w.heap.size 5 v (code T C F) ∧ Below w.heap.size w w' := by
  have h : cvl (C : Int) (F : Int) = true := cvl_iff.2 (by omega)
  have hv := fun W => fvalid_any (C : Int) (F : Int) W
  have hF0 := Fm_new w 23 (C : Int) (F : Int)
  have hb0 := bel_new w (.cells #[.int .i64 (C : Int), .int .i64 (F : Int)] 23)
  have hu := fun W => ftime_any (T : Int) W
  have hl := fun W => flast_any (C : Int) (F : Int) W h
  have hpre := fun W => fpre_any (C : Int) (F : Int) W h
  obtain ⟨c1, c2, p1, p2⟩ := cvl_iff.1 h
  have hcap := capT_le c1 c2
  have hcapT : (T : Int) < capT (C : Int) := by unfold capT; rw [Int.toNat_natCast]; omega
  simp only [h] at hv
  rw [decide_eq_true (show 0 ≤ (T : Int) ∧ (T : Int) ≤ 1099511627776 by omega)] at hu
  obtain ⟨K, hK⟩ : ∃ K, K = capT (C : Int) - 1 := ⟨_, rfl⟩
  simp only [← hK] at hl
  have hg : decide (K < (T : Int)) = false := by simp; omega
  have hT64 : (T : Int) < 1099511627776 := by omega
  clear hK hcap hcapT ht
  go_enter Try.func8, Try.ntmps8
  go_wp2_with fail
  refine (hv _).mono ?_
  rintro e w1 ⟨rfl, hb⟩
  have hb1 := hb0.trans (hb.mono hb0.size)
  have hF1 := hF0.keep hb
  clear hb
  go_wp2_with fail
  refine (hu _).mono ?_
  rintro e w2 ⟨rfl, rfl⟩
  obtain ⟨hlt, x0, x1⟩ := hF1
  go_wp2_with fail
  refine (hl _).mono ?_
  rintro e w2 ⟨rfl, hb⟩
  have hb2 := hb1.trans (hb.mono hb1.size)
  have hF2 := (show Fm w1 w.heap.size (C : Int) (F : Int) from ⟨hlt, x0, x1⟩).keep hb
  clear hb x0 x1 hlt
  go_wp2_with fail
  have hlen1 : ([] ++ encU (12 + 4 * C + F) 1 : List Byte).length < 1000000 := by simp [encU, be_len]
  refine wp_region_held_drew (S := (fun w' => w'.cell? ⟨w.heap.size, 0, none⟩ = some (.int .i64 (C : Int)) ∧ w'.cell? ⟨w.heap.size, 1, none⟩ = some (.int .i64 (F : Int)))) (by kernel_rfl) (hF2.2) (fun hHeld => ?_)
  refine wpAnyH_here 1 (v := ?_) rfl (by kernel_rfl) (by kernel_rfl) (by kernel_rfl) (fun _ _ _ h => h) (Or.inl ⟨by rfl, ?_⟩) hHeld ?_
  rotate_left
  · intro w hSw; (try dsimp only at hSw); go_simp; all_goals (with_reducible rfl)
  try simp only [Act.put, List.setIfInBounds_toArray, List.set_cons_zero, List.set_cons_succ]
  refine wpAnyH_here 5 (v := ?_) rfl (by kernel_rfl) (by kernel_rfl) (by kernel_rfl) (fun _ _ _ h => h) (Or.inl ⟨by rfl, ?_⟩) hHeld ?_
  rotate_left
  · intro w hSw; (try dsimp only at hSw); go_simp; all_goals (with_reducible rfl)
  try simp only [Act.put, List.setIfInBounds_toArray, List.set_cons_zero, List.set_cons_succ]
  refine wpAnyH_here 6 (v := ?_) rfl (by kernel_rfl) (by kernel_rfl) (by kernel_rfl) (fun _ _ _ h => h) (Or.inl ⟨by rfl, ?_⟩) hHeld ?_
  rotate_left
  · intro w hSw; (try dsimp only at hSw); go_simp; all_goals (with_reducible rfl)
  try simp only [Act.put, List.setIfInBounds_toArray, List.set_cons_zero, List.set_cons_succ]
  refine wpAnyH_here 7 (v := ?_) rfl (by kernel_rfl) (by kernel_rfl) (by kernel_rfl) (fun _ _ _ h => h) (Or.inl ⟨by rfl, ?_⟩) hHeld ?_
  rotate_left
  · intro w hSw; (try dsimp only at hSw); go_simp; all_goals (with_reducible rfl)
  try simp only [Act.put, List.setIfInBounds_toArray, List.set_cons_zero, List.set_cons_succ]
  refine wpAnyH_here 8 (v := ?_) rfl (by kernel_rfl) (by kernel_rfl) (by kernel_rfl) (fun _ _ _ h => h) (Or.inl ⟨by rfl, ?_⟩) hHeld ?_
  rotate_left
  · intro w hSw; (try dsimp only at hSw); go_simp; all_goals (with_reducible rfl)
  try simp only [Act.put, List.setIfInBounds_toArray, List.set_cons_zero, List.set_cons_succ]
  refine wpAnyH_here 9 (v := ?_) rfl (by kernel_rfl) (by kernel_rfl) (by kernel_rfl) (fun _ _ _ h => h) (Or.inl ⟨by rfl, ?_⟩) hHeld ?_
  rotate_left
  · intro w hSw; (try dsimp only at hSw); go_simp; all_goals (with_reducible rfl)
  try simp only [Act.put, List.setIfInBounds_toArray, List.set_cons_zero, List.set_cons_succ]
  refine wpAnyH_alone 0 rfl (by kernel_rfl) (fun K hK => ?_)
  go_simp
  (go_at_call 21; refine (onew_any _).mono ?_; rintro e W1 ⟨rfl, hw0⟩; have hW1 : OW W1 w2.heap.size w2.heap.size none [] := (by rw [← hw0]; exact OW_new _ _); have hB1 : Below w2.heap.size w2 W1 := (by rw [← hw0]; exact (Below.refl _ _).drew.alloc (Nat.le_refl _) _); clear hw0)
  refine hK.out _ _ ((hF2.keep hB1).2) (fun hHeld => ?_)
  clear hK K
  try simp only [Act.put, List.setIfInBounds_toArray, List.set_cons_zero, List.set_cons_succ]
  refine wpAnyH_alone 2 rfl (by kernel_rfl) (fun K hK => ?_)
  go_simp
  (go_at_call 23; refine (hpre _).mono ?_; rintro e W2 ⟨rfl, hb⟩; have hW2 := hW1.below hb; have hB2 := hB1.trans (hb.mono hB1.size); clear hb)
  refine hK.out _ _ ((hF2.keep hB2).2) (fun hHeld => ?_)
  clear hK K
  try simp only [Act.put, List.setIfInBounds_toArray, List.set_cons_zero, List.set_cons_succ]
  refine wpAnyH_here 3 (v := ?_) rfl (by kernel_rfl) (by kernel_rfl) (by kernel_rfl) (fun _ _ _ h => h) (Or.inl ⟨by rfl, ?_⟩) hHeld ?_
  rotate_left
  · intro w hSw; (try dsimp only at hSw); go_simp; all_goals (with_reducible rfl)
  try simp only [Act.put, List.setIfInBounds_toArray, List.set_cons_zero, List.set_cons_succ]
  refine wpAnyH_alone 4 rfl (by kernel_rfl) (fun K hK => ?_)
  go_simp
  (go_at_call 22; refine (ouint_any W2 w2.heap.size w2.heap.size none [] _ 1 (12 + 4 * C + F) (by simp only [wrap64]; omega) hW2 (by decide) hB2.size).mono ?_; rintro e W3 ⟨rfl, hP⟩; have hB3 := hB2.trans (hP.below hW2 (Nat.le_refl _) (Nat.le_refl _)); obtain ⟨r3, hW3, _, _⟩ := hP)
  refine hK.out _ _ ((hF2.keep hB3).2) (fun hHeld => ?_)
  clear hK K
  try simp only [Act.put, List.setIfInBounds_toArray, List.set_cons_zero, List.set_cons_succ]
  refine wpAnyH_alone 10 rfl (by kernel_rfl) (fun K hK => ?_)
  go_simp
  (go_at_call 22; refine (ouint_any W3 w2.heap.size w2.heap.size r3 _ _ (C : Int) (T / 256) (by simp only [wrap64, IntKind.wrap_i64]; omega) hW3 hlen1 hB3.size).mono ?_; rintro e W4 ⟨rfl, hP⟩; have hB4 := hB3.trans (hP.below hW3 (Nat.le_refl _) (Nat.le_refl _)); obtain ⟨r4, hW4, _, _⟩ := hP)
  refine hK.out _ _ ((hF2.keep hB4).2) (fun hHeld => ?_)
  clear hK K
  try simp only [Act.put, List.setIfInBounds_toArray, List.set_cons_zero, List.set_cons_succ]
  refine wpAnyH_here 11 (v := ?_) rfl (by kernel_rfl) (by kernel_rfl) (by kernel_rfl) (fun _ _ _ h => h) (Or.inl ⟨by rfl, ?_⟩) hHeld ?_
  rotate_left
  · intro w hSw; (try dsimp only at hSw); go_simp; all_goals (with_reducible rfl)
  try simp only [Act.put, List.setIfInBounds_toArray, List.set_cons_zero, List.set_cons_succ]
  refine wpAnyH_done (by kernel_rfl) ?_ _
  have hF4 := hF2.keep hB4
  have hlen2 : (([] ++ encU (12 + 4 * C + F) 1) ++ encU (T / 256) (C : Int) : List Byte).length < 1000000 := by simp [encU, be_len]; split <;> simp [be_len]; omega
  obtain ⟨x0, x1⟩ := hF4.2
  clear hF0 hb0 hu hpre hv hl hg hb1
  by_cases hf : F = 0
  · subst hf
    go_wp2_with fail
    refine (obytes_any W4 w2.heap.size w2.heap.size r4 _ hW4 hlen2).mono ?_
    rintro e W5 ⟨v, rfl, hown, hb⟩
    have hB5 := hB4.trans (hb.mono hB4.size)
    go_wp2
    go_ret2
    rw [code_enc0 T C hC1 hC4] at hown
    exact ⟨v, rfl, hown.more (by have := hb2.size; have := hB4.size; omega), hb2.trans (hB5.mono hb2.size)⟩
  · have f1 : (1 : Int) ≤ (F : Int) := by omega
    have f0 : decide (0 < F) = true := by simp; omega
    have f2 : decide (0 < (F : Int)) = true := by simp; omega
    obtain ⟨X, hX⟩ : ∃ X, X = T % 256 * 256 ^ (F - 1) := ⟨_, rfl⟩
    have hshl := shl_tick T F X (by omega) hF3 hX
    have hsp := fun W => fspare_any (C : Int) (F : Int) W f1 p2
    have HF3 := Lib.hid hF3
    have HX := Lib.hid hX
    clear p1 p2 hF3 hX h
    go_wp2_with fail
    refine wp_region_held_drew (S := (fun w' => w'.cell? ⟨w.heap.size, 0, none⟩ = some (.int .i64 (C : Int)) ∧ w'.cell? ⟨w.heap.size, 1, none⟩ = some (.int .i64 (F : Int)))) (by kernel_rfl) (⟨x0, x1⟩) (fun hHeld => ?_)
    refine wpAnyH_here 0 (v := ?_) rfl (by kernel_rfl) (by kernel_rfl) (by kernel_rfl) (fun _ _ _ h => h) (Or.inl ⟨by rfl, ?_⟩) hHeld ?_
    rotate_left
    · intro w hSw; (try dsimp only at hSw); go_simp; all_goals (with_reducible rfl)
    try simp only [Act.put, List.setIfInBounds_toArray, List.set_cons_zero, List.set_cons_succ]
    refine wpAnyH_here 1 (v := ?_) rfl (by kernel_rfl) (by kernel_rfl) (by kernel_rfl) (fun _ _ _ h => h) (Or.inl ⟨by rfl, ?_⟩) hHeld ?_
    rotate_left
    · intro w hSw; (try dsimp only at hSw); go_simp; all_goals (with_reducible rfl)
    try simp only [Act.put, List.setIfInBounds_toArray, List.set_cons_zero, List.set_cons_succ]
    refine wpAnyH_here 2 (v := ?_) rfl (by kernel_rfl) (by kernel_rfl) (by kernel_rfl) (fun _ _ _ h => h) (Or.inl ⟨by rfl, ?_⟩) hHeld ?_
    rotate_left
    · intro w hSw; (try dsimp only at hSw); go_simp; all_goals (with_reducible rfl)
    try simp only [Act.put, List.setIfInBounds_toArray, List.set_cons_zero, List.set_cons_succ]
    refine wpAnyH_here 3 (v := ?_) rfl (by kernel_rfl) (by kernel_rfl) (by kernel_rfl) (fun _ _ _ h => h) (Or.inl ⟨by rfl, ?_⟩) hHeld ?_
    rotate_left
    · intro w hSw; (try dsimp only at hSw); go_simp; all_goals (with_reducible rfl)
    try simp only [Act.put, List.setIfInBounds_toArray, List.set_cons_zero, List.set_cons_succ]
    refine wpAnyH_here 4 (v := ?_) rfl (by kernel_rfl) (by kernel_rfl) (by kernel_rfl) (fun _ _ _ h => h) (Or.inl ⟨by rfl, ?_⟩) hHeld ?_
    rotate_left
    · intro w hSw; (try dsimp only at hSw); go_simp; all_goals (with_reducible rfl)
    try simp only [Act.put, List.setIfInBounds_toArray, List.set_cons_zero, List.set_cons_succ]
    refine wpAnyH_here 7 (v := ?_) rfl (by kernel_rfl) (by kernel_rfl) (by kernel_rfl) (fun _ _ _ h => h) (Or.inl ⟨by rfl, ?_⟩) hHeld ?_
    rotate_left
    · intro w hSw; (try dsimp only at hSw); go_simp; all_goals (with_reducible rfl)
    try simp only [Act.put, List.setIfInBounds_toArray, List.set_cons_zero, List.set_cons_succ]
    refine wpAnyH_here 8 (v := ?_) rfl (by kernel_rfl) (by kernel_rfl) (by kernel_rfl) (fun _ _ _ h => h) (Or.inl ⟨by rfl, ?_⟩) hHeld ?_
    rotate_left
    · intro w hSw; (try dsimp only at hSw); go_simp; all_goals (with_reducible rfl)
    try simp only [Act.put, List.setIfInBounds_toArray, List.set_cons_zero, List.set_cons_succ]
    refine wpAnyH_alone 5 rfl (by kernel_rfl) (fun K hK => ?_)
    go_simp
    (go_at_call 24; refine (hsp _).mono ?_; rintro e W5 ⟨rfl, hb⟩; have hW5 := hW4.drew.below hb; have hB5 := hB4.drew.trans (hb.mono hB4.drew.size); clear hb)
    refine hK.out _ _ ((hF2.keep hB5).2) (fun hHeld => ?_)
    clear hK K
    try simp only [Act.put, List.setIfInBounds_toArray, List.set_cons_zero, List.set_cons_succ]
    refine wpAnyH_here 6 (v := ?_) rfl (by kernel_rfl) (by kernel_rfl) (by kernel_rfl) (fun _ _ _ h => h) (Or.inl ⟨by rfl, ?_⟩) hHeld ?_
    rotate_left
    · intro w hSw; (try dsimp only at hSw); go_simp; all_goals (with_reducible rfl)
    try simp only [Act.put, List.setIfInBounds_toArray, List.set_cons_zero, List.set_cons_succ]
    refine wpAnyH_alone 9 rfl (by kernel_rfl) (fun K hK => ?_)
    go_simp
    (go_at_call 22; refine (ouint_any W5 w2.heap.size w2.heap.size r4 _ _ (F : Int) X rfl hW5 hlen2 hB5.size).mono ?_; rintro e W6 ⟨rfl, hP⟩; have hB6 := hB5.trans (hP.below hW5 (Nat.le_refl _) (Nat.le_refl _)); obtain ⟨r6, hW6, _, _⟩ := hP)
    refine hK.out _ _ ((hF2.keep hB6).2) (fun hHeld => ?_)
    clear hK K
    try simp only [Act.put, List.setIfInBounds_toArray, List.set_cons_zero, List.set_cons_succ]
    refine wpAnyH_done (by kernel_rfl) ?_ _
    go_wp2_with fail
    have hlen3 : ((([] ++ encU (12 + 4 * C + F) 1) ++ encU (T / 256) (C : Int)) ++ encU X (F : Int) : List Byte).length < 1000000 := by
      rw [code_enc T C F X hC1 hC4 hf HF3.out HX.out, code_len]
      have := HF3.out
      omega
    refine (obytes_any W6 w2.heap.size w2.heap.size r6 _ hW6 hlen3).mono ?_
    rintro e W7 ⟨v, rfl, hown, hb⟩
    have hB7 := hB6.trans (hb.mono hB6.size)
    go_wp2
    go_ret2
    rw [code_enc T C F X hC1 hC4 hf HF3.out HX.out] at hown
    exact ⟨v, rfl, hown.more (by have := hb2.size; have := hB6.size; omega), hb2.trans (hB7.mono hb2.size)⟩

theorem Ow_nil (w : World) (base : Nat) (e : TypeId) : Ow w base e (.slice none 0 0) [] := World.ownsRow_nil _ _ _ _
theorem encode_any (t c f : Int) (w : World) :
    Calls Try.prog 8 #[.int .i64 t, .agg #[.int .i64 c, .int .i64 f]] w fun e w' => ∃ v, e = .returned (.tuple #[v, .int .i64 (eErr t c f)]) ∧ Ow w' w.heap.size 5 v (eVal t c f) ∧ Below w.heap.size w w' := by
  cases h : cvl c f with
  | false =>
    have he := eErr_bad (t := t) h
    rw [he, eVal_bad (by rw [he]; decide)]
    exact (encode_bad t c f w h).mono fun e w' ⟨h1, h2⟩ => ⟨_, h1, Ow_nil _ _ _, h2⟩
  | true =>
    by_cases ht : 0 ≤ t ∧ t < capT c
    · have he := eErr_ok h ht
      rw [he, eVal_ok he]
      obtain ⟨C, F, rfl, rfl, hC1, hC4, hF3⟩ := cvl_nat h
      obtain ⟨T, rfl⟩ := Int.eq_ofNat_of_zero_le ht.1
      simp only [capT, Int.toNat_natCast] at ht ⊢
      exact encode_ok T C F w hC1 hC4 hF3 (by omega)
    · have he := eErr_out h ht
      rw [he, eVal_bad (by rw [he]; decide)]
      exact (encode_out t c f w h ht).mono fun e w' ⟨h1, h2⟩ => ⟨_, h1, Ow_nil _ _ _, h2⟩
end Go.Proofs.Ytboapfkgkehfcaa
