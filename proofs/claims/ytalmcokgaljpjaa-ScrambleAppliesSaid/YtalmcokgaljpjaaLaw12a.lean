/-
  The walks of 'lives' of layer 12, and of the laws ScrambleSequence, ScrambleApplies, ScrambleBack.
-/
import Derived.Test.YtalmcokgaljpjaaScrAp
import Derived.Test.YtalmcokgaljpjaaRef12b
import Derived.Test.YtalmcokgaljpjaaHand
namespace Go.Proofs.Ytalmcokgaljpjaa.Scr
open Go.RowKit

theorem bel_new (w : World) (o : Obj) : Below w.heap.size w (w.alloc o) := (Below.refl _ _).alloc (Nat.le_refl _) _
set_option maxRecDepth 100000 in
set_option maxHeartbeats 2000000 in
theorem lives_any (w : World) : Calls Try.prog 7 #[] w fun e w' => e = .returned (.bool true) ∧ Below w.heap.size w w' := by
  have x1 := sequence_any 5 (by decide) w
  have x2 := fun W : World => sequence_any (-1) (by decide) W
  have x3 := fun W : World => apply_any (some ⟨W.heap.size, 0, none⟩) [255#8, 73#8] 2 2 (W.alloc (.cells #[.int .u8 255, .int .u8 73] 5)) (Lib.hid rfl) (Bs_new _ _ _ _ (by simp) _ (by simp)) (by decide)
  rw [show (5 : Int).toNat = 5 from rfl, seqb_5] at x1
  simp only [show (-1 : Int).toNat = 0 from rfl, show seqb 0 = [] from rfl] at x2
  simp only [app_2] at x3
  have e1 : ((str [255#8, 72#8, 14#8, 192#8, 154#8]).toList == [255, 72, 14, 192, 154]) = true := by decide +kernel
  have e2 : ((str [0#8, 1#8]).toList == [0, 1]) = true := by decide +kernel
  go_enter Try.func7, Try.ntmps7
  go_wp2_with fail
  refine x1.mono ?_
  rintro e w1 ⟨v1, rfl, o1, b1⟩
  obtain ⟨A1, c1, rfl, hA1, hn1, _, _⟩ := o1.reads_len (n := 5) rfl
  have s1 := run_str (P := Try.prog) w1 is_bytes Try.underlying9 hA1 hn1
  simp only [List.length_cons, List.length_nil, Nat.zero_add, Nat.reduceAdd] at s1
  clear x1 hA1 hn1 o1
  go_wp2_with fail
  refine (x2 _).mono ?_
  rintro e w2 ⟨v2, rfl, o2, b2⟩
  obtain ⟨A2, c2, rfl, _⟩ := o2.reads_len (n := 0) rfl
  have bel2 := b1.trans (b2.mono b1.size)
  clear x2 o2 b1 b2 s1
  have bn := bel_new w2 (.cells #[.int .u8 255, .int .u8 73] 5)
  go_wp2_with fail
  refine (x3 _).mono ?_
  rintro e w3 ⟨v3, rfl, o3, b3⟩
  obtain ⟨A3, c3, rfl, hA3, hn3, _, _⟩ := o3.reads_len (n := 2) rfl
  have s3 := run_str (P := Try.prog) w3 is_bytes Try.underlying9 hA3 hn3
  simp only [List.length_cons, List.length_nil, Nat.zero_add, Nat.reduceAdd] at s3
  have bel3 := bel2.trans ((bn.trans (b3.mono bn.size)).mono bel2.size)
  clear x3 hA3 hn3 o3 bn b3 bel2
  go_wp2
  go_ret
  exact ⟨rfl, bel3⟩

theorem conv_at (w : World) {B : Nat} {A : Option Addr} {l : List Byte} {n c : Nat} (hl : l.length = n) (hb : Bs w B A l) (hn : A = none → c = 0) :
    (convert 23 9 (.slice A n c)).run Try.prog w = .ok (.string (str l)) w := by
  subst hl
  exact run_str w is_bytes Try.underlying9 hb hn

set_option maxRecDepth 100000 in
set_option maxHeartbeats 4000000 in
theorem scrambleSequence_ok (m : Int) (w : World) (hm : m ≤ 2000) :
    Calls Try.prog 3 #[.int .i64 m] w fun e w' => e = .returned (.bool true) ∧ Below w.heap.size w w' := by
  have x1 := fun (W : World) (_ : Below w.heap.size w W) => sequence_any m (by omega) W
  have x2 := fun (W : World) (_ : Below w.heap.size w W) => rsequence_any m (by omega) W
  obtain ⟨n, hn⟩ : ∃ n, m.toNat = n := ⟨_, rfl⟩
  rw [hn] at x1 x2
  obtain ⟨E, hE⟩ : ∃ E, E = seqb n := ⟨_, rfl⟩
  have HE : Hid (E.length = n) := Lib.hid (by rw [hE, seqb_len])
  simp only [← hE] at x1 x2
  have t1 : decide (2000 < m) = false := by simp; omega
  clear hE hn hm
  have e1 : ((str E).toList == (str E).toList) = true := by simp
  go_enter Try.func3, Try.ntmps3
  go_wp2_with fail
  refine wp_region_held_drew (S := (fun w' => Below w.heap.size w w')) (by kernel_rfl) ((Below.refl _ w).drew) (fun hHeld => ?_)
  refine wpAnyH_here 0 (v := ?_) rfl (by kernel_rfl) (by kernel_rfl) (by kernel_rfl) (fun _ _ _ h => h) (Or.inl ⟨by rfl, ?_⟩) hHeld ?_
  rotate_left
  · intro w hSw; (try dsimp only at hSw); go_simp; all_goals (with_reducible rfl)
  try simp only [Act.put, List.setIfInBounds_toArray, List.set_cons_zero, List.set_cons_succ]
  refine wpAnyH_here 3 (v := ?_) rfl (by kernel_rfl) (by kernel_rfl) (by kernel_rfl) (fun _ _ _ h => h) (Or.inl ⟨by rfl, ?_⟩) hHeld ?_
  rotate_left
  · intro w hSw; (try dsimp only at hSw); go_simp; all_goals (with_reducible rfl)
  try simp only [Act.put, List.setIfInBounds_toArray, List.set_cons_zero, List.set_cons_succ]
  refine wpAnyH_alone 1 rfl (by kernel_rfl) (fun K hK => ?_)
  go_simp
  (go_at_call 8; refine (x1 _ hHeld).mono ?_; rintro e w1 ⟨v1, rfl, o1, b1⟩; obtain ⟨A1, c1, rfl, hA1, hn1, _⟩ := o1.reads_len HE.out; have bel1 := hHeld.trans (b1.mono hHeld.size))
  refine hK.out _ _ (bel1) (fun hHeld => ?_)
  clear hK K
  try simp only [Act.put, List.setIfInBounds_toArray, List.set_cons_zero, List.set_cons_succ]
  have q1 := conv_at w1 HE.out hA1 hn1
  refine wpAnyH_sharpen (S' := (fun w' => Below w.heap.size w w' ∧ (convert 23 9 (.slice A1 n c1)).run Try.prog w' = .ok (.string (str E)) w')) (fun w h => h.1) (⟨hHeld, q1⟩) (fun hHeld => ?_)
  refine wpAnyH_here 2 (v := ?_) rfl (by kernel_rfl) (by kernel_rfl) (by kernel_rfl) (fun _ _ _ h => h) (Or.inl ⟨by rfl, ?_⟩) hHeld ?_
  rotate_left
  · intro w hSw; (try dsimp only at hSw); go_simp; all_goals (with_reducible rfl)
  try simp only [Act.put, List.setIfInBounds_toArray, List.set_cons_zero, List.set_cons_succ]
  refine wpAnyH_alone 4 rfl (by kernel_rfl) (fun K hK => ?_)
  go_simp
  (go_at_call 9; refine (x2 _ bel1).mono ?_; rintro e w2 ⟨v2, rfl, o2, b2⟩; obtain ⟨A2, c2, rfl, hA2, hn2, _⟩ := o2.reads_len HE.out; have bel2 := bel1.trans (b2.mono bel1.size))
  refine hK.out _ _ (⟨bel2, conv_at w2 HE.out (hA1.below b2) hn1⟩) (fun hHeld => ?_)
  clear hK K
  try simp only [Act.put, List.setIfInBounds_toArray, List.set_cons_zero, List.set_cons_succ]
  have q2 := conv_at w2 HE.out hA2 hn2
  refine wpAnyH_sharpen (S' := (fun w' => (Below w.heap.size w w' ∧ (convert 23 9 (.slice A1 n c1)).run Try.prog w' = .ok (.string (str E)) w') ∧ (convert 23 9 (.slice A2 n c2)).run Try.prog w' = .ok (.string (str E)) w')) (fun w h => h.1) (⟨hHeld, q2⟩) (fun hHeld => ?_)
  refine wpAnyH_here 5 (v := ?_) rfl (by kernel_rfl) (by kernel_rfl) (by kernel_rfl) (fun _ _ _ h => h) (Or.inl ⟨by rfl, ?_⟩) hHeld ?_
  rotate_left
  · intro w hSw; (try dsimp only at hSw); go_simp; all_goals (with_reducible rfl)
  try simp only [Act.put, List.setIfInBounds_toArray, List.set_cons_zero, List.set_cons_succ]
  refine wpAnyH_here 6 (v := ?_) rfl (by kernel_rfl) (by kernel_rfl) (by kernel_rfl) (fun _ _ _ h => h) (Or.inl ⟨by rfl, ?_⟩) hHeld ?_
  rotate_left
  · intro w hSw; (try dsimp only at hSw); go_simp; all_goals (with_reducible rfl)
  try simp only [Act.put, List.setIfInBounds_toArray, List.set_cons_zero, List.set_cons_succ]
  refine wpAnyH_here 7 (v := ?_) rfl (by kernel_rfl) (by kernel_rfl) (by kernel_rfl) (fun _ _ _ h => h) (Or.inl ⟨by rfl, ?_⟩) hHeld ?_
  rotate_left
  · intro w hSw; (try dsimp only at hSw); go_simp; all_goals (with_reducible rfl)
  try simp only [Act.put, List.setIfInBounds_toArray, List.set_cons_zero, List.set_cons_succ]
  refine wpAnyH_alone 8 rfl (by kernel_rfl) (fun K hK => ?_)
  go_simp
  (go_at_call 7; refine (lives_any _).mono ?_; rintro e w3 ⟨rfl, b3⟩; have bel3 := bel2.trans (b3.mono bel2.size); have b23 := b2.trans (b3.mono b2.size))
  refine hK.out _ _ (⟨⟨bel3, conv_at w3 HE.out (hA1.below b23) hn1⟩, conv_at w3 HE.out (hA2.below b3) hn2⟩) (fun hHeld => ?_)
  clear hK K
  try simp only [Act.put, List.setIfInBounds_toArray, List.set_cons_zero, List.set_cons_succ]
  clear hA1 hA2 q1 q2 o1 o2
  refine wpAnyH_here 9 (v := ?_) rfl (by kernel_rfl) (by kernel_rfl) (by kernel_rfl) (fun _ _ _ h => h) (Or.inl ⟨by rfl, ?_⟩) hHeld ?_
  rotate_left
  · intro w hSw; (try dsimp only at hSw); go_simp; all_goals (with_reducible rfl)
  try simp only [Act.put, List.setIfInBounds_toArray, List.set_cons_zero, List.set_cons_succ]
  refine wpAnyH_here 10 (v := ?_) rfl (by kernel_rfl) (by kernel_rfl) (by kernel_rfl) (fun _ _ _ h => h) (Or.inl ⟨by rfl, ?_⟩) hHeld ?_
  rotate_left
  · intro w hSw; (try dsimp only at hSw); go_simp; all_goals (with_reducible rfl)
  try simp only [Act.put, List.setIfInBounds_toArray, List.set_cons_zero, List.set_cons_succ]
  refine wpAnyH_done (by kernel_rfl) ?_ _
  go_wp2
  go_ret
  exact ⟨rfl, bel3⟩

set_option maxRecDepth 100000 in
set_option maxHeartbeats 4000000 in
theorem scrambleApplies_ok (a : Option Addr) (l : List Byte) (n c : Nat) (w : World) (hl : Hid (l.length = n)) (hb : Bs w w.heap.size a l) (hm : n ≤ 2000) :
    Calls Try.prog 4 #[.slice a n c] w fun e w' => e = .returned (.bool true) ∧ Below w.heap.size w w' := by
  have x1 := fun (W : World) (hW : Below w.heap.size w W) => apply_any a l n c W hl ((hb.below hW).more hW.size) (by omega)
  have x2 := fun (W : World) (hW : Below w.heap.size w W) => rapply_any a l n c W hl ((hb.below hW).more hW.size) (by omega)
  obtain ⟨E, hE⟩ : ∃ E, E = app l := ⟨_, rfl⟩
  have HE : Hid (E.length = n) := Lib.hid (by rw [hE, app_len, hl.out])
  simp only [← hE] at x1 x2
  have t1 : decide (2000 < (n : Int)) = false := by simp; omega
  have t1' : decide (2000 < n) = false := by simp; omega
  clear hE hm
  have e1 : ((str E).toList == (str E).toList) = true := by simp
  go_enter Try.func4, Try.ntmps4
  go_wp2_with fail
  refine wp_region_held_drew (S := (fun w' => Below w.heap.size w w')) (by kernel_rfl) ((Below.refl _ w).drew) (fun hHeld => ?_)
  refine wpAnyH_here 0 (v := ?_) rfl (by kernel_rfl) (by kernel_rfl) (by kernel_rfl) (fun _ _ _ h => h) (Or.inl ⟨by rfl, ?_⟩) hHeld ?_
  rotate_left
  · intro w hSw; (try dsimp only at hSw); go_simp; all_goals (with_reducible rfl)
  try simp only [Act.put, List.setIfInBounds_toArray, List.set_cons_zero, List.set_cons_succ]
  refine wpAnyH_here 3 (v := ?_) rfl (by kernel_rfl) (by kernel_rfl) (by kernel_rfl) (fun _ _ _ h => h) (Or.inl ⟨by rfl, ?_⟩) hHeld ?_
  rotate_left
  · intro w hSw; (try dsimp only at hSw); go_simp; all_goals (with_reducible rfl)
  try simp only [Act.put, List.setIfInBounds_toArray, List.set_cons_zero, List.set_cons_succ]
  refine wpAnyH_alone 1 rfl (by kernel_rfl) (fun K hK => ?_)
  go_simp
  (go_at_call 10; refine (x1 _ hHeld).mono ?_; rintro e w1 ⟨v1, rfl, o1, b1⟩; obtain ⟨A1, c1, rfl, hA1, hn1, _⟩ := o1.reads_len HE.out; have bel1 := hHeld.trans (b1.mono hHeld.size))
  refine hK.out _ _ (bel1) (fun hHeld => ?_)
  clear hK K
  try simp only [Act.put, List.setIfInBounds_toArray, List.set_cons_zero, List.set_cons_succ]
  have q1 := conv_at w1 HE.out hA1 hn1
  refine wpAnyH_sharpen (S' := (fun w' => Below w.heap.size w w' ∧ (convert 23 9 (.slice A1 n c1)).run Try.prog w' = .ok (.string (str E)) w')) (fun w h => h.1) (⟨hHeld, q1⟩) (fun hHeld => ?_)
  refine wpAnyH_here 2 (v := ?_) rfl (by kernel_rfl) (by kernel_rfl) (by kernel_rfl) (fun _ _ _ h => h) (Or.inl ⟨by rfl, ?_⟩) hHeld ?_
  rotate_left
  · intro w hSw; (try dsimp only at hSw); go_simp; all_goals (with_reducible rfl)
  try simp only [Act.put, List.setIfInBounds_toArray, List.set_cons_zero, List.set_cons_succ]
  refine wpAnyH_alone 4 rfl (by kernel_rfl) (fun K hK => ?_)
  go_simp
  (go_at_call 11; refine (x2 _ bel1).mono ?_; rintro e w2 ⟨v2, rfl, o2, b2⟩; obtain ⟨A2, c2, rfl, hA2, hn2, _⟩ := o2.reads_len HE.out; have bel2 := bel1.trans (b2.mono bel1.size))
  refine hK.out _ _ (⟨bel2, conv_at w2 HE.out (hA1.below b2) hn1⟩) (fun hHeld => ?_)
  clear hK K
  try simp only [Act.put, List.setIfInBounds_toArray, List.set_cons_zero, List.set_cons_succ]
  have q2 := conv_at w2 HE.out hA2 hn2
  refine wpAnyH_sharpen (S' := (fun w' => (Below w.heap.size w w' ∧ (convert 23 9 (.slice A1 n c1)).run Try.prog w' = .ok (.string (str E)) w') ∧ (convert 23 9 (.slice A2 n c2)).run Try.prog w' = .ok (.string (str E)) w')) (fun w h => h.1) (⟨hHeld, q2⟩) (fun hHeld => ?_)
  refine wpAnyH_here 5 (v := ?_) rfl (by kernel_rfl) (by kernel_rfl) (by kernel_rfl) (fun _ _ _ h => h) (Or.inl ⟨by rfl, ?_⟩) hHeld ?_
  rotate_left
  · intro w hSw; (try dsimp only at hSw); go_simp; all_goals (with_reducible rfl)
  try simp only [Act.put, List.setIfInBounds_toArray, List.set_cons_zero, List.set_cons_succ]
  refine wpAnyH_here 6 (v := ?_) rfl (by kernel_rfl) (by kernel_rfl) (by kernel_rfl) (fun _ _ _ h => h) (Or.inl ⟨by rfl, ?_⟩) hHeld ?_
  rotate_left
  · intro w hSw; (try dsimp only at hSw); go_simp; all_goals (with_reducible rfl)
  try simp only [Act.put, List.setIfInBounds_toArray, List.set_cons_zero, List.set_cons_succ]
  refine wpAnyH_here 7 (v := ?_) rfl (by kernel_rfl) (by kernel_rfl) (by kernel_rfl) (fun _ _ _ h => h) (Or.inl ⟨by rfl, ?_⟩) hHeld ?_
  rotate_left
  · intro w hSw; (try dsimp only at hSw); go_simp; all_goals (with_reducible rfl)
  try simp only [Act.put, List.setIfInBounds_toArray, List.set_cons_zero, List.set_cons_succ]
  refine wpAnyH_alone 8 rfl (by kernel_rfl) (fun K hK => ?_)
  go_simp
  (go_at_call 7; refine (lives_any _).mono ?_; rintro e w3 ⟨rfl, b3⟩; have bel3 := bel2.trans (b3.mono bel2.size); have b23 := b2.trans (b3.mono b2.size))
  refine hK.out _ _ (⟨⟨bel3, conv_at w3 HE.out (hA1.below b23) hn1⟩, conv_at w3 HE.out (hA2.below b3) hn2⟩) (fun hHeld => ?_)
  clear hK K
  try simp only [Act.put, List.setIfInBounds_toArray, List.set_cons_zero, List.set_cons_succ]
  clear hA1 hA2 q1 q2 o1 o2
  refine wpAnyH_here 9 (v := ?_) rfl (by kernel_rfl) (by kernel_rfl) (by kernel_rfl) (fun _ _ _ h => h) (Or.inl ⟨by rfl, ?_⟩) hHeld ?_
  rotate_left
  · intro w hSw; (try dsimp only at hSw); go_simp; all_goals (with_reducible rfl)
  try simp only [Act.put, List.setIfInBounds_toArray, List.set_cons_zero, List.set_cons_succ]
  refine wpAnyH_here 10 (v := ?_) rfl (by kernel_rfl) (by kernel_rfl) (by kernel_rfl) (fun _ _ _ h => h) (Or.inl ⟨by rfl, ?_⟩) hHeld ?_
  rotate_left
  · intro w hSw; (try dsimp only at hSw); go_simp; all_goals (with_reducible rfl)
  try simp only [Act.put, List.setIfInBounds_toArray, List.set_cons_zero, List.set_cons_succ]
  refine wpAnyH_done (by kernel_rfl) ?_ _
  go_wp2
  go_ret
  exact ⟨rfl, bel3⟩

set_option maxHeartbeats 400000 in
theorem scrambleSequence_walk (m : Int) (w : World) : Calls Try.prog 3 #[.int .i64 m] w fun e w' => e = .returned (.bool true) ∧ Below w.heap.size w w' := by
  rcases Int.lt_or_le 2000 m with h | h
  · have t1 : decide (2000 < m) = true := by simpa using h
    go_enter Try.func3, Try.ntmps3
    go_wp2_with (go_at_call 7; refine (lives_any _).mono ?_; rintro e w1 ⟨rfl, bel1⟩)
    go_ret
    exact ⟨rfl, bel1⟩
  · exact scrambleSequence_ok m w h
set_option maxHeartbeats 400000 in
theorem scrambleApplies_walk (a : Option Addr) (l : List Byte) (n c : Nat) (w : World) (hl : Hid (l.length = n)) (hb : Bs w w.heap.size a l) : Calls Try.prog 4 #[.slice a n c] w fun e w' => e = .returned (.bool true) ∧ Below w.heap.size w w' := by
  rcases Nat.lt_or_ge 2000 n with h | h
  · have t1 : (2000 : Int) < (n : Int) := by omega
    go_enter Try.func4, Try.ntmps4
    go_wp2_with (go_at_call 7; refine (lives_any _).mono ?_; rintro e w1 ⟨rfl, bel1⟩)
    go_ret
    exact ⟨rfl, bel1⟩
  · exact scrambleApplies_ok a l n c w hl hb h
end Go.Proofs.Ytalmcokgaljpjaa.Scr
