/-
  The walk of the law OctetsOnce.
-/
import Derived.Test.YthacjccdcmmhkaaLives03
import Derived.Test.YthacjccdcmmhkaaRef03b
import Derived.Test.YthacjccdcmmhkaaHand
namespace Go.Proofs.Ythacjccdcmmhkaa
open Go.RowKit

theorem awake_end {w W : World} (h : Below w.heap.size w W) : Calls Try.prog 7 #[] W fun e w' => e = .returned (.bool true) ∧ Below w.heap.size w w' :=
  (awake_any W).mono fun _ _ ⟨he, hb⟩ => ⟨he, h.trans (hb.mono h.size)⟩

set_option maxHeartbeats 400000 in
theorem once_long (a : Option Addr) (n c : Nat) (w : World) (hl : 2000 < n) :
    Calls Try.prog 6 #[.slice a n c] w fun e w' => e = .returned (.bool true) ∧ Below w.heap.size w w' := by
  have t1 : (2000 : Int) < (n : Int) := by omega
  go_enter Try.func6, Try.ntmps6
  go_wp2_with (go_at_call 7; refine (awake_any _).mono ?_; rintro e w1 ⟨rfl, bel1⟩)
  go_ret
  exact ⟨rfl, bel1⟩

set_option maxHeartbeats 1000000 in
theorem once_bad (a : Option Addr) (l : List Byte) (c : Nat) (w : World) (hb : Bs w w.heap.size a l) (hn : a = none → c = 0) (hc : l.length ≤ c) (hm : c ≤ maxLen) (hl : l.length ≤ 2000) (ht : tkI l = none) :
    Calls Try.prog 6 #[.slice a l.length c] w fun e w' => e = .returned (.bool true) ∧ Below w.heap.size w w' := by
  unfold maxLen at hm
  have t1 : decide (2000 < (l.length : Int)) = false := by simp; omega
  go_enter Try.func6, Try.ntmps6
  go_wp2_with fail
  refine (awake_any _).mono ?_
  rintro e w1 ⟨rfl, bel1⟩
  go_wp2_with fail
  refine (orNew a l l.length c w1 (Lib.hid rfl) ((hb.below bel1).more bel1.size) hn (by omega)).mono ?_
  rintro e w2 ⟨g, rfl, hR, hg, bel⟩
  have bel2 := bel1.trans (bel.mono bel1.size)
  have hgw : w.heap.size ≤ g := Nat.le_trans bel1.size hg
  have hi := orint_any w2 g g (some l) hR (show l.length < 1000000 by omega)
  rw [rd_bad ht] at hi
  clear bel bel1 hR
  go_wp2_with fail
  refine hi.mono ?_
  rintro e w3 ⟨rfl, hR, hO⟩
  have bel3 := bel2.trans (hO.below (B := w.heap.size) bel2.size (by simp; omega))
  clear hi hO bel2
  go_wp2_with fail
  refine (orFailed _ g g none hR).mono ?_
  rintro e w4 ⟨rfl, rfl⟩
  have hx := xtki_any a l l.length c w3 (Lib.hid rfl) ((hb.below bel3).more bel3.size) hn hc hm (by omega)
  rw [ht] at hx
  go_wp2_with fail
  refine hx.mono ?_
  rintro e w4 ⟨rfl, hb4⟩
  have bel4 := bel3.trans (hb4.mono bel3.size)
  have hR4 := hR.below hb4
  clear hx hb4 hR bel3
  go_wp2_with fail
  refine (orLeft _ g g none hR4).mono ?_
  rintro e w5 ⟨rfl, rfl⟩
  go_wp2_with fail
  go_ret
  exact ⟨rfl, bel4⟩

set_option maxHeartbeats 2000000 in
theorem once_ok (a : Option Addr) (l : List Byte) (c : Nat) (n : Int) (k : Nat) (w : World) (hb : Bs w w.heap.size a l) (hn : a = none → c = 0) (hc : l.length ≤ c) (hm : c ≤ maxLen) (hl : l.length ≤ 2000) (ht : tkI l = some (n, k)) :
    Calls Try.prog 6 #[.slice a l.length c] w fun e w' => e = .returned (.bool true) ∧ Below w.heap.size w w' := by
  unfold maxLen at hm
  have t1 : decide (2000 < (l.length : Int)) = false := by simp; omega
  obtain ⟨hn1, hn2, hk1, hk2, hE⟩ := tkI_some ht
  obtain ⟨T, hT⟩ : ∃ T, T = l.take k := ⟨_, rfl⟩
  have hTl : T.length = k := by rw [hT, List.length_take]; omega
  have hTb : Bs w w.heap.size a T := by rw [hT]; exact hb.take k
  rw [← hT] at hE
  have hs0 : ∀ W, Below w.heap.size w W → (convert 27 9 (.slice a k c)).run Try.prog W = .ok (.string (str T)) W := fun W hW => by
    rw [← hTl]
    exact run_str W is_bytes Try.underlying9 (hTb.below hW) hn
  obtain ⟨b, off, rfl, _⟩ := at_nonempty hb (by omega)
  have hbq := str_beq T T
  rw [decide_eq_true rfl] at hbq
  have hoi : ∀ (W : World) (g1 : Nat), OW W w.heap.size g1 none [] → w.heap.size ≤ W.heap.size → Calls Try.prog 23 #[.pointer (some ⟨g1, 0, none⟩), .int .i64 n] W fun e w' => e = .returned (.pointer (some ⟨g1, 0, none⟩)) ∧ OPut W w.heap.size g1 none T w' := fun W g1 h1 h2 => by
    have := oint_any W w.heap.size g1 none [] n h1 ⟨hn1, hn2⟩ (by decide) h2
    rw [List.nil_append, hE] at this
    exact this
  have HT := Lib.hid hTl
  clear hT hTb hTl hE
  go_enter Try.func6, Try.ntmps6
  go_wp2_with fail
  refine (awake_any _).mono ?_
  rintro e w1 ⟨rfl, bel1⟩
  go_wp2_with fail
  refine (orNew _ l l.length c w1 (Lib.hid rfl) ((hb.below bel1).more bel1.size) hn (by omega)).mono ?_
  rintro e w2 ⟨g, rfl, hR, hg, bel⟩
  have bel2 := bel1.trans (bel.mono bel1.size)
  have hgw : w.heap.size ≤ g := Nat.le_trans bel1.size hg
  have hi := orint_any w2 g g (some l) hR (show l.length < 1000000 by omega)
  rw [rd_ok ht] at hi
  clear bel bel1 hR
  go_wp2_with fail
  refine hi.mono ?_
  rintro e w3 ⟨rfl, hR, hO⟩
  have bel3 := bel2.trans (hO.below (B := w.heap.size) bel2.size (by simp; omega))
  clear hi hO bel2
  go_wp2_with fail
  refine (orFailed _ g g _ hR).mono ?_
  rintro e w4 ⟨rfl, rfl⟩
  obtain ⟨q, hq⟩ : ∃ q, q = lftO (some (l.drop k)) := ⟨_, rfl⟩
  have hql : q = l.length - k := by rw [hq]; show (l.drop k).length = _; rw [List.length_drop]
  have hleft := orLeft _ g g _ hR
  rw [← hq] at hleft
  have hused : (l.length : Int) - (q : Int) = (k : Int) := by omega
  clear hq hql
  go_wp2_with fail
  refine hleft.mono ?_
  rintro e w4 ⟨rfl, rfl⟩
  have u1 : (0 : Int) < (k : Int) := by omega
  have u2 : (k : Int) ≤ (l.length : Int) := by omega
  have u3 : (k : Int) ≤ (c : Int) := by omega
  have u4 : (0 : Int) ≤ (k : Int) := by omega
  have u5 : 0 < k := by omega
  have u6 : decide ((0 : Int) < (k : Int)) = true := by simp; omega
  have u7 : decide ((k : Int) ≤ (l.length : Int)) = true := by simp; omega
  have u8 : decide (0 < k) = true := by simp; omega
  have u9 : decide (k ≤ l.length) = true := by simp; omega
  have hB0 : Below w.heap.size w w3.drew := bel3.drew
  have hwz := bel3.size
  clear hleft hR hb
  go_wp2_with fail
  refine wp_region_held_drew (S := (fun w' => (convert 27 9 (.slice (some ⟨b, off, none⟩) k c)).run Try.prog w' = .ok (.string (str T)) w')) (by kernel_rfl) (hs0 _ hB0) (fun hHeld => ?_)
  refine wpAnyH_here 0 (v := ?_) rfl (by kernel_rfl) (by kernel_rfl) (by kernel_rfl) (fun _ _ _ h => h) (Or.inl ⟨by rfl, ?_⟩) hHeld ?_
  rotate_left
  · intro w hSw; (try dsimp only at hSw); go_simp; all_goals (with_reducible rfl)
  try simp only [Act.put, List.setIfInBounds_toArray, List.set_cons_zero, List.set_cons_succ]
  refine wpAnyH_here 1 (v := ?_) rfl (by kernel_rfl) (by kernel_rfl) (by kernel_rfl) (fun _ _ _ h => h) (Or.inl ⟨by rfl, ?_⟩) hHeld ?_
  rotate_left
  · intro w hSw; (try dsimp only at hSw); go_simp; all_goals (with_reducible rfl)
  try simp only [Act.put, List.setIfInBounds_toArray, List.set_cons_zero, List.set_cons_succ]
  refine wpAnyH_here 2 (v := ?_) rfl (by kernel_rfl) (by kernel_rfl) (by kernel_rfl) (fun _ _ _ h => h) (Or.inl ⟨by rfl, ?_⟩) hHeld ?_
  rotate_left
  · intro w hSw; (try dsimp only at hSw); go_simp; all_goals (with_reducible rfl)
  try simp only [Act.put, List.setIfInBounds_toArray, List.set_cons_zero, List.set_cons_succ]
  refine wpAnyH_here 3 (v := ?_) rfl (by kernel_rfl) (by kernel_rfl) (by kernel_rfl) (fun _ _ _ h => h) (Or.inl ⟨by rfl, ?_⟩) hHeld ?_
  rotate_left
  · intro w hSw; (try dsimp only at hSw); go_simp; all_goals (with_reducible rfl)
  try simp only [Act.put, List.setIfInBounds_toArray, List.set_cons_zero, List.set_cons_succ]
  refine wpAnyH_here 4 (v := ?_) rfl (by kernel_rfl) (by kernel_rfl) (by kernel_rfl) (fun _ _ _ h => h) (Or.inl ⟨by rfl, ?_⟩) hHeld ?_
  rotate_left
  · intro w hSw; (try dsimp only at hSw); go_simp; all_goals (with_reducible rfl)
  try simp only [Act.put, List.setIfInBounds_toArray, List.set_cons_zero, List.set_cons_succ]
  refine wpAnyH_here 5 (v := ?_) rfl (by kernel_rfl) (by kernel_rfl) (by kernel_rfl) (fun _ _ _ h => h) (Or.inl ⟨by rfl, ?_⟩) hHeld ?_
  rotate_left
  · intro w hSw; (try dsimp only at hSw); go_simp; all_goals (with_reducible rfl)
  try simp only [Act.put, List.setIfInBounds_toArray, List.set_cons_zero, List.set_cons_succ]
  refine wpAnyH_here 6 (v := ?_) rfl (by kernel_rfl) (by kernel_rfl) (by kernel_rfl) (fun _ _ _ h => h) (Or.inl ⟨by rfl, ?_⟩) hHeld ?_
  rotate_left
  · intro w hSw; (try dsimp only at hSw); go_simp; all_goals (with_reducible rfl)
  try simp only [Act.put, List.setIfInBounds_toArray, List.set_cons_zero, List.set_cons_succ]
  refine wpAnyH_here 7 (v := ?_) rfl (by kernel_rfl) (by kernel_rfl) (by kernel_rfl) (fun _ _ _ h => h) (Or.inl ⟨by rfl, ?_⟩) hHeld ?_
  rotate_left
  · intro w hSw; (try dsimp only at hSw); go_simp; all_goals (with_reducible rfl)
  try simp only [Act.put, List.setIfInBounds_toArray, List.set_cons_zero, List.set_cons_succ]
  refine wpAnyH_here 8 (v := ?_) rfl (by kernel_rfl) (by kernel_rfl) (by kernel_rfl) (fun _ _ _ h => h) (Or.inl ⟨by rfl, ?_⟩) hHeld ?_
  rotate_left
  · intro w hSw; (try dsimp only at hSw); go_simp; all_goals (with_reducible rfl)
  try simp only [Act.put, List.setIfInBounds_toArray, List.set_cons_zero, List.set_cons_succ]
  refine wpAnyH_here 10 (v := ?_) rfl (by kernel_rfl) (by kernel_rfl) (by kernel_rfl) (fun _ _ _ h => h) (Or.inl ⟨by rfl, ?_⟩) hHeld ?_
  rotate_left
  · intro w hSw; (try dsimp only at hSw); go_simp; all_goals (with_reducible rfl)
  try simp only [Act.put, List.setIfInBounds_toArray, List.set_cons_zero, List.set_cons_succ]
  refine wpAnyH_here 14 (v := ?_) rfl (by kernel_rfl) (by kernel_rfl) (by kernel_rfl) (fun _ _ _ h => h) (Or.inl ⟨by rfl, ?_⟩) hHeld ?_
  rotate_left
  · intro w hSw; (try dsimp only at hSw); go_simp; all_goals (with_reducible rfl)
  try simp only [Act.put, List.setIfInBounds_toArray, List.set_cons_zero, List.set_cons_succ]
  refine wpAnyH_here 15 (v := ?_) rfl (by kernel_rfl) (by kernel_rfl) (by kernel_rfl) (fun _ _ _ h => h) (Or.inl ⟨by rfl, ?_⟩) hHeld ?_
  rotate_left
  · intro w hSw; (try dsimp only at hSw); go_simp; all_goals (with_reducible rfl)
  try simp only [Act.put, List.setIfInBounds_toArray, List.set_cons_zero, List.set_cons_succ]
  refine wpAnyH_here 16 (v := ?_) rfl (by kernel_rfl) (by kernel_rfl) (by kernel_rfl) (fun _ _ _ h => h) (Or.inl ⟨by rfl, ?_⟩) hHeld ?_
  rotate_left
  · intro w hSw; (try dsimp only at hSw); go_simp; all_goals (with_reducible rfl)
  try simp only [Act.put, List.setIfInBounds_toArray, List.set_cons_zero, List.set_cons_succ]
  refine wpAnyH_here 17 (v := ?_) rfl (by kernel_rfl) (by kernel_rfl) (by kernel_rfl) (fun _ _ _ h => h) (Or.inl ⟨by rfl, ?_⟩) hHeld ?_
  rotate_left
  · intro w hSw; (try dsimp only at hSw); go_simp; all_goals (with_reducible rfl)
  try simp only [Act.put, List.setIfInBounds_toArray, List.set_cons_zero, List.set_cons_succ]
  refine wpAnyH_alone 9 rfl (by kernel_rfl) (fun K hK => ?_)
  go_simp
  (go_at_call 9; refine (onew_any _).mono ?_; rintro e W1 ⟨rfl, hw0⟩; have hW1 : OW W1 w.heap.size w3.heap.size none [] := (by rw [← hw0]; exact OW_new _ _); have hB1 : Below w.heap.size w W1 := (by rw [← hw0]; exact hB0.alloc hwz _); clear hw0)
  refine hK.out _ _ (hs0 _ hB1) (fun hHeld => ?_)
  clear hK K
  try simp only [Act.put, List.setIfInBounds_toArray, List.set_cons_zero, List.set_cons_succ]
  refine wpAnyH_alone 11 rfl (by kernel_rfl) (fun K hK => ?_)
  go_simp
  (go_at_call 23; refine (hoi W1 w3.heap.size hW1 hB1.size).mono ?_; rintro e W2 ⟨rfl, hP⟩; have hB2 := hB1.trans (hP.below hW1 (Nat.le_refl _) hwz); obtain ⟨r2, hW2, _, _⟩ := hP)
  refine hK.out _ _ (hs0 _ hB2) (fun hHeld => ?_)
  clear hK K
  try simp only [Act.put, List.setIfInBounds_toArray, List.set_cons_zero, List.set_cons_succ]
  refine wpAnyH_alone 12 rfl (by kernel_rfl) (fun K hK => ?_)
  go_simp
  (go_at_call 11; refine (obytes_any W2 w.heap.size w3.heap.size r2 T hW2 (by have := HT.out; omega)).mono ?_; rintro e W3 ⟨v, rfl, hown, hb3⟩; have hB3 := hB2.trans (hb3.mono hB2.size); obtain ⟨A1, c1, rfl, hA1, hA1n, _⟩ := hown.reads; have hs1 := run_str (P := Try.prog) W3 is_bytes Try.underlying9 hA1 hA1n)
  refine hK.out _ _ (hs0 _ hB3) (fun hHeld => ?_)
  clear hK K
  try simp only [Act.put, List.setIfInBounds_toArray, List.set_cons_zero, List.set_cons_succ]
  refine wpAnyH_pin hHeld (fun hHeld => ?_)
  refine wpAnyH_here 13 (v := ?_) rfl (by kernel_rfl) (by kernel_rfl) (by kernel_rfl) (fun _ _ _ h => h) (Or.inl ⟨by rfl, ?_⟩) hHeld ?_
  rotate_left
  · intro w hSw; subst hSw; go_simp; all_goals (with_reducible rfl)
  try simp only [Act.put, List.setIfInBounds_toArray, List.set_cons_zero, List.set_cons_succ]
  refine wpAnyH_here 18 (v := ?_) rfl (by kernel_rfl) (by kernel_rfl) (by kernel_rfl) (fun _ _ _ h => h) (Or.inl ⟨by rfl, ?_⟩) hHeld ?_
  rotate_left
  · intro w hSw; subst hSw; go_simp; all_goals (with_reducible rfl)
  try simp only [Act.put, List.setIfInBounds_toArray, List.set_cons_zero, List.set_cons_succ]
  refine wpAnyH_here 19 (v := ?_) rfl (by kernel_rfl) (by kernel_rfl) (by kernel_rfl) (fun _ _ _ h => h) (Or.inl ⟨by rfl, ?_⟩) hHeld ?_
  rotate_left
  · intro w hSw; subst hSw; go_simp; all_goals (with_reducible rfl)
  try simp only [Act.put, List.setIfInBounds_toArray, List.set_cons_zero, List.set_cons_succ]
  refine wpAnyH_here 20 (v := ?_) rfl (by kernel_rfl) (by kernel_rfl) (by kernel_rfl) (fun _ _ _ h => h) (Or.inl ⟨by rfl, ?_⟩) hHeld ?_
  rotate_left
  · intro w hSw; subst hSw; go_simp; all_goals (with_reducible rfl)
  try simp only [Act.put, List.setIfInBounds_toArray, List.set_cons_zero, List.set_cons_succ]
  refine wpAnyH_done (by kernel_rfl) ?_ _
  go_wp2
  go_ret
  exact ⟨rfl, hB3⟩

theorem octetsOnce_walk (a : Option Addr) (l : List Byte) (c : Nat) (w : World) (hb : Bs w w.heap.size a l) (hn : a = none → c = 0) (hc : l.length ≤ c) (hm : c ≤ maxLen) :
    Calls Try.prog 6 #[.slice a l.length c] w fun e w' => e = .returned (.bool true) ∧ Below w.heap.size w w' := by
  by_cases hl : l.length ≤ 2000
  · cases ht : tkI l with
    | none => exact once_bad a l c w hb hn hc hm hl ht
    | some p => exact once_ok a l c p.1 p.2 w hb hn hc hm hl ht
  · exact once_long a l.length c w (by omega)
end Go.Proofs.Ythacjccdcmmhkaa
