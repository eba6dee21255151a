/-
  The walk of the law OctetsPuts.
-/
import Derived.Test.YthacjccdcmmhkaaPut03
namespace Go.Proofs.Ythacjccdcmmhkaa
open Go.RowKit

/-- the encodings of the first j values -/
def encAll (l : List V4) (j : Nat) : List Byte := (l.take j).flatMap encV
theorem encAll_succ (l : List V4) (j : Nat) (v : V4) (h : l[j]? = some v) : encAll l (j + 1) = encAll l j ++ encV v := by
  unfold encAll
  rw [List.take_add_one, h, List.flatMap_append]
  simp
theorem encAll_len {w : World} {a : Option Addr} {l : List V4} (hv : Vals w a l) (hl : ∀ (i : Nat) (v : V4), l[i]? = some v → v.b.length ≤ 200) (j : Nat) : (encAll l j).length ≤ 210 * j := by
  induction j with
  | zero => simp [encAll]
  | succ j ih =>
    cases hj : l[j]? with
    | none =>
      have e : encAll l (j + 1) = encAll l j := by unfold encAll; rw [List.take_add_one, hj]; simp
      rw [e]
      omega
    | some v =>
      rw [encAll_succ l j v hj, List.length_append]
      obtain ⟨_, _, _, _, _, _, _, _, ok⟩ := hv j v hj
      have := encV_len (i64_bounds ok.n) (hl j v hj)
      omega

theorem awake_end3 {w W : World} (h : Below w.heap.size w W) : Calls Try.prog 7 #[] W fun e w' => e = .returned (.bool true) ∧ Below w.heap.size w w' :=
  (awake_any W).mono fun _ _ ⟨he, hb⟩ => ⟨he, h.trans (hb.mono h.size)⟩
theorem Vals.below {w w' : World} {a : Option Addr} {l : List V4} (h : Vals w a l) (hb : Below w.heap.size w w') : Vals w' a l := by
  intro i v hv
  obtain ⟨b, off, rfl, hbl, c0, c1, c2, c3, ok⟩ := h i v hv
  have hs := hb.size
  exact ⟨b, off, rfl, by omega, (hb.cell (p := ⟨b, off + i * 4, none⟩) hbl).trans c0, (hb.cell (p := ⟨b, off + i * 4 + 1, none⟩) hbl).trans c1, (hb.cell (p := ⟨b, off + i * 4 + 2, none⟩) hbl).trans c2, (hb.cell (p := ⟨b, off + i * 4 + 3, none⟩) hbl).trans c3,
    ⟨ok.k, ok.n, ok.s, (ok.b.below hb).more hs, ok.none, ok.len, ok.cap⟩⟩

set_option maxHeartbeats 400000 in
theorem puts_heavy (a : Option Addr) (l : List V4) (c : Nat) (w : World) (hm : l.length ≤ maxLen) (hv : Vals w a l) (hl : lightB l = false) :
    Calls Try.prog 3 #[.slice a l.length c] w fun e w' => e = .returned (.bool true) ∧ Below w.heap.size w w' := by
  have hli := fun W (hW : Below w.heap.size w W) => light_any a l c W hm (hv.below hW)
  rw [hl] at hli
  go_enter Try.func3, Try.ntmps3
  go_wp2_with (first
    | (go_at_call 7; refine (awake_any _).mono ?_; rintro e w1 ⟨rfl, bel1⟩)
    | (go_at_call 8; refine (hli w1 bel1).mono ?_; rintro e w2 ⟨rfl, rfl⟩))
  go_ret
  exact ⟨rfl, bel1⟩

set_option maxHeartbeats 2000000 in
theorem puts_light (a : Option Addr) (l : List V4) (c : Nat) (w : World) (hm : l.length ≤ maxLen) (hv : Vals w a l) (hl : lightB l = true) :
    Calls Try.prog 3 #[.slice a l.length c] w fun e w' => e = .returned (.bool true) ∧ Below w.heap.size w w' := by
  have hli := fun W (hW : Below w.heap.size w W) => light_any a l c W hm (hv.below hW)
  rw [hl] at hli
  obtain ⟨h40, h200⟩ := light_at hl
  go_enter Try.func3, Try.ntmps3
  go_wp2_with fail
  refine (awake_any _).mono ?_
  rintro e w1 ⟨rfl, bel1⟩
  go_wp2_with fail
  refine (hli w1 bel1).mono ?_
  rintro e w2 ⟨rfl, rfl⟩
  go_wp2_with fail
  refine (onew_any _).mono ?_
  rintro e w2 ⟨rfl, hw2⟩
  have hW2 : OW w2 w.heap.size w1.heap.size none [] := by rw [← hw2]; exact OW_new _ _
  have bel2 : Below w.heap.size w w2 := by rw [← hw2]; exact bel1.alloc bel1.size _
  have hgw := bel1.size
  obtain ⟨g, hg⟩ : ∃ g, g = w1.heap.size := ⟨_, rfl⟩
  rw [← hg] at hW2 hgw ⊢
  clear hw2 bel1 hg hli
  go_wp2_with fail
  go_loopg [4, 5] l.length (fun gk x i wr => ∃ (j : Nat) (r : Option Nat), j + gk = l.length ∧ i = .int .i64 (j : Int) ∧ OW wr w.heap.size g r (encAll l j) ∧ Ow wr w.heap.size 5 x (encAll l j) ∧ (∀ m, x.ownBlock = some m → r ≠ some m) ∧ Below w.heap.size w wr)
  case atStart => exact ⟨0, none, by omega, rfl, hW2, World.ownsRow_nil _ _ _ _, (fun m hm => nomatch hm), bel2⟩
  case round =>
    clear hW2 bel2
    obtain ⟨j, r, hj, rfl, hW, hx, hsep, hbel⟩ := hrel
    by_cases hlt : j < l.length
    · obtain ⟨v, hvj⟩ : ∃ v, l[j]? = some v := ⟨_, List.getElem?_eq_getElem hlt⟩
      obtain ⟨b, off, rfl, hbl, q0, q1, q2, q3, ok⟩ := hv j v hvj
      have c0 := (hbel.cell (p := ⟨b, off + j * 4, none⟩) hbl).trans q0
      have c1 := (hbel.cell (p := ⟨b, off + j * 4 + 1, none⟩) hbl).trans q1
      have c2 := (hbel.cell (p := ⟨b, off + j * 4 + 2, none⟩) hbl).trans q2
      have c3 := (hbel.cell (p := ⟨b, off + j * 4 + 3, none⟩) hbl).trans q3
      have i0 : (0 : Int) ≤ (j : Int) := Int.natCast_nonneg _
      have i1 : (j : Int) < (l.length : Int) := by omega
      have hlen := encAll_len hv h200 j
      have hlen1 := encAll_len hv h200 (j + 1)
      have hs1 := encAll_succ l j v hvj
      have hwz := hbel.size
      have hp := put_any wr w.heap.size g r (encAll l j) v hW (i64_bounds ok.n) (ok.b.below hbel) ok.none hgw (h200 j v hvj) (by omega) hwz
      rw [← hs1] at hp
      obtain ⟨X, hX⟩ : ∃ X, X = encAll l (j + 1) := ⟨_, rfl⟩
      rw [← hX] at hp hs1 hlen1
      obtain ⟨E, hE⟩ : ∃ E, E = encV v := ⟨_, rfl⟩
      rw [← hE] at hp hs1
      obtain ⟨Y, hY⟩ : ∃ Y, Y = encAll l j := ⟨_, rfl⟩
      rw [← hY] at hs1 hW hx hlen
      have hX9 : X.length < 1000000 := by omega
      have HX := Lib.hid (And.intro hX hs1)
      have hXl : Y.length + E.length = X.length := by rw [hs1, List.length_append]
      have hE9 : E.length ≤ 8400 := by omega
      have hY9 : Y.length ≤ 8400 := by omega
      have HXl := Lib.hid hXl
      obtain ⟨A0, n0, rfl, _⟩ := hx.reads
      clear hX hs1 hE hY hlen hlen1 q0 q1 q2 q3 hvj hXl
      go_wp2_with fail
      refine hp.mono ?_
      rintro e W3 ⟨⟨vb, rfl, hvb⟩, hP⟩
      have hb3 := hbel.trans (hP.below hW (Nat.le_refl _) hgw)
      obtain ⟨r2, hW3, hr2, hO⟩ := hP
      have hx3 := hx.only hO (fun i hi hm => by
        rcases List.mem_cons.1 hm with rfl | hm
        · obtain ⟨v', hc', _⟩ := hW
          exact hx.apart hc' (by decide) hi
        · exact hsep i hi (by simpa using hm))
      have hz3 := hb3.size
      obtain ⟨A3, n3, rfl, hA3, hA3n, _⟩ := hvb.reads
      have hsep3 : ∀ m, (Value.slice A0 Y.length n0).ownBlock = some m → r2 ≠ some m := fun m hm hr => by
        rcases hr2 with rfl | ⟨i, rfl, hi⟩
        · exact hsep m hm hr
        · injection hr with hr
          have := hx.lt m hm
          omega
      clear hp c0 c1 c2 c3 hW hx hO hr2 hvb
      go_wp2_with (first
        | (at_builtin; refine wpList_appAt _ is_bytes rfl (.tmp 29) (.tmp 30) rfl (v := Value.slice A0 Y.length n0) (m := Y) rfl hx3 (l := E) rfl hA3 hA3n (by omega) hz3 ?_; intro v4 w4 hown4 hgrow4 hat4; have hB4' := hb3.grown hgrow4 hz3 hx3.base_le; have hO4 := Only.of_grown hgrow4))
      rw [← HX.out.2] at hown4
      have hgne : (Value.slice A0 Y.length n0).ownBlock ≠ some g := by
        obtain ⟨v', hc', _⟩ := hW3
        exact hx3.apart hc' (by decide)
      have hW4 : OW w4 w.heap.size g r2 X := hW3.only hO4 (by simpa using hgne) (fun i hi hm => hsep3 i (by simpa using hm) hi)
      have hsep4 : ∀ m, v4.ownBlock = some m → r2 ≠ some m := fun m hm hr => by
        rcases hat4 with h | h
        · exact hsep3 m (by rw [← h]; exact hm) hr
        · rw [hm] at h
          injection h with h
          have := hW3.row m hr
          omega
      obtain ⟨A4, c4, rfl, hA4, hA4n, _⟩ := hown4.reads
      have hs4 : ∀ W, Below w4.heap.size w4 W → (convert 27 9 (.slice A4 X.length c4)).run Try.prog W = .ok (.string (str X)) W := fun W hW => run_str W is_bytes Try.underlying9 (hA4.below hW) hA4n
      have hB4 : Below w4.heap.size w4 w4.drew := (Below.refl _ _).drew
      have hz4d : w4.heap.size ≤ w4.drew.heap.size := Nat.le_refl _
      have hbq := str_beq X X
      rw [decide_eq_true rfl] at hbq
      clear hW3 hx3 hA3 hgrow4 hat4 hO4 hsep hsep3 hb3
      go_wp2_with fail
      refine wp_region_held_drew (S := (fun w' => (convert 27 9 (.slice A4 X.length c4)).run Try.prog w' = .ok (.string (str X)) w')) (by kernel_rfl) (hs4 _ hB4) (fun hHeld => ?_)
      refine wpAnyH_here 0 (v := ?_) rfl (by kernel_rfl) (by kernel_rfl) (by kernel_rfl) (fun _ _ _ h => h) (Or.inl ⟨by rfl, ?_⟩) hHeld ?_
      rotate_left
      · intro w hSw; (try dsimp only at hSw); go_simp; all_goals (with_reducible rfl)
      try simp only [Act.put, List.setIfInBounds_toArray, List.set_cons_zero, List.set_cons_succ]
      refine wpAnyH_here 1 (v := ?_) rfl (by kernel_rfl) (by kernel_rfl) (by kernel_rfl) (fun _ _ _ h => h) (Or.inl ⟨by rfl, ?_⟩) hHeld ?_
      rotate_left
      · intro w hSw; (try dsimp only at hSw); go_simp; all_goals (with_reducible rfl)
      try simp only [Act.put, List.setIfInBounds_toArray, List.set_cons_zero, List.set_cons_succ]
      refine wpAnyH_here 2 (v := ?_) rfl (by kernel_rfl) (by kernel_rfl) (by kernel_rfl) (fun _ _ _ h => h) (Or.inl ⟨by rfl, ?_⟩) hHeld ?_
      rotate_left
      · intro w hSw; (try dsimp only at hSw); go_simp; all_goals (with_reducible rfl)
      try simp only [Act.put, List.setIfInBounds_toArray, List.set_cons_zero, List.set_cons_succ]
      refine wpAnyH_here 3 (v := ?_) rfl (by kernel_rfl) (by kernel_rfl) (by kernel_rfl) (fun _ _ _ h => h) (Or.inl ⟨by rfl, ?_⟩) hHeld ?_
      rotate_left
      · intro w hSw; (try dsimp only at hSw); go_simp; all_goals (with_reducible rfl)
      try simp only [Act.put, List.setIfInBounds_toArray, List.set_cons_zero, List.set_cons_succ]
      refine wpAnyH_here 6 (v := ?_) rfl (by kernel_rfl) (by kernel_rfl) (by kernel_rfl) (fun _ _ _ h => h) (Or.inl ⟨by rfl, ?_⟩) hHeld ?_
      rotate_left
      · intro w hSw; (try dsimp only at hSw); go_simp; all_goals (with_reducible rfl)
      try simp only [Act.put, List.setIfInBounds_toArray, List.set_cons_zero, List.set_cons_succ]
      refine wpAnyH_here 7 (v := ?_) rfl (by kernel_rfl) (by kernel_rfl) (by kernel_rfl) (fun _ _ _ h => h) (Or.inl ⟨by rfl, ?_⟩) hHeld ?_
      rotate_left
      · intro w hSw; (try dsimp only at hSw); go_simp; all_goals (with_reducible rfl)
      try simp only [Act.put, List.setIfInBounds_toArray, List.set_cons_zero, List.set_cons_succ]
      refine wpAnyH_alone 4 rfl (by kernel_rfl) (fun K hK => ?_)
      go_simp
      (go_at_call 11; refine (obytes_any _ w.heap.size g r2 X hW4.drew hX9).mono ?_; rintro e W5 ⟨v5, rfl, hown5, hb5⟩; obtain ⟨A5, c5, rfl, hA5, hA5n, _⟩ := hown5.reads; have hs5 := run_str (P := Try.prog) W5 is_bytes Try.underlying9 hA5 hA5n; have hB5 := hB4.trans (hb5.mono hz4d))
      refine hK.out _ _ (hs4 _ hB5) (fun hHeld => ?_)
      clear hK K
      try simp only [Act.put, List.setIfInBounds_toArray, List.set_cons_zero, List.set_cons_succ]
      refine wpAnyH_pin hHeld (fun hHeld => ?_)
      refine wpAnyH_here 5 (v := ?_) rfl (by kernel_rfl) (by kernel_rfl) (by kernel_rfl) (fun _ _ _ h => h) (Or.inl ⟨by rfl, ?_⟩) hHeld ?_
      rotate_left
      · intro w hSw; subst hSw; go_simp; all_goals (with_reducible rfl)
      try simp only [Act.put, List.setIfInBounds_toArray, List.set_cons_zero, List.set_cons_succ]
      refine wpAnyH_here 8 (v := ?_) rfl (by kernel_rfl) (by kernel_rfl) (by kernel_rfl) (fun _ _ _ h => h) (Or.inl ⟨by rfl, ?_⟩) hHeld ?_
      rotate_left
      · intro w hSw; subst hSw; go_simp; all_goals (with_reducible rfl)
      try simp only [Act.put, List.setIfInBounds_toArray, List.set_cons_zero, List.set_cons_succ]
      refine wpAnyH_here 9 (v := ?_) rfl (by kernel_rfl) (by kernel_rfl) (by kernel_rfl) (fun _ _ _ h => h) (Or.inl ⟨by rfl, ?_⟩) hHeld ?_
      rotate_left
      · intro w hSw; subst hSw; go_simp; all_goals (with_reducible rfl)
      try simp only [Act.put, List.setIfInBounds_toArray, List.set_cons_zero, List.set_cons_succ]
      refine wpAnyH_done (by kernel_rfl) ?_ _
      go_wp2
      have hfin : Below w.heap.size w W5 := hB4'.trans (hB5.mono hB4'.size)
      go_roundg (gk - 1)
      case measure => omega
      case rel =>
        have hW6 : OW W5 w.heap.size g r2 (encAll l (j + 1)) := by rw [← HX.out.1]; exact hW4.drew.below hb5
        have hx6 : Ow W5 w.heap.size 5 (.slice A4 X.length c4) (encAll l (j + 1)) := by rw [← HX.out.1]; exact (hown4.drew).below hb5
        exact ⟨j + 1, r2, by omega, by go_num, hW6, hx6, hsep4, hfin⟩
    · have hjl : ¬ (j : Int) < (l.length : Int) := by omega
      have t1 : decide ((j : Int) < (l.length : Int)) = false := by simp; omega
      clear hW hx
      go_wp2
      go_ret
      exact ⟨rfl, hbel⟩

theorem octetsPuts_walk (a : Option Addr) (l : List V4) (c : Nat) (w : World) (hm : l.length ≤ maxLen) (hv : Vals w a l) :
    Calls Try.prog 3 #[.slice a l.length c] w fun e w' => e = .returned (.bool true) ∧ Below w.heap.size w w' := by
  cases hl : lightB l with
  | true => exact puts_light a l c w hm hv hl
  | false => exact puts_heavy a l c w hm hv hl
end Go.Proofs.Ythacjccdcmmhkaa
