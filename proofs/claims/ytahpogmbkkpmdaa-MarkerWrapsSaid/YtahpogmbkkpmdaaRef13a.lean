/-
  The reference of layer 13: Marker, Wrap, Right, at, tail.
-/
import Derived.Test.YtahpogmbkkpmdaaMarMath
import Derived.Test.YtahpogmbkkpmdaaLaw12a
import Derived.Test.YtahpogmbkkpmdaaLater
import Derived.Deep.QuietTactic
namespace Go.Proofs.Ytahpogmbkkpmdaa.Mar
open Go.RowKit
open Scr (app app_len rapply_any conv_at bel_new)

theorem Ow_cel {w : World} {g base : Nat} {e : TypeId} {l : List Byte} (h : Cel w g e (l.map B8).toArray) (hb : base ≤ g) (hl : l.length ≤ maxLen) : Ow w base e (.slice (some ⟨g, 0, none⟩) l.length l.length) l :=
  ⟨by simp, .inr ⟨g, l.length, _, rfl, hb, h, Nat.le_refl _, hl, by simp, by simp only [Nat.mul_one]; exact List.take_of_length_le (by simp)⟩⟩
theorem marker_any (w : World) : Calls Try.prog 19 #[] w fun e w' => e = .returned (.slice (some ⟨w.heap.size, 0, none⟩) 4 4) ∧ w' = w.alloc (.cells #[.int .u8 26, .int .u8 207, .int .u8 252, .int .u8 29] 5) := by
  go_enter Try.func19, Try.ntmps19
  go_wp2
  go_ret
  exact ⟨rfl, rfl⟩
theorem marker_own (w : World) (base : Nat) (hb : base ≤ w.heap.size) : Ow (w.alloc (.cells #[.int .u8 26, .int .u8 207, .int .u8 252, .int .u8 29] 5)) base 5 (.slice (some ⟨w.heap.size, 0, none⟩) 4 4) pat :=
  Ow_cel (l := pat) (Cel.new w _ _) hb (by decide)
theorem conv_pat {w w2 : World} {g : Nat} (hg : w.heap.size = g) (h : w2 = w.alloc (.cells #[.int .u8 26, .int .u8 207, .int .u8 252, .int .u8 29] 5)) (k : Nat) (hk : k ≤ 4) :
    (convert 22 9 (.slice (some ⟨g, 0, none⟩) k 4)).run Try.prog w2 = .ok (.string (str (pat.take k))) w2 := by
  subst hg
  have ho := marker_own w 0 (Nat.zero_le _)
  obtain ⟨A, c, he, hb, _⟩ := ho.reads_len (n := 4) rfl
  cases he
  subst h
  exact conv_at _ (by rw [List.length_take, pat_len]; omega) (hb.take k) (fun h => nomatch h)

set_option maxHeartbeats 1000000 in
theorem rwrap_any (a : Option Addr) (l : List Byte) (n c : Nat) (w : World) (hl : Hid (l.length = n)) (hb : Bs w w.heap.size a l) (hm : n ≤ 1000000) :
    Calls Try.prog 8 #[.slice a n c] w fun e w' => ∃ v, e = .returned v ∧ Ow w' w.heap.size 5 v (pat ++ app l) ∧ Below w.heap.size w w' := by
  have HE : Hid ((app l).length = n) := Lib.hid (by rw [app_len, hl.out])
  go_enter Try.func8, Try.ntmps8
  go_wp2_with fail
  refine (marker_any w).mono ?_
  rintro e w1 ⟨rfl, hw1⟩
  have b1 : Below w.heap.size w w1 := by rw [hw1]; exact bel_new w _
  have o1 : Ow w1 w.heap.size 5 (.slice (some ⟨w.heap.size, 0, none⟩) 4 4) pat := by rw [hw1]; exact marker_own w _ (Nat.le_refl _)
  clear hw1
  go_wp2_with fail
  refine (rapply_any a l n c w1 hl ((hb.below b1).more b1.size) hm).mono ?_
  rintro e w2 ⟨v2, rfl, o2, b2⟩
  have o1' := o1.below b2
  have b02 := b1.trans (b2.mono b1.size)
  have HE' := HE.out
  subst HE'
  obtain ⟨A2, k2, rfl, hA2, hn2, _⟩ := o2.reads
  go_wp2_with (at_builtin; refine wpList_app _ is_bytes rfl (.tmp 3) (.tmp 5) rfl (m := pat) rfl o1' rfl hA2 hn2 (by rw [pat_len]; omega) b02.size ?_; intro v3 w3 ho3 hg3; have b03 := b02.grown hg3 b02.size o1'.base_le; obtain ⟨A3, k3, rfl, _⟩ := ho3.reads_len (n := pat.length + (app l).length) List.length_append)
  go_ret
  exact ⟨_, rfl, ho3, b03⟩

set_option maxHeartbeats 400000 in
theorem right_any (n : Int) (w : World) : Calls Try.prog 10 #[.int .i64 n] w fun e w' => e = .returned (.bool (decide (1 ≤ n ∧ n ≤ 1024))) ∧ w = w' := by
  by_cases h1 : 1 ≤ n
  · by_cases h2 : n ≤ 1024
    · have t1 : decide (1 ≤ n) = true := by simpa using h1
      have t2 : decide (n ≤ 1024) = true := by simpa using h2
      rw [decide_eq_true (And.intro h1 h2)]
      clear h1 h2
      go_enter Try.func10, Try.ntmps10
      go_wp2
      go_ret
      exact ⟨rfl, rfl⟩
    · have t1 : decide (1 ≤ n) = true := by simpa using h1
      have t2 : decide (n ≤ 1024) = false := by simpa using h2
      rw [decide_eq_false (fun h => h2 h.2)]
      clear h1 h2
      go_enter Try.func10, Try.ntmps10
      go_wp2
      go_ret
      exact ⟨rfl, rfl⟩
  · have t1 : decide (1 ≤ n) = false := by simpa using h1
    rw [decide_eq_false (fun h => h1 h.1)]
    clear h1
    go_enter Try.func10, Try.ntmps10
    go_wp2
    go_ret
    exact ⟨rfl, rfl⟩

theorem Bs_sub {w : World} {B b off : Nat} {l : List Byte} (h : Bs w B (some ⟨b, off, none⟩) l) (i : Nat) : Bs w B (some ⟨b, off + i, none⟩) (l.drop i) := fun hl => by
  obtain ⟨_, _, he, hb, hc⟩ := h (by simp at hl; omega)
  cases he
  refine ⟨b, off + i, rfl, hb, fun j x hx => ?_⟩
  rw [List.getElem?_drop] at hx
  have := hc _ x hx
  rwa [← Nat.add_assoc] at this

set_option maxRecDepth 100000 in
set_option maxHeartbeats 2000000 in
theorem at_any (a : Option Addr) (l : List Byte) (n c i : Nat) (w : World) (hl : Hid (l.length = n)) (hb : Bs w w.heap.size a l) (hc : n ≤ c) (hm : n ≤ 1000000) (hi : i ≤ n) :
    Calls Try.prog 24 #[.slice a n c, .int .i64 (i : Int)] w fun e w' => e = .returned (.bool (decide (mrk l i))) ∧ Below w.heap.size w w' := by
  obtain ⟨R, hR⟩ : ∃ R, R = decide (mrk l i) := ⟨_, rfl⟩
  rw [← hR]
  obtain ⟨T, hT⟩ : ∃ T, T = i + 4 := ⟨_, rfl⟩
  have r1 : (i : Int) + 4 = (T : Int) := by omega
  by_cases h4 : i + 4 ≤ n
  · obtain ⟨b, off, rfl, _⟩ := hb (by rw [hl.out]; omega)
    obtain ⟨U, hU⟩ : ∃ U, U = (l.drop i).take 4 := ⟨_, rfl⟩
    have hUl : U.length = 4 := by rw [hU, List.length_take, List.length_drop, hl.out]; omega
    have hcv : ∀ w', Below w.heap.size w w' → (convert 22 9 (.slice (some ⟨b, off + i, none⟩) 4 (c - i))).run Try.prog w' = .ok (.string (str U)) w' := fun w' hW => by
      rw [hU] at hUl ⊢
      exact conv_at w' hUl (((Bs_sub hb i).take 4).below hW) (fun h => nomatch h)
    have e1 : ((str U).toList == (str (pat.take 4)).toList) = R := by rw [str_beq, hR, hU]; rfl
    have rW : IntKind.i64.wrap (T : Int) = (T : Int) := by rw [IntKind.wrap_i64]; omega
    have t1 : decide ((T : Int) ≤ (n : Int)) = true := by simp; omega
    have t1' : decide (T ≤ n) = true := by simp; omega
    have z0 : c ≠ i := by omega
    have z1 : (i : Int) ≤ (c : Int) := by omega
    have z4 : i ≤ c := by omega
    have r2 : T - i = 4 := by omega
    have r3 : (T : Int) ≤ (c : Int) := by omega
    have r4 : i ≤ T := by omega
    have r5 : (i : Int) ≤ (T : Int) := by omega
    have r6 : T ≤ 1000000 := by omega
    have r8 : T ≤ c := by omega
    have r9 : i ≤ 1000000 := by omega
    clear hT hU hUl hR h4 hb hi
    go_enter Try.func24, Try.ntmps24
    go_wp2_with fail
    refine wp_region_held_drew (S := (fun w' => Below w.heap.size w w' ∧ (convert 22 9 (.slice (some ⟨b, off + i, none⟩) 4 (c - i))).run Try.prog w' = .ok (.string (str U)) w')) (by kernel_rfl) (⟨(Below.refl _ w).drew, hcv _ (Below.refl _ w).drew⟩) (fun hHeld => ?_)
    refine wpAnyH_here 0 (v := ?_) rfl (by kernel_rfl) (by kernel_rfl) (by kernel_rfl) (fun _ _ _ h => h) (Or.inl ⟨by rfl, ?_⟩) hHeld ?_
    rotate_left
    · intro w hSw; (try dsimp only at hSw); go_simp; all_goals (with_reducible rfl)
    try simp only [Act.put, List.setIfInBounds_toArray, List.set_cons_zero, List.set_cons_succ]
    refine wpAnyH_here 1 (v := ?_) rfl (by kernel_rfl) (by kernel_rfl) (by kernel_rfl) (fun _ _ _ h => h) (Or.inl ⟨by rfl, ?_⟩) hHeld ?_
    rotate_left
    · intro w hSw; (try dsimp only at hSw); go_simp; all_goals (with_reducible rfl)
    try simp only [Act.put, List.setIfInBounds_toArray, List.set_cons_zero, List.set_cons_succ]
    refine wpAnyH_here 2 (v := ?_) rfl (by kernel_rfl) (by kernel_rfl) (by kernel_rfl) (fun _ _ _ h => h) (Or.inl ⟨by rfl, ?_⟩) hHeld ?_
    rotate_left
    · intro w hSw; (try dsimp only at hSw); go_simp; all_goals (with_reducible rfl)
    try simp only [Act.put, List.setIfInBounds_toArray, List.set_cons_zero, List.set_cons_succ]
    refine wpAnyH_here 3 (v := ?_) rfl (by kernel_rfl) (by kernel_rfl) (by kernel_rfl) (fun _ _ _ h => h) (Or.inl ⟨by rfl, ?_⟩) hHeld ?_
    rotate_left
    · intro w hSw; (try dsimp only at hSw); go_simp; all_goals (with_reducible rfl)
    try simp only [Act.put, List.setIfInBounds_toArray, List.set_cons_zero, List.set_cons_succ]
    refine wpAnyH_here 4 (v := ?_) rfl (by kernel_rfl) (by kernel_rfl) (by kernel_rfl) (fun _ _ _ h => h) (Or.inl ⟨by rfl, ?_⟩) hHeld ?_
    rotate_left
    · intro w hSw; (try dsimp only at hSw); go_simp; all_goals (with_reducible rfl)
    try simp only [Act.put, List.setIfInBounds_toArray, List.set_cons_zero, List.set_cons_succ]
    refine wpAnyH_here 5 (v := ?_) rfl (by kernel_rfl) (by kernel_rfl) (by kernel_rfl) (fun _ _ _ h => h) (Or.inl ⟨by rfl, ?_⟩) hHeld ?_
    rotate_left
    · intro w hSw; (try dsimp only at hSw); go_simp; all_goals (with_reducible rfl)
    try simp only [Act.put, List.setIfInBounds_toArray, List.set_cons_zero, List.set_cons_succ]
    refine wpAnyH_here 6 (v := ?_) rfl (by kernel_rfl) (by kernel_rfl) (by kernel_rfl) (fun _ _ _ h => h) (Or.inl ⟨by rfl, ?_⟩) hHeld ?_
    rotate_left
    · intro w hSw; (try dsimp only at hSw); go_simp; all_goals (with_reducible rfl)
    try simp only [Act.put, List.setIfInBounds_toArray, List.set_cons_zero, List.set_cons_succ]
    refine wpAnyH_here 7 (v := ?_) rfl (by kernel_rfl) (by kernel_rfl) (by kernel_rfl) (fun _ _ _ h => h) (Or.inl ⟨by rfl, ?_⟩) hHeld ?_
    rotate_left
    · intro w hSw; (try dsimp only at hSw); go_simp; all_goals (with_reducible rfl)
    try simp only [Act.put, List.setIfInBounds_toArray, List.set_cons_zero, List.set_cons_succ]
    refine wpAnyH_here 8 (v := ?_) rfl (by kernel_rfl) (by kernel_rfl) (by kernel_rfl) (fun _ _ _ h => h) (Or.inl ⟨by rfl, ?_⟩) hHeld ?_
    rotate_left
    · intro w hSw; (try dsimp only at hSw); go_simp; all_goals (with_reducible rfl)
    try simp only [Act.put, List.setIfInBounds_toArray, List.set_cons_zero, List.set_cons_succ]
    refine wpAnyH_here 9 (v := ?_) rfl (by kernel_rfl) (by kernel_rfl) (by kernel_rfl) (fun _ _ _ h => h) (Or.inl ⟨by rfl, ?_⟩) hHeld ?_
    rotate_left
    · intro w hSw; (try dsimp only at hSw); go_simp; all_goals (with_reducible rfl)
    try simp only [Act.put, List.setIfInBounds_toArray, List.set_cons_zero, List.set_cons_succ]
    refine wpAnyH_here 10 (v := ?_) rfl (by kernel_rfl) (by kernel_rfl) (by kernel_rfl) (fun _ _ _ h => h) (Or.inl ⟨by rfl, ?_⟩) hHeld ?_
    rotate_left
    · intro w hSw; (try dsimp only at hSw); go_simp; all_goals (with_reducible rfl)
    try simp only [Act.put, List.setIfInBounds_toArray, List.set_cons_zero, List.set_cons_succ]
    refine wpAnyH_here 11 (v := ?_) rfl (by kernel_rfl) (by kernel_rfl) (by kernel_rfl) (fun _ _ _ h => h) (Or.inl ⟨by rfl, ?_⟩) hHeld ?_
    rotate_left
    · intro w hSw; (try dsimp only at hSw); go_simp; all_goals (with_reducible rfl)
    try simp only [Act.put, List.setIfInBounds_toArray, List.set_cons_zero, List.set_cons_succ]
    refine wpAnyH_alone 12 rfl (by kernel_rfl) (fun K hK => ?_)
    go_simp
    (go_at_call 19; refine (marker_any _).mono ?_; rintro e w2 ⟨rfl, hw2⟩)
    refine hK.out _ _ ((by have h2 : Below w.heap.size w w2 := by { rw [hw2]; exact hHeld.1.alloc hHeld.1.size _ }; exact ⟨h2, hcv _ h2⟩)) (fun hHeld => ?_)
    clear hK K
    try simp only [Act.put, List.setIfInBounds_toArray, List.set_cons_zero, List.set_cons_succ]
    have b2 := hHeld.1
    have q2 := conv_pat (w := w.drew) (g := w.heap.size) rfl hw2 4 (by decide)
    clear hw2
    refine wpAnyH_sharpen (S' := (fun w' => (Below w.heap.size w w' ∧ (convert 22 9 (.slice (some ⟨b, off + i, none⟩) 4 (c - i))).run Try.prog w' = .ok (.string (str U)) w') ∧ (convert 22 9 (.slice (some ⟨w.heap.size, 0, none⟩) 4 4)).run Try.prog w' = .ok (.string (str (pat.take 4))) w')) (fun w h => h.1) (⟨hHeld, q2⟩) (fun hHeld => ?_)
    refine wpAnyH_here 13 (v := ?_) rfl (by kernel_rfl) (by kernel_rfl) (by kernel_rfl) (fun _ _ _ h => h) (Or.inl ⟨by rfl, ?_⟩) hHeld ?_
    rotate_left
    · intro w hSw; (try dsimp only at hSw); go_simp; all_goals (with_reducible rfl)
    try simp only [Act.put, List.setIfInBounds_toArray, List.set_cons_zero, List.set_cons_succ]
    refine wpAnyH_here 14 (v := ?_) rfl (by kernel_rfl) (by kernel_rfl) (by kernel_rfl) (fun _ _ _ h => h) (Or.inl ⟨by rfl, ?_⟩) hHeld ?_
    rotate_left
    · intro w hSw; (try dsimp only at hSw); go_simp; all_goals (with_reducible rfl)
    try simp only [Act.put, List.setIfInBounds_toArray, List.set_cons_zero, List.set_cons_succ]
    refine wpAnyH_here 15 (v := ?_) rfl (by kernel_rfl) (by kernel_rfl) (by kernel_rfl) (fun _ _ _ h => h) (Or.inl ⟨by rfl, ?_⟩) hHeld ?_
    rotate_left
    · intro w hSw; (try dsimp only at hSw); go_simp; all_goals (with_reducible rfl)
    try simp only [Act.put, List.setIfInBounds_toArray, List.set_cons_zero, List.set_cons_succ]
    refine wpAnyH_here 16 (v := ?_) rfl (by kernel_rfl) (by kernel_rfl) (by kernel_rfl) (fun _ _ _ h => h) (Or.inl ⟨by rfl, ?_⟩) hHeld ?_
    rotate_left
    · intro w hSw; (try dsimp only at hSw); go_simp; all_goals (with_reducible rfl)
    try simp only [Act.put, List.setIfInBounds_toArray, List.set_cons_zero, List.set_cons_succ]
    refine wpAnyH_done (by kernel_rfl) ?_ _
    go_wp2
    go_ret
    exact ⟨rfl, b2⟩
  · have hR' : R = false := by rw [hR]; exact decide_eq_false (fun h => h4 (by have := mrk_le h; rw [hl.out] at this; exact this))
    subst hR'
    have rW : IntKind.i64.wrap (T : Int) = (T : Int) := by rw [IntKind.wrap_i64]; omega
    have t1 : decide ((T : Int) ≤ (n : Int)) = false := by simp; omega
    have t1' : decide (T ≤ n) = false := by simp; omega
    have r9 : i ≤ 1000000 := by omega
    clear hT hR h4 hb hi
    go_enter Try.func24, Try.ntmps24
    go_wp2_with fail
    go_quiet (fail)
    go_wp2
    go_ret
    exact ⟨rfl, drewN_below w _⟩

set_option maxRecDepth 100000 in
set_option maxHeartbeats 4000000 in
theorem tail_any (a : Option Addr) (l : List Byte) (n c : Nat) (w : World) (hl : Hid (l.length = n)) (hb : Bs w w.heap.size a l) (hc : n ≤ c) (hm : n ≤ 1000000) :
    Calls Try.prog 25 #[.slice a n c] w fun e w' => e = .returned (.int .i64 (tl l : Int)) ∧ Below w.heap.size w w' := by
  obtain ⟨q, hq⟩ : ∃ q, q = min 3 n := ⟨_, rfl⟩
  have hm1 : min (3 : Int) (n : Int) = (q : Int) := by omega
  have hm2 : (if (n : Int) < 3 then (n : Int) else 3) = (q : Int) := by split <;> omega
  have hm3 : (if n < 3 then (n : Int) else 3) = (q : Int) := by split <;> omega
  have htk : tk l q = tl l := by rw [hq, ← hl.out]; exact tk_tl l
  obtain ⟨G, hG⟩ : ∃ G, G = tl l := ⟨_, rfl⟩
  rw [← hG] at htk ⊢
  have hq3 : q ≤ 3 := by omega
  have hqn : q ≤ n := by omega
  have HT := Lib.hid htk
  clear htk hG hq
  go_enter Try.func25, Try.ntmps25
  go_wp2
  clear hm1 hm2 hm3
  go_loopw [3] (fun i wr => ∃ k : Nat, k ≤ q ∧ i = .int .i64 (k : Int) ∧ tk l k = G ∧ Below w.heap.size w wr) (fun i _ => (intOf i).toNat)
  case atStart => exact ⟨q, Nat.le_refl _, rfl, HT.out, Below.refl _ _⟩
  case round =>
    obtain ⟨k, hk, rfl, htk, hrel2⟩ := hrel
    by_cases hk0 : 0 < k
    · obtain ⟨b, off, rfl, _⟩ := hb (by rw [hl.out]; omega)
      obtain ⟨d, hd⟩ : ∃ d, d = n - k := ⟨_, rfl⟩
      obtain ⟨U, hU⟩ : ∃ U, U = l.drop d := ⟨_, rfl⟩
      have hUl : U.length = k := by rw [hU, List.length_drop, hl.out]; omega
      have hcv : ∀ w', Below w.heap.size w w' → (convert 22 9 (.slice (some ⟨b, off + d, none⟩) k (c - d))).run Try.prog w' = .ok (.string (str U)) w' := fun w' hW => by
        rw [hU] at hUl ⊢
        exact conv_at w' hUl ((Bs_sub hb d).below hW) (fun h => nomatch h)
      obtain ⟨R, hR⟩ : ∃ R, R = decide (U = pat.take k) := ⟨_, rfl⟩
      have e1 : ((str U).toList == (str (pat.take k)).toList) = R := by rw [str_beq, hR]
      have hstep : tk l k = if R = true then k else tk l (k - 1) := by
        obtain ⟨j, rfl⟩ : ∃ j, k = j + 1 := ⟨k - 1, by omega⟩
        show (if l.drop (l.length - (j + 1)) = pat.take (j + 1) then j + 1 else tk l j) = _
        rw [hR, hU, hd, hl.out]
        simp
      rw [htk] at hstep
      have t0 : decide (0 < (k : Int)) = true := by simp; omega
      have t0' : decide (0 < k) = true := by simp; omega
      have z0 : c ≠ d := by omega
      have z1 : (d : Int) ≤ (n : Int) := by omega
      have z2 : d ≤ n := by omega
      have z3 : (d : Int) ≤ (c : Int) := by omega
      have z4 : d ≤ c := by omega
      have z5 : n - d = k := by omega
      have z6 : (n : Int) - (k : Int) = (d : Int) := by omega
      have rW : IntKind.i64.wrap (d : Int) = (d : Int) := by rw [IntKind.wrap_i64]; omega
      have z7 : d ≤ 1000000 := by omega
      have k3 : k ≤ 3 := by omega
      have k4 : k ≤ 4 := by omega
      have k5 : (k : Int) ≤ 4 := by omega
      have HS := Lib.hid hstep
      clear hU hUl hR hd hstep htk
      go_wp2_with fail
      refine wp_region_held_drew (S := (fun w' => Below w.heap.size w w' ∧ (convert 22 9 (.slice (some ⟨b, off + d, none⟩) k (c - d))).run Try.prog w' = .ok (.string (str U)) w')) (by kernel_rfl) (⟨hrel2.drew, hcv _ hrel2.drew⟩) (fun hHeld => ?_)
      refine wpAnyH_here 0 (v := ?_) rfl (by kernel_rfl) (by kernel_rfl) (by kernel_rfl) (fun _ _ _ h => h) (Or.inl ⟨by rfl, ?_⟩) hHeld ?_
      rotate_left
      · intro w hSw; (try dsimp only at hSw); go_simp; all_goals (with_reducible rfl)
      try simp only [Act.put, List.setIfInBounds_toArray, List.set_cons_zero, List.set_cons_succ]
      refine wpAnyH_here 1 (v := ?_) rfl (by kernel_rfl) (by kernel_rfl) (by kernel_rfl) (fun _ _ _ h => h) (Or.inl ⟨by rfl, ?_⟩) hHeld ?_
      rotate_left
      · intro w hSw; (try dsimp only at hSw); go_simp; all_goals (with_reducible rfl)
      try simp only [Act.put, List.setIfInBounds_toArray, List.set_cons_zero, List.set_cons_succ]
      refine wpAnyH_here 2 (v := ?_) rfl (by kernel_rfl) (by kernel_rfl) (by kernel_rfl) (fun _ _ _ h => h) (Or.inl ⟨by rfl, ?_⟩) hHeld ?_
      rotate_left
      · intro w hSw; (try dsimp only at hSw); go_simp; all_goals (with_reducible rfl)
      try simp only [Act.put, List.setIfInBounds_toArray, List.set_cons_zero, List.set_cons_succ]
      refine wpAnyH_here 3 (v := ?_) rfl (by kernel_rfl) (by kernel_rfl) (by kernel_rfl) (fun _ _ _ h => h) (Or.inl ⟨by rfl, ?_⟩) hHeld ?_
      rotate_left
      · intro w hSw; (try dsimp only at hSw); go_simp; all_goals (with_reducible rfl)
      try simp only [Act.put, List.setIfInBounds_toArray, List.set_cons_zero, List.set_cons_succ]
      refine wpAnyH_here 4 (v := ?_) rfl (by kernel_rfl) (by kernel_rfl) (by kernel_rfl) (fun _ _ _ h => h) (Or.inl ⟨by rfl, ?_⟩) hHeld ?_
      rotate_left
      · intro w hSw; (try dsimp only at hSw); go_simp; all_goals (with_reducible rfl)
      try simp only [Act.put, List.setIfInBounds_toArray, List.set_cons_zero, List.set_cons_succ]
      refine wpAnyH_here 5 (v := ?_) rfl (by kernel_rfl) (by kernel_rfl) (by kernel_rfl) (fun _ _ _ h => h) (Or.inl ⟨by rfl, ?_⟩) hHeld ?_
      rotate_left
      · intro w hSw; (try dsimp only at hSw); go_simp; all_goals (with_reducible rfl)
      try simp only [Act.put, List.setIfInBounds_toArray, List.set_cons_zero, List.set_cons_succ]
      refine wpAnyH_here 6 (v := ?_) rfl (by kernel_rfl) (by kernel_rfl) (by kernel_rfl) (fun _ _ _ h => h) (Or.inl ⟨by rfl, ?_⟩) hHeld ?_
      rotate_left
      · intro w hSw; (try dsimp only at hSw); go_simp; all_goals (with_reducible rfl)
      try simp only [Act.put, List.setIfInBounds_toArray, List.set_cons_zero, List.set_cons_succ]
      refine wpAnyH_here 8 (v := ?_) rfl (by kernel_rfl) (by kernel_rfl) (by kernel_rfl) (fun _ _ _ h => h) (Or.inl ⟨by rfl, ?_⟩) hHeld ?_
      rotate_left
      · intro w hSw; (try dsimp only at hSw); go_simp; all_goals (with_reducible rfl)
      try simp only [Act.put, List.setIfInBounds_toArray, List.set_cons_zero, List.set_cons_succ]
      refine wpAnyH_alone 7 rfl (by kernel_rfl) (fun K hK => ?_)
      go_simp
      (go_at_call 19; refine (marker_any _).mono ?_; rintro e w2 ⟨rfl, hw2⟩)
      refine hK.out _ _ ((by have h2 : Below w.heap.size w w2 := by { rw [hw2]; exact hHeld.1.alloc hHeld.1.size _ }; exact ⟨h2, hcv _ h2⟩)) (fun hHeld => ?_)
      clear hK K
      try simp only [Act.put, List.setIfInBounds_toArray, List.set_cons_zero, List.set_cons_succ]
      have b2 := hHeld.1
      have q2 := conv_pat (w := wr.drew) (g := wr.heap.size) rfl hw2 k (by omega)
      clear hw2
      refine wpAnyH_sharpen (S' := (fun w' => (Below w.heap.size w w' ∧ (convert 22 9 (.slice (some ⟨b, off + d, none⟩) k (c - d))).run Try.prog w' = .ok (.string (str U)) w') ∧ (convert 22 9 (.slice (some ⟨wr.heap.size, 0, none⟩) k 4)).run Try.prog w' = .ok (.string (str (pat.take k))) w')) (fun w h => h.1) (⟨hHeld, q2⟩) (fun hHeld => ?_)
      refine wpAnyH_here 9 (v := ?_) rfl (by kernel_rfl) (by kernel_rfl) (by kernel_rfl) (fun _ _ _ h => h) (Or.inl ⟨by rfl, ?_⟩) hHeld ?_
      rotate_left
      · intro w hSw; (try dsimp only at hSw); go_simp; all_goals (with_reducible rfl)
      try simp only [Act.put, List.setIfInBounds_toArray, List.set_cons_zero, List.set_cons_succ]
      refine wpAnyH_here 10 (v := ?_) rfl (by kernel_rfl) (by kernel_rfl) (by kernel_rfl) (fun _ _ _ h => h) (Or.inl ⟨by rfl, ?_⟩) hHeld ?_
      rotate_left
      · intro w hSw; (try dsimp only at hSw); go_simp; all_goals (with_reducible rfl)
      try simp only [Act.put, List.setIfInBounds_toArray, List.set_cons_zero, List.set_cons_succ]
      refine wpAnyH_here 11 (v := ?_) rfl (by kernel_rfl) (by kernel_rfl) (by kernel_rfl) (fun _ _ _ h => h) (Or.inl ⟨by rfl, ?_⟩) hHeld ?_
      rotate_left
      · intro w hSw; (try dsimp only at hSw); go_simp; all_goals (with_reducible rfl)
      try simp only [Act.put, List.setIfInBounds_toArray, List.set_cons_zero, List.set_cons_succ]
      refine wpAnyH_done (by kernel_rfl) ?_ _
      cases R
      · have hs : G = tk l (k - 1) := by simpa using HS.out
        have HS2 := Lib.hid hs
        clear hs
        go_wp2
        go_roundw
        case rel => exact ⟨k - 1, by omega, by congr 1; omega, HS2.out.symm, b2⟩
        case measure => simp [intOf]; omega
      · have hs : G = k := by simpa using HS.out
        subst hs
        go_wp2
        go_ret
        exact ⟨rfl, b2⟩
    · obtain rfl : k = 0 := by omega
      have hs : G = 0 := htk.symm
      subst hs
      go_wp2
      go_ret
      exact ⟨rfl, hrel2⟩
end Go.Proofs.Ytahpogmbkkpmdaa.Mar
