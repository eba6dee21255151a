/-
  Package link: what valid asks (slices.IndexFunc, slices.ContainsFunc at ints and flips), slices.Clone at ranges, ints, flips, transmissions.
-/
import Derived.Shelf.Abstract
import Derived.Shelf.RegionOpen
import Derived.WalkKit
import Derived.Deep.QuietTactic
import Derived.BigQuiet
import Derived.BigRegion
import Derived.Test.YtllhdgllgoanbaaLnkH
namespace Go.Proofs.Ytllhdgllgoanbaa.Lnk
open Go.RowKit Go.Shelf Go.Proofs.Ytllhdgllgoanbaa.Row
open Rng (R)

set_option maxHeartbeats 400000 in
theorem v1_any (x : Int) (w : World) : Calls Try.prog 35 #[I x] w fun e w' => e = .returned (.bool (decide (x < 0))) ∧ Below w.heap.size w w' := by
  obtain ⟨D, hD⟩ : ∃ D, decide (x < 0) = D := ⟨_, rfl⟩
  rw [hD]
  go_enter Try.func35, Try.ntmps35
  go_wp2
  go_ret
  exact ⟨rfl, Below.refl _ _⟩
set_option maxHeartbeats 400000 in
theorem v2_any (x y : Int) (w : World) : Calls Try.prog 37 #[.agg #[I x, I y]] w fun e w' => e = .returned (.bool (decide (x < 0) || decide (y < 0))) ∧ Below w.heap.size w w' := by
  obtain ⟨D, hD⟩ : ∃ D, decide (y < 0) = D := ⟨_, rfl⟩
  rw [hD]
  by_cases h : x < 0
  · have t1 := decide_eq_true h
    rw [t1, Bool.true_or]
    clear h
    go_enter Try.func37, Try.ntmps37
    go_wp2
    go_ret
    exact ⟨rfl, bel_new _ _⟩
  · have t1 := decide_eq_false h
    rw [t1, Bool.false_or]
    clear h
    go_enter Try.func37, Try.ntmps37
    go_wp2
    go_ret
    exact ⟨rfl, bel_new _ _⟩
theorem any_step {α : Type} {l : List α} {p : α → Bool} {k : Nat} {x : α} (h : l[k]? = some x) : (l.take (k + 1)).any p = ((l.take k).any p || p x) := by
  rw [List.take_add_one, h, Option.toList_some, List.any_append]
  simp
theorem any_true {α : Type} {l : List α} {p : α → Bool} {k : Nat} {x : α} (h : l[k]? = some x) (hp : p x = true) : l.any p = true := List.any_eq_true.2 ⟨x, List.mem_of_getElem? h, hp⟩

set_option maxHeartbeats 2000000 in
theorem iidx_any (l : List Int) (n : Nat) (w : World) (A : Option Addr) (c : Nat) (hl : Hid (l.length = n)) (hr : Row.Rs encI 1 w w.heap.size A l) (hm : n ≤ 1000000) :
    Calls Try.prog 41 #[.slice A n c, .func (.func 35) #[] #[]] w fun e w' => ∃ r : Int, e = .returned (I r) ∧ decide (0 ≤ r) = loN l ∧ Below w.heap.size w w' := by
  have eg : ∀ args w, (callFunc 35 args).run Try.prog w = .ok (.enter 35 args) w := enters_of Try.func35 (by kernel_rfl) rfl
  obtain ⟨E, hE⟩ : ∃ E, E = loN l := ⟨_, rfl⟩
  rw [← hE]
  have HE := Lib.hid hE
  clear hE
  go_enter Try.func41, Try.ntmps41
  go_wp2
  go_loopw [5, 8] (fun _ i wr => ∃ k : Nat, k ≤ n ∧ i = .int .i64 k ∧ Below w.heap.size w wr ∧ Hid (loN (l.take k) = false)) (fun _ i _ => n - (intOf i).toNat)
  case atStart => exact ⟨0, Nat.zero_le _, rfl, Below.refl _ _, Lib.hid (by simp [loN])⟩
  case round =>
    obtain ⟨k, hk, rfl, hbel, hno⟩ := hrel
    have hsz := hbel.size
    by_cases hlt : k < n
    · have hkl : k < l.length := by rw [hl.out]; exact hlt
      obtain ⟨b, off, rfl, hbw, hc1⟩ := i_at (hr.below hbel) hkl
      have hk1 := List.getElem?_eq_getElem hkl
      have hst : Hid (loN (l.take (k + 1)) = (loN (l.take k) || decide (l[k] < 0))) := Lib.hid (any_step hk1)
      have htr : Hid ((decide (l[k] < 0)) = true → loN l = true) := Lib.hid (fun h => any_true hk1 h)
      clear hr hk1
      generalize l[k] = y at hc1 hst htr
      skip
      cases hq : (decide (y < 0)) with
      | true =>
        have hcall := fun w => hq ▸ v1_any y w
        have HQ := Lib.hid hq
        clear hq
        go_wp2_with (go_at_fn 35; refine (hcall _).mono ?_; rintro e w' ⟨rfl, hb'⟩)
        go_ret
        exact ⟨_, rfl, by rw [HE.out, htr.out HQ.out]; simp, hbel.trans (hb'.mono hsz)⟩
      | false =>
        have hcall := fun w => hq ▸ v1_any y w
        have HQ := Lib.hid hq
        clear hq
        go_wp2_with (go_at_fn 35; refine (hcall _).mono ?_; rintro e w' ⟨rfl, hb'⟩)
        go_roundw
        case rel => exact ⟨k + 1, hlt, by simp, hbel.trans (hb'.mono hsz), Lib.hid (by rw [hst.out, hno.out, HQ.out]; rfl)⟩
        case measure => simp [intOf]; omega
    · obtain rfl : k = n := by omega
      have hE2 : E = false := by
        rw [HE.out]
        have := hno.out
        rwa [List.take_of_length_le (Nat.le_of_eq hl.out)] at this
      subst hE2
      go_wp2
      go_ret
      exact ⟨_, rfl, rfl, hbel⟩
set_option maxHeartbeats 1000000 in
theorem icon_any (l : List Int) (n : Nat) (w : World) (A : Option Addr) (c : Nat) (hl : Hid (l.length = n)) (hr : Row.Rs encI 1 w w.heap.size A l) (hm : n ≤ 1000000) :
    Calls Try.prog 34 #[.slice A n c, .func (.func 35) #[] #[]] w fun e w' => e = .returned (.bool (loN l)) ∧ Below w.heap.size w w' := by
  have hcon := iidx_any l n w A c hl hr hm
  obtain ⟨E, hE⟩ : ∃ E, E = loN l := ⟨_, rfl⟩
  rw [← hE] at hcon ⊢
  clear hE hl hr
  go_enter Try.func34, Try.ntmps34
  go_wp2_with (go_at_call 41; refine hcon.mono ?_; rintro e w' ⟨r, rfl, hz, hbel⟩)
  go_ret
  exact ⟨rfl, hbel⟩

set_option maxHeartbeats 2000000 in
theorem fidx_any (l : List R) (n : Nat) (w : World) (A : Option Addr) (c : Nat) (hl : Hid (l.length = n)) (hr : Row.Rs encR 2 w w.heap.size A l) (hm : n ≤ 1000000) :
    Calls Try.prog 42 #[.slice A n c, .func (.func 37) #[] #[]] w fun e w' => ∃ r : Int, e = .returned (I r) ∧ decide (0 ≤ r) = flN l ∧ Below w.heap.size w w' := by
  have eg : ∀ args w, (callFunc 37 args).run Try.prog w = .ok (.enter 37 args) w := enters_of Try.func37 (by kernel_rfl) rfl
  obtain ⟨E, hE⟩ : ∃ E, E = flN l := ⟨_, rfl⟩
  rw [← hE]
  have HE := Lib.hid hE
  clear hE
  go_enter Try.func42, Try.ntmps42
  go_wp2
  go_loopw [5, 8] (fun _ i wr => ∃ k : Nat, k ≤ n ∧ i = .int .i64 k ∧ Below w.heap.size w wr ∧ Hid (flN (l.take k) = false)) (fun _ i _ => n - (intOf i).toNat)
  case atStart => exact ⟨0, Nat.zero_le _, rfl, Below.refl _ _, Lib.hid (by simp [flN])⟩
  case round =>
    obtain ⟨k, hk, rfl, hbel, hno⟩ := hrel
    have hsz := hbel.size
    by_cases hlt : k < n
    · have hkl : k < l.length := by rw [hl.out]; exact hlt
      obtain ⟨b, off, rfl, hbw, hc0, hc1⟩ := r_at (hr.below hbel) hkl
      have hk1 := List.getElem?_eq_getElem hkl
      have hst : Hid (flN (l.take (k + 1)) = (flN (l.take k) || (decide (l[k].1 < 0) || decide (l[k].2 < 0)))) := Lib.hid (any_step hk1)
      have htr : Hid ((decide (l[k].1 < 0) || decide (l[k].2 < 0)) = true → flN l = true) := Lib.hid (fun h => any_true hk1 h)
      clear hr hk1
      generalize l[k] = y at hc0 hc1 hst htr
      obtain ⟨p, q⟩ := y
      dsimp only at hc0 hc1 hst htr
      cases hq : (decide (p < 0) || decide (q < 0)) with
      | true =>
        have hcall := fun w => hq ▸ v2_any p q w
        have HQ := Lib.hid hq
        clear hq
        go_wp2_with (go_at_fn 37; refine (hcall _).mono ?_; rintro e w' ⟨rfl, hb'⟩)
        go_ret
        exact ⟨_, rfl, by rw [HE.out, htr.out HQ.out]; simp, hbel.trans (hb'.mono hsz)⟩
      | false =>
        have hcall := fun w => hq ▸ v2_any p q w
        have HQ := Lib.hid hq
        clear hq
        go_wp2_with (go_at_fn 37; refine (hcall _).mono ?_; rintro e w' ⟨rfl, hb'⟩)
        go_roundw
        case rel => exact ⟨k + 1, hlt, by simp, hbel.trans (hb'.mono hsz), Lib.hid (by rw [hst.out, hno.out, HQ.out]; rfl)⟩
        case measure => simp [intOf]; omega
    · obtain rfl : k = n := by omega
      have hE2 : E = false := by
        rw [HE.out]
        have := hno.out
        rwa [List.take_of_length_le (Nat.le_of_eq hl.out)] at this
      subst hE2
      go_wp2
      go_ret
      exact ⟨_, rfl, rfl, hbel⟩
set_option maxHeartbeats 1000000 in
theorem fcon_any (l : List R) (n : Nat) (w : World) (A : Option Addr) (c : Nat) (hl : Hid (l.length = n)) (hr : Row.Rs encR 2 w w.heap.size A l) (hm : n ≤ 1000000) :
    Calls Try.prog 36 #[.slice A n c, .func (.func 37) #[] #[]] w fun e w' => e = .returned (.bool (flN l)) ∧ Below w.heap.size w w' := by
  have hcon := fidx_any l n w A c hl hr hm
  obtain ⟨E, hE⟩ : ∃ E, E = flN l := ⟨_, rfl⟩
  rw [← hE] at hcon ⊢
  clear hE hl hr
  go_enter Try.func36, Try.ntmps36
  go_wp2_with (go_at_call 42; refine hcon.mono ?_; rintro e w' ⟨r, rfl, hz, hbel⟩)
  go_ret
  exact ⟨rfl, hbel⟩

set_option maxHeartbeats 1000000 in
theorem rclone_any (L : List R) (n : Nat) (w : World) (A : Option Addr) (c : Nat) (h : Sl encR 2 w A n c L) (hm : n ≤ 1000000) :
    Calls Try.prog 20 #[.slice A n c] w fun e w' => ∃ v, e = .returned v ∧ Row.Os encR 2 w' w.heap.size 53 v L ∧ Below w.heap.size w w' := by
  have q := fun (w : World) (a : Option Addr) (n c n' c' : Nat) => Lib.run_eql_slice_nil w 22 53 a n c n' c' Try.underlying22
  obtain ⟨hr, hlen, hn, hle, hmx⟩ := h
  cases A with
  | none =>
    have hL : L = [] := by
      rcases Nat.eq_zero_or_pos L.length with h0 | h0
      · exact List.eq_nil_of_length_eq_zero h0
      · obtain ⟨b, off, h, _⟩ := hr h0; cases h
    subst hL
    clear hr
    subst hlen
    go_enter Try.func20, Try.ntmps20
    go_wp2
    go_ret
    exact ⟨_, rfl, Row.Os.nil_ _ _ _, Below.refl _ _⟩
  | some a =>
    obtain ⟨ab, ao, asp⟩ := a
    have b1 : Below w.heap.size w (w.alloc (.cells #[] 53)) := (Below.refl _ w).alloc (Nat.le_refl _) _
    have hr1 := (hr.below b1)
    have ho1 : Row.Os encR 2 (w.alloc (.cells #[] 53)) w.heap.size 53 (.slice (some ⟨w.heap.size, 0, none⟩) 0 0) [] := Row.Os.empty _ _ _ (Nat.le_refl _)
    have hlen := Lib.hid hlen
    clear hr
    go_enter Try.func20, Try.ntmps20
    go_wp2_with (at_builtin; refine wpList_row _ encR_ok is_rngs (by decide) rfl (.tmp 5) (.tmp 6) rfl rfl ho1 (l := L) hlen.out rfl hr1 hn (by have := hlen.out; simp; omega) (by simp) ?_; intro v2 w2 hown2 hg2 hv2)
    go_ret
    exact ⟨_, rfl, by simpa using hown2, b1.grown hg2 (by simp) (fun i hi => by have := ho1.base_le i hi; omega)⟩

set_option maxHeartbeats 1000000 in
theorem iclone_any (L : List Int) (n : Nat) (w : World) (A : Option Addr) (c : Nat) (h : Sl encI 1 w A n c L) (hm : n ≤ 1000000) :
    Calls Try.prog 21 #[.slice A n c] w fun e w' => ∃ v, e = .returned v ∧ Row.Os encI 1 w' w.heap.size 3 v L ∧ Below w.heap.size w w' := by
  have q := fun (w : World) (a : Option Addr) (n c n' c' : Nat) => Lib.run_eql_slice_nil w 23 3 a n c n' c' Try.underlying23
  obtain ⟨hr, hlen, hn, hle, hmx⟩ := h
  cases A with
  | none =>
    have hL : L = [] := by
      rcases Nat.eq_zero_or_pos L.length with h0 | h0
      · exact List.eq_nil_of_length_eq_zero h0
      · obtain ⟨b, off, h, _⟩ := hr h0; cases h
    subst hL
    clear hr
    subst hlen
    go_enter Try.func21, Try.ntmps21
    go_wp2
    go_ret
    exact ⟨_, rfl, Row.Os.nil_ _ _ _, Below.refl _ _⟩
  | some a =>
    obtain ⟨ab, ao, asp⟩ := a
    have b1 : Below w.heap.size w (w.alloc (.cells #[] 3)) := (Below.refl _ w).alloc (Nat.le_refl _) _
    have hr1 := (hr.below b1)
    have ho1 : Row.Os encI 1 (w.alloc (.cells #[] 3)) w.heap.size 3 (.slice (some ⟨w.heap.size, 0, none⟩) 0 0) [] := Row.Os.empty _ _ _ (Nat.le_refl _)
    have hlen := Lib.hid hlen
    clear hr
    go_enter Try.func21, Try.ntmps21
    go_wp2_with (at_builtin; refine wpList_row _ encI_ok is_nums (by decide) rfl (.tmp 5) (.tmp 6) rfl rfl ho1 (l := L) hlen.out rfl hr1 hn (by have := hlen.out; simp; omega) (by simp) ?_; intro v2 w2 hown2 hg2 hv2)
    go_ret
    exact ⟨_, rfl, by simpa using hown2, b1.grown hg2 (by simp) (fun i hi => by have := ho1.base_le i hi; omega)⟩

set_option maxHeartbeats 1000000 in
theorem fclone_any (L : List R) (n : Nat) (w : World) (A : Option Addr) (c : Nat) (h : Sl encR 2 w A n c L) (hm : n ≤ 1000000) :
    Calls Try.prog 22 #[.slice A n c] w fun e w' => ∃ v, e = .returned v ∧ Row.Os encR 2 w' w.heap.size 57 v L ∧ Below w.heap.size w w' := by
  have q := fun (w : World) (a : Option Addr) (n c n' c' : Nat) => Lib.run_eql_slice_nil w 24 57 a n c n' c' Try.underlying24
  obtain ⟨hr, hlen, hn, hle, hmx⟩ := h
  cases A with
  | none =>
    have hL : L = [] := by
      rcases Nat.eq_zero_or_pos L.length with h0 | h0
      · exact List.eq_nil_of_length_eq_zero h0
      · obtain ⟨b, off, h, _⟩ := hr h0; cases h
    subst hL
    clear hr
    subst hlen
    go_enter Try.func22, Try.ntmps22
    go_wp2
    go_ret
    exact ⟨_, rfl, Row.Os.nil_ _ _ _, Below.refl _ _⟩
  | some a =>
    obtain ⟨ab, ao, asp⟩ := a
    have b1 : Below w.heap.size w (w.alloc (.cells #[] 57)) := (Below.refl _ w).alloc (Nat.le_refl _) _
    have hr1 := (hr.below b1)
    have ho1 : Row.Os encR 2 (w.alloc (.cells #[] 57)) w.heap.size 57 (.slice (some ⟨w.heap.size, 0, none⟩) 0 0) [] := Row.Os.empty _ _ _ (Nat.le_refl _)
    have hlen := Lib.hid hlen
    clear hr
    go_enter Try.func22, Try.ntmps22
    go_wp2_with (at_builtin; refine wpList_row _ encR_ok is_flips (by decide) rfl (.tmp 5) (.tmp 6) rfl rfl ho1 (l := L) hlen.out rfl hr1 hn (by have := hlen.out; simp; omega) (by simp) ?_; intro v2 w2 hown2 hg2 hv2)
    go_ret
    exact ⟨_, rfl, by simpa using hown2, b1.grown hg2 (by simp) (fun i hi => by have := ho1.base_le i hi; omega)⟩

set_option maxHeartbeats 1000000 in
theorem tclone_any (L : List Tq) (n : Nat) (w : World) (A : Option Addr) (c : Nat) (h : Sl encT 2 w A n c L) (hm : n ≤ 1000000) :
    Calls Try.prog 32 #[.slice A n c] w fun e w' => ∃ v, e = .returned v ∧ Row.Os encT 2 w' w.heap.size 71 v L ∧ Below w.heap.size w w' := by
  have q := fun (w : World) (a : Option Addr) (n c n' c' : Nat) => Lib.run_eql_slice_nil w 59 71 a n c n' c' Try.underlying59
  obtain ⟨hr, hlen, hn, hle, hmx⟩ := h
  cases A with
  | none =>
    have hL : L = [] := by
      rcases Nat.eq_zero_or_pos L.length with h0 | h0
      · exact List.eq_nil_of_length_eq_zero h0
      · obtain ⟨b, off, h, _⟩ := hr h0; cases h
    subst hL
    clear hr
    subst hlen
    go_enter Try.func32, Try.ntmps32
    go_wp2
    go_ret
    exact ⟨_, rfl, Row.Os.nil_ _ _ _, Below.refl _ _⟩
  | some a =>
    obtain ⟨ab, ao, asp⟩ := a
    have b1 : Below w.heap.size w (w.alloc (.cells #[] 71)) := (Below.refl _ w).alloc (Nat.le_refl _) _
    have hr1 := (hr.below b1)
    have ho1 : Row.Os encT 2 (w.alloc (.cells #[] 71)) w.heap.size 71 (.slice (some ⟨w.heap.size, 0, none⟩) 0 0) [] := Row.Os.empty _ _ _ (Nat.le_refl _)
    have hlen := Lib.hid hlen
    clear hr
    go_enter Try.func32, Try.ntmps32
    go_wp2_with (at_builtin; refine wpList_row _ encT_ok is_trans (by decide) rfl (.tmp 5) (.tmp 6) rfl rfl ho1 (l := L) hlen.out rfl hr1 hn (by have := hlen.out; simp; omega) (by simp) ?_; intro v2 w2 hown2 hg2 hv2)
    go_ret
    exact ⟨_, rfl, by simpa using hown2, b1.grown hg2 (by simp) (fun i hi => by have := ho1.base_le i hi; omega)⟩
end Go.Proofs.Ytllhdgllgoanbaa.Lnk
