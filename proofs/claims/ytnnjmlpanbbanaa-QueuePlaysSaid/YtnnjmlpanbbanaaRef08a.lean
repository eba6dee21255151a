/-
  The reference of layer 8: New, find, Peek, Ints.
-/
import Derived.Deep.QuietTactic
import Derived.BigQuiet
import Derived.BigRegion
import Derived.Test.YtnnjmlpanbbanaaQueW5
namespace Go.Proofs.Ytnnjmlpanbbanaa.Rng.Que
open Go.RowKit Go.Shelf Ints

theorem bel_draws {B : Nat} {w w1 : World} (h : Below B w w1) (n : Nat) : Below B w (w1.drewN n) := h.trans (drewN_below w1 n)
theorem bel_drew {B : Nat} {w w1 : World} (h : Below B w w1) : Below B w w1.drew := h.trans ⟨rfl, rfl, rfl, Nat.le_refl _, fun _ _ => rfl⟩

theorem info_rentry : (Try.prog.info? 65).map (fun i => (i.zero, i.size, i.bytes)) = some (some (.agg #[I 0, I 0]), 2, 16) := by kernel_rfl
theorem is_rentries : IsRanges Try.prog 26 65 := by
  obtain ⟨i, h0, h1, h2, h3⟩ := info_parts info_rentry
  exact ⟨Try.underlying26, i, h0, h1, h2, h3⟩

theorem rnew_results {tmps : Array Value} {W : World} {g : Nat} {x y : Value} (h2 : tmps.getD 2 undef = .pointer (some ⟨g, 0, none⟩)) (c0 : W.cell? ⟨g, 0, none⟩ = some x) (c1 : W.cell? ⟨g, 1, none⟩ = some y) :
    (results Try.f10 tmps).run Try.prog W = .ok (.agg #[x, y]) W := by
  simp only [Array.getD_eq_getD_getElem?] at h2
  simp [results, Try.results10, go_sem, h2, c0, c1]

set_option maxHeartbeats 1000000 in
theorem rnew_any (n : Int) (w : World) :
    Calls Try.prog 10 #[I n] w fun e w' => e = .returned (.agg #[I (capOf n), .slice none 0 0]) ∧ Below w.heap.size w w' := by
  obtain ⟨M, hM⟩ : ∃ M : Nat, M = (max n 0).toNat := ⟨_, rfl⟩
  have hm0 : max n 0 = (M : Int) := by omega
  have hm0' : (if n < 0 then (0 : Int) else n) = (M : Int) := by split <;> omega
  have hC : capOf n = min M 256 := by unfold capOf; omega
  obtain ⟨C, hCC⟩ : ∃ C, C = capOf n := ⟨_, rfl⟩
  rw [← hCC] at hC ⊢
  have hm1 : min (M : Int) 256 = (C : Int) := by omega
  have hm1' : (if (256 : Int) < (M : Int) then (256 : Int) else (M : Int)) = (C : Int) := by split <;> omega
  have hm1'' : (if 256 < M then (256 : Int) else (M : Int)) = (C : Int) := by split <;> omega
  clear hM hC hCC
  have b1 := fun o => (Below.refl w.heap.size w).alloc (Nat.le_refl _) o
  go_enter Try.func10, Try.ntmps10
  go_wp2
  refine bodyPost_ret (rnew_results (g := w.heap.size) (x := I C) (y := .slice none 0 0) rfl (by simp) (by simp)) rfl ⟨rfl, ?_⟩
  first | exact b1 _ | exact ((b1 _).setCell (by simp) _).setCell (by simp) _

set_option maxHeartbeats 2000000 in
theorem rfind_any (L : List R) (cap item : Int) (w : World) (A : Option Addr) (c : Nat) (hr : Rs w w.heap.size A L) (hl : L.length ≤ 1000000) :
    Calls Try.prog 28 #[.agg #[I cap, .slice A L.length c], I item] w fun e w' => ∃ r : Int, e = .returned (I r) ∧ Hid (Fnd (fun x => x.2 == item) L r) ∧ Below w.heap.size w w' := by
  have hbr : Cel (w.alloc (.cells #[I cap, .slice A L.length c] 28)) w.heap.size 28 #[I cap, .slice A L.length c] := Cel.new w _ _
  have b1 : Below w.heap.size w (w.alloc (.cells #[I cap, .slice A L.length c] 28)) := (Below.refl _ w).alloc (Nat.le_refl _) _
  have x1 : (w.alloc (.cells #[I cap, .slice A L.length c] 28)).cell? ⟨w.heap.size, 1, none⟩ = some (.slice A L.length c) := by simp
  obtain ⟨w1, hw1⟩ : ∃ w1, w1 = w.alloc (.cells #[I cap, .slice A L.length c] 28) := ⟨_, rfl⟩
  rw [← hw1] at hbr b1 x1
  have hr1 := hr.below b1
  go_enter Try.func28, Try.ntmps28
  go_wp2_with fail
  rw [← hw1]
  clear hw1 hr hbr
  go_loopw [5] (fun i wr => ∃ k : Nat, k ≤ L.length ∧ i = .int .i64 k ∧ wr = w1 ∧ Hid (∀ y ∈ L.take k, (y.2 == item) = false)) (fun i _ => L.length - (intOf i).toNat)
  case atStart => exact ⟨0, Nat.zero_le _, rfl, rfl, Lib.hid (by simp)⟩
  case round =>
    obtain ⟨k, hk, rfl, rfl, hno⟩ := hrel
    by_cases hlt : k < L.length
    · obtain ⟨b, off, rfl, hbw, hc1, hc2⟩ := hr1.at_ hlt
      have hsplit : Hid (L = L.take k ++ L[k] :: L.drop (k + 1)) := Lib.hid (by rw [← List.drop_eq_getElem_cons hlt, List.take_append_drop])
      have htk : Hid (L.take (k + 1) = L.take k ++ [L[k]]) := Lib.hid (by rw [List.take_add_one, List.getElem?_eq_getElem hlt]; rfl)
      clear hr1
      generalize L[k] = y at hc1 hc2 hsplit htk
      obtain ⟨p, q⟩ := y
      dsimp only at hc1 hc2
      by_cases hq : q = item
      · subst hq
        go_wp2
        go_ret
        exact ⟨_, rfl, Lib.hid (.inr ⟨_, _, _, hsplit.out, by simp; omega, by simp, hno.out⟩), b1⟩
      · have hqd : (q == item) = false := by simpa using hq
        have HQ := Lib.hid hq
        clear hq
        go_wp2
        go_roundw
        case rel =>
          refine ⟨k + 1, hlt, by simp, trivial, Lib.hid ?_⟩
          intro y hy
          rw [htk.out] at hy
          rcases List.mem_append.1 hy with hy | hy
          · exact hno.out y hy
          · rw [List.mem_singleton.1 hy]; simpa using HQ.out
        case measure => simp [intOf]; omega
    · obtain rfl : k = L.length := by omega
      go_wp2
      go_ret
      exact ⟨_, rfl, Lib.hid (.inl ⟨rfl, by have := hno.out; rwa [List.take_length] at this⟩), b1⟩

set_option maxHeartbeats 1000000 in
theorem rpeek_any (L : List R) (cap : Int) (w : World) (A : Option Addr) (c : Nat) (hr : Rs w w.heap.size A L) :
    Calls Try.prog 19 #[.agg #[I cap, .slice A L.length c]] w fun e w' => e = .returned (.tuple #[I (hdI L), .bool (okI L)]) ∧ Below w.heap.size w w' := by
  have b1 : ∀ n : Nat, Below w.heap.size w (w.alloc (.cells #[I cap, .slice A n c] 28)) := fun n => (Below.refl _ w).alloc (Nat.le_refl _) _
  cases L with
  | nil =>
    go_enter Try.func19, Try.ntmps19
    go_wp2
    go_ret2
    exact ⟨rfl, b1 _⟩
  | cons y L =>
    have hr1 := hr.below (b1 (y :: L).length)
    obtain ⟨b, off, rfl, hb, hc1, hc2⟩ := hr1.at_ (k := 0) (by simp)
    obtain ⟨p, q⟩ := y
    have hh : hdI ((p, q) :: L) = q := rfl
    have ho : okI ((p, q) :: L) = true := by simp [okI]
    rw [hh, ho]
    obtain ⟨n, hn⟩ : ∃ n, n = ((p, q) :: L).length := ⟨_, rfl⟩
    rw [← hn] at hc1 hc2 ⊢
    simp only [Nat.zero_mul, Nat.add_zero, List.getElem_cons_zero] at hc1 hc2
    have hn0 : 0 < n := by rw [hn]; simp
    have hn1 : ¬ (n : Int) = 0 := by omega
    have hn2 : n ≠ 0 := by omega
    have b2 := b1 n
    clear hn hr hr1 hh ho b1
    go_enter Try.func19, Try.ntmps19
    go_wp2
    go_ret2
    exact ⟨rfl, b2⟩

set_option maxHeartbeats 2000000 in
theorem rints_any (a b : List Int) (w : World) (A B : Option Addr) (c d : Nat) (ha : Ns w w.heap.size A a) (hb : Ns w w.heap.size B b) (hla : a.length ≤ 1000000) :
    Calls Try.prog 21 #[.slice A a.length c, .slice B b.length d] w fun e w' => e = .returned (.bool (decide (a = b))) ∧ Below w.heap.size w w' := by
  obtain ⟨E, hE⟩ : ∃ E, E = decide (a = b) := ⟨_, rfl⟩
  rw [← hE]
  by_cases hlen : a.length = b.length
  · obtain ⟨n, hn⟩ : ∃ n, n = a.length := ⟨_, rfl⟩
    have hm : b.length = n := by omega
    rw [hm, ← hn]
    have HN := Lib.hid hn
    have HM := Lib.hid hm
    have HE := Lib.hid hE
    have hn1 : n ≤ 1000000 := by omega
    have hz : ((n : Int) != (n : Int)) = false := by simp
    clear hn hm hE hlen hla
    go_enter Try.func21, Try.ntmps21
    go_wp2
    go_loopw [5] (fun i wr => ∃ k : Nat, k ≤ n ∧ i = .int .i64 k ∧ Below w.heap.size w wr ∧ Hid (a.take k = b.take k)) (fun i _ => n - (intOf i).toNat)
    case atStart => exact ⟨0, Nat.zero_le _, rfl, Below.refl _ _, Lib.hid (by simp)⟩
    case round =>
      obtain ⟨k, hk, rfl, hbel, heq⟩ := hrel
      by_cases hlt : k < n
      · have hka : k < a.length := by have := HN.out; omega
        have hkb : k < b.length := by have := HM.out; omega
        obtain ⟨b1, o1, rfl, hb1, hc1⟩ := (ha.below hbel).at_ hka
        obtain ⟨b2, o2, rfl, hb2, hc2⟩ := (hb.below hbel).at_ hkb
        have hta : Hid (a.take (k + 1) = a.take k ++ [a[k]]) := Lib.hid (by rw [List.take_add_one, List.getElem?_eq_getElem hka]; rfl)
        have htb : Hid (b.take (k + 1) = b.take k ++ [b[k]]) := Lib.hid (by rw [List.take_add_one, List.getElem?_eq_getElem hkb]; rfl)
        have hla : Hid (a[k]? = some a[k]) := Lib.hid (List.getElem?_eq_getElem hka)
        have hlb : Hid (b[k]? = some b[k]) := Lib.hid (List.getElem?_eq_getElem hkb)
        generalize a[k] = p at hc1 hta hla
        generalize b[k] = q at hc2 htb hlb
        clear hka hkb ha hb
        by_cases hpq : p = q
        · subst hpq
          have hz2 : (p != p) = false := by simp
          go_wp2_with fail
          go_quiet (fail)
          go_wp2_with fail
          go_roundw
          case rel => exact ⟨k + 1, hlt, by simp, bel_draws hbel _, Lib.hid (by rw [hta.out, htb.out, heq.out])⟩
          case measure => simp [intOf]; omega
        · have hz2 : (p != q) = true := by simpa using hpq
          have HP := Lib.hid hpq
          clear hpq
          go_wp2_with fail
          go_quiet (fail)
          go_wp2_with fail
          go_ret
          refine ⟨?_, bel_draws hbel _⟩
          have : a ≠ b := fun e => by
            have h1 := hla.out
            rw [e, hlb.out] at h1
            injection h1 with h1
            exact HP.out h1.symm
          rw [HE.out, decide_eq_false this]; rfl
      · obtain rfl : k = n := by omega
        go_wp2
        go_ret
        refine ⟨?_, hbel⟩
        have h1 := heq.out
        rw [List.take_of_length_le (by have := HN.out; omega), List.take_of_length_le (by have := HM.out; omega)] at h1
        rw [HE.out, decide_eq_true h1]; rfl
  · have hf : E = false := by rw [hE]; exact decide_eq_false fun e => hlen (by rw [e])
    subst hf
    have hz : ((a.length : Int) != (b.length : Int)) = true := by simp; omega
    clear ha hb hE hlen
    go_enter Try.func21, Try.ntmps21
    go_wp2
    go_ret
    exact ⟨rfl, Below.refl _ _⟩
end Go.Proofs.Ytnnjmlpanbbanaa.Rng.Que
