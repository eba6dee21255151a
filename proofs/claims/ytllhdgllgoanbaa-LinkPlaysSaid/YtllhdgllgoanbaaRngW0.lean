/-
  Package ranges: the small functions, and Has of the reference.
-/
import Derived.Test.YtllhdgllgoanbaaBase
import Derived.Test.YtllhdgllgoanbaaRngH
namespace Go.Proofs.Ytllhdgllgoanbaa.Rng
open Go.RowKit

theorem info_range : (Try.prog.info? 53).map (fun i => (i.zero, i.size, i.bytes)) = some (some (.agg #[I 0, I 0]), 2, 16) := by kernel_rfl
theorem is_ranges : IsRanges Try.prog 22 53 := by
  obtain ⟨i, h0, h1, h2, h3⟩ := info_parts info_range
  exact ⟨Try.underlying22, i, h0, h1, h2, h3⟩

theorem len_wrap (x y : Int) : IntKind.u64.wrap (IntKind.u64.wrap y - IntKind.u64.wrap x) = (len (x, y) : Int) := by
  simp only [IntKind.wrap_u64, len]; omega
theorem has_step {l : List R} {n : Int} {k : Nat} (h : k < l.length) : has (l.drop k) n = ((decide (l[k].1 ≤ n) && decide (n < l[k].2)) || has (l.drop (k + 1)) n) := by
  rw [List.drop_eq_getElem_cons h]; rfl

set_option maxHeartbeats 2000000 in
theorem hasf_any (x y n : Int) (w : World) (Bn : Nat) (hB : w.cell? ⟨Bn, 0, none⟩ = some (I n)) (hb : Bn < w.heap.size) : Calls Try.prog 39 #[.agg #[I x, I y], .pointer (some ⟨Bn, 0, none⟩)] w fun e w' => e = .returned (.bool (decide (x ≤ n) && decide (n < y))) ∧ w' = w.alloc (.cells #[I x, I y] 53) := by
  have hB2 := (((Below.refl w.heap.size w).alloc (Nat.le_refl _) (.cells #[I x, I y] 53)).cell (p := ⟨Bn, 0, none⟩) hb).trans hB
  by_cases h1 : x ≤ n
  · have h1' : decide (x ≤ n) = true := by simpa using h1
    rw [h1', Bool.true_and]
    go_enter Try.func39, Try.ntmps39
    go_wp2
    go_ret
    exact ⟨rfl, rfl⟩
  · have h1' : decide (x ≤ n) = false := by simpa using h1
    rw [h1', Bool.false_and]
    go_enter Try.func39, Try.ntmps39
    go_wp2
    go_ret
    exact ⟨rfl, rfl⟩

set_option maxHeartbeats 2000000 in
theorem index_any (l : List R) (n : Int) (w : World) (A : Option Addr) (c Bn : Nat) (hB : w.cell? ⟨Bn, 0, none⟩ = some (I n)) (hb : Bn < w.heap.size) (h : Rs w w.heap.size A l) (hl : l.length ≤ 4611686018427387904) :
    Calls Try.prog 43 #[.slice A l.length c, .func (.func 39) #[] #[.pointer (some ⟨Bn, 0, none⟩)]] w fun e w' => (∃ z : Int, e = .returned (I z) ∧ Hid (decide (0 ≤ z) = has l n)) ∧ Below w.heap.size w w' := by
  obtain ⟨H, hH0⟩ : ∃ H, H = has l n := ⟨_, rfl⟩
  rw [← hH0]
  have hH := Lib.hid hH0
  clear hH0
  go_enter Try.func43, Try.ntmps43
  go_wp2
  go_loopw [8] (fun i wr => ∃ k : Nat, k ≤ l.length ∧ i = .int .i64 k ∧ Hid (H = has (l.drop k) n) ∧ Below w.heap.size w wr) (fun i _ => l.length - (intOf i).toNat)
  case atStart => exact ⟨0, Nat.zero_le _, rfl, Lib.hid (by simpa using hH.out), Below.refl _ _⟩
  case round =>
    obtain ⟨k, hk, rfl, hh0, hbel⟩ := hrel
    have hh := hh0.out
    clear hh0
    have hBr := (hbel.cell (p := ⟨Bn, 0, none⟩) hb).trans hB
    have hbr : Bn < wr.heap.size := Nat.lt_of_lt_of_le hb hbel.size
    by_cases hlt : k < l.length
    · obtain ⟨b, off, rfl, hb, hc1, hc2⟩ := (h.below hbel).at_ hlt
      rw [has_step hlt] at hh
      obtain ⟨X, hX⟩ : ∃ X, X = (decide (l[k].1 ≤ n) && decide (n < l[k].2)) := ⟨_, rfl⟩
      have hcall := hasf_any l[k].1 l[k].2 n wr Bn hBr hbr
      rw [← hX] at hh hcall
      clear hX
      have HH := Lib.hid hh
      clear hh
      cases X with
      | true =>
        go_wp2_with (go_at_call 39; refine hcall.mono ?_; rintro e w' ⟨rfl, rfl⟩)
        go_ret
        exact ⟨⟨k, rfl, Lib.hid (by rw [HH.out]; simp)⟩, hbel.alloc hbel.size _⟩
      | false =>
        go_wp2_with (go_at_call 39; refine hcall.mono ?_; rintro e w' ⟨rfl, rfl⟩)
        go_roundw
        case rel => exact ⟨k + 1, hlt, rfl, Lib.hid (by simpa using HH.out), hbel.alloc hbel.size _⟩
        case measure => simp [intOf]; omega
    · obtain rfl : k = l.length := by omega
      rw [List.drop_length] at hh
      have HH := Lib.hid hh
      clear hh
      go_wp2
      go_ret
      exact ⟨⟨-1, rfl, Lib.hid (by rw [HH.out]; rfl)⟩, hbel⟩

set_option maxHeartbeats 2000000 in
theorem contains_any (l : List R) (n : Int) (w : World) (A : Option Addr) (c Bn : Nat) (hB : w.cell? ⟨Bn, 0, none⟩ = some (I n)) (hb : Bn < w.heap.size) (h : Rs w w.heap.size A l) (hl : l.length ≤ 4611686018427387904) :
    Calls Try.prog 38 #[.slice A l.length c, .func (.func 39) #[] #[.pointer (some ⟨Bn, 0, none⟩)]] w fun e w' => e = .returned (.bool (has l n)) ∧ Below w.heap.size w w' := by
  have hcon := index_any l n w A c Bn hB hb h hl
  obtain ⟨H, hH⟩ : ∃ H, H = has l n := ⟨_, rfl⟩
  rw [← hH] at hcon ⊢
  clear hH
  go_enter Try.func38, Try.ntmps38
  go_wp2_with (go_at_call 43; refine hcon.mono ?_; rintro e w' ⟨⟨z, rfl, hz⟩, hbel⟩)
  go_ret
  exact ⟨by rw [← hz.out]; rfl, hbel⟩

set_option maxHeartbeats 2000000 in
theorem has_any (l : List R) (n : Int) (w : World) (A : Option Addr) (c : Nat) (h : Rs w w.heap.size A l) (hl : l.length ≤ 4611686018427387904) :
    Calls Try.prog 26 #[.slice A l.length c, I n] w fun e w' => e = .returned (.bool (has l n)) ∧ Below w.heap.size w w' := by
  obtain ⟨w1, hw1⟩ : ∃ w1, w1 = w.alloc (.cells #[I n] 3) := ⟨_, rfl⟩
  have b1 : Below w.heap.size w w1 := by rw [hw1]; exact (Below.refl _ w).alloc (Nat.le_refl _) _
  have hs1 : w1.heap.size = w.heap.size + 1 := by rw [hw1]; simp
  have hcon := contains_any l n w1 A c w.heap.size (by rw [hw1]; exact (Cel.new w 3 #[I n]).cell 0) (by omega) ((h.below b1).more (by omega)) hl
  obtain ⟨H, hH⟩ : ∃ H, H = has l n := ⟨_, rfl⟩
  rw [← hH] at hcon ⊢
  clear hH
  go_enter Try.func26, Try.ntmps26
  go_wp2_with (go_at_call 38; rw [← hw1]; refine hcon.mono ?_; rintro e w' ⟨rfl, hbel⟩)
  go_ret
  exact ⟨rfl, b1.trans (hbel.mono b1.size)⟩
end Go.Proofs.Ytllhdgllgoanbaa.Rng
