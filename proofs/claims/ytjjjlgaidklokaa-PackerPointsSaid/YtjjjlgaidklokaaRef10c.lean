/-
  The walks of the reference of layer 10: Size, Same.
-/
import Derived.Test.YtjjjlgaidklokaaRef10b
import Derived.Test.YtjjjlgaidklokaaPacW4
namespace Go.Proofs.Ytjjjlgaidklokaa.Pac
open Go.RowKit

/-- the bytes of a header in memory -/
theorem head_cells {w : World} {B : Nat} {a : Option Addr} {l : List Byte} (hb : Bs w B a l) (h : 6 ≤ l.length) : ∃ b off, a = some ⟨b, off, none⟩ ∧ b < B ∧ ∀ k, k < 6 → w.cell? ⟨b, off + k, none⟩ = some (.int .u8 ((b8 l k : Nat) : Int)) := by
  obtain ⟨b, off, rfl, hlt, hc⟩ := hb (by omega)
  refine ⟨b, off, rfl, hlt, fun k hk => ?_⟩
  have hx : l[k]? = some (l[k]'(by omega)) := List.getElem?_eq_getElem (by omega)
  rw [b8_at hx]
  exact hc k _ hx

set_option maxHeartbeats 1000000 in
theorem xsize_any (a : Option Addr) (l : List Byte) (n c : Nat) (w : World) (hl : Hid (l.length = n)) (hb : Bs w w.heap.size a l) (hn : a = none → c = 0) (_hnc : n ≤ c) (_hcm : c ≤ maxLen) :
    Calls Try.prog 23 #[.slice a n c] w fun e w' => e = .returned (.tuple #[.int .i64 ((siN l : Nat) : Int), .int .i64 (siE l)]) ∧ Below w.heap.size w w' := by
  have hln := hl.out
  by_cases h6 : n < 6
  · obtain ⟨h1, h2⟩ := siE_short (l := l) (by omega)
    rw [h1, h2]
    clear h1 h2 hl hb hn _hnc _hcm hln
    go_enter Try.func23, Try.ntmps23
    go_wp2
    go_ret2
    exact ⟨rfl, Below.refl _ _⟩
  · obtain ⟨b, off, rfl, _, hc⟩ := head_cells hb (by omega)
    have d0 := hc 0 (by decide)
    have d4 := hc 4 (by decide)
    have d5 := hc 5 (by decide)
    simp only [Nat.add_zero] at d0
    have z0 := b8_lt l 0
    have z4 := b8_lt l 4
    have z5 := b8_lt l 5
    have ht : tot l = 7 + 256 * b8 l 4 + b8 l 5 := rfl
    have g0 : (6 : Int) ≤ (n : Int) := by omega
    have g1 : decide ((n : Int) < 6) = false := by simp; omega
    have g2 : decide (n < 6) = false := by simp; omega
    by_cases hv : 32 ≤ b8 l 0
    · obtain ⟨h1, h2⟩ := siE_form (l := l) (by omega) hv
      rw [h1, h2]
      obtain ⟨N0, hN0⟩ : ∃ N, N = b8 l 0 := ⟨_, rfl⟩
      rw [← hN0] at d0 hv z0
      have g3 : decide (32 ≤ (N0 : Int)) = true := by simp; omega
      have g4 : decide (32 ≤ N0) = true := by simp; omega
      clear h1 h2 hl hb hn _hnc _hcm hln hN0 hv hc ht d4 d5 z4 z5
      go_enter Try.func23, Try.ntmps23
      go_wp2
      go_ret2
      exact ⟨rfl, Below.refl _ _⟩
    · obtain ⟨T, hT⟩ : ∃ T, T = tot l := ⟨_, rfl⟩
      obtain ⟨N0, hN0⟩ : ∃ N, N = b8 l 0 := ⟨_, rfl⟩
      obtain ⟨N4, hN4⟩ : ∃ N, N = b8 l 4 := ⟨_, rfl⟩
      obtain ⟨N5, hN5⟩ : ∃ N, N = b8 l 5 := ⟨_, rfl⟩
      have hvv := hv
      rw [← hN0] at d0 hv z0
      rw [← hN4] at d4 z4 ht
      rw [← hN5] at d5 z5 ht
      rw [← hT] at ht
      have g3 : decide (32 ≤ (N0 : Int)) = false := by simp; omega
      have g4 : decide (32 ≤ N0) = false := by simp; omega
      have hTI : 7 + 256 * (N4 : Int) + (N5 : Int) = (T : Int) := by omega
      by_cases hq : 4096 < T
      · obtain ⟨h1, h2⟩ := siE_long (l := l) (by omega) hvv (by omega)
        rw [h1, h2]
        have g5 : decide ((4096 : Int) < (T : Int)) = true := by simp; omega
        have g6 : decide (4096 < T) = true := by simp; omega
        have HT := Lib.hid hTI
        clear h1 h2 hl hb hn _hnc _hcm hln hN0 hN4 hN5 hT hv hvv hc ht hTI
        go_enter Try.func23, Try.ntmps23
        go_wp2
        go_quiet (fail)
        rw [HT.out]
        go_wp2
        go_ret2
        exact ⟨rfl, drewN_below _ _⟩
      · obtain ⟨h1, h2⟩ := siE_good (l := l) (by omega) hvv (by omega)
        rw [h1, h2, ← hT]
        have g5 : decide ((4096 : Int) < (T : Int)) = false := by simp; omega
        have g6 : decide (4096 < T) = false := by simp; omega
        have HT := Lib.hid hTI
        clear h1 h2 hl hb hn _hnc _hcm hln hN0 hN4 hN5 hT hv hvv hc ht hTI
        go_enter Try.func23, Try.ntmps23
        go_wp2
        go_quiet (fail)
        rw [HT.out]
        go_wp2
        go_ret2
        exact ⟨rfl, drewN_below _ _⟩

end Go.Proofs.Ytjjjlgaidklokaa.Pac
