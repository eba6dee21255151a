/-
  The reference of layer 20: Same, length, fitting; its state.
-/
import Derived.Test.YtcmonalnhdodmaaUnpW0
import Derived.Test.YtcmonalnhdodmaaLstH
import Derived.Test.YtcmonalnhdodmaaLater
namespace Go.Proofs.Ytcmonalnhdodmaa.Unp
open Go.RowKit Lst
open Pac (bel_new siE siN tot b8 siE_short siE_form siE_long siE_good siE_zero b8_at b8_lt)

set_option maxRecDepth 100000 in
set_option maxHeartbeats 2000000 in
theorem xsame_eq (ls : List (List Byte)) (n c1 c2 : Nat) (A1 A2 : Option Addr) (w : World) (hl : Hid (ls.length = n)) (h1 : LS w w.heap.size A1 ls) (h2 : LS w w.heap.size A2 ls) (hm : n ≤ 10000000) :
    Calls Try.prog 13 #[.slice A1 n c1, .slice A2 n c2] w fun e w' => e = .returned (.bool true) ∧ Below w.heap.size w w' := by
  have t1 : ((n : Int) != (n : Int)) = false := by simp
  go_enter Try.func13, Try.ntmps13
  go_wp2
  go_loopw [5] (fun i wr => ∃ k : Nat, k ≤ n ∧ i = .int .i64 (k : Int) ∧ Below w.heap.size w wr) (fun i _ => n - (intOf i).toNat)
  case atStart => exact ⟨0, Nat.zero_le _, rfl, Below.refl _ _⟩
  case round =>
    obtain ⟨k, hk, rfl, hB⟩ := hrel
    by_cases hkn : k < n
    · obtain ⟨l, hkl⟩ : ∃ l, ls[k]? = some l := ⟨_, List.getElem?_eq_getElem (by rw [hl.out]; exact hkn)⟩
      obtain ⟨b1, o1, s1, v1, rfl, hb1, u1, d1⟩ := (h1.below hB).at_ hkl
      obtain ⟨b2, o2, s2, v2, rfl, hb2, u2, d2⟩ := (h2.below hB).at_ hkl
      obtain ⟨M, hM⟩ : ∃ M, l.length = M := ⟨_, rfl⟩
      rw [hM] at u1 u2
      have hb1' : b1 < wr.heap.size := Nat.lt_of_lt_of_le hb1 hB.size
      have hb2' : b2 < wr.heap.size := Nat.lt_of_lt_of_le hb2 hB.size
      have e1 : ((str l).toList != (str l).toList) = false := by simp
      have d1' := d1.more hB.size
      have d2' := d2.more hB.size
      clear hkl
      go_wp2_with fail
      refine wp_region_later (by kernel_rfl) (by kernel_rfl) ?_
      have r1 : ∀ p : Later wr, p.W.cell? ⟨b1, o1 + k, none⟩ = some (.slice s1 M v1) := later_cell u1 hb1'
      have r2 : ∀ p : Later wr, p.W.cell? ⟨b2, o2 + k, none⟩ = some (.slice s2 M v2) := later_cell u2 hb2'
      have q1 : ∀ p : Later wr, (convert 26 9 (.slice s1 M v1)).run Try.prog p.W = .ok (.string (str l)) p.W := fun p => by
        have := run_str p.W is_bytes Try.underlying9 (d1'.b.below p.h) d1'.n
        rwa [hM] at this
      have q2 : ∀ p : Later wr, (convert 26 9 (.slice s2 M v2)).run Try.prog p.W = .ok (.string (str l)) p.W := fun p => by
        have := run_str p.W is_bytes Try.underlying9 (d2'.b.below p.h) d2'.n
        rwa [hM] at this
      clear u1 u2 d1 d2 d1' d2' hM h1 h2
      repeat (go_big_quiet_step (fail))
      refine wpQuiet_nil ?_
      rintro _ ⟨⟨w5, hbel5⟩, rfl⟩
      go_wp2
      go_round
      case rel => exact ⟨k + 1, hkn, by go_num, hB.trans (hbel5.mono hB.size)⟩
      case measure => simp [intOf]; omega
    · obtain rfl : k = n := by omega
      go_wp2
      go_ret
      exact ⟨rfl, hB⟩

theorem x64_small {Q : Nat} (h : Q ≤ 2000000) : wrap64 (Q : Int) = (Q : Int) := by unfold wrap64; omega
set_option maxRecDepth 100000 in
set_option maxHeartbeats 2000000 in
theorem xlength_any (a : Option Addr) (l : List Byte) (n c : Nat) (w : World) (h : Rd w a l n c) (h6 : 6 ≤ n) :
    Calls Try.prog 32 #[.slice a n c] w fun e w' => e = .returned (.int .i64 ((siN l : Nat) : Int)) ∧ Below w.heap.size w w' := by
  have hln := h.len
  obtain ⟨b, off, rfl, hb, hc⟩ := h.at_ (by omega)
  obtain ⟨x0, hx0⟩ : ∃ x, l[0]? = some x := ⟨_, List.getElem?_eq_getElem (by omega)⟩
  obtain ⟨x4, hx4⟩ : ∃ x, l[4]? = some x := ⟨_, List.getElem?_eq_getElem (by omega)⟩
  obtain ⟨x5, hx5⟩ : ∃ x, l[5]? = some x := ⟨_, List.getElem?_eq_getElem (by omega)⟩
  have c0 := hc 0 x0 hx0
  have c4 := hc 4 x4 hx4
  have c5 := hc 5 x5 hx5
  rw [Nat.add_zero] at c0
  have y0 := b8_at hx0
  have y4 := b8_at hx4
  have y5 := b8_at hx5
  have g0 := x0.isLt
  have g4 := x4.isLt
  have g5 := x5.isLt
  obtain ⟨v0, hv0⟩ : ∃ v, x0.toNat = v := ⟨_, rfl⟩
  obtain ⟨v4, hv4⟩ : ∃ v, x4.toNat = v := ⟨_, rfl⟩
  obtain ⟨v5, hv5⟩ : ∃ v, x5.toNat = v := ⟨_, rfl⟩
  have c0' : w.cell? ⟨b, off, none⟩ = some (.int .u8 (v0 : Int)) := by rw [c0]; show some (Value.int .u8 ((x0.toNat : Nat) : Int)) = _; rw [hv0]
  have c4' : w.cell? ⟨b, off + 4, none⟩ = some (.int .u8 (v4 : Int)) := by rw [c4]; show some (Value.int .u8 ((x4.toNat : Nat) : Int)) = _; rw [hv4]
  have c5' : w.cell? ⟨b, off + 5, none⟩ = some (.int .u8 (v5 : Int)) := by rw [c5]; show some (Value.int .u8 ((x5.toNat : Nat) : Int)) = _; rw [hv5]
  have ht : tot l = v4 * 256 + v5 + 7 := by unfold tot; rw [y4, y5, hv4, hv5]; omega
  obtain ⟨T, hT⟩ : ∃ T, v4 * 256 + v5 + 7 = T := ⟨_, rfl⟩
  have HT : Hid ((v4 : Int) * 256 + (v5 : Int) + 7 = (T : Int)) := Lib.hid (by omega)
  have z4 : v4 < 256 := by omega
  have z5 : v5 < 256 := by omega
  have i4 : (4 : Int) < (n : Int) := by omega
  have i5 : (5 : Int) < (n : Int) := by omega
  have i0 : (0 : Int) < (n : Int) := by omega
  rw [hv0] at y0
  have k0 : (32 ≤ b8 l 0) ↔ 32 ≤ v0 := by rw [y0]
  have kt : (4096 < tot l) ↔ 4096 < T := by rw [ht, hT]
  have hv0b : v0 ≤ 255 := by omega
  by_cases hz : 32 ≤ v0
  · have e := (siE_form (l := l) (by omega) (k0.2 hz)).2
    rw [e]
    have t1 : decide ((32 : Int) ≤ (v0 : Int)) = true := by simp; omega
    have t1' : decide (32 ≤ v0) = true := by simpa using hz
    clear h hc hx0 hx4 hx5 c0 c4 c5 y0 y4 y5 g0 g4 g5 hv0 hv4 hv5 ht hT k0 kt e hz hln h6
    go_enter Try.func32, Try.ntmps32
    go_wp2
    go_quiet (fail)
    rw [HT.out]
    go_wp2
    go_ret
    exact ⟨rfl, drewN_below _ _⟩
  · have t1 : decide ((32 : Int) ≤ (v0 : Int)) = false := by simp; omega
    have t1' : decide (32 ≤ v0) = false := by simpa using hz
    by_cases hy : 4096 < T
    · have e := (siE_long (l := l) (by omega) (fun k => hz (k0.1 k)) (kt.2 hy)).2
      rw [e]
      have t2 : decide ((4096 : Int) < (T : Int)) = true := by simp; omega
      have t2' : decide (4096 < T) = true := by simpa using hy
      clear h hc hx0 hx4 hx5 c0 c4 c5 y0 y4 y5 g0 g4 g5 hv0 hv4 hv5 ht hT k0 kt e hz hy hln h6
      go_enter Try.func32, Try.ntmps32
      go_wp2
      go_quiet (fail)
      rw [HT.out]
      go_wp2
      go_ret
      exact ⟨rfl, drewN_below _ _⟩
    · have e := (siE_good (l := l) (by omega) (fun k => hz (k0.1 k)) (fun k => hy (kt.1 k))).2
      rw [e, ht, hT]
      have t2 : decide ((4096 : Int) < (T : Int)) = false := by simp; omega
      have t2' : decide (4096 < T) = false := by simpa using hy
      clear h hc hx0 hx4 hx5 c0 c4 c5 y0 y4 y5 g0 g4 g5 hv0 hv4 hv5 ht hT k0 kt e hz hy hln h6
      go_enter Try.func32, Try.ntmps32
      go_wp2
      go_quiet (fail)
      rw [HT.out]
      go_wp2
      go_ret
      exact ⟨rfl, drewN_below _ _⟩
end Go.Proofs.Ytcmonalnhdodmaa.Unp
