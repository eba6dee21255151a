/-
  The reference of layer 13: Same; the law's few.
-/
import Derived.Test.YtahpogmbkkpmdaaRef13a
import Derived.Test.YtahpogmbkkpmdaaLstH
import Derived.Deep.QuietTactic
import Derived.BigQuiet
import Derived.BigRegion
namespace Go.Proofs.Ytahpogmbkkpmdaa.Mar
open Go.RowKit Lst
open Scr (app app_len rapply_any conv_at bel_new)

theorem conv_later {w : World} {A : Option Addr} {l : List Byte} {n c : Nat} (hl : l.length = n) (hb : Bs w w.heap.size A l) (hn : A = none → c = 0) (p : Later w) :
    (convert 22 9 (.slice A n c)).run Try.prog p.W = .ok (.string (str l)) p.W := conv_at p.W hl (hb.below p.h) hn

set_option maxRecDepth 100000 in
set_option maxHeartbeats 2000000 in
theorem same_eq (ls : List (List Byte)) (n c1 c2 : Nat) (A1 A2 : Option Addr) (w : World) (hl : Hid (ls.length = n)) (h1 : LS w w.heap.size A1 ls) (h2 : LS w w.heap.size A2 ls) (hm : n ≤ 1000000) :
    Calls Try.prog 16 #[.slice A1 n c1, .slice A2 n c2] w fun e w' => e = .returned (.bool true) ∧ Below w.heap.size w w' := by
  have t1 : ((n : Int) != (n : Int)) = false := by simp
  go_enter Try.func16, Try.ntmps16
  go_wp2
  go_loopw [5] (fun i wr => ∃ k : Nat, k ≤ n ∧ i = .int .i64 (k : Int) ∧ Below w.heap.size w wr) (fun i _ => n - (intOf i).toNat)
  case atStart => exact ⟨0, Nat.zero_le _, rfl, Below.refl _ _⟩
  case round =>
    obtain ⟨k, hk, rfl, hB⟩ := hrel
    by_cases hkn : k < n
    · obtain ⟨l, hkl⟩ : ∃ l, ls[k]? = some l := ⟨_, List.getElem?_eq_getElem (by rw [hl.out]; exact hkn)⟩
      obtain ⟨b1, o1, s1, v1, rfl, hb1, u1, d1⟩ := (h1.below hB).at_ hkl
      obtain ⟨b2, o2, s2, v2, rfl, hb2, u2, d2⟩ := (h2.below hB).at_ hkl
      obtain ⟨M, hM⟩ : ∃ M, l.length = M := ⟨_, rfl⟩
      rw [hM] at u1 u2
      have hb1' : b1 < wr.heap.size := Nat.lt_of_lt_of_le hb1 hB.size
      have hb2' : b2 < wr.heap.size := Nat.lt_of_lt_of_le hb2 hB.size
      have e1 : ((str l).toList != (str l).toList) = false := by simp
      have d1' := d1.more hB.size
      have d2' := d2.more hB.size
      clear hkl
      go_wp2_with fail
      refine wp_region_later (by kernel_rfl) (by kernel_rfl) ?_
      have r1 : ∀ p : Later wr, p.W.cell? ⟨b1, o1 + k, none⟩ = some (.slice s1 M v1) := later_cell u1 hb1'
      have r2 : ∀ p : Later wr, p.W.cell? ⟨b2, o2 + k, none⟩ = some (.slice s2 M v2) := later_cell u2 hb2'
      have q1 : ∀ p : Later wr, (convert 22 9 (.slice s1 M v1)).run Try.prog p.W = .ok (.string (str l)) p.W := conv_later hM d1'.b d1'.n
      have q2 : ∀ p : Later wr, (convert 22 9 (.slice s2 M v2)).run Try.prog p.W = .ok (.string (str l)) p.W := conv_later hM d2'.b d2'.n
      clear u1 u2 d1 d2 d1' d2' hM h1 h2
      repeat (go_big_quiet_step (fail))
      refine wpQuiet_nil ?_
      rintro _ ⟨⟨w5, hbel5⟩, rfl⟩
      go_wp2
      go_round
      case rel => exact ⟨k + 1, hkn, by go_num, hB.trans (hbel5.mono hB.size)⟩
      case measure => simp [intOf]; omega
    · obtain rfl : k = n := by omega
      go_wp2
      go_ret
      exact ⟨rfl, hB⟩

/-- what 'few' answers -/
def fw (ls : List (List Byte)) : Bool := decide (ls.length + szs ls ≤ 3000)
set_option maxRecDepth 100000 in
set_option maxHeartbeats 2000000 in
theorem few_any (ls : List (List Byte)) (n c : Nat) (A : Option Addr) (w : World) (hl : Hid (ls.length = n)) (h : LS w w.heap.size A ls) (hnc : n ≤ c) (hcm : c ≤ maxLen) :
    Calls Try.prog 14 #[.slice A n c] w fun e w' => e = .returned (.bool (fw ls)) ∧ w = w' := by
  unfold maxLen at hcm
  obtain ⟨R, hR⟩ : ∃ R, R = fw ls := ⟨_, rfl⟩
  have hR' : R = decide (n + szs ls ≤ 3000) := by rw [hR, fw, hl.out]
  rw [← hR]
  clear hR
  go_enter Try.func14, Try.ntmps14
  go_wp2
  go_loop [3, 4] (fun t i => ∃ k S : Nat, k ≤ n ∧ i = .int .i64 (k : Int) ∧ t = .int .i64 (S : Int) ∧ S = n + szs (ls.take k) ∧ S ≤ n + 7000) (fun _ i => n - (intOf i).toNat)
  case atStart => exact ⟨0, n, Nat.zero_le _, rfl, rfl, by simp [szs], by omega⟩
  case round =>
    obtain ⟨k, S, hk, rfl, rfl, hS, hS2⟩ := hrel
    by_cases hkn : k < n
    · have t1 : decide ((k : Int) < (n : Int)) = true := by simp; omega
      have t1' : decide (k < n) = true := by simpa using hkn
      by_cases hS3 : S ≤ 3000
      · have t2 : decide ((S : Int) ≤ 3000) = true := by simp; omega
        have t2' : decide (S ≤ 3000) = true := by simpa using hS3
        obtain ⟨l, hkl⟩ : ∃ l, ls[k]? = some l := ⟨_, List.getElem?_eq_getElem (by rw [hl.out]; exact hkn)⟩
        have hsz := szs_take hkl
        obtain ⟨b1, o1, s1, v1, rfl, hb1, u1, d1⟩ := h.at_ hkl
        obtain ⟨M, hM⟩ : ∃ M, l.length = M := ⟨_, rfl⟩
        rw [hM] at u1 hsz
        have hMm : M ≤ 9223372036854775807 := by have := d1.l; have := d1.m; unfold maxLen at this; omega
        obtain ⟨Q, hQ⟩ : ∃ Q, Q = min M 4000 := ⟨_, rfl⟩
        have hm1 : min (M : Int) 4000 = (Q : Int) := by omega
        have hm2 : (if (4000 : Int) < (M : Int) then (4000 : Int) else (M : Int)) = (Q : Int) := by split <;> omega
        have hm3 : (if 4000 < M then (4000 : Int) else (M : Int)) = (Q : Int) := by split <;> omega
        have hQ2 : Q ≤ 4000 := by omega
        rw [← hQ] at hsz
        have HZ := Lib.hid hsz
        have HS := Lib.hid hS
        clear hM hQ hsz hS d1 hkl hR'
        go_wp2
        go_round
        case rel => exact ⟨k + 1, S + Q, hkn, by go_num, by go_num, by rw [HZ.out, HS.out]; omega, by omega⟩
        case measure => simp [intOf]; omega
      · have t2 : decide ((S : Int) ≤ 3000) = false := by simp; omega
        have t2' : decide (S ≤ 3000) = false := by simpa using hS3
        have hle := szs_take_le ls k
        obtain rfl : R = false := by rw [hR']; exact decide_eq_false (by omega)
        clear hR' hS hle hkn hS3
        go_wp2
        go_ret
        exact ⟨rfl, rfl⟩
    · obtain rfl : k = n := by omega
      have t1 : decide ((k : Int) < (k : Int)) = false := by simp
      rw [List.take_of_length_le (Nat.le_of_eq hl.out)] at hS
      have t2 : decide ((S : Int) ≤ 3000) = R := by rw [hR', ← hS]; simp only [decide_eq_decide]; omega
      have t2' : decide (S ≤ 3000) = R := by rw [hR', ← hS]
      clear hR' hS hkn
      go_wp2
      go_ret
      exact ⟨rfl, rfl⟩
end Go.Proofs.Ytahpogmbkkpmdaa.Mar
