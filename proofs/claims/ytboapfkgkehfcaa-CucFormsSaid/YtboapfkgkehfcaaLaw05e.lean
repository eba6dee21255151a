/-
  The walk of the law CucForms.
-/
import Derived.Test.YtboapfkgkehfcaaLaw05c
namespace Go.Proofs.Ytboapfkgkehfcaa
open Go.RowKit

theorem dcd_zero {l : List Byte} (h : (dcd l).1 ≠ 0) : (dcd l).2 = (0, 0, 0) ∧ dsz l = 0 := by
  refine ⟨?_, by unfold dsz; rw [if_neg h]⟩
  cases l with
  | nil => rfl
  | cons p r =>
    by_cases hp : p.toNat < 16 ∨ 31 < p.toNat
    · rw [dcd_form hp]
    · by_cases hr : r.length < (p.toNat - 16) / 4 + 1 + p.toNat % 4
      · rw [dcd_short hp rfl rfl hr]
      · rw [dcd_rest hp rfl rfl hr] at h ⊢
        split
        · rename_i hz
          rw [if_pos hz] at h
          simp at h
        · rfl

set_option maxHeartbeats 400000 in
theorem forms_long (a : Option Addr) (n c : Nat) (w : World) (hl : 100 < n) :
    Calls Try.prog 6 #[.slice a n c] w fun e w' => e = .returned (.bool true) ∧ Below w.heap.size w w' := by
  have t1 : (100 : Int) < (n : Int) := by omega
  go_enter Try.func6, Try.ntmps6
  go_wp2_with (go_at_call 16; refine (alive05_any _).mono ?_; rintro e w1 ⟨rfl, bel1⟩)
  go_ret
  exact ⟨rfl, bel1⟩

set_option maxHeartbeats 1000000 in
theorem forms_bad (a : Option Addr) (l : List Byte) (c : Nat) (w : World) (hb : Bs w w.heap.size a l) (hc : l.length ≤ c) (hm : c ≤ maxLen) (hl : l.length ≤ 100) (he : (dcd l).1 ≠ 0) :
    Calls Try.prog 6 #[.slice a l.length c] w fun e w' => e = .returned (.bool true) ∧ Below w.heap.size w w' := by
  have t1 : decide ((100 : Int) < (l.length : Int)) = false := by simp; omega
  have t2 : decide (100 < l.length) = false := by simp; omega
  have hd := decode_any a l l.length c w (Lib.hid rfl) hb hc hm (by omega)
  obtain ⟨h2, h3⟩ := dcd_zero he
  obtain ⟨E, hE⟩ : ∃ E, E = (dcd l).1 := ⟨_, rfl⟩
  simp only [← hE, h2, h3, dOut, Int.natCast_zero] at hd
  rw [← hE] at he
  have t3 : (E != 0) = true := by rw [bne_iff_ne]; exact he
  clear hE h2 h3 he
  go_enter Try.func6, Try.ntmps6
  go_wp2_with fail
  refine hd.mono ?_
  rintro e w1 ⟨rfl, h1⟩
  have bel1 := h1.alloc h1.size (.cells #[.int .i64 0, .int .i64 0] 23)
  clear h1 hd
  go_wp2_with (go_at_call 16; refine (alive05_any _).mono ?_; rintro e w3 ⟨rfl, bel3⟩)
  go_ret
  exact ⟨rfl, bel1.trans (bel3.mono bel1.size)⟩

set_option maxHeartbeats 2000000 in
theorem forms_ok (a : Option Addr) (l : List Byte) (c : Nat) (w : World) (hb : Bs w w.heap.size a l) (hn : a = none → c = 0) (hc : l.length ≤ c) (hm : c ≤ maxLen) (hl : l.length ≤ 100) (he : (dcd l).1 = 0) :
    Calls Try.prog 6 #[.slice a l.length c] w fun e w' => e = .returned (.bool true) ∧ Below w.heap.size w w' := by
  have t1 : decide ((100 : Int) < (l.length : Int)) = false := by simp; omega
  have t2 : decide (100 < l.length) = false := by simp; omega
  have hd := decode_any a l l.length c w (Lib.hid rfl) hb hc hm (by omega)
  obtain ⟨h1, h2, h3, h4⟩ := code_dcd he
  have hz : dsz l = 1 + (dcd l).2.2.1 + (dcd l).2.2.2 := by unfold dsz; rw [if_pos he]
  obtain ⟨T, hT⟩ : ∃ T, T = (dcd l).2.1 := ⟨_, rfl⟩
  obtain ⟨C, hC⟩ : ∃ C, C = (dcd l).2.2.1 := ⟨_, rfl⟩
  obtain ⟨F, hF⟩ : ∃ F, F = (dcd l).2.2.2 := ⟨_, rfl⟩
  rw [← hC, ← hF] at h1 h3 hz
  rw [← hT, ← hC] at h2
  rw [← hT, ← hC, ← hF] at h4
  obtain ⟨N, hN⟩ : ∃ N, N = 1 + C + F := ⟨_, rfl⟩
  rw [← hN] at h3 h4 hz
  simp only [← hT, ← hC, ← hF, hz, he, dOut] at hd
  have hee : eErr (T : Int) (C : Int) (F : Int) = 0 := eErr_ok h1 (by simp only [capT, Int.toNat_natCast]; omega)
  have hx := fun W => encode_any (T : Int) (C : Int) (F : Int) W
  obtain ⟨E, hE⟩ : ∃ E, E = l.take N := ⟨_, rfl⟩
  rw [hee, eVal_ok hee] at hx
  simp only [Int.toNat_natCast] at hx
  rw [h4, ← hE] at hx
  have hEl : E.length = N := by rw [hE, List.length_take]; omega
  have hbE : Bs w w.heap.size a E := by rw [hE]; exact hb.take N
  have hN1 : 1 ≤ N := by omega
  obtain ⟨b, off, rfl, _⟩ := at_nonempty hb (by omega)
  have u1 : (1 : Int) ≤ (N : Int) := by omega
  have u2 : (N : Int) ≤ (l.length : Int) := by omega
  have u3 : (N : Int) ≤ (c : Int) := by omega
  have u4 : decide ((N : Int) < 1) = false := by simp; omega
  have u5 : decide ((l.length : Int) < (N : Int)) = false := by simp; omega
  have u6 : decide (N < 1) = false := by simp; omega
  have u7 : decide (l.length < N) = false := by simp; omega
  have HEl := Lib.hid hEl
  unfold maxLen at hm
  clear hT hC hF hN hE hz hee h1 h2 h4 he hb hEl
  go_enter Try.func6, Try.ntmps6
  go_wp2_with fail
  refine hd.mono ?_
  rintro e w1 ⟨rfl, k1⟩
  have bel1 := k1.alloc k1.size (.cells #[.int .i64 (C : Int), .int .i64 (F : Int)] 23)
  clear k1 hd
  go_wp2_with fail
  refine (hx _).mono ?_
  rintro e w2 ⟨v2, rfl, o2, k2⟩
  obtain ⟨A2, c2, rfl, hA2, hn2, _⟩ := o2.reads_len HEl.out
  have bel2 := bel1.trans (k2.mono bel1.size)
  have hb2 := (hbE.below bel2).more bel2.size
  clear k2 hx o2 bel1
  go_wp2_with fail
  refine wp_region_later (by kernel_rfl) (by kernel_rfl) ?_
  have q1 : ∀ p : Later w2, (convert 25 9 (.slice A2 N c2)).run Try.prog p.W = .ok (.string (str E)) p.W := conv_later HEl.out hA2 hn2
  have q2 : ∀ p : Later w2, (convert 25 9 (.slice (some ⟨b, off, none⟩) N c)).run Try.prog p.W = .ok (.string (str E)) p.W := conv_later HEl.out hb2 hn
  repeat (go_big_quiet_step ((go_at_call 16; exact later_of (alive05_any _))))
  refine wpQuiet_nil ?_
  rintro _ ⟨⟨w5, hbel5⟩, rfl⟩
  go_wp2
  go_ret
  exact ⟨rfl, bel2.trans (hbel5.mono bel2.size)⟩

theorem cucForms_walk (a : Option Addr) (l : List Byte) (c : Nat) (w : World) (hb : Bs w w.heap.size a l) (hn : a = none → c = 0) (hc : l.length ≤ c) (hm : c ≤ maxLen) :
    Calls Try.prog 6 #[.slice a l.length c] w fun e w' => e = .returned (.bool true) ∧ Below w.heap.size w w' := by
  by_cases hl : l.length ≤ 100
  · by_cases he : (dcd l).1 = 0
    · exact forms_ok a l c w hb hn hc hm hl he
    · exact forms_bad a l c w hb hc hm hl he
  · exact forms_long a l.length c w (by omega)
end Go.Proofs.Ytboapfkgkehfcaa
