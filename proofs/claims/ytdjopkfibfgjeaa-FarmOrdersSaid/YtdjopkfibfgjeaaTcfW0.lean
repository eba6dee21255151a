/-
  The walks of package tcframe's bit and Valid, and of the reference's Valid.
-/
import Derived.Test.YtdjopkfibfgjeaaTcfMath
import Derived.Test.YtdjopkfibfgjeaaPacW0
namespace Go.Proofs.Ytdjopkfibfgjeaa.Tcf
open Go.RowKit Go.Proofs.Ytdjopkfibfgjeaa.Pac

theorem ok_bad {byp con : Bool} {cr ch sq : Int} {l : List Byte} (h : cr < 0 ∨ 1023 < cr ∨ ch < 0 ∨ 7 < ch ∨ sq < 0 ∨ 255 < sq ∨ l.length = 0 ∨ 1017 < l.length) : Fr.ok ⟨byp, con, cr, ch, sq, l⟩ = false :=
  Fr.ok_no (fun ⟨h1, h2, h3, h4, h5, h6, h7, h8⟩ => by simp only at h1 h2 h3 h4 h5 h6 h7 h8; omega)

set_option maxHeartbeats 2000000 in
theorem tvalid_any (byp con : Bool) (cr ch sq : Int) (a : Option Addr) (l : List Byte) (n c : Nat) (w : World) (hl : Hid (l.length = n)) (hm : n ≤ maxLen) :
    Calls Try.prog 24 #[.agg #[.bool byp, .bool con, .int .i64 cr, .int .i64 ch, .int .i64 sq, .slice a n c]] w fun e w' => e = .returned (.bool (Fr.ok ⟨byp, con, cr, ch, sq, l⟩)) ∧ Below w.heap.size w w' := by
  have hln := hl.out
  have hm' : n ≤ 9223372036854775807 := by unfold maxLen at hm; omega
  by_cases h1 : cr < 0
  · rw [ok_bad (by simp only [hln]; omega)]
    clear hl hm hln
    go_enter Try.func24, Try.ntmps24
    go_wp2
    go_ret
    exact ⟨rfl, bel_new _ _⟩
  have p1 : 0 ≤ cr := by omega
  clear h1
  by_cases h2 : 1023 < cr
  · rw [ok_bad (by simp only [hln]; omega)]
    clear hl hm hln
    go_enter Try.func24, Try.ntmps24
    go_wp2
    go_ret
    exact ⟨rfl, bel_new _ _⟩
  have p2 : cr ≤ 1023 := by omega
  clear h2
  by_cases h3 : ch < 0
  · rw [ok_bad (by simp only [hln]; omega)]
    clear hl hm hln
    go_enter Try.func24, Try.ntmps24
    go_wp2
    go_ret
    exact ⟨rfl, bel_new _ _⟩
  have p3 : 0 ≤ ch := by omega
  clear h3
  by_cases h4 : 7 < ch
  · rw [ok_bad (by simp only [hln]; omega)]
    clear hl hm hln
    go_enter Try.func24, Try.ntmps24
    go_wp2
    go_ret
    exact ⟨rfl, bel_new _ _⟩
  have p4 : ch ≤ 7 := by omega
  clear h4
  by_cases h5 : sq < 0
  · rw [ok_bad (by simp only [hln]; omega)]
    clear hl hm hln
    go_enter Try.func24, Try.ntmps24
    go_wp2
    go_ret
    exact ⟨rfl, bel_new _ _⟩
  have p5 : 0 ≤ sq := by omega
  clear h5
  by_cases h6 : 255 < sq
  · rw [ok_bad (by simp only [hln]; omega)]
    clear hl hm hln
    go_enter Try.func24, Try.ntmps24
    go_wp2
    go_ret
    exact ⟨rfl, bel_new _ _⟩
  have p6 : sq ≤ 255 := by omega
  clear h6
  by_cases h7 : n = 0
  · rw [ok_bad (by simp only [hln]; omega)]
    clear hl hm hln
    subst h7
    go_enter Try.func24, Try.ntmps24
    go_wp2
    go_ret
    exact ⟨rfl, bel_new _ _⟩
  have p7 : 1 ≤ n := by omega
  clear h7
  by_cases h8 : 1017 < n
  · rw [ok_bad (by simp only [hln]; omega)]
    clear hl hm hln
    have g1 : decide ((1017 : Int) < (n : Int)) = true := by simp; omega
    have g2 : decide (1017 < n) = true := by simp; omega
    have g3 : decide ((n : Int) < 1) = false := by simp; omega
    have g4 : decide (n < 1) = false := by simp; omega
    go_enter Try.func24, Try.ntmps24
    go_wp2
    go_ret
    exact ⟨rfl, bel_new _ _⟩
  have p8 : n ≤ 1017 := by omega
  clear h8
  have hF : Fr.Fits ⟨byp, con, cr, ch, sq, l⟩ := ⟨p1, p2, p3, p4, p5, p6, by rw [hln]; exact p7, by rw [hln]; exact p8⟩
  have g1 : decide ((1017 : Int) < (n : Int)) = false := by simp; omega
  have g2 : decide (1017 < n) = false := by simp; omega
  have g3 : decide ((n : Int) < 1) = false := by simp; omega
  have g4 : decide (n < 1) = false := by simp; omega
  rw [Fr.ok_yes hF]
  clear hl hm hln hF p7 p8
  cases byp with
  | true =>
    go_enter Try.func24, Try.ntmps24
    go_wp2
    go_ret
    exact ⟨rfl, bel_new _ _⟩
  | false =>
    go_enter Try.func24, Try.ntmps24
    go_wp2
    go_ret
    exact ⟨ret_bool (by simp), bel_new _ _⟩

set_option maxHeartbeats 2000000 in
theorem yvalid_any (byp con : Bool) (cr ch sq : Int) (a : Option Addr) (l : List Byte) (n c : Nat) (w : World) (hl : Hid (l.length = n)) (hm : n ≤ maxLen) :
    Calls Try.prog 21 #[.agg #[.bool byp, .bool con, .int .i64 cr, .int .i64 ch, .int .i64 sq, .slice a n c]] w fun e w' => e = .returned (.bool (Fr.ok ⟨byp, con, cr, ch, sq, l⟩)) ∧ Below w.heap.size w w' := by
  have hln := hl.out
  have hm' : n ≤ 9223372036854775807 := by unfold maxLen at hm; omega
  by_cases h1 : cr < 0
  · rw [ok_bad (by simp only [hln]; omega)]
    clear hl hm hln
    go_enter Try.func21, Try.ntmps21
    go_wp2
    go_ret
    exact ⟨rfl, bel_new _ _⟩
  have p1 : 0 ≤ cr := by omega
  clear h1
  by_cases h2 : 1023 < cr
  · rw [ok_bad (by simp only [hln]; omega)]
    clear hl hm hln
    go_enter Try.func21, Try.ntmps21
    go_wp2
    go_ret
    exact ⟨rfl, bel_new _ _⟩
  have p2 : cr ≤ 1023 := by omega
  clear h2
  by_cases h3 : ch < 0
  · rw [ok_bad (by simp only [hln]; omega)]
    clear hl hm hln
    go_enter Try.func21, Try.ntmps21
    go_wp2
    go_ret
    exact ⟨rfl, bel_new _ _⟩
  have p3 : 0 ≤ ch := by omega
  clear h3
  by_cases h4 : 7 < ch
  · rw [ok_bad (by simp only [hln]; omega)]
    clear hl hm hln
    go_enter Try.func21, Try.ntmps21
    go_wp2
    go_ret
    exact ⟨rfl, bel_new _ _⟩
  have p4 : ch ≤ 7 := by omega
  clear h4
  by_cases h5 : sq < 0
  · rw [ok_bad (by simp only [hln]; omega)]
    clear hl hm hln
    go_enter Try.func21, Try.ntmps21
    go_wp2
    go_ret
    exact ⟨rfl, bel_new _ _⟩
  have p5 : 0 ≤ sq := by omega
  clear h5
  by_cases h6 : 255 < sq
  · rw [ok_bad (by simp only [hln]; omega)]
    clear hl hm hln
    go_enter Try.func21, Try.ntmps21
    go_wp2
    go_ret
    exact ⟨rfl, bel_new _ _⟩
  have p6 : sq ≤ 255 := by omega
  clear h6
  by_cases h7 : n = 0
  · rw [ok_bad (by simp only [hln]; omega)]
    clear hl hm hln
    subst h7
    go_enter Try.func21, Try.ntmps21
    go_wp2
    go_ret
    exact ⟨rfl, bel_new _ _⟩
  have p7 : 1 ≤ n := by omega
  clear h7
  by_cases h8 : 1017 < n
  · rw [ok_bad (by simp only [hln]; omega)]
    clear hl hm hln
    have g1 : decide ((n : Int) ≤ 1017) = false := by simp; omega
    have g2 : decide (n ≤ 1017) = false := by simp; omega
    have g3 : decide ((1 : Int) ≤ (n : Int)) = true := by simp; omega
    have g4 : decide (1 ≤ n) = true := by simp; omega
    go_enter Try.func21, Try.ntmps21
    go_wp2
    go_ret
    exact ⟨rfl, bel_new _ _⟩
  have p8 : n ≤ 1017 := by omega
  clear h8
  have hF : Fr.Fits ⟨byp, con, cr, ch, sq, l⟩ := ⟨p1, p2, p3, p4, p5, p6, by rw [hln]; exact p7, by rw [hln]; exact p8⟩
  have g1 : decide ((n : Int) ≤ 1017) = true := by simp; omega
  have g2 : decide (n ≤ 1017) = true := by simp; omega
  have g3 : decide ((1 : Int) ≤ (n : Int)) = true := by simp; omega
  have g4 : decide (1 ≤ n) = true := by simp; omega
  rw [Fr.ok_yes hF]
  clear hl hm hln hF p7 p8
  cases byp with
  | true =>
    go_enter Try.func21, Try.ntmps21
    go_wp2
    go_ret
    exact ⟨rfl, bel_new _ _⟩
  | false =>
    go_enter Try.func21, Try.ntmps21
    go_wp2
    go_ret
    exact ⟨ret_bool (by simp), bel_new _ _⟩
end Go.Proofs.Ytdjopkfibfgjeaa.Tcf
