/-
  The walk of package packet's Valid.
-/
import Derived.Test.YtcmonalnhdodmaaPacW0
namespace Go.Proofs.Ytcmonalnhdodmaa.Pac
open Go.RowKit

theorem ok_bad {com sec : Bool} {ap fl ct : Int} {l : List Byte} (h : ap < 0 ∨ 2047 < ap ∨ fl < 0 ∨ 3 < fl ∨ ct < 0 ∨ 16383 < ct ∨ l.length = 0 ∨ 4090 < l.length) : Pk.ok ⟨com, sec, ap, fl, ct, l⟩ = false :=
  Pk.ok_no (fun ⟨h1, h2, h3, h4, h5, h6, h7, h8⟩ => by simp only at h1 h2 h3 h4 h5 h6 h7 h8; omega)

set_option maxHeartbeats 2000000 in
theorem valid_any (com sec : Bool) (ap fl ct : Int) (a : Option Addr) (l : List Byte) (n c : Nat) (w : World) (hl : Hid (l.length = n)) (hb : Bs w w.heap.size a l) (hm : n ≤ maxLen) :
    Calls Try.prog 33 #[.agg #[.bool com, .bool sec, .int .i64 ap, .int .i64 fl, .int .i64 ct, .slice a n c]] w fun e w' => e = .returned (.bool (Pk.ok ⟨com, sec, ap, fl, ct, l⟩)) ∧ Below w.heap.size w w' := by
  have hln := hl.out
  have hm' : n ≤ 9223372036854775807 := by unfold maxLen at hm; omega
  by_cases h1 : ap < 0
  · rw [ok_bad (by simp only [hln]; omega)]
    clear hl hb hm hln
    go_enter Try.func33, Try.ntmps33
    go_wp2
    go_ret
    exact ⟨rfl, bel_new _ _⟩
  have p1 : 0 ≤ ap := by omega
  clear h1
  by_cases h2 : 2047 < ap
  · rw [ok_bad (by simp only [hln]; omega)]
    clear hl hb hm hln
    go_enter Try.func33, Try.ntmps33
    go_wp2
    go_ret
    exact ⟨rfl, bel_new _ _⟩
  have p2 : ap ≤ 2047 := by omega
  clear h2
  by_cases h3 : fl < 0
  · rw [ok_bad (by simp only [hln]; omega)]
    clear hl hb hm hln
    go_enter Try.func33, Try.ntmps33
    go_wp2
    go_ret
    exact ⟨rfl, bel_new _ _⟩
  have p3 : 0 ≤ fl := by omega
  clear h3
  by_cases h4 : 3 < fl
  · rw [ok_bad (by simp only [hln]; omega)]
    clear hl hb hm hln
    go_enter Try.func33, Try.ntmps33
    go_wp2
    go_ret
    exact ⟨rfl, bel_new _ _⟩
  have p4 : fl ≤ 3 := by omega
  clear h4
  by_cases h5 : ct < 0
  · rw [ok_bad (by simp only [hln]; omega)]
    clear hl hb hm hln
    go_enter Try.func33, Try.ntmps33
    go_wp2
    go_ret
    exact ⟨rfl, bel_new _ _⟩
  have p5 : 0 ≤ ct := by omega
  clear h5
  by_cases h6 : 16383 < ct
  · rw [ok_bad (by simp only [hln]; omega)]
    clear hl hb hm hln
    go_enter Try.func33, Try.ntmps33
    go_wp2
    go_ret
    exact ⟨rfl, bel_new _ _⟩
  have p6 : ct ≤ 16383 := by omega
  clear h6
  by_cases h7 : n = 0
  · rw [ok_bad (by simp only [hln]; omega)]
    clear hl hb hm hln
    subst h7
    go_enter Try.func33, Try.ntmps33
    go_wp2
    go_ret
    exact ⟨rfl, bel_new _ _⟩
  have p7 : 1 ≤ n := by omega
  clear h7
  by_cases h8 : 4090 < n
  · rw [ok_bad (by simp only [hln]; omega)]
    clear hl hb hm hln
    have g1 : decide ((4090 : Int) < (n : Int)) = true := by simp; omega
    have g2 : decide (4090 < n) = true := by simp; omega
    have g3 : decide ((n : Int) < 1) = false := by simp; omega
    have g4 : decide (n < 1) = false := by simp; omega
    go_enter Try.func33, Try.ntmps33
    go_wp2
    go_ret
    exact ⟨rfl, bel_new _ _⟩
  have p8 : n ≤ 4090 := by omega
  clear h8
  have hF : Pk.Fits ⟨com, sec, ap, fl, ct, l⟩ := ⟨p1, p2, p3, p4, p5, p6, by rw [hln]; exact p7, by rw [hln]; exact p8⟩
  have g1 : decide ((4090 : Int) < (n : Int)) = false := by simp; omega
  have g2 : decide (4090 < n) = false := by simp; omega
  have g3 : decide ((n : Int) < 1) = false := by simp; omega
  have g4 : decide (n < 1) = false := by simp; omega
  clear p7 p8
  by_cases h9 : ap = 2047
  · rw [Pk.ok_idle hF h9]
    have hv := validIdle_any com sec ap fl ct a l n c _ hl ((Bs.new hb (.cells #[.bool com, .bool sec, .int .i64 ap, .int .i64 fl, .int .i64 ct, .slice a n c] 56)).more (bel_new w (.cells #[.bool com, .bool sec, .int .i64 ap, .int .i64 fl, .int .i64 ct, .slice a n c] 56)).size) hm
    obtain ⟨z, hz⟩ : ∃ z, z = Pk.idle ⟨com, sec, ap, fl, ct, l⟩ := ⟨_, rfl⟩
    rw [← hz] at hv ⊢
    subst h9
    clear hl hb hm hln hF hz p1 p2
    go_enter Try.func33, Try.ntmps33
    go_wp2_with fail
    refine hv.mono ?_
    rintro e w' ⟨rfl, hbe⟩
    go_wp2
    go_ret
    exact ⟨ret_bool (by simp), (bel_new _ _).trans (hbe.mono (bel_new _ _).size)⟩
  · rw [Pk.ok_free hF h9]
    have h10 : (ap != 2047) = true := by simpa using h9
    clear hl hb hm hln hF
    go_enter Try.func33, Try.ntmps33
    go_wp2
    go_ret
    exact ⟨rfl, bel_new _ _⟩
end Go.Proofs.Ytcmonalnhdodmaa.Pac
