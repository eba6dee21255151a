/-
  The walks of the reference of layer 10: zero, Valid.
-/
import Derived.Test.YtjjjlgaidklokaaPacW1
namespace Go.Proofs.Ytjjjlgaidklokaa.Pac
open Go.RowKit

set_option maxHeartbeats 400000 in
theorem xzero_any (a : Option Addr) (l : List Byte) (n c B : Nat) (w : World) (hl : Hid (l.length = n)) (hb : Bs w B a l) (hm : n ≤ maxLen) :
    Calls Try.prog 40 #[.slice a n c] w fun e w' => e = .returned (.bool (zer l)) ∧ w = w' := by
  have hL : l.length = n := hl
  subst hL
  unfold maxLen at hm
  go_enter Try.func40, Try.ntmps40
  go_wp2
  go_loop [3] (fun i => ∃ k : Nat, k ≤ l.length ∧ i = .int .i64 k ∧ zer (l.take k) = true) (fun i => l.length - (intOf i).toNat)
  case atStart => exact ⟨0, Nat.zero_le _, rfl, rfl⟩
  case round =>
    obtain ⟨k, hk, rfl, hz⟩ := hrel
    by_cases hlt : k < l.length
    · obtain ⟨b, off, rfl, _, hc⟩ := hb.at_ hlt
      have hx : l[k]? = some l[k] := List.getElem?_eq_getElem hlt
      obtain ⟨x, hxx⟩ : ∃ x, x = l[k] := ⟨_, rfl⟩
      rw [← hxx] at hc hx
      have hne := u8_zero x
      cases hd : decide (x = 0#8) with
      | true =>
        rw [hd] at hne
        have hz2 := zer_take hx
        rw [hz, hd] at hz2
        have HZ := Lib.hid hz2
        clear hz hz2 hd hx hxx
        go_wp2
        go_round
        case rel => exact ⟨k + 1, by omega, by go_num, HZ.out⟩
        case measure => simp [intOf]; omega
      | false =>
        rw [hd] at hne
        have hz2 := zer_no hx (of_decide_eq_false hd)
        have HZ := Lib.hid hz2
        clear hz hz2 hd hx hxx
        go_wp2
        go_ret
        exact ⟨ret_bool HZ.out.symm, rfl⟩
    · rw [List.take_of_length_le (by omega)] at hz
      have HZ := Lib.hid hz
      clear hz
      go_wp2
      go_ret
      exact ⟨ret_bool HZ.out.symm, rfl⟩

set_option maxHeartbeats 2000000 in
theorem xvalid_any (com sec : Bool) (ap fl ct : Int) (a : Option Addr) (l : List Byte) (n c : Nat) (w : World) (hl : Hid (l.length = n)) (hb : Bs w w.heap.size a l) (hm : n ≤ maxLen) :
    Calls Try.prog 35 #[.agg #[.bool com, .bool sec, .int .i64 ap, .int .i64 fl, .int .i64 ct, .slice a n c]] w fun e w' => e = .returned (.bool (Pk.ok ⟨com, sec, ap, fl, ct, l⟩)) ∧ Below w.heap.size w w' := by
  have hln := hl.out
  have hm' : n ≤ 9223372036854775807 := by unfold maxLen at hm; omega
  by_cases h1 : ap < 0
  · rw [ok_bad (by simp only [hln]; omega)]
    clear hl hb hm hln
    go_enter Try.func35, Try.ntmps35
    go_wp2
    go_ret
    exact ⟨rfl, bel_new _ _⟩
  have p1 : 0 ≤ ap := by omega
  clear h1
  by_cases h2 : 2047 < ap
  · rw [ok_bad (by simp only [hln]; omega)]
    clear hl hb hm hln
    go_enter Try.func35, Try.ntmps35
    go_wp2
    go_ret
    exact ⟨rfl, bel_new _ _⟩
  have p2 : ap ≤ 2047 := by omega
  clear h2
  by_cases h3 : fl < 0
  · rw [ok_bad (by simp only [hln]; omega)]
    clear hl hb hm hln
    go_enter Try.func35, Try.ntmps35
    go_wp2
    go_ret
    exact ⟨rfl, bel_new _ _⟩
  have p3 : 0 ≤ fl := by omega
  clear h3
  by_cases h4 : 3 < fl
  · rw [ok_bad (by simp only [hln]; omega)]
    clear hl hb hm hln
    go_enter Try.func35, Try.ntmps35
    go_wp2
    go_ret
    exact ⟨rfl, bel_new _ _⟩
  have p4 : fl ≤ 3 := by omega
  clear h4
  by_cases h5 : ct < 0
  · rw [ok_bad (by simp only [hln]; omega)]
    clear hl hb hm hln
    go_enter Try.func35, Try.ntmps35
    go_wp2
    go_ret
    exact ⟨rfl, bel_new _ _⟩
  have p5 : 0 ≤ ct := by omega
  clear h5
  by_cases h6 : 16383 < ct
  · rw [ok_bad (by simp only [hln]; omega)]
    clear hl hb hm hln
    go_enter Try.func35, Try.ntmps35
    go_wp2
    go_ret
    exact ⟨rfl, bel_new _ _⟩
  have p6 : ct ≤ 16383 := by omega
  clear h6
  by_cases h7 : n = 0
  · rw [ok_bad (by simp only [hln]; omega)]
    clear hl hb hm hln
    subst h7
    go_enter Try.func35, Try.ntmps35
    go_wp2
    go_ret
    exact ⟨rfl, bel_new _ _⟩
  have p7 : 1 ≤ n := by omega
  clear h7
  by_cases h8 : 4090 < n
  · rw [ok_bad (by simp only [hln]; omega)]
    clear hl hb hm hln
    have g1 : decide ((4090 : Int) < (n : Int)) = true := by simp; omega
    have g2 : decide (4090 < n) = true := by simp; omega
    have g3 : decide ((n : Int) < 1) = false := by simp; omega
    have g4 : decide (n < 1) = false := by simp; omega
    go_enter Try.func35, Try.ntmps35
    go_wp2
    go_ret
    exact ⟨rfl, bel_new _ _⟩
  have p8 : n ≤ 4090 := by omega
  clear h8
  have hF : Pk.Fits ⟨com, sec, ap, fl, ct, l⟩ := ⟨p1, p2, p3, p4, p5, p6, by rw [hln]; exact p7, by rw [hln]; exact p8⟩
  have g1 : decide ((4090 : Int) < (n : Int)) = false := by simp; omega
  have g2 : decide (4090 < n) = false := by simp; omega
  have g3 : decide ((n : Int) < 1) = false := by simp; omega
  have g4 : decide (n < 1) = false := by simp; omega
  clear p7 p8
  by_cases h9 : ap = 2047
  · rw [Pk.ok_idle hF h9]
    have hz := xzero_any a l n c w.heap.size _ hl (Bs.new hb (.cells #[.bool com, .bool sec, .int .i64 ap, .int .i64 fl, .int .i64 ct, .slice a n c] 60)) hm
    unfold Pk.idle
    obtain ⟨z, hzz⟩ : ∃ z, z = zer l := ⟨_, rfl⟩
    simp only [← hzz] at hz ⊢
    subst h9
    clear hl hb hm hln hF hzz p1 p2
    cases com with
    | true =>
      go_enter Try.func35, Try.ntmps35
      go_wp2
      go_ret
      exact ⟨rfl, bel_new _ _⟩
    | false =>
      cases sec with
      | true =>
        go_enter Try.func35, Try.ntmps35
        go_wp2
        go_ret
        exact ⟨rfl, bel_new _ _⟩
      | false =>
        by_cases k1 : fl = 3
        · subst k1
          by_cases k2 : ct = 0
          · subst k2
            go_enter Try.func35, Try.ntmps35
            go_wp2_with fail
            refine hz.mono ?_
            rintro e w' ⟨rfl, rfl⟩
            go_wp2
            go_ret
            exact ⟨ret_bool (by simp), bel_new _ _⟩
          · have k3 : (ct == 0) = false := by simpa using k2
            rw [decide_eq_true rfl, decide_eq_false k2]
            go_enter Try.func35, Try.ntmps35
            go_wp2
            go_ret
            exact ⟨rfl, bel_new _ _⟩
        · have k3 : (fl == 3) = false := by simpa using k1
          rw [decide_eq_false k1]
          go_enter Try.func35, Try.ntmps35
          go_wp2
          go_ret
          exact ⟨rfl, bel_new _ _⟩
  · rw [Pk.ok_free hF h9]
    have h10 : (ap != 2047) = true := by simpa using h9
    clear hl hb hm hln hF
    go_enter Try.func35, Try.ntmps35
    go_wp2
    go_ret
    exact ⟨rfl, bel_new _ _⟩
end Go.Proofs.Ytjjjlgaidklokaa.Pac
