/-
  The walks of package packet's allZero, validIdle, Valid and bit.
-/
import Derived.Test.YtcmonalnhdodmaaPacMath
import Derived.Test.YtcmonalnhdodmaaBase
import Derived.Deep.QuietTactic
namespace Go.Proofs.Ytcmonalnhdodmaa.Pac
open Go.RowKit

theorem bel_new (w : World) (o : Obj) : Below w.heap.size w (w.alloc o) := (Below.refl _ _).alloc (Nat.le_refl _) _
theorem Cel.later {w w' : World} {g : Nat} {t : TypeId} {cs : Array Value} (h : Cel w g t cs) (hb : Below w.heap.size w w') : Cel w' g t cs := h.only (Only.of_below (S := []) hb) (by simp)
theorem Cel.within {w w' : World} {g B : Nat} {t : TypeId} {cs : Array Value} (h : Cel w g t cs) (hg : g < B) (hb : Below B w w') : Cel w' g t cs := (hb.block g hg).trans h

theorem u8_zero (x : Byte) : ((x.toNat : Int) != 0) = !decide (x = 0#8) := by
  by_cases h : x = 0#8
  · subst h; rfl
  · have : x.toNat ≠ 0 := fun e => h (BitVec.eq_of_toNat_eq (by rw [e]; rfl))
    rw [decide_eq_false h]
    simp
    omega

set_option maxHeartbeats 400000 in
theorem allZero_any (a : Option Addr) (l : List Byte) (n c B : Nat) (w : World) (hl : Hid (l.length = n)) (hb : Bs w B a l) (hm : n ≤ maxLen) :
    Calls Try.prog 57 #[.slice a n c] w fun e w' => e = .returned (.bool (zer l)) ∧ w = w' := by
  have hL : l.length = n := hl
  subst hL
  unfold maxLen at hm
  go_enter Try.func57, Try.ntmps57
  go_wp2
  go_loop [7] (fun i => ∃ k : Nat, k ≤ l.length ∧ i = .int .i64 k ∧ zer (l.take k) = true) (fun i => l.length - (intOf i).toNat)
  case atStart => exact ⟨0, Nat.zero_le _, rfl, rfl⟩
  case round =>
    obtain ⟨k, hk, rfl, hz⟩ := hrel
    by_cases hlt : k < l.length
    · obtain ⟨b, off, rfl, _, hc⟩ := hb.at_ hlt
      have hx : l[k]? = some l[k] := List.getElem?_eq_getElem hlt
      obtain ⟨x, hxx⟩ : ∃ x, x = l[k] := ⟨_, rfl⟩
      rw [← hxx] at hc hx
      have hne := u8_zero x
      cases hd : decide (x = 0#8) with
      | true =>
        rw [hd] at hne
        have hz2 := zer_take hx
        rw [hz, hd] at hz2
        have HZ := Lib.hid hz2
        clear hz hz2 hd hx hxx
        go_wp2
        go_round
        case rel => exact ⟨k + 1, by omega, by go_num, HZ.out⟩
        case measure => simp [intOf]; omega
      | false =>
        rw [hd] at hne
        have hz2 := zer_no hx (of_decide_eq_false hd)
        have HZ := Lib.hid hz2
        clear hz hz2 hd hx hxx
        go_wp2
        go_ret
        exact ⟨ret_bool HZ.out.symm, rfl⟩
    · rw [List.take_of_length_le (by omega)] at hz
      have HZ := Lib.hid hz
      clear hz
      go_wp2
      go_ret
      exact ⟨ret_bool HZ.out.symm, rfl⟩

set_option maxHeartbeats 400000 in
theorem bit_any (b : Bool) (w : World) :
    Calls Try.prog 36 #[.bool b] w fun e w' => e = .returned (.int .u64 ((nb b : Nat) : Int)) ∧ w = w' := by
  cases b
  · go_enter Try.func36, Try.ntmps36
    go_wp2
    go_ret
    exact ⟨rfl, rfl⟩
  · go_enter Try.func36, Try.ntmps36
    go_wp2
    go_ret
    exact ⟨rfl, rfl⟩

/-- the data of a packet in a block of its own, later -/
theorem Bs.new {w : World} {a : Option Addr} {l : List Byte} (h : Bs w w.heap.size a l) (o : Obj) : Bs (w.alloc o) w.heap.size a l := h.below (bel_new w o)

set_option maxHeartbeats 1000000 in
theorem validIdle_any (com sec : Bool) (ap fl ct : Int) (a : Option Addr) (l : List Byte) (n c : Nat) (w : World) (hl : Hid (l.length = n)) (hb : Bs w w.heap.size a l) (hm : n ≤ maxLen) :
    Calls Try.prog 51 #[.agg #[.bool com, .bool sec, .int .i64 ap, .int .i64 fl, .int .i64 ct, .slice a n c]] w fun e w' => e = .returned (.bool (Pk.idle ⟨com, sec, ap, fl, ct, l⟩)) ∧ Below w.heap.size w w' := by
  unfold Pk.idle
  have hz := allZero_any a l n c w.heap.size _ hl (Bs.new hb (.cells #[.bool com, .bool sec, .int .i64 ap, .int .i64 fl, .int .i64 ct, .slice a n c] 56)) hm
  obtain ⟨z, hzz⟩ : ∃ z, z = zer l := ⟨_, rfl⟩
  simp only [← hzz] at hz ⊢
  clear hzz
  cases com with
  | true =>
    go_enter Try.func51, Try.ntmps51
    go_wp2
    go_ret
    exact ⟨rfl, bel_new _ _⟩
  | false =>
    cases sec with
    | true =>
      go_enter Try.func51, Try.ntmps51
      go_wp2
      go_ret
      exact ⟨rfl, bel_new _ _⟩
    | false =>
      by_cases h1 : fl = 3
      · subst h1
        by_cases h2 : ct = 0
        · subst h2
          go_enter Try.func51, Try.ntmps51
          go_wp2_with fail
          refine hz.mono ?_
          rintro e w' ⟨rfl, rfl⟩
          go_wp2
          go_ret
          exact ⟨ret_bool (by simp), bel_new _ _⟩
        · have h3 : (ct == 0) = false := by simpa using h2
          rw [decide_eq_true rfl, decide_eq_false h2]
          go_enter Try.func51, Try.ntmps51
          go_wp2
          go_ret
          exact ⟨rfl, bel_new _ _⟩
      · have h3 : (fl == 3) = false := by simpa using h1
        rw [decide_eq_false h1]
        go_enter Try.func51, Try.ntmps51
        go_wp2
        go_ret
        exact ⟨rfl, bel_new _ _⟩
end Go.Proofs.Ytcmonalnhdodmaa.Pac
