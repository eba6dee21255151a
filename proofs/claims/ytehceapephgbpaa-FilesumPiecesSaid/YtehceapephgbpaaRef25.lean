/-
  The reference of chapter 25: Piece, Sum.
-/
import Derived.Test.YtehceapephgbpaaFsmMath
import Derived.Test.YtehceapephgbpaaBase
namespace Go.Proofs.Ytehceapephgbpaa.Fsm
open Go.RowKit

set_option maxHeartbeats 400000 in
theorem rpiece_neg (o : Int) (ho : o < 0) (v : Value) (w : World) :
    Calls Try.prog 11 #[.int .i64 o, v] w fun e w' => e = .returned (.int .u32 0) ∧ w = w' := by
  go_enter Try.func11, Try.ntmps11
  go_wp2
  go_ret
  exact ⟨rfl, rfl⟩

set_option maxHeartbeats 1000000 in
theorem rpiece_any (o : Nat) (a : Option Addr) (l : List Byte) (n c B : Nat) (w : World) (hn : Hid (l.length = n)) (hb : Bs w B a l) (hm : n ≤ 70000) :
    Calls Try.prog 11 #[.int .i64 (o : Int), .slice a n c] w fun e w' => e = .returned (.int .u32 ((ps o l).toNat : Int)) ∧ w = w' := by
  have hpo : Hid (ps (o % 4) l = ps o l) := ps_mod (by omega) l
  obtain ⟨f, hf⟩ : ∃ f, o % 4 = f := ⟨_, rfl⟩
  have hfi : (o : Int).tmod 4 = (f : Int) := by rw [Int.tmod_eq_emod_of_nonneg (by omega)]; omega
  rw [hf] at hpo
  have hf4 : f < 4 := by omega
  clear hf
  go_enter Try.func11, Try.ntmps11
  go_wp2
  go_loop [5, 6] (fun t i => ∃ k : Nat, k ≤ n ∧ i = .int .i64 k ∧ t = .int .u32 ((ps f (l.take k)).toNat : Int)) (fun _ i => n - (intOf i).toNat)
  case atStart => exact ⟨0, Nat.zero_le _, rfl, rfl⟩
  case round =>
    obtain ⟨k, hk, rfl, rfl⟩ := hrel
    by_cases hlt : k < n
    · have hkl : Hid (k < l.length) := by show k < l.length; rw [hn.out]; exact hlt
      obtain ⟨b, off, rfl, _, hc⟩ := hb.at_ hkl.out
      have HS : Hid (ps f (l.take (k + 1)) = ps f (l.take k) + tm ((f + k) % 4) (l[k]'hkl.out)) := by
        rw [ps_take f l k hkl.out, tm_mod (k := (f + k) % 4) (j := f + k) (by omega)]; rfl
      obtain ⟨x, hx⟩ : ∃ x, x = l[k]'hkl.out := ⟨_, rfl⟩
      rw [← hx] at HS hc
      clear hx
      obtain ⟨p, hp⟩ : ∃ p, (f + k) % 4 = p := ⟨_, rfl⟩
      have hp4 : p < 4 := by omega
      have hpi : ((f : Int) + (k : Int)).tmod 4 = (p : Int) := by rw [Int.tmod_eq_emod_of_nonneg (by omega)]; omega
      rw [hp] at HS
      clear hp
      have HT : Hid (sx x (3 - p) = tm p x) := sx_tm x p hp4
      have HA := Lib.hid (b32_add (ps f (l.take k)) (tm p x))
      go_wp2
      go_loop [8, 9] (fun t i => ∃ j : Nat, p ≤ j ∧ j ≤ 3 ∧ i = .int .i64 j ∧ t = .int .u32 ((sx x (j - p)).toNat : Int)) (fun _ i => 3 - (intOf i).toNat)
      case atStart => exact ⟨p, Nat.le_refl _, by omega, rfl, val_int (by rw [Nat.sub_self]; exact sx_zero x)⟩
      case round =>
        obtain ⟨j, hj, hj3, rfl, rfl⟩ := hrel
        by_cases hj2 : j < 3
        · have HM := Lib.hid (sx_more x (j - p))
          go_wp2
          go_round
          case rel => exact ⟨j + 1, by omega, by omega, by go_num, val_int (by rw [show j + 1 - p = j - p + 1 by omega]; exact HM.out)⟩
          case measure => simp [intOf]; omega
        · obtain rfl : j = 3 := by omega
          rw [HT.out]
          go_wp2
          go_round
          case rel => exact ⟨k + 1, by omega, by go_num, val_int (by rw [HS.out]; exact HA.out)⟩
          case measure => simp [intOf]; omega
    · go_wp2
      go_ret
      exact ⟨ret_int (by rw [List.take_of_length_le (by rw [hn.out]; omega), hpo.out]), rfl⟩

set_option maxHeartbeats 400000 in
theorem rsum_any (a : Option Addr) (l : List Byte) (n c B : Nat) (w : World) (hn : Hid (l.length = n)) (hb : Bs w B a l) (hm : n ≤ 70000) :
    Calls Try.prog 9 #[.slice a n c] w fun e w' => e = .returned (.int .u32 ((ps 0 l).toNat : Int)) ∧ w = w' := by
  go_enter Try.func9, Try.ntmps9
  go_wp2_with (go_at_call 11; refine (rpiece_any 0 a l n c B _ hn hb hm).mono ?_; rintro e w' ⟨rfl, rfl⟩)
  go_ret
  exact ⟨rfl, rfl⟩
end Go.Proofs.Ytehceapephgbpaa.Fsm
