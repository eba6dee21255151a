/-
  Package filesum: weighted, Piece, Sum.
-/
import Derived.Test.YtaaikmncdgfkmaaFsmMath
import Derived.Test.YtaaikmncdgfkmaaBase
namespace Go.Proofs.Ytaaikmncdgfkmaa.Fsm
open Go.RowKit

set_option maxHeartbeats 400000 in
theorem weighted_any (k : Nat) (hk : k < 4) (x : Byte) (w : World) :
    Calls Try.prog 51 #[B8 x, .int .i64 (k : Int)] w fun e w' => e = .returned (.int .u32 ((tm k x).toNat : Int)) ∧ w = w' := by
  have hx := x.isLt
  have H : ∀ m : Nat, m ≤ 24 → Hid ((x.toNat : Int) * ((2 ^ m : Nat) : Int) = ((x.setWidth 32 <<< m).toNat : Int)) := fun m hm => by
    show (x.toNat : Int) * ((2 ^ m : Nat) : Int) = ((x.setWidth 32 <<< m).toNat : Int)
    rw [BitVec.toNat_shiftLeft, BitVec.toNat_setWidth, Nat.mod_eq_of_lt (by omega : x.toNat < 2 ^ 32), Nat.shiftLeft_eq, Nat.mod_eq_of_lt, Int.natCast_mul]
    exact Nat.lt_of_lt_of_le (Nat.mul_lt_mul_of_pos_right hx (Nat.pow_pos (by decide))) (by rw [← Nat.pow_add]; exact Nat.pow_le_pow_right (by decide) (by omega))
  clear hx
  rcases (by omega : k = 0 ∨ k = 1 ∨ k = 2 ∨ k = 3) with rfl | rfl | rfl | rfl
  · go_enter Try.func51, Try.ntmps51
    go_wp2
    go_ret
    exact ⟨ret_int (H 24 (by decide)).out, rfl⟩
  · go_enter Try.func51, Try.ntmps51
    go_wp2
    go_ret
    exact ⟨ret_int (H 16 (by decide)).out, rfl⟩
  · go_enter Try.func51, Try.ntmps51
    go_wp2
    go_ret
    exact ⟨ret_int (H 8 (by decide)).out, rfl⟩
  · go_enter Try.func51, Try.ntmps51
    go_wp2
    go_ret
    exact ⟨ret_int ((Int.mul_one _).symm.trans (H 0 (by decide)).out), rfl⟩

set_option maxHeartbeats 400000 in
theorem piece_neg (o : Int) (ho : o < 0) (v : Value) (w : World) :
    Calls Try.prog 33 #[.int .i64 o, v] w fun e w' => e = .returned (.int .u32 0) ∧ w = w' := by
  go_enter Try.func33, Try.ntmps33
  go_wp2
  go_ret
  exact ⟨rfl, rfl⟩

set_option maxHeartbeats 1000000 in
theorem piece_any (o : Nat) (a : Option Addr) (l : List Byte) (n c B : Nat) (w : World) (hn : Hid (l.length = n)) (hb : Bs w B a l) (hm : n ≤ 70100) :
    Calls Try.prog 33 #[.int .i64 (o : Int), .slice a n c] w fun e w' => e = .returned (.int .u32 ((ps o l).toNat : Int)) ∧ w = w' := by
  have hpo : Hid (ps (o % 4) l = ps o l) := ps_mod (by omega) l
  obtain ⟨f, hf⟩ : ∃ f, o % 4 = f := ⟨_, rfl⟩
  have hfi : (o : Int).tmod 4 = (f : Int) := by rw [Int.tmod_eq_emod_of_nonneg (by omega)]; omega
  rw [hf] at hpo
  have hf4 : f < 4 := by omega
  clear hf
  go_enter Try.func33, Try.ntmps33
  go_wp2
  go_loop [6, 15] (fun t i => ∃ k : Nat, k ≤ n ∧ i = .int .i64 k ∧ t = .int .u32 ((ps f (l.take k)).toNat : Int)) (fun _ i => n - (intOf i).toNat)
  case atStart => exact ⟨0, Nat.zero_le _, rfl, rfl⟩
  case round =>
    obtain ⟨k, hk, rfl, rfl⟩ := hrel
    by_cases hlt : k < n
    · have hkl : Hid (k < l.length) := by show k < l.length; rw [hn.out]; exact hlt
      obtain ⟨b, off, rfl, _, hc⟩ := hb.at_ hkl.out
      have HS : Hid (ps f (l.take (k + 1)) = ps f (l.take k) + tm ((f + k) % 4) (l[k]'hkl.out)) := by
        rw [ps_take f l k hkl.out, tm_mod (k := (f + k) % 4) (j := f + k) (by omega)]; rfl
      obtain ⟨x, hx⟩ : ∃ x, x = l[k]'hkl.out := ⟨_, rfl⟩
      rw [← hx] at HS hc
      clear hx
      obtain ⟨p, hp⟩ : ∃ p, (f + k) % 4 = p := ⟨_, rfl⟩
      have hp4 : p < 4 := by omega
      have hpi : ((f : Int) + (k : Int)).tmod 4 = (p : Int) := by rw [Int.tmod_eq_emod_of_nonneg (by omega)]; omega
      rw [hp] at HS
      clear hp
      have HA := Lib.hid (b32_add (ps f (l.take k)) (tm p x))
      have HW := weighted_any p hp4 x
      go_wp2_with (go_at_call 51; refine (HW _).mono ?_; rintro e w' ⟨rfl, rfl⟩)
      go_round
      case rel => exact ⟨k + 1, by omega, by go_num, val_int (by rw [HS.out]; exact HA.out)⟩
      case measure => simp [intOf]; omega
    · go_wp2
      go_ret
      exact ⟨ret_int (by rw [List.take_of_length_le (by rw [hn.out]; omega), hpo.out]), rfl⟩

set_option maxHeartbeats 400000 in
theorem sum_any (a : Option Addr) (l : List Byte) (n c B : Nat) (w : World) (hn : Hid (l.length = n)) (hb : Bs w B a l) (hm : n ≤ 70100) :
    Calls Try.prog 14 #[.slice a n c] w fun e w' => e = .returned (.int .u32 ((ps 0 l).toNat : Int)) ∧ w = w' := by
  go_enter Try.func14, Try.ntmps14
  go_wp2_with (go_at_call 33; refine (piece_any 0 a l n c B _ hn hb hm).mono ?_; rintro e w' ⟨rfl, rfl⟩)
  go_ret
  exact ⟨rfl, rfl⟩
end Go.Proofs.Ytaaikmncdgfkmaa.Fsm
