/-
  The walks of the program's own checksums: a step, a byte string.
-/
import Derived.Test.YtdichdoabhabjaaCrcMath
import Derived.Test.YtdichdoabhabjaaBase
namespace Go.Proofs.Ytdichdoabhabjaa
open Go.RowKit


theorem sh16_hi (r : BitVec 16) (h : r.getLsbD 15 = true) : (bits .and .u16 (r.toNat : Int) 32768 != 0) = true ∧ bits .xor .u16 (IntKind.u16.wrap ((r.toNat : Int) * 2)) 4129 = ((sh16 r).toNat : Int) := by
  have e1 := b16_and r 0x8000#16
  have e2 := b16_xor (r <<< 1) 0x1021#16
  rw [and_top, h] at e1
  constructor
  · rw [show (32768 : Int) = ((0x8000#16).toNat : Int) from rfl, e1]; rfl
  · rw [b16_shl1, show (4129 : Int) = ((0x1021#16).toNat : Int) from rfl, e2, sh16, if_pos h]
theorem sh16_lo (r : BitVec 16) (h : r.getLsbD 15 = false) : (bits .and .u16 (r.toNat : Int) 32768 != 0) = false ∧ IntKind.u16.wrap ((r.toNat : Int) * 2) = ((sh16 r).toNat : Int) := by
  have e1 := b16_and r 0x8000#16
  rw [and_top, h] at e1
  constructor
  · rw [show (32768 : Int) = ((0x8000#16).toNat : Int) from rfl, e1]; rfl
  · rw [b16_shl1, sh16, if_neg (by rw [h]; decide)]

set_option maxHeartbeats 400000 in
theorem shift16_any (r : BitVec 16) (w : World) :
    Calls Try.prog 47 #[.int .u16 (r.toNat : Int)] w fun e w' => e = .returned (.int .u16 ((sh16 r).toNat : Int)) ∧ w = w' := by
  cases h : r.getLsbD 15
  · obtain ⟨h1, h2⟩ := sh16_lo r h
    have H := Lib.hid h2
    clear h h2
    go_enter Try.func47, Try.ntmps47
    go_wp2
    go_ret
    exact ⟨ret_int H.out, rfl⟩
  · obtain ⟨h1, h2⟩ := sh16_hi r h
    have H := Lib.hid h2
    clear h h2
    go_enter Try.func47, Try.ntmps47
    go_wp2
    go_ret
    exact ⟨ret_int H.out, rfl⟩

theorem in16 (r : BitVec 16) (x : Byte) : bits .xor .u16 (r.toNat : Int) ((x.toNat : Int) * 256) = ((r ^^^ (x.setWidth 16 <<< 8)).toNat : Int) := by
  rw [← b16_xor]
  congr 1
  have := x.isLt
  rw [BitVec.toNat_shiftLeft, BitVec.toNat_setWidth, Nat.shiftLeft_eq]
  show (x.toNat : Int) * 256 = ((x.toNat % 65536 * 256 % 65536 : Nat) : Int)
  omega

set_option maxHeartbeats 400000 in
theorem update16_any (r : BitVec 16) (a : Option Addr) (l : List Byte) (c B : Nat) (w : World) (hb : Bs w B a l) (hm : l.length ≤ maxLen) :
    Calls Try.prog 42 #[.int .u16 (r.toNat : Int), .slice a l.length c] w fun e w' => e = .returned (.int .u16 ((up16 r l).toNat : Int)) ∧ w = w' := by
  unfold maxLen at hm
  go_enter Try.func42, Try.ntmps42
  go_wp2
  go_loop [0, 9] (fun t i => ∃ k : Nat, k ≤ l.length ∧ i = .int .i64 k ∧ t = .int .u16 ((up16 r (l.take k)).toNat : Int)) (fun _ i => l.length - (intOf i).toNat)
  case atStart => exact ⟨0, Nat.zero_le _, rfl, rfl⟩
  case round =>
    obtain ⟨k, hk, rfl, rfl⟩ := hrel
    by_cases hlt : k < l.length
    · obtain ⟨b, off, rfl, _, hc⟩ := hb.at_ hlt
      have HS : Hid (up16 r (l.take (k + 1)) = by16 (up16 r (l.take k)) l[k]) := up16_take r l k hlt
      have H16 := Lib.hid (in16 (up16 r (l.take k)) l[k])
      go_wp2
      go_loop [0, 18] (fun t i => ∃ j : Nat, j ≤ 8 ∧ i = .int .i64 j ∧ t = .int .u16 ((iter sh16 j (up16 r (l.take k) ^^^ (l[k].setWidth 16 <<< 8))).toNat : Int)) (fun _ i => 8 - (intOf i).toNat)
      case atStart => exact ⟨0, Nat.zero_le _, rfl, val_int H16.out⟩
      case round =>
        obtain ⟨j, hj, rfl, rfl⟩ := hrel
        by_cases hj8 : j < 8
        · go_wp2_with (go_at_call 47; refine (shift16_any _ _).mono ?_; rintro e w' ⟨rfl, rfl⟩)
          go_round
          case rel => exact ⟨j + 1, by omega, by go_num, rfl⟩
          case measure => simp [intOf]; omega
        · go_wp2
          go_round
          case rel => exact ⟨k + 1, by omega, by go_num, val_int (by rw [HS.out, by16, show j = 8 by omega])⟩
          case measure => simp [intOf]; omega
    · go_wp2
      go_ret
      exact ⟨ret_int (by rw [List.take_of_length_le (by omega)]), rfl⟩

end Go.Proofs.Ytdichdoabhabjaa
