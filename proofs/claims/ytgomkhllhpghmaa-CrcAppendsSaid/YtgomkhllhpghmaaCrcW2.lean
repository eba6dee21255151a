/-
  The walks of the program's CRC-32C: a step, a byte string.
-/
import Derived.Test.YtgomkhllhpghmaaCrcW1
namespace Go.Proofs.Ytgomkhllhpghmaa
open Go.RowKit

theorem sh32_hi (r : BitVec 32) (h : r.getLsbD 0 = true) : (bits .and .u32 (r.toNat : Int) 1 != 0) = true ∧ bits .xor .u32 ((r.toNat : Int) / 2) 2197175160 = ((sh32 r).toNat : Int) := by
  have e1 := b32_and r 1#32
  have e2 := b32_xor (r >>> 1) 0x82f63b78#32
  rw [and_low, h] at e1
  constructor
  · rw [show (1 : Int) = ((1#32).toNat : Int) from rfl, e1]; rfl
  · rw [b32_shr1, show (2197175160 : Int) = ((0x82f63b78#32).toNat : Int) from rfl, e2, sh32, if_pos h]
theorem sh32_lo (r : BitVec 32) (h : r.getLsbD 0 = false) : (bits .and .u32 (r.toNat : Int) 1 != 0) = false ∧ (r.toNat : Int) / 2 = ((sh32 r).toNat : Int) := by
  have e1 := b32_and r 1#32
  rw [and_low, h] at e1
  constructor
  · rw [show (1 : Int) = ((1#32).toNat : Int) from rfl, e1]; rfl
  · rw [b32_shr1, sh32, if_neg (by rw [h]; decide)]

set_option maxHeartbeats 400000 in
theorem shift32_any (r : BitVec 32) (w : World) :
    Calls Try.prog 24 #[.int .u32 (r.toNat : Int)] w fun e w' => e = .returned (.int .u32 ((sh32 r).toNat : Int)) ∧ w = w' := by
  cases h : r.getLsbD 0
  · obtain ⟨h1, h2⟩ := sh32_lo r h
    have H := Lib.hid h2
    clear h h2
    go_enter Try.func24, Try.ntmps24
    go_wp2
    go_ret
    exact ⟨ret_int H.out, rfl⟩
  · obtain ⟨h1, h2⟩ := sh32_hi r h
    have H := Lib.hid h2
    clear h h2
    go_enter Try.func24, Try.ntmps24
    go_wp2
    go_ret
    exact ⟨ret_int H.out, rfl⟩

theorem in32 (r : BitVec 32) (x : Byte) : bits .xor .u32 (r.toNat : Int) (x.toNat : Int) = ((r ^^^ x.setWidth 32).toNat : Int) := by
  rw [← b32_xor]
  congr 1

set_option maxHeartbeats 400000 in
theorem update32_any (r : BitVec 32) (a : Option Addr) (l : List Byte) (c B : Nat) (w : World) (hb : Bs w B a l) (hm : l.length ≤ maxLen) :
    Calls Try.prog 15 #[.int .u32 (r.toNat : Int), .slice a l.length c] w fun e w' => e = .returned (.int .u32 ((up32 r l).toNat : Int)) ∧ w = w' := by
  unfold maxLen at hm
  go_enter Try.func15, Try.ntmps15
  go_wp2
  have HN := Lib.hid (b32_not r)
  go_loop [5, 12] (fun t i => ∃ k : Nat, k ≤ l.length ∧ i = .int .i64 k ∧ t = .int .u32 ((raw32 (~~~ r) (l.take k)).toNat : Int)) (fun _ i => l.length - (intOf i).toNat)
  case atStart => exact ⟨0, Nat.zero_le _, rfl, val_int HN.out⟩
  case round =>
    obtain ⟨k, hk, rfl, rfl⟩ := hrel
    by_cases hlt : k < l.length
    · obtain ⟨b, off, rfl, _, hc⟩ := hb.at_ hlt
      have HS : Hid (raw32 (~~~ r) (l.take (k + 1)) = by32 (raw32 (~~~ r) (l.take k)) l[k]) := raw32_take (~~~ r) l k hlt
      have H32 := Lib.hid (in32 (raw32 (~~~ r) (l.take k)) l[k])
      go_wp2
      go_loop [5, 20] (fun t i => ∃ j : Nat, j ≤ 8 ∧ i = .int .i64 j ∧ t = .int .u32 ((iter sh32 j (raw32 (~~~ r) (l.take k) ^^^ l[k].setWidth 32)).toNat : Int)) (fun _ i => 8 - (intOf i).toNat)
      case atStart => exact ⟨0, Nat.zero_le _, rfl, val_int H32.out⟩
      case round =>
        obtain ⟨j, hj, rfl, rfl⟩ := hrel
        by_cases hj8 : j < 8
        · go_wp2_with (go_at_call 24; refine (shift32_any _ _).mono ?_; rintro e w' ⟨rfl, rfl⟩)
          go_round
          case rel => exact ⟨j + 1, by omega, by go_num, rfl⟩
          case measure => simp [intOf]; omega
        · go_wp2
          go_round
          case rel => exact ⟨k + 1, by omega, by go_num, val_int (by rw [HS.out, by32, show j = 8 by omega])⟩
          case measure => simp [intOf]; omega
    · go_wp2
      go_ret
      exact ⟨ret_int (by rw [List.take_of_length_le (by omega), b32_not]; rfl), rfl⟩

end Go.Proofs.Ytgomkhllhpghmaa
