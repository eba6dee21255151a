/-
  Package scramble: nextBit, nextByte, firstBytes.
-/
import Derived.Test.YtahpogmbkkpmdaaScrMath
import Derived.Test.YtahpogmbkkpmdaaBase
namespace Go.Proofs.Ytahpogmbkkpmdaa.Scr
open Go.RowKit

theorem nxb_eq (x : Byte) : bits .and .u8 (bits .xor .u8 (bits .xor .u8 (bits .xor .u8 (x.toNat : Int) ((x.toNat : Int) / 4)) ((x.toNat : Int) / 16)) ((x.toNat : Int) / 128)) 1 = ((nxb x).toNat : Int) := by
  revert x
  exact all_bytes (by decide +kernel)
theorem stp_eq (x : Byte) : bits .or .u8 ((x.toNat : Int) * 2 % 256) ((nxb x).toNat : Int) = ((stp x).toNat : Int) := by
  revert x
  exact all_bytes (by decide +kernel)

set_option maxHeartbeats 400000 in
theorem nextBit_any (x : Byte) (w : World) :
    Calls Try.prog 32 #[B8 x] w fun e w' => e = .returned (B8 (nxb x)) ∧ w = w' := by
  go_enter Try.func32, Try.ntmps32
  go_wp2
  go_ret
  exact ⟨ret_int (nxb_eq x), rfl⟩

set_option maxHeartbeats 400000 in
theorem nextByte_any (x : Byte) (w : World) :
    Calls Try.prog 31 #[B8 x] w fun e w' => e = .returned (B8 (itn 8 x)) ∧ w = w' := by
  go_enter Try.func31, Try.ntmps31
  go_wp2
  go_loop [0, 3] (fun t i => ∃ j : Nat, j ≤ 8 ∧ i = .int .i64 j ∧ t = B8 (itn j x)) (fun _ i => 8 - (intOf i).toNat)
  case atStart => exact ⟨0, Nat.zero_le _, rfl, rfl⟩
  case round =>
    obtain ⟨j, hj, rfl, rfl⟩ := hrel
    by_cases hj8 : j < 8
    · go_wp2_with (go_at_call 32; refine (nextBit_any _ _).mono ?_; rintro e w' ⟨rfl, rfl⟩)
      go_round
      case rel => exact ⟨j + 1, by omega, by go_num, val_int (stp_eq _)⟩
      case measure => simp [intOf]; omega
    · obtain rfl : j = 8 := by omega
      go_wp2
      go_ret
      exact ⟨rfl, rfl⟩

theorem firstBytes_any (n : Int) (w : World) :
    Calls Try.prog 29 #[.int .i64 n] w fun e w' => e = .returned (.func (.func 30) #[] #[.pointer (some ⟨w.heap.size, 0, none⟩)]) ∧ w' = w.alloc (.cells #[.int .i64 n] 3) := by
  go_enter Try.func29, Try.ntmps29
  go_wp2
  go_ret
  exact ⟨rfl, rfl⟩
end Go.Proofs.Ytahpogmbkkpmdaa.Scr
