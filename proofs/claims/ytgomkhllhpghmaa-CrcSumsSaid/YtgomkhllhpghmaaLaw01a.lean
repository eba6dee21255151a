/-
  The walk of the law CrcSums.
-/
import Derived.Test.YtgomkhllhpghmaaAlive01
namespace Go.Proofs.Ytgomkhllhpghmaa
open Go.RowKit

set_option maxHeartbeats 400000 in
theorem crcSums_walk (a : Option Addr) (l : List Byte) (c : Nat) (r : BitVec 16) (d : BitVec 32) (w : World) (hb : Bs w w.heap.size a l) (hm : l.length ≤ maxLen) :
    Calls Try.prog 3 #[.slice a l.length c, .int .u16 (r.toNat : Int), .int .u32 (d.toNat : Int)] w fun e w' => e = .returned (.bool true) ∧ Below w.heap.size w w' := by
  by_cases h : 2000 < l.length
  · go_enter Try.func3, Try.ntmps3
    go_wp2_with (go_at_call 8; refine (alive_any _).mono ?_; rintro e w1 ⟨rfl, hbel⟩)
    go_ret
    exact ⟨rfl, hbel⟩
  · go_enter Try.func3, Try.ntmps3
    go_wp2_with (first
      | (go_at_call 9; refine (sum16_any a l c _ _ hb hm).mono ?_; rintro e w' ⟨rfl, rfl⟩)
      | (go_at_call 10; refine (refSum16_any a l c _ _ hb (by omega)).mono ?_; rintro e w' ⟨rfl, rfl⟩)
      | (go_at_call 11; refine (update16_any r a l c _ _ hb hm).mono ?_; rintro e w' ⟨rfl, rfl⟩)
      | (go_at_call 12; refine (refUpdate16_any r a l c _ _ hb (by omega)).mono ?_; rintro e w' ⟨rfl, rfl⟩)
      | (go_at_call 13; refine (sum32_any a l c _ _ hb hm).mono ?_; rintro e w' ⟨rfl, rfl⟩)
      | (go_at_call 14; refine (refSum32_any a l c _ _ hb (by omega)).mono ?_; rintro e w' ⟨rfl, rfl⟩)
      | (go_at_call 15; refine (update32_any d a l c _ _ hb hm).mono ?_; rintro e w' ⟨rfl, rfl⟩)
      | (go_at_call 16; refine (refUpdate32_any d a l c _ _ hb (by omega)).mono ?_; rintro e w' ⟨rfl, rfl⟩)
      | (go_at_call 8; refine (alive_any _).mono ?_; rintro e w1 ⟨rfl, hbel⟩))
    go_ret
    exact ⟨rfl, hbel⟩

end Go.Proofs.Ytgomkhllhpghmaa
