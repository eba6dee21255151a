/-
  The walks of 'alive' and of the laws FilesumSums and FilesumParts.
-/
import Derived.Test.YtehceapephgbpaaFsmW0
import Derived.Test.YtehceapephgbpaaRef25
import Derived.Test.YtehceapephgbpaaLater
import Derived.Lib.SlBytesConst
namespace Go.Proofs.Ytehceapephgbpaa.Fsm
open Go.RowKit

theorem one_ : ps 0 [65#8, 66#8, 67#8, 68#8] = 0x41424344#32 := by decide +kernel
theorem two_ : ps 0 [65#8, 66#8, 67#8, 68#8, 69#8] = 0x86424344#32 := by decide +kernel
theorem three_ : ps 2 [67#8, 68#8] = 0x4344#32 := by decide +kernel
theorem four_ : ps 3 [68#8, 69#8] = 0x45000044#32 := by decide +kernel

theorem bel_new {w w' W : World} (h : Below w.heap.size w W) (x : Obj) (e : W.alloc x = w') : Below w.heap.size w w' := e ▸ h.alloc h.size x

set_option maxHeartbeats 1000000 in
theorem alive_any (w : World) : Calls Try.prog 7 #[] w fun e w' => e = .returned (.bool true) ∧ Below w.heap.size w w' := by
  have hcv := fun (w : World) (C : Array Value) (n c : Nat) => Lib.run_convert_bytes_const (P := Try.prog) w 22 5 C n c Try.underlying22 Try.underlying5
  go_enter Try.func7, Try.ntmps7
  go_wp2_with fail
  refine (sum_any _ [65#8, 66#8, 67#8, 68#8] 4 _ (w.heap.size + 1) _ (Lib.hid rfl) (Bs_new w 5 _ _ rfl (w.heap.size + 1) (by omega) (4, 5)) (by decide)).mono ?_
  rintro e w1 ⟨rfl, h1⟩
  have b1 := bel_new (Below.refl _ w) _ h1
  rw [one_]
  clear h1
  go_wp2_with fail
  refine (sum_any _ [65#8, 66#8, 67#8, 68#8, 69#8] 5 _ (w1.heap.size + 1) _ (Lib.hid rfl) (Bs_new w1 5 _ _ rfl (w1.heap.size + 1) (by omega) (5, 6)) (by decide)).mono ?_
  rintro e w2 ⟨rfl, h2⟩
  have b2 := bel_new b1 _ h2
  rw [two_]
  clear h2 b1
  go_wp2_with fail
  refine (piece_any 2 _ [67#8, 68#8] 2 _ (w2.heap.size + 1) _ (Lib.hid rfl) (Bs_new w2 5 _ _ rfl (w2.heap.size + 1) (by omega) (2, 3)) (by decide)).mono ?_
  rintro e w3 ⟨rfl, h3⟩
  have b3 := bel_new b2 _ h3
  rw [three_]
  clear h3 b2
  go_wp2_with fail
  refine (piece_any 3 _ [68#8, 69#8] 2 _ (w3.heap.size + 1) _ (Lib.hid rfl) (Bs_new w3 5 _ _ rfl (w3.heap.size + 1) (by omega) (2, 3)) (by decide)).mono ?_
  rintro e w4 ⟨rfl, h4⟩
  have b4 := bel_new b3 _ h4
  rw [four_]
  clear h4 b3
  go_wp2
  go_ret
  exact ⟨rfl, b4⟩

set_option maxHeartbeats 1000000 in
theorem filesumSums_walk (a : Option Addr) (l : List Byte) (n c : Nat) (w : World) (hn : Hid (l.length = n)) (hb : Bs w w.heap.size a l) :
    Calls Try.prog 3 #[.slice a n c] w fun e w' => e = .returned (.bool true) ∧ Below w.heap.size w w' := by
  by_cases h : 70000 < n
  · go_enter Try.func3, Try.ntmps3
    go_wp2_with (go_at_call 7; refine (alive_any _).mono ?_; rintro e w1 ⟨rfl, hbel⟩)
    go_ret
    exact ⟨rfl, hbel⟩
  · have hm : n ≤ 70000 := by omega
    have hm2 : n ≤ 70100 := by omega
    have hs := fun W hB => sum_any a l n c w.heap.size W hn hB hm2
    have hr := fun W hB => rsum_any a l n c w.heap.size W hn hB hm
    obtain ⟨S, hS⟩ : ∃ S, S = ps 0 l := ⟨_, rfl⟩
    rw [← hS] at hs hr
    clear hS
    go_enter Try.func3, Try.ntmps3
    go_wp2_with (first
      | (go_at_call 8; refine (hs _ hb).mono ?_; rintro e w' ⟨rfl, rfl⟩)
      | (go_at_call 9; refine (hr _ hb).mono ?_; rintro e w' ⟨rfl, rfl⟩)
      | (go_at_call 7; refine (alive_any _).mono ?_; rintro e w1 ⟨rfl, hbel⟩))
    go_ret
    exact ⟨rfl, hbel⟩

set_option maxHeartbeats 1000000 in
theorem filesumParts_walk (o : Int) (a : Option Addr) (l : List Byte) (n c : Nat) (w : World) (hn : Hid (l.length = n)) (hb : Bs w w.heap.size a l) :
    Calls Try.prog 4 #[.int .i64 o, .slice a n c] w fun e w' => e = .returned (.bool true) ∧ Below w.heap.size w w' := by
  by_cases h : 70000 < n
  · go_enter Try.func4, Try.ntmps4
    go_wp2_with (go_at_call 7; refine (alive_any _).mono ?_; rintro e w1 ⟨rfl, hbel⟩)
    go_ret
    exact ⟨rfl, hbel⟩
  · have hm : n ≤ 70000 := by omega
    have hm2 : n ≤ 70100 := by omega
    obtain ⟨S, hs, hr⟩ : ∃ S : Int, (Calls Try.prog 10 #[.int .i64 o, .slice a n c] w fun e w' => e = .returned (.int .u32 S) ∧ w = w') ∧
        (Calls Try.prog 11 #[.int .i64 o, .slice a n c] w fun e w' => e = .returned (.int .u32 S) ∧ w = w') := by
      rcases Int.lt_or_le o 0 with ho | ho
      · exact ⟨0, piece_neg o ho _ w, rpiece_neg o ho _ w⟩
      · obtain ⟨q, rfl⟩ : ∃ q : Nat, o = (q : Int) := ⟨o.toNat, by omega⟩
        exact ⟨_, piece_any q a l n c w.heap.size w hn hb hm2, rpiece_any q a l n c w.heap.size w hn hb hm⟩
    go_enter Try.func4, Try.ntmps4
    go_wp2_with (first
      | (go_at_call 10; refine hs.mono ?_; rintro e w' ⟨rfl, rfl⟩)
      | (go_at_call 11; refine hr.mono ?_; rintro e w' ⟨rfl, rfl⟩)
      | (go_at_call 7; refine (alive_any _).mono ?_; rintro e w1 ⟨rfl, hbel⟩))
    go_ret
    exact ⟨rfl, hbel⟩
end Go.Proofs.Ytehceapephgbpaa.Fsm
