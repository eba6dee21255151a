/-
  The walk of the law FilesumPads.
-/
import Derived.Test.YtehceapephgbpaaLaw25a
import Derived.Test.YtehceapephgbpaaZerosH
namespace Go.Proofs.Ytehceapephgbpaa.Fsm
open Go.RowKit

theorem ps_pad (o k : Nat) (l : List Byte) : ps o (l ++ List.replicate k 0#8) = ps o l := by
  rw [ps_append, ps_zero, BitVec.add_zero]

set_option maxHeartbeats 1000000 in
theorem pads_no (o : Int) (v : Option Addr) (n c : Nat) (k : Int) (w : World) (h : 70000 < n ∨ k < 0 ∨ 100 < k ∨ o < 0 ∨ 4611686018427387904 < o) :
    Calls Try.prog 6 #[.int .i64 o, .slice v n c, .int .i64 k] w fun e w' => e = .returned (.bool true) ∧ Below w.heap.size w w' := by
  by_cases h1 : 70000 < n
  · go_enter Try.func6, Try.ntmps6
    go_wp2_with (go_at_call 7; refine (alive_any _).mono ?_; rintro e w1 ⟨rfl, hbel⟩)
    go_ret
    exact ⟨rfl, hbel⟩
  by_cases h2 : k < 0
  · go_enter Try.func6, Try.ntmps6
    go_wp2_with (go_at_call 7; refine (alive_any _).mono ?_; rintro e w1 ⟨rfl, hbel⟩)
    go_ret
    exact ⟨rfl, hbel⟩
  by_cases h3 : 100 < k
  · go_enter Try.func6, Try.ntmps6
    go_wp2_with (go_at_call 7; refine (alive_any _).mono ?_; rintro e w1 ⟨rfl, hbel⟩)
    go_ret
    exact ⟨rfl, hbel⟩
  by_cases h4 : o < 0
  · go_enter Try.func6, Try.ntmps6
    go_wp2_with (go_at_call 7; refine (alive_any _).mono ?_; rintro e w1 ⟨rfl, hbel⟩)
    go_ret
    exact ⟨rfl, hbel⟩
  have h5 : 4611686018427387904 < o := by omega
  clear h
  go_enter Try.func6, Try.ntmps6
  go_wp2_with (go_at_call 7; refine (alive_any _).mono ?_; rintro e w1 ⟨rfl, hbel⟩)
  go_ret
  exact ⟨rfl, hbel⟩

set_option maxHeartbeats 2000000 in
theorem pads_yes (o : Nat) (a : Option Addr) (l : List Byte) (n c k : Nat) (w : World) (hn : Hid (l.length = n)) (hb : Bs w w.heap.size a l) (hnil : a = none → c = 0)
    (hm : n ≤ 70000) (hk : k ≤ 100) (ho : o ≤ 4611686018427387904) :
    Calls Try.prog 6 #[.int .i64 (o : Int), .slice a n c, .int .i64 (k : Int)] w fun e w' => e = .returned (.bool true) ∧ Below w.heap.size w w' := by
  have hln := hn.out
  have l1 : Hid ((l ++ List.replicate k (0#8 : Byte)).length = n + k) := by show (l ++ List.replicate k (0#8 : Byte)).length = n + k; simp [hln]
  have p1 := fun A d W h => piece_any o A (l ++ List.replicate k 0#8) (n + k) d W.heap.size W l1 h (by omega)
  have p2 := fun W h => piece_any o a l n c w.heap.size W hn h (by omega)
  have p3 := fun W h => piece_any (o + 4) a l n c w.heap.size W hn h (by omega)
  rw [ps_pad] at p1
  rw [ps_four] at p3
  rw [show ((o + 4 : Nat) : Int) = (o : Int) + 4 by omega] at p3
  obtain ⟨S, hS⟩ : ∃ S, S = ps o l := ⟨_, rfl⟩
  rw [← hS] at p1 p2 p3
  clear hS
  have bel1 := (Below.refl w.heap.size w).alloc (Nat.le_refl _) (.cells #[] 5)
  have hown1 := Ow_empty w w.heap.size 5 (Nat.le_refl _)
  subst hln
  go_enter Try.func6, Try.ntmps6
  go_wp2_with (first
    | (at_builtin; refine wpList_app _ is_bytes rfl (.tmp 28) (.tmp 29) rfl (m := []) rfl hown1 rfl (hb.below bel1) hnil (by simp; omega) bel1.size ?_; intro v2 w2 hown2 hgrow2; have bel2 := bel1.grown hgrow2 bel1.size (Ow.base_le (l := []) hown1))
    | (at_builtin; refine wpList_app_zeros _ is_bytes Try.underlying3 rfl (.tmp 30) (.tmp 31) rfl (m := l) rfl hown2 rfl (by omega) bel2.size ?_; intro v3 w3 hown3 hgrow3; have bel3 := bel2.grown hgrow3 bel2.size (Ow.base_le (l := l) hown2); obtain ⟨A, d, rfl, hrd, _, _, _⟩ := Ow.reads_len hown3 l1.out)
    | fail)
  have hb3 := hb.below bel3
  refine (p1 A d _ hrd).mono ?_
  rintro e w' ⟨rfl, rfl⟩
  clear hown1 hown2 hown3 hgrow2 hgrow3 bel1 bel2 hb
  go_wp2_with fail
  refine (p2 _ hb3).mono ?_
  rintro e w' ⟨rfl, rfl⟩
  go_wp2_with fail
  refine (p3 _ hb3).mono ?_
  rintro e w' ⟨rfl, rfl⟩
  go_wp2_with fail
  refine (p2 _ hb3).mono ?_
  rintro e w' ⟨rfl, rfl⟩
  go_wp2_with (go_at_call 7; refine (alive_any _).mono ?_; rintro e w4 ⟨rfl, b4⟩)
  go_ret
  exact ⟨rfl, bel3.trans (b4.mono bel3.size)⟩

theorem filesumPads_walk (o : Int) (a : Option Addr) (l : List Byte) (n c : Nat) (k : Int) (w : World) (hn : Hid (l.length = n)) (hb : Bs w w.heap.size a l) (hnil : a = none → c = 0) :
    Calls Try.prog 6 #[.int .i64 o, .slice a n c, .int .i64 k] w fun e w' => e = .returned (.bool true) ∧ Below w.heap.size w w' := by
  by_cases h : 70000 < n ∨ k < 0 ∨ 100 < k ∨ o < 0 ∨ 4611686018427387904 < o
  · exact pads_no o a n c k w h
  · obtain ⟨p, rfl⟩ : ∃ p : Nat, o = (p : Int) := ⟨o.toNat, by omega⟩
    obtain ⟨q, rfl⟩ : ∃ q : Nat, k = (q : Int) := ⟨k.toNat, by omega⟩
    exact pads_yes p a l n c q w hn hb hnil (by omega) (by omega) (by omega)
end Go.Proofs.Ytehceapephgbpaa.Fsm
