/-
  The walk of the law FilesumPieces.
-/
import Derived.Test.YtehceapephgbpaaLaw25a
import Derived.Deep.RegionHeld3
namespace Go.Proofs.Ytehceapephgbpaa.Fsm
open Go.RowKit

theorem Bs_part {w : World} {B c : Nat} {a : Option Addr} {l : List Byte} (h : Bs w B a l) (hc : l.length ≤ c) (i m : Nat) :
    Bs w B (if c = i then a else Option.map (fun x => x.add i) a) ((l.drop i).take m) := fun hl => by
  have hk : i < l.length := by simp at hl; omega
  obtain ⟨b, off, rfl, hb, hcl⟩ := h (by omega)
  rw [if_neg (by omega)]
  refine ⟨b, off + i, ?_, hb, fun k x hx => ?_⟩
  · by_cases h0 : i = 0
    · subst h0; simp [Addr.add]
    · simp [Addr.add, h0]
  · rw [List.getElem?_take] at hx
    split at hx
    · rw [List.getElem?_drop] at hx
      rw [Nat.add_assoc]
      exact hcl _ _ hx
    · cases hx

set_option maxHeartbeats 1000000 in
theorem pieces_no (a : Option Addr) (n c : Nat) (i j : Int) (w : World) (h : 70000 < n ∨ i < 0 ∨ j < i ∨ (n : Int) < j) :
    Calls Try.prog 5 #[.slice a n c, .int .i64 i, .int .i64 j] w fun e w' => e = .returned (.bool true) ∧ Below w.heap.size w w' := by
  by_cases h1 : 70000 < n
  · go_enter Try.func5, Try.ntmps5
    go_wp2_with (go_at_call 7; refine (alive_any _).mono ?_; rintro e w1 ⟨rfl, hbel⟩)
    go_ret
    exact ⟨rfl, hbel⟩
  by_cases h2 : i < 0
  · go_enter Try.func5, Try.ntmps5
    go_wp2_with (go_at_call 7; refine (alive_any _).mono ?_; rintro e w1 ⟨rfl, hbel⟩)
    go_ret
    exact ⟨rfl, hbel⟩
  by_cases h3 : j < i
  · go_enter Try.func5, Try.ntmps5
    go_wp2_with (go_at_call 7; refine (alive_any _).mono ?_; rintro e w1 ⟨rfl, hbel⟩)
    go_ret
    exact ⟨rfl, hbel⟩
  have h4 : (n : Int) < j := by omega
  clear h
  go_enter Try.func5, Try.ntmps5
  go_wp2_with (go_at_call 7; refine (alive_any _).mono ?_; rintro e w1 ⟨rfl, hbel⟩)
  go_ret
  exact ⟨rfl, hbel⟩

set_option maxHeartbeats 2000000 in
theorem pieces_yes (a : Option Addr) (l : List Byte) (n c i j : Nat) (w : World) (hn : Hid (l.length = n)) (hb : Bs w w.heap.size a l) (hc : n ≤ c)
    (hm : n ≤ 70000) (hij : i ≤ j) (hj : j ≤ n) :
    Calls Try.prog 5 #[.slice a n c, .int .i64 (i : Int), .int .i64 (j : Int)] w fun e w' => e = .returned (.bool true) ∧ Below w.heap.size w w' := by
  have hln := hn.out
  obtain ⟨A2, hA2⟩ : ∃ A2, (if c = i then a else Option.map (fun x => x.add i) a) = A2 := ⟨_, rfl⟩
  obtain ⟨A3, hA3⟩ : ∃ A3, (if c = j then a else Option.map (fun x => x.add j) a) = A3 := ⟨_, rfl⟩
  obtain ⟨c2, hc2⟩ : ∃ c2, c - i = c2 := ⟨_, rfl⟩
  obtain ⟨c3, hc3⟩ : ∃ c3, c - j = c3 := ⟨_, rfl⟩
  obtain ⟨n2, hn2⟩ : ∃ n2, j - i = n2 := ⟨_, rfl⟩
  obtain ⟨n3, hn3⟩ : ∃ n3, n - j = n3 := ⟨_, rfl⟩
  have s1 := hb.take i
  have s2 := Bs_part hb (c := c) (by omega) i n2
  have s3 := Bs_part hb (c := c) (by omega) j n3
  rw [hA2] at s2
  rw [hA3] at s3
  have e3 : (l.drop j).take n3 = l.drop j := List.take_of_length_le (by rw [List.length_drop]; omega)
  rw [e3] at s3
  have T := ps_three l i j hij (by omega)
  rw [hn2] at T
  have l1 : Hid ((l.take i).length = i) := List.length_take_of_le (by omega)
  have l2 : Hid (((l.drop i).take n2).length = n2) := List.length_take_of_le (by rw [List.length_drop]; omega)
  have l3 : Hid ((l.drop j).length = n3) := by show (l.drop j).length = n3; rw [List.length_drop]; omega
  have p1 := fun W h => piece_any 0 a (l.take i) i c w.heap.size W l1 h (by omega)
  have p2 := fun W h => piece_any i A2 ((l.drop i).take n2) n2 c2 w.heap.size W l2 h (by omega)
  have p3 := fun W h => piece_any j A3 (l.drop j) n3 c3 w.heap.size W l3 h (by omega)
  have ps := fun W h => sum_any a l n c w.heap.size W hn h (by omega)
  obtain ⟨X, hX⟩ : ∃ X, X = Fsm.ps 0 (l.take i) := ⟨_, rfl⟩
  obtain ⟨Y, hY⟩ : ∃ Y, Y = Fsm.ps i ((l.drop i).take n2) := ⟨_, rfl⟩
  obtain ⟨Z, hZ⟩ : ∃ Z, Z = Fsm.ps j (l.drop j) := ⟨_, rfl⟩
  obtain ⟨S, hS⟩ : ∃ S, S = Fsm.ps 0 l := ⟨_, rfl⟩
  rw [← hX, ← hY, ← hZ, ← hS] at T
  rw [← hX] at p1
  rw [← hY] at p2
  rw [← hZ] at p3
  rw [← hS] at ps
  have q1 : ((X.toNat : Int) + (Y.toNat : Int) + (Z.toNat : Int)) % 4294967296 = (S.toNat : Int) := by
    rw [← T, ← b32_add, ← b32_add, IntKind.wrap_u32, IntKind.wrap_u32]; simp
  have q2 : ((Z.toNat : Int) + (Y.toNat : Int) + (X.toNat : Int)) % 4294967296 = (S.toNat : Int) := by
    rw [← q1]; congr 1; omega
  have ic : i ≤ c := by omega
  have jc : j ≤ c := by omega
  clear T hX hY hZ hS l1 l2 l3 e3 hln
  go_enter Try.func5, Try.ntmps5
  go_wp2_with fail
  refine wp_region_later (by kernel_rfl) (by kernel_rfl) ?_
  repeat (go_big_quiet_step ((first
    | (go_at_call_of 10 (Value.slice a i c); exact later_same (p1 _ (s1.below (Later.h _))))
    | (go_at_call_of 10 (Value.slice A2 n2 c2); exact later_same (p2 _ (s2.below (Later.h _))))
    | (go_at_call_of 10 (Value.slice A3 n3 c3); exact later_same (p3 _ (s3.below (Later.h _)))))))
  refine wpQuiet_nil ?_
  rintro _ ⟨⟨w3, b3⟩, rfl⟩
  have s0 := hb.below b3
  go_wp2_with (first
    | (go_at_call 8; refine (ps _ s0).mono ?_; rintro e w' ⟨rfl, rfl⟩)
    | (go_at_call 7; refine (alive_any _).mono ?_; rintro e w4 ⟨rfl, b4⟩))
  go_ret
  exact ⟨rfl, b3.trans (b4.mono b3.size)⟩

theorem filesumPieces_walk (a : Option Addr) (l : List Byte) (n c : Nat) (i j : Int) (w : World) (hn : Hid (l.length = n)) (hb : Bs w w.heap.size a l) (hc : n ≤ c) :
    Calls Try.prog 5 #[.slice a n c, .int .i64 i, .int .i64 j] w fun e w' => e = .returned (.bool true) ∧ Below w.heap.size w w' := by
  by_cases h : 70000 < n ∨ i < 0 ∨ j < i ∨ (n : Int) < j
  · exact pieces_no a n c i j w h
  · obtain ⟨p, rfl⟩ : ∃ p : Nat, i = (p : Int) := ⟨i.toNat, by omega⟩
    obtain ⟨q, rfl⟩ : ∃ q : Nat, j = (q : Int) := ⟨j.toNat, by omega⟩
    exact pieces_yes a l n c p q w hn hb hc (by omega) (by omega) (by omega)
end Go.Proofs.Ytehceapephgbpaa.Fsm
