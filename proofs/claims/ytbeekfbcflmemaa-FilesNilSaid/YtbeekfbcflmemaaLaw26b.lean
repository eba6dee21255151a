/-
  The walk of the law FilesNil.
-/
import Derived.Test.YtbeekfbcflmemaaLaw26a
import Derived.Test.YtbeekfbcflmemaaFilW5
namespace Go.Proofs.Ytbeekfbcflmemaa.Fil
open Go.RowKit Go.Proofs.Ytbeekfbcflmemaa.Row

set_option maxHeartbeats 2000000 in
theorem nil_any (w : World) (x : Nm) (k : Nat) (hk : Hid (x.length = k)) (A : Option Addr) (n c : Nat) :
    Calls Try.prog 6 #[.string (nm x), .slice A n c] w fun e w' => e = .returned (.bool true) ∧ Below w.heap.size w w' := by
  have hsz : (nm x).size = k := by rw [nm_size]; exact hk.out
  have hal := fun W => alive_any W
  by_cases h1 : 300 < k
  · have t1 : decide ((300 : Int) < (k : Int)) = true := decide_eq_true (by omega)
    have t2 : decide (300 < k) = true := decide_eq_true h1
    clear h1
    go_enter Try.func6, Try.ntmps6
    go_wp2_with (go_at_call 7; refine (hal _).mono ?_; rintro e w1 ⟨rfl, b1⟩)
    go_ret
    exact ⟨rfl, b1⟩
  have t1 : decide ((300 : Int) < (k : Int)) = false := decide_eq_false (by omega)
  have t2 : decide (300 < k) = false := decide_eq_false h1
  by_cases h3 : 300 < n
  · have t3 : decide ((300 : Int) < (n : Int)) = true := decide_eq_true (by omega)
    have t4 : decide (300 < n) = true := decide_eq_true h3
    clear h1 h3
    go_enter Try.func6, Try.ntmps6
    go_wp2_with (go_at_call 7; refine (hal _).mono ?_; rintro e w1 ⟨rfl, b1⟩)
    go_ret
    exact ⟨rfl, b1⟩
  have t3 : decide ((300 : Int) < (n : Int)) = false := decide_eq_false (by omega)
  have t4 : decide (300 < n) = false := decide_eq_false h3
  have hz : Cel (w.alloc (.cells #[.bool false, I 0, I 0, .map none] 56)) w.heap.size 56 #[.bool false, I 0, I 0, .map none] := Cel.new _ _ _
  have hd := dead_zero hz
  have hn := dead_nil (w.alloc (.cells #[.bool false, I 0, I 0, .map none] 56))
  have hb := bel_new w (.cells #[.bool false, I 0, I 0, .map none] 56)
  have g1 := get_dead _ _ hn (.string (nm x))
  have g2 := get_dead _ _ hd (.string (nm x))
  have p1 := put_dead _ _ hn (.string (nm x)) (.slice A n c)
  have p2 := put_dead _ _ hd (.string (nm x)) (.slice A n c)
  have d1 := dele_dead _ _ hn (.string (nm x))
  have d2 := dele_dead _ _ hd (.string (nm x))
  have n1 := names_dead _ _ hn
  have f2 := free_dead _ _ hd
  have c1 := copy_dead _ _ hn
  have c2 := copy_dead _ _ hd
  clear h1 h3 hz hd hn hk
  go_enter Try.func6, Try.ntmps6
  go_wp2_with fail
  refine g1.mono ?_
  rintro e w1 ⟨rfl, rfl⟩
  go_wp2_with fail
  refine g2.mono ?_
  rintro e w1 ⟨rfl, rfl⟩
  go_wp2_with fail
  refine p1.mono ?_
  rintro e w1 ⟨rfl, rfl⟩
  go_wp2_with fail
  refine p2.mono ?_
  rintro e w1 ⟨rfl, rfl⟩
  go_wp2_with fail
  refine d1.mono ?_
  rintro e w1 ⟨rfl, rfl⟩
  go_wp2_with fail
  refine d2.mono ?_
  rintro e w1 ⟨rfl, rfl⟩
  go_wp2_with fail
  refine n1.mono ?_
  rintro e w1 ⟨rfl, rfl⟩
  go_wp2_with fail
  refine f2.mono ?_
  rintro e w1 ⟨rfl, rfl⟩
  go_wp2_with fail
  refine c1.mono ?_
  rintro e w1 ⟨rfl, rfl⟩
  go_wp2_with fail
  refine c2.mono ?_
  rintro e w1 ⟨rfl, rfl⟩
  go_wp2_with fail
  refine (hal _).mono ?_
  rintro e w1 ⟨rfl, b1⟩
  go_wp2
  go_ret
  exact ⟨rfl, hb.trans (b1.mono hb.size)⟩
end Go.Proofs.Ytbeekfbcflmemaa.Fil
