/-
  Layer 8: nil and the zero value; the law QueueNil.
-/
import Derived.Test.YtnnjmlpanbbanaaLaw08a
namespace Go.Proofs.Ytnnjmlpanbbanaa.Rng.Que
open Go.RowKit Go.Shelf Ints

/-- p is no Queue of New -/
def Idle (w : World) (p : Option Addr) : Prop := Calls Try.prog 24 #[.pointer p] w fun e w' => e = .returned (.bool false) ∧ w = w'

set_option maxHeartbeats 400000 in
theorem npush {w : World} {p : Option Addr} (hw : Idle w p) (a b : Int) : Calls Try.prog 11 #[.pointer p, I a, I b] w fun e w' => e = .returned (I 2) ∧ w = w' := by
  go_enter Try.func11, Try.ntmps11
  go_wp2_with (go_at_call 24; refine hw.mono ?_; rintro e w1 ⟨rfl, rfl⟩)
  go_ret
  exact ⟨rfl, rfl⟩
set_option maxHeartbeats 400000 in
theorem nremove {w : World} {p : Option Addr} (hw : Idle w p) (a : Int) : Calls Try.prog 15 #[.pointer p, I a] w fun e w' => e = .returned (.bool false) ∧ w = w' := by
  go_enter Try.func15, Try.ntmps15
  go_wp2_with (go_at_call 24; refine hw.mono ?_; rintro e w1 ⟨rfl, rfl⟩)
  go_ret
  exact ⟨rfl, rfl⟩
set_option maxHeartbeats 400000 in
theorem nlen {w : World} {p : Option Addr} (hw : Idle w p) : Calls Try.prog 20 #[.pointer p] w fun e w' => e = .returned (I 0) ∧ w = w' := by
  go_enter Try.func20, Try.ntmps20
  go_wp2_with (go_at_call 24; refine hw.mono ?_; rintro e w1 ⟨rfl, rfl⟩)
  go_ret
  exact ⟨rfl, rfl⟩
set_option maxHeartbeats 400000 in
theorem npeek {w : World} {p : Option Addr} (hw : Idle w p) : Calls Try.prog 18 #[.pointer p] w fun e w' => e = .returned (.tuple #[I 0, .bool false]) ∧ w = w' := by
  have hl := nlen hw
  go_enter Try.func18, Try.ntmps18
  go_wp2_with (go_at_call 20; refine hl.mono ?_; rintro e w1 ⟨rfl, rfl⟩)
  go_ret2
  exact ⟨rfl, rfl⟩
set_option maxHeartbeats 400000 in
theorem npop {w : World} {p : Option Addr} (hw : Idle w p) : Calls Try.prog 13 #[.pointer p] w fun e w' => e = .returned (.tuple #[I 0, .bool false]) ∧ w = w' := by
  have hl := npeek hw
  go_enter Try.func13, Try.ntmps13
  go_wp2_with (go_at_call 18; refine hl.mono ?_; rintro e w1 ⟨rfl, rfl⟩)
  go_ret2
  exact ⟨rfl, rfl⟩
set_option maxHeartbeats 400000 in
theorem nitems {w : World} {p : Option Addr} (hw : Idle w p) : Calls Try.prog 22 #[.pointer p] w fun e w' => e = .returned (.slice none 0 0) ∧ w = w' := by
  go_enter Try.func22, Try.ntmps22
  go_wp2_with (go_at_call 24; refine hw.mono ?_; rintro e w1 ⟨rfl, rfl⟩)
  go_ret
  exact ⟨rfl, rfl⟩
set_option maxHeartbeats 400000 in
theorem nclone {w : World} {p : Option Addr} (hw : Idle w p) : Calls Try.prog 17 #[.pointer p] w fun e w' => e = .returned (.pointer none) ∧ w = w' := by
  go_enter Try.func17, Try.ntmps17
  go_wp2_with (go_at_call 24; refine hw.mono ?_; rintro e w1 ⟨rfl, rfl⟩)
  go_ret
  exact ⟨rfl, rfl⟩

set_option maxHeartbeats 1000000 in
theorem queueNil_walk (a b : Int) (w : World) : Calls Try.prog 7 #[I a, I b] w fun e w' => e = .returned (.bool true) ∧ Below w.heap.size w w' := by
  obtain ⟨w1, hw1⟩ : ∃ w1, w1 = w.alloc (.cells #[.bool false, I 0, .slice none 0 0] 56) := ⟨_, rfl⟩
  have b1 : Below w.heap.size w w1 := by rw [hw1]; exact (Below.refl _ w).alloc (Nat.le_refl _) _
  have c0 : w1.cell? ⟨w.heap.size, 0, none⟩ = some (.bool false) := by rw [hw1]; simp
  have hn : Idle w1 none := q_works_nil w1
  have hz : Idle w1 (some ⟨w.heap.size, 0, none⟩) := q_works_zero w1 _ c0
  have h1 := npop hn
  have h2 := npeek hz
  have h3 := npush hn a b
  have h4 := npush hz a b
  have h5 := nremove hn b
  have h6 := nlen hn
  have h7 := nitems hz
  have h8 := nclone hn
  have h9 := nclone hz
  have hal := alive_any w1
  have hs := b1.size
  clear hn hz c0
  go_enter Try.func7, Try.ntmps7
  go_wp2_with fail
  rw [← hw1]
  clear hw1
  refine h1.mono ?_
  rintro e w2 ⟨rfl, rfl⟩
  go_wp2_with fail
  refine h2.mono ?_
  rintro e w2 ⟨rfl, rfl⟩
  go_wp2_with fail
  refine h3.mono ?_
  rintro e w2 ⟨rfl, rfl⟩
  go_wp2_with fail
  refine h4.mono ?_
  rintro e w2 ⟨rfl, rfl⟩
  go_wp2_with fail
  refine h5.mono ?_
  rintro e w2 ⟨rfl, rfl⟩
  go_wp2_with fail
  refine h6.mono ?_
  rintro e w2 ⟨rfl, rfl⟩
  go_wp2_with fail
  refine h7.mono ?_
  rintro e w2 ⟨rfl, rfl⟩
  go_wp2_with fail
  refine h8.mono ?_
  rintro e w2 ⟨rfl, rfl⟩
  go_wp2_with fail
  refine h9.mono ?_
  rintro e w2 ⟨rfl, rfl⟩
  go_wp2_with fail
  refine hal.mono ?_
  rintro e w3 ⟨rfl, b3⟩
  go_wp2_with fail
  go_ret
  exact ⟨rfl, b1.trans (b3.mono hs)⟩
end Go.Proofs.Ytnnjmlpanbbanaa.Rng.Que
