/-
  The walk of the law PartsNil.
-/
import Derived.Test.YtfjmlgclgmcjcaaLaw11a
namespace Go.Proofs.Ytfjmlgclgmcjcaa.Par
open Go.RowKit Go.Proofs.Ytfjmlgclgmcjcaa.Row
open Pac (Pk bel_new Cel.later Cel.within)

set_option maxHeartbeats 2000000 in
theorem partsNil_walk (com sec : Bool) (ap fl ct : Int) (a : Option Addr) (n c : Nat) (w : World) :
    Calls Try.prog 8 #[.agg #[.bool com, .bool sec, .int .i64 ap, .int .i64 fl, .int .i64 ct, .slice a n c]] w fun e w' => e = .returned (.bool true) ∧ Below w.heap.size w w' := by
  obtain ⟨w2, hw2⟩ : ∃ w2, w2 = (w.alloc (.cells #[.bool com, .bool sec, .int .i64 ap, .int .i64 fl, .int .i64 ct, .slice a n c] 24)).alloc (.cells #[.bool false, .int .i64 0, .slice none 0 0, .int .i64 0, .int .i64 0] 48) := ⟨_, rfl⟩
  have y1 := Cel.new w 24 #[.bool com, .bool sec, .int .i64 ap, .int .i64 fl, .int .i64 ct, .slice a n c]
  have b1 := bel_new w (.cells #[.bool com, .bool sec, .int .i64 ap, .int .i64 fl, .int .i64 ct, .slice a n c] 24)
  have b2 := bel_new (w.alloc (.cells #[.bool com, .bool sec, .int .i64 ap, .int .i64 fl, .int .i64 ct, .slice a n c] 24)) (.cells #[.bool false, .int .i64 0, .slice none 0 0, .int .i64 0, .int .i64 0] 48)
  have y2 := Cel.later y1 b2
  have z2 := Cel.new (w.alloc (.cells #[.bool com, .bool sec, .int .i64 ap, .int .i64 fl, .int .i64 ct, .slice a n c] 24)) 48 #[.bool false, .int .i64 0, .slice none 0 0, .int .i64 0, .int .i64 0]
  have b3 := b1.trans (b2.mono b1.size)
  rw [← hw2] at y2 z2 b3
  have hsz : (w.alloc (.cells #[.bool com, .bool sec, .int .i64 ap, .int .i64 fl, .int .i64 ct, .slice a n c] 24)).heap.size = w.heap.size + 1 := by simp
  rw [hsz] at z2
  clear y1 b1 b2 hsz
  have q0 := y2.cell 0
  have q1 := y2.cell 1
  have q2 := y2.cell 2
  have q3 := y2.cell 3
  have q4 := y2.cell 4
  have q5 := y2.cell 5
  simp at q0 q1 q2 q3 q4 q5
  have h1 := ntake com sec ap fl ct a n c (works_nil (w2.alloc (.cells #[.bool com, .bool sec, .int .i64 ap, .int .i64 fl, .int .i64 ct, .slice a n c] 24)))
  go_enter Try.func8, Try.ntmps8
  go_upto_region 3 with fail
  rw [← hw2]
  clear hw2
  go_wp2_with fail
  refine h1.mono ?_
  rintro e w3 ⟨rfl, b4⟩
  have y3 := Cel.later y2 b4
  have z3 := Cel.later z2 b4
  have b5 := b3.trans (b4.mono b3.size)
  clear y2 z2 b3 b4 h1 q0 q1 q2 q3 q4 q5
  have q0 := y3.cell 0
  have q1 := y3.cell 1
  have q2 := y3.cell 2
  have q3 := y3.cell 3
  have q4 := y3.cell 4
  have q5 := y3.cell 5
  simp at q0 q1 q2 q3 q4 q5
  have h2 := ntake com sec ap fl ct a n c (works_zero (w3.alloc (.cells #[.bool com, .bool sec, .int .i64 ap, .int .i64 fl, .int .i64 ct, .slice a n c] 24)) (w.heap.size + 1) (by have := (Cel.later z3 (bel_new w3 (.cells #[.bool com, .bool sec, .int .i64 ap, .int .i64 fl, .int .i64 ct, .slice a n c] 24))).cell 0; simpa using this))
  go_wp2_with fail
  refine h2.mono ?_
  rintro e w4 ⟨rfl, b6⟩
  have z4 := Cel.later z3 b6
  have b7 := b5.trans (b6.mono b5.size)
  clear y3 z3 b5 b6 h2 q0 q1 q2 q3 q4 q5
  have c0 : w4.cell? ⟨w.heap.size + 1, 0, none⟩ = some (.bool false) := by have := z4.cell 0; simpa using this
  have hn : Idle w4 none := works_nil w4
  have hz : Idle w4 (some ⟨w.heap.size + 1, 0, none⟩) := works_zero w4 _ c0
  have h1 := npending hn
  have h2 := npending hz
  have h3 := nclone hn
  have h4 := nclone hz
  have h5 := alive11_any w4
  clear hn hz c0 z4
  go_wp2_with fail
  refine h1.mono ?_
  rintro e w5 ⟨rfl, rfl⟩
  go_wp2_with fail
  refine h2.mono ?_
  rintro e w5 ⟨rfl, rfl⟩
  go_wp2_with fail
  refine h3.mono ?_
  rintro e w5 ⟨rfl, rfl⟩
  go_wp2_with fail
  refine h4.mono ?_
  rintro e w5 ⟨rfl, rfl⟩
  go_wp2_with fail
  refine h5.mono ?_
  rintro e w5 ⟨rfl, b8⟩
  go_wp2_with fail
  go_ret
  exact ⟨rfl, b7.trans (b8.mono b7.size)⟩
end Go.Proofs.Ytfjmlgclgmcjcaa.Par
