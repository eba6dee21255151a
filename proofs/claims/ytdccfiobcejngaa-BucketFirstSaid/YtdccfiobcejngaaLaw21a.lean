/-
  The laws of layer 21: a bucket in play; the chapter's examples (lives); BucketNone.
-/
import Derived.Test.YtdccfiobcejngaaBucW1
import Derived.Test.YtdccfiobcejngaaRef21b
namespace Go.Proofs.Ytdccfiobcejngaa.Buc
open Go.RowKit

/-- the bucket at block g, and what lies below block B is as it was -/
structure PB (w0 w : World) (B g : Nat) (s : BS) : Prop where
  f : BW w g s
  b : Below B w0 w
  s : B ≤ w.heap.size
  g : B ≤ g
section
variable {w0 w w' : World} {B g : Nat} {s s' : BS} {n m V : Int} {E : Bool}
theorem PB.below (h : PB w0 w B g s) (k : Below w.heap.size w w') : PB w0 w' B g s := ⟨h.f.below k, h.b.trans (k.mono h.s), Nat.le_trans h.s k.size, h.g⟩
theorem PB.draws (h : PB w0 w B g s) (m : Nat) : PB w0 (w.drewN m) B g s := ⟨h.f.draws m, ⟨h.b.os, h.b.tape, h.b.output, h.b.size, h.b.block⟩, h.s, h.g⟩
theorem PB.put (h : PB w0 w B g s) (f : BW w' g s') (k : Only [g] w w') : PB w0 w' B g s' := ⟨f, h.b.trans (k.below h.s (by simpa using h.g)), Nat.le_trans h.s k.size, h.g⟩
theorem PB.new (r z : Int) (hs : bs0 r z = s) :
    Calls Try.prog 8 #[.int .i64 r, .int .i64 z] w fun e w' => e = .returned (.pointer (some ⟨w.heap.size, 0, none⟩)) ∧ PB w w' w.heap.size w.heap.size s := by
  subst hs
  exact (bnew_any r z w).mono fun _ _ ⟨e, h, b⟩ => ⟨e, h, b, b.size, Nat.le_refl _⟩
theorem PB.take (h : PB w0 w B g s) (n m : Int) (hE : tkB (adv s m) n = E) (hS : tkS (adv s m) n = s') :
    Calls Try.prog 14 #[.pointer (some ⟨g, 0, none⟩), .int .i64 n, .int .i64 m] w fun e w' => e = .returned (.bool E) ∧ PB w0 w' B g s' ∧ Only [g] w w' := by
  have x := btake_any n m w g s h.f
  rw [hE, hS] at x
  exact x.mono fun _ _ ⟨e, f, k⟩ => ⟨e, h.put f k, k⟩
theorem PB.level (h : PB w0 w B g s) (m : Int) (hS : adv s m = s') :
    Calls Try.prog 12 #[.pointer (some ⟨g, 0, none⟩), .int .i64 m] w fun e w' => e = .returned (.int .i64 s'.v) ∧ PB w0 w' B g s' ∧ Only [g] w w' := by
  have x := blevel_any m w g s h.f
  rw [hS] at x
  exact x.mono fun _ _ ⟨e, f, k⟩ => ⟨e, h.put f k, k⟩
theorem PB.when (h : PB w0 w B g s) (n m : Int) (hS : adv s m = s') (hE : wn s' n = (V, E)) :
    Calls Try.prog 15 #[.pointer (some ⟨g, 0, none⟩), .int .i64 n, .int .i64 m] w fun e w' => e = .returned (.tuple #[.int .i64 V, .bool E]) ∧ PB w0 w' B g s' ∧ Only [g] w w' := by
  have x := bwhen_any n m w g s h.f
  rw [hS, hE] at x
  exact x.mono fun _ _ ⟨e, f, k⟩ => ⟨e, h.put f k, k⟩
end

set_option maxRecDepth 100000 in
set_option maxHeartbeats 4000000 in
theorem lives_any (w : World) : Calls Try.prog 10 #[] w fun e w' => e = .returned (.bool true) ∧ Below w.heap.size w w' := by
  have x1 := PB.new (w := w) 2 10 (s := ⟨2, 10, 10, 0⟩) (by decide)
  obtain ⟨g, hg⟩ : ∃ g, g = w.heap.size := ⟨_, rfl⟩
  rw [← hg] at x1 ⊢
  clear hg
  go_enter Try.func10, Try.ntmps10
  go_wp2_with fail
  refine x1.mono ?_
  rintro e w1 ⟨rfl, p1⟩
  clear x1
  go_wp2_with fail
  refine (p1.take 7 0 (E := true) (s' := ⟨2, 10, 3, 0⟩) (by decide) (by decide)).mono ?_
  rintro e w2 ⟨rfl, p2, _⟩
  clear p1
  go_wp2_with fail
  refine (p2.level 0 (s' := ⟨2, 10, 3, 0⟩) (by decide)).mono ?_
  rintro e w3 ⟨rfl, p3, _⟩
  clear p2
  go_wp2_with fail
  refine (p3.take 7 1 (E := false) (s' := ⟨2, 10, 5, 1⟩) (by decide) (by decide)).mono ?_
  rintro e w4 ⟨rfl, p4, _⟩
  clear p3
  go_wp2_with fail
  refine (p4.level 1 (s' := ⟨2, 10, 5, 1⟩) (by decide)).mono ?_
  rintro e w5 ⟨rfl, p5, _⟩
  clear p4
  go_wp2_with fail
  refine (p5.when 7 1 (s' := ⟨2, 10, 5, 1⟩) (V := 2) (E := true) (by decide) (by decide)).mono ?_
  rintro e w6 ⟨rfl, p6, _⟩
  clear p5
  go_wp2_with fail
  refine (p6.take 7 2 (E := true) (s' := ⟨2, 10, 0, 2⟩) (by decide) (by decide)).mono ?_
  rintro e w7 ⟨rfl, p7, _⟩
  clear p6
  go_wp2_with fail
  refine (p7.when 11 2 (s' := ⟨2, 10, 0, 2⟩) (V := 0) (E := false) (by decide) (by decide)).mono ?_
  rintro e w8 ⟨rfl, p8, _⟩
  clear p7
  go_wp2_with fail
  refine (p8.level 5 (s' := ⟨2, 10, 6, 5⟩) (by decide)).mono ?_
  rintro e w9 ⟨rfl, p9, _⟩
  clear p8
  go_wp2_with fail
  refine (p9.level 3 (s' := ⟨2, 10, 6, 5⟩) (by decide)).mono ?_
  rintro e w10 ⟨rfl, p10, _⟩
  clear p9
  go_wp2
  go_ret
  exact ⟨rfl, p10.b⟩

set_option maxRecDepth 100000 in
set_option maxHeartbeats 4000000 in
theorem bucketNone_walk (n m : Int) (w : World) : Calls Try.prog 7 #[.int .i64 n, .int .i64 m] w fun e w' => e = .returned (.bool true) ∧ Below w.heap.size w w' := by
  obtain ⟨w1, hw1⟩ : ∃ w1, w1 = w.alloc (.cells #[.bool false, .int .i64 0, .int .i64 0, .int .i64 0, .int .i64 0] 47) := ⟨_, rfl⟩
  have b1 : Below w.heap.size w w1 := by rw [hw1]; exact bel_new _ _
  have p1 : Cel w1 w.heap.size 47 #[.bool false, .int .i64 0, .int .i64 0, .int .i64 0, .int .i64 0] := by rw [hw1]; exact Cel.new _ _ _
  have i1 : Idle w1 (.pointer none) := .inl rfl
  have i2 : Idle w1 (.pointer (some ⟨w.heap.size, 0, none⟩)) := .inr ⟨_, rfl, p1.cell 0⟩
  clear p1
  go_enter Try.func7, Try.ntmps7
  go_wp2_with fail
  rw [← hw1]
  clear hw1
  refine (bwhen_idle n m w1 _ i1).mono ?_
  rintro e w2 ⟨rfl, rfl⟩
  go_wp2_with fail
  refine (bwhen_idle n m w1 _ i2).mono ?_
  rintro e w2 ⟨rfl, rfl⟩
  go_wp2_with fail
  refine (btake_idle n m w1 _ i1).mono ?_
  rintro e w2 ⟨rfl, rfl⟩
  go_wp2_with fail
  refine (btake_idle n m w1 _ i2).mono ?_
  rintro e w2 ⟨rfl, rfl⟩
  go_wp2_with fail
  refine (blevel_idle m w1 _ i1).mono ?_
  rintro e w2 ⟨rfl, rfl⟩
  go_wp2_with fail
  refine (blevel_idle m w1 _ i2).mono ?_
  rintro e w2 ⟨rfl, rfl⟩
  go_wp2_with fail
  refine (bclone_idle w1 _ i1).mono ?_
  rintro e w2 ⟨rfl, rfl⟩
  go_wp2_with fail
  refine (bclone_idle w1 _ i2).mono ?_
  rintro e w2 ⟨rfl, rfl⟩
  go_wp2_with fail
  refine (lives_any w1).mono ?_
  rintro e w2 ⟨rfl, b2⟩
  go_wp2
  go_ret
  exact ⟨rfl, b1.trans (b2.mono b1.size)⟩
end Go.Proofs.Ytdccfiobcejngaa.Buc
