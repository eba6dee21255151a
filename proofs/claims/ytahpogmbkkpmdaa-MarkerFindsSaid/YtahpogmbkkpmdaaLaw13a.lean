/-
  The laws of layer 13: alive.
-/
import Derived.Test.YtahpogmbkkpmdaaMarW3
import Derived.Test.YtahpogmbkkpmdaaMarW4
import Derived.Test.YtahpogmbkkpmdaaRef13c
namespace Go.Proofs.Ytahpogmbkkpmdaa.Mar
open Go.RowKit Go.Proofs.Ytahpogmbkkpmdaa.Row Lst
open Scr (app app_len conv_at bel_new)

def ex8 : List Byte := [51#8, 26#8, 26#8, 207#8, 252#8, 29#8, 255#8, 26#8]
theorem ex_run : run 1 ⟨0, [], 0⟩ ex8 = ⟨1, [], 2⟩ := by kernel_rfl
theorem ex_out : out 1 ⟨0, [], 0⟩ ex8 = [[0#8]] := by kernel_rfl
theorem ex_wrap : pat ++ app [0#8] = [26#8, 207#8, 252#8, 29#8, 255#8] := by kernel_rfl

set_option maxRecDepth 100000 in
set_option maxHeartbeats 4000000 in
theorem alive_any (w : World) : Calls Try.prog 6 #[] w fun e w' => e = .returned (.bool true) ∧ Below w.heap.size w w' := by
  have x1 := newFinder_ok 1 (by decide) (by decide) w
  rw [show ((1 : Nat) : Int) = 1 from rfl] at x1
  have e1 : ((str [26#8, 207#8, 252#8, 29#8, 255#8]).toList == [26, 207, 252, 29, 255]) = true := by decide +kernel
  have e2 : ((str [0#8]).toList == [0]) = true := by decide +kernel
  go_enter Try.func6, Try.ntmps6
  go_wp2_with fail
  refine x1.mono ?_
  rintro e w1 ⟨rfl, hw1⟩
  have b1 : Below w.heap.size w w1 := by rw [hw1]; exact bel_new w _
  have f1 : FW w1 w.heap.size (.slice none 0 0) 1 ⟨0, [], 0⟩ := by rw [hw1]; exact Fw_new w 1 (by decide) (by decide)
  have s1 : w.heap.size < w1.heap.size := f1.c.lt
  clear hw1 x1
  obtain ⟨w2, hw2⟩ : ∃ w2, w2 = w1.alloc (.cells #[.int .u8 51, .int .u8 26, .int .u8 26, .int .u8 207, .int .u8 252, .int .u8 29, .int .u8 255, .int .u8 26] 5) := ⟨_, rfl⟩
  have b2 : Below w1.heap.size w1 w2 := by rw [hw2]; exact bel_new w1 _
  have a2 : Cel w2 w1.heap.size 5 #[.int .u8 51, .int .u8 26, .int .u8 26, .int .u8 207, .int .u8 252, .int .u8 29, .int .u8 255, .int .u8 26] := by rw [hw2]; exact Cel.new _ _ _
  have f2 := f1.below b2
  have hx : Bx w2 w.heap.size (.slice none 0 0) (some ⟨w1.heap.size, 0, none⟩) ex8 := fun _ => ⟨w1.heap.size, 0, rfl, a2.lt, by simp [blk, Value.ownBlock]; omega, fun i x hx => by
    rw [Nat.zero_add, a2.cell i]
    have hi := (List.getElem?_eq_some_iff.1 hx).1
    match i, hi, hx with
    | 0, _, hx | 1, _, hx | 2, _, hx | 3, _, hx | 4, _, hx | 5, _, hx | 6, _, hx | 7, _, hx => injection hx with hx; subst hx; rfl
    | i + 8, hi, _ => exact absurd hi (by simp [ex8])⟩
  have x2 := feed_any f2 (some ⟨w1.heap.size, 0, none⟩) ex8 8 8 (Lib.hid rfl) hx (by decide) (by decide)
  rw [ex_run, ex_out] at x2
  clear hx a2 f1
  go_wp2_with fail
  rw [← hw2]
  refine x2.mono ?_
  rintro e w3 ⟨R, v', E, rfl, hd, f3⟩
  clear x2 hw2 f2
  have b3 : Below w.heap.size w w3 := (b1.trans (b2.mono b1.size)).trans (hd.on.below (by have := b1.size; have := b2.size; omega) (fun x hx => by simp [blk, Value.ownBlock] at hx; omega))
  obtain ⟨A, c, rfl, hls, hn, _⟩ := hd.lo.len (n := 1) rfl
  obtain ⟨b, off, a, c', rfl, hb, hcell, hdt⟩ := hls.at_ (i := 0) rfl
  simp at hcell
  clear hls hd
  obtain ⟨w4, hw4⟩ : ∃ w4, w4 = w3.alloc (.cells #[.int .u8 0] 5) := ⟨_, rfl⟩
  have b4 : Below w3.heap.size w3 w4 := by rw [hw4]; exact bel_new w3 _
  have x3 := wrap_any (some ⟨w3.heap.size, 0, none⟩) [0#8] 1 1 w4 (Lib.hid rfl) (by rw [hw4]; exact Bs_new _ _ _ _ (by simp) _ (by simp)) (by decide)
  rw [ex_wrap] at x3
  go_wp2_with fail
  rw [← hw4]
  refine x3.mono ?_
  rintro e w5 ⟨v5, rfl, o5, b5⟩
  clear x3 hw4
  have b35 := b4.trans (b5.mono b4.size)
  obtain ⟨A5, c5, rfl, hA5, hn5, _⟩ := o5.reads_len (n := 5) rfl
  have q1 := conv_at w5 rfl hA5 hn5
  simp only [List.length_cons, List.length_nil, Nat.zero_add, Nat.reduceAdd] at q1
  have q2 := conv_at w5 rfl (hdt.b.below b35) hdt.n
  simp only [List.length_cons, List.length_nil, Nat.zero_add, Nat.reduceAdd] at q2
  have c5' := (b35.cell (p := ⟨b, off, none⟩) hb).trans hcell
  have x4 := skipped_any (f3.below b35)
  simp only at x4
  clear hA5 hn5 o5 hdt hcell f3
  go_wp2_with fail
  refine x4.mono ?_
  rintro e w6 ⟨rfl, rfl⟩
  go_wp2
  go_ret
  exact ⟨rfl, b3.trans (b35.mono b3.size)⟩
end Go.Proofs.Ytahpogmbkkpmdaa.Mar
