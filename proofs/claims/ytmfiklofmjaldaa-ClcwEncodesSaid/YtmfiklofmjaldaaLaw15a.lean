/-
  The walk of 'alive' of layer 15.
-/
import Derived.Test.YtmfiklofmjaldaaClcW3
import Derived.Test.YtmfiklofmjaldaaRef15b
import Derived.Test.YtmfiklofmjaldaaLater
namespace Go.Proofs.Ytmfiklofmjaldaa.Clc
open Go.RowKit Go.Proofs.Ytmfiklofmjaldaa.Pac

def zL1 : List Byte := [1#8, 12#8, 20#8, 200#8]
def zL2 : List Byte := [1#8, 0#8, 0#8, 0#8]
theorem zok1 : Cw.ok ⟨3, false, true, false, 2, 200⟩ = true := by decide
theorem zok2 : Cw.ok ⟨0, false, false, false, 0, 0⟩ = true := by decide
theorem zen1 : Cw.enc ⟨3, false, true, false, 2, 200⟩ = zL1 := by rw [Cw.enc_yes zok1]; rfl
theorem zen2 : Cw.enc ⟨0, false, false, false, 0, 0⟩ = zL2 := by rw [Cw.enc_yes zok2]; rfl
theorem zde1 : deE zL1 = 0 ∧ deP zL1 = ⟨3, false, true, false, 2, 200⟩ := by
  have h := dec_enc zok1
  rw [zen1] at h
  exact h

set_option maxHeartbeats 4000000 in
theorem alive15_any (w : World) : Calls Try.prog 11 #[] w fun e w' => e = .returned (.bool true) ∧ Below w.heap.size w w' := by
  have x1 := cencode_any 3 false true false 2 200 w
  rw [zen1, Cw.err_yes zok1] at x1
  have x2 := fun W => cencode_any 0 false false false 0 0 W
  simp only [zen2, Cw.err_yes zok2] at x2
  have x3 := fun W A c (h : Rd W A zL1 4 c) => cdecode_any A zL1 4 c W h
  simp only [zde1.1, zde1.2] at x3
  go_enter Try.func11, Try.ntmps11
  go_wp2_with fail
  refine x1.mono ?_
  rintro e w1 ⟨v1, rfl, o1, h1⟩
  obtain ⟨A1, c1, rfl, k1⟩ := Rd.of o1 (n := 4) rfl
  clear x1 o1
  go_wp2_with fail
  refine (x2 _).mono ?_
  rintro e w2 ⟨v2, rfl, o2, h2⟩
  obtain ⟨A2, c2, rfl, k2⟩ := Rd.of o2 (n := 4) rfl
  have b2 := h1.trans (h2.mono h1.size)
  have k12 := k1.later h2
  clear x2 o2 h1 h2 k1
  go_wp2_with fail
  refine (x3 _ _ _ k12).mono ?_
  rintro e w3 ⟨rfl, h3⟩
  have b3 := b2.trans (h3.mono b2.size)
  have s1 := k12.conv (h3.trans (bel_new w3 (.cells #[.int .i64 3, .bool false, .bool true, .bool false, .int .i64 2, .int .i64 200] 23) |>.mono h3.size))
  have s2 := k2.conv (h3.trans (bel_new w3 (.cells #[.int .i64 3, .bool false, .bool true, .bool false, .int .i64 2, .int .i64 200] 23) |>.mono h3.size))
  have b4 := b3.alloc b3.size (.cells #[.int .i64 3, .bool false, .bool true, .bool false, .int .i64 2, .int .i64 200] 23)
  have e1 : ((str zL1).toList == [1, 12, 20, 200]) = true := by decide +kernel
  have e2 : ((str zL2).toList == [1, 0, 0, 0]) = true := by decide +kernel
  clear x3 h3 k12 k2 b2 b3
  go_wp2
  go_ret
  exact ⟨rfl, b4⟩
end Go.Proofs.Ytmfiklofmjaldaa.Clc
