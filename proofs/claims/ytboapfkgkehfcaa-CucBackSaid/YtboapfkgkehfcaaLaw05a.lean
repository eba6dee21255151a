/-
  The walks of 'alive' of layer 5, and of the law CucDecodes.
-/
import Derived.Test.YtboapfkgkehfcaaCucD
import Derived.Test.YtboapfkgkehfcaaLater
namespace Go.Proofs.Ytboapfkgkehfcaa
open Go.RowKit

set_option maxHeartbeats 4000000 in
theorem alive05_any (w : World) : Calls Try.prog 16 #[] w fun e w' => e = .returned (.bool true) ∧ Below w.heap.size w w' := by
  have a1 : eErr 1000 1 1 = 0 := by decide +kernel
  have a2 : eErr 1000 2 0 = 0 := by decide +kernel
  have a3 : eErr 1000 4 3 = 0 := by decide +kernel
  have a4 : eErr 65536 1 1 = 10 := by decide +kernel
  have b1 : eVal 1000 1 1 = [17#8, 3#8, 232#8] := by decide +kernel
  have b2 : eVal 1000 2 0 = [20#8, 0#8, 3#8] := by decide +kernel
  have b3 : eVal 1000 4 3 = [31#8, 0#8, 0#8, 0#8, 3#8, 232#8, 0#8, 0#8] := by decide +kernel
  have b4 : eVal 65536 1 1 = [] := by decide +kernel
  have d2 : dcd [20#8, 0#8, 3#8] = (0, 768, 2, 0) := by decide +kernel
  have d3 : dsz [20#8, 0#8, 3#8] = 3 := by decide +kernel
  have r1 : rVal 65536 1 1 = 65535 := by decide +kernel
  have r2 : rErr 65536 1 1 = 0 := by decide +kernel
  have x1 := fun W => encode_any 1000 1 1 W
  have x2 := fun W => encode_any 1000 2 0 W
  have x3 := fun W => encode_any 1000 4 3 W
  have x4 := fun W => encode_any 65536 1 1 W
  have x5 := fun W => round_any 65536 1 1 W (by decide)
  simp only [a1, b1] at x1
  simp only [a2, b2] at x2
  simp only [a3, b3] at x3
  simp only [a4, b4] at x4
  simp only [r1, r2] at x5
  clear a1 a2 a3 a4 b1 b2 b3 b4 r1 r2
  go_enter Try.func16, Try.ntmps16
  go_wp2_with fail
  refine (x1 _).mono ?_
  rintro e w1 ⟨v1, rfl, o1, h1⟩
  obtain ⟨A1, c1, rfl, hA1, hn1, _, _⟩ := o1.reads_len (n := 3) rfl
  go_wp2_with fail
  refine (x2 _).mono ?_
  rintro e w2 ⟨v2, rfl, o2, h2⟩
  obtain ⟨A2, c2, rfl, hA2, hn2, hc2, hm2⟩ := o2.reads_len (n := 3) rfl
  have bel2 := h1.trans (h2.mono h1.size)
  go_wp2_with fail
  refine (x3 _).mono ?_
  rintro e w3 ⟨v3, rfl, o3, h3⟩
  obtain ⟨A3, c3, rfl, hA3, hn3, _, _⟩ := o3.reads_len (n := 8) rfl
  have bel3 := bel2.trans (h3.mono bel2.size)
  have hdec := decode_any A2 [20#8, 0#8, 3#8] 3 c2 w3 (Lib.hid rfl) ((hA2.below h3).more h3.size) hc2 hm2 (by decide)
  simp only [d2, d3, dOut] at hdec
  go_wp2_with fail
  refine hdec.mono ?_
  rintro e w4 ⟨rfl, h4⟩
  have bel4 := bel3.trans (h4.mono bel3.size)
  have hF4 := Fm_new w4 23 2 0
  go_wp2_with fail
  refine (x4 _).mono ?_
  rintro e w5 ⟨v5, rfl, _, h5⟩
  go_wp2_with fail
  refine (x5 _).mono ?_
  rintro e w6 ⟨rfl, h6⟩
  have k5 := h5.trans (h6.mono h5.size)
  have k4 := (bel_new w4 (.cells #[.int .i64 2, .int .i64 0] 23)).trans (k5.mono (bel_new w4 _).size)
  have k3 := h4.trans (k4.mono h4.size)
  have k2 := h3.trans (k3.mono h3.size)
  have k1 := h2.trans (k2.mono h2.size)
  obtain ⟨_, q0, q1⟩ := hF4.keep k5
  have bel6 := bel4.trans (k4.mono bel4.size)
  have s1 := run_str (P := Try.prog) w6 is_bytes Try.underlying9 (hA1.below k1) hn1
  have s2 := run_str (P := Try.prog) w6 is_bytes Try.underlying9 (hA2.below k2) hn2
  have s3 := run_str (P := Try.prog) w6 is_bytes Try.underlying9 (hA3.below k3) hn3
  simp only [List.length_cons, List.length_nil, Nat.zero_add, Nat.reduceAdd] at s1 s2 s3
  have e1 : ((str [17#8, 3#8, 232#8]).toList == [17, 3, 232]) = true := by decide +kernel
  have e2 : ((str [20#8, 0#8, 3#8]).toList == [20, 0, 3]) = true := by decide +kernel
  have e3 : ((str [31#8, 0#8, 0#8, 0#8, 3#8, 232#8, 0#8, 0#8]).toList == [31, 0, 0, 0, 3, 232, 0, 0]) = true := by decide +kernel
  clear x1 x2 x3 x4 x5 h1 h2 h3 h4 h5 h6 k1 k2 k3 k4 k5 o1 o2 o3 hA1 hA2 hA3 hF4 hdec d2 d3 bel2 bel3 bel4
  go_wp2
  go_ret
  exact ⟨rfl, bel6⟩
end Go.Proofs.Ytboapfkgkehfcaa
