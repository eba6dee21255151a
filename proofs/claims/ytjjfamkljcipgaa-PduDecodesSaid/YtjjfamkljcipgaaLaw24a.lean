/-
  Chapter 24's examples: lives.
-/
import Derived.Test.YtjjfamkljcipgaaPduE
import Derived.Test.YtjjfamkljcipgaaPduD
namespace Go.Proofs.Ytjjfamkljcipgaa.Pdu
open Go.RowKit Go.Proofs.Ytjjfamkljcipgaa.Row

theorem ex_m : ok ⟨1, 1, 300, 2, [120#8], 4, 0, [], 0, 0, []⟩ = true ∧ enc ⟨1, 1, 300, 2, [120#8], 4, 0, [], 0, 0, []⟩ = [1#8, 1#8, 1#8, 44#8, 2#8, 8#8, 2#8, 120#8] := by decide +kernel
theorem ex_n : ok ⟨4, 1, 5, 0, [], 0, 0, [], 0, 0, [(0, 0), (0, 2)]⟩ = true ∧ enc ⟨4, 1, 5, 0, [], 0, 0, [], 0, 0, [(0, 0), (0, 2)]⟩ = [4#8, 1#8, 0#8, 5#8, 4#8, 0#8, 0#8, 0#8, 4#8] := by decide +kernel
theorem ex_o : ok ⟨4, 1, 5, 0, [], 0, 0, [], 0, 0, [(0, 2), (2, 4)]⟩ = false := by decide +kernel
theorem ex_s : deE [1#8, 1#8, 1#8, 44#8, 2#8, 8#8, 2#8] = 4 := by decide +kernel
theorem ex_d : deP [4#8, 1#8, 0#8, 5#8, 4#8, 0#8, 0#8, 0#8, 4#8] = ⟨4, 1, 5, 0, [], 0, 0, [], 0, 0, [(0, 0), (0, 2)]⟩ ∧ deE [4#8, 1#8, 0#8, 5#8, 4#8, 0#8, 0#8, 0#8, 4#8] = 0 := by
  have e := dd_enc ex_n.1 (by decide)
  rw [ex_n.2] at e
  simp [deP, deE, e]
theorem Gx_new (w : World) (l : List R) (n : Nat) (C : Array Value) (hn : l.length = n) (hC : C = (flat encR l).toArray) (hm : n ≤ maxLen) : Gx (w.alloc (.cells C 41)) (some ⟨w.heap.size, 0, none⟩) l n n :=
  ⟨hn, Row.Rs_new encR_ok w 41 l C hC _ (by simp), fun h => (nomatch h), Nat.le_refl _, hm⟩

set_option maxRecDepth 100000 in
set_option maxHeartbeats 8000000 in
theorem lives_any (w : World) :
    Calls Try.prog 9 #[] w fun e w' => e = .returned (.bool true) ∧ Below w.heap.size w w' := by
  have b1 := bel_new w (.cells #[I 1, I 1, I 300, I 2, .string (str [120#8]), I 4, I 0, .slice none 0 0, .int .u32 0, I 0, .slice none 0 0] 29)
  have hM1 := Cel.new w 29 #[I 1, I 1, I 300, I 2, .string (str [120#8]), I 4, I 0, .slice none 0 0, .int .u32 0, I 0, .slice none 0 0]
  have b2 := b1.alloc b1.size (.cells #[I 0, I 0, I 0, I 2] 41)
  have hM2 := Cel.on hM1 (bel_new _ (.cells #[I 0, I 0, I 0, I 2] 41))
  have g2 := Gx_new (w.alloc (.cells #[I 1, I 1, I 300, I 2, .string (str [120#8]), I 4, I 0, .slice none 0 0, .int .u32 0, I 0, .slice none 0 0] 29)) [(0, 0), (0, 2)] 2 #[I 0, I 0, I 0, I 2] rfl rfl (by decide)
  have hs1 : (w.alloc (.cells #[I 1, I 1, I 300, I 2, .string (str [120#8]), I 4, I 0, .slice none 0 0, .int .u32 0, I 0, .slice none 0 0] 29)).heap.size = w.heap.size + 1 := by simp
  rw [hs1] at g2
  have hN3 := Cel.new ((w.alloc (.cells #[I 1, I 1, I 300, I 2, .string (str [120#8]), I 4, I 0, .slice none 0 0, .int .u32 0, I 0, .slice none 0 0] 29)).alloc (.cells #[I 0, I 0, I 0, I 2] 41)) 29 #[I 4, I 1, I 5, I 0, .string (str []), I 0, I 0, .slice none 0 0, .int .u32 0, I 0, .slice (some ⟨w.heap.size + 1, 0, none⟩) 2 2]
  have hs2 : ((w.alloc (.cells #[I 1, I 1, I 300, I 2, .string (str [120#8]), I 4, I 0, .slice none 0 0, .int .u32 0, I 0, .slice none 0 0] 29)).alloc (.cells #[I 0, I 0, I 0, I 2] 41)).heap.size = w.heap.size + 2 := by simp
  rw [hs2] at hN3
  have b3 := b2.alloc b2.size (.cells #[I 4, I 1, I 5, I 0, .string (str []), I 0, I 0, .slice none 0 0, .int .u32 0, I 0, .slice (some ⟨w.heap.size + 1, 0, none⟩) 2 2] 29)
  have hM3 := Cel.on hM2 (bel_new _ (.cells #[I 4, I 1, I 5, I 0, .string (str []), I 0, I 0, .slice none 0 0, .int .u32 0, I 0, .slice (some ⟨w.heap.size + 1, 0, none⟩) 2 2] 29))
  have g3 := g2.later (bel_new _ (.cells #[I 4, I 1, I 5, I 0, .string (str []), I 0, I 0, .slice none 0 0, .int .u32 0, I 0, .slice (some ⟨w.heap.size + 1, 0, none⟩) 2 2] 29))
  have hE1 := pencode_any 1 1 300 2 [120#8] 4 0 [] 0 0 [] none 0 0 none 0 0 _ (⟨Bx.zero _, Gx.zero _, (show (0 : Nat) < 4294967296 by decide)⟩ : Px (((w.alloc (.cells #[I 1, I 1, I 300, I 2, .string (str [120#8]), I 4, I 0, .slice none 0 0, .int .u32 0, I 0, .slice none 0 0] 29)).alloc (.cells #[I 0, I 0, I 0, I 2] 41)).alloc (.cells #[I 4, I 1, I 5, I 0, .string (str []), I 0, I 0, .slice none 0 0, .int .u32 0, I 0, .slice (some ⟨w.heap.size + 1, 0, none⟩) 2 2] 29)) _ _ _ _ _ _ _)
  rw [show enO ⟨1, 1, 300, 2, [120#8], 4, 0, [], 0, 0, []⟩ = [1#8, 1#8, 1#8, 44#8, 2#8, 8#8, 2#8, 120#8] by simp [enO, ex_m.1, ex_m.2], show enE ⟨1, 1, 300, 2, [120#8], 4, 0, [], 0, 0, []⟩ = 0 by simp [enE, ex_m.1]] at hE1
  have c0 := hM3.cell 0
  have c1 := hM3.cell 1
  have c2 := hM3.cell 2
  have c3 := hM3.cell 3
  have c4 := hM3.cell 4
  have c5 := hM3.cell 5
  have c6 := hM3.cell 6
  have c7 := hM3.cell 7
  have c8 := hM3.cell 8
  have c9 := hM3.cell 9
  have c10 := hM3.cell 10
  simp only [List.getElem?_toArray, List.getElem?_cons_zero, List.getElem?_cons_succ] at c0 c1 c2 c3 c4 c5 c6 c7 c8 c9 c10
  clear b1 hM1 b2 hM2 g2 hs1 hs2
  go_enter Try.func9, Try.ntmps9
  go_wp2_with fail
  refine hE1.mono ?_
  rintro e w4 ⟨⟨A1, n1, a1, rfl, hB1⟩, hb4⟩
  clear hE1 c0 c1 c2 c3 c4 c5 c6 c7 c8 c9 c10
  have hn1 := hB1.1.len
  simp only [List.length_cons, List.length_nil, Nat.zero_add, Nat.reduceAdd] at hn1
  subst hn1
  have b4 := b3.trans (hb4.mono b3.size)
  have hM4 := Cel.on hM3 hb4
  have hN4 := Cel.on hN3 hb4
  have g4 := g3.later hb4
  clear b3 hM3 hN3 g3 hb4
  have hE2 := pencode_any 4 1 5 0 [] 0 0 [] 0 0 [(0, 0), (0, 2)] none 0 0 (some ⟨w.heap.size + 1, 0, none⟩) 2 2 w4 ⟨Bx.zero _, g4, (show (0 : Nat) < 4294967296 by decide)⟩
  rw [show enO ⟨4, 1, 5, 0, [], 0, 0, [], 0, 0, [(0, 0), (0, 2)]⟩ = [4#8, 1#8, 0#8, 5#8, 4#8, 0#8, 0#8, 0#8, 4#8] by simp [enO, ex_n.1, ex_n.2], show enE ⟨4, 1, 5, 0, [], 0, 0, [], 0, 0, [(0, 0), (0, 2)]⟩ = 0 by simp [enE, ex_n.1]] at hE2
  have c0 := hN4.cell 0
  have c1 := hN4.cell 1
  have c2 := hN4.cell 2
  have c3 := hN4.cell 3
  have c4 := hN4.cell 4
  have c5 := hN4.cell 5
  have c6 := hN4.cell 6
  have c7 := hN4.cell 7
  have c8 := hN4.cell 8
  have c9 := hN4.cell 9
  have c10 := hN4.cell 10
  simp only [List.getElem?_toArray, List.getElem?_cons_zero, List.getElem?_cons_succ] at c0 c1 c2 c3 c4 c5 c6 c7 c8 c9 c10
  go_wp2_with fail
  refine hE2.mono ?_
  rintro e w5 ⟨⟨A2, n2, a2, rfl, hB2⟩, hb5⟩
  clear hE2 g4 c0 c1 c2 c3 c4 c5 c6 c7 c8 c9 c10
  have hn2 := hB2.1.len
  simp only [List.length_cons, List.length_nil, Nat.zero_add, Nat.reduceAdd] at hn2
  subst hn2
  have b5 := b4.trans (hb5.mono b4.size)
  have hM5 := Cel.on hM4 hb5
  have hN5 := Cel.on hN4 hb5
  have hB15 := hB1.on hb5
  clear b4 hM4 hN4 hb5 hB1
  have hD1 := pdec_any A2 [4#8, 1#8, 0#8, 5#8, 4#8, 0#8, 0#8, 0#8, 4#8] 9 a2 w5 hB2.1 (by decide)
  rw [ex_d.1, ex_d.2] at hD1
  unfold DO at hD1
  simp only at hD1
  go_wp2_with fail
  refine hD1.mono ?_
  rintro e w6 ⟨⟨A3, n3, a3, G3, m3, c3, rfl, py⟩, hb6⟩
  clear hD1
  have hn3 := py.gl
  simp only [List.length_cons, List.length_nil, Nat.zero_add, Nat.reduceAdd] at hn3
  subst hn3
  have b6 := b5.trans (hb6.mono b5.size)
  have b7 := b6.alloc b6.size (.cells #[I 4, I 1, I 5, I 0, .string (str []), I 0, I 0, .slice A3 n3 a3, .int .u32 0, I 0, .slice G3 2 c3] 29)
  have hX7 := Cel.new w6 29 #[I 4, I 1, I 5, I 0, .string (str []), I 0, I 0, .slice A3 n3 a3, .int .u32 0, I 0, .slice G3 2 c3]
  have hM7 := Cel.on (Cel.on hM5 hb6) (bel_new w6 (.cells #[I 4, I 1, I 5, I 0, .string (str []), I 0, I 0, .slice A3 n3 a3, .int .u32 0, I 0, .slice G3 2 c3] 29))
  have hN7 := Cel.on (Cel.on hN5 hb6) (bel_new w6 (.cells #[I 4, I 1, I 5, I 0, .string (str []), I 0, I 0, .slice A3 n3 a3, .int .u32 0, I 0, .slice G3 2 c3] 29))
  have hB17 := (hB15.on hb6).on (bel_new w6 (.cells #[I 4, I 1, I 5, I 0, .string (str []), I 0, I 0, .slice A3 n3 a3, .int .u32 0, I 0, .slice G3 2 c3] 29))
  have hB27 := (hB2.on hb6).on (bel_new w6 (.cells #[I 4, I 1, I 5, I 0, .string (str []), I 0, I 0, .slice A3 n3 a3, .int .u32 0, I 0, .slice G3 2 c3] 29))
  have py7 := py.on (bel_new w6 (.cells #[I 4, I 1, I 5, I 0, .string (str []), I 0, I 0, .slice A3 n3 a3, .int .u32 0, I 0, .slice G3 2 c3] 29))
  have hs6 := b6.size
  have hlM := hM5.lt
  have hlN := hN5.lt
  have hs65 := hb6.size
  clear b5 b6 hM5 hN5 hB15 hB2 py hb6
  have t7 : (7 : Int) ≤ (a1 : Int) := by have := hB17.1.le; omega
  have t7' : 7 ≤ a1 := by have := hB17.1.le; omega
  have hD2 := pdec_any A1 [1#8, 1#8, 1#8, 44#8, 2#8, 8#8, 2#8] 7 a1 _ ⟨rfl, hB17.1.bs.take 7, hB17.1.nil, t7', hB17.1.max⟩ (by decide)
  rw [ex_s] at hD2
  obtain ⟨Z, hZ⟩ : ∃ Z, Z = deP [1#8, 1#8, 1#8, 44#8, 2#8, 8#8, 2#8] := ⟨_, rfl⟩
  rw [← hZ] at hD2
  clear hZ
  obtain ⟨z0, z1, z2, z3, z4, z5, z6, z7, z8, z9, z10⟩ := Z
  unfold DO at hD2
  simp only at hD2
  go_wp2_with fail
  refine hD2.mono ?_
  rintro e w8 ⟨⟨A4, n4, a4, G4, m4, c4, rfl, py4⟩, hb8⟩
  clear hD2 py4
  have b8 := b7.trans (hb8.mono b7.size)
  have b9 := b8.alloc b8.size (.cells #[I z0, I z1, I z2, I z3, .string (str z4), I z5, I z6, .slice A4 n4 a4, .int .u32 (z8 : Int), I z9, .slice G4 m4 c4] 29)
  have b10 := b9.alloc b9.size (.cells #[I 0, I 2, I 2, I 4] 41)
  have u9 := bel_new w8 (.cells #[I z0, I z1, I z2, I z3, .string (str z4), I z5, I z6, .slice A4 n4 a4, .int .u32 (z8 : Int), I z9, .slice G4 m4 c4] 29)
  have u10 := u9.alloc u9.size (.cells #[I 0, I 2, I 2, I 4] 41)
  have hX10 := Cel.on (Cel.on hX7 hb8) u10
  have hM10 := Cel.on (Cel.on hM7 hb8) u10
  have hN10 := Cel.on (Cel.on hN7 hb8) u10
  have hB110 := (hB17.on hb8).on u10
  have hB210 := (hB27.on hb8).on u10
  have py10 := (py7.on hb8).on u10
  have hR10 : Cel ((w8.alloc (.cells #[I z0, I z1, I z2, I z3, .string (str z4), I z5, I z6, .slice A4 n4 a4, .int .u32 (z8 : Int), I z9, .slice G4 m4 c4] 29)).alloc (.cells #[I 0, I 2, I 2, I 4] 41)) (w8.heap.size + 1) 41 (flat encR [(0, 2), (2, 4)]).toArray := Cel_two w8 (.cells #[I z0, I z1, I z2, I z3, .string (str z4), I z5, I z6, .slice A4 n4 a4, .int .u32 (z8 : Int), I z9, .slice G4 m4 c4] 29) 41 #[I 0, I 2, I 2, I 4]
  have os10 := Row.Os_of_cel (base := 0) encR_ok hR10 (Nat.zero_le _) (by decide)
  clear b7 b8 b9 u9 u10 hX7 hM7 hN7 hB17 hB27 py7 hb8 hR10
  obtain ⟨W10, hW10⟩ : ∃ W10, W10 = (w8.alloc (.cells #[I z0, I z1, I z2, I z3, .string (str z4), I z5, I z6, .slice A4 n4 a4, .int .u32 (z8 : Int), I z9, .slice G4 m4 c4] 29)).alloc (.cells #[I 0, I 2, I 2, I 4] 41) := ⟨_, rfl⟩
  rw [← hW10] at b10 hX10 hM10 hN10 hB110 hB210 py10 os10
  have k11 := set_only W10 (w.heap.size + 2) 10 (.slice (some ⟨w8.heap.size + 1, 0, none⟩) 2 2)
  have hN11 := hN10.put 10 (.slice (some ⟨w8.heap.size + 1, 0, none⟩) 2 2)
  simp only [List.setIfInBounds_toArray, List.set_cons_zero, List.set_cons_succ] at hN11
  have hM11 := hM10.only k11 (by simp)
  have hX11 := hX10.only k11 (by simp; omega)
  have hB111 := hB110.only hN10 k11
  have hB211 := hB210.only hN10 k11
  have py11 := py10.only hN10 k11
  have os11 := os10.only k11 (fun i hi => by
    have hn := Row.Os.apart os10 hN10 (by decide)
    intro hm
    simp at hm
    exact hn (hm ▸ hi))
  obtain ⟨Q3, Q4, Q5, gx11⟩ := Gx.of os11 (n := 2) rfl
  injection Q5 with Q6 _ Q7
  subst Q6 Q7
  have b11 := b10.trans (k11.below b10.size (by simp))
  have hE3 := pencode_any 4 1 5 0 [] 0 0 [] 0 0 [(0, 2), (2, 4)] none 0 0 (some ⟨w8.heap.size + 1, 0, none⟩) 2 2 _ ⟨Bx.zero _, gx11, (show (0 : Nat) < 4294967296 by decide)⟩
  rw [show enE ⟨4, 1, 5, 0, [], 0, 0, [], 0, 0, [(0, 2), (2, 4)]⟩ = 1 by simp [enE, ex_o]] at hE3
  have x10 := hN10.cell 10
  have x11 := hN10.free 10
  simp only [List.getElem?_toArray, List.getElem?_cons_zero, List.getElem?_cons_succ] at x10
  have c0 := hN11.cell 0
  have c1 := hN11.cell 1
  have c2 := hN11.cell 2
  have c3 := hN11.cell 3
  have c4 := hN11.cell 4
  have c5 := hN11.cell 5
  have c6 := hN11.cell 6
  have c7 := hN11.cell 7
  have c8 := hN11.cell 8
  have c9 := hN11.cell 9
  have c10 := hN11.cell 10
  simp only [List.getElem?_toArray, List.getElem?_cons_zero, List.getElem?_cons_succ] at c0 c1 c2 c3 c4 c5 c6 c7 c8 c9 c10
  rw [hW10] at x10 x11 c0 c1 c2 c3 c4 c5 c6 c7 c8 c9 c10 hE3
  go_wp2_with fail
  rw [← hW10] at hE3 ⊢
  refine hE3.mono ?_
  rintro e w12 ⟨⟨A5, n5, a5, rfl, _⟩, hb12⟩
  clear hE3 c0 c1 c2 c3 c4 c5 c6 c7 c8 c9 c10 x10 x11 hW10 os10 os11 k11 b10 hX10 hM10 hN10 hB110 hB210 py10
  have b12 := b11.trans (hb12.mono b11.size)
  have hM12 := Cel.on hM11 hb12
  have hN12 := Cel.on hN11 hb12
  have hX12 := Cel.on hX11 hb12
  have gx12 := gx11.later hb12
  have py12 := py11.on hb12
  have cv1 := (hB111.on hb12).1.conv (Below.refl _ _)
  have cv2 := (hB211.on hb12).1.conv (Below.refl _ _)
  have px12 := py12.px
  obtain ⟨gb, go, rfl, _, y0, y1⟩ := px12.g.at_ (i := 1) (x := (0, 2)) rfl
  simp only [Nat.one_mul] at y0 y1
  have y1' : w12.cell? ⟨gb, go + 3, none⟩ = some (I 2) := y1
  have s1 : ((str [1#8, 1#8, 1#8, 44#8, 2#8, 8#8, 2#8, 120#8]).toList == [1, 1, 1, 44, 2, 8, 2, 120]) = true := by rw [str_toList]; rfl
  have s2 : ((str [4#8, 1#8, 0#8, 5#8, 4#8, 0#8, 0#8, 0#8, 4#8]).toList == [4, 1, 0, 5, 4, 0, 0, 0, 4]) = true := by rw [str_toList]; rfl
  have hv1 := pvalid_any 1 1 300 2 [120#8] 4 0 [] 0 0 [] none 0 0 none 0 0 w12 ⟨Bx.zero _, Gx.zero _, (show (0 : Nat) < 4294967296 by decide)⟩
  rw [ex_m.1] at hv1
  have r10 := hX12.cell 10
  simp only [List.getElem?_toArray, List.getElem?_cons_zero, List.getElem?_cons_succ] at r10
  have c0 := hM12.cell 0
  have c1 := hM12.cell 1
  have c2 := hM12.cell 2
  have c3 := hM12.cell 3
  have c4 := hM12.cell 4
  have c5 := hM12.cell 5
  have c6 := hM12.cell 6
  have c7 := hM12.cell 7
  have c8 := hM12.cell 8
  have c9 := hM12.cell 9
  have c10 := hM12.cell 10
  simp only [List.getElem?_toArray, List.getElem?_cons_zero, List.getElem?_cons_succ] at c0 c1 c2 c3 c4 c5 c6 c7 c8 c9 c10
  clear b11 hM11 hN11 hX11 gx11 py11 hb12 hB111 hB211 hM12 hX12 py12 px12
  have u7 := fun W => pfwd_any 7 W
  have u4 := fun W => pfwd_any 4 W
  have u0 := fun W => pfwd_any 0 W
  simp only [show fwd 7 = true from rfl] at u7
  simp only [show fwd 4 = false from rfl] at u4
  simp only [show fwd 0 = false from rfl] at u0
  go_wp2_with fail
  refine hv1.mono ?_
  rintro e w13 ⟨rfl, hb13⟩
  clear hv1 c0 c1 c2 c3 c4 c5 c6 c7 c8 c9 c10
  have hN13 := Cel.on hN12 hb13
  have gx13 := gx12.later hb13
  have b13 := b12.trans (hb13.mono b12.size)
  have hv2 := pvalid_any 4 1 5 0 [] 0 0 [] 0 0 [(0, 2), (2, 4)] none 0 0 (some ⟨w8.heap.size + 1, 0, none⟩) 2 2 w13 ⟨Bx.zero _, gx13, (show (0 : Nat) < 4294967296 by decide)⟩
  rw [ex_o] at hv2
  have c0 := hN13.cell 0
  have c1 := hN13.cell 1
  have c2 := hN13.cell 2
  have c3 := hN13.cell 3
  have c4 := hN13.cell 4
  have c5 := hN13.cell 5
  have c6 := hN13.cell 6
  have c7 := hN13.cell 7
  have c8 := hN13.cell 8
  have c9 := hN13.cell 9
  have c10 := hN13.cell 10
  simp only [List.getElem?_toArray, List.getElem?_cons_zero, List.getElem?_cons_succ] at c0 c1 c2 c3 c4 c5 c6 c7 c8 c9 c10
  clear hN12 hN13 gx12 gx13 b12 hb13
  go_wp2_with fail
  refine hv2.mono ?_
  rintro e w14 ⟨rfl, hb14⟩
  clear hv2 c0 c1 c2 c3 c4 c5 c6 c7 c8 c9 c10
  go_wp2_with fail
  refine (u7 _).mono ?_
  rintro e w15 ⟨rfl, rfl⟩
  go_wp2_with fail
  refine (u4 _).mono ?_
  rintro e w15 ⟨rfl, rfl⟩
  go_wp2_with fail
  refine (u0 _).mono ?_
  rintro e w15 ⟨rfl, rfl⟩
  go_wp2
  go_ret
  exact ⟨rfl, b13.trans (hb14.mono b13.size)⟩
end Go.Proofs.Ytjjfamkljcipgaa.Pdu
