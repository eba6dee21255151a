/-
  Chapter 24's law PduDecodes.
-/
import Derived.Test.YtjjfamkljcipgaaLaw24a
import Derived.Test.YtjjfamkljcipgaaRef24s
import Derived.Test.YtjjfamkljcipgaaRef24d
namespace Go.Proofs.Ytjjfamkljcipgaa.Pdu
open Go.RowKit Go.Proofs.Ytjjfamkljcipgaa.Row

theorem de_ga (l : List Byte) : (deP l).ga.length ≤ 16 := by
  unfold deP
  cases h : dd l with
  | none => exact Nat.zero_le _
  | some p =>
    show p.ga.length ≤ 16
    obtain ⟨_, _, hc⟩ := ok_cases (dd_some h).1
    rcases hc with ⟨_, _, _, _, e⟩ | ⟨_, _, e⟩ | ⟨_, _, _, _, e⟩ | ⟨_, c1, _⟩ | ⟨_, _, e⟩ | ⟨_, e⟩
    · rw [e]; exact Nat.zero_le _
    · rw [e]; exact Nat.zero_le _
    · rw [e]; exact Nat.zero_le _
    · exact (of_decide_eq_true (Bool.and_eq_true_iff.1 c1).1).2
    · rw [e]; exact Nat.zero_le _
    · rw [e]; exact Nat.zero_le _
set_option maxRecDepth 100000 in
set_option maxHeartbeats 8000000 in
theorem decodes_any (a : Option Addr) (l : List Byte) (n c : Nat) (w : World) (h : Bx w a l n c) :
    Calls Try.prog 4 #[.slice a n c] w fun e w' => e = .returned (.bool true) ∧ Below w.heap.size w w' := by
  by_cases hn : n ≤ 2000
  case neg =>
    have t1 : decide ((2000 : Int) < (n : Int)) = true := decide_eq_true (by omega)
    have t2 : decide (2000 < n) = true := decide_eq_true (by omega)
    clear h hn
    go_enter Try.func4, Try.ntmps4
    go_wp2_with fail
    refine (lives_any w).mono ?_
    rintro e w2 ⟨rfl, hb2⟩
    go_wp2
    go_ret
    exact ⟨rfl, hb2⟩
  have t1 : decide ((2000 : Int) < (n : Int)) = false := decide_eq_false (by omega)
  have t2 : decide (2000 < n) = false := decide_eq_false (by omega)
  have hde := pdec_any a l n c w h (by omega)
  have hre := fun W (q : Bx W a l n c) => rdec_any a l n c W q hn
  have hga := de_ga l
  obtain ⟨Z, hZ⟩ : ∃ Z, Z = deP l := ⟨_, rfl⟩
  obtain ⟨D, hD⟩ : ∃ D, D = deE l := ⟨_, rfl⟩
  rw [← hZ, ← hD] at hde
  simp only [← hZ, ← hD] at hre
  rw [← hZ] at hga
  clear hZ hD
  obtain ⟨z0, z1, z2, z3, z4, z5, z6, z7, z8, z9, z10⟩ := Z
  unfold DO at hde hre
  simp only at hde hre hga
  have e1 : (D == D) = true := by simp
  clear hn
  go_enter Try.func4, Try.ntmps4
  go_wp2_with fail
  refine hde.mono ?_
  rintro e w2 ⟨⟨A3, n3, a3, G3, m3, c3, rfl, py⟩, hb2⟩
  have b3 := hb2.alloc hb2.size (.cells #[I z0, I z1, I z2, I z3, .string (str z4), I z5, I z6, .slice A3 n3 a3, .int .u32 (z8 : Int), I z9, .slice G3 m3 c3] 29)
  have hX3 := Cel.new w2 29 #[I z0, I z1, I z2, I z3, .string (str z4), I z5, I z6, .slice A3 n3 a3, .int .u32 (z8 : Int), I z9, .slice G3 m3 c3]
  have hx3 := py.px.later (bel_new w2 (.cells #[I z0, I z1, I z2, I z3, .string (str z4), I z5, I z6, .slice A3 n3 a3, .int .u32 (z8 : Int), I z9, .slice G3 m3 c3] 29))
  have hre' := hre _ (h.later b3)
  clear hde hre py hb2
  go_wp2_with fail
  refine hre'.mono ?_
  rintro e w4 ⟨⟨A4, n4, a4, G4, m4, c4, rfl, py⟩, hb4⟩
  have hy4 := py.px
  have hx4 := hx3.later hb4
  have hn3 := hx4.b.len
  have hn4 := hy4.b.len
  have hm3 := hx4.g.len
  have hm4 := hy4.g.len
  simp only at hn3 hn4 hm3 hm4
  obtain rfl : n4 = n3 := by omega
  obtain rfl : m4 = m3 := by omega
  have b4 := b3.trans (hb4.mono b3.size)
  have b5 := b4.alloc b4.size (.cells #[I z0, I z1, I z2, I z3, .string (str z4), I z5, I z6, .slice A4 n4 a4, .int .u32 (z8 : Int), I z9, .slice G4 m4 c4] 29)
  have hX5 := Cel.on (Cel.on hX3 hb4) (bel_new w4 (.cells #[I z0, I z1, I z2, I z3, .string (str z4), I z5, I z6, .slice A4 n4 a4, .int .u32 (z8 : Int), I z9, .slice G4 m4 c4] 29))
  have hY5 := Cel.new w4 29 #[I z0, I z1, I z2, I z3, .string (str z4), I z5, I z6, .slice A4 n4 a4, .int .u32 (z8 : Int), I z9, .slice G4 m4 c4]
  have hsame := same_any z0 z1 z2 z3 z4 z5 z6 z7 z8 z9 z10 A3 A4 n4 a3 a4 G3 G4 m4 c3 c4 _ (hx4.later (bel_new w4 (.cells #[I z0, I z1, I z2, I z3, .string (str z4), I z5, I z6, .slice A4 n4 a4, .int .u32 (z8 : Int), I z9, .slice G4 m4 c4] 29))) (hy4.later (bel_new w4 (.cells #[I z0, I z1, I z2, I z3, .string (str z4), I z5, I z6, .slice A4 n4 a4, .int .u32 (z8 : Int), I z9, .slice G4 m4 c4] 29))) (by omega)
  have c0 := hX5.cell 0
  have c1 := hX5.cell 1
  have c2 := hX5.cell 2
  have c3 := hX5.cell 3
  have c4 := hX5.cell 4
  have c5 := hX5.cell 5
  have c6 := hX5.cell 6
  have c7 := hX5.cell 7
  have c8 := hX5.cell 8
  have c9 := hX5.cell 9
  have c10 := hX5.cell 10
  simp only [List.getElem?_toArray, List.getElem?_cons_zero, List.getElem?_cons_succ] at c0 c1 c2 c3 c4 c5 c6 c7 c8 c9 c10
  clear hre' b3 hX3 hx3 hb4 py hy4 hx4 hn3 hn4 hm3 hm4 b4 hX5 hY5 h hga
  go_wp2_with fail
  refine hsame.mono ?_
  rintro e w6 ⟨rfl, hb6⟩
  clear hsame c0 c1 c2 c3 c4 c5 c6 c7 c8 c9 c10
  have b6 := b5.trans (hb6.mono b5.size)
  clear b5 hb6
  go_wp2_with fail
  refine (lives_any w6).mono ?_
  rintro e w7 ⟨rfl, hb7⟩
  go_wp2
  go_ret
  exact ⟨rfl, b6.trans (hb7.mono b6.size)⟩
end Go.Proofs.Ytjjfamkljcipgaa.Pdu
