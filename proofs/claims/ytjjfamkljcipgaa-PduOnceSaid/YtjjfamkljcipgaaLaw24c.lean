/-
  Chapter 24's law PduOnce.
-/
import Derived.Test.YtjjfamkljcipgaaLaw24b
namespace Go.Proofs.Ytjjfamkljcipgaa.Pdu
open Go.RowKit Go.Proofs.Ytjjfamkljcipgaa.Row

theorem len_law (n : Nat) (h : ¬ n ≤ 2000) : decide ((2000 : Int) < (n : Int)) = true ∧ decide (2000 < n) = true := ⟨decide_eq_true (by omega), decide_eq_true (by omega)⟩
theorem len_law' (n : Nat) (h : n ≤ 2000) : decide ((2000 : Int) < (n : Int)) = false ∧ decide (2000 < n) = false := ⟨decide_eq_false (by omega), decide_eq_false (by omega)⟩
set_option maxRecDepth 100000 in
set_option maxHeartbeats 8000000 in
theorem once_any (a : Option Addr) (l : List Byte) (n c : Nat) (w : World) (h : Bx w a l n c) :
    Calls Try.prog 6 #[.slice a n c] w fun e w' => e = .returned (.bool true) ∧ Below w.heap.size w w' := by
  by_cases hn : n ≤ 2000
  case neg =>
    obtain ⟨t1, t2⟩ := len_law n hn
    clear h hn
    go_enter Try.func6, Try.ntmps6
    go_wp2_with fail
    refine (lives_any w).mono ?_
    rintro e w2 ⟨rfl, hb2⟩
    go_wp2
    go_ret
    exact ⟨rfl, hb2⟩
  obtain ⟨t1, t2⟩ := len_law' n hn
  have hde := pdec_any a l n c w h (by omega)
  cases hd : dd l with
  | none =>
    rw [show deP l = Pd.none by simp [deP, hd], show deE l = 4 by simp [deE, hd]] at hde
    unfold DO Pd.none at hde
    simp only at hde
    clear h hn hd
    go_enter Try.func6, Try.ntmps6
    go_wp2_with fail
    refine hde.mono ?_
    rintro e w2 ⟨⟨A3, n3, a3, G3, m3, c3, rfl, py⟩, hb2⟩
    have hpx := py.px
    have hn3 := hpx.b.len
    have hm3 := hpx.g.len
    simp only [List.length_nil] at hn3 hm3
    subst hn3 hm3
    have b3 := hb2.alloc hb2.size (.cells #[I 0, I 0, I 0, I 0, .string (str []), I 0, I 0, .slice A3 0 a3, .int .u32 0, I 0, .slice G3 0 c3] 29)
    have hx3 := hpx.later (bel_new w2 (.cells #[I 0, I 0, I 0, I 0, .string (str []), I 0, I 0, .slice A3 0 a3, .int .u32 0, I 0, .slice G3 0 c3] 29))
    have hsame := same_any 0 0 0 0 [] 0 0 [] 0 0 [] A3 none 0 a3 0 G3 none 0 c3 0 _ hx3 ⟨Bx.zero _, Gx.zero _, (show (0 : Nat) < 4294967296 by decide)⟩ (by decide)
    clear hde hb2 py hpx hx3
    go_wp2_with fail
    refine hsame.mono ?_
    rintro e w4 ⟨rfl, hb4⟩
    clear hsame
    have b4 := b3.trans (hb4.mono b3.size)
    clear b3 hb4
    go_wp2_with fail
    refine (lives_any w4).mono ?_
    rintro e w5 ⟨rfl, hb5⟩
    go_wp2
    go_ret
    exact ⟨rfl, b4.trans (hb5.mono b4.size)⟩
  | some p =>
    obtain ⟨hok, hen⟩ := dd_some hd
    rw [show deP l = p by simp [deP, hd], show deE l = 0 by simp [deE, hd]] at hde
    obtain ⟨kd, sr, nm, cl, na, sz, of, da, su, co, ga⟩ := p
    unfold DO at hde
    simp only at hde
    clear hd hn
    go_enter Try.func6, Try.ntmps6
    go_wp2_with fail
    refine hde.mono ?_
    rintro e w2 ⟨⟨A3, n3, a3, G3, m3, c3, rfl, py⟩, hb2⟩
    have b3 := hb2.alloc hb2.size (.cells #[I kd, I sr, I nm, I cl, .string (str na), I sz, I of, .slice A3 n3 a3, .int .u32 (su : Int), I co, .slice G3 m3 c3] 29)
    have hC3 := Cel.new w2 29 #[I kd, I sr, I nm, I cl, .string (str na), I sz, I of, .slice A3 n3 a3, .int .u32 (su : Int), I co, .slice G3 m3 c3]
    have hx3 := py.px.later (bel_new w2 (.cells #[I kd, I sr, I nm, I cl, .string (str na), I sz, I of, .slice A3 n3 a3, .int .u32 (su : Int), I co, .slice G3 m3 c3] 29))
    have hen2 := pencode_any kd sr nm cl na sz of da su co ga A3 n3 a3 G3 m3 c3 _ hx3
    obtain ⟨q1, q2⟩ := en_yes hok
    rw [q1, q2, hen] at hen2
    have c0 := hC3.cell 0
    have c1 := hC3.cell 1
    have c2 := hC3.cell 2
    have c3 := hC3.cell 3
    have c4 := hC3.cell 4
    have c5 := hC3.cell 5
    have c6 := hC3.cell 6
    have c7 := hC3.cell 7
    have c8 := hC3.cell 8
    have c9 := hC3.cell 9
    have c10 := hC3.cell 10
    simp only [List.getElem?_toArray, List.getElem?_cons_zero, List.getElem?_cons_succ] at c0 c1 c2 c3 c4 c5 c6 c7 c8 c9 c10
    clear hde py hx3 q1 q2 hok hen
    go_wp2_with fail
    refine hen2.mono ?_
    rintro e w4 ⟨⟨A4, n4, a4, rfl, hB⟩, hb4⟩
    have b4 := b3.trans (hb4.mono b3.size)
    have cv1 := hB.1.conv (Below.refl _ _)
    have cv2 := h.conv b4
    have e1 : ((str l).toList == (str l).toList) = true := by simp
    clear hen2 c0 c1 c2 c3 c4 c5 c6 c7 c8 c9 c10 hC3 b3 hb4 hb2 hB h
    go_wp2_with fail
    refine (lives_any w4).mono ?_
    rintro e w5 ⟨rfl, hb5⟩
    go_wp2
    go_ret
    exact ⟨rfl, b4.trans (hb5.mono b4.size)⟩
end Go.Proofs.Ytjjfamkljcipgaa.Pdu
