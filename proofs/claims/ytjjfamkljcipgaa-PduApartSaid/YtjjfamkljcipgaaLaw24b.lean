/-
  Chapter 24's laws: small; PduBack.
-/
import Derived.Test.YtjjfamkljcipgaaLaw24a
import Derived.Test.YtjjfamkljcipgaaRef24s
namespace Go.Proofs.Ytjjfamkljcipgaa.Pdu
open Go.RowKit Go.Proofs.Ytjjfamkljcipgaa.Row

/-- a unit that is small enough to be checked -/
def sml (p : Pd) : Prop := p.na.length ≤ 300 ∧ p.da.length ≤ 2000 ∧ p.ga.length ≤ 100
set_option maxRecDepth 100000 in
set_option maxHeartbeats 4000000 in
theorem small_yes (kd sr nm cl : Int) (na : List Byte) (sz of : Int) (da : List Byte) (su : Nat) (co : Int) (ga : List R) (A : Option Addr) (n a : Nat) (G : Option Addr) (m c : Nat) (w : World) (h : Px w ⟨kd, sr, nm, cl, na, sz, of, da, su, co, ga⟩ A n a G m c) (hs : sml ⟨kd, sr, nm, cl, na, sz, of, da, su, co, ga⟩) :
    Calls Try.prog 8 #[.agg #[I kd, I sr, I nm, I cl, .string (str na), I sz, I of, .slice A n a, .int .u32 (su : Int), I co, .slice G m c]] w fun e w' => e = .returned (.bool true) ∧ Below w.heap.size w w' := by
  have hb0 := bel_new w (.cells #[I kd, I sr, I nm, I cl, .string (str na), I sz, I of, .slice A n a, .int .u32 (su : Int), I co, .slice G m c] 29)
  obtain ⟨h1, h2, h3⟩ := hs
  have hda := h.b.len
  have hga := h.g.len
  simp only at hda hga h1 h2 h3
  have hsz := str_size na
  obtain ⟨N, hN⟩ : ∃ N, na.length = N := ⟨_, rfl⟩
  rw [hN] at hsz h1
  have t1 : decide ((N : Int) ≤ 300) = true := decide_eq_true (by omega)
  have t2 : decide ((n : Int) ≤ 2000) = true := decide_eq_true (by omega)
  have t3 : decide ((m : Int) ≤ 100) = true := decide_eq_true (by omega)
  have t4 : decide (N ≤ 300) = true := decide_eq_true (by omega)
  have t5 : decide (n ≤ 2000) = true := decide_eq_true (by omega)
  have t6 : decide (m ≤ 100) = true := decide_eq_true (by omega)
  clear h h1 h2 h3 hda hga hN
  go_enter Try.func8, Try.ntmps8
  go_wp2
  go_ret
  exact ⟨rfl, hb0⟩
set_option maxRecDepth 100000 in
set_option maxHeartbeats 4000000 in
theorem small_no (kd sr nm cl : Int) (na : List Byte) (sz of : Int) (da : List Byte) (su : Nat) (co : Int) (ga : List R) (A : Option Addr) (n a : Nat) (G : Option Addr) (m c : Nat) (w : World) (h : Px w ⟨kd, sr, nm, cl, na, sz, of, da, su, co, ga⟩ A n a G m c) (hs : ¬ sml ⟨kd, sr, nm, cl, na, sz, of, da, su, co, ga⟩) :
    Calls Try.prog 8 #[.agg #[I kd, I sr, I nm, I cl, .string (str na), I sz, I of, .slice A n a, .int .u32 (su : Int), I co, .slice G m c]] w fun e w' => e = .returned (.bool false) ∧ Below w.heap.size w w' := by
  have hb0 := bel_new w (.cells #[I kd, I sr, I nm, I cl, .string (str na), I sz, I of, .slice A n a, .int .u32 (su : Int), I co, .slice G m c] 29)
  have hda := h.b.len
  have hga := h.g.len
  have hsz := str_size na
  unfold sml at hs
  simp only at hda hga hs
  obtain ⟨N, hN⟩ : ∃ N, na.length = N := ⟨_, rfl⟩
  rw [hN] at hsz hs
  by_cases h1 : N ≤ 300
  case neg =>
    have t1 : decide ((N : Int) ≤ 300) = false := decide_eq_false (by omega)
    have t4 : decide (N ≤ 300) = false := decide_eq_false (by omega)
    clear h hs hda hga hN h1
    go_enter Try.func8, Try.ntmps8
    go_wp2
    go_ret
    exact ⟨rfl, hb0⟩
  have t1 : decide ((N : Int) ≤ 300) = true := decide_eq_true (by omega)
  have t4 : decide (N ≤ 300) = true := decide_eq_true (by omega)
  by_cases h2 : n ≤ 2000
  case neg =>
    have t2 : decide ((n : Int) ≤ 2000) = false := decide_eq_false (by omega)
    have t5 : decide (n ≤ 2000) = false := decide_eq_false (by omega)
    clear h hs hda hga hN h1 h2
    go_enter Try.func8, Try.ntmps8
    go_wp2
    go_ret
    exact ⟨rfl, hb0⟩
  have t2 : decide ((n : Int) ≤ 2000) = true := decide_eq_true (by omega)
  have t5 : decide (n ≤ 2000) = true := decide_eq_true (by omega)
  have h3 : ¬ m ≤ 100 := fun h3 => hs ⟨h1, by omega, by omega⟩
  have t3 : decide ((m : Int) ≤ 100) = false := decide_eq_false (by omega)
  have t6 : decide (m ≤ 100) = false := decide_eq_false (by omega)
  clear h hs hda hga hN h1 h2 h3
  go_enter Try.func8, Try.ntmps8
  go_wp2
  go_ret
  exact ⟨rfl, hb0⟩

theorem en_no {p : Pd} (h : ok p = false) : enO p = [] ∧ enE p = 1 := by simp [enO, enE, h]
theorem en_yes {p : Pd} (h : ok p = true) : enO p = enc p ∧ enE p = 0 := by simp [enO, enE, h]
theorem enc_len {p : Pd} (h : ok p = true) (hs : sml p) : (enc p).length ≤ 5000 := by
  obtain ⟨h1, h2, hc⟩ := ok_cases h
  obtain ⟨s1, s2, s3⟩ := hs
  have q1 := encI_len (n := (p.na.length : Int)) (by omega)
  have q2 := encI_len (n := (p.da.length : Int)) (by omega)
  have q3 := encI_len (n := (p.ga.length : Int)) (by omega)
  unfold enc hd bd
  rcases hc with ⟨k, c1, c2, c3, _⟩ | ⟨k, c1, _⟩ | ⟨k, c1, c2, c3, _⟩ | ⟨k, c1, _⟩ | ⟨k, c1, _⟩ | ⟨k, _⟩
  · have q4 := encI_len (n := p.sz) (by omega)
    simp only [k, if_true, List.length_append, be_len, encB]
    omega
  · have hl := of_decide_eq_true c1
    have q4 := encI_len (n := p.of) (by omega)
    simp only [k, if_true, if_false, (eq_false (by decide) : ((2 : Int) = 1) = False), List.length_append, be_len, encB]
    omega
  · have q4 := encI_len (n := p.sz) (by omega)
    simp only [k, if_true, if_false, (eq_false (by decide) : ((3 : Int) = 1) = False), (eq_false (by decide) : ((3 : Int) = 2) = False), List.length_append, be_len]
    omega
  · have hl := Bool.and_eq_true_iff.1 c1
    have h3 := of_decide_eq_true hl.1
    have q5 := gs_len (gok_bounds (by omega) hl.2)
    simp only [k, if_true, if_false, (eq_false (by decide) : ((4 : Int) = 1) = False), (eq_false (by decide) : ((4 : Int) = 2) = False), (eq_false (by decide) : ((4 : Int) = 3) = False), List.length_append, be_len]
    omega
  · simp only [k, if_true, if_false, (eq_false (by decide) : ((5 : Int) = 1) = False), (eq_false (by decide) : ((5 : Int) = 2) = False), (eq_false (by decide) : ((5 : Int) = 3) = False), (eq_false (by decide) : ((5 : Int) = 4) = False), List.length_append, be_len]
    omega
  · rw [if_neg (by omega), if_neg (by omega), if_neg (by omega), if_neg (by omega), if_neg (by omega)]
    simp only [List.length_append, be_len, List.length_nil]
    omega
theorem de_enc {p : Pd} (h : ok p = true) (hs : p.su < 4294967296) : deP (enc p) = p ∧ deE (enc p) = 0 := by
  have e := dd_enc h hs
  simp [deP, deE, e]
theorem de_more {p : Pd} {r : List Byte} (h : ok p = true) (hs : p.su < 4294967296) (hr : r ≠ []) : deE (enc p ++ r) = 4 := by
  have e := dd_more h hs hr
  simp [deE, e]

set_option maxRecDepth 100000 in
set_option maxHeartbeats 8000000 in
theorem back_any (kd sr nm cl : Int) (na : List Byte) (sz of : Int) (da : List Byte) (su : Nat) (co : Int) (ga : List R) (A : Option Addr) (n a : Nat) (G : Option Addr) (m c : Nat) (w : World) (h : Px w ⟨kd, sr, nm, cl, na, sz, of, da, su, co, ga⟩ A n a G m c) :
    Calls Try.prog 5 #[.agg #[I kd, I sr, I nm, I cl, .string (str na), I sz, I of, .slice A n a, .int .u32 (su : Int), I co, .slice G m c]] w fun e w' => e = .returned (.bool true) ∧ Below w.heap.size w w' := by
  have b1 := bel_new w (.cells #[I kd, I sr, I nm, I cl, .string (str na), I sz, I of, .slice A n a, .int .u32 (su : Int), I co, .slice G m c] 29)
  have hC1 := Cel.new w 29 #[I kd, I sr, I nm, I cl, .string (str na), I sz, I of, .slice A n a, .int .u32 (su : Int), I co, .slice G m c]
  have h1 := h.later b1
  by_cases hs : sml ⟨kd, sr, nm, cl, na, sz, of, da, su, co, ga⟩
  case neg =>
    have hsm := small_no kd sr nm cl na sz of da su co ga A n a G m c _ h1 hs
    clear h hs h1 hC1
    go_enter Try.func5, Try.ntmps5
    go_wp2_with fail
    refine hsm.mono ?_
    rintro e w2 ⟨rfl, hb2⟩
    clear hsm
    go_wp2_with fail
    refine (lives_any w2).mono ?_
    rintro e w3 ⟨rfl, hb3⟩
    go_wp2
    go_ret
    have b2 := b1.trans (hb2.mono b1.size)
    exact ⟨rfl, b2.trans (hb3.mono b2.size)⟩
  have hsm := small_yes kd sr nm cl na sz of da su co ga A n a G m c _ h1 hs
  have HS := Lib.hid hs
  have hsu := h.s
  simp only at hsu
  clear h hs
  go_enter Try.func5, Try.ntmps5
  go_wp2_with fail
  refine hsm.mono ?_
  rintro e w2 ⟨rfl, hb2⟩
  have b2 := b1.trans (hb2.mono b1.size)
  have hC2 := Cel.on hC1 hb2
  have h2 := h1.later hb2
  clear hsm b1 hC1 h1 hb2
  have hen := pencode_any kd sr nm cl na sz of da su co ga A n a G m c w2 h2
  have c0 := hC2.cell 0
  have c1 := hC2.cell 1
  have c2 := hC2.cell 2
  have c3 := hC2.cell 3
  have c4 := hC2.cell 4
  have c5 := hC2.cell 5
  have c6 := hC2.cell 6
  have c7 := hC2.cell 7
  have c8 := hC2.cell 8
  have c9 := hC2.cell 9
  have c10 := hC2.cell 10
  simp only [List.getElem?_toArray, List.getElem?_cons_zero, List.getElem?_cons_succ] at c0 c1 c2 c3 c4 c5 c6 c7 c8 c9 c10
  cases hok : ok ⟨kd, sr, nm, cl, na, sz, of, da, su, co, ga⟩ with
  | false =>
    obtain ⟨q1, q2⟩ := en_no hok
    rw [q1, q2] at hen
    clear q1 q2
    go_wp2_with fail
    refine hen.mono ?_
    rintro e w3 ⟨⟨A2, n2, a2, rfl, hB⟩, hb3⟩
    have hn2 := hB.1.len
    simp only [List.length_nil] at hn2
    subst hn2
    have b3 := b2.trans (hb3.mono b2.size)
    have hC3 := Cel.on hC2 hb3
    have hv := pvalid_any kd sr nm cl na sz of da su co ga A n a G m c w3 (h2.later hb3)
    rw [hok] at hv
    clear hen c0 c1 c2 c3 c4 c5 c6 c7 c8 c9 c10 b2 hC2 h2 hb3 hB hok
    have c0 := hC3.cell 0
    have c1 := hC3.cell 1
    have c2 := hC3.cell 2
    have c3 := hC3.cell 3
    have c4 := hC3.cell 4
    have c5 := hC3.cell 5
    have c6 := hC3.cell 6
    have c7 := hC3.cell 7
    have c8 := hC3.cell 8
    have c9 := hC3.cell 9
    have c10 := hC3.cell 10
    simp only [List.getElem?_toArray, List.getElem?_cons_zero, List.getElem?_cons_succ] at c0 c1 c2 c3 c4 c5 c6 c7 c8 c9 c10
    clear hC3
    go_wp2_with fail
    refine hv.mono ?_
    rintro e w4 ⟨rfl, hb4⟩
    clear hv
    go_wp2_with fail
    refine (lives_any w4).mono ?_
    rintro e w5 ⟨rfl, hb5⟩
    have b4 := b3.trans (hb4.mono b3.size)
    go_wp2
    go_ret
    exact ⟨rfl, b4.trans (hb5.mono b4.size)⟩
  | true =>
    obtain ⟨q1, q2⟩ := en_yes hok
    rw [q1, q2] at hen
    clear q1 q2
    go_wp2_with fail
    refine hen.mono ?_
    rintro e w3 ⟨⟨A2, n2, a2, rfl, hB⟩, hb3⟩
    have b3 := b2.trans (hb3.mono b2.size)
    have hC3 := Cel.on hC2 hb3
    have h3 := h2.later hb3
    have hl := enc_len hok HS.out
    have hde := pdec_any A2 _ n2 a2 w3 hB.1 (by rw [← hB.1.len]; omega)
    obtain ⟨q1, q2⟩ := de_enc hok hsu
    rw [q1, q2] at hde
    unfold DO at hde
    simp only at hde
    clear hen c0 c1 c2 c3 c4 c5 c6 c7 c8 c9 c10 b2 hC2 h2 hb3 hB hl q1 q2 hok
    go_wp2_with fail
    refine hde.mono ?_
    rintro e w4 ⟨⟨A3, n3, a3, G3, m3, c3, rfl, py⟩, hb4⟩
    have hpx := py.px
    have hn3 := hpx.b.len
    have hn4 := h3.b.len
    have hm3 := hpx.g.len
    have hm4 := h3.g.len
    simp only at hn3 hn4 hm3 hm4
    obtain rfl : n3 = n := by omega
    obtain rfl : m3 = m := by omega
    have hm1 : m3 ≤ 1000000 := by have := HS.out.2.2; simp only at this; omega
    have b4 := b3.trans (hb4.mono b3.size)
    have b5 := b4.alloc b4.size (.cells #[I kd, I sr, I nm, I cl, .string (str na), I sz, I of, .slice A3 n3 a3, .int .u32 (su : Int), I co, .slice G3 m3 c3] 29)
    have hC5 := Cel.on (Cel.on hC3 hb4) (bel_new w4 (.cells #[I kd, I sr, I nm, I cl, .string (str na), I sz, I of, .slice A3 n3 a3, .int .u32 (su : Int), I co, .slice G3 m3 c3] 29))
    have h5 := (h3.later hb4).later (bel_new w4 (.cells #[I kd, I sr, I nm, I cl, .string (str na), I sz, I of, .slice A3 n3 a3, .int .u32 (su : Int), I co, .slice G3 m3 c3] 29))
    have hx5 := hpx.later (bel_new w4 (.cells #[I kd, I sr, I nm, I cl, .string (str na), I sz, I of, .slice A3 n3 a3, .int .u32 (su : Int), I co, .slice G3 m3 c3] 29))
    have hsame := same_any kd sr nm cl na sz of da su co ga A3 A n3 a3 a G3 G m3 c3 c _ hx5 h5 hm1
    have c0 := hC5.cell 0
    have c1 := hC5.cell 1
    have c2 := hC5.cell 2
    have c3 := hC5.cell 3
    have c4 := hC5.cell 4
    have c5 := hC5.cell 5
    have c6 := hC5.cell 6
    have c7 := hC5.cell 7
    have c8 := hC5.cell 8
    have c9 := hC5.cell 9
    have c10 := hC5.cell 10
    simp only [List.getElem?_toArray, List.getElem?_cons_zero, List.getElem?_cons_succ] at c0 c1 c2 c3 c4 c5 c6 c7 c8 c9 c10
    clear hde b3 hC3 h3 hb4 py hpx hn3 hn4 hm3 hm4 b4 hC5 h5 hx5
    go_wp2_with fail
    refine hsame.mono ?_
    rintro e w6 ⟨rfl, hb6⟩
    clear hsame c0 c1 c2 c3 c4 c5 c6 c7 c8 c9 c10
    have b6 := b5.trans (hb6.mono b5.size)
    clear b5 hb6
    go_wp2_with fail
    refine (lives_any w6).mono ?_
    rintro e w7 ⟨rfl, hb7⟩
    go_wp2
    go_ret
    exact ⟨rfl, b6.trans (hb7.mono b6.size)⟩
end Go.Proofs.Ytjjfamkljcipgaa.Pdu
