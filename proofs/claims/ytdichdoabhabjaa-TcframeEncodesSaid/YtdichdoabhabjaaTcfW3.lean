/-
  The walk of package tcframe's Decode.
-/
import Derived.Test.YtdichdoabhabjaaTcfW2
import Derived.Test.YtdichdoabhabjaaPacW4
namespace Go.Proofs.Ytdichdoabhabjaa.Tcf
open Go.RowKit Go.Proofs.Ytdichdoabhabjaa.Pac

theorem tde_results {tmps : Array Value} {W : World} {g : Nat} {e : Int} {byp con : Bool} {cr ch sq : Int} {v : Value} (h2 : tmps.getD 2 undef = .pointer (some ⟨g, 0, none⟩)) (h3 : tmps.getD 3 undef = .int .i64 e)
    (hC : Cel W g 24 #[.bool byp, .bool con, .int .i64 cr, .int .i64 ch, .int .i64 sq, v]) :
    (results Try.f15 tmps).run Try.prog W = .ok (.tuple #[.agg #[.bool byp, .bool con, .int .i64 cr, .int .i64 ch, .int .i64 sq, v], .int .i64 e]) W := by
  have c0 := hC.cell 0
  have c1 := hC.cell 1
  have c2 := hC.cell 2
  have c3 := hC.cell 3
  have c4 := hC.cell 4
  have c5 := hC.cell 5
  simp at c0 c1 c2 c3 c4 c5
  simp only [Array.getD_eq_getD_getElem?] at h2 h3
  simp [results, Try.results15, go_sem, h2, h3, c0, c1, c2, c3, c4, c5]

theorem tcheck16_len (a : Option Addr) (l : List Byte) (n c B : Nat) (w : World) (hl : l.length = n) (hb : Bs w B a l) (hn : n ≤ c) (hc : c ≤ maxLen) :
    Calls Try.prog 30 #[.slice a n c] w fun e w' => e = .returned (.bool (ck16 l)) ∧ ∃ k, w' = w.drewN k := by
  subst hl
  exact check16_any a l c B w hb hn hc
theorem bel_drewN (B : Nat) (w : World) (k : Nat) : Below B w (w.drewN k) := ⟨rfl, rfl, rfl, Nat.le_refl _, fun _ _ => rfl⟩

set_option maxHeartbeats 2000000 in
theorem tdecode_short (a : Option Addr) (l : List Byte) (n c : Nat) (w : World) (hl : Hid (l.length = n)) (_hb : Bs w w.heap.size a l) (_hnc : n ≤ c) (_hcm : c ≤ maxLen) (h : n < 8) :
    Calls Try.prog 15 #[.slice a n c] w fun e w' => e = .returned (.tuple #[.agg #[.bool false, .bool false, .int .i64 0, .int .i64 0, .int .i64 0, .slice none 0 0], .int .i64 3]) ∧ Below w.heap.size w w' := by
  have b0 := bel_new w (.cells #[.bool false, .bool false, .int .i64 0, .int .i64 0, .int .i64 0, .slice none 0 0] 24)
  have hR0 := Cel.new w 24 #[.bool false, .bool false, .int .i64 0, .int .i64 0, .int .i64 0, .slice none 0 0]
  have hln := hl.out
  have g1 : decide ((n : Int) < 8) = true := by simp; omega
  have g2 : decide (n < 8) = true := by simp; omega
  clear hl _hb _hnc _hcm hln
  have hR1 := hR0
  have bel1 := b0
  have c0 := hR1.cell 0
  have c1 := hR1.cell 1
  have c2 := hR1.cell 2
  have c3 := hR1.cell 3
  have c4 := hR1.cell 4
  have c5 := hR1.cell 5
  simp at c0 c1 c2 c3 c4 c5
  have f0 := hR1.free 0
  have f1 := hR1.free 1
  have f2 := hR1.free 2
  have f3 := hR1.free 3
  have f4 := hR1.free 4
  have f5 := hR1.free 5
  go_enter Try.func15, Try.ntmps15
  go_wp2
  exact bodyPost_ret (tde_results rfl rfl hR1) rfl ⟨rfl, bel1⟩

set_option maxHeartbeats 2000000 in
theorem tdecode_long (a : Option Addr) (l : List Byte) (n c : Nat) (w : World) (hl : Hid (l.length = n)) (_hb : Bs w w.heap.size a l) (_hnc : n ≤ c) (_hcm : c ≤ maxLen) (h : 1024 < n) :
    Calls Try.prog 15 #[.slice a n c] w fun e w' => e = .returned (.tuple #[.agg #[.bool false, .bool false, .int .i64 0, .int .i64 0, .int .i64 0, .slice none 0 0], .int .i64 6]) ∧ Below w.heap.size w w' := by
  have b0 := bel_new w (.cells #[.bool false, .bool false, .int .i64 0, .int .i64 0, .int .i64 0, .slice none 0 0] 24)
  have hR0 := Cel.new w 24 #[.bool false, .bool false, .int .i64 0, .int .i64 0, .int .i64 0, .slice none 0 0]
  have hln := hl.out
  have g1 : decide ((n : Int) < 8) = false := by simp; omega
  have g2 : decide (n < 8) = false := by simp; omega
  have g3 : decide ((1024 : Int) < (n : Int)) = true := by simp; omega
  have g4 : decide (1024 < n) = true := by simp; omega
  clear hl _hb _hnc _hcm hln
  have hR1 := hR0
  have bel1 := b0
  have c0 := hR1.cell 0
  have c1 := hR1.cell 1
  have c2 := hR1.cell 2
  have c3 := hR1.cell 3
  have c4 := hR1.cell 4
  have c5 := hR1.cell 5
  simp at c0 c1 c2 c3 c4 c5
  have f0 := hR1.free 0
  have f1 := hR1.free 1
  have f2 := hR1.free 2
  have f3 := hR1.free 3
  have f4 := hR1.free 4
  have f5 := hR1.free 5
  go_enter Try.func15, Try.ntmps15
  go_wp2
  exact bodyPost_ret (tde_results rfl rfl hR1) rfl ⟨rfl, bel1⟩

set_option maxHeartbeats 2000000 in
theorem tdecode_sum (a : Option Addr) (l : List Byte) (n c : Nat) (w : World) (hl : Hid (l.length = n)) (hb : Bs w w.heap.size a l) (hnc : n ≤ c) (hcm : c ≤ maxLen) (h : 8 ≤ n) (h2 : n ≤ 1024) (hck : ck16 l = false) :
    Calls Try.prog 15 #[.slice a n c] w fun e w' => e = .returned (.tuple #[.agg #[.bool false, .bool false, .int .i64 0, .int .i64 0, .int .i64 0, .slice none 0 0], .int .i64 5]) ∧ Below w.heap.size w w' := by
  have b0 := bel_new w (.cells #[.bool false, .bool false, .int .i64 0, .int .i64 0, .int .i64 0, .slice none 0 0] 24)
  have hR0 := Cel.new w 24 #[.bool false, .bool false, .int .i64 0, .int .i64 0, .int .i64 0, .slice none 0 0]
  have hln := hl.out
  have g1 : decide ((n : Int) < 8) = false := by simp; omega
  have g2 : decide (n < 8) = false := by simp; omega
  have g3 : decide ((1024 : Int) < (n : Int)) = false := by simp; omega
  have g4 : decide (1024 < n) = false := by simp; omega
  have hs := tcheck16_len a l n c w.heap.size (w.alloc (.cells #[.bool false, .bool false, .int .i64 0, .int .i64 0, .int .i64 0, .slice none 0 0] 24)) hln (hb.below b0) hnc hcm
  rw [hck] at hs
  clear hck hl hb hnc hcm hln
  go_enter Try.func15, Try.ntmps15
  go_wp2_with fail
  refine hs.mono ?_
  rintro e w1 ⟨rfl, k, rfl⟩
  have hR1 := hR0.draws k
  have bel1 := b0.trans (bel_drewN _ _ k)
  have c0 := hR1.cell 0
  have c1 := hR1.cell 1
  have c2 := hR1.cell 2
  have c3 := hR1.cell 3
  have c4 := hR1.cell 4
  have c5 := hR1.cell 5
  simp at c0 c1 c2 c3 c4 c5
  have f0 := hR1.free 0
  have f1 := hR1.free 1
  have f2 := hR1.free 2
  have f3 := hR1.free 3
  have f4 := hR1.free 4
  have f5 := hR1.free 5
  clear hs hR0 b0
  go_wp2
  exact bodyPost_ret (tde_results rfl rfl (putAll_cel hR1 false false 0 0 0 (.slice none 0 0))) rfl ⟨rfl, putAll_below bel1 (Nat.le_refl _) _ _ _ _ _ _⟩

set_option maxHeartbeats 2000000 in
theorem tdecode_zero (a : Option Addr) (l : List Byte) (n c : Nat) (w : World) (hl : Hid (l.length = n)) (hb : Bs w w.heap.size a l) (hn : a = none → c = 0) (hnc : n ≤ c) (hcm : c ≤ maxLen) (h : 8 ≤ n) (h2 : n ≤ 1024) (hck : ck16 l = true) (hz : zr l = false) :
    Calls Try.prog 15 #[.slice a n c] w fun e w' => e = .returned (.tuple #[.agg #[.bool false, .bool false, .int .i64 0, .int .i64 0, .int .i64 0, .slice none 0 0], .int .i64 4]) ∧ Below w.heap.size w w' := by
  have b0 := bel_new w (.cells #[.bool false, .bool false, .int .i64 0, .int .i64 0, .int .i64 0, .slice none 0 0] 24)
  have hR0 := Cel.new w 24 #[.bool false, .bool false, .int .i64 0, .int .i64 0, .int .i64 0, .slice none 0 0]
  have hln := hl.out
  have g1 : decide ((n : Int) < 8) = false := by simp; omega
  have g2 : decide (n < 8) = false := by simp; omega
  have g3 : decide ((1024 : Int) < (n : Int)) = false := by simp; omega
  have g4 : decide (1024 < n) = false := by simp; omega
  have hs := tcheck16_len a l n c w.heap.size (w.alloc (.cells #[.bool false, .bool false, .int .i64 0, .int .i64 0, .int .i64 0, .slice none 0 0] 24)) hln (hb.below b0) hnc hcm
  rw [hck] at hs
  have hrh := fun W hB => treadHeader_any a l n c W hl hB hn hnc hcm (by omega)
  rw [hz] at hrh
  obtain ⟨b, off, rfl⟩ : ∃ b off, a = some ⟨b, off, none⟩ := by obtain ⟨b, off, h, _⟩ := hb (by omega); exact ⟨b, off, h⟩
  obtain ⟨m, hm⟩ : ∃ m, n = m + 7 := ⟨n - 7, by omega⟩
  have hsub := fun W (hB : Bs W W.heap.size (some ⟨b, off, none⟩) l) => Bs_sub hB rfl 5 (l.length - 7)
  have hd : (rd l).d = (l.drop 5).take (l.length - 7) := rfl
  have hdl : (rd l).d.length = m := by rw [rd_len (by omega)]; omega
  rw [← hd] at hsub
  obtain ⟨P, hP⟩ : ∃ P, P = rd l := ⟨_, rfl⟩
  rw [← hP] at hrh hsub hdl
  obtain ⟨byp, con, cr, ch, sq, d⟩ := P
  simp only at hrh hsub hdl
  have HL := Lib.hid hdl
  have HM := Lib.hid hm
  obtain ⟨c3, hc3⟩ : ∃ c3, c = c3 + 5 := ⟨c - 5, by omega⟩
  have hm0 : 1 ≤ m := by omega
  have hm1 : m ≤ 1017 := by omega
  have hmc : m + 2 ≤ c3 := by omega
  have q1 : (if c = 5 then (some ⟨b, off, none⟩ : Option Addr) else some ⟨b, off + 5, none⟩) = some ⟨b, off + 5, none⟩ := if_neg (by omega)
  have q2 : c - 5 = c3 := by omega
  have q3 : ((n : Int) - 2).toNat - 5 = m := by omega
  have q4 : (5 : Int) ≤ (n : Int) - 2 := by omega
  have q5 : (n : Int) - 2 ≤ (c : Int) := by omega
  clear hm hc3 hdl hd hln hP hck hz
  go_enter Try.func15, Try.ntmps15
  go_wp2_with fail
  refine hs.mono ?_
  rintro e w1 ⟨rfl, k, rfl⟩
  have hR1 := hR0.draws k
  have bel1 := b0.trans (bel_drewN _ _ k)
  have hB1 := (hb.below bel1).more bel1.size
  clear hs hR0 b0
  go_wp2_with fail
  refine (hrh _ hB1).mono ?_
  rintro e w2 ⟨rfl, hb2⟩
  have hR2 := Cel.later hR1 hb2
  have bel2 := bel1.trans (hb2.mono bel1.size)
  have hlt2 := hR2.lt
  clear hrh hb2 hR1 hB1 bel1
  obtain ⟨W3, hW3⟩ : ∃ W3, W3 = w2.alloc (.cells #[.bool byp, .bool con, .int .i64 cr, .int .i64 ch, .int .i64 sq, .slice none 0 0] 24) := ⟨_, rfl⟩
  have hP3 : Cel W3 w2.heap.size 24 #[.bool byp, .bool con, .int .i64 cr, .int .i64 ch, .int .i64 sq, .slice none 0 0] := by rw [hW3]; exact Cel.new _ _ _
  have bel3 : Below w2.heap.size w2 W3 := by rw [hW3]; exact bel_new _ _
  have hR3 := Cel.later hR2 bel3
  have bel3' := bel2.trans (bel3.mono bel2.size)
  have hB3 := (hb.below bel3').more bel3'.size
  have hcl := clone_any (some ⟨b, off + 5, none⟩) d m c3 W3 HL (hsub W3 hB3) (fun h => nomatch h) (by omega)
  clear bel2 hR2 bel3
  go_wp2_with fail
  rw [← hW3]
  refine hcl.mono ?_
  rintro e w5 ⟨v, rfl, hown, hb5⟩
  obtain ⟨A5, c5', rfl, _⟩ := hown.reads_len (n := m) HL.out
  have hR5 := Cel.later hR3 hb5
  have hP5 := Cel.later hP3 hb5
  have bel5 := bel3'.trans (hb5.mono bel3'.size)
  have hlP := hP3.lt
  clear hcl hR3 hB3 hW3
  have p0 := hP5.cell 0
  have p1 := hP5.cell 1
  have p2 := hP5.cell 2
  have p3 := hP5.cell 3
  have p4 := hP5.cell 4
  have p5 := hP5.cell 5
  simp at p0 p1 p2 p3 p4 p5
  have pf := hP5.free 5
  have hne : w.heap.size ≠ w2.heap.size := by omega
  have hne' : w2.heap.size ≠ w.heap.size := by omega
  have hO6 : Only [w2.heap.size] w5 (w5.setCell ⟨w2.heap.size, 5, none⟩ (.slice A5 m c5')) := (Only.refl _ _).put (.inl (by simp)) _
  have hR6 := hR5.only hO6 (by simpa using hne)
  have hP6 := hP5.put 5 (.slice A5 m c5')
  simp only [List.setIfInBounds_toArray, List.set_cons_zero, List.set_cons_succ] at hP6
  have hw6 := hown.only hO6 (fun i hi => by have := (hown.lt i hi).1; simp; omega)
  have bel6 := bel5.trans (hO6.below bel5.size (by simp; omega))
  have c0 := hR5.cell 0
  have c1 := hR5.cell 1
  have c2 := hR5.cell 2
  have c3 := hR5.cell 3
  have c4 := hR5.cell 4
  have c5 := hR5.cell 5
  simp at c0 c1 c2 c3 c4 c5
  have f0 := hR5.free 0
  have f1 := hR5.free 1
  have f2 := hR5.free 2
  have f3 := hR5.free 3
  have f4 := hR5.free 4
  have f5 := hR5.free 5
  go_wp2
  exact bodyPost_ret (tde_results rfl rfl (putAll_cel hR6 false false 0 0 0 (.slice none 0 0))) rfl ⟨rfl, putAll_below bel6 (Nat.le_refl _) _ _ _ _ _ _⟩

set_option maxHeartbeats 2000000 in
theorem tdecode_size (a : Option Addr) (l : List Byte) (n c : Nat) (w : World) (hl : Hid (l.length = n)) (hb : Bs w w.heap.size a l) (hn : a = none → c = 0) (hnc : n ≤ c) (hcm : c ≤ maxLen) (h : 8 ≤ n) (h2 : n ≤ 1024) (hck : ck16 l = true) (hz : zr l = true) (hsz : sz l ≠ n) :
    Calls Try.prog 15 #[.slice a n c] w fun e w' => e = .returned (.tuple #[.agg #[.bool false, .bool false, .int .i64 0, .int .i64 0, .int .i64 0, .slice none 0 0], .int .i64 4]) ∧ Below w.heap.size w w' := by
  have b0 := bel_new w (.cells #[.bool false, .bool false, .int .i64 0, .int .i64 0, .int .i64 0, .slice none 0 0] 24)
  have hR0 := Cel.new w 24 #[.bool false, .bool false, .int .i64 0, .int .i64 0, .int .i64 0, .slice none 0 0]
  have hln := hl.out
  have g1 : decide ((n : Int) < 8) = false := by simp; omega
  have g2 : decide (n < 8) = false := by simp; omega
  have g3 : decide ((1024 : Int) < (n : Int)) = false := by simp; omega
  have g4 : decide (1024 < n) = false := by simp; omega
  have hs := tcheck16_len a l n c w.heap.size (w.alloc (.cells #[.bool false, .bool false, .int .i64 0, .int .i64 0, .int .i64 0, .slice none 0 0] 24)) hln (hb.below b0) hnc hcm
  rw [hck] at hs
  have hrh := fun W hB => treadHeader_any a l n c W hl hB hn hnc hcm (by omega)
  rw [hz] at hrh
  obtain ⟨b, off, rfl⟩ : ∃ b off, a = some ⟨b, off, none⟩ := by obtain ⟨b, off, h, _⟩ := hb (by omega); exact ⟨b, off, h⟩
  obtain ⟨m, hm⟩ : ∃ m, n = m + 7 := ⟨n - 7, by omega⟩
  have hsub := fun W (hB : Bs W W.heap.size (some ⟨b, off, none⟩) l) => Bs_sub hB rfl 5 (l.length - 7)
  have hd : (rd l).d = (l.drop 5).take (l.length - 7) := rfl
  have hdl : (rd l).d.length = m := by rw [rd_len (by omega)]; omega
  rw [← hd] at hsub
  obtain ⟨P, hP⟩ : ∃ P, P = rd l := ⟨_, rfl⟩
  rw [← hP] at hrh hsub hdl
  obtain ⟨byp, con, cr, ch, sq, d⟩ := P
  simp only at hrh hsub hdl
  obtain ⟨T, hT⟩ : ∃ T, T = sz l := ⟨_, rfl⟩
  rw [← hT] at hrh hsz
  have j1 : ((T : Int) != (n : Int)) = true := by simp; omega
  have HL := Lib.hid hdl
  have HM := Lib.hid hm
  obtain ⟨c3, hc3⟩ : ∃ c3, c = c3 + 5 := ⟨c - 5, by omega⟩
  have hm0 : 1 ≤ m := by omega
  have hm1 : m ≤ 1017 := by omega
  have hmc : m + 2 ≤ c3 := by omega
  have q1 : (if c = 5 then (some ⟨b, off, none⟩ : Option Addr) else some ⟨b, off + 5, none⟩) = some ⟨b, off + 5, none⟩ := if_neg (by omega)
  have q2 : c - 5 = c3 := by omega
  have q3 : ((n : Int) - 2).toNat - 5 = m := by omega
  have q4 : (5 : Int) ≤ (n : Int) - 2 := by omega
  have q5 : (n : Int) - 2 ≤ (c : Int) := by omega
  clear hm hc3 hdl hd hln hP hck hz
  go_enter Try.func15, Try.ntmps15
  go_wp2_with fail
  refine hs.mono ?_
  rintro e w1 ⟨rfl, k, rfl⟩
  have hR1 := hR0.draws k
  have bel1 := b0.trans (bel_drewN _ _ k)
  have hB1 := (hb.below bel1).more bel1.size
  clear hs hR0 b0
  go_wp2_with fail
  refine (hrh _ hB1).mono ?_
  rintro e w2 ⟨rfl, hb2⟩
  have hR2 := Cel.later hR1 hb2
  have bel2 := bel1.trans (hb2.mono bel1.size)
  have hlt2 := hR2.lt
  clear hrh hb2 hR1 hB1 bel1
  obtain ⟨W3, hW3⟩ : ∃ W3, W3 = w2.alloc (.cells #[.bool byp, .bool con, .int .i64 cr, .int .i64 ch, .int .i64 sq, .slice none 0 0] 24) := ⟨_, rfl⟩
  have hP3 : Cel W3 w2.heap.size 24 #[.bool byp, .bool con, .int .i64 cr, .int .i64 ch, .int .i64 sq, .slice none 0 0] := by rw [hW3]; exact Cel.new _ _ _
  have bel3 : Below w2.heap.size w2 W3 := by rw [hW3]; exact bel_new _ _
  have hR3 := Cel.later hR2 bel3
  have bel3' := bel2.trans (bel3.mono bel2.size)
  have hB3 := (hb.below bel3').more bel3'.size
  have hcl := clone_any (some ⟨b, off + 5, none⟩) d m c3 W3 HL (hsub W3 hB3) (fun h => nomatch h) (by omega)
  clear bel2 hR2 bel3
  go_wp2_with fail
  rw [← hW3]
  refine hcl.mono ?_
  rintro e w5 ⟨v, rfl, hown, hb5⟩
  obtain ⟨A5, c5', rfl, _⟩ := hown.reads_len (n := m) HL.out
  have hR5 := Cel.later hR3 hb5
  have hP5 := Cel.later hP3 hb5
  have bel5 := bel3'.trans (hb5.mono bel3'.size)
  have hlP := hP3.lt
  clear hcl hR3 hB3 hW3
  have p0 := hP5.cell 0
  have p1 := hP5.cell 1
  have p2 := hP5.cell 2
  have p3 := hP5.cell 3
  have p4 := hP5.cell 4
  have p5 := hP5.cell 5
  simp at p0 p1 p2 p3 p4 p5
  have pf := hP5.free 5
  have hne : w.heap.size ≠ w2.heap.size := by omega
  have hne' : w2.heap.size ≠ w.heap.size := by omega
  have hO6 : Only [w2.heap.size] w5 (w5.setCell ⟨w2.heap.size, 5, none⟩ (.slice A5 m c5')) := (Only.refl _ _).put (.inl (by simp)) _
  have hR6 := hR5.only hO6 (by simpa using hne)
  have hP6 := hP5.put 5 (.slice A5 m c5')
  simp only [List.setIfInBounds_toArray, List.set_cons_zero, List.set_cons_succ] at hP6
  have hw6 := hown.only hO6 (fun i hi => by have := (hown.lt i hi).1; simp; omega)
  have bel6 := bel5.trans (hO6.below bel5.size (by simp; omega))
  have c0 := hR5.cell 0
  have c1 := hR5.cell 1
  have c2 := hR5.cell 2
  have c3 := hR5.cell 3
  have c4 := hR5.cell 4
  have c5 := hR5.cell 5
  simp at c0 c1 c2 c3 c4 c5
  have f0 := hR5.free 0
  have f1 := hR5.free 1
  have f2 := hR5.free 2
  have f3 := hR5.free 3
  have f4 := hR5.free 4
  have f5 := hR5.free 5
  go_wp2
  exact bodyPost_ret (tde_results rfl rfl (putAll_cel hR6 false false 0 0 0 (.slice none 0 0))) rfl ⟨rfl, putAll_below bel6 (Nat.le_refl _) _ _ _ _ _ _⟩

set_option maxHeartbeats 2000000 in
theorem tdecode_bad (a : Option Addr) (l : List Byte) (n c : Nat) (w : World) (hl : Hid (l.length = n)) (hb : Bs w w.heap.size a l) (hn : a = none → c = 0) (hnc : n ≤ c) (hcm : c ≤ maxLen) (h : 8 ≤ n) (h2 : n ≤ 1024) (hck : ck16 l = true) (hz : zr l = true) (hsz : sz l = n) (hok : (rd l).ok = false) :
    Calls Try.prog 15 #[.slice a n c] w fun e w' => e = .returned (.tuple #[.agg #[.bool false, .bool false, .int .i64 0, .int .i64 0, .int .i64 0, .slice none 0 0], .int .i64 4]) ∧ Below w.heap.size w w' := by
  have b0 := bel_new w (.cells #[.bool false, .bool false, .int .i64 0, .int .i64 0, .int .i64 0, .slice none 0 0] 24)
  have hR0 := Cel.new w 24 #[.bool false, .bool false, .int .i64 0, .int .i64 0, .int .i64 0, .slice none 0 0]
  have hln := hl.out
  have g1 : decide ((n : Int) < 8) = false := by simp; omega
  have g2 : decide (n < 8) = false := by simp; omega
  have g3 : decide ((1024 : Int) < (n : Int)) = false := by simp; omega
  have g4 : decide (1024 < n) = false := by simp; omega
  have hs := tcheck16_len a l n c w.heap.size (w.alloc (.cells #[.bool false, .bool false, .int .i64 0, .int .i64 0, .int .i64 0, .slice none 0 0] 24)) hln (hb.below b0) hnc hcm
  rw [hck] at hs
  have hrh := fun W hB => treadHeader_any a l n c W hl hB hn hnc hcm (by omega)
  rw [hz] at hrh
  rw [hsz] at hrh
  obtain ⟨b, off, rfl⟩ : ∃ b off, a = some ⟨b, off, none⟩ := by obtain ⟨b, off, h, _⟩ := hb (by omega); exact ⟨b, off, h⟩
  obtain ⟨m, hm⟩ : ∃ m, n = m + 7 := ⟨n - 7, by omega⟩
  have hsub := fun W (hB : Bs W W.heap.size (some ⟨b, off, none⟩) l) => Bs_sub hB rfl 5 (l.length - 7)
  have hd : (rd l).d = (l.drop 5).take (l.length - 7) := rfl
  have hdl : (rd l).d.length = m := by rw [rd_len (by omega)]; omega
  rw [← hd] at hsub
  obtain ⟨P, hP⟩ : ∃ P, P = rd l := ⟨_, rfl⟩
  rw [← hP] at hrh hsub hdl hok
  obtain ⟨byp, con, cr, ch, sq, d⟩ := P
  simp only at hrh hsub hdl
  have j1 : ((n : Int) != (n : Int)) = false := by simp
  have hv := fun W A c => tvalid_any byp con cr ch sq A d m c W (Lib.hid hdl) (by unfold maxLen; omega)
  rw [hok] at hv
  have HL := Lib.hid hdl
  have HM := Lib.hid hm
  obtain ⟨c3, hc3⟩ : ∃ c3, c = c3 + 5 := ⟨c - 5, by omega⟩
  have hm0 : 1 ≤ m := by omega
  have hm1 : m ≤ 1017 := by omega
  have hmc : m + 2 ≤ c3 := by omega
  have q1 : (if c = 5 then (some ⟨b, off, none⟩ : Option Addr) else some ⟨b, off + 5, none⟩) = some ⟨b, off + 5, none⟩ := if_neg (by omega)
  have q2 : c - 5 = c3 := by omega
  have q3 : ((n : Int) - 2).toNat - 5 = m := by omega
  have q4 : (5 : Int) ≤ (n : Int) - 2 := by omega
  have q5 : (n : Int) - 2 ≤ (c : Int) := by omega
  clear hm hc3 hdl hd hln hP hck hz
  go_enter Try.func15, Try.ntmps15
  go_wp2_with fail
  refine hs.mono ?_
  rintro e w1 ⟨rfl, k, rfl⟩
  have hR1 := hR0.draws k
  have bel1 := b0.trans (bel_drewN _ _ k)
  have hB1 := (hb.below bel1).more bel1.size
  clear hs hR0 b0
  go_wp2_with fail
  refine (hrh _ hB1).mono ?_
  rintro e w2 ⟨rfl, hb2⟩
  have hR2 := Cel.later hR1 hb2
  have bel2 := bel1.trans (hb2.mono bel1.size)
  have hlt2 := hR2.lt
  clear hrh hb2 hR1 hB1 bel1
  obtain ⟨W3, hW3⟩ : ∃ W3, W3 = w2.alloc (.cells #[.bool byp, .bool con, .int .i64 cr, .int .i64 ch, .int .i64 sq, .slice none 0 0] 24) := ⟨_, rfl⟩
  have hP3 : Cel W3 w2.heap.size 24 #[.bool byp, .bool con, .int .i64 cr, .int .i64 ch, .int .i64 sq, .slice none 0 0] := by rw [hW3]; exact Cel.new _ _ _
  have bel3 : Below w2.heap.size w2 W3 := by rw [hW3]; exact bel_new _ _
  have hR3 := Cel.later hR2 bel3
  have bel3' := bel2.trans (bel3.mono bel2.size)
  have hB3 := (hb.below bel3').more bel3'.size
  have hcl := clone_any (some ⟨b, off + 5, none⟩) d m c3 W3 HL (hsub W3 hB3) (fun h => nomatch h) (by omega)
  clear bel2 hR2 bel3
  go_wp2_with fail
  rw [← hW3]
  refine hcl.mono ?_
  rintro e w5 ⟨v, rfl, hown, hb5⟩
  obtain ⟨A5, c5', rfl, _⟩ := hown.reads_len (n := m) HL.out
  have hR5 := Cel.later hR3 hb5
  have hP5 := Cel.later hP3 hb5
  have bel5 := bel3'.trans (hb5.mono bel3'.size)
  have hlP := hP3.lt
  clear hcl hR3 hB3 hW3
  have p0 := hP5.cell 0
  have p1 := hP5.cell 1
  have p2 := hP5.cell 2
  have p3 := hP5.cell 3
  have p4 := hP5.cell 4
  have p5 := hP5.cell 5
  simp at p0 p1 p2 p3 p4 p5
  have pf := hP5.free 5
  have hne : w.heap.size ≠ w2.heap.size := by omega
  have hne' : w2.heap.size ≠ w.heap.size := by omega
  have hO6 : Only [w2.heap.size] w5 (w5.setCell ⟨w2.heap.size, 5, none⟩ (.slice A5 m c5')) := (Only.refl _ _).put (.inl (by simp)) _
  have hR6 := hR5.only hO6 (by simpa using hne)
  have hP6 := hP5.put 5 (.slice A5 m c5')
  simp only [List.setIfInBounds_toArray, List.set_cons_zero, List.set_cons_succ] at hP6
  have hw6 := hown.only hO6 (fun i hi => by have := (hown.lt i hi).1; simp; omega)
  have bel6 := bel5.trans (hO6.below bel5.size (by simp; omega))
  obtain ⟨W6, hW6⟩ : ∃ W6, W6 = w5.setCell ⟨w2.heap.size, 5, none⟩ (.slice A5 m c5') := ⟨_, rfl⟩
  rw [← hW6] at hR6 hP6 hw6 bel6
  go_wp2_with fail
  rw [← hW6]
  refine (hv W6 A5 c5').mono ?_
  rintro e w7 ⟨rfl, hb7⟩
  have hR7 := Cel.later hR6 hb7
  have hP7 := Cel.later hP6 hb7
  have hw7 := hw6.below hb7
  have bel7 := bel6.trans (hb7.mono bel6.size)
  clear hv hb7 hR6 hP6 hw6 bel6 hO6 hR5 hP5 hW6 p0 p1 p2 p3 p4 p5 pf
  have c0 := hR7.cell 0
  have c1 := hR7.cell 1
  have c2 := hR7.cell 2
  have c3 := hR7.cell 3
  have c4 := hR7.cell 4
  have c5 := hR7.cell 5
  simp at c0 c1 c2 c3 c4 c5
  have f0 := hR7.free 0
  have f1 := hR7.free 1
  have f2 := hR7.free 2
  have f3 := hR7.free 3
  have f4 := hR7.free 4
  have f5 := hR7.free 5
  go_wp2
  exact bodyPost_ret (tde_results rfl rfl (putAll_cel hR7 false false 0 0 0 (.slice none 0 0))) rfl ⟨rfl, putAll_below bel7 (Nat.le_refl _) _ _ _ _ _ _⟩

set_option maxHeartbeats 2000000 in
theorem tdecode_good (a : Option Addr) (l : List Byte) (n c : Nat) (w : World) (hl : Hid (l.length = n)) (hb : Bs w w.heap.size a l) (hn : a = none → c = 0) (hnc : n ≤ c) (hcm : c ≤ maxLen) (h : 8 ≤ n) (h2 : n ≤ 1024) (hck : ck16 l = true) (hz : zr l = true) (hsz : sz l = n) (hok : (rd l).ok = true) :
    Calls Try.prog 15 #[.slice a n c] w fun e w' => ∃ v, e = .returned (.tuple #[.agg #[.bool (rd l).byp, .bool (rd l).con, .int .i64 (rd l).cr, .int .i64 (rd l).ch, .int .i64 (rd l).sq, v], .int .i64 0]) ∧ Ow w' w.heap.size 5 v (rd l).d ∧ Below w.heap.size w w' := by
  have b0 := bel_new w (.cells #[.bool false, .bool false, .int .i64 0, .int .i64 0, .int .i64 0, .slice none 0 0] 24)
  have hR0 := Cel.new w 24 #[.bool false, .bool false, .int .i64 0, .int .i64 0, .int .i64 0, .slice none 0 0]
  have hln := hl.out
  have g1 : decide ((n : Int) < 8) = false := by simp; omega
  have g2 : decide (n < 8) = false := by simp; omega
  have g3 : decide ((1024 : Int) < (n : Int)) = false := by simp; omega
  have g4 : decide (1024 < n) = false := by simp; omega
  have hs := tcheck16_len a l n c w.heap.size (w.alloc (.cells #[.bool false, .bool false, .int .i64 0, .int .i64 0, .int .i64 0, .slice none 0 0] 24)) hln (hb.below b0) hnc hcm
  rw [hck] at hs
  have hrh := fun W hB => treadHeader_any a l n c W hl hB hn hnc hcm (by omega)
  rw [hz] at hrh
  rw [hsz] at hrh
  obtain ⟨b, off, rfl⟩ : ∃ b off, a = some ⟨b, off, none⟩ := by obtain ⟨b, off, h, _⟩ := hb (by omega); exact ⟨b, off, h⟩
  obtain ⟨m, hm⟩ : ∃ m, n = m + 7 := ⟨n - 7, by omega⟩
  have hsub := fun W (hB : Bs W W.heap.size (some ⟨b, off, none⟩) l) => Bs_sub hB rfl 5 (l.length - 7)
  have hd : (rd l).d = (l.drop 5).take (l.length - 7) := rfl
  have hdl : (rd l).d.length = m := by rw [rd_len (by omega)]; omega
  rw [← hd] at hsub
  obtain ⟨P, hP⟩ : ∃ P, P = rd l := ⟨_, rfl⟩
  rw [← hP] at hrh hsub hdl hok ⊢
  obtain ⟨byp, con, cr, ch, sq, d⟩ := P
  simp only at hrh hsub hdl ⊢
  have j1 : ((n : Int) != (n : Int)) = false := by simp
  have hv := fun W A c => tvalid_any byp con cr ch sq A d m c W (Lib.hid hdl) (by unfold maxLen; omega)
  rw [hok] at hv
  have HL := Lib.hid hdl
  have HM := Lib.hid hm
  obtain ⟨c3, hc3⟩ : ∃ c3, c = c3 + 5 := ⟨c - 5, by omega⟩
  have hm0 : 1 ≤ m := by omega
  have hm1 : m ≤ 1017 := by omega
  have hmc : m + 2 ≤ c3 := by omega
  have q1 : (if c = 5 then (some ⟨b, off, none⟩ : Option Addr) else some ⟨b, off + 5, none⟩) = some ⟨b, off + 5, none⟩ := if_neg (by omega)
  have q2 : c - 5 = c3 := by omega
  have q3 : ((n : Int) - 2).toNat - 5 = m := by omega
  have q4 : (5 : Int) ≤ (n : Int) - 2 := by omega
  have q5 : (n : Int) - 2 ≤ (c : Int) := by omega
  clear hm hc3 hdl hd hln hP hck hz
  go_enter Try.func15, Try.ntmps15
  go_wp2_with fail
  refine hs.mono ?_
  rintro e w1 ⟨rfl, k, rfl⟩
  have hR1 := hR0.draws k
  have bel1 := b0.trans (bel_drewN _ _ k)
  have hB1 := (hb.below bel1).more bel1.size
  clear hs hR0 b0
  go_wp2_with fail
  refine (hrh _ hB1).mono ?_
  rintro e w2 ⟨rfl, hb2⟩
  have hR2 := Cel.later hR1 hb2
  have bel2 := bel1.trans (hb2.mono bel1.size)
  have hlt2 := hR2.lt
  clear hrh hb2 hR1 hB1 bel1
  obtain ⟨W3, hW3⟩ : ∃ W3, W3 = w2.alloc (.cells #[.bool byp, .bool con, .int .i64 cr, .int .i64 ch, .int .i64 sq, .slice none 0 0] 24) := ⟨_, rfl⟩
  have hP3 : Cel W3 w2.heap.size 24 #[.bool byp, .bool con, .int .i64 cr, .int .i64 ch, .int .i64 sq, .slice none 0 0] := by rw [hW3]; exact Cel.new _ _ _
  have bel3 : Below w2.heap.size w2 W3 := by rw [hW3]; exact bel_new _ _
  have hR3 := Cel.later hR2 bel3
  have bel3' := bel2.trans (bel3.mono bel2.size)
  have hB3 := (hb.below bel3').more bel3'.size
  have hcl := clone_any (some ⟨b, off + 5, none⟩) d m c3 W3 HL (hsub W3 hB3) (fun h => nomatch h) (by omega)
  clear bel2 hR2 bel3
  go_wp2_with fail
  rw [← hW3]
  refine hcl.mono ?_
  rintro e w5 ⟨v, rfl, hown, hb5⟩
  obtain ⟨A5, c5', rfl, _⟩ := hown.reads_len (n := m) HL.out
  have hR5 := Cel.later hR3 hb5
  have hP5 := Cel.later hP3 hb5
  have bel5 := bel3'.trans (hb5.mono bel3'.size)
  have hlP := hP3.lt
  clear hcl hR3 hB3 hW3
  have p0 := hP5.cell 0
  have p1 := hP5.cell 1
  have p2 := hP5.cell 2
  have p3 := hP5.cell 3
  have p4 := hP5.cell 4
  have p5 := hP5.cell 5
  simp at p0 p1 p2 p3 p4 p5
  have pf := hP5.free 5
  have hne : w.heap.size ≠ w2.heap.size := by omega
  have hne' : w2.heap.size ≠ w.heap.size := by omega
  have hO6 : Only [w2.heap.size] w5 (w5.setCell ⟨w2.heap.size, 5, none⟩ (.slice A5 m c5')) := (Only.refl _ _).put (.inl (by simp)) _
  have hR6 := hR5.only hO6 (by simpa using hne)
  have hP6 := hP5.put 5 (.slice A5 m c5')
  simp only [List.setIfInBounds_toArray, List.set_cons_zero, List.set_cons_succ] at hP6
  have hw6 := hown.only hO6 (fun i hi => by have := (hown.lt i hi).1; simp; omega)
  have bel6 := bel5.trans (hO6.below bel5.size (by simp; omega))
  obtain ⟨W6, hW6⟩ : ∃ W6, W6 = w5.setCell ⟨w2.heap.size, 5, none⟩ (.slice A5 m c5') := ⟨_, rfl⟩
  rw [← hW6] at hR6 hP6 hw6 bel6
  go_wp2_with fail
  rw [← hW6]
  refine (hv W6 A5 c5').mono ?_
  rintro e w7 ⟨rfl, hb7⟩
  have hR7 := Cel.later hR6 hb7
  have hP7 := Cel.later hP6 hb7
  have hw7 := hw6.below hb7
  have bel7 := bel6.trans (hb7.mono bel6.size)
  clear hv hb7 hR6 hP6 hw6 bel6 hO6 hR5 hP5 hW6 p0 p1 p2 p3 p4 p5 pf
  have c0 := hR7.cell 0
  have c1 := hR7.cell 1
  have c2 := hR7.cell 2
  have c3 := hR7.cell 3
  have c4 := hR7.cell 4
  have c5 := hR7.cell 5
  simp at c0 c1 c2 c3 c4 c5
  have f0 := hR7.free 0
  have f1 := hR7.free 1
  have f2 := hR7.free 2
  have f3 := hR7.free 3
  have f4 := hR7.free 4
  have f5 := hR7.free 5
  have p0 := hP7.cell 0
  have p1 := hP7.cell 1
  have p2 := hP7.cell 2
  have p3 := hP7.cell 3
  have p4 := hP7.cell 4
  have p5 := hP7.cell 5
  simp at p0 p1 p2 p3 p4 p5
  go_wp2
  refine bodyPost_ret (tde_results rfl rfl (putAll_cel hR7 byp con cr ch sq (.slice A5 m c5'))) rfl ⟨_, rfl, ?_, putAll_below bel7 (Nat.le_refl _) _ _ _ _ _ _⟩
  have hz : w.heap.size ≤ W3.heap.size := bel3'.size
  exact (hw7.only (putAll_only _ _ _ _ _ _ _ _) (fun i hi => by have := (hown.lt i hi).1; simp; omega)).more hz

theorem tdecode_any (a : Option Addr) (l : List Byte) (n c : Nat) (w : World) (hl : Hid (l.length = n)) (hb : Bs w w.heap.size a l) (hn : a = none → c = 0) (hnc : n ≤ c) (hcm : c ≤ maxLen) :
    Calls Try.prog 15 #[.slice a n c] w fun e w' => ∃ v, e = .returned (.tuple #[.agg #[.bool (deP l).byp, .bool (deP l).con, .int .i64 (deP l).cr, .int .i64 (deP l).ch, .int .i64 (deP l).sq, v], .int .i64 (deE l)]) ∧ Ow w' w.heap.size 5 v (deP l).d ∧ Below w.heap.size w w' := by
  have hln := hl.out
  by_cases h1 : n < 8
  · obtain ⟨e1, e2⟩ := de_short (l := l) (by omega)
    rw [e1, e2]
    exact (tdecode_short a l n c w hl hb hnc hcm h1).mono fun e w' ⟨k1, k2⟩ => ⟨_, k1, Ow_nil _ _, k2⟩
  by_cases h2 : 1024 < n
  · obtain ⟨e1, e2⟩ := de_long (l := l) (by omega)
    rw [e1, e2]
    exact (tdecode_long a l n c w hl hb hnc hcm h2).mono fun e w' ⟨k1, k2⟩ => ⟨_, k1, Ow_nil _ _, k2⟩
  have g1 : 8 ≤ n := by omega
  have g2 : n ≤ 1024 := by omega
  cases hck : ck16 l with
  | false =>
    obtain ⟨e1, e2⟩ := de_sum (l := l) (by omega) (by omega) hck
    rw [e1, e2]
    exact (tdecode_sum a l n c w hl hb hnc hcm g1 g2 hck).mono fun e w' ⟨k1, k2⟩ => ⟨_, k1, Ow_nil _ _, k2⟩
  | true =>
    cases hg : gd l with
    | false =>
      obtain ⟨e1, e2⟩ := de_form (l := l) (by omega) (by omega) hck hg
      rw [e1, e2]
      cases hz : zr l with
      | false => exact (tdecode_zero a l n c w hl hb hn hnc hcm g1 g2 hck hz).mono fun e w' ⟨k1, k2⟩ => ⟨_, k1, Ow_nil _ _, k2⟩
      | true =>
        by_cases hs : sz l = n
        · have hok : (rd l).ok = false := by
            unfold gd at hg
            rw [hz, decide_eq_true (by rw [hs, hln] : sz l = l.length)] at hg
            simpa using hg
          exact (tdecode_bad a l n c w hl hb hn hnc hcm g1 g2 hck hz hs hok).mono fun e w' ⟨k1, k2⟩ => ⟨_, k1, Ow_nil _ _, k2⟩
        · exact (tdecode_size a l n c w hl hb hn hnc hcm g1 g2 hck hz hs).mono fun e w' ⟨k1, k2⟩ => ⟨_, k1, Ow_nil _ _, k2⟩
    | true =>
      obtain ⟨e1, e2⟩ := de_good (l := l) (by omega) (by omega) hck hg
      rw [e1, e2]
      unfold gd at hg
      simp only [Bool.and_eq_true, decide_eq_true_eq] at hg
      exact tdecode_good a l n c w hl hb hn hnc hcm g1 g2 hck hg.1.1 (by rw [← hln]; exact hg.1.2) hg.2
end Go.Proofs.Ytdichdoabhabjaa.Tcf
