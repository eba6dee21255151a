/-
  PacW4 Rd Put12 OfH SerMath SerW UnpW0 Cat UnpW1 LstH UnpW2 UnpW3 UnpW4 Later Ref20a Law20a UnpBack Law20f Law20b IntH Law20g, one after another.
-/
import Derived.Test.YtcmonalnhdodmaaTopp1
import Derived.Laws.BitsAllLaws
import Derived.Laws.Small
import Derived.WalkKit
import Derived.WalkSpells
import Derived.Test.YtcmonalnhdodmaaRows
import Derived.WalkLawsBesides
import Derived.Lib.Hide
import Derived.Deep.QuietTactic
import Derived.BigQuiet
import Derived.BigRegion
import Derived.Test.YtcmonalnhdodmaaLay2
import Derived.Below

/-
  The walk of package packet's Decode.
-/
namespace Go.Proofs.Ytcmonalnhdodmaa.Pac
open Go.RowKit

theorem de_results {tmps : Array Value} {W : World} {g : Nat} {n e : Int} {com sec : Bool} {ap fl ct : Int} {v : Value} (h2 : tmps.getD 2 undef = .pointer (some ⟨g, 0, none⟩)) (h3 : tmps.getD 3 undef = .int .i64 n) (h4 : tmps.getD 4 undef = .int .i64 e)
    (hC : Cel W g 56 #[.bool com, .bool sec, .int .i64 ap, .int .i64 fl, .int .i64 ct, v]) :
    (results Try.f53 tmps).run Try.prog W = .ok (.tuple #[.agg #[.bool com, .bool sec, .int .i64 ap, .int .i64 fl, .int .i64 ct, v], .int .i64 n, .int .i64 e]) W := by
  have c0 := hC.cell 0
  have c1 := hC.cell 1
  have c2 := hC.cell 2
  have c3 := hC.cell 3
  have c4 := hC.cell 4
  have c5 := hC.cell 5
  simp at c0 c1 c2 c3 c4 c5
  simp only [Array.getD_eq_getD_getElem?] at h2 h3 h4
  simp [results, Try.results53, go_sem, h2, h3, h4, c0, c1, c2, c3, c4, c5]

theorem Bs_sub {w : World} {B : Nat} {a : Option Addr} {l : List Byte} (h : Bs w B a l) {b off : Nat} (ha : a = some ⟨b, off, none⟩) (k m : Nat) : Bs w B (some ⟨b, off + k, none⟩) ((l.drop k).take m) := fun hl => by
  have hk : k < l.length := by simp at hl; omega
  obtain ⟨b', off', ha', hb, hc⟩ := h (by omega)
  rw [ha] at ha'
  injection ha' with ha'
  injection ha' with e1 e2
  subst e1 e2
  refine ⟨b, off + k, rfl, hb, fun i x hx => ?_⟩
  rw [List.getElem?_take] at hx
  split at hx
  · rw [List.getElem?_drop] at hx
    rw [Nat.add_assoc]
    exact hc _ _ hx
  · cases hx

theorem putAll_below {w W : World} {g : Nat} (h : Below w.heap.size w W) (hg : w.heap.size ≤ g) (com sec : Bool) (ap fl ct : Int) (v : Value) : Below w.heap.size w (putAll W g com sec ap fl ct v) :=
  h.trans ((putAll_only _ _ _ _ _ _ _ _).below h.size (by simpa using hg))

set_option maxHeartbeats 2000000 in
theorem decode_err (a : Option Addr) (l : List Byte) (n c : Nat) (w : World) (hl : Hid (l.length = n)) (hb : Bs w w.heap.size a l) (hn : a = none → c = 0) (hnc : n ≤ c) (hcm : c ≤ maxLen) (h : siE l ≠ 0) :
    Calls Try.prog 53 #[.slice a n c] w fun e w' => e = .returned (.tuple #[.agg #[.bool false, .bool false, .int .i64 0, .int .i64 0, .int .i64 0, .slice none 0 0], .int .i64 0, .int .i64 (siE l)]) ∧ Below w.heap.size w w' := by
  have b0 := bel_new w (.cells #[.bool false, .bool false, .int .i64 0, .int .i64 0, .int .i64 0, .slice none 0 0] 56)
  have hR0 := Cel.new w 56 #[.bool false, .bool false, .int .i64 0, .int .i64 0, .int .i64 0, .slice none 0 0]
  have hs := size_any a l n c _ hl ((hb.below b0).more b0.size) hn hnc hcm
  obtain ⟨E, hE⟩ : ∃ E, E = siE l := ⟨_, rfl⟩
  rw [← hE] at hs h ⊢
  have hne : (E != 0) = true := by simpa using h
  clear hE hl hb hn hnc hcm h
  go_enter Try.func53, Try.ntmps53
  go_wp2_with fail
  refine hs.mono ?_
  rintro e w1 ⟨rfl, hb1⟩
  have hR1 := Cel.later hR0 hb1
  have bel1 := b0.trans (hb1.mono b0.size)
  have c0 := hR1.cell 0
  have c1 := hR1.cell 1
  have c2 := hR1.cell 2
  have c3 := hR1.cell 3
  have c4 := hR1.cell 4
  have c5 := hR1.cell 5
  simp at c0 c1 c2 c3 c4 c5
  have f0 := hR1.free 0
  have f1 := hR1.free 1
  have f2 := hR1.free 2
  have f3 := hR1.free 3
  have f4 := hR1.free 4
  have f5 := hR1.free 5
  clear hs hb1 hR0 b0
  go_wp2
  exact bodyPost_ret (de_results rfl rfl rfl (putAll_cel hR1 false false 0 0 0 (.slice none 0 0))) rfl ⟨rfl, putAll_below bel1 (Nat.le_refl _) _ _ _ _ _ _⟩

set_option maxHeartbeats 2000000 in
theorem decode_short (a : Option Addr) (l : List Byte) (n c : Nat) (w : World) (hl : Hid (l.length = n)) (hb : Bs w w.heap.size a l) (hn : a = none → c = 0) (hnc : n ≤ c) (hcm : c ≤ maxLen) (h : siE l = 0) (h2 : l.length < tot l) :
    Calls Try.prog 53 #[.slice a n c] w fun e w' => e = .returned (.tuple #[.agg #[.bool false, .bool false, .int .i64 0, .int .i64 0, .int .i64 0, .slice none 0 0], .int .i64 0, .int .i64 3]) ∧ Below w.heap.size w w' := by
  have b0 := bel_new w (.cells #[.bool false, .bool false, .int .i64 0, .int .i64 0, .int .i64 0, .slice none 0 0] 56)
  have hR0 := Cel.new w 56 #[.bool false, .bool false, .int .i64 0, .int .i64 0, .int .i64 0, .slice none 0 0]
  have hs := size_any a l n c _ hl ((hb.below b0).more b0.size) hn hnc hcm
  have hln := hl.out
  obtain ⟨h3, h4, h5⟩ := siE_zero h
  rw [(siE_good h3 h4 h5).1, (siE_good h3 h4 h5).2] at hs
  obtain ⟨T, hT⟩ : ∃ T, T = tot l := ⟨_, rfl⟩
  rw [← hT] at hs h2
  have g1 : decide ((n : Int) < (T : Int)) = true := by simp; omega
  have g2 : decide (n < T) = true := by simp; omega
  clear hT hl hb hn hnc hcm h h2 h3 h4 h5 hln
  go_enter Try.func53, Try.ntmps53
  go_wp2_with fail
  refine hs.mono ?_
  rintro e w1 ⟨rfl, hb1⟩
  have hR1 := Cel.later hR0 hb1
  have bel1 := b0.trans (hb1.mono b0.size)
  have c0 := hR1.cell 0
  have c1 := hR1.cell 1
  have c2 := hR1.cell 2
  have c3 := hR1.cell 3
  have c4 := hR1.cell 4
  have c5 := hR1.cell 5
  simp at c0 c1 c2 c3 c4 c5
  have f0 := hR1.free 0
  have f1 := hR1.free 1
  have f2 := hR1.free 2
  have f3 := hR1.free 3
  have f4 := hR1.free 4
  have f5 := hR1.free 5
  clear hs hb1 hR0 b0
  go_wp2
  exact bodyPost_ret (de_results rfl rfl rfl (putAll_cel hR1 false false 0 0 0 (.slice none 0 0))) rfl ⟨rfl, putAll_below bel1 (Nat.le_refl _) _ _ _ _ _ _⟩

set_option maxHeartbeats 2000000 in
theorem decode_form (a : Option Addr) (l : List Byte) (n c : Nat) (w : World) (hl : Hid (l.length = n)) (hb : Bs w w.heap.size a l) (hn : a = none → c = 0) (hnc : n ≤ c) (hcm : c ≤ maxLen) (h : siE l = 0) (h2 : ¬ l.length < tot l) (hok : (rd l).ok = false) :
    Calls Try.prog 53 #[.slice a n c] w fun e w' => e = .returned (.tuple #[.agg #[.bool false, .bool false, .int .i64 0, .int .i64 0, .int .i64 0, .slice none 0 0], .int .i64 0, .int .i64 4]) ∧ Below w.heap.size w w' := by
  have b0 := bel_new w (.cells #[.bool false, .bool false, .int .i64 0, .int .i64 0, .int .i64 0, .slice none 0 0] 56)
  have hR0 := Cel.new w 56 #[.bool false, .bool false, .int .i64 0, .int .i64 0, .int .i64 0, .slice none 0 0]
  have hs := size_any a l n c _ hl ((hb.below b0).more b0.size) hn hnc hcm
  have hln := hl.out
  obtain ⟨h3, h4, h5⟩ := siE_zero h
  rw [(siE_good h3 h4 h5).1, (siE_good h3 h4 h5).2] at hs
  have hrh := fun W hB => readHeader_any a l n c W hl hB hn hnc hcm (by omega)
  have htot : 7 ≤ tot l := by unfold tot; omega
  obtain ⟨b, off, rfl⟩ : ∃ b off, a = some ⟨b, off, none⟩ := by obtain ⟨b, off, h, _⟩ := hb (by omega); exact ⟨b, off, h⟩
  have hsub := fun W (hB : Bs W W.heap.size (some ⟨b, off, none⟩) l) => Bs_sub hB rfl 6 (tot l - 6)
  obtain ⟨m, hm⟩ : ∃ m, tot l = m + 7 := ⟨tot l - 7, by omega⟩
  have hd : (rd l).d = (l.drop 6).take (tot l - 6) := rfl
  have hdl : (rd l).d.length = m + 1 := by rw [hd, List.length_take, List.length_drop]; omega
  rw [← hd] at hsub
  obtain ⟨P, hP⟩ : ∃ P, P = rd l := ⟨_, rfl⟩
  rw [← hP] at hrh hsub hok hdl
  obtain ⟨com, sec, ap, fl, ct, d⟩ := P
  simp only at hrh hsub hok hdl
  rw [hm] at hs hrh
  have hv := fun W hB => valid_any com sec ap fl ct (some ⟨b, off + 6, none⟩) d (m + 1) (m + 1) W (Lib.hid hdl) hB (by unfold maxLen; omega)
  rw [hok] at hv
  have hmn : m + 7 ≤ n := by omega
  have hm4 : m < 4090 := by omega
  have g1 : decide ((n : Int) < (m : Int) + 7) = false := by simp; omega
  have g2 : decide (n < m + 7) = false := by simp; omega
  have hmc : (m : Int) + 7 ≤ (c : Int) := by omega
  have HL := Lib.hid hdl
  have V0 : b8 l 0 / 32 = 0 := by omega
  rw [V0] at hrh
  clear V0 hdl hd hm htot h3 h4 h5 h2 h hln hP hok hnc hcm hn hmn
  go_enter Try.func53, Try.ntmps53
  go_wp2_with fail
  refine hs.mono ?_
  rintro e w1 ⟨rfl, hb1⟩
  have hR1 := Cel.later hR0 hb1
  have bel1 := b0.trans (hb1.mono b0.size)
  have hB1 := (hb.below bel1).more bel1.size
  clear hs hb1 hR0 b0
  go_wp2_with fail
  refine (hrh _ hB1).mono ?_
  rintro e w2 ⟨rfl, hb2⟩
  have hR2 := Cel.later hR1 hb2
  have bel2 := bel1.trans (hb2.mono bel1.size)
  have hlt2 := hR2.lt
  clear hrh hb2 hR1 hB1 bel1
  obtain ⟨W3, hW3⟩ : ∃ W3, W3 = w2.alloc (.cells #[.bool com, .bool sec, .int .i64 ap, .int .i64 fl, .int .i64 ct, .slice (some ⟨b, off + 6, none⟩) (m + 1) (m + 1)] 56) := ⟨_, rfl⟩
  have hP3 : Cel W3 w2.heap.size 56 #[.bool com, .bool sec, .int .i64 ap, .int .i64 fl, .int .i64 ct, .slice (some ⟨b, off + 6, none⟩) (m + 1) (m + 1)] := by rw [hW3]; exact Cel.new _ _ _
  have bel3 : Below w2.heap.size w2 W3 := by rw [hW3]; exact bel_new _ _
  have hR3 := Cel.later hR2 bel3
  have bel3' := bel2.trans (bel3.mono bel2.size)
  have hB3 := (hb.below bel3').more bel3'.size
  have hv3 := hv W3 (hsub W3 hB3)
  clear hv bel2 hR2 bel3
  go_wp2_with fail
  rw [← hW3]
  refine hv3.mono ?_
  rintro e w4 ⟨rfl, hb4⟩
  have hR4 := Cel.later hR3 hb4
  have hP4 := Cel.later hP3 hb4
  have bel4 := bel3'.trans (hb4.mono bel3'.size)
  have hB4 := (hb.below bel4).more bel4.size
  clear hv3 hb4 hR3 hP3 bel3' hB3 hW3
  have c0 := hR4.cell 0
  have c1 := hR4.cell 1
  have c2 := hR4.cell 2
  have c3 := hR4.cell 3
  have c4 := hR4.cell 4
  have c5 := hR4.cell 5
  simp at c0 c1 c2 c3 c4 c5
  have f0 := hR4.free 0
  have f1 := hR4.free 1
  have f2 := hR4.free 2
  have f3 := hR4.free 3
  have f4 := hR4.free 4
  have f5 := hR4.free 5
  go_wp2
  exact bodyPost_ret (de_results rfl rfl rfl (putAll_cel hR4 false false 0 0 0 (.slice none 0 0))) rfl ⟨rfl, putAll_below bel4 (Nat.le_refl _) _ _ _ _ _ _⟩

set_option maxHeartbeats 2000000 in
theorem decode_good (a : Option Addr) (l : List Byte) (n c : Nat) (w : World) (hl : Hid (l.length = n)) (hb : Bs w w.heap.size a l) (hn : a = none → c = 0) (hnc : n ≤ c) (hcm : c ≤ maxLen) (h : siE l = 0) (h2 : ¬ l.length < tot l) (hok : (rd l).ok = true) :
    Calls Try.prog 53 #[.slice a n c] w fun e w' => ∃ v, e = .returned (.tuple #[.agg #[.bool (rd l).com, .bool (rd l).sec, .int .i64 (rd l).ap, .int .i64 (rd l).fl, .int .i64 (rd l).ct, v], .int .i64 ((tot l : Nat) : Int), .int .i64 0]) ∧ Ow w' w.heap.size 5 v (rd l).d ∧ Below w.heap.size w w' := by
  have b0 := bel_new w (.cells #[.bool false, .bool false, .int .i64 0, .int .i64 0, .int .i64 0, .slice none 0 0] 56)
  have hR0 := Cel.new w 56 #[.bool false, .bool false, .int .i64 0, .int .i64 0, .int .i64 0, .slice none 0 0]
  have hs := size_any a l n c _ hl ((hb.below b0).more b0.size) hn hnc hcm
  have hln := hl.out
  obtain ⟨h3, h4, h5⟩ := siE_zero h
  rw [(siE_good h3 h4 h5).1, (siE_good h3 h4 h5).2] at hs
  have hrh := fun W hB => readHeader_any a l n c W hl hB hn hnc hcm (by omega)
  have htot : 7 ≤ tot l := by unfold tot; omega
  obtain ⟨b, off, rfl⟩ : ∃ b off, a = some ⟨b, off, none⟩ := by obtain ⟨b, off, h, _⟩ := hb (by omega); exact ⟨b, off, h⟩
  have hsub := fun W (hB : Bs W W.heap.size (some ⟨b, off, none⟩) l) => Bs_sub hB rfl 6 (tot l - 6)
  obtain ⟨m, hm⟩ : ∃ m, tot l = m + 7 := ⟨tot l - 7, by omega⟩
  have hd : (rd l).d = (l.drop 6).take (tot l - 6) := rfl
  have hdl : (rd l).d.length = m + 1 := by rw [hd, List.length_take, List.length_drop]; omega
  rw [← hd] at hsub
  obtain ⟨P, hP⟩ : ∃ P, P = rd l := ⟨_, rfl⟩
  rw [← hP] at hrh hsub hok hdl ⊢
  obtain ⟨com, sec, ap, fl, ct, d⟩ := P
  simp only at hrh hsub hok hdl ⊢
  rw [hm] at hs hrh ⊢
  have hv := fun W hB => valid_any com sec ap fl ct (some ⟨b, off + 6, none⟩) d (m + 1) (m + 1) W (Lib.hid hdl) hB (by unfold maxLen; omega)
  rw [hok] at hv
  have hmn : m + 7 ≤ n := by omega
  have hm4 : m < 4090 := by omega
  have g1 : decide ((n : Int) < (m : Int) + 7) = false := by simp; omega
  have g2 : decide (n < m + 7) = false := by simp; omega
  have hmc : (m : Int) + 7 ≤ (c : Int) := by omega
  have HL := Lib.hid hdl
  have V0 : b8 l 0 / 32 = 0 := by omega
  rw [V0] at hrh
  clear V0 hdl hd hm htot h3 h4 h5 h2 h hln hP hok hnc hcm hn hmn
  go_enter Try.func53, Try.ntmps53
  go_wp2_with fail
  refine hs.mono ?_
  rintro e w1 ⟨rfl, hb1⟩
  have hR1 := Cel.later hR0 hb1
  have bel1 := b0.trans (hb1.mono b0.size)
  have hB1 := (hb.below bel1).more bel1.size
  clear hs hb1 hR0 b0
  go_wp2_with fail
  refine (hrh _ hB1).mono ?_
  rintro e w2 ⟨rfl, hb2⟩
  have hR2 := Cel.later hR1 hb2
  have bel2 := bel1.trans (hb2.mono bel1.size)
  have hlt2 := hR2.lt
  clear hrh hb2 hR1 hB1 bel1
  obtain ⟨W3, hW3⟩ : ∃ W3, W3 = w2.alloc (.cells #[.bool com, .bool sec, .int .i64 ap, .int .i64 fl, .int .i64 ct, .slice (some ⟨b, off + 6, none⟩) (m + 1) (m + 1)] 56) := ⟨_, rfl⟩
  have hP3 : Cel W3 w2.heap.size 56 #[.bool com, .bool sec, .int .i64 ap, .int .i64 fl, .int .i64 ct, .slice (some ⟨b, off + 6, none⟩) (m + 1) (m + 1)] := by rw [hW3]; exact Cel.new _ _ _
  have bel3 : Below w2.heap.size w2 W3 := by rw [hW3]; exact bel_new _ _
  have hR3 := Cel.later hR2 bel3
  have bel3' := bel2.trans (bel3.mono bel2.size)
  have hB3 := (hb.below bel3').more bel3'.size
  have hv3 := hv W3 (hsub W3 hB3)
  clear hv bel2 hR2 bel3
  go_wp2_with fail
  rw [← hW3]
  refine hv3.mono ?_
  rintro e w4 ⟨rfl, hb4⟩
  have hR4 := Cel.later hR3 hb4
  have hP4 := Cel.later hP3 hb4
  have bel4 := bel3'.trans (hb4.mono bel3'.size)
  have hB4 := (hb.below bel4).more bel4.size
  clear hv3 hb4 hR3 hP3 bel3' hB3 hW3
  have hcl := clone_any (some ⟨b, off + 6, none⟩) d (m + 1) (m + 1) w4 HL (hsub w4 hB4) (fun h => nomatch h) (by omega)
  have p0 := hP4.cell 0
  have p1 := hP4.cell 1
  have p2 := hP4.cell 2
  have p3 := hP4.cell 3
  have p4 := hP4.cell 4
  have p5 := hP4.cell 5
  simp at p0 p1 p2 p3 p4 p5
  go_wp2_with fail
  refine hcl.mono ?_
  rintro e w5 ⟨v, rfl, hown, hb5⟩
  obtain ⟨A5, c5', rfl, _⟩ := hown.reads_len (n := m + 1) HL.out
  have hR5 := Cel.later hR4 hb5
  have hP5 := Cel.later hP4 hb5
  have bel5 := bel4.trans (hb5.mono bel4.size)
  have hlP := hP4.lt
  clear p0 p1 p2 p3 p4 p5 hcl hR4
  have p0 := hP5.cell 0
  have p1 := hP5.cell 1
  have p2 := hP5.cell 2
  have p3 := hP5.cell 3
  have p4 := hP5.cell 4
  have p5 := hP5.cell 5
  simp at p0 p1 p2 p3 p4 p5
  have pf := hP5.free 5
  have c0 := hR5.cell 0
  have c1 := hR5.cell 1
  have c2 := hR5.cell 2
  have c3 := hR5.cell 3
  have c4 := hR5.cell 4
  have c5 := hR5.cell 5
  simp at c0 c1 c2 c3 c4 c5
  have f0 := hR5.free 0
  have f1 := hR5.free 1
  have f2 := hR5.free 2
  have f3 := hR5.free 3
  have f4 := hR5.free 4
  have f5 := hR5.free 5
  have hne : w.heap.size ≠ w2.heap.size := by omega
  have hne' : w2.heap.size ≠ w.heap.size := by omega
  have hO6 : Only [w2.heap.size] w5 (w5.setCell ⟨w2.heap.size, 5, none⟩ (.slice A5 (m + 1) c5')) := (Only.refl _ _).put (.inl (by simp)) _
  have hR6 := hR5.only hO6 (by simpa using hne)
  have hw6 := hown.only hO6 (fun i hi => by have := (hown.lt i hi).1; simp; omega)
  have bel6 := bel5.trans (hO6.below bel5.size (by simp; omega))
  go_wp2
  refine bodyPost_ret (de_results rfl rfl rfl (putAll_cel hR6 com sec ap fl ct (.slice A5 (m + 1) c5'))) rfl ⟨_, rfl, ?_, putAll_below bel6 (Nat.le_refl _) _ _ _ _ _ _⟩
  have hz : w.heap.size ≤ w4.heap.size := bel4.size
  exact (hw6.only (putAll_only _ _ _ _ _ _ _ _) (fun i hi => by have := (hown.lt i hi).1; simp; omega)).more hz

theorem decode_any (a : Option Addr) (l : List Byte) (n c : Nat) (w : World) (hl : Hid (l.length = n)) (hb : Bs w w.heap.size a l) (hn : a = none → c = 0) (hnc : n ≤ c) (hcm : c ≤ maxLen) :
    Calls Try.prog 53 #[.slice a n c] w fun e w' => ∃ v, e = .returned (.tuple #[.agg #[.bool (deP l).com, .bool (deP l).sec, .int .i64 (deP l).ap, .int .i64 (deP l).fl, .int .i64 (deP l).ct, v], .int .i64 ((deN l : Nat) : Int), .int .i64 (deE l)]) ∧ Ow w' w.heap.size 5 v (deP l).d ∧ Below w.heap.size w w' := by
  by_cases h : siE l = 0
  · by_cases h2 : l.length < tot l
    · obtain ⟨e1, e2, e3⟩ := de_short h h2
      rw [e1, e2, e3]
      exact (decode_short a l n c w hl hb hn hnc hcm h h2).mono fun e w' ⟨k1, k2⟩ => ⟨_, k1, Ow_nil _ _, k2⟩
    · cases hok : (rd l).ok with
      | false =>
        obtain ⟨e1, e2, e3⟩ := de_form h h2 hok
        rw [e1, e2, e3]
        exact (decode_form a l n c w hl hb hn hnc hcm h h2 hok).mono fun e w' ⟨k1, k2⟩ => ⟨_, k1, Ow_nil _ _, k2⟩
      | true =>
        obtain ⟨e1, e2, e3⟩ := de_good h h2 hok
        rw [e1, e2, e3]
        exact decode_good a l n c w hl hb hn hnc hcm h h2 hok
  · obtain ⟨e1, e2, e3⟩ := de_err h
    rw [e1, e2, e3]
    exact (decode_err a l n c w hl hb hn hnc hcm h).mono fun e w' ⟨k1, k2⟩ => ⟨_, k1, Ow_nil _ _, k2⟩
end Go.Proofs.Ytcmonalnhdodmaa.Pac

/-
  One word for 'this slice value reads as these bytes', with its length, its nil rule and its bounds; a Reader of package bits beside a struct's block, as one state; a struct of six cells stored whole.
-/
namespace Go.Proofs.Ytcmonalnhdodmaa
open Go.RowKit

/-- A leads to the bytes l, n of them, in w -/
structure Rd (w : World) (A : Option Addr) (l : List Byte) (n c : Nat) : Prop where
  len : l.length = n
  bs : Bs w w.heap.size A l
  nil : A = none → c = 0
  le : n ≤ c
  max : c ≤ maxLen
theorem Rd.later {w w' : World} {A : Option Addr} {l : List Byte} {n c : Nat} (h : Rd w A l n c) (hb : Below w.heap.size w w') : Rd w' A l n c := ⟨h.len, (h.bs.below hb).more hb.size, h.nil, h.le, h.max⟩
theorem Rd.of {w : World} {base n : Nat} {v : Value} {l : List Byte} (h : Ow w base 5 v l) (hl : l.length = n) : ∃ A c, v = .slice A n c ∧ Rd w A l n c := by
  obtain ⟨A, c, h1, h2, h3, h4, h5⟩ := h.reads_len hl
  exact ⟨A, c, h1, hl, h2, h3, h4, h5⟩
theorem Rd.only {w w' : World} {b off : Nat} {l : List Byte} {n c : Nat} {S : List Nat} (h : Rd w (some ⟨b, off, none⟩) l n c) (k : Only S w w') (hb : b ∉ S) : Rd w' (some ⟨b, off, none⟩) l n c := by
  refine ⟨h.len, fun hl => ?_, h.nil, h.le, h.max⟩
  obtain ⟨b', o', e, hlt, hc⟩ := h.bs hl
  injection e with e
  injection e with e1 e2
  subst e1 e2
  refine ⟨b, off, rfl, Nat.lt_of_lt_of_le hlt k.size, fun i x hx => ?_⟩
  have h1 := hc i x hx
  have h2 := k.block b hlt hb
  unfold World.cell? at h1 ⊢
  simp only at h1 ⊢
  rw [h2]
  exact h1
theorem Rd.conv {w w' : World} {A : Option Addr} {l : List Byte} {n c : Nat} (h : Rd w A l n c) (hb : Below w.heap.size w w') : (convert 26 9 (.slice A n c)).run Try.prog w' = .ok (.string (str l)) w' := by
  have hl := h.len
  subst hl
  exact run_str w' is_bytes Try.underlying9 (h.bs.below hb) h.nil
/-- the cells of what a slice leads to, in every later world -/
theorem Rd.at_ {w : World} {A : Option Addr} {l : List Byte} {n c : Nat} (h : Rd w A l n c) (hl : 0 < n) : ∃ b off, A = some ⟨b, off, none⟩ ∧ b < w.heap.size ∧ ∀ i x, l[i]? = some x → w.cell? ⟨b, off + i, none⟩ = some (B8 x) := h.bs (by rw [h.len]; exact hl)

/-- a row that the call lays is an own slice -/
theorem Ow_new (w : World) (base : Nat) (e : TypeId) (l : List Byte) (n : Nat) (C : Array Value) (hn : l.length = n) (hC : C = (l.map B8).toArray) (h : base ≤ w.heap.size) (hm : n ≤ maxLen) (g : Nat) (hg : w.heap.size = g) : Ow (w.alloc (.cells C e)) base e (.slice (some ⟨g, 0, none⟩) n n) l := by
  subst hn hg
  exact ⟨by simp, .inr ⟨w.heap.size, l.length, C, rfl, h, heap_alloc_new w _, Nat.le_refl _, hm, by rw [hC]; simp, by rw [hC]; simp [← List.map_take]⟩⟩

/-- a Reader at block g over the bytes bs, p bits passed; the struct of type T that the call fills lies in the first block behind w0's; w0's blocks are as they were -/
structure RS (T : TypeId) (w0 : World) (bs : List Byte) (p : Nat) (cs : Array Value) (g : Nat) (w : World) : Prop where
  rd : ∃ r, RAt w (w0.heap.size + 1) g r bs p false
  hg : w0.heap.size + 1 ≤ g
  cel : Cel w w0.heap.size T cs
  bel : Below w0.heap.size w0 w
theorem RS.get {T : TypeId} {w0 w : World} {bs : List Byte} {p g : Nat} {cs : Array Value} (h : RS T w0 bs p cs g w) (y : Int) (k N : Nat) (hy : y = (k : Int)) (hN : numAt bs p k = N) (hL : bs.length < 1000000) (hk : k ≤ 64) (hp : p + k ≤ 8 * bs.length) :
    Calls Try.prog 59 #[.pointer (some ⟨g, 0, none⟩), .int .i64 y] w fun e w' => e = .returned (.int .u64 (N : Int)) ∧ RS T w0 bs (p + k) cs g w' := by
  obtain ⟨⟨r, h1⟩, h2, h3, h4⟩ := h
  subst hy hN
  refine (get_ok w _ g r bs p k h1 hL hk hp).mono ?_
  rintro e w' ⟨rfl, h5, h6⟩
  have hlt := h1.lt
  exact ⟨rfl, ⟨r, h5⟩, h2, h3.only h6 (by simp; omega), h4.trans (h6.below (by omega) (by simp; omega))⟩
theorem RS.put {T : TypeId} {w0 w : World} {bs : List Byte} {p g : Nat} {cs : Array Value} (h : RS T w0 bs p cs g w) (i : Nat) (v : Value) : RS T w0 bs p (cs.setIfInBounds i v) g (w.setCell ⟨w0.heap.size, i, none⟩ v) := by
  obtain ⟨⟨r, h1⟩, h2, h3, h4⟩ := h
  have hO : Only [w0.heap.size] w (w.setCell ⟨w0.heap.size, i, none⟩ v) := (Only.refl _ _).put (.inl (by simp)) _
  exact ⟨⟨r, h1.only hO (by simp; omega) (fun j hj => by have := (h1.row j hj).1; simp; omega)⟩, h2, h3.put i v, h4.trans (hO.below h4.size (by simp))⟩

/-- a struct of six cells stored whole over another -/
def put6 (w : World) (g : Nat) (v0 v1 v2 v3 v4 v5 : Value) : World :=
  (((((w.setCell ⟨g, 0, none⟩ v0).setCell ⟨g, 1, none⟩ v1).setCell ⟨g, 2, none⟩ v2).setCell ⟨g, 3, none⟩ v3).setCell ⟨g, 4, none⟩ v4).setCell ⟨g, 5, none⟩ v5
theorem put6_cel {w : World} {g : Nat} {t : TypeId} {x0 x1 x2 x3 x4 x5 : Value} (h : Cel w g t #[x0, x1, x2, x3, x4, x5]) (v0 v1 v2 v3 v4 v5 : Value) : Cel (put6 w g v0 v1 v2 v3 v4 v5) g t #[v0, v1, v2, v3, v4, v5] :=
  (((((h.put 0 v0).put 1 v1).put 2 v2).put 3 v3).put 4 v4).put 5 v5
theorem put6_only (w : World) (g : Nat) (v0 v1 v2 v3 v4 v5 : Value) : Only [g] w (put6 w g v0 v1 v2 v3 v4 v5) := by
  unfold put6
  exact ((((((Only.refl [g] w).put (p := ⟨g, 0, none⟩) (.inl (by simp)) _).put (p := ⟨g, 1, none⟩) (.inl (by simp)) _).put (p := ⟨g, 2, none⟩) (.inl (by simp)) _).put (p := ⟨g, 3, none⟩) (.inl (by simp)) _).put (p := ⟨g, 4, none⟩) (.inl (by simp)) _).put (p := ⟨g, 5, none⟩) (.inl (by simp)) _
theorem put6_below {w W : World} {g : Nat} (h : Below w.heap.size w W) (hg : w.heap.size ≤ g) (v0 v1 v2 v3 v4 v5 : Value) : Below w.heap.size w (put6 W g v0 v1 v2 v3 v4 v5) :=
  h.trans ((put6_only _ _ _ _ _ _ _ _).below h.size (by simpa using hg))
end Go.Proofs.Ytcmonalnhdodmaa

/-
  A struct of twelve cells stored whole over another; a part of what a slice leads to.
-/
namespace Go.Proofs.Ytcmonalnhdodmaa
open Go.RowKit

theorem set_only (w : World) (g i : Nat) (u : Value) : Only [g] w (w.setCell ⟨g, i, none⟩ u) := (Only.refl [g] w).put (p := ⟨g, i, none⟩) (.inl (by simp)) u
theorem set_then {w w' : World} {g : Nat} (h : Only [g] w w') (i : Nat) (u : Value) : Only [g] w (w'.setCell ⟨g, i, none⟩ u) := h.put (p := ⟨g, i, none⟩) (.inl (by simp)) u

def put12 (w : World) (g : Nat) (v0 v1 v2 v3 v4 v5 v6 v7 v8 v9 v10 v11 : Value) : World :=
  (((((((((((w.setCell ⟨g, 0, none⟩ v0).setCell ⟨g, 1, none⟩ v1).setCell ⟨g, 2, none⟩ v2).setCell ⟨g, 3, none⟩ v3).setCell ⟨g, 4, none⟩ v4).setCell ⟨g, 5, none⟩ v5).setCell ⟨g, 6, none⟩ v6).setCell ⟨g, 7, none⟩ v7).setCell ⟨g, 8, none⟩ v8).setCell ⟨g, 9, none⟩ v9).setCell ⟨g, 10, none⟩ v10).setCell ⟨g, 11, none⟩ v11
theorem put12_cel {w : World} {g : Nat} {t : TypeId} {x0 x1 x2 x3 x4 x5 x6 x7 x8 x9 x10 x11 : Value} (h : Cel w g t #[x0, x1, x2, x3, x4, x5, x6, x7, x8, x9, x10, x11]) (v0 v1 v2 v3 v4 v5 v6 v7 v8 v9 v10 v11 : Value) : Cel (put12 w g v0 v1 v2 v3 v4 v5 v6 v7 v8 v9 v10 v11) g t #[v0, v1, v2, v3, v4, v5, v6, v7, v8, v9, v10, v11] := by
  unfold put12
  have h0 : Cel _ g t #[v0, x1, x2, x3, x4, x5, x6, x7, x8, x9, x10, x11] := h.put 0 v0
  have h1 : Cel _ g t #[v0, v1, x2, x3, x4, x5, x6, x7, x8, x9, x10, x11] := h0.put 1 v1
  have h2 : Cel _ g t #[v0, v1, v2, x3, x4, x5, x6, x7, x8, x9, x10, x11] := h1.put 2 v2
  have h3 : Cel _ g t #[v0, v1, v2, v3, x4, x5, x6, x7, x8, x9, x10, x11] := h2.put 3 v3
  have h4 : Cel _ g t #[v0, v1, v2, v3, v4, x5, x6, x7, x8, x9, x10, x11] := h3.put 4 v4
  have h5 : Cel _ g t #[v0, v1, v2, v3, v4, v5, x6, x7, x8, x9, x10, x11] := h4.put 5 v5
  have h6 : Cel _ g t #[v0, v1, v2, v3, v4, v5, v6, x7, x8, x9, x10, x11] := h5.put 6 v6
  have h7 : Cel _ g t #[v0, v1, v2, v3, v4, v5, v6, v7, x8, x9, x10, x11] := h6.put 7 v7
  have h8 : Cel _ g t #[v0, v1, v2, v3, v4, v5, v6, v7, v8, x9, x10, x11] := h7.put 8 v8
  have h9 : Cel _ g t #[v0, v1, v2, v3, v4, v5, v6, v7, v8, v9, x10, x11] := h8.put 9 v9
  have h10 : Cel _ g t #[v0, v1, v2, v3, v4, v5, v6, v7, v8, v9, v10, x11] := h9.put 10 v10
  exact h10.put 11 v11
theorem put12_only (w : World) (g : Nat) (v0 v1 v2 v3 v4 v5 v6 v7 v8 v9 v10 v11 : Value) : Only [g] w (put12 w g v0 v1 v2 v3 v4 v5 v6 v7 v8 v9 v10 v11) := by
  unfold put12
  exact set_then (set_then (set_then (set_then (set_then (set_then (set_then (set_then (set_then (set_then (set_then (set_only _ g 0 _) 1 _) 2 _) 3 _) 4 _) 5 _) 6 _) 7 _) 8 _) 9 _) 10 _) 11 _
theorem put12_below {w W : World} {g : Nat} (h : Below w.heap.size w W) (hg : w.heap.size ≤ g) (v0 v1 v2 v3 v4 v5 v6 v7 v8 v9 v10 v11 : Value) : Below w.heap.size w (put12 W g v0 v1 v2 v3 v4 v5 v6 v7 v8 v9 v10 v11) :=
  h.trans ((put12_only _ _ _ _ _ _ _ _ _ _ _ _ _ _).below h.size (by simpa using hg))

/-- a part of what a slice leads to -/
theorem Rd.sub {w : World} {b off n c : Nat} {l : List Byte} (h : Rd w (some ⟨b, off, none⟩) l n c) (k m : Nat) (hk : k + m ≤ n) : Rd w (some ⟨b, off + k, none⟩) ((l.drop k).take m) m (c - k) := by
  have hln := h.len
  have hle := h.le
  have hmx := h.max
  exact ⟨(by rw [List.length_take, List.length_drop]; omega), Pac.Bs_sub h.bs rfl k m, (fun e => nomatch e), by omega, by omega⟩
theorem Rd.head {w : World} {a : Option Addr} {n c : Nat} {l : List Byte} (h : Rd w a l n c) (m : Nat) (hk : m ≤ n) : Rd w a (l.take m) m c := by
  have hln := h.len
  have hle := h.le
  refine ⟨by rw [List.length_take]; omega, fun hl => ?_, h.nil, by omega, h.max⟩
  obtain ⟨b, off, e, hb, hc⟩ := h.bs (by rw [List.length_take] at hl; omega)
  exact ⟨b, off, e, hb, fun i x hx => hc i x (by rw [List.getElem?_take] at hx; split at hx; exact hx; cases hx)⟩
end Go.Proofs.Ytcmonalnhdodmaa

/-
  Words for byte slices beside each other: a slice that begins within its row read as bytes (Md.rd), kept while other blocks are written (Rd.put), of none of some blocks (Of); an append of no bytes.
-/
namespace Go.Proofs.Ytcmonalnhdodmaa
open Go.RowKit

section
variable {w w' : World} {base n c g : Nat} {A : Option Addr} {l : List Byte} {S F F' : List Nat}
theorem Md.off {e t : TypeId} {cs : Array Value} (h : Md w base e A n c l) (k : Cel w g t cs) (ht : e ≠ t) : g ∉ blkA A := fun hm => by
  obtain ⟨cs', hc⟩ := h.cel g hm
  exact hc.apart k ht rfl
theorem Md.rd (h : Md w base 5 A n c l) : Rd w A l n c := by
  obtain ⟨h1, h2, h3, h4⟩ := h.reads
  exact ⟨h.1, h1, h2, h3, h4⟩
theorem Rd.put (h : Rd w A l n c) (k : Only S w w') (ha : ∀ x ∈ blkA A, x ∉ S) : Rd w' A l n c := by
  cases A with
  | none => exact ⟨h.len, (fun hl => by obtain ⟨b, off, e, _⟩ := h.bs hl; cases e), h.nil, h.le, h.max⟩
  | some a =>
    refine ⟨h.len, fun hl => ?_, h.nil, h.le, h.max⟩
    obtain ⟨b, off, e, hb, hc⟩ := h.bs hl
    have hbS : b ∉ S := ha b (by rw [e]; simp [blkA])
    refine ⟨b, off, e, Nat.lt_of_lt_of_le hb k.size, fun i x hx => ?_⟩
    rw [← hc i x hx]
    unfold World.cell?
    simp only [k.block b hb hbS]
/-- where an address leads is none of the blocks F, and is there -/
def Of (w : World) (A : Option Addr) (F : List Nat) : Prop := ∀ x ∈ blkA A, x ∉ F ∧ x < w.heap.size
theorem Of.next (h : Of w A F) (hs : w.heap.size ≤ w'.heap.size) (hF : ∀ x ∈ F', x ∈ F ∨ w.heap.size ≤ x) : Of w' A F' := fun x hx => by
  obtain ⟨h1, h2⟩ := h x hx
  refine ⟨fun hm => ?_, by omega⟩
  rcases hF x hm with h3 | h3
  · exact h1 h3
  · omega
theorem Of.later (h : Of w A F) (hs : w.heap.size ≤ w'.heap.size) : Of w' A F := h.next hs (fun _ hx => .inl hx)
theorem Of.new (h : Ow w' w.heap.size 5 (.slice A n c) l) (hF : ∀ x ∈ F, x < w.heap.size) : Of w' A F := fun x hx => by
  rw [blkA_own A n c] at hx
  have := h.lt x (by simpa using hx)
  exact ⟨fun hm => by have := hF x hm; omega, this.2⟩
theorem Rd.off (h : Rd w A l n c) (k : Only F w w') (ho : Of w A F) : Rd w' A l n c := Rd.put h k (fun x hx => (ho x hx).1)
/-- what a slice expression 's[k:]' leaves -/
theorem Rd.drop (h : Rd w A l n c) {k : Nat} (hk : k ≤ n) : Rd w (if c = k then A else A.map (fun x => x.add k)) (l.drop k) (n - k) (c - k) := by
  have hl := h.len
  have hle := h.le
  have hmx := h.max
  refine ⟨by rw [List.length_drop, hl], fun h0 => ?_, fun e => ?_, by omega, by omega⟩
  · rw [List.length_drop] at h0
    obtain ⟨b, off, rfl, hb, hc⟩ := h.bs (by omega)
    rw [if_neg (by omega)]
    refine ⟨b, off + k, by simp [Addr.add], hb, fun i x hx => ?_⟩
    rw [List.getElem?_drop] at hx
    have := hc _ x hx
    rw [← Nat.add_assoc] at this
    exact this
  · split at e
    · have := h.nil e; omega
    · cases A with
      | none => have := h.nil rfl; omega
      | some a => cases e
/-- append of no bytes -/
theorem run_mid0 {P : Program} {t e ty : TypeId} (hT : IsBytes P t e) (h : Md w base e A n c l) (A2 : Option Addr) (c2 : Nat) :
    (Builtin.append_ #[t, t] ty #[.slice A n c, .slice A2 0 c2]).run P w = .ok (.slice A n c) w := by
  obtain ⟨ht, _, i, hi, hz, h1, h2⟩ := hT
  have hle := h.reads.2.2.1
  have hf : (Builtin.firstCells 1 0 (.slice A2 0 c2)).run P w = .ok #[] w := by
    cases A2 with
    | none => rfl
    | some a => rfl
  cases A with
  | none => simp [Builtin.append_, run_underlying ht, sizeOf, typeInfo, hi, h1, Builtin.lenOf, hf, hle]
  | some a =>
    have hst : (storeCells (a.add n) []).run P w = .ok () w := rfl
    simp [Builtin.append_, run_underlying ht, sizeOf, typeInfo, hi, h1, Builtin.lenOf, hf, hle, hst]
end
/-- append of bytes, their length as a number -/
theorem wpList_appN {P : Program} (w : World) {t e : TypeId} (hT : IsBytes P t e) {ops : Array Oper} {rest : List Oper} {o : Oper} {a : Act} {Q : Exit → Act → World → Prop} (hgd : o.guard = none) (s x : Operand)
    (ho : o.op = .call { callee := .builtin .append, args := #[s, x], argTypes := #[t, t] })
    {base : Nat} {v : Value} {m : List Byte} (hs : a.eval s = v) (hown : Ow w base e v m)
    {B n : Nat} {A : Option Addr} {l : List Byte} {c : Nat} (hl : l.length = n) (hx : a.eval x = .slice A n c) (hr : Bs w B A l) (hn : A = none → c = 0) (h47 : m.length + n ≤ 140737488355328) (hbase : base ≤ w.heap.size)
    (h : ∀ v' w', Ow w' base e v' (m ++ l) → w.grownBy w' v.ownBlock → (v'.ownBlock = v.ownBlock ∨ v'.ownBlock = some w.heap.size) → wpList P ops Q rest (a.put o.dst v') w') : wpList P ops Q (o :: rest) a w := by
  subst hl
  exact wpList_appAt w hT hgd s x ho hs hown hx hr hn h47 hbase h
end Go.Proofs.Ytcmonalnhdodmaa

/-
  Numbers modulo a power of two: masks, Go's remainder, distances. No dump is imported.
-/
namespace Go.Proofs.Ytcmonalnhdodmaa
open Go.RowKit

/-- 2 to the power b -/
def pw (b : Int) : Int := ((2 ^ b.toNat : Nat) : Int)

theorem pw_pos (b : Int) : 1 ≤ pw b := by
  have : 0 < 2 ^ b.toNat := Nat.two_pow_pos _
  unfold pw
  omega
theorem pw_le {b : Int} (h : b ≤ 32) : pw b ≤ 4294967296 := by
  have : 2 ^ b.toNat ≤ 2 ^ 32 := Nat.pow_le_pow_right (by decide) (by omega)
  unfold pw
  omega
theorem pw_half {b : Int} (h : 1 ≤ b) : pw b = 2 * pw (b - 1) := by
  obtain ⟨k, rfl⟩ := Int.eq_ofNat_of_zero_le (show 0 ≤ b - 1 from by omega) |>.elim fun k hk => (⟨k, by omega⟩ : ∃ k : Nat, b = (k : Int) + 1)
  unfold pw
  rw [show ((k : Int) + 1).toNat = k + 1 by omega, show ((k : Int) + 1 - 1).toNat = k by omega, Nat.pow_succ]
  omega
theorem pw_dvd {b : Int} (h : b ≤ 63) : pw b ∣ 9223372036854775808 := by
  have : 2 ^ b.toNat ∣ 2 ^ 63 := Nat.pow_dvd_pow 2 (by omega)
  unfold pw
  exact Int.natCast_dvd_natCast.2 this

theorem and_pw (x b : Int) (hb : b ≤ 32) : bits .and .i64 x (pw b - 1) = x % pw b := by
  have hd : 2 ^ b.toNat ∣ 2 ^ 64 := Nat.pow_dvd_pow 2 (by omega)
  have hle := pw_le hb
  have hp : 0 < 2 ^ b.toNat := Nat.two_pow_pos _
  have h2 : (2 : Nat) ^ 64 = 18446744073709551616 := rfl
  have hM : 2 ^ b.toNat ≤ 4294967296 := by unfold pw at hle; omega
  show IntKind.i64.wrap ((BitVec.ofInt 64 x &&& BitVec.ofInt 64 (pw b - 1)).toNat : Int) = _
  have e1 : pw b - 1 = ((2 ^ b.toNat - 1 : Nat) : Int) := by unfold pw; omega
  have e2 : (BitVec.ofInt 64 (pw b - 1)).toNat = 2 ^ b.toNat - 1 := by
    rw [e1, BitVec.ofInt_natCast, BitVec.toNat_ofNat]
    exact Nat.mod_eq_of_lt (by omega)
  have e3 : (BitVec.ofInt 64 x).toNat = (x % 18446744073709551616).toNat := by
    rw [BitVec.toNat_ofInt]
    rfl
  have hr : 0 ≤ x % 18446744073709551616 := Int.emod_nonneg _ (by decide)
  have hk : (x % 18446744073709551616).toNat % 2 ^ b.toNat < 2 ^ b.toNat := Nat.mod_lt _ hp
  rw [BitVec.toNat_and, e2, e3, Nat.and_two_pow_sub_one_eq_mod, IntKind.wrap_i64]
  have e4 : (((x % 18446744073709551616).toNat % 2 ^ b.toNat : Nat) : Int) = x % pw b := by
    rw [Int.natCast_emod, Int.toNat_of_nonneg hr]
    unfold pw
    exact Int.emod_emod_of_dvd _ (Int.natCast_dvd_natCast.2 hd)
  rw [← e4]
  omega

theorem md_nonneg (x b : Int) : 0 ≤ x % pw b := Int.emod_nonneg _ (by have := pw_pos b; omega)
theorem md_lt (x b : Int) : x % pw b < pw b := Int.emod_lt_of_pos _ (by have := pw_pos b; omega)
theorem md_self {x b : Int} (h0 : 0 ≤ x) (h1 : x < pw b) : x % pw b = x := Int.emod_eq_of_lt h0 h1
theorem md_iff {x b : Int} : x = x % pw b ↔ 0 ≤ x ∧ x < pw b :=
  ⟨fun h => by rw [h]; exact ⟨md_nonneg _ _, md_lt _ _⟩, fun h => (md_self h.1 h.2).symm⟩
theorem md_wrap (x b : Int) (hb : b ≤ 63) : IntKind.i64.wrap x % pw b = x % pw b := by
  obtain ⟨q, hq⟩ := pw_dvd hb
  rw [IntKind.wrap_i64]
  have e : (x + 9223372036854775808) % 18446744073709551616 - 9223372036854775808 = x + pw b * (-(2 * q * ((x + 9223372036854775808) / 18446744073709551616))) := by
    have h1 := Int.emod_add_mul_ediv (x + 9223372036854775808) 18446744073709551616
    have h2 : pw b * (-(2 * q * ((x + 9223372036854775808) / 18446744073709551616))) = -(18446744073709551616 * ((x + 9223372036854775808) / 18446744073709551616)) := by
      rw [show (18446744073709551616 : Int) = 2 * 9223372036854775808 from rfl, hq]
      simp only [Int.mul_neg, Int.mul_assoc, Int.mul_left_comm, Int.mul_comm]
    rw [h2]
    omega
  rw [e, Int.add_mul_emod_self_left]
theorem md_wrap64 (x b : Int) (hb : b ≤ 63) : wrap64 x % pw b = x % pw b := by
  have h := md_wrap x b hb
  have e : IntKind.i64.wrap x = wrap64 x := by rw [IntKind.wrap_i64]; unfold wrap64; omega
  rw [← e]
  exact h

/-- Go's remainder, turned into the one from 0 up -/
theorem tmod_pw (x b : Int) : (x.tmod (pw b) + pw b).tmod (pw b) = x % pw b := by
  have hp := pw_pos b
  have h1 : -pw b < x.tmod (pw b) := by
    have := Int.lt_tmod_of_pos x (show 0 < pw b by omega)
    omega
  rw [Int.tmod_eq_emod_of_nonneg (by omega), Int.add_emod_right]
  have h2 := Int.mul_tdiv_add_tmod x (pw b)
  have h3 : x = x.tmod (pw b) + pw b * x.tdiv (pw b) := by omega
  conv => rhs; rw [h3, Int.add_mul_emod_self_left]
theorem tmod_in (x b : Int) : -pw b < x.tmod (pw b) ∧ x.tmod (pw b) < pw b := by
  have hp := pw_pos b
  exact ⟨by have := Int.lt_tmod_of_pos x (show 0 < pw b by omega); omega, Int.tmod_lt_of_pos x (by omega)⟩
theorem md_add (a n b : Int) : (a + n % pw b) % pw b = (a + n) % pw b := Int.add_emod_emod a n (pw b)

/-- a number of b bits, 1 to 32 -/
def vl (n b : Int) : Bool := decide (1 ≤ b ∧ b ≤ 32 ∧ 0 ≤ n ∧ n < pw b)
def sadd (a n b : Int) : Int := if vl a b then (a + n) % pw b else 0
def sdist (x y b : Int) : Int := if vl x b && vl y b then (y - x) % pw b else 0
def sbef (x y b : Int) : Bool := decide (1 ≤ sdist x y b ∧ sdist x y b < pw (b - 1))
def swin (n f s b : Int) : Bool := vl n b && vl f b && decide (s ≤ pw b ∧ sdist f n b < s)

theorem vl_iff {n b : Int} : vl n b = true ↔ 1 ≤ b ∧ b ≤ 32 ∧ 0 ≤ n ∧ n < pw b := by unfold vl; simp
theorem vl_width {n b : Int} (h : ¬ (1 ≤ b ∧ b ≤ 32)) : vl n b = false := by unfold vl; simp; omega
theorem sadd_ok {a n b : Int} (h : vl a b = true) : sadd a n b = (a + n) % pw b := by unfold sadd; rw [if_pos h]
theorem sadd_bad {a n b : Int} (h : vl a b = false) : sadd a n b = 0 := by unfold sadd; rw [h]; rfl
theorem sdist_ok {x y b : Int} (h : vl x b = true) (h' : vl y b = true) : sdist x y b = (y - x) % pw b := by unfold sdist; rw [h, h']; rfl
theorem sdist_bad {x y b : Int} (h : (vl x b && vl y b) = false) : sdist x y b = 0 := by unfold sdist; rw [h]; rfl
theorem sdist_nonneg (x y b : Int) : 0 ≤ sdist x y b := by unfold sdist; split; exact md_nonneg _ _; exact Int.le_refl _
theorem sdist_lt {x y b : Int} : sdist x y b < pw b := by unfold sdist; split; exact md_lt _ _; have := pw_pos b; omega
end Go.Proofs.Ytcmonalnhdodmaa

/-
  The walks of package serial: low, Valid, Add, Distance, Before, Within.
-/
namespace Go.Proofs.Ytcmonalnhdodmaa
open Go.RowKit

theorem shl_pw (b : Int) (h0 : 0 ≤ b) (h1 : b ≤ 32) : Op.shift .shl .i64 1 .i64 b = pure (.int .i64 (pw b)) := by
  have hle := pw_le h1
  have hp := pw_pos b
  rw [shift_shl_any _ _ _ _ h0, show min b.toNat IntKind.i64.bits = b.toNat from Nat.min_eq_left (by have : IntKind.i64.bits = 64 := rfl; omega)]
  have e : (1 : Int) * 2 ^ b.toNat = pw b := by unfold pw; rw [Int.one_mul, Int.natCast_pow]; rfl
  rw [e, IntKind.wrap_i64, show (pw b + 9223372036854775808) % 18446744073709551616 - 9223372036854775808 = pw b by omega]

theorem ret_of {k : IntKind} {a b : Int} (h : a = b) : Ending.returned (.int k a) = .returned (.int k b) := by rw [h]
theorem bool_of {a b : Bool} (h : a = b) : Ending.returned (.bool a) = .returned (.bool b) := by rw [h]
theorem w64_pw (b : Int) (h1 : 1 ≤ b) (h2 : b ≤ 32) : wrap64 (2 ^ (b.toNat - 1)) = pw (b - 1) := by
  have hle := pw_le (b := b - 1) (by omega)
  have hp := pw_pos (b - 1)
  have e : (2 : Int) ^ (b.toNat - 1) = pw (b - 1) := by unfold pw; rw [show (b - 1).toNat = b.toNat - 1 by omega, Int.natCast_pow]; rfl
  rw [e]
  unfold wrap64
  omega

set_option maxHeartbeats 400000 in
theorem low_any (n b : Int) (w : World) (h1 : 1 ≤ b) (h2 : b ≤ 32) :
    Calls Try.prog 44 #[.int .i64 n, .int .i64 b] w fun e w' => e = .returned (.int .i64 (n % pw b)) ∧ w = w' := by
  have hs := shl_pw b (by omega) h2
  have hm := and_pw n b h2
  obtain ⟨M, hM⟩ : ∃ M, M = pw b := ⟨_, rfl⟩
  have hl := pw_le h2
  have hp := pw_pos b
  rw [← hM] at hs hm hl hp ⊢
  have HM := Lib.hid hm
  clear hM hm h1 h2
  go_enter Try.func44, Try.ntmps44
  go_wp2
  go_ret
  exact ⟨ret_of HM.out, rfl⟩

set_option maxHeartbeats 400000 in
theorem valid_any (n b : Int) (w : World) :
    Calls Try.prog 26 #[.int .i64 n, .int .i64 b] w fun e w' => e = .returned (.bool (vl n b)) ∧ w = w' := by
  by_cases h1 : 1 ≤ b
  · by_cases h2 : b ≤ 32
    · have hlow := low_any n b w h1 h2
      have e : vl n b = (n == n % pw b) := by
        rw [Bool.eq_iff_iff, vl_iff, beq_iff_eq, md_iff]
        simp [h1, h2]
      rw [e]
      obtain ⟨d, hd⟩ : ∃ d, d = n % pw b := ⟨_, rfl⟩
      rw [← hd] at hlow ⊢
      clear hd e
      go_enter Try.func26, Try.ntmps26
      go_wp2_with (go_at_call 44; refine hlow.mono ?_; rintro e w' ⟨rfl, rfl⟩)
      go_ret
      exact ⟨rfl, rfl⟩
    · rw [vl_width (by omega)]
      have h3 : decide (b ≤ 32) = false := by simpa using h2
      go_enter Try.func26, Try.ntmps26
      go_wp2
      go_ret
      exact ⟨rfl, rfl⟩
  · rw [vl_width (by omega)]
    have h3 : decide (1 ≤ b) = false := by simpa using h1
    go_enter Try.func26, Try.ntmps26
    go_wp2
    go_ret
    exact ⟨rfl, rfl⟩

set_option maxHeartbeats 400000 in
theorem add_any (a n b : Int) (w : World) :
    Calls Try.prog 46 #[.int .i64 a, .int .i64 n, .int .i64 b] w fun e w' => e = .returned (.int .i64 (sadd a n b)) ∧ w = w' := by
  have hv := valid_any a b w
  cases h : vl a b with
  | true =>
    obtain ⟨h1, h2, _, _⟩ := vl_iff.1 h
    have hlow := low_any (wrap64 (a + n)) b w h1 h2
    rw [md_wrap64 _ _ (by omega), ← sadd_ok h] at hlow
    rw [h] at hv
    clear h h1 h2
    go_enter Try.func46, Try.ntmps46
    go_wp2_with (first
      | (go_at_call 26; refine hv.mono ?_; rintro e w' ⟨rfl, rfl⟩)
      | (go_at_call 44; refine hlow.mono ?_; rintro e w' ⟨rfl, rfl⟩))
    go_ret
    exact ⟨rfl, rfl⟩
  | false =>
    rw [sadd_bad h]
    rw [h] at hv
    clear h
    go_enter Try.func46, Try.ntmps46
    go_wp2_with (first
      | (go_at_call 26; refine hv.mono ?_; rintro e w' ⟨rfl, rfl⟩))
    go_ret
    exact ⟨rfl, rfl⟩

set_option maxHeartbeats 400000 in
theorem distance_any (x y b : Int) (w : World) :
    Calls Try.prog 45 #[.int .i64 x, .int .i64 y, .int .i64 b] w fun e w' => e = .returned (.int .i64 (sdist x y b)) ∧ w = w' := by
  have hv := valid_any x b w
  have hu := valid_any y b w
  cases h : vl x b with
  | false =>
    rw [sdist_bad (by rw [h]; rfl)]
    rw [h] at hv
    clear h hu
    go_enter Try.func45, Try.ntmps45
    go_wp2_with fail
    refine hv.mono ?_
    rintro e w' ⟨rfl, rfl⟩
    go_wp2
    go_ret
    exact ⟨rfl, rfl⟩
  | true =>
    cases h' : vl y b with
    | false =>
      rw [sdist_bad (by rw [h, h']; rfl)]
      rw [h] at hv
      rw [h'] at hu
      clear h h'
      go_enter Try.func45, Try.ntmps45
      go_wp2_with fail
      refine hv.mono ?_
      rintro e w' ⟨rfl, rfl⟩
      go_wp2_with fail
      refine hu.mono ?_
      rintro e w' ⟨rfl, rfl⟩
      go_wp2
      go_ret
      exact ⟨rfl, rfl⟩
    | true =>
      obtain ⟨h1, h2, h3, h4⟩ := vl_iff.1 h
      obtain ⟨_, _, h5, h6⟩ := vl_iff.1 h'
      have hle := pw_le h2
      have h7 : x < 4294967296 := by omega
      have h8 : y < 4294967296 := by omega
      have hlow := low_any (y - x) b w h1 h2
      rw [← sdist_ok h h'] at hlow
      rw [h] at hv
      rw [h'] at hu
      clear h h' h1 h2 h4 h6 hle
      go_enter Try.func45, Try.ntmps45
      go_wp2_with fail
      refine hv.mono ?_
      rintro e w' ⟨rfl, rfl⟩
      go_wp2_with fail
      refine hu.mono ?_
      rintro e w' ⟨rfl, rfl⟩
      go_wp2_with fail
      refine hlow.mono ?_
      rintro e w' ⟨rfl, rfl⟩
      go_wp2
      go_ret
      exact ⟨rfl, rfl⟩

theorem sbef_low {x y b : Int} (h : sdist x y b < 1) : sbef x y b = false := by unfold sbef; simp; omega
theorem sdist_valid {x y b : Int} (h : 1 ≤ sdist x y b) : vl x b = true ∧ vl y b = true := by
  unfold sdist at h
  split at h
  · rename_i e; simpa using e
  · omega

theorem swin_bad1 {n f s b : Int} (h : vl n b = false) : swin n f s b = false := by unfold swin; rw [h]; rfl
theorem swin_bad2 {n f s b : Int} (h : vl f b = false) : swin n f s b = false := by unfold swin; rw [h]; simp
theorem swin_bad3 {n f s b : Int} (h : ¬ s ≤ pw b) : swin n f s b = false := by unfold swin; simp [h]
theorem swin_ok {n f s b : Int} (h : vl n b = true) (h' : vl f b = true) (hs : s ≤ pw b) : swin n f s b = decide (sdist f n b < s) := by unfold swin; rw [h, h']; simp [hs]

end Go.Proofs.Ytcmonalnhdodmaa

/-
  Package unpacker: what it is to be an Unpacker; New, works, Lost, permitted, beginning, follow; what is nil or a zero value.
-/
namespace Go.Proofs.Ytcmonalnhdodmaa.Unp
open Go.RowKit
open Pac (bel_new)

/-- block g is an Unpacker of New in state s; its rest is (A, n, c) -/
structure UC (w : World) (g : Nat) (s : US) (A : Option Addr) (n c : Nat) : Prop where
  u : Cel w g 48 #[.bool true, .bool s.bg, .int .i64 (s.ex : Int), .int .i64 (s.lo : Int), .slice A n c]
  m : Md w 0 5 A n c s.rs
/-- its blocks -/
def fam (g : Nat) (A : Option Addr) : List Nat := g :: blkA A
structure UW (w : World) (g : Nat) (F : List Nat) (s : US) : Prop where
  ex : ∃ A n c, UC w g s A n c ∧ F = fam g A
  ok : s.Ok

section
variable {w w' : World} {g n c : Nat} {s : US} {A : Option Addr} {F S : List Nat}
theorem UC.only (h : UC w g s A n c) (k : Only S w w') (hd : ∀ x ∈ fam g A, x ∉ S) : UC w' g s A n c :=
  ⟨h.u.only k (hd g (by simp [fam])), h.m.only k (fun x hx => hd x (by simp [fam, hx]))⟩
theorem UC.lt (h : UC w g s A n c) : ∀ x ∈ fam g A, x < w.heap.size := fun x hx => by
  rcases List.mem_cons.1 hx with rfl | hx
  · exact h.u.lt
  · exact (h.m.lt x hx).2
theorem UC.draws (h : UC w g s A n c) (m : Nat) : UC (w.drewN m) g s A n c := ⟨h.u, h.m⟩
theorem UC.below (h : UC w g s A n c) (k : Below w.heap.size w w') : UC w' g s A n c := h.only (S := []) (Only.of_below k) (by simp)
theorem UC.gr (h : UC w g s A n c) : g ∉ blkA A := Md.off h.m h.u (by decide)
theorem UW.only (h : UW w g F s) (k : Only S w w') (hd : ∀ x ∈ F, x ∉ S) : UW w' g F s := by
  obtain ⟨⟨A, n, c, hc, rfl⟩, h1⟩ := h
  exact ⟨⟨A, n, c, hc.only k hd, rfl⟩, h1⟩
theorem UW.below (h : UW w g F s) (k : Below w.heap.size w w') : UW w' g F s := h.only (S := []) (Only.of_below k) (by simp)
theorem UW.lt (h : UW w g F s) : ∀ x ∈ F, x < w.heap.size := by
  obtain ⟨⟨A, n, c, hc, rfl⟩, _⟩ := h
  exact hc.lt
theorem UW.mem (h : UW w g F s) : g ∈ F := by
  obtain ⟨⟨A, n, c, hc, rfl⟩, _⟩ := h
  simp [fam]
/-- the rest is another -/
theorem UC.setr (h : UC w g s A n c) {A3 : Option Addr} {n3 c3 : Nat} {r : List Byte} (hm : Md w 0 5 A3 n3 c3 r) : UC (w.setCell ⟨g, 4, none⟩ (.slice A3 n3 c3)) g { s with rs := r } A3 n3 c3 := by
  have k := set_only w g 4 (.slice A3 n3 c3)
  have hg := Md.off hm h.u (by decide)
  exact ⟨h.u.put 4 _, hm.only k (fun x hx hm => hg (List.mem_singleton.1 hm ▸ hx))⟩
end

set_option maxHeartbeats 400000 in
theorem unew_any (w : World) :
    Calls Try.prog 9 #[] w fun e w' => e = .returned (.pointer (some ⟨w.heap.size, 0, none⟩)) ∧ UW w' w.heap.size [w.heap.size] US0 ∧ Below w.heap.size w w' := by
  go_enter Try.func9, Try.ntmps9
  go_wp2
  go_ret
  exact ⟨rfl, ⟨⟨none, 0, 0, ⟨Cel.new _ _ _, Md.nil_ _ _ _⟩, rfl⟩, US0_ok⟩, bel_new _ _⟩

section
variable {w : World} {g n c : Nat} {s : US} {A : Option Addr} {F : List Nat}
set_option maxHeartbeats 400000 in
theorem uworks_uc (h : UC w g s A n c) : Calls Try.prog 24 #[.pointer (some ⟨g, 0, none⟩)] w fun e w' => e = .returned (.bool true) ∧ w = w' := by
  have c0 := h.u.cell 0
  simp at c0
  clear h
  go_enter Try.func24, Try.ntmps24
  go_wp2
  go_ret
  exact ⟨rfl, rfl⟩
/-- no Unpacker: nil, or a zero value -/
def Dead (w : World) (p : Option Addr) : Prop := p = none ∨ ∃ g, p = some ⟨g, 0, none⟩ ∧ w.cell? ⟨g, 0, none⟩ = some (.bool false) ∧ g < w.heap.size
theorem Dead.below {w' : World} {p : Option Addr} (h : Dead w p) (k : Below w.heap.size w w') : Dead w' p := by
  rcases h with h | ⟨g, e, hc, hl⟩
  · exact .inl h
  · exact .inr ⟨g, e, by rw [k.cell (p := ⟨g, 0, none⟩) hl]; exact hc, Nat.lt_of_lt_of_le hl k.size⟩
set_option maxHeartbeats 400000 in
theorem uworks_dead (w : World) (p : Option Addr) (h : Dead w p) : Calls Try.prog 24 #[.pointer p] w fun e w' => e = .returned (.bool false) ∧ w = w' := by
  rcases h with rfl | ⟨g, rfl, hc, _⟩
  · go_enter Try.func24, Try.ntmps24
    go_wp2
    go_ret
    exact ⟨rfl, rfl⟩
  · go_enter Try.func24, Try.ntmps24
    go_wp2
    go_ret
    exact ⟨rfl, rfl⟩
set_option maxHeartbeats 400000 in
theorem ulost_uc (h : UC w g s A n c) : Calls Try.prog 14 #[.pointer (some ⟨g, 0, none⟩)] w fun e w' => e = .returned (.int .i64 (s.lo : Int)) ∧ w = w' := by
  have hw := uworks_uc h
  have c3 := h.u.cell 3
  simp at c3
  clear h
  go_enter Try.func14, Try.ntmps14
  go_wp2_with fail
  refine hw.mono ?_
  rintro e w1 ⟨rfl, rfl⟩
  go_wp2
  go_ret
  exact ⟨rfl, rfl⟩
theorem ulost_any (h : UW w g F s) : Calls Try.prog 14 #[.pointer (some ⟨g, 0, none⟩)] w fun e w' => e = .returned (.int .i64 (s.lo : Int)) ∧ w = w' := by
  obtain ⟨⟨A, n, c, hc, rfl⟩, _⟩ := h
  exact ulost_uc hc
set_option maxHeartbeats 400000 in
theorem ulost_dead (w : World) (p : Option Addr) (h : Dead w p) : Calls Try.prog 14 #[.pointer p] w fun e w' => e = .returned (.int .i64 0) ∧ w = w' := by
  go_enter Try.func14, Try.ntmps14
  go_wp2_with fail
  refine (uworks_dead _ _ h).mono ?_
  rintro e w1 ⟨rfl, rfl⟩
  go_wp2
  go_ret
  exact ⟨rfl, rfl⟩
set_option maxHeartbeats 400000 in
theorem uclone_dead (w : World) (p : Option Addr) (h : Dead w p) : Calls Try.prog 10 #[.pointer p] w fun e w' => e = .returned (.pointer none) ∧ w = w' := by
  go_enter Try.func10, Try.ntmps10
  go_wp2_with fail
  refine (uworks_dead _ _ h).mono ?_
  rintro e w1 ⟨rfl, rfl⟩
  go_wp2
  go_ret
  exact ⟨rfl, rfl⟩

/-- the pointer may be one -/
def Ptr (f : Int) (n : Nat) : Prop := (0 ≤ f ∧ f < (n : Int)) ∨ f = 2047 ∨ f = 2046
instance (f : Int) (n : Nat) : Decidable (Ptr f n) := by unfold Ptr; infer_instance
set_option maxHeartbeats 1000000 in
theorem uperm_any (f : Int) (a : Option Addr) (n c : Nat) (w : World) :
    Calls Try.prog 27 #[.int .i64 f, .slice a n c] w fun e w' => e = .returned (.bool (decide (Ptr f n))) ∧ w = w' := by
  obtain ⟨b, hb⟩ : ∃ b, decide (Ptr f n) = b := ⟨_, rfl⟩
  rw [hb]
  by_cases h1 : 0 ≤ f
  · have t1 : decide ((0 : Int) ≤ f) = true := by simpa using h1
    by_cases h2 : f < (n : Int)
    · have t2 : decide (f < (n : Int)) = true := by simpa using h2
      have e : b = true := by rw [← hb]; exact decide_eq_true (.inl ⟨h1, h2⟩)
      subst e
      clear hb h1 h2
      go_enter Try.func27, Try.ntmps27
      go_wp2
      go_ret
      exact ⟨rfl, rfl⟩
    · have t2 : decide (f < (n : Int)) = false := by simpa using h2
      by_cases h3 : f = 2047
      · have t3 : (f == 2047) = true := by simpa using h3
        have e : b = true := by rw [← hb]; exact decide_eq_true (.inr (.inl h3))
        subst e
        clear hb h1 h2 h3
        go_enter Try.func27, Try.ntmps27
        go_wp2
        go_ret
        exact ⟨rfl, rfl⟩
      · have t3 : (f == 2047) = false := by simpa using h3
        have e : b = (f == 2046) := by
          rw [← hb, Bool.eq_iff_iff, decide_eq_true_eq, beq_iff_eq]
          unfold Ptr; omega
        subst e
        obtain ⟨t, ht⟩ : ∃ t, (f == 2046) = t := ⟨_, rfl⟩
        rw [ht]
        clear hb h1 h2 h3
        go_enter Try.func27, Try.ntmps27
        go_wp2
        go_ret
        exact ⟨rfl, rfl⟩
  · have t1 : decide ((0 : Int) ≤ f) = false := by simpa using h1
    have t3 : (f == 2047) = false := by simp; omega
    have t4 : (f == 2046) = false := by simp; omega
    have e : b = false := by rw [← hb]; exact decide_eq_false (by unfold Ptr; omega)
    subst e
    clear hb h1
    go_enter Try.func27, Try.ntmps27
    go_wp2
    go_ret
    exact ⟨rfl, rfl⟩

set_option maxHeartbeats 400000 in
theorem ubegin_any (a : Option Addr) (n c k : Nat) (w : World) (hk : k = min n 6) (hc : n ≤ c) :
    Calls Try.prog 49 #[.slice a n c] w fun e w' => e = .returned (.slice a k c) ∧ w = w' := by
  have m1 : min (n : Int) 6 = (k : Int) := by omega
  have m2 : (if (n : Int) < 6 then (n : Int) else 6) = (k : Int) := by split <;> omega
  have m3 : (if 6 < (n : Int) then (6 : Int) else (n : Int)) = (k : Int) := by split <;> omega
  have m4 : (if n < 6 then (n : Int) else 6) = (k : Int) := by split <;> omega
  have m5 : (if 6 < n then (6 : Int) else (n : Int)) = (k : Int) := by split <;> omega
  have s1 : (k : Int) ≤ (c : Int) := by omega
  have s2 : k ≤ c := by omega
  clear hk hc
  go_enter Try.func49, Try.ntmps49
  go_wp2
  go_ret
  exact ⟨rfl, rfl⟩

set_option maxHeartbeats 1000000 in
theorem ufollow_uc (h : UC w g s A n c) (he : s.ex < 256) (hlo : s.lo ≤ 1000000000000) (ct : Nat) (hct : ct < 256) :
    Calls Try.prog 28 #[.pointer (some ⟨g, 0, none⟩), .int .i64 (ct : Int)] w fun e w' => e = .returned (.tuple #[]) ∧ (∃ A' n' c', UC w' g (flw s ct) A' n' c' ∧ ∀ x ∈ blkA A', x ∈ blkA A) ∧ Only [g] w w' := by
  have ha := fun W => add_any (ct : Int) 1 8 W
  have hp : pw 8 = 256 := rfl
  obtain ⟨N, hN⟩ : ∃ N, (ct + 1) % 256 = N := ⟨_, rfl⟩
  have e1 : sadd (ct : Int) 1 8 = (N : Int) := by
    rw [sadd_ok (vl_iff.2 ⟨by omega, by omega, by omega, by rw [hp]; omega⟩), hp]; omega
  simp only [e1] at ha
  have c1 := h.u.cell 1
  have c2 := h.u.cell 2
  have c3 := h.u.cell 3
  have c4 := h.u.cell 4
  have f1 := h.u.free 1
  have f2 := h.u.free 2
  have f3 := h.u.free 3
  have f4 := h.u.free 4
  simp at c1 c2 c3 c4
  obtain ⟨bg, ex, lo, rs⟩ := s
  simp only at he hlo c1 c2 c3 c4
  cases bg with
  | false =>
    have e2 : flw ⟨false, ex, lo, rs⟩ ct = ⟨true, N, lo, rs⟩ := by unfold flw dst; simp [hN]
    rw [e2]
    have k : Only [g] w ((w.setCell ⟨g, 1, none⟩ (.bool true)).setCell ⟨g, 2, none⟩ (.int .i64 (N : Int))) := set_then (set_only w g 1 _) 2 _
    have q1 : Cel _ g 48 #[.bool true, .bool true, .int .i64 (ex : Int), .int .i64 (lo : Int), .slice A n c] := h.u.put 1 (.bool true)
    have HF := Lib.hid (show UC _ g ⟨true, N, lo, rs⟩ A n c from ⟨q1.put 2 (.int .i64 (N : Int)), h.m.only k (fun x hx hm => h.gr (List.mem_singleton.1 hm ▸ hx))⟩)
    have HK := Lib.hid k
    clear h k q1 hN e1 e2
    go_enter Try.func28, Try.ntmps28
    go_wp2_with fail
    refine (ha _).mono ?_
    rintro e w1 ⟨rfl, rfl⟩
    go_wp2
    go_end0
    exact ⟨rfl, ⟨_, _, _, HF.out, fun x hx => hx⟩, HK.out⟩
  | true =>
    have hd := fun W => distance_any (ex : Int) (ct : Int) 8 W
    obtain ⟨D, hD⟩ : ∃ D, (ct + 256 - ex) % 256 = D := ⟨_, rfl⟩
    have e3 : sdist (ex : Int) (ct : Int) 8 = (D : Int) := by
      rw [sdist_ok (vl_iff.2 ⟨by omega, by omega, by omega, by rw [hp]; omega⟩) (vl_iff.2 ⟨by omega, by omega, by omega, by rw [hp]; omega⟩), hp]; omega
    simp only [e3] at hd
    by_cases h0 : D = 0
    · have e2 : flw ⟨true, ex, lo, rs⟩ ct = ⟨true, N, lo, rs⟩ := by unfold flw dst; simp [hN, hD, h0]
      rw [e2]
      subst h0
      have t1 : decide ((0 : Int) < ((0 : Nat) : Int)) = false := by simp
      have k : Only [g] w ((w.setCell ⟨g, 1, none⟩ (.bool true)).setCell ⟨g, 2, none⟩ (.int .i64 (N : Int))) := set_then (set_only w g 1 _) 2 _
      have q1 : Cel _ g 48 #[.bool true, .bool true, .int .i64 (ex : Int), .int .i64 (lo : Int), .slice A n c] := h.u.put 1 (.bool true)
      have HF := Lib.hid (show UC _ g ⟨true, N, lo, rs⟩ A n c from ⟨q1.put 2 (.int .i64 (N : Int)), h.m.only k (fun x hx hm => h.gr (List.mem_singleton.1 hm ▸ hx))⟩)
      have HK := Lib.hid k
      clear h k q1 hN e1 e2 hD e3
      go_enter Try.func28, Try.ntmps28
      go_wp2_with fail
      refine (hd _).mono ?_
      rintro e w1 ⟨rfl, rfl⟩
      go_wp2_with fail
      refine (ha _).mono ?_
      rintro e w1 ⟨rfl, rfl⟩
      go_wp2
      go_end0
      exact ⟨rfl, ⟨_, _, _, HF.out, fun x hx => hx⟩, HK.out⟩
    · obtain ⟨L, hL⟩ : ∃ L, lo + D = L := ⟨_, rfl⟩
      have e2 : flw ⟨true, ex, lo, rs⟩ ct = ⟨true, N, L, []⟩ := by unfold flw dst; simp [hN, hD, h0, hL]
      rw [e2]
      have hD2 : D < 256 := by omega
      have t1 : decide ((0 : Int) < (D : Int)) = true := by simp; omega
      have t1' : decide (0 < D) = true := by simp; omega
      have hL1 : (lo : Int) + (D : Int) = (L : Int) := by omega
      have hL2 : wrap64 (L : Int) = (L : Int) := by unfold wrap64; omega
      have k : Only [g] w ((((w.setCell ⟨g, 3, none⟩ (.int .i64 (L : Int))).setCell ⟨g, 4, none⟩ (.slice none 0 0)).setCell ⟨g, 1, none⟩ (.bool true)).setCell ⟨g, 2, none⟩ (.int .i64 (N : Int))) := set_then (set_then (set_then (set_only w g 3 _) 4 _) 1 _) 2 _
      have q1 : Cel _ g 48 #[.bool true, .bool true, .int .i64 (ex : Int), .int .i64 (L : Int), .slice A n c] := h.u.put 3 (.int .i64 (L : Int))
      have q2 : Cel _ g 48 #[.bool true, .bool true, .int .i64 (ex : Int), .int .i64 (L : Int), .slice none 0 0] := q1.put 4 (.slice none 0 0)
      have q3 : Cel _ g 48 #[.bool true, .bool true, .int .i64 (ex : Int), .int .i64 (L : Int), .slice none 0 0] := q2.put 1 (.bool true)
      have HF := Lib.hid (show UC _ g ⟨true, N, L, []⟩ none 0 0 from ⟨q3.put 2 (.int .i64 (N : Int)), Md.nil_ _ _ _⟩)
      have HK := Lib.hid k
      clear h k q1 q2 q3 hN e1 e2 hD e3 hL h0 hD2
      go_enter Try.func28, Try.ntmps28
      go_wp2_with fail
      refine (hd _).mono ?_
      rintro e w1 ⟨rfl, rfl⟩
      go_wp2_with fail
      refine (ha _).mono ?_
      rintro e w1 ⟨rfl, rfl⟩
      go_wp2
      go_end0
      exact ⟨rfl, ⟨_, _, _, HF.out, fun x hx => nomatch hx⟩, HK.out⟩
end
end Go.Proofs.Ytcmonalnhdodmaa.Unp

/-
  slices.Grow of nil, slices.Concat at two byte slices.
-/
namespace Go.Proofs.Ytcmonalnhdodmaa.Cat
open Go.RowKit

theorem zeroCells_size (z : Array Value) (n : Nat) : (Builtin.zeroCells z n).size = n * z.size := by simp [Builtin.zeroCells]
/-- slices.Grow of the nil slice -/
theorem grow_any (n : Nat) (w : World) (hn : 0 < n) (hl : n ≤ 1000000000001) :
    Calls Try.prog 56 #[.slice none 0 0, .int .i64 n] w fun e w' => ∃ v, e = .returned v ∧ Ow w' w.heap.size 5 v [] ∧ Below w.heap.size w w' := by
  obtain ⟨i, hi, hz, h1, h2⟩ := info_parts info_u8
  have hcon := Any8.slices_Grow_grow Mar.growB i (.int .u8 0) hi hz (by omega) none 0 0 n [] w (by omega) (by omega) (by rw [h2]; omega) (by omega) (by simp) (fun _ => rfl) (fun a h => nomatch h)
  change Calls Try.prog 56 _ _ _ at hcon
  refine hcon.mono ?_
  rintro e w' ⟨rfl, rfl⟩
  have hG := grownCap_ge w (0 + n) 0 5
  have hG2 := grownCap_le_maxLen w (0 + n) 0 5 (by unfold maxLen; omega)
  have hgr : grownCap w (0 + n) 0 (Mar.growB_ren.t 25) = grownCap w (0 + n) 0 5 := rfl
  rw [hgr]
  simp only [Nat.zero_add] at hG hG2 ⊢
  refine ⟨_, rfl, ⟨rfl, .inr ⟨w.heap.size, _, _, rfl, Nat.le_refl _, heap_alloc_new _ _, Nat.zero_le _, hG2, ?_, rfl⟩⟩, (Below.refl w.heap.size w).drew.alloc (Nat.le_refl _) _⟩
  have hzc : ((Value.int .u8 0).cells).size = 1 := rfl
  simp only [Array.size_append, zeroCells_size, hzc]
  simp
  omega

set_option maxHeartbeats 2000000 in
theorem concat_any (l1 l2 : List Byte) (w : World) (A1 A2 : Option Addr) (c1 c2 Bp : Nat) (h1 : Bs w w.heap.size A1 l1) (n1 : A1 = none → c1 = 0) (h2 : Bs w w.heap.size A2 l2) (n2 : A2 = none → c2 = 0) (hl1 : l1.length ≤ 100000000000) (hl2 : l2.length ≤ 100000000000) (h0 : 0 < l1.length)
    (hp : Cel w Bp 26 #[.slice A1 l1.length c1, .slice A2 l2.length c2]) :
    Calls Try.prog 48 #[.slice (some ⟨Bp, 0, none⟩) 2 2] w fun e w' => ∃ v, e = .returned v ∧ Ow w' w.heap.size 5 v (l1 ++ l2) ∧ Below w.heap.size w w' := by
  have hB := hp.lt
  have c0 : w.cell? ⟨Bp, 0, none⟩ = some (.slice A1 l1.length c1) := hp.cell 0
  have d0 : w.cell? ⟨Bp, 1, none⟩ = some (.slice A2 l2.length c2) := hp.cell 1
  have t1 : decide ((l1.length : Int) < 0) = false := by simp
  have t2 : decide ((l1.length : Int) + (l2.length : Int) < 0) = false := by simp; omega
  have hgr := fun W => grow_any (l1.length + l2.length) W (by omega) (by omega)
  simp only [Int.natCast_add] at hgr
  clear hp
  go_enter Try.func48, Try.ntmps48
  go_wp2
  refine wp_loop_rounds 3 ?_
  rw [rounds_succ]
  go_wp2
  rw [rounds_succ]
  go_wp2
  rw [rounds_succ]
  go_wp2_with (go_at_call 56; refine (hgr _).mono ?_; rintro e w2 ⟨v2, rfl, ho2, hb2⟩)
  have e0 := (hb2.cell (p := ⟨Bp, 0, none⟩) hB).trans c0
  have e1 := (hb2.cell (p := ⟨Bp, 1, none⟩) hB).trans d0
  refine wp_loop_rounds 3 ?_
  rw [rounds_succ]
  go_wp2_with (at_builtin; refine wpList_app _ is_bytes rfl (.tmp 31) (.tmp 32) rfl (m := []) rfl ho2 rfl (h1.below hb2) n1 (by simp; omega) hb2.size ?_; intro v3 w3 ho3 hg3; have hb3 := hb2.grown hg3 hb2.size (Ow.base_le (l := []) ho2); have f0 := (hb3.cell (p := ⟨Bp, 0, none⟩) hB).trans c0; have f1 := (hb3.cell (p := ⟨Bp, 1, none⟩) hB).trans d0)
  rw [rounds_succ]
  go_wp2_with (at_builtin; refine wpList_app _ is_bytes rfl (.tmp 31) (.tmp 32) rfl rfl ho3 rfl (h2.below hb3) n2 (by simp; omega) hb3.size ?_; intro v4 w4 ho4 hg4; have hb4 := hb3.grown hg4 hb3.size ho3.base_le)
  rw [rounds_succ]
  go_wp2
  go_ret
  exact ⟨_, rfl, by simpa using ho4, hb4⟩
end Go.Proofs.Ytcmonalnhdodmaa.Cat

/-
  Package unpacker: fits, idle.
-/
namespace Go.Proofs.Ytcmonalnhdodmaa.Unp
open Go.RowKit
open Pac (bel_new siE siN tot size_any decode_any deE deP deN siE_good siE_zero siE_short)

theorem w64_small {Q : Nat} (h : Q ≤ 1000000) : wrap64 (Q : Int) = (Q : Int) := by unfold wrap64; omega
theorem concat_rd {w : World} {A1 A2 : Option Addr} {l1 l2 : List Byte} {n1 n2 c1 c2 Bp N : Nat} (h1 : Rd w A1 l1 n1 c1) (h2 : Rd w A2 l2 n2 c2) (b1 : n1 ≤ 1000000) (b2 : n2 ≤ 1000000) (h0 : 0 < n1) (hN : n1 + n2 = N) (hp : Cel w Bp 26 #[.slice A1 n1 c1, .slice A2 n2 c2]) :
    Calls Try.prog 48 #[.slice (some ⟨Bp, 0, none⟩) 2 2] w fun e w' => ∃ A c, e = .returned (.slice A N c) ∧ Rd w' A (l1 ++ l2) N c ∧ Below w.heap.size w w' := by
  obtain ⟨e1, q1, q2, _⟩ := h1
  obtain ⟨e2, r1, r2, _⟩ := h2
  subst e1 e2
  refine (Cat.concat_any l1 l2 w A1 A2 c1 c2 Bp q1 q2 r1 r2 (by omega) (by omega) h0 hp).mono ?_
  rintro e w' ⟨v, rfl, o, b⟩
  obtain ⟨A, c, rfl, hr⟩ := Rd.of (n := N) o (by rw [List.length_append]; exact hN)
  exact ⟨A, c, rfl, hr, b⟩

section
variable {w : World} {g n c : Nat} {s : US} {A : Option Addr} {F : List Nat}
set_option maxHeartbeats 2000000 in
theorem ufits_uc (h : UC w g s A n c) (hok : Rok s.rs) (h0 : 0 < n) (f : Int) {a : Option Addr} {d : List Byte} {m cd : Nat} (hd : Rd w a d m cd) (hm : m ≤ 1000000) :
    Calls Try.prog 29 #[.pointer (some ⟨g, 0, none⟩), .int .i64 f, .slice a m cd] w fun e w' => e = .returned (.bool (fts s.rs f d)) ∧ Below w.heap.size w w' := by
  have hl := h.m.1
  have hlen := hok.len
  have hdl := hd.len
  have hr := Md.rd h.m
  obtain ⟨k1, hk1⟩ : ∃ k1, k1 = min n 6 := ⟨_, rfl⟩
  obtain ⟨k2, hk2⟩ : ∃ k2, k2 = min m 6 := ⟨_, rfl⟩
  have x1 := fun W => ubegin_any A n c k1 W hk1 hr.le
  have x2 := fun W => ubegin_any a m cd k2 W hk2 hd.le
  have q1 : s.rs.take k1 = s.rs.take 6 := by
    by_cases hq : 6 ≤ n
    · rw [show k1 = 6 by omega]
    · rw [List.take_of_length_le (by omega), List.take_of_length_le (by omega)]
  have q2 : d.take k2 = d.take 6 := by
    by_cases hq : 6 ≤ m
    · rw [show k2 = 6 by omega]
    · rw [List.take_of_length_le (by omega), List.take_of_length_le (by omega)]
  have r1 := Rd.head hr k1 (by omega)
  have r2 := Rd.head hd k2 (by omega)
  rw [q1] at r1
  rw [q2] at r2
  obtain ⟨W1, hW1⟩ : ∃ W1, W1 = w.alloc (.cells #[.slice A k1 c, .slice a k2 cd] 26) := ⟨_, rfl⟩
  have b1 : Below w.heap.size w W1 := by rw [hW1]; exact bel_new _ _
  have hp1 : Cel W1 w.heap.size 26 #[.slice A k1 c, .slice a k2 cd] := by rw [hW1]; exact Cel.new _ _ _
  obtain ⟨K, hK⟩ : ∃ K, k1 + k2 = K := ⟨_, rfl⟩
  have x3 := concat_rd (r1.later b1) (r2.later b1) (by omega) (by omega) (by omega) hK hp1
  obtain ⟨e1, e2⟩ := si_app (r := s.rs) (d := d)
  have c4 := h.u.cell 4
  have hgl := h.u.lt
  simp at c4
  have hsh := hok.short (d := d)
  obtain ⟨E, hE⟩ : ∃ E, siE (s.rs ++ d) = E := ⟨_, rfl⟩
  obtain ⟨N, hN⟩ : ∃ N, siN (s.rs ++ d) = N := ⟨_, rfl⟩
  rw [hE] at e1
  rw [hN] at e2
  have x4 : ∀ A3 c3 W, Rd W A3 (s.rs.take 6 ++ d.take 6) K c3 → Calls Try.prog 47 #[.slice A3 K c3] W fun e w' => e = .returned (.tuple #[.int .i64 (N : Int), .int .i64 E]) ∧ Below W.heap.size W w' := fun A3 c3 W hW => by
    have := size_any A3 _ K c3 W (Lib.hid hW.len) hW.bs hW.nil hW.le hW.max
    rw [e1, e2] at this
    exact this
  have hcase := siE_cases (s.rs ++ d)
  rw [hE] at hcase
  by_cases h3 : E = 3
  · have ef : fts s.rs f d = (f == 2047) := by unfold fts; rw [hE, if_pos h3]; rfl
    rw [ef]
    obtain ⟨t, ht⟩ : ∃ t, (f == 2047) = t := ⟨_, rfl⟩
    rw [ht]
    subst h3
    clear h hok hl hlen hdl hr r1 r2 q1 q2 hp1 e1 e2 hE hN hcase ef hsh hk1 hk2 hK hd
    go_enter Try.func29, Try.ntmps29
    go_wp2_with fail
    refine (x1 _).mono ?_
    rintro e w1 ⟨rfl, rfl⟩
    go_wp2_with fail
    refine (x2 _).mono ?_
    rintro e w1 ⟨rfl, rfl⟩
    go_wp2_with fail
    rw [← hW1]
    refine x3.mono ?_
    rintro e w3 ⟨A3, c3, rfl, r3, b3⟩
    go_wp2_with fail
    refine (x4 _ _ _ r3).mono ?_
    rintro e w4 ⟨rfl, b4⟩
    go_wp2
    go_ret
    have b13 := b1.trans (b3.mono b1.size)
    exact ⟨rfl, b13.trans (b4.mono b13.size)⟩
  · have t3 : (E == 3) = false := by simpa using h3
    by_cases hz : E = 0
    · subst hz
      have hg := siE_zero hE
      have hN2 : N = tot (s.rs ++ d) := by rw [← hN, (siE_good hg.1 hg.2.1 hg.2.2).2]
      rw [← hN2] at hsh
      obtain ⟨Q, hQ⟩ : ∃ Q, N - n = Q := ⟨_, rfl⟩
      have hQ1 : (N : Int) - (n : Int) = (Q : Int) := by omega
      have hQb : Q ≤ 4096 := by have := hg.2.2; omega
      have t4 : ((0 : Int) != 0) = false := by decide
      have t4' : ((0 : Int) == 3) = false := by decide
      by_cases hf : m ≤ Q
      · have ef : fts s.rs f d = (f == 2047) := by
          unfold fts
          rw [hE, if_neg h3, if_neg (fun k => k rfl), ← hN2, if_pos (by rw [List.length_append]; omega)]
          rfl
        rw [ef]
        obtain ⟨t, ht⟩ : ∃ t, (f == 2047) = t := ⟨_, rfl⟩
        rw [ht]
        have hQ2 : wrap64 (Q : Int) = (Q : Int) := w64_small (by omega)
        have t5 : decide ((m : Int) ≤ (Q : Int)) = true := by simpa using hf
        have t5' : decide (m ≤ Q) = true := by simpa using hf
        clear h hok hl hlen hdl hr r1 r2 q1 q2 hp1 e1 e2 hE hN hcase ef hsh hk1 hk2 hK hd hg hN2 hQ hf h3 t3
        go_enter Try.func29, Try.ntmps29
        go_wp2_with fail
        refine (x1 _).mono ?_
        rintro e w1 ⟨rfl, rfl⟩
        go_wp2_with fail
        refine (x2 _).mono ?_
        rintro e w1 ⟨rfl, rfl⟩
        go_wp2_with fail
        rw [← hW1]
        refine x3.mono ?_
        rintro e w3 ⟨A3, c3, rfl, r3, b3⟩
        go_wp2_with fail
        refine (x4 _ _ _ r3).mono ?_
        rintro e w4 ⟨rfl, b4⟩
        have b13 := b1.trans (b3.mono b1.size)
        have b14 := b13.trans (b4.mono b13.size)
        have d4 := (b14.cell (p := ⟨g, 4, none⟩) hgl).trans c4
        have HB := Lib.hid b14
        clear c4 b1 b3 b4 b13 b14 r3
        go_wp2
        go_ret
        exact ⟨rfl, HB.out⟩
      · have ef : fts s.rs f d = (f == (Q : Int)) := by
          unfold fts
          rw [hE, if_neg h3, if_neg (fun k => k rfl), ← hN2, if_neg (by rw [List.length_append]; omega), hl, hQ]
          rfl
        rw [ef]
        obtain ⟨t, ht⟩ : ∃ t, (f == (Q : Int)) = t := ⟨_, rfl⟩
        rw [ht]
        have hQ2 : wrap64 (Q : Int) = (Q : Int) := w64_small (by omega)
        have t5 : decide ((m : Int) ≤ (Q : Int)) = false := by simpa using hf
        have t5' : decide (m ≤ Q) = false := by simpa using hf
        clear h hok hl hlen hdl hr r1 r2 q1 q2 hp1 e1 e2 hE hN hcase ef hsh hk1 hk2 hK hd hg hN2 hQ hf h3 t3
        go_enter Try.func29, Try.ntmps29
        go_wp2_with fail
        refine (x1 _).mono ?_
        rintro e w1 ⟨rfl, rfl⟩
        go_wp2_with fail
        refine (x2 _).mono ?_
        rintro e w1 ⟨rfl, rfl⟩
        go_wp2_with fail
        rw [← hW1]
        refine x3.mono ?_
        rintro e w3 ⟨A3, c3, rfl, r3, b3⟩
        go_wp2_with fail
        refine (x4 _ _ _ r3).mono ?_
        rintro e w4 ⟨rfl, b4⟩
        have b13 := b1.trans (b3.mono b1.size)
        have b14 := b13.trans (b4.mono b13.size)
        have d4 := (b14.cell (p := ⟨g, 4, none⟩) hgl).trans c4
        have HB := Lib.hid b14
        clear c4 b1 b3 b4 b13 b14 r3
        go_wp2
        go_ret
        exact ⟨rfl, HB.out⟩
    · have ef : fts s.rs f d = false := by unfold fts; rw [hE, if_neg h3, if_pos hz]
      rw [ef]
      have t4 : (E != 0) = true := by simpa using hz
      clear h hok hl hlen hdl hr r1 r2 q1 q2 hp1 e1 e2 hE hN hcase ef hsh hk1 hk2 hK hd h3 hz
      go_enter Try.func29, Try.ntmps29
      go_wp2_with fail
      refine (x1 _).mono ?_
      rintro e w1 ⟨rfl, rfl⟩
      go_wp2_with fail
      refine (x2 _).mono ?_
      rintro e w1 ⟨rfl, rfl⟩
      go_wp2_with fail
      rw [← hW1]
      refine x3.mono ?_
      rintro e w3 ⟨A3, c3, rfl, r3, b3⟩
      go_wp2_with fail
      refine (x4 _ _ _ r3).mono ?_
      rintro e w4 ⟨rfl, b4⟩
      go_wp2
      go_ret
      have b13 := b1.trans (b3.mono b1.size)
      exact ⟨rfl, b13.trans (b4.mono b13.size)⟩
end

set_option maxHeartbeats 1000000 in
theorem uidle_rd (w : World) (a : Option Addr) (l : List Byte) (n c : Nat) (h : Rd w a l n c) {b : Bool} (hb : (!decide (deE l = 0) || decide ((deP l).ap = 2047)) = b) :
    Calls Try.prog 50 #[.slice a n c] w fun e w' => e = .returned (.bool b) ∧ Below w.heap.size w w' := by
  have hd := decode_any a l n c w (Lib.hid h.len) h.bs h.nil h.le h.max
  obtain ⟨N, hN⟩ : ∃ N, deN l = N := ⟨_, rfl⟩
  obtain ⟨E, hE⟩ : ∃ E, deE l = E := ⟨_, rfl⟩
  obtain ⟨P, hP⟩ : ∃ P, deP l = P := ⟨_, rfl⟩
  obtain ⟨com, sec, ap, fl, ct, d⟩ := P
  rw [hN, hE, hP] at hd
  rw [hE, hP] at hb
  by_cases h1 : E = 0
  · have t1 : (E != 0) = false := by simpa using h1
    have e : b = (ap == 2047) := by rw [← hb, decide_eq_true h1]; rfl
    subst e
    obtain ⟨t, ht⟩ : ∃ t, (ap == 2047) = t := ⟨_, rfl⟩
    rw [ht]
    clear h hN hE hP h1 hb
    go_enter Try.func50, Try.ntmps50
    go_wp2_with fail
    refine hd.mono ?_
    rintro e w2 ⟨v, rfl, o2, b2⟩
    obtain ⟨A2, c2, rfl, _⟩ := o2.reads
    have HB := Lib.hid (b2.alloc b2.size (.cells #[.bool com, .bool sec, .int .i64 ap, .int .i64 fl, .int .i64 ct, .slice A2 d.length c2] 56))
    clear o2 b2 hd
    go_wp2
    go_ret
    exact ⟨rfl, HB.out⟩
  · have t1 : (E != 0) = true := by simpa using h1
    have e : b = true := by rw [← hb, decide_eq_false h1]; rfl
    subst e
    clear h hN hE hP h1 hb
    go_enter Try.func50, Try.ntmps50
    go_wp2_with fail
    refine hd.mono ?_
    rintro e w2 ⟨v, rfl, o2, b2⟩
    obtain ⟨A2, c2, rfl, _⟩ := o2.reads
    have HB := Lib.hid (b2.alloc b2.size (.cells #[.bool com, .bool sec, .int .i64 ap, .int .i64 fl, .int .i64 ct, .slice A2 d.length c2] 56))
    clear o2 b2 hd
    go_wp2
    go_ret
    exact ⟨rfl, HB.out⟩
end Go.Proofs.Ytcmonalnhdodmaa.Unp

/-
  Slices of byte strings in a world: LS (an address leads to the strings), LO (a slice of the call's own that holds strings of its own). No dump is imported.
-/
namespace Go.Proofs.Ytcmonalnhdodmaa.Lst
open Go.RowKit Go.Proofs.Ytcmonalnhdodmaa.Row

/-- a string as it lies in a slice of slices: the address and the capacity beside it -/
structure Qb where
  l : List Byte
  a : Option Addr
  c : Nat
def Qb.v (q : Qb) : Value := .slice q.a q.l.length q.c
def enc (q : Qb) : List Value := [.slice q.a q.l.length q.c]
theorem enc_ok : Enc enc 1 := ⟨fun _ => rfl, fun x u hu => by
  simp only [enc, List.mem_cons, List.not_mem_nil, or_false] at hu
  subst hu; rfl, by decide⟩
/-- a string, below block B -/
structure Dt (w : World) (B : Nat) (d : List Byte) (a : Option Addr) (c : Nat) : Prop where
  b : Bs w B a d
  n : a = none → c = 0
  l : d.length ≤ c
  m : c ≤ maxLen
section
variable {w w' : World} {B B' : Nat} {d : List Byte} {a A : Option Addr} {c : Nat} {S : List Nat} {ls : List (List Byte)}
theorem Dt.below (h : Dt w B d a c) (k : Below B w w') : Dt w' B d a c := ⟨h.b.below k, h.n, h.l, h.m⟩
theorem Dt.more (h : Dt w B d a c) (k : B ≤ B') : Dt w B' d a c := ⟨h.b.more k, h.n, h.l, h.m⟩
theorem Dt.only (h : Dt w B d a c) (k : Only S w w') (hB : B ≤ w.heap.size) (hS : ∀ x ∈ S, B ≤ x) : Dt w' B d a c := h.below (k.below hB hS)
theorem Dt.draws (h : Dt w B d a c) (n : Nat) : Dt (w.drewN n) B d a c := ⟨h.b, h.n, h.l, h.m⟩
theorem Dt.drew (h : Dt w B d a c) : Dt w.drew B d a c := ⟨h.b, h.n, h.l, h.m⟩
theorem Dt.later (h : Dt w w.heap.size d a c) (k : Below w.heap.size w w') : Dt w' w'.heap.size d a c := (h.below k).more k.size
theorem Dt_own {base : Nat} {e : TypeId} {v : Value} (h : Ow w base e v d) : ∃ a c, v = .slice a d.length c ∧ Dt w w.heap.size d a c := by
  obtain ⟨a, c, rfl, hb, hn, hl, hm⟩ := h.reads
  exact ⟨a, c, rfl, hb, hn, hl, hm⟩

/-- 'A' leads to the strings ls; they lie below block B -/
def LS (w : World) (B : Nat) (A : Option Addr) (ls : List (List Byte)) : Prop := ∃ qs : List Qb, qs.map (·.l) = ls ∧ Rs enc 1 w B A qs ∧ ∀ q ∈ qs, Dt w B q.l q.a q.c
theorem LS.nil_ : LS w B A [] := ⟨[], rfl, Rs.nil_, fun q hq => by cases hq⟩
theorem LS.below (h : LS w B A ls) (k : Below B w w') : LS w' B A ls := by
  obtain ⟨qs, h1, h2, h3⟩ := h
  exact ⟨qs, h1, h2.below k, fun q hq => (h3 q hq).below k⟩
theorem LS.more (h : LS w B A ls) (k : B ≤ B') : LS w B' A ls := by
  obtain ⟨qs, h1, h2, h3⟩ := h
  exact ⟨qs, h1, h2.more k, fun q hq => (h3 q hq).more k⟩
theorem LS.only (h : LS w B A ls) (k : Only S w w') (hB : B ≤ w.heap.size) (hS : ∀ x ∈ S, B ≤ x) : LS w' B A ls := h.below (k.below hB hS)
theorem LS.draws (h : LS w B A ls) (n : Nat) : LS (w.drewN n) B A ls := h.below ⟨rfl, rfl, rfl, Nat.le_refl _, fun _ _ => rfl⟩
theorem LS.drew (h : LS w B A ls) : LS w.drew B A ls := h.below ⟨rfl, rfl, rfl, Nat.le_refl _, fun _ _ => rfl⟩
theorem LS.at_ (h : LS w B A ls) {i : Nat} {l : List Byte} (hl : ls[i]? = some l) : ∃ b off a c, A = some ⟨b, off, none⟩ ∧ b < B ∧ w.cell? ⟨b, off + i, none⟩ = some (.slice a l.length c) ∧ Dt w B l a c := by
  obtain ⟨qs, rfl, h2, h3⟩ := h
  rw [List.getElem?_map] at hl
  cases hq : qs[i]? with
  | none => rw [hq] at hl; cases hl
  | some q =>
    rw [hq] at hl
    injection hl with hl
    subst hl
    have hil := (List.getElem?_eq_some_iff.1 hq).1
    obtain ⟨b, off, rfl, hb, hc⟩ := h2 (by omega)
    have := hc i q hq 0 _ rfl
    rw [Nat.mul_one, Nat.add_zero] at this
    exact ⟨b, off, q.a, q.c, rfl, hb, this, h3 q (List.mem_of_getElem? hq)⟩

/-- v is a slice of the call's own, of element type t, that holds the strings ls, each a slice of the call's own, of element type e; their blocks are among E -/
structure LO (w : World) (base : Nat) (t e : TypeId) (v : Value) (ls : List (List Byte)) (E : List Nat) : Prop where
  ex : ∃ qs : List Qb, qs.map (·.l) = ls ∧ Row.Os enc 1 w base t v qs ∧ ∀ q ∈ qs, Ow w base e q.v q.l ∧ ∀ k, q.v.ownBlock = some k → k ∈ E
  el : ∀ k ∈ E, base ≤ k ∧ ∃ cs, Cel w k e cs
variable {base n : Nat} {t e : TypeId} {v : Value} {E : List Nat}
theorem LO.nil_ (w : World) (base : Nat) (t e : TypeId) : LO w base t e (.slice none 0 0) [] [] := ⟨⟨[], rfl, Row.Os.nil_ _ _ _, fun q hq => by cases hq⟩, fun k hk => by cases hk⟩
theorem LO.only (h : LO w base t e v ls E) (k : Only S w w') (hv : ∀ i, v.ownBlock = some i → i ∉ S) (hE : ∀ i ∈ E, i ∉ S) : LO w' base t e v ls E := by
  obtain ⟨⟨qs, h1, h2, h3⟩, h4⟩ := h
  exact ⟨⟨qs, h1, h2.only k hv, fun q hq => ⟨(h3 q hq).1.only k (fun i hi => hE i ((h3 q hq).2 i hi)), (h3 q hq).2⟩⟩, fun i hi => ⟨(h4 i hi).1, by
    obtain ⟨cs, hc⟩ := (h4 i hi).2
    exact ⟨cs, hc.only k (hE i hi)⟩⟩⟩
theorem LO.below (h : LO w base t e v ls E) (k : Below w.heap.size w w') : LO w' base t e v ls E := h.only (S := []) (Only.of_below k) (by simp) (by simp)
theorem LO.alloc (h : LO w base t e v ls E) (o : Obj) : LO (w.alloc o) base t e v ls E := h.below ((Below.refl _ w).alloc (Nat.le_refl _) o)
theorem LO.draws (h : LO w base t e v ls E) (n : Nat) : LO (w.drewN n) base t e v ls E := h.below ⟨rfl, rfl, rfl, Nat.le_refl _, fun _ _ => rfl⟩
theorem LO.drew (h : LO w base t e v ls E) : LO w.drew base t e v ls E := h.below ⟨rfl, rfl, rfl, Nat.le_refl _, fun _ _ => rfl⟩
theorem LO.more (h : LO w base t e v ls E) {b' : Nat} (hb : b' ≤ base) : LO w b' t e v ls E := by
  obtain ⟨⟨qs, h1, h2, h3⟩, h4⟩ := h
  exact ⟨⟨qs, h1, h2.more hb, fun q hq => ⟨(h3 q hq).1.more hb, (h3 q hq).2⟩⟩, fun i hi => ⟨Nat.le_trans hb (h4 i hi).1, (h4 i hi).2⟩⟩
theorem LO.lt (h : LO w base t e v ls E) : ∀ i ∈ E, base ≤ i ∧ i < w.heap.size := fun i hi => ⟨(h.el i hi).1, by
  obtain ⟨cs, hc⟩ := (h.el i hi).2
  exact hc.lt⟩
theorem LO.row_lt (h : LO w base t e v ls E) : ∀ i, v.ownBlock = some i → base ≤ i ∧ i < w.heap.size := by
  obtain ⟨⟨qs, h1, h2, h3⟩, h4⟩ := h
  exact h2.lt
/-- a block of another type is no row of it -/
theorem LO.row_apart (h : LO w base t e v ls E) {g : Nat} {t' : TypeId} {cs : Array Value} (k : Cel w g t' cs) (ht : t ≠ t') : v.ownBlock ≠ some g := by
  obtain ⟨⟨qs, h1, h2, h3⟩, h4⟩ := h
  exact h2.apart k ht
theorem LO.el_apart (h : LO w base t e v ls E) {g : Nat} {t' : TypeId} {cs : Array Value} (k : Cel w g t' cs) (ht : e ≠ t') : g ∉ E := fun hg => by
  obtain ⟨cs', hc⟩ := (h.el g hg).2
  exact hc.apart k ht rfl
theorem LO.len (h : LO w base t e v ls E) (hn : ls.length = n) : ∃ A c, v = .slice A n c ∧ LS w w.heap.size A ls ∧ (A = none → c = 0) ∧ n ≤ c ∧ c ≤ maxLen := by
  obtain ⟨⟨qs, rfl, h2, h3⟩, h4⟩ := h
  obtain ⟨A, c, hv, hr, hn', hl, hm⟩ := h2.reads_len enc_ok (n := n) (by simpa using hn)
  exact ⟨A, c, hv, ⟨qs, rfl, hr, fun q hq => by
    obtain ⟨a, c, he, hd⟩ := Dt_own (h3 q hq).1
    unfold Qb.v at he
    cases he
    exact hd⟩, hn', hl, hm⟩
/-- what an append reads -/
theorem LO.parts (h : LO w base t e v ls E) (hn : ls.length = n) : ∃ (qs : List Qb) (A : Option Addr) (c : Nat), v = .slice A n c ∧ qs.length = n ∧ qs.map (·.l) = ls ∧ Row.Os enc 1 w base t (.slice A n c) qs ∧ Rs enc 1 w w.heap.size A qs ∧ (A = none → c = 0) ∧
    ∀ q ∈ qs, Ow w base e q.v q.l ∧ ∀ k, q.v.ownBlock = some k → k ∈ E := by
  obtain ⟨⟨qs, rfl, h2, h3⟩, h4⟩ := h
  have hn2 : qs.length = n := by simpa using hn
  obtain ⟨A, c, rfl, hr, hn', hl, hm⟩ := h2.reads_len enc_ok hn2
  exact ⟨qs, A, c, rfl, hn2, rfl, h2, hr, hn', h3⟩
/-- what an append leaves: onto v the strings of qs2 -/
theorem LO.app {ls2 : List (List Byte)} {E2 : List Nat} {v2 : Value} {qs2 : List Qb} {qs : List Qb} {row : Option Nat} (h : LO w base t e v ls E) (ht : t ≠ e) (he : qs.map (·.l) = ls) (h3 : ∀ q ∈ qs, Ow w base e q.v q.l ∧ ∀ k, q.v.ownBlock = some k → k ∈ E)
    (he2 : qs2.map (·.l) = ls2) (hq2 : ∀ q ∈ qs2, Ow w base e q.v q.l ∧ ∀ k, q.v.ownBlock = some k → k ∈ E2) (hE2 : ∀ k ∈ E2, base ≤ k ∧ ∃ cs, Cel w k e cs)
    (hrow : v.ownBlock = row) (hg : w.grownBy w' row) (ho : Row.Os enc 1 w' base t v2 (qs ++ qs2)) : LO w' base t e v2 (ls ++ ls2) (E ++ E2) := by
  have k := Only.of_grown hg
  have hne : ∀ i, (∃ cs, Cel w i e cs) → i ∉ row.toList := by
    rintro i ⟨cs, hc⟩ hm
    exact h.row_apart hc ht (by rw [hrow]; simpa using hm)
  have hE' : ∀ i ∈ E ++ E2, base ≤ i ∧ ∃ cs, Cel w i e cs := fun i hi => (List.mem_append.1 hi).elim (h.el i) (hE2 i)
  refine ⟨⟨qs ++ qs2, by rw [List.map_append, he, he2], ho, fun q hq => ?_⟩, fun i hi => ⟨(hE' i hi).1, ?_⟩⟩
  · have hq' : Ow w base e q.v q.l ∧ ∀ k, q.v.ownBlock = some k → k ∈ E ++ E2 := (List.mem_append.1 hq).elim
      (fun hq => ⟨(h3 q hq).1, fun k hk => List.mem_append_left _ ((h3 q hq).2 k hk)⟩) (fun hq => ⟨(hq2 q hq).1, fun k hk => List.mem_append_right _ ((hq2 q hq).2 k hk)⟩)
    exact ⟨hq'.1.only k (fun i hi => hne i (hE' i (hq'.2 i hi)).2), hq'.2⟩
  · obtain ⟨cs, hc⟩ := (hE' i hi).2
    exact ⟨cs, hc.only k (hne i ⟨cs, hc⟩)⟩
theorem own_cel {X : World} {base size n : Nat} {t : TypeId} {v : Value} {xs : List Value} (h : X.ownsRow base t size v n xs) {i : Nat} (hi : v.ownBlock = some i) : ∃ cs, Cel X i t cs := by
  rcases h.2 with ⟨rfl, _⟩ | ⟨g, cap, cur, rfl, _, hg, _⟩
  · cases hi
  · injection hi with hi
    have : g = i := hi
    subst this
    exact ⟨_, hg⟩
/-- one string more, in a block of its own -/
theorem LO.push1 {w4 w6 : World} {b' c n : Nat} {A : Option Addr} {L : List Byte} {v2 : Value} {ob : Obj} {qs : List Qb} {row : Option Nat} (h : LO w base t e v ls E) (ht : t ≠ e) (o4 : Ow w4 b' e (.slice A n c) L) (hb' : base ≤ b') (hn : L.length = n) (b4 : Below w.heap.size w w4)
    (he : qs.map (·.l) = ls) (h3 : ∀ q ∈ qs, Ow (w4.alloc ob) base e q.v q.l ∧ ∀ k, q.v.ownBlock = some k → k ∈ E) (hR : v.ownBlock = row) (hg6 : (w4.alloc ob).grownBy w6 row) (ho6 : Row.Os enc 1 w6 base t v2 (qs ++ [⟨L, A, c⟩])) :
    LO w6 base t e v2 (ls ++ [L]) (E ++ (Value.slice A n c).ownBlock.toList) := by
  subst hn
  have e4 : ∀ k ∈ (Value.slice A L.length c).ownBlock.toList, base ≤ k ∧ ∃ cs, Cel (w4.alloc ob) k e cs := fun k hk => by
    have hk : (Value.slice A L.length c).ownBlock = some k := by simpa using hk
    have o5 := o4.alloc ob
    exact ⟨by have := (o5.lt k hk).1; omega, own_cel o5 hk⟩
  refine (h.below (b4.alloc b4.size ob)).app ht he h3 (ls2 := [L]) (qs2 := [⟨L, A, c⟩]) rfl (fun q hq => ?_) e4 hR hg6 ho6
  obtain rfl := List.mem_singleton.1 hq
  exact ⟨(o4.alloc ob).more hb', fun k hk => by simpa [Qb.v] using hk⟩
theorem toList_own {w : World} {base : Nat} {e : TypeId} {v : Value} {l : List Byte} (h : Ow w base e v l) : ∀ k ∈ v.ownBlock.toList, base ≤ k ∧ ∃ cs, Cel w k e cs := fun k hk => by
  have hk : v.ownBlock = some k := by simpa using hk
  exact ⟨(h.lt k hk).1, own_cel h hk⟩
end
end Go.Proofs.Ytcmonalnhdodmaa.Lst

/-
  Package unpacker: complete.
-/
namespace Go.Proofs.Ytcmonalnhdodmaa.Unp
open Go.RowKit Go.Proofs.Ytcmonalnhdodmaa.Row Lst
open Pac (bel_new siE siN tot size_any siE_good siE_zero)

theorem is_lists : IsRows Try.prog 31 26 (.slice none 0 0) 1 24 := IsRows.of Try.underlying31 rfl (by kernel_rfl)

/-- how many bytes the rest has -/
def restLen (w : World) (g : Nat) : Nat := match w.cell? ⟨g, 4, none⟩ with | some (.slice _ n _) => n | _ => 0

/-- what complete has done so far: l is left of the bytes L, the packets O are in the slice P, in the blocks E -/
structure Cm (w : World) (g : Nat) (s : US) (A0 : Option Addr) (L : List Byte) (l : List Byte) (A : Option Addr) (n c : Nat) (O : List (List Byte)) (P : Value) (E : List Nat) (wr : World) : Prop where
  u : UC wr g { s with rs := l } A n c
  a : ∀ x ∈ blkA A, x ∈ blkA A0
  z : ∀ x ∈ blkA A0, x < w.heap.size
  gl : g < w.heap.size
  lo : LO wr w.heap.size 26 5 P O E
  on : Only [g] w wr
  h : prs L = (O ++ (prs l).1, (prs l).2)

section
variable {w wr w2 w4 w6 : World} {g n c n4 c4 : Nat} {s : US} {A0 A A4 : Option Addr} {L l x : List Byte} {O : List (List Byte)} {P P2 : Value} {E : List Nat}
theorem Cm.start (h : UC w g { s with rs := L } A n c) : Cm w g s A L L A n c [] (.slice none 0 0) [] w :=
  ⟨h, fun _ hx => hx, fun x hx => h.lt x (by simp [fam, hx]), h.u.lt, LO.nil_ _ _ _ _, Only.refl _ _, rfl⟩
theorem Cm.below (h : Cm w g s A0 L l A n c O P E wr) (k : Below wr.heap.size wr w2) : Cm w g s A0 L l A n c O P E w2 :=
  ⟨h.u.below k, h.a, h.z, h.gl, h.lo.below k, h.on.trans (Only.of_below (S := []) k) (by simp), h.h⟩
theorem Cm.len (h : Cm w g s A0 L l A n c O P E wr) : O.length ≤ L.length := by
  have := prs_len L
  rw [h.h, List.length_append] at this
  omega
theorem Cm.off (h : Cm w g s A0 L l A n c O P E wr) : P.ownBlock ≠ some g ∧ g ∉ E := ⟨h.lo.row_apart h.u.u (by decide), h.lo.el_apart h.u.u (by decide)⟩
/-- what complete leaves -/
structure CmOut (w : World) (g : Nat) (s : US) (A : Option Addr) (L : List Byte) (R : Value) (w' : World) : Prop where
  ex : ∃ E A' n' c', LO w' w.heap.size 26 5 R (prs L).1 E ∧ UC w' g { s with rs := (prs L).2 } A' n' c' ∧ ∀ x ∈ blkA A', x ∈ blkA A
  on : Only [g] w w'
theorem Cm.out (h : Cm w g s A0 L l A n c O P E wr) (hp : prs L = (O, l)) : CmOut w g s A0 L P wr := by
  refine ⟨?_, h.on⟩
  rw [hp]
  exact ⟨_, _, _, _, h.lo, h.u, h.a⟩
/-- the rest is another, in the same row -/
theorem Cm.rest (h : Cm w g s A0 L l A n c O P E wr) {A3 : Option Addr} {n3 c3 : Nat} {r : List Byte} (hm : Md wr 0 5 A3 n3 c3 r) (ha : ∀ x ∈ blkA A3, x ∈ blkA A) (hp : prs L = (O ++ (prs r).1, (prs r).2)) :
    Cm w g s A0 L r A3 n3 c3 O P E (wr.setCell ⟨g, 4, none⟩ (.slice A3 n3 c3)) := by
  obtain ⟨o1, o2⟩ := h.off
  have k := set_only wr g 4 (.slice A3 n3 c3)
  exact ⟨h.u.setr hm, fun x hx => h.a x (ha x hx), h.z, h.gl, h.lo.only k (fun i hi hm => o1 (by rw [hi, List.mem_singleton.1 hm])) (fun i hi hm => o2 (List.mem_singleton.1 hm ▸ hi)), h.on.trans k (fun x hx => .inl hx), hp⟩
/-- the packets are spoiled -/
theorem Cm.bad (h : Cm w g s A0 L l A n c O P E wr) (hp : prs L = (O, [])) : ∀ W, Below wr.heap.size wr W → Cm w g s A0 L [] none 0 0 O P E (W.setCell ⟨g, 4, none⟩ (.slice none 0 0)) := fun W hW =>
  (h.below hW).rest (Md.nil_ _ _ _) (fun x hx => nomatch hx) (by rw [prs_few (l := []) (by simp), List.append_nil]; exact hp)
/-- one packet more, and what is left -/
theorem Cm.put (h : Cm w g s A0 L l A n c O P E wr) {E2 : List Nat} {O2 : List (List Byte)} (hu : UC w6 g { s with rs := l } A n c ∧ LO w6 w.heap.size 26 5 P2 O2 E2 ∧ Only [g] w w6) {A3 : Option Addr} {n3 c3 : Nat} {r : List Byte}
    (hm : Md w6 0 5 A n c l → Md w6 0 5 A3 n3 c3 r) (ha : blkA A3 = blkA A) (hp : prs L = (O2 ++ (prs r).1, (prs r).2)) :
    Cm w g s A0 L r A3 n3 c3 O2 P2 E2 (w6.setCell ⟨g, 4, none⟩ (.slice A3 n3 c3)) := by
  obtain ⟨u, lo, on⟩ := hu
  have k := set_only w6 g 4 (.slice A3 n3 c3)
  exact ⟨u.setr (hm u.m), fun x hx => h.a x (by rw [← ha]; exact hx), h.z, h.gl, lo.only k (fun i hi hm => lo.row_apart u.u (by decide) (by rw [hi, List.mem_singleton.1 hm])) (fun i hi hm => lo.el_apart u.u (by decide) (List.mem_singleton.1 hm ▸ hi)), on.trans k (fun x hx => .inl hx), hp⟩
/-- one packet more -/
theorem Cm.add {ob : Obj} {qs : List Qb} (h : Cm w g s A0 L l A n c O P E wr) (o4 : Ow w4 wr.heap.size 5 (.slice A4 n4 c4) x) (hn : x.length = n4) (b4 : Below wr.heap.size wr w4)
    (he : qs.map (·.l) = O) (h3 : ∀ q ∈ qs, Ow (w4.alloc ob) w.heap.size 5 q.v q.l ∧ ∀ k, q.v.ownBlock = some k → k ∈ E) {row : Option Nat} (hR : P.ownBlock = row) (hg6 : (w4.alloc ob).grownBy w6 row) (ho6 : Row.Os enc 1 w6 w.heap.size 26 P2 (qs ++ [⟨x, A4, c4⟩])) :
    UC w6 g { s with rs := l } A n c ∧ LO w6 w.heap.size 26 5 P2 (O ++ [x]) (E ++ (Value.slice A4 n4 c4).ownBlock.toList) ∧ Only [g] w w6 := by
  have hs := h.on.size
  have b5 : Below wr.heap.size wr (w4.alloc ob) := b4.alloc b4.size ob
  have l5 := h.lo.below b5
  have u5 := h.u.below b5
  have k6 := Only.of_grown hg6
  have hrow : ∀ i ∈ fam g A, i ∉ row.toList := fun i hi hm => by
    have hm : P.ownBlock = some i := by rw [hR]; simpa using hm
    rcases List.mem_cons.1 hi with rfl | hi
    · exact l5.row_apart u5.u (by decide) hm
    · obtain ⟨cs, hc⟩ := u5.m.cel i hi
      exact l5.row_apart hc (by decide) hm
  refine ⟨u5.only k6 hrow, h.lo.push1 (by decide) o4 (by omega) hn b4 he h3 hR hg6 ho6, ?_⟩
  refine (h.on.trans (Only.of_below (S := []) b5) (by simp)).trans k6 (fun i hi => .inr ?_)
  exact (l5.row_lt i (by rw [hR]; simpa using hi)).1
end

set_option maxRecDepth 100000 in
set_option maxHeartbeats 4000000 in
theorem ucomplete_uc {w : World} {g n c : Nat} {s : US} {A : Option Addr} {L : List Byte} (h : UC w g { s with rs := L } A n c) (hL : L.length ≤ 10000000) :
    Calls Try.prog 30 #[.pointer (some ⟨g, 0, none⟩)] w fun e w' => ∃ R, e = .returned R ∧ CmOut w g s A L R w' := by
  have h0 := Cm.start h
  clear h
  go_enter Try.func30, Try.ntmps30
  go_wp2_with fail
  go_loopw [3] (fun P wr => ∃ (l : List Byte) (A' : Option Addr) (n' c' : Nat) (O : List (List Byte)) (E : List Nat), Cm w g s A L l A' n' c' O P E wr) (fun _ wr => restLen wr g)
  case atStart => exact ⟨_, _, _, _, _, _, h0⟩
  case round =>
    obtain ⟨l, A', n', c', O, E, hC⟩ := hrel
    clear h0
    have hml := hC.u.m.1
    simp only at hml
    have c4 := hC.u.u.cell 4
    have f4 := hC.u.u.free 4
    simp at c4
    have hgl := hC.u.u.lt
    have hr := Md.rd hC.u.m
    simp only at hr
    have hrl : restLen wr g = n' := by unfold restLen; rw [c4]
    by_cases h6 : n' < 6
    · have e1 := prs_few (l := l) (by omega)
      have t1 : decide ((6 : Int) ≤ (n' : Int)) = false := by simp; omega
      have t1' : decide (6 ≤ n') = false := by simp; omega
      have hp := hC.h
      rw [e1, List.append_nil] at hp
      have HC := Lib.hid hC
      have HP := Lib.hid hp
      clear hC hp e1 hr hml h6
      go_wp2
      go_ret
      exact ⟨_, rfl, HC.out.out HP.out⟩
    · have t1 : decide ((6 : Int) ≤ (n' : Int)) = true := by simp; omega
      have t1' : decide (6 ≤ n') = true := by simp; omega
      have hz := size_any A' l n' c' wr (Lib.hid hr.len) hr.bs hr.nil hr.le hr.max
      obtain ⟨Er, hEr⟩ : ∃ Er, siE l = Er := ⟨_, rfl⟩
      obtain ⟨N, hN⟩ : ∃ N, siN l = N := ⟨_, rfl⟩
      rw [hEr, hN] at hz
      by_cases hE0 : Er = 0
      · subst hE0
        obtain ⟨g1, g2, g3⟩ := siE_zero hEr
        have hNt : N = tot l := by rw [← hN, (siE_good g1 g2 g3).2]
        have h7 := tot_seven l
        rw [← hNt] at h7 g3
        have t2 : ((0 : Int) != 0) = false := by decide
        by_cases hw : n' < N
        · have e1 := prs_wait hEr (by omega)
          have t3 : decide ((n' : Int) < (N : Int)) = true := by simp; omega
          have t3' : decide (n' < N) = true := by simp; omega
          have hp := hC.h
          rw [e1, List.append_nil] at hp
          have HC := Lib.hid hC
          have HP := Lib.hid hp
          clear hC hp e1 hr hml h6 hEr hN hNt g1 g2 g3 h7 hw
          go_wp2_with fail
          refine hz.mono ?_
          rintro e w2 ⟨rfl, b2⟩
          have d4 := (b2.cell (p := ⟨g, 4, none⟩) hgl).trans c4
          have HB := Lib.hid b2
          clear hz c4 f4 b2
          go_wp2
          go_ret
          have h2 := HC.out.below HB.out
          exact ⟨_, rfl, h2.out HP.out⟩
        · have t3 : decide ((n' : Int) < (N : Int)) = false := by simp; omega
          have t3' : decide (n' < N) = false := by simp; omega
          have hst := prs_step hC.h hEr (by omega)
          rw [← hNt] at hst
          have hid := idle_is hEr (by omega)
          rw [← hNt] at hid
          obtain ⟨X, hX⟩ : ∃ X, l.take N = X := ⟨_, rfl⟩
          obtain ⟨Y, hY⟩ : ∃ Y, l.drop N = Y := ⟨_, rfl⟩
          rw [hX] at hid
          rw [hX, hY] at hst
          obtain ⟨A3, hA3⟩ : ∃ A3, (if c' = N then A' else Option.map (fun x => x.add N) A') = A3 := ⟨_, rfl⟩
          obtain ⟨n3, hn3⟩ : ∃ n3, n' - N = n3 := ⟨_, rfl⟩
          obtain ⟨c3, hc3⟩ : ∃ c3, c' - N = c3 := ⟨_, rfl⟩
          have hMd : ∀ W, Md W 0 5 A' n' c' l → Md W 0 5 A3 n3 c3 Y := fun W hW => by
            have := hW.drop (k := N) (by omega)
            rw [hA3, hn3, hc3, hY] at this
            exact this
          have hbl := blkA_drop A' c' N
          rw [hA3] at hbl
          have hrX := Rd.head hr N (by omega)
          rw [hX] at hrX
          have hcp : n' ≤ c' := hr.le
          have s1 : (N : Int) ≤ (c' : Int) := by omega
          have s2 : N ≤ c' := by omega
          have s3 : (N : Int) ≤ (n' : Int) := by omega
          have s4 : N ≤ n' := by omega
          have hmeas : n3 < n' := by omega
          have hlX := hrX.len
          cases hi : idl l with
          | true =>
            rw [hi] at hid hst
            simp only [if_true, List.append_nil] at hst
            have HC := Lib.hid hC
            have HH := Lib.hid (And.intro hst (And.intro hMd (And.intro hbl (And.intro hmeas hrl))))
            clear hC hst hMd hbl hmeas hrl hr hml h6 hEr hN hNt g1 g2 g3 h7 hw hX hY hcp hlX hi
            go_wp2_with fail
            refine hz.mono ?_
            rintro e w2 ⟨rfl, b2⟩
            have d4 := (b2.cell (p := ⟨g, 4, none⟩) hgl).trans c4
            have hgl2 := Nat.lt_of_lt_of_le hgl b2.size
            have xi := uidle_rd w2 A' X N c' (hrX.later b2) hid
            have HB := Lib.hid b2
            clear hz c4 f4 b2 hgl hrX hid
            go_wp2_with fail
            refine xi.mono ?_
            rintro e w3 ⟨rfl, b3⟩
            have b13 := HB.out.trans (b3.mono HB.out.size)
            have C3 := HC.out.below b13
            have e4 := C3.u.u.cell 4
            have f4 := C3.u.u.free 4
            simp at e4
            have HR := Lib.hid (C3.rest (HH.out.2.1 _ C3.u.m) (by rw [HH.out.2.2.1]; exact fun x hx => hx) HH.out.1)
            clear xi d4 b3 b13 C3 hgl2
            go_wp2
            go_roundw
            case rel => exact ⟨_, _, _, _, _, _, HR.out⟩
            case measure =>
              have q := HR.out.u.u.cell 4
              simp at q
              rw [HH.out.2.2.2.2]
              unfold restLen
              rw [q]
              exact HH.out.2.2.2.1
          | false =>
            rw [hi] at hid hst
            simp only [Bool.false_eq_true, if_false] at hst
            have HC := Lib.hid hC
            have HH := Lib.hid (And.intro hst (And.intro hMd (And.intro hbl (And.intro hmeas hrl))))
            have HX : Hid (X.length = N) := Lib.hid hlX
            have hN4 : N ≤ 4096 := by omega
            clear hC hst hMd hbl hmeas hrl hr hml h6 hEr hN hNt g1 g2 g3 h7 hw hX hY hcp hlX hi
            go_wp2_with fail
            refine hz.mono ?_
            rintro e w2 ⟨rfl, b2⟩
            have d4 := (b2.cell (p := ⟨g, 4, none⟩) hgl).trans c4
            have hgl2 := Nat.lt_of_lt_of_le hgl b2.size
            have rX2 := hrX.later b2
            have xi := uidle_rd w2 A' X N c' rX2 hid
            have HB := Lib.hid b2
            clear hz c4 f4 b2 hgl hrX hid
            go_wp2_with fail
            refine xi.mono ?_
            rintro e w3 ⟨rfl, b3⟩
            have e4 := (b3.cell (p := ⟨g, 4, none⟩) hgl2).trans d4
            have rX3 := rX2.later b3
            have xc := clone_any A' X N c' w3 HX rX3.bs rX3.nil (by omega)
            have b13 := HB.out.trans (b3.mono HB.out.size)
            have HC3 := Lib.hid (And.intro (HC.out.below b13) b13)
            clear xi d4 b3 b13 hgl2 rX2 rX3
            go_wp2_with fail
            refine xc.mono ?_
            rintro e w4 ⟨v4, rfl, o4, b4⟩
            obtain ⟨A4, k4, rfl, _⟩ := o4.reads_len HX.out
            obtain ⟨qs, AR, kR, rfl, hqn, hqe, hqo, hqr, hqz, hq3⟩ := (HC3.out.1.lo.below b4).parts (n := O.length) rfl
            have HO : Hid (w.heap.size ≤ w4.heap.size) := Lib.hid (Nat.le_trans HC3.out.1.on.size b4.size)
            go_wp2_with (at_builtin; refine wpList_row _ enc_ok is_lists (by decide) rfl (.tmp 40) (.tmp 48) rfl rfl (hqo.alloc _) (l := [⟨X, A4, k4⟩]) (n := 1) rfl rfl (Rs_new1 enc_ok w4 _ _ _ (by simp only [enc, HX.out])) (by simp) (by rw [hqn]; have := HC3.out.1.len; simp; omega) (by have := HO.out; simp; omega) ?_; intro R2 w6 ho6 hg6 hr6; have hd6 := HC3.out.1.add (x := X) (A4 := A4) (n4 := N) (c4 := k4) o4 HX.out b4 hqe (fun q hq => ⟨(hq3 q hq).1.alloc _, (hq3 q hq).2⟩) rfl hg6 ho6; have g4 := hd6.1.u.cell 4; have f4 := hd6.1.u.free 4; simp at g4)
            have HR := Lib.hid (HC3.out.1.put hd6 (HH.out.2.1 _) HH.out.2.2.1 HH.out.1)
            go_roundw
            case rel => exact ⟨_, _, _, _, _, _, HR.out⟩
            case measure =>
              have q := HR.out.u.u.cell 4
              simp at q
              rw [HH.out.2.2.2.2]
              unfold restLen
              rw [q]
              exact HH.out.2.2.2.1
      · have e1 := prs_bad (l := l) (by omega) (by rw [hEr]; exact hE0)
        have t2 : (Er != 0) = true := by simpa using hE0
        have hp := hC.h
        rw [e1, List.append_nil] at hp
        have hCd := hC.bad hp
        have HC := Lib.hid hC
        have HP := Lib.hid (And.intro hp hCd)
        clear hC hp e1 hr hml h6 hEr hN hCd hE0
        go_wp2_with fail
        refine hz.mono ?_
        rintro e w2 ⟨rfl, b2⟩
        have C2 := HC.out.below b2
        have d4 := C2.u.u.cell 4
        have f4 := C2.u.u.free 4
        simp at d4
        have HB := Lib.hid b2
        clear hz c4 b2 C2
        go_wp2
        go_ret
        have h2 := HP.out.2 w2 HB.out
        exact ⟨_, rfl, h2.out HP.out.1⟩
end Go.Proofs.Ytcmonalnhdodmaa.Unp

/-
  Package unpacker: Take, Clone.
-/
namespace Go.Proofs.Ytcmonalnhdodmaa.Unp
open Go.RowKit Go.Proofs.Ytcmonalnhdodmaa.Row Lst
open Pac (bel_new)

/-- what Take leaves -/
structure TkOut (w : World) (g : Nat) (F : List Nat) (s s' : US) (O : List (List Byte)) (R : Value) (w' : World) : Prop where
  ex : ∃ E F', LO w' w.heap.size 26 5 R O E ∧ UW w' g F' s' ∧ (∀ x ∈ F', x ∈ F ∨ w.heap.size ≤ x) ∧ ∀ x ∈ E, x ∉ F'
  on : Only F w w'

section
variable {w w1 w3 w' : World} {g n c n3 c3 m cd ct : Nat} {s s1 s' : US} {A A1 A3 a : Option Addr} {F : List Nat} {L d : List Byte} {O : List (List Byte)} {R : Value} {f : Int}
theorem TkOut.none_ (h : UW w' g (fam g A1) s') (k : Only [g] w w') (ha : ∀ x ∈ blkA A1, x ∈ blkA A) : TkOut w g (fam g A) s s' [] (.slice none 0 0) w' :=
  ⟨⟨[], _, LO.nil_ _ _ _ _, h, fun x hx => .inl (by
    rcases List.mem_cons.1 hx with rfl | hx
    · simp [fam]
    · simp [fam, ha x hx]), fun x hx => nomatch hx⟩, k.more (fun x hx => .inl (by rw [List.mem_singleton.1 hx]; simp [fam]))⟩
/-- behind complete -/
theorem TkOut.done (k : Only (fam g A) w w3) (ha : ∀ x ∈ blkA A3, x ∈ blkA A ∨ w.heap.size ≤ x) (hu : UC w3 g { s1 with rs := L } A3 n3 c3) (hC : CmOut w3 g s1 A3 L R w') (hs : s' = { s1 with rs := (prs L).2 }) (hO : O = (prs L).1) (he : s1.ex < 256) : TkOut w g (fam g A) s s' O R w' := by
  subst hs hO
  obtain ⟨⟨E, A', n', c', hlo, hu', hA⟩, hon⟩ := hC
  refine ⟨⟨E, fam g A', hlo.more k.size, ⟨⟨_, _, _, hu', rfl⟩, prs_ok L, he⟩, fun x hx => ?_, fun x hx hm => ?_⟩, k.trans hon (fun x hx => .inl (by rw [List.mem_singleton.1 hx]; simp [fam]))⟩
  · rcases List.mem_cons.1 hx with rfl | hx
    · exact .inl (by simp [fam])
    · rcases ha x (hA x hx) with h | h
      · exact .inl (by simp [fam, h])
      · exact .inr h
  · rcases List.mem_cons.1 hm with rfl | hm
    · exact hlo.el_apart hu'.u (by decide) hx
    · have h1 := (hlo.lt x hx).1
      have h2 := hu.lt x (by simp [fam, hA x hm])
      omega
theorem Ptr_arg {ct : Int} (hl : d.length = m) : Arg ct f d ↔ ((0 ≤ ct ∧ ct ≤ 255) ∧ Ptr f m) := by
  unfold Arg Ptr
  rw [hl]
  omega

theorem flw_ex (s : US) (c : Nat) : (flw s c).ex < 256 := by unfold flw; simp only; omega

set_option maxHeartbeats 1000000 in
theorem utake_bad (h : UC w g s A n c) (hok : s.Ok) {ct : Int} (hl : d.length = m) (hA : ¬ Arg ct f d) :
    Calls Try.prog 11 #[.pointer (some ⟨g, 0, none⟩), .int .i64 ct, .int .i64 f, .slice a m cd] w fun e w' => ∃ R, e = .returned R ∧ TkOut w g (fam g A) s s [] R w' := by
  have xv := fun W => valid_any ct 8 W
  have HU := Lib.hid h
  have HK := Lib.hid hok
  have hp : pw 8 = 256 := rfl
  by_cases hc : 0 ≤ ct ∧ ct ≤ 255
  · have e1 : vl ct 8 = true := vl_iff.2 ⟨by omega, by omega, by omega, by rw [hp]; omega⟩
    rw [e1] at xv
    have xp := fun W => uperm_any f a m cd W
    have e2 : decide (Ptr f m) = false := decide_eq_false (fun k => hA ((Ptr_arg hl).2 ⟨hc, k⟩))
    rw [e2] at xp
    clear e1 e2 h hok hA hl hp hc

    go_enter Try.func11, Try.ntmps11
    go_wp2_with fail
    refine (uworks_uc HU.out).mono ?_
    rintro e w1 ⟨rfl, rfl⟩
    go_wp2_with fail
    refine (xv _).mono ?_
    rintro e w1 ⟨rfl, rfl⟩

    go_wp2_with fail
    refine (xp _).mono ?_
    rintro e w1 ⟨rfl, rfl⟩
    go_wp2
    go_ret
    exact ⟨_, rfl, TkOut.none_ ⟨⟨_, _, _, HU.out, rfl⟩, HK.out⟩ (Only.refl _ _) (fun _ hx => hx)⟩
  · have e1 : vl ct 8 = false := by
      cases e : vl ct 8 with
      | false => rfl
      | true =>
        obtain ⟨_, _, q1, q2⟩ := vl_iff.1 e
        rw [hp] at q2
        omega
    rw [e1] at xv
    clear e1 h hok hA hl hp hc

    go_enter Try.func11, Try.ntmps11
    go_wp2_with fail
    refine (uworks_uc HU.out).mono ?_
    rintro e w1 ⟨rfl, rfl⟩
    go_wp2_with fail
    refine (xv _).mono ?_
    rintro e w1 ⟨rfl, rfl⟩

    go_wp2
    go_ret
    exact ⟨_, rfl, TkOut.none_ ⟨⟨_, _, _, HU.out, rfl⟩, HK.out⟩ (Only.refl _ _) (fun _ hx => hx)⟩

set_option maxHeartbeats 2000000 in
theorem utake_idle (h : UC w g s A n c) (hok : s.Ok) (hlo : s.lo ≤ 1000000000000) (hct : ct < 256) (hd : Rd w a d m cd) (_hm : m ≤ 1000000) (hof : 0 < m → Of w a (fam g A)) (hpt : Ptr f m) (h46 : f = 2046) :
    Calls Try.prog 11 #[.pointer (some ⟨g, 0, none⟩), .int .i64 (ct : Int), .int .i64 f, .slice a m cd] w fun e w' => ∃ R, e = .returned R ∧ TkOut w g (fam g A) s (flw s ct) [] R w' := by
  have xv := fun W => valid_any (ct : Int) 8 W
  have hp : pw 8 = 256 := rfl
  have e1 : vl (ct : Int) 8 = true := vl_iff.2 ⟨by omega, by omega, by omega, by rw [hp]; omega⟩
  rw [e1] at xv
  have xp := fun W => uperm_any f a m cd W
  rw [decide_eq_true hpt] at xp
  have xf := ufollow_uc h hok.e hlo ct hct
  have HU := Lib.hid h
  have HK := Lib.hid (And.intro hok (And.intro hd (And.intro hof hpt)))
  have hs1 := flw_ok hok ct
  obtain ⟨s1, hS1⟩ : ∃ s1, flw s ct = s1 := ⟨_, rfl⟩
  rw [hS1] at xf hs1

  rw [hS1]
  have t46 : (f == 2046) = true := by simpa using h46
  have HS := Lib.hid hs1
  clear e1 h hok hp hlo hct hd hof hpt hS1 hs1 h46

  go_enter Try.func11, Try.ntmps11
  go_wp2_with fail
  refine (uworks_uc HU.out).mono ?_
  rintro e w1 ⟨rfl, rfl⟩
  go_wp2_with fail
  refine (xv _).mono ?_
  rintro e w1 ⟨rfl, rfl⟩
  go_wp2_with fail
  refine (xp _).mono ?_
  rintro e w1 ⟨rfl, rfl⟩
  go_wp2_with fail
  refine xf.mono ?_
  rintro e w1 ⟨rfl, ⟨A1, n1, c1, u1, a1⟩, k1⟩

  have HF := Lib.hid (And.intro u1 (And.intro a1 k1))
  clear u1 a1 k1 xf xp xv
  go_wp2
  go_ret
  exact ⟨_, rfl, TkOut.none_ ⟨⟨_, _, _, HF.out.1, rfl⟩, HS.out⟩ HF.out.2.2 HF.out.2.1⟩

/-- the first bytes of a later world -/
theorem data_on (hd : Rd w a d m cd) (hof : 0 < m → Of w a (fam g A)) (k : Only [g] w w1) : Rd w1 a d m cd := by
  rcases Nat.eq_zero_or_pos m with h0 | h0
  · exact ⟨hd.len, fun hl => by have := hd.len; omega, hd.nil, hd.le, hd.max⟩
  · exact Rd.put hd k (fun x hx hm => (hof h0 x hx).1 (by rw [List.mem_singleton.1 hm]; simp [fam]))
theorem only_fam (k : Only [g] w w1) : Only (fam g A) w w1 := k.more (fun x hx => .inl (by rw [List.mem_singleton.1 hx]; simp [fam]))

set_option maxHeartbeats 2000000 in
theorem utake_grow (h : UC w g s A n c) (hok : s.Ok) (hlo : s.lo ≤ 1000000000000) (hct : ct < 256) (hd : Rd w a d m cd) (hm : m ≤ 1000000) (hof : 0 < m → Of w a (fam g A)) (hpt : Ptr f m) (h46 : f ≠ 2046) (hne : Hid ((flw s ct).rs ≠ [])) (hft : Hid (fts (flw s ct).rs f d = true)) :
    Calls Try.prog 11 #[.pointer (some ⟨g, 0, none⟩), .int .i64 (ct : Int), .int .i64 f, .slice a m cd] w fun e w' => ∃ R, e = .returned R ∧ TkOut w g (fam g A) s { flw s ct with rs := (prs ((flw s ct).rs ++ d)).2 } (prs ((flw s ct).rs ++ d)).1 R w' := by
  have xv := fun W => valid_any (ct : Int) 8 W
  have hp : pw 8 = 256 := rfl
  have e1 : vl (ct : Int) 8 = true := vl_iff.2 ⟨by omega, by omega, by omega, by rw [hp]; omega⟩
  rw [e1] at xv
  have xp := fun W => uperm_any f a m cd W
  rw [decide_eq_true hpt] at xp
  have xf := ufollow_uc h hok.e hlo ct hct
  have HU := Lib.hid h
  have HK := Lib.hid (And.intro hok (And.intro hd (And.intro hof hpt)))
  have hs1 := flw_ok hok ct
  obtain ⟨s1, hS1⟩ : ∃ s1, flw s ct = s1 := ⟨_, rfl⟩
  rw [hS1] at xf hs1

  rw [hS1] at hne hft
  have t46 : (f == 2046) = false := by simpa using h46

  rw [hS1]
  have HS := Lib.hid hs1
  clear e1 h hok hp hlo hct hd hof hpt hs1 h46

  go_enter Try.func11, Try.ntmps11
  go_wp2_with fail
  refine (uworks_uc HU.out).mono ?_
  rintro e w1 ⟨rfl, rfl⟩
  go_wp2_with fail
  refine (xv _).mono ?_
  rintro e w1 ⟨rfl, rfl⟩
  go_wp2_with fail
  refine (xp _).mono ?_
  rintro e w1 ⟨rfl, rfl⟩
  go_wp2_with fail
  refine xf.mono ?_
  rintro e w1 ⟨rfl, ⟨A1, n1, c1, u1, a1⟩, k1⟩
  have c4 := u1.u.cell 4
  have f4 := u1.u.free 4
  simp at c4
  have hgl := u1.u.lt
  have hd1 := data_on (A := A) HK.out.2.1 HK.out.2.2.1 k1
  have hn1 := u1.m.1

  have h0 : 0 < n1 := by
    rcases Nat.eq_zero_or_pos n1 with q | q
    · exact absurd (List.eq_nil_of_length_eq_zero (by omega)) hne.out
    · exact q
  have t0 : decide ((0 : Int) < (n1 : Int)) = true := by simp; omega
  have t0' : decide (0 < n1) = true := by simpa using h0
  have xx := ufits_uc u1 HS.out.r h0 f hd1 hm
  rw [hft.out] at xx
  have hrl := HS.out.r.len
  have HF := Lib.hid (And.intro u1 (And.intro a1 k1))
  have HD := Lib.hid (And.intro hd1 hn1)
  have HH := Lib.hid (And.intro hne hft)
  clear u1 a1 k1 xf xp xv hd1 hne hft hn1
  go_wp2_with fail
  refine xx.mono ?_
  rintro e w2 ⟨rfl, b2⟩
  have u2 := HF.out.1.below b2
  have d2 := HD.out.1.later b2
  have e4 := u2.u.cell 4
  have g4 := u2.u.free 4
  simp at e4
  have hdl := HD.out.1.len
  have hs2 := HF.out.2.2.size
  clear c4 f4 xx
  by_cases hm0 : m = 0
  · subst hm0
    have hrun := run_mid0 (P := Try.prog) (ty := 26) is_bytes u2.m a cd
    have hd0 : d = [] := List.eq_nil_of_length_eq_zero hdl
    have u4 := u2.setr (r := s1.rs ++ d) (by rw [hd0, List.append_nil]; exact u2.m)
    have k4 : Only (fam g A) w _ := only_fam ((HF.out.2.2.trans (Only.of_below (S := []) b2) (by simp)).trans (set_only w2 g 4 (.slice A1 n1 c1)) (fun x hx => .inl hx))
    have hLl : (s1.rs ++ d).length ≤ 10000000 := by rw [List.length_append]; omega
    have HB := Lib.hid (And.intro u4 (And.intro k4 hLl))
    clear u2 d2 b2 u4 k4 hLl hd0 hdl hs2 hrl
    go_wp2_with (at_builtin; refine Row.wpList_appendK _ rfl (.tmp 53) (.tmp 54) 26 26 rfl (.slice A1 n1 c1) (.slice a 0 cd) rfl rfl hrun ?_)
    obtain ⟨u4, k4, hLl⟩ := HB.out
    go_wp2_with fail
    refine (ucomplete_uc u4 hLl).mono ?_
    rintro e w5 ⟨R, rfl, o5⟩
    have HO := Lib.hid (And.intro u4 (And.intro o5 k4))
    clear u4 o5 k4
    go_wp2
    go_ret
    exact ⟨_, rfl, TkOut.done HO.out.2.2 (fun x hx => .inl (HF.out.2.1 x hx)) HO.out.1 HO.out.2.1 rfl rfl HS.out.e⟩
  · obtain ⟨A3, c3, w3, hrun, hmd, hon, hnew⟩ := run_mid (P := Try.prog) (ty := 26) (c2 := cd) w2 is_bytes u2.m d2.len d2.bs (by omega) (by have := HD.out.2; omega) (Nat.zero_le _)
    have q3 : Cel w3 g _ _ := u2.u.only hon u2.gr
    have i4 := q3.cell 4
    have j4 := q3.free 4
    simp at i4
    have u4 : UC (w3.setCell ⟨g, 4, none⟩ (.slice A3 (n1 + m) c3)) g { s1 with rs := s1.rs ++ d } A3 (n1 + m) c3 := by
      have k := set_only w3 g 4 (.slice A3 (n1 + m) c3)
      have hg := Md.off hmd q3 (by decide)
      exact ⟨q3.put 4 _, hmd.only k (fun x hx hm => hg (List.mem_singleton.1 hm ▸ hx))⟩
    have k4 : Only (fam g A) w (w3.setCell ⟨g, 4, none⟩ (.slice A3 (n1 + m) c3)) := by
      refine ((only_fam (HF.out.2.2.trans (Only.of_below (S := []) b2) (by simp))).trans (hon.more (T := fam g A) (fun x hx => .inl (by simp [fam, HF.out.2.1 x hx]))) (fun x hx => .inl hx)).put (p := ⟨g, 4, none⟩) (.inl (by simp [fam])) _
    have ha4 : ∀ x ∈ blkA A3, x ∈ blkA A ∨ w.heap.size ≤ x := fun x hx => by
      rcases hnew x hx with q | q
      · exact .inl (HF.out.2.1 x q)
      · exact .inr (by have := b2.size; omega)
    have hLl : (s1.rs ++ d).length ≤ 10000000 := by rw [List.length_append]; omega
    obtain ⟨M, hM⟩ : ∃ M, n1 + m = M := ⟨_, rfl⟩
    rw [hM] at u4 k4 hrun
    have HB := Lib.hid (And.intro u4 (And.intro k4 (And.intro hLl ha4)))
    clear u2 d2 b2 u4 k4 hLl hdl hs2 hrl hmd hon hnew q3 ha4 hM
    go_wp2_with (at_builtin; refine Row.wpList_appendK _ rfl (.tmp 53) (.tmp 54) 26 26 rfl (.slice A1 n1 c1) (.slice a m cd) rfl rfl hrun ?_)
    obtain ⟨u4, k4, hLl, ha4⟩ := HB.out
    go_wp2_with fail
    refine (ucomplete_uc u4 hLl).mono ?_
    rintro e w5 ⟨R, rfl, o5⟩
    have HO := Lib.hid (And.intro u4 (And.intro o5 k4))
    clear u4 o5 k4
    go_wp2
    go_ret
    exact ⟨_, rfl, TkOut.done HO.out.2.2 ha4 HO.out.1 HO.out.2.1 rfl rfl HS.out.e⟩

set_option maxHeartbeats 2000000 in
theorem utake_none (h : UC w g s A n c) (hok : s.Ok) (hlo : s.lo ≤ 1000000000000) (hct : ct < 256) (hd : Rd w a d m cd) (hm : m ≤ 1000000) (hof : 0 < m → Of w a (fam g A)) (hpt : Ptr f m) (h46 : f = 2047) (hft : Hid ((flw s ct).rs ≠ [] → fts (flw s ct).rs f d = false)) :
    Calls Try.prog 11 #[.pointer (some ⟨g, 0, none⟩), .int .i64 (ct : Int), .int .i64 f, .slice a m cd] w fun e w' => ∃ R, e = .returned R ∧ TkOut w g (fam g A) s { flw s ct with rs := (prs []).2 } (prs []).1 R w' := by
  have xv := fun W => valid_any (ct : Int) 8 W
  have hp : pw 8 = 256 := rfl
  have e1 : vl (ct : Int) 8 = true := vl_iff.2 ⟨by omega, by omega, by omega, by rw [hp]; omega⟩
  rw [e1] at xv
  have xp := fun W => uperm_any f a m cd W
  rw [decide_eq_true hpt] at xp
  have xf := ufollow_uc h hok.e hlo ct hct
  have HU := Lib.hid h
  have HK := Lib.hid (And.intro hok (And.intro hd (And.intro hof hpt)))
  have hs1 := flw_ok hok ct
  obtain ⟨s1, hS1⟩ : ∃ s1, flw s ct = s1 := ⟨_, rfl⟩
  rw [hS1] at xf hs1

  rw [hS1] at hft
  have t46 : (f == 2046) = false := by simp; omega
  have t47 : (f == 2047) = true := by simpa using h46

  rw [hS1]
  have HS := Lib.hid hs1
  clear e1 h hok hp hlo hct hd hof hpt hs1 h46

  go_enter Try.func11, Try.ntmps11
  go_wp2_with fail
  refine (uworks_uc HU.out).mono ?_
  rintro e w1 ⟨rfl, rfl⟩
  go_wp2_with fail
  refine (xv _).mono ?_
  rintro e w1 ⟨rfl, rfl⟩
  go_wp2_with fail
  refine (xp _).mono ?_
  rintro e w1 ⟨rfl, rfl⟩
  go_wp2_with fail
  refine xf.mono ?_
  rintro e w1 ⟨rfl, ⟨A1, n1, c1, u1, a1⟩, k1⟩
  have c4 := u1.u.cell 4
  have f4 := u1.u.free 4
  simp at c4
  have hgl := u1.u.lt
  have hd1 := data_on (A := A) HK.out.2.1 HK.out.2.2.1 k1
  have hn1 := u1.m.1

  rcases Nat.eq_zero_or_pos n1 with q | q
  · have t0 : decide ((0 : Int) < (n1 : Int)) = false := by simp; omega
    have t0' : decide (0 < n1) = false := by simp; omega
    have HF := Lib.hid (And.intro u1 (And.intro a1 k1))
    have HD := Lib.hid hd1
    clear u1 a1 k1 xf xp xv hd1 hft hn1 q
    have u2 := HF.out.1.below (Below.refl w1.heap.size w1)
    have e4 := u2.u.cell 4
    have g4 := u2.u.free 4
    simp at e4
    have u4 := u2.setr (r := []) (Md.nil_ w1 0 5)
    have k4 : Only (fam g A) w _ := only_fam ((HF.out.2.2.trans (Only.of_below (S := []) (Below.refl w1.heap.size w1)) (by simp)).trans (set_only w1 g 4 (.slice none 0 0)) (fun x hx => .inl hx))
    have HB := Lib.hid (And.intro u4 k4)
    clear u2 u4 k4
    have hLl : ([] : List Byte).length ≤ 10000000 := by simp
    have x4 := ucomplete_uc HB.out.1 hLl
    go_wp2_with fail
    refine x4.mono ?_
    clear x4
    rintro e w5 ⟨R, rfl, o5⟩
    have HO := Lib.hid o5
    clear o5
    go_wp2
    go_ret
    exact ⟨_, rfl, TkOut.done (A3 := none) HB.out.2 (fun x hx => nomatch hx) HB.out.1 HO.out rfl rfl HS.out.e⟩
  · have t0 : decide ((0 : Int) < (n1 : Int)) = true := by simp; omega
    have t0' : decide (0 < n1) = true := by simpa using q
    have hne : s1.rs ≠ [] := fun k => by rw [k] at hn1; simp at hn1; omega
    have xx := ufits_uc u1 HS.out.r q f hd1 hm
    rw [hft.out hne] at xx
    have HF := Lib.hid (And.intro u1 (And.intro a1 k1))
    have HD := Lib.hid hd1
    clear u1 a1 k1 xf xp xv hd1 hft hn1 q hne
    go_wp2_with fail
    refine xx.mono ?_
    rintro e w2 ⟨rfl, b2⟩
    have HB2 := Lib.hid b2
    clear b2 c4 f4 xx
    have u2 := HF.out.1.below HB2.out
    have e4 := u2.u.cell 4
    have g4 := u2.u.free 4
    simp at e4
    have u4 := u2.setr (r := []) (Md.nil_ w2 0 5)
    have k4 : Only (fam g A) w _ := only_fam ((HF.out.2.2.trans (Only.of_below (S := []) HB2.out) (by simp)).trans (set_only w2 g 4 (.slice none 0 0)) (fun x hx => .inl hx))
    have HB := Lib.hid (And.intro u4 k4)
    clear u2 u4 k4
    have hLl : ([] : List Byte).length ≤ 10000000 := by simp
    have x4 := ucomplete_uc HB.out.1 hLl
    go_wp2_with fail
    refine x4.mono ?_
    clear x4
    rintro e w5 ⟨R, rfl, o5⟩
    have HO := Lib.hid o5
    clear o5
    go_wp2
    go_ret
    exact ⟨_, rfl, TkOut.done (A3 := none) HB.out.2 (fun x hx => nomatch hx) HB.out.1 HO.out rfl rfl HS.out.e⟩

set_option maxHeartbeats 2000000 in
theorem utake_begin {fn : Nat} (h : UC w g s A n c) (hok : s.Ok) (hlo : s.lo ≤ 1000000000000) (hct : ct < 256) (hd : Rd w a d m cd) (hm : m ≤ 1000000) (hof : 0 < m → Of w a (fam g A)) (hpt : Ptr f m) (h46 : f = (fn : Int) ∧ fn < m ∧ fn ≠ 2046 ∧ fn ≠ 2047) (hft : Hid ((flw s ct).rs ≠ [] → fts (flw s ct).rs f d = false)) :
    Calls Try.prog 11 #[.pointer (some ⟨g, 0, none⟩), .int .i64 (ct : Int), .int .i64 f, .slice a m cd] w fun e w' => ∃ R, e = .returned R ∧ TkOut w g (fam g A) s { flw s ct with rs := (prs (d.drop fn)).2 } (prs (d.drop fn)).1 R w' := by
  have xv := fun W => valid_any (ct : Int) 8 W
  have hp : pw 8 = 256 := rfl
  have e1 : vl (ct : Int) 8 = true := vl_iff.2 ⟨by omega, by omega, by omega, by rw [hp]; omega⟩
  rw [e1] at xv
  have xp := fun W => uperm_any f a m cd W
  rw [decide_eq_true hpt] at xp
  have xf := ufollow_uc h hok.e hlo ct hct
  have HU := Lib.hid h
  have HK := Lib.hid (And.intro hok (And.intro hd (And.intro hof hpt)))
  have hs1 := flw_ok hok ct
  obtain ⟨s1, hS1⟩ : ∃ s1, flw s ct = s1 := ⟨_, rfl⟩
  rw [hS1] at xf hs1

  rw [hS1] at hft
  obtain ⟨rfl, hfm, h6, h7⟩ := h46
  have t46 : ((fn : Int) == 2046) = false := by simp; omega
  have t47 : ((fn : Int) == 2047) = false := by simp; omega

  rw [hS1]
  have HS := Lib.hid hs1
  clear e1 h hok hp hlo hct hd hof hpt hs1 h6 h7

  go_enter Try.func11, Try.ntmps11
  go_wp2_with fail
  refine (uworks_uc HU.out).mono ?_
  rintro e w1 ⟨rfl, rfl⟩
  go_wp2_with fail
  refine (xv _).mono ?_
  rintro e w1 ⟨rfl, rfl⟩
  go_wp2_with fail
  refine (xp _).mono ?_
  rintro e w1 ⟨rfl, rfl⟩
  go_wp2_with fail
  refine xf.mono ?_
  rintro e w1 ⟨rfl, ⟨A1, n1, c1, u1, a1⟩, k1⟩
  have c4 := u1.u.cell 4
  have f4 := u1.u.free 4
  simp at c4
  have hgl := u1.u.lt
  have hd1 := data_on (A := A) HK.out.2.1 HK.out.2.2.1 k1
  have hn1 := u1.m.1

  rcases Nat.eq_zero_or_pos n1 with q | q
  · have t0 : decide ((0 : Int) < (n1 : Int)) = false := by simp; omega
    have t0' : decide (0 < n1) = false := by simp; omega
    have HF := Lib.hid (And.intro u1 (And.intro a1 k1))
    have HD := Lib.hid hd1
    clear u1 a1 k1 xf xp xv hd1 hft hn1 q
    have d2 := HD.out.later (Below.refl w1.heap.size w1)
    have dd := d2.drop (k := fn) (by omega)
    obtain ⟨ad, had⟩ : ∃ ad, (if cd = fn then a else Option.map (fun x => x.add fn) a) = ad := ⟨_, rfl⟩
    obtain ⟨md, hmd⟩ : ∃ md, m - fn = md := ⟨_, rfl⟩
    obtain ⟨ed, hed⟩ : ∃ ed, cd - fn = ed := ⟨_, rfl⟩
    rw [had, hmd, hed] at dd
    have hcd := d2.le
    have xc := clone_any ad (d.drop fn) md ed w1 (Lib.hid dd.len) dd.bs dd.nil (by omega)
    have hLd : (d.drop fn).length = md := dd.len
    have s1_ : (fn : Int) ≤ (cd : Int) := by omega
    have s2_ : fn ≤ cd := by omega
    have s3_ : (fn : Int) ≤ (m : Int) := by omega
    have s4_ : fn ≤ m := by omega
    have HL := Lib.hid (And.intro hLd hm)
    have HE := Lib.hid hmd
    clear d2 dd hcd hLd
    go_wp2_with fail
    refine xc.mono ?_
    rintro e w3 ⟨v3, rfl, o3, b3⟩
    obtain ⟨A3, c3, rfl, _⟩ := o3.reads_len HL.out.1
    have b13 := ((Below.refl w1.heap.size w1)).trans (b3.mono ((Below.refl w1.heap.size w1)).size)
    have u3 := HF.out.1.below b13
    have e4 := u3.u.cell 4
    have g4 := u3.u.free 4
    simp at e4
    have hm3 := (Md.of o3 HL.out.1).more (Nat.zero_le _)
    have u4 := u3.setr hm3
    have k4 : Only (fam g A) w _ := only_fam ((HF.out.2.2.trans (Only.of_below (S := []) b13) (by simp)).trans (set_only w3 g 4 (.slice A3 md c3)) (fun x hx => .inl hx))
    have ha4 : ∀ x ∈ blkA A3, x ∈ blkA A ∨ w.heap.size ≤ x := fun x hx => .inr (by
      rw [blkA_own A3 md c3] at hx
      have h1 := (o3.lt x (by simpa using hx)).1
      have h2 := HF.out.2.2.size
      have h3 := ((Below.refl w1.heap.size w1)).size
      omega)
    have HB := Lib.hid (And.intro u4 (And.intro k4 ha4))
    clear u3 u4 k4 ha4 hm3 b3 b13 o3 xc
    have hLl : (d.drop fn).length ≤ 10000000 := by have := HL.out.1; have := HL.out.2; have := HE.out; omega
    have x4 := ucomplete_uc HB.out.1 hLl
    clear hLl
    go_wp2_with fail
    refine x4.mono ?_
    clear x4
    rintro e w5 ⟨R, rfl, o5⟩
    have HO := Lib.hid o5
    clear o5
    go_wp2
    go_ret
    exact ⟨_, rfl, TkOut.done HB.out.2.1 HB.out.2.2 HB.out.1 HO.out rfl rfl HS.out.e⟩
  · have t0 : decide ((0 : Int) < (n1 : Int)) = true := by simp; omega
    have t0' : decide (0 < n1) = true := by simpa using q
    have hne : s1.rs ≠ [] := fun k => by rw [k] at hn1; simp at hn1; omega
    have xx := ufits_uc u1 HS.out.r q (fn : Int) hd1 hm
    rw [hft.out hne] at xx
    have HF := Lib.hid (And.intro u1 (And.intro a1 k1))
    have HD := Lib.hid hd1
    clear u1 a1 k1 xf xp xv hd1 hft hn1 q hne
    go_wp2_with fail
    refine xx.mono ?_
    rintro e w2 ⟨rfl, b2⟩
    have HB2 := Lib.hid b2
    clear b2 c4 f4 xx
    have d2 := HD.out.later HB2.out
    have dd := d2.drop (k := fn) (by omega)
    obtain ⟨ad, had⟩ : ∃ ad, (if cd = fn then a else Option.map (fun x => x.add fn) a) = ad := ⟨_, rfl⟩
    obtain ⟨md, hmd⟩ : ∃ md, m - fn = md := ⟨_, rfl⟩
    obtain ⟨ed, hed⟩ : ∃ ed, cd - fn = ed := ⟨_, rfl⟩
    rw [had, hmd, hed] at dd
    have hcd := d2.le
    have xc := clone_any ad (d.drop fn) md ed w2 (Lib.hid dd.len) dd.bs dd.nil (by omega)
    have hLd : (d.drop fn).length = md := dd.len
    have s1_ : (fn : Int) ≤ (cd : Int) := by omega
    have s2_ : fn ≤ cd := by omega
    have s3_ : (fn : Int) ≤ (m : Int) := by omega
    have s4_ : fn ≤ m := by omega
    have HL := Lib.hid (And.intro hLd hm)
    have HE := Lib.hid hmd
    clear d2 dd hcd hLd
    go_wp2_with fail
    refine xc.mono ?_
    rintro e w3 ⟨v3, rfl, o3, b3⟩
    obtain ⟨A3, c3, rfl, _⟩ := o3.reads_len HL.out.1
    have b13 := (HB2.out).trans (b3.mono (HB2.out).size)
    have u3 := HF.out.1.below b13
    have e4 := u3.u.cell 4
    have g4 := u3.u.free 4
    simp at e4
    have hm3 := (Md.of o3 HL.out.1).more (Nat.zero_le _)
    have u4 := u3.setr hm3
    have k4 : Only (fam g A) w _ := only_fam ((HF.out.2.2.trans (Only.of_below (S := []) b13) (by simp)).trans (set_only w3 g 4 (.slice A3 md c3)) (fun x hx => .inl hx))
    have ha4 : ∀ x ∈ blkA A3, x ∈ blkA A ∨ w.heap.size ≤ x := fun x hx => .inr (by
      rw [blkA_own A3 md c3] at hx
      have h1 := (o3.lt x (by simpa using hx)).1
      have h2 := HF.out.2.2.size
      have h3 := (HB2.out).size
      omega)
    have HB := Lib.hid (And.intro u4 (And.intro k4 ha4))
    clear u3 u4 k4 ha4 hm3 b3 b13 o3 xc
    have hLl : (d.drop fn).length ≤ 10000000 := by have := HL.out.1; have := HL.out.2; have := HE.out; omega
    have x4 := ucomplete_uc HB.out.1 hLl
    clear hLl
    go_wp2_with fail
    refine x4.mono ?_
    clear x4
    rintro e w5 ⟨R, rfl, o5⟩
    have HO := Lib.hid o5
    clear o5
    go_wp2
    go_ret
    exact ⟨_, rfl, TkOut.done HB.out.2.1 HB.out.2.2 HB.out.1 HO.out rfl rfl HS.out.e⟩


theorem stm_grow {r : List Byte} (h : r ≠ []) (h2 : fts r f d = true) : stm r f d = r ++ d := by unfold stm; rw [if_pos ⟨h, h2⟩]
theorem stm_none {r : List Byte} (h : ¬ (r ≠ [] ∧ fts r f d = true)) (h2 : f = 2047) : stm r f d = [] := by unfold stm; rw [if_neg h, if_pos h2]
theorem stm_begin {r : List Byte} (h : ¬ (r ≠ [] ∧ fts r f d = true)) (h2 : f ≠ 2047) : stm r f d = d.drop f.toNat := by unfold stm; rw [if_neg h, if_neg h2]
/-- Take -/
theorem utake_any (h : UW w g F s) (hlo : s.lo ≤ 1000000000000) (hd : Rd w a d m cd) (hm : m ≤ 1000000) (hof : 0 < m → Of w a F) (ct f : Int) :
    Calls Try.prog 11 #[.pointer (some ⟨g, 0, none⟩), .int .i64 ct, .int .i64 f, .slice a m cd] w fun e w' => ∃ R, e = .returned R ∧ TkOut w g F s (tkS s ct f d) (tkO s ct f d) R w' := by
  obtain ⟨⟨A, n, c, hc, rfl⟩, hok⟩ := h
  by_cases hA : Arg ct f d
  · obtain ⟨⟨q1, q2⟩, q3⟩ := (Ptr_arg hd.len).1 hA
    obtain ⟨C, rfl⟩ : ∃ C : Nat, ct = (C : Int) := ⟨ct.toNat, by omega⟩
    have e1 : tkS s (C : Int) f d = if f = 2046 then flw s C else { flw s C with rs := (prs (stm (flw s C).rs f d)).2 } := by unfold tkS; rw [if_pos hA]; rfl
    have e2 : tkO s (C : Int) f d = if f = 2046 then [] else (prs (stm (flw s C).rs f d)).1 := by unfold tkO; rw [if_pos hA]; rfl
    rw [e1, e2]
    by_cases h46 : f = 2046
    · rw [if_pos h46, if_pos h46]
      exact utake_idle hc hok hlo (by omega) hd hm hof q3 h46
    · rw [if_neg h46, if_neg h46]
      by_cases hg : (flw s C).rs ≠ [] ∧ fts (flw s C).rs f d = true
      · rw [stm_grow hg.1 hg.2]
        exact utake_grow hc hok hlo (by omega) hd hm hof q3 h46 (Lib.hid hg.1) (Lib.hid hg.2)
      · have hg2 : (flw s C).rs ≠ [] → fts (flw s C).rs f d = false := fun k => by
          cases e : fts (flw s C).rs f d with
          | false => rfl
          | true => exact absurd ⟨k, e⟩ hg
        by_cases h47 : f = 2047
        · rw [stm_none hg h47]
          exact utake_none hc hok hlo (by omega) hd hm hof q3 h47 (Lib.hid hg2)
        · rw [stm_begin hg h47]
          have q4 : 0 ≤ f ∧ f < (m : Int) := by unfold Ptr at q3; omega
          obtain ⟨fn, rfl⟩ : ∃ fn : Nat, f = (fn : Int) := ⟨f.toNat, by omega⟩
          exact utake_begin hc hok hlo (by omega) hd hm hof q3 ⟨rfl, by omega, by omega, by omega⟩ (Lib.hid hg2)
  · have e1 : tkS s ct f d = s := by unfold tkS; rw [if_neg hA]
    have e2 : tkO s ct f d = [] := by unfold tkO; rw [if_neg hA]
    rw [e1, e2]
    exact utake_bad hc hok hd.len hA
set_option maxHeartbeats 400000 in
theorem utake_dead (w : World) (p : Option Addr) (h : Dead w p) (ct f : Int) (a : Option Addr) (m cd : Nat) : Calls Try.prog 11 #[.pointer p, .int .i64 ct, .int .i64 f, .slice a m cd] w fun e w' => e = .returned (.slice none 0 0) ∧ w = w' := by
  go_enter Try.func11, Try.ntmps11
  go_wp2_with fail
  refine (uworks_dead _ _ h).mono ?_
  rintro e w1 ⟨rfl, rfl⟩
  go_wp2
  go_ret
  exact ⟨rfl, rfl⟩
end
end Go.Proofs.Ytcmonalnhdodmaa.Unp

/-
  Package unpacker: Clone.
-/
namespace Go.Proofs.Ytcmonalnhdodmaa.Unp
open Go.RowKit
open Pac (bel_new)

section
variable {w : World} {g n c : Nat} {s : US} {A : Option Addr} {F : List Nat}
set_option maxHeartbeats 1000000 in
theorem uclone_uc (h : UC w g s A n c) (hok : s.Ok) :
    Calls Try.prog 10 #[.pointer (some ⟨g, 0, none⟩)] w fun e w' => ∃ g' F', e = .returned (.pointer (some ⟨g', 0, none⟩)) ∧ UW w' g' F' s ∧ (∀ x ∈ F', w.heap.size ≤ x) ∧ Below w.heap.size w w' := by
  have hwk := uworks_uc h
  have hl := h.m.1
  have hrl := hok.r.len
  have hr := Md.rd h.m
  have c0 := h.u.cell 0
  have c1 := h.u.cell 1
  have c2 := h.u.cell 2
  have c3 := h.u.cell 3
  have c4 := h.u.cell 4
  have hgl := h.u.lt
  simp at c0 c1 c2 c3 c4
  obtain ⟨W1, hW1⟩ : ∃ W1, W1 = w.alloc (.cells #[.bool true, .bool s.bg, .int .i64 (s.ex : Int), .int .i64 (s.lo : Int), .slice A n c] 48) := ⟨_, rfl⟩
  have b1 : Below w.heap.size w W1 := by rw [hW1]; exact bel_new _ _
  have q1 : Cel W1 w.heap.size 48 #[.bool true, .bool s.bg, .int .i64 (s.ex : Int), .int .i64 (s.lo : Int), .slice A n c] := by rw [hW1]; exact Cel.new _ _ _
  have r1 := hr.later b1
  have xc := clone_any A s.rs n c W1 (Lib.hid hl) r1.bs r1.nil (by omega)
  have e4 := (b1.cell (p := ⟨g, 4, none⟩) hgl).trans c4
  have HH := Lib.hid (And.intro q1 (And.intro b1 (And.intro hl hok)))
  clear h hl hrl hr q1 b1 r1 hok
  go_enter Try.func10, Try.ntmps10
  go_wp2_with fail
  refine hwk.mono ?_
  rintro e w1 ⟨rfl, rfl⟩
  go_wp2_with fail
  rw [← hW1]
  refine xc.mono ?_
  rintro e w3 ⟨v3, rfl, o3, b3⟩
  obtain ⟨A3, c3', rfl, _⟩ := o3.reads_len HH.out.2.2.1
  have q3 := HH.out.1.only (S := []) (Only.of_below b3) (by simp)
  have f4 := q3.free 4
  have i4 := q3.cell 4
  simp at i4
  have hm3 := Md.of o3 HH.out.2.2.1
  have k3 := set_only w3 w.heap.size 4 (.slice A3 n c3')
  have hg3 := Md.off hm3 q3 (by decide)
  have u3 : UC (w3.setCell ⟨w.heap.size, 4, none⟩ (.slice A3 n c3')) w.heap.size s A3 n c3' := ⟨q3.put 4 _, (hm3.more (Nat.zero_le _)).only k3 (fun x hx hm => hg3 (List.mem_singleton.1 hm ▸ hx))⟩
  have bb : Below w.heap.size w (w3.setCell ⟨w.heap.size, 4, none⟩ (.slice A3 n c3')) := (HH.out.2.1.trans (b3.mono HH.out.2.1.size)).trans (k3.below (HH.out.2.1.trans (b3.mono HH.out.2.1.size)).size (by simp))
  have hF : ∀ x ∈ fam w.heap.size A3, w.heap.size ≤ x := fun x hx => by
    rcases List.mem_cons.1 hx with rfl | hx
    · exact Nat.le_refl _
    · have h1 := (hm3.lt x hx).1
      have h2 := HH.out.2.1.size
      omega
  have HB := Lib.hid (And.intro u3 (And.intro bb hF))
  clear q3 hm3 k3 hg3 u3 bb hF b3 o3 xc c0 c1 c2 c3 c4 e4
  go_wp2
  go_ret
  exact ⟨_, _, rfl, ⟨⟨_, _, _, HB.out.1, rfl⟩, HH.out.2.2.2⟩, HB.out.2.2, HB.out.2.1⟩
theorem uclone_any (h : UW w g F s) :
    Calls Try.prog 10 #[.pointer (some ⟨g, 0, none⟩)] w fun e w' => ∃ g' F', e = .returned (.pointer (some ⟨g', 0, none⟩)) ∧ UW w' g' F' s ∧ (∀ x ∈ F', w.heap.size ≤ x) ∧ Below w.heap.size w w' := by
  obtain ⟨⟨A, n, c, hc, rfl⟩, hok⟩ := h
  exact uclone_uc hc hok
end
end Go.Proofs.Ytcmonalnhdodmaa.Unp

/-
  A region that draws its order, whose operations read and whose callees may make memory of their own but hand back a value that hangs on no world: one walk in the order of the text. The class of worlds: whatever leaves the old blocks alone. No dump is imported.
-/
namespace Go.Proofs.Ytcmonalnhdodmaa
open Go.RowKit

/-- a world in which all blocks of w are as they were -/
structure Later (w : World) where
  W : World
  h : Below w.heap.size w W
instance later_nonempty (w : World) : Nonempty (Later w) := ⟨⟨w, Below.refl _ _⟩⟩

theorem wp_region_later {P : Program} {id : Nat} {Q : Exit → Act → World → Prop} {a : Act} {w : World} {l : List Oper} (hm : P.follows .mixedOrders = true) (hB : Region.lexB .any l.toArray = true)
    (h : wpQuiet P l.toArray (fun w' => ∃ p : Later w, w' = p.W) (fun a' => ∀ w', (∃ p : Later w, w' = p.W) → Q .normal a' w') l a) : (Code.region id l.toArray true).wp P Q a w :=
  wp_region_quiet (C := fun w' => ∃ p : Later w, w' = p.W) hm hB ⟨⟨{ w with drawn := w.drawn + 1 }, ⟨rfl, rfl, rfl, Nat.le_refl _, fun _ _ => rfl⟩⟩, rfl⟩ (by simpa using h)

theorem later_cell {w : World} {b off : Nat} {v : Value} (hc : w.cell? ⟨b, off, none⟩ = some v) (hb : b < w.heap.size) (p : Later w) : p.W.cell? ⟨b, off, none⟩ = some v :=
  (p.h.cell (p := ⟨b, off, none⟩) hb).trans hc

/-- a callee's contract, met in such a world -/
theorem later_of {P : Program} {f : FuncId} {args : Array Value} {w : World} {p : Later w} {v : Value}
    (h : Calls P f args p.W fun e w' => e = .returned v ∧ Below p.W.heap.size p.W w') : Calls P f args p.W fun e w'' => e = .returned v ∧ ∃ q : Later w, w'' = q.W :=
  h.mono fun _ w'' ⟨he, hb⟩ => ⟨he, ⟨w'', p.h.trans (hb.mono p.h.size)⟩, rfl⟩
theorem later_same {P : Program} {f : FuncId} {args : Array Value} {w : World} {p : Later w} {v : Value}
    (h : Calls P f args p.W fun e w' => e = .returned v ∧ p.W = w') : Calls P f args p.W fun e w'' => e = .returned v ∧ ∃ q : Later w, w'' = q.W :=
  h.mono fun _ _ ⟨he, hb⟩ => ⟨he, p, hb.symm⟩

end Go.Proofs.Ytcmonalnhdodmaa

/-
  The reference of layer 20: Same, length, fitting; its state.
-/
namespace Go.Proofs.Ytcmonalnhdodmaa.Unp
open Go.RowKit Lst
open Pac (bel_new siE siN tot b8 siE_short siE_form siE_long siE_good siE_zero b8_at b8_lt)

set_option maxRecDepth 100000 in
set_option maxHeartbeats 2000000 in
theorem xsame_eq (ls : List (List Byte)) (n c1 c2 : Nat) (A1 A2 : Option Addr) (w : World) (hl : Hid (ls.length = n)) (h1 : LS w w.heap.size A1 ls) (h2 : LS w w.heap.size A2 ls) (hm : n ≤ 10000000) :
    Calls Try.prog 13 #[.slice A1 n c1, .slice A2 n c2] w fun e w' => e = .returned (.bool true) ∧ Below w.heap.size w w' := by
  have t1 : ((n : Int) != (n : Int)) = false := by simp
  go_enter Try.func13, Try.ntmps13
  go_wp2
  go_loopw [5] (fun i wr => ∃ k : Nat, k ≤ n ∧ i = .int .i64 (k : Int) ∧ Below w.heap.size w wr) (fun i _ => n - (intOf i).toNat)
  case atStart => exact ⟨0, Nat.zero_le _, rfl, Below.refl _ _⟩
  case round =>
    obtain ⟨k, hk, rfl, hB⟩ := hrel
    by_cases hkn : k < n
    · obtain ⟨l, hkl⟩ : ∃ l, ls[k]? = some l := ⟨_, List.getElem?_eq_getElem (by rw [hl.out]; exact hkn)⟩
      obtain ⟨b1, o1, s1, v1, rfl, hb1, u1, d1⟩ := (h1.below hB).at_ hkl
      obtain ⟨b2, o2, s2, v2, rfl, hb2, u2, d2⟩ := (h2.below hB).at_ hkl
      obtain ⟨M, hM⟩ : ∃ M, l.length = M := ⟨_, rfl⟩
      rw [hM] at u1 u2
      have hb1' : b1 < wr.heap.size := Nat.lt_of_lt_of_le hb1 hB.size
      have hb2' : b2 < wr.heap.size := Nat.lt_of_lt_of_le hb2 hB.size
      have e1 : ((str l).toList != (str l).toList) = false := by simp
      have d1' := d1.more hB.size
      have d2' := d2.more hB.size
      clear hkl
      go_wp2_with fail
      refine wp_region_later (by kernel_rfl) (by kernel_rfl) ?_
      have r1 : ∀ p : Later wr, p.W.cell? ⟨b1, o1 + k, none⟩ = some (.slice s1 M v1) := later_cell u1 hb1'
      have r2 : ∀ p : Later wr, p.W.cell? ⟨b2, o2 + k, none⟩ = some (.slice s2 M v2) := later_cell u2 hb2'
      have q1 : ∀ p : Later wr, (convert 26 9 (.slice s1 M v1)).run Try.prog p.W = .ok (.string (str l)) p.W := fun p => by
        have := run_str p.W is_bytes Try.underlying9 (d1'.b.below p.h) d1'.n
        rwa [hM] at this
      have q2 : ∀ p : Later wr, (convert 26 9 (.slice s2 M v2)).run Try.prog p.W = .ok (.string (str l)) p.W := fun p => by
        have := run_str p.W is_bytes Try.underlying9 (d2'.b.below p.h) d2'.n
        rwa [hM] at this
      clear u1 u2 d1 d2 d1' d2' hM h1 h2
      repeat (go_big_quiet_step (fail))
      refine wpQuiet_nil ?_
      rintro _ ⟨⟨w5, hbel5⟩, rfl⟩
      go_wp2
      go_round
      case rel => exact ⟨k + 1, hkn, by go_num, hB.trans (hbel5.mono hB.size)⟩
      case measure => simp [intOf]; omega
    · obtain rfl : k = n := by omega
      go_wp2
      go_ret
      exact ⟨rfl, hB⟩

theorem x64_small {Q : Nat} (h : Q ≤ 2000000) : wrap64 (Q : Int) = (Q : Int) := by unfold wrap64; omega
set_option maxRecDepth 100000 in
set_option maxHeartbeats 2000000 in
theorem xlength_any (a : Option Addr) (l : List Byte) (n c : Nat) (w : World) (h : Rd w a l n c) (h6 : 6 ≤ n) :
    Calls Try.prog 32 #[.slice a n c] w fun e w' => e = .returned (.int .i64 ((siN l : Nat) : Int)) ∧ Below w.heap.size w w' := by
  have hln := h.len
  obtain ⟨b, off, rfl, hb, hc⟩ := h.at_ (by omega)
  obtain ⟨x0, hx0⟩ : ∃ x, l[0]? = some x := ⟨_, List.getElem?_eq_getElem (by omega)⟩
  obtain ⟨x4, hx4⟩ : ∃ x, l[4]? = some x := ⟨_, List.getElem?_eq_getElem (by omega)⟩
  obtain ⟨x5, hx5⟩ : ∃ x, l[5]? = some x := ⟨_, List.getElem?_eq_getElem (by omega)⟩
  have c0 := hc 0 x0 hx0
  have c4 := hc 4 x4 hx4
  have c5 := hc 5 x5 hx5
  rw [Nat.add_zero] at c0
  have y0 := b8_at hx0
  have y4 := b8_at hx4
  have y5 := b8_at hx5
  have g0 := x0.isLt
  have g4 := x4.isLt
  have g5 := x5.isLt
  obtain ⟨v0, hv0⟩ : ∃ v, x0.toNat = v := ⟨_, rfl⟩
  obtain ⟨v4, hv4⟩ : ∃ v, x4.toNat = v := ⟨_, rfl⟩
  obtain ⟨v5, hv5⟩ : ∃ v, x5.toNat = v := ⟨_, rfl⟩
  have c0' : w.cell? ⟨b, off, none⟩ = some (.int .u8 (v0 : Int)) := by rw [c0]; show some (Value.int .u8 ((x0.toNat : Nat) : Int)) = _; rw [hv0]
  have c4' : w.cell? ⟨b, off + 4, none⟩ = some (.int .u8 (v4 : Int)) := by rw [c4]; show some (Value.int .u8 ((x4.toNat : Nat) : Int)) = _; rw [hv4]
  have c5' : w.cell? ⟨b, off + 5, none⟩ = some (.int .u8 (v5 : Int)) := by rw [c5]; show some (Value.int .u8 ((x5.toNat : Nat) : Int)) = _; rw [hv5]
  have ht : tot l = v4 * 256 + v5 + 7 := by unfold tot; rw [y4, y5, hv4, hv5]; omega
  obtain ⟨T, hT⟩ : ∃ T, v4 * 256 + v5 + 7 = T := ⟨_, rfl⟩
  have HT : Hid ((v4 : Int) * 256 + (v5 : Int) + 7 = (T : Int)) := Lib.hid (by omega)
  have z4 : v4 < 256 := by omega
  have z5 : v5 < 256 := by omega
  have i4 : (4 : Int) < (n : Int) := by omega
  have i5 : (5 : Int) < (n : Int) := by omega
  have i0 : (0 : Int) < (n : Int) := by omega
  rw [hv0] at y0
  have k0 : (32 ≤ b8 l 0) ↔ 32 ≤ v0 := by rw [y0]
  have kt : (4096 < tot l) ↔ 4096 < T := by rw [ht, hT]
  have hv0b : v0 ≤ 255 := by omega
  by_cases hz : 32 ≤ v0
  · have e := (siE_form (l := l) (by omega) (k0.2 hz)).2
    rw [e]
    have t1 : decide ((32 : Int) ≤ (v0 : Int)) = true := by simp; omega
    have t1' : decide (32 ≤ v0) = true := by simpa using hz
    clear h hc hx0 hx4 hx5 c0 c4 c5 y0 y4 y5 g0 g4 g5 hv0 hv4 hv5 ht hT k0 kt e hz hln h6
    go_enter Try.func32, Try.ntmps32
    go_wp2
    go_quiet (fail)
    rw [HT.out]
    go_wp2
    go_ret
    exact ⟨rfl, drewN_below _ _⟩
  · have t1 : decide ((32 : Int) ≤ (v0 : Int)) = false := by simp; omega
    have t1' : decide (32 ≤ v0) = false := by simpa using hz
    by_cases hy : 4096 < T
    · have e := (siE_long (l := l) (by omega) (fun k => hz (k0.1 k)) (kt.2 hy)).2
      rw [e]
      have t2 : decide ((4096 : Int) < (T : Int)) = true := by simp; omega
      have t2' : decide (4096 < T) = true := by simpa using hy
      clear h hc hx0 hx4 hx5 c0 c4 c5 y0 y4 y5 g0 g4 g5 hv0 hv4 hv5 ht hT k0 kt e hz hy hln h6
      go_enter Try.func32, Try.ntmps32
      go_wp2
      go_quiet (fail)
      rw [HT.out]
      go_wp2
      go_ret
      exact ⟨rfl, drewN_below _ _⟩
    · have e := (siE_good (l := l) (by omega) (fun k => hz (k0.1 k)) (fun k => hy (kt.1 k))).2
      rw [e, ht, hT]
      have t2 : decide ((4096 : Int) < (T : Int)) = false := by simp; omega
      have t2' : decide (4096 < T) = false := by simpa using hy
      clear h hc hx0 hx4 hx5 c0 c4 c5 y0 y4 y5 g0 g4 g5 hv0 hv4 hv5 ht hT k0 kt e hz hy hln h6
      go_enter Try.func32, Try.ntmps32
      go_wp2
      go_quiet (fail)
      rw [HT.out]
      go_wp2
      go_ret
      exact ⟨rfl, drewN_below _ _⟩
end Go.Proofs.Ytcmonalnhdodmaa.Unp

/-
  The laws of layer 20: an Unpacker in play (UL), a list of packets that is kept beside it (LK), a list of one packet, the chapter's examples.
-/
namespace Go.Proofs.Ytcmonalnhdodmaa.Unp
open Go.RowKit Go.Proofs.Ytcmonalnhdodmaa.Row Lst
open Pac (bel_new siE tot)

theorem tk_of {s : US} {c f : Int} {d X r : List Byte} {O : List (List Byte)} (hA : Arg c f d) (hf : f ≠ 2046) (hs : stm (flw s c.toNat).rs f d = X) (hp : prs X = (O, r)) :
    tkS s c f d = ⟨true, (c.toNat + 1) % 256, s.lo + dst s c.toNat, r⟩ ∧ tkO s c f d = O := by
  unfold tkS tkO
  rw [if_pos hA, if_neg hf, if_pos hA, if_neg hf, hs, hp]
  exact ⟨rfl, rfl⟩

/-- a list of byte strings that is kept: none of its blocks is among F -/
structure LK (w : World) (F : List Nat) (R : Value) (ls : List (List Byte)) : Prop where
  ex : ∃ base E, LO w base 26 5 R ls E ∧ (∀ x ∈ E, x ∉ F) ∧ ∀ x, R.ownBlock = some x → x ∉ F
section
variable {w w' : World} {F F' S : List Nat} {R : Value} {ls : List (List Byte)} {n c : Nat} {A : Option Addr}
theorem LK.next (h : LK w F R ls) (k : Only S w w') (hS : ∀ x ∈ S, x ∈ F ∨ w.heap.size ≤ x) (hF : ∀ x ∈ F', x ∈ F ∨ w.heap.size ≤ x) : LK w' F' R ls := by
  obtain ⟨base, E, h1, h2, h3⟩ := h
  have hE := h1.lt
  have hR := h1.row_lt
  refine ⟨base, E, h1.only k (fun i hi hm => ?_) (fun i hi hm => ?_), fun x hx hm => ?_, fun x hx hm => ?_⟩
  · rcases hS i hm with q | q
    · exact h3 i hi q
    · have := (hR i hi).2; omega
  · rcases hS i hm with q | q
    · exact h2 i hi q
    · have := (hE i hi).2; omega
  · rcases hF x hm with q | q
    · exact h2 x hx q
    · have := (hE x hx).2; omega
  · rcases hF x hm with q | q
    · exact h3 x hx q
    · have := (hR x hx).2; omega
theorem LK.below (h : LK w F R ls) (k : Below w.heap.size w w') : LK w' F R ls := h.next (S := []) (Only.of_below k) (by simp) (fun _ hx => .inl hx)
theorem LK.reads (h : LK w F (.slice A n c) ls) (hn : ls.length = n) : LS w w.heap.size A ls := by
  obtain ⟨base, E, h1, _⟩ := h
  obtain ⟨A', c', he, hl, _⟩ := h1.len hn
  cases he
  exact hl
theorem LS_one {a : Option Addr} {l : List Byte} {m k : Nat} (h : Rd w a l m k) : LS (w.alloc (.cells #[.slice a m k] 26)) (w.alloc (.cells #[.slice a m k] 26)).heap.size (some ⟨w.heap.size, 0, none⟩) [l] := by
  have hl := h.len
  subst hl
  refine ⟨[⟨l, a, k⟩], rfl, ?_, fun q hq => ?_⟩
  · have := Rs_new1 enc_ok w 26 ⟨l, a, k⟩ #[.slice a l.length k] rfl
    rw [World.size_alloc]
    exact this
  · obtain rfl := List.mem_singleton.1 hq
    have b := bel_new w (.cells #[.slice a l.length k] 26)
    exact ⟨(h.bs.below b).more b.size, h.nil, h.le, h.max⟩
theorem Same_of (w : World) {A1 A2 : Option Addr} {c1 c2 : Nat} (h1 : LS w w.heap.size A1 ls) (h2 : LS w w.heap.size A2 ls) (hn : ls.length = n) (hm : n ≤ 10000000) :
    Calls Try.prog 13 #[.slice A1 n c1, .slice A2 n c2] w fun e w' => e = .returned (.bool true) ∧ Below w.heap.size w w' := xsame_eq ls n c1 c2 A1 A2 w (Lib.hid hn) h1 h2 hm
end

/-- an Unpacker in play: what lies below w0's blocks is as it was -/
structure UL (w0 w : World) (g : Nat) (F : List Nat) (s : US) : Prop where
  p : UW w g F s
  lo : ∀ x ∈ F, w0.heap.size ≤ x
  b : Below w0.heap.size w0 w
section
variable {w0 w w' : World} {g m cd n : Nat} {F F2 : List Nat} {s s' : US} {a : Option Addr} {d : List Byte} {O : List (List Byte)} {ct f : Int}
theorem UL.below (h : UL w0 w g F s) (k : Below w.heap.size w w') : UL w0 w' g F s := ⟨h.p.below k, h.lo, h.b.trans (k.mono h.b.size)⟩
theorem UL.off (h : UL w0 w g F s) (k : Only F2 w w') (hd : ∀ x ∈ F, x ∉ F2) (h2 : ∀ x ∈ F2, w0.heap.size ≤ x) : UL w0 w' g F s := ⟨h.p.only k hd, h.lo, h.b.trans (k.below h.b.size h2)⟩
theorem UL.new {w0 w : World} (b : Below w0.heap.size w0 w) :
    Calls Try.prog 9 #[] w fun e w' => ∃ g F, e = .returned (.pointer (some ⟨g, 0, none⟩)) ∧ UL w0 w' g F US0 ∧ Below w.heap.size w w' ∧ ∀ x ∈ F, w.heap.size ≤ x := by
  refine (unew_any w).mono ?_
  rintro e w' ⟨rfl, p, k⟩
  exact ⟨_, _, rfl, ⟨p, by simpa using b.size, b.trans (k.mono b.size)⟩, k, by simp⟩
theorem UL.take (h : UL w0 w g F s) (hlo : s.lo ≤ 1000000000000) (hd : Rd w a d m cd) (hm : m ≤ 1000000) (hof : 0 < m → Of w a F) (hS : tkS s ct f d = s') (hO : tkO s ct f d = O) (hn : O.length = n) :
    Calls Try.prog 11 #[.pointer (some ⟨g, 0, none⟩), .int .i64 ct, .int .i64 f, .slice a m cd] w fun e w' => ∃ A c F', e = .returned (.slice A n c) ∧ LK w' F' (.slice A n c) O ∧ UL w0 w' g F' s' ∧ Only F w w' ∧ ∀ x ∈ F', x ∈ F ∨ w.heap.size ≤ x := by
  subst hS hO
  refine (utake_any h.p hlo hd hm hof ct f).mono ?_
  rintro e w' ⟨R, rfl, ⟨E, F', hl, hu, hF, hE⟩, k⟩
  obtain ⟨A, c, rfl, _⟩ := hl.len hn
  refine ⟨A, c, F', rfl, ⟨_, E, hl, hE, fun x hx hm => ?_⟩, ⟨hu, fun x hx => ?_, h.b.trans (k.below h.b.size h.lo)⟩, k, hF⟩
  · obtain ⟨⟨A', n', c', hc, rfl⟩, _⟩ := hu
    rcases List.mem_cons.1 hm with rfl | hm
    · exact hl.row_apart hc.u (by decide) hx
    · obtain ⟨cs, hcs⟩ := hc.m.cel x hm
      exact hl.row_apart hcs (by decide) hx
  · rcases hF x hx with q | q
    · exact h.lo x q
    · exact Nat.le_trans h.b.size q
theorem UL.lost (h : UL w0 w g F s) : Calls Try.prog 14 #[.pointer (some ⟨g, 0, none⟩)] w fun e w' => e = .returned (.int .i64 (s.lo : Int)) ∧ w = w' := ulost_any h.p
theorem UL.clone (h : UL w0 w g F s) :
    Calls Try.prog 10 #[.pointer (some ⟨g, 0, none⟩)] w fun e w' => ∃ g' F', e = .returned (.pointer (some ⟨g', 0, none⟩)) ∧ UL w0 w' g' F' s ∧ (∀ x ∈ F', w.heap.size ≤ x) ∧ Below w.heap.size w w' := by
  refine (uclone_any h.p).mono ?_
  rintro e w' ⟨g', F', rfl, p, hn, k⟩
  exact ⟨g', F', rfl, ⟨p, fun x hx => Nat.le_trans h.b.size (hn x hx), h.b.trans (k.mono h.b.size)⟩, hn, k⟩
end

theorem Of_blk {w : World} {b k : Nat} {F : List Nat} (h : ∀ x ∈ F, b < x) (hb : b < w.heap.size) : Of w (some ⟨b, k, none⟩) F := fun x hx => by
  obtain rfl : x = b := by simpa [blkA] using hx
  exact ⟨fun hm => by have := h x hm; omega, hb⟩
/-! ### the chapter's examples -/
def P20 : List Byte := [8#8, 1#8, 192#8, 0#8, 0#8, 0#8, 170#8]
def Q20 : List Byte := [8#8, 1#8, 192#8, 1#8, 0#8, 1#8, 187#8, 204#8]
def S20 : List Byte := P20 ++ Q20
def sA : US := ⟨true, 1, 0, (S20.drop 0).take 5⟩
def sB : US := ⟨true, 2, 0, [8#8, 1#8, 192#8]⟩
def sC : US := ⟨true, 3, 0, []⟩
def sD : US := ⟨true, 3, 1, []⟩
theorem t1_20 : tkS US0 0 0 ((S20.drop 0).take 5) = sA ∧ tkO US0 0 0 ((S20.drop 0).take 5) = [] :=
  tk_of (X := (S20.drop 0).take 5) (r := (S20.drop 0).take 5) (by decide) (by decide) (by decide) (prs_few (by decide))
theorem t2_20 : tkS sA 1 2 ((S20.drop 5).take 5) = sB ∧ tkO sA 1 2 ((S20.drop 5).take 5) = [P20] :=
  tk_of (X := (S20.drop 0).take 10) (r := [8#8, 1#8, 192#8]) (by decide) (by decide) (by decide +kernel) (by
    rw [prs_one (by decide +kernel) (by decide +kernel), prs_few (by decide +kernel)]; decide +kernel)
theorem prs_Q : prs Q20 = ([Q20], []) := by rw [prs_one (by decide +kernel) (by decide +kernel), prs_few (by decide +kernel)]; decide +kernel
theorem t3_20 : tkS sB 2 2047 ((S20.drop 10).take 5) = sC ∧ tkO sB 2 2047 ((S20.drop 10).take 5) = [Q20] :=
  tk_of (X := Q20) (r := []) (by decide) (by decide) (by decide +kernel) prs_Q
theorem t4_20 : tkS US0 1 2 ((S20.drop 5).take 5) = sB ∧ tkO US0 1 2 ((S20.drop 5).take 5) = [] :=
  tk_of (X := [8#8, 1#8, 192#8]) (r := [8#8, 1#8, 192#8]) (by decide) (by decide) (by decide +kernel) (prs_few (by decide))
theorem t5_20 : tkS sA 2 2047 ((S20.drop 10).take 5) = sD ∧ tkO sA 2 2047 ((S20.drop 10).take 5) = [] :=
  tk_of (X := []) (r := []) (by decide) (by decide) (by decide +kernel) (prs_few (by decide))
end Go.Proofs.Ytcmonalnhdodmaa.Unp

/-
  Plain mathematics of P20.4: a stream of whole packets cut into data fields, what the unpacker makes of a field.
-/
namespace Go.Proofs.Ytcmonalnhdodmaa.Unp
open Pac

/-- a whole packet -/
structure Wp (p : List Byte) : Prop where
  e : siE p = 0
  n : tot p = p.length
theorem Wp.seven {p : List Byte} (h : Wp p) : 7 ≤ p.length := by rw [← h.n]; exact tot_seven p
theorem idl_front {p b : List Byte} (h : 2 ≤ p.length) : idl (p ++ b) = idl p := by unfold idl; rw [b8_front (by omega), b8_front (by omega)]
theorem prs_cons {p : List Byte} (h : Wp p) (b : List Byte) : prs (p ++ b) = ((if idl p then [] else [p]) ++ (prs b).1, (prs b).2) := by
  have h7 := h.seven
  obtain ⟨e1, e2⟩ := si_front (r := p) (d := b) (by omega)
  rw [prs_one (by rw [e1, h.e]) (by rw [e2, h.n, List.length_append]; omega), e2, h.n, idl_front (by omega), List.take_left, List.drop_left]
theorem prs_part {p x t : List Byte} (h : Wp p) (hp : p = x ++ t) (ht : t ≠ []) : prs x = ([], x) := by
  by_cases h6 : x.length < 6
  · exact prs_few h6
  · obtain ⟨e1, e2⟩ := si_front (r := x) (d := t) (by omega)
    rw [← hp] at e1 e2
    have : 0 < t.length := List.length_pos_iff.2 ht
    have hl := congrArg List.length hp
    rw [List.length_append] at hl
    exact prs_wait (by rw [← e1, h.e]) (by rw [← e2, h.n]; omega)
/-- not an idle packet -/
def ni (p : List Byte) : Bool := !idl p
theorem prs_list {qs : List (List Byte)} (h : ∀ p ∈ qs, Wp p) (b : List Byte) : prs (qs.flatten ++ b) = (qs.filter ni ++ (prs b).1, (prs b).2) := by
  induction qs with
  | nil => simp
  | cons p qs ih =>
    rw [List.flatten_cons, List.append_assoc, prs_cons (h p (by simp)), ih (fun q hq => h q (by simp [hq]))]
    simp only [List.filter_cons, ni]
    by_cases hb : idl p = true <;> simp [hb]

/-- where packet i begins -/
def bnd (ps : List (List Byte)) (i : Nat) : Nat := (ps.take i).flatten.length
section
variable {ps : List (List Byte)} {a e i i' j f : Nat} {h h' p : List Byte}
theorem bnd_zero : bnd ps 0 = 0 := by simp [bnd]
theorem bnd_next (hp : ps[i]? = some p) : bnd ps (i + 1) = bnd ps i + p.length := by
  unfold bnd
  rw [List.take_add_one, hp]
  simp
theorem bnd_le (hij : i ≤ j) : bnd ps i ≤ bnd ps j := by
  unfold bnd
  obtain ⟨k, rfl⟩ := Nat.le.dest hij
  rw [List.take_add, List.flatten_append, List.length_append]
  omega
theorem bnd_all (hi : ps.length ≤ i) : bnd ps i = ps.flatten.length := by unfold bnd; rw [List.take_of_length_le hi]
theorem bnd_top (i : Nat) : bnd ps i ≤ ps.flatten.length := by
  by_cases hi : ps.length ≤ i
  · rw [bnd_all hi]; exact Nat.le_refl _
  · rw [← bnd_all (Nat.le_refl ps.length)]; exact bnd_le (by omega)
theorem bnd_lt (hw : ∀ p ∈ ps, Wp p) (hi : i < ps.length) : bnd ps i + 7 ≤ bnd ps (i + 1) := by
  have hp : ps[i]? = some ps[i] := List.getElem?_eq_getElem hi
  rw [bnd_next hp]
  have := (hw ps[i] (List.getElem_mem hi)).seven
  omega

/-- position a of the stream: i packets lie ahead, of packet i the bytes x -/
structure Pos (ps : List (List Byte)) (a i : Nat) (x : List Byte) : Prop where
  le : i ≤ ps.length
  t : ps.flatten.take a = (ps.take i).flatten ++ x
  al : a = bnd ps i + x.length
  x : x = [] ∨ ∃ p t, ps[i]? = some p ∧ p = x ++ t ∧ t ≠ []
theorem Pos.start : Pos ps 0 0 [] := ⟨Nat.zero_le _, by simp, by simp [bnd], .inl rfl⟩
theorem flat_split (i : Nat) : ps.flatten = (ps.take i).flatten ++ (ps.drop i).flatten := by rw [← List.flatten_append, List.take_append_drop]
/-- every position is one -/
theorem Pos.ex (ha : a ≤ ps.flatten.length) (hw : ∀ p ∈ ps, Wp p) : ∃ i x, Pos ps a i x := by
  induction a with
  | zero => exact ⟨0, [], .start⟩
  | succ a ih =>
    obtain ⟨i, x, hle, ht, hal, hx⟩ := ih (by omega)
    have hfl := flat_split (ps := ps) i
    have hlt : i < ps.length := by
      rcases hx with rfl | ⟨p, t, hp, _⟩
      · apply Classical.byContradiction
        intro c
        rw [bnd_all (by omega), List.length_nil] at hal
        omega
      · exact (List.getElem?_eq_some_iff.1 hp).1
    obtain ⟨p, hp⟩ : ∃ p, ps[i]? = some p := ⟨_, List.getElem?_eq_getElem hlt⟩
    have hdrop : ps.drop i = p :: ps.drop (i + 1) := by
      rw [List.drop_eq_getElem_cons hlt]
      rw [List.getElem?_eq_getElem hlt] at hp
      injection hp with hp
      rw [hp]
    have hwp := (hw p (List.mem_of_getElem? hp)).seven
    obtain ⟨t, hpx, hte⟩ : ∃ t, p = x ++ t ∧ t ≠ [] := by
      rcases hx with rfl | ⟨p', t, hp', h1, h2⟩
      · exact ⟨p, rfl, fun e => by rw [e] at hwp; simp at hwp⟩
      · rw [hp] at hp'
        injection hp' with hp'
        exact ⟨t, by rw [hp']; exact h1, h2⟩
    cases t with
    | nil => exact absurd rfl hte
    | cons b t =>
      have hS : ps.flatten.take (a + 1) = (ps.take i).flatten ++ (x ++ [b]) := by
        have e1 : ps.flatten = (ps.take i).flatten ++ (x ++ [b]) ++ (t ++ (ps.drop (i + 1)).flatten) := by
          rw [hfl, hdrop, List.flatten_cons, hpx]
          simp
        rw [e1]
        refine List.take_left' ?_
        rw [List.length_append, List.length_append, hal]
        simp [bnd]
        omega
      by_cases htn : t = []
      · subst htn
        refine ⟨i + 1, [], hlt, ?_, ?_, .inl rfl⟩
        · rw [hS, List.take_add_one, hp, hpx]; simp
        · rw [bnd_next hp, hpx, hal]; simp; omega
      · exact ⟨i, x ++ [b], hle, hS, by rw [hal]; simp; omega, .inr ⟨p, t, hp, by rw [hpx]; simp, htn⟩⟩
/-- between two positions -/
theorem Pos.mid (hw : ∀ p ∈ ps, Wp p) (P : Pos ps a i h) (Q : Pos ps e i' h') (hae : a ≤ e) : h ++ (ps.flatten.take e).drop a = ((ps.take i').drop i).flatten ++ h' ∧ i ≤ i' := by
  have hle : i ≤ i' := by
    apply Classical.byContradiction
    intro c
    have hlt : i' < ps.length := by have := P.le; omega
    have h1 := bnd_le (ps := ps) (i := i' + 1) (j := i) (by omega)
    have h2 := P.al
    have h3 := Q.al
    have h4 := bnd_lt hw hlt
    have hp0 : ps[i']? = some ps[i'] := List.getElem?_eq_getElem hlt
    rcases Q.x with rfl | ⟨p, t, hp, hpx, ht⟩
    · simp at h3
      omega
    · rw [bnd_next hp, hpx, List.length_append] at h1
      have : 0 < t.length := List.length_pos_iff.2 ht
      omega
  refine ⟨?_, hle⟩
  obtain ⟨D, hD⟩ : ∃ D, (ps.flatten.take e).drop a = D := ⟨_, rfl⟩
  have e1 : ps.flatten.take e = ps.flatten.take a ++ D := by
    have := List.take_append_drop a (ps.flatten.take e)
    rw [List.take_take, Nat.min_eq_left hae, hD] at this
    exact this.symm
  rw [P.t, Q.t] at e1
  have e2 : (ps.take i').flatten = (ps.take i).flatten ++ ((ps.take i').drop i).flatten := by
    have := flat_split (ps := ps.take i') i
    rwa [List.take_take, Nat.min_eq_left hle] at this
  rw [e2, List.append_assoc, List.append_assoc] at e1
  rw [hD]
  exact (List.append_cancel_left e1).symm

/-- f is the pointer of the field from a to e -/
def Fst (ps : List (List Byte)) (a e f : Nat) : Prop :=
  (f = 2047 ∧ ∀ q, q < ps.length → ¬ (a ≤ bnd ps q ∧ bnd ps q < e)) ∨
  (∃ q, q < ps.length ∧ f = bnd ps q - a ∧ a ≤ bnd ps q ∧ bnd ps q < e ∧ ∀ q', q' < q → ¬ (a ≤ bnd ps q' ∧ bnd ps q' < e))
theorem bnd_inj (hw : ∀ p ∈ ps, Wp p) (hi : i < ps.length) (hij : i < j) : bnd ps i + 7 ≤ bnd ps j := by
  have h1 := bnd_lt hw hi
  have h2 := bnd_le (ps := ps) (i := i + 1) (j := j) (by omega)
  omega
/-- at a boundary -/
theorem Fst.zero (hw : ∀ p ∈ ps, Wp p) (P : Pos ps a i []) (hae : a < e) (he : e ≤ ps.flatten.length) (F : Fst ps a e f) : f = 0 ∧ i < ps.length := by
  have hal := P.al
  simp at hal
  have hlt : i < ps.length := by
    apply Classical.byContradiction
    intro c
    rw [bnd_all (by omega)] at hal
    omega
  refine ⟨?_, hlt⟩
  rcases F with ⟨_, h1⟩ | ⟨q, hq, rfl, h2, h3, h4⟩
  · exact absurd ⟨by omega, by omega⟩ (h1 i hlt)
  · have : ¬ i < q := fun c => h4 i c ⟨by omega, by omega⟩
    have : ¬ q < i := fun c => by have := bnd_inj hw hq c; omega
    have : q = i := by omega
    subst this
    omega
/-- within packet i -/
theorem Fst.some_ (P : Pos ps a i h) (hh : h ≠ []) (F : Fst ps a e f) :
    a < bnd ps (i + 1) ∧ i < ps.length ∧ ((i + 1 < ps.length ∧ bnd ps (i + 1) < e ∧ f = bnd ps (i + 1) - a) ∨ (f = 2047 ∧ (i + 1 = ps.length ∨ e ≤ bnd ps (i + 1)))) := by
  have hal := P.al
  rcases P.x with rfl | ⟨p, t, hp, hpx, ht⟩
  · exact absurd rfl hh
  have hlt := (List.getElem?_eq_some_iff.1 hp).1
  have h0 : 0 < h.length := List.length_pos_iff.2 hh
  have ht0 : 0 < t.length := List.length_pos_iff.2 ht
  have hn := bnd_next hp
  rw [hpx, List.length_append] at hn
  refine ⟨by omega, hlt, ?_⟩
  have hbelow : ∀ q, q ≤ i → bnd ps q < a := fun q hq => by have := bnd_le (ps := ps) hq; omega
  rcases F with ⟨rfl, h1⟩ | ⟨q, hq, rfl, h2, h3, h4⟩
  · refine .inr ⟨rfl, ?_⟩
    by_cases hi : i + 1 < ps.length
    · exact .inr (by have := h1 (i + 1) hi; omega)
    · exact .inl (by omega)
  · have hqi : i < q := by
      apply Classical.byContradiction
      intro c
      have := hbelow q (by omega)
      omega
    have hle := bnd_le (ps := ps) (i := i + 1) (j := q) (by omega)
    refine .inl ⟨by omega, by omega, ?_⟩
    have : ¬ i + 1 < q := fun c => h4 (i + 1) c ⟨by omega, by omega⟩
    have : q = i + 1 := by omega
    rw [this]

/-- the rest that is kept: the bytes of the packet, if all of them have arrived -/
def kp (gd : Bool) (x : List Byte) : List Byte := if gd then x else []
/-- whether the rest behind the field is good -/
def gdn (gd : Bool) (i i' : Nat) (x : List Byte) : Bool := if i' = i ∧ x ≠ [] then gd else true
/-- what is handed back begins at packet .. -/
def fro (gd : Bool) (i : Nat) (x : List Byte) : Nat := if gd = true ∨ x = [] then i else i + 1

theorem seg_succ (hii : i < i') (hi : i' ≤ ps.length) (hp : ps[i]? = some p) : (ps.take i').drop i = p :: (ps.take i').drop (i + 1) := by
  have h1 : i < (ps.take i').length := by rw [List.length_take]; omega
  rw [List.drop_eq_getElem_cons h1]
  congr 1
  rw [List.getElem_take]
  have := List.getElem?_eq_some_iff.1 hp
  obtain ⟨_, h⟩ := this
  exact h
theorem seg_mem {q : List Byte} (hq : q ∈ (ps.take i').drop i) : q ∈ ps := List.mem_of_mem_take (List.mem_of_mem_drop hq)

/-- a field that arrives: in step, or not -/
theorem step (hw : ∀ p ∈ ps, Wp p) (P : Pos ps a i h) (Q : Pos ps e i' h') (hae : a < e) (he : e ≤ ps.flatten.length) (F : Fst ps a e f) (hsz : e - a ≤ 2046) (gd : Bool) :
    prs (stm (kp gd h) (f : Int) ((ps.flatten.take e).drop a)) = (((ps.take i').drop (fro gd i h)).filter ni, kp (gdn gd i i' h) h') := by
  obtain ⟨hm, hle⟩ := Pos.mid hw P Q (by omega)
  obtain ⟨D, hD⟩ : ∃ D, (ps.flatten.take e).drop a = D := ⟨_, rfl⟩
  rw [hD] at hm ⊢
  have hDl : D.length = e - a := by rw [← hD, List.length_drop, List.length_take]; omega
  have hseg : ∀ k, ∀ q ∈ (ps.take i').drop k, Wp q := fun k q hq => hw q (seg_mem hq)
  have hpart : prs h' = ([], h') := by
    rcases Q.x with rfl | ⟨p, t, hp, hpx, ht⟩
    · exact prs_few (by simp)
    · exact prs_part (hw p (List.mem_of_getElem? hp)) hpx ht
  have hwhole : prs (h ++ D) = (((ps.take i').drop i).filter ni, h') := by
    rw [hm, prs_list (hseg i), hpart, List.append_nil]
  by_cases hh : h = []
  · subst hh
    obtain ⟨rfl, hlt⟩ := F.zero hw P hae he
    have e1 : kp gd ([] : List Byte) = [] := by unfold kp; split <;> rfl
    have e2 : fro gd i [] = i := by unfold fro; rw [if_pos (.inr rfl)]
    have e3 : gdn gd i i' [] = true := by unfold gdn; rw [if_neg (fun c => c.2 rfl)]
    rw [e1, e2, e3]
    have : stm [] ((0 : Nat) : Int) D = D := by
      unfold stm
      rw [if_neg (fun c => c.1 rfl), if_neg (by omega)]
      rfl
    rw [this]
    exact hwhole
  · obtain ⟨h1, hlt, h2⟩ := F.some_ P hh
    obtain ⟨p, hp⟩ : ∃ p, ps[i]? = some p := ⟨_, List.getElem?_eq_getElem hlt⟩
    have hwp := hw p (List.mem_of_getElem? hp)
    obtain ⟨t, hpx, ht⟩ : ∃ t, p = h ++ t ∧ t ≠ [] := by
      rcases P.x with r | ⟨p', t, hp', q1, q2⟩
      · exact absurd r hh
      · rw [hp] at hp'; injection hp' with hp'; exact ⟨t, by rw [hp']; exact q1, q2⟩
    have hn := bnd_next hp
    have hal := P.al
    have htl : h.length + t.length = p.length := by rw [hpx, List.length_append]
    have ht0 : 0 < t.length := List.length_pos_iff.2 ht
    have hbi : bnd ps (i + 1) = a + t.length := by omega
    -- is packet i whole at e?
    have hcase : (i' = i ∧ e < bnd ps (i + 1)) ∨ (i < i' ∧ bnd ps (i + 1) ≤ e) := by
      have hQ := Q.al
      rcases Nat.lt_or_ge i i' with c | c
      · right
        have := bnd_le (ps := ps) (i := i + 1) (j := i') c
        exact ⟨c, by omega⟩
      · left
        have hii : i' = i := by omega
        refine ⟨hii, ?_⟩
        subst hii
        rcases Q.x with rfl | ⟨p', t', hp', q1, q2⟩
        · simp at hQ
          have : 0 < h.length := List.length_pos_iff.2 hh
          omega
        · rw [hp] at hp'; injection hp' with hp'
          have : 0 < t'.length := List.length_pos_iff.2 q2
          have := congrArg List.length q1
          rw [← hp', List.length_append] at this
          omega
    cases gd with
    | true =>
      have e1 : kp true h = h := rfl
      have e2 : fro true i h = i := by unfold fro; rw [if_pos (.inl rfl)]
      have e3 : gdn true i i' h = true := by unfold gdn; split <;> rfl
      rw [e1, e2, e3]
      have hft : fts h (f : Int) D = true := by
        have hfit : 6 ≤ (h ++ D).length → siE (h ++ D) = 0 ∧ tot (h ++ D) = p.length := fun h6 => by
          rcases hcase with ⟨rfl, c⟩ | ⟨c, _⟩
          · -- a part of p
            have hx : h ++ D = h' := by
              rw [hm]
              have : (ps.take i').drop i' = [] := List.drop_eq_nil_of_le (by rw [List.length_take]; omega)
              rw [this]; rfl
            rcases Q.x with rfl | ⟨p', t', hp', q1, q2⟩
            · rw [hx] at h6; simp at h6
            · rw [hp] at hp'; injection hp' with hp'
              subst hp'
              obtain ⟨s1, s2⟩ := si_front (r := h ++ D) (d := t') h6
              rw [hx, ← q1] at s1 s2
              rw [hx, ← s1, ← s2]
              exact ⟨hwp.e, hwp.n⟩
          · rw [hm, seg_succ c Q.le hp, List.flatten_cons, List.append_assoc]
            have h7 := hwp.seven
            obtain ⟨s1, s2⟩ := si_front (r := p) (d := ((ps.take i').drop (i + 1)).flatten ++ h') (by omega)
            rw [s1, s2]
            exact ⟨hwp.e, hwp.n⟩
        have hlen : (h ++ D).length = h.length + (e - a) := by rw [List.length_append, hDl]
        unfold fts
        by_cases h6 : (h ++ D).length < 6
        · rw [if_pos ((siE_three).2 h6)]
          have h7 := hwp.seven
          rcases h2 with ⟨_, q2, _⟩ | ⟨rfl, _⟩
          · omega
          · rfl
        · obtain ⟨s1, s2⟩ := hfit (by omega)
          rw [if_neg (by rw [s1]; decide), if_neg (by rw [s1]; simp), s2]
          rcases h2 with ⟨_, q2, q3⟩ | ⟨rfl, q2⟩
          · rw [if_neg (by omega), q3]
            simp only [decide_eq_true_eq]
            omega
          · rw [if_pos]
            · rfl
            · rcases q2 with q2 | q2
              · have := bnd_all (ps := ps) (i := i + 1) (by omega)
                omega
              · omega
      rw [show stm h (f : Int) D = h ++ D by unfold stm; rw [if_pos ⟨hh, hft⟩]]
      exact hwhole
    | false =>
      have e1 : kp false h = [] := rfl
      have e2 : fro false i h = i + 1 := by unfold fro; rw [if_neg (by rintro (c | c); cases c; exact hh c)]
      rw [e1, e2]
      rcases hcase with ⟨rfl, c⟩ | ⟨c, c2⟩
      · have hf2 : f = 2047 := by rcases h2 with ⟨_, q, _⟩ | ⟨q, _⟩; omega; exact q
        subst hf2
        have : stm [] ((2047 : Nat) : Int) D = [] := by unfold stm; rw [if_neg (fun c => c.1 rfl), if_pos (show ((2047 : Nat) : Int) = 2047 from rfl)]
        rw [this, prs_few (l := []) (by simp)]
        have e4 : (ps.take i').drop (i' + 1) = [] := List.drop_eq_nil_of_le (by rw [List.length_take]; omega)
        have e5 : gdn false i' i' h = false := by unfold gdn; rw [if_pos ⟨rfl, hh⟩]
        rw [e4, e5]
        rfl
      · have e5 : gdn false i i' h = true := by unfold gdn; rw [if_neg (by omega)]
        rw [e5]
        have hD2 : D = t ++ (((ps.take i').drop (i + 1)).flatten ++ h') := by
          have := hm
          rw [seg_succ c Q.le hp, List.flatten_cons, List.append_assoc, hpx, List.append_assoc] at this
          exact List.append_cancel_left this
        rcases h2 with ⟨q1, q2, q3⟩ | ⟨rfl, q2⟩
        · have hf3 : f = t.length := by omega
          have : stm [] (f : Int) D = ((ps.take i').drop (i + 1)).flatten ++ h' := by
            unfold stm
            rw [if_neg (fun c => c.1 rfl), if_neg (by omega), hD2, hf3]
            exact List.drop_left
          rw [this, prs_list (hseg (i + 1)), hpart, List.append_nil]
          rfl
        · have hee : e = bnd ps (i + 1) := by
            rcases q2 with q2 | q2
            · have := bnd_all (ps := ps) (i := i + 1) (by omega); omega
            · omega
          have hnil : ((ps.take i').drop (i + 1)).flatten ++ h' = [] := by
            have := congrArg List.length hD2
            rw [List.length_append, hDl] at this
            exact List.eq_nil_of_length_eq_zero (by omega)
          have hh' : h' = [] := (List.append_eq_nil_iff.1 hnil).2
          have hs : (ps.take i').drop (i + 1) = [] := by
            apply Classical.byContradiction
            intro hc
            obtain ⟨q, hq⟩ := List.exists_mem_of_ne_nil _ hc
            have h7 := (hseg (i + 1) q hq).seven
            have h0 := (List.append_eq_nil_iff.1 hnil).1
            have := List.flatten_eq_nil_iff.1 h0 q hq
            rw [this] at h7
            simp at h7
          have : stm [] ((2047 : Nat) : Int) D = [] := by unfold stm; rw [if_neg (fun c => c.1 rfl), if_pos (show ((2047 : Nat) : Int) = 2047 from rfl)]
          rw [this, prs_few (l := []) (by simp), hs, hh']
          rfl
end
end Go.Proofs.Ytcmonalnhdodmaa.Unp

/-
  The laws of layer 20: wrap.
-/
namespace Go.Proofs.Ytcmonalnhdodmaa.Unp
open Go.RowKit
open Pac (bel_new siE tot b8 Pk hdr hd1 hd2 siE_good rd rd_head)

/-- the packet of application process ap with the data l -/
def wpk (ap : Nat) (l : List Byte) : Pk := ⟨false, false, (ap : Int), 3, 0, l⟩
def wrp (ap : Nat) (l : List Byte) : List Byte := (wpk ap l).head ++ l
section
variable {ap : Nat} {l : List Byte}
theorem wpk_fits (ha : ap ≤ 2047) (h1 : 1 ≤ l.length) (h2 : l.length ≤ 60) : (wpk ap l).Fits := by
  unfold Pk.Fits wpk
  simp only
  omega
theorem wrp_len : (wrp ap l).length = 6 + l.length := by
  unfold wrp
  rw [List.length_append]
  rfl
theorem wrp_wp (ha : ap ≤ 2047) (h1 : 1 ≤ l.length) (h2 : l.length ≤ 60) : Wp (wrp ap l) := by
  obtain ⟨_, q2, q3⟩ := rd_head (wpk_fits ha h1 h2) []
  rw [List.append_nil] at q2 q3
  have e : (wpk ap l).head ++ (wpk ap l).d = wrp ap l := rfl
  rw [e] at q2 q3
  have q2 : tot (wrp ap l) = 6 + l.length := q2
  have hl := wrp_len (ap := ap) (l := l)
  exact ⟨(siE_good (by omega) (by omega) (by omega)).1, by omega⟩
theorem wrp_ni (ha : ap ≤ 2047) (h1 : 1 ≤ l.length) (h2 : l.length ≤ 60) : ni (wrp ap l) = !decide (ap = 2047) := by
  obtain ⟨q1, _, _⟩ := rd_head (wpk_fits ha h1 h2) []
  rw [List.append_nil] at q1
  have e : (wpk ap l).head ++ (wpk ap l).d = wrp ap l := rfl
  rw [e] at q1
  have q := congrArg Pk.ap q1
  have q : (((256 * b8 (wrp ap l) 0 + b8 (wrp ap l) 1) % 2048 : Nat) : Int) = (ap : Int) := q
  unfold ni idl
  rw [show (256 * b8 (wrp ap l) 0 + b8 (wrp ap l) 1) % 2048 = ap by omega]
end

theorem b8_of {n : Nat} (h : n < 256) : B8 (BitVec.ofNat 8 n) = .int .u8 (n : Int) := by
  show Value.int .u8 (((BitVec.ofNat 8 n).toNat : Nat) : Int) = _
  rw [BitVec.toNat_ofNat, Nat.mod_eq_of_lt (by omega)]

set_option maxRecDepth 100000 in
set_option maxHeartbeats 2000000 in
theorem lwrap_any (ap : Nat) (a : Option Addr) (l : List Byte) (n c : Nat) (w : World) (h : Rd w a l n c) (ha : ap ≤ 2047) (h1 : 1 ≤ n) (h2 : n ≤ 60) :
    Calls Try.prog 15 #[.int .i64 (ap : Int), .slice a n c] w fun e w' => ∃ v, e = .returned v ∧ Ow w' w.heap.size 5 v (wrp ap l) ∧ Below w.heap.size w w' := by
  have hln := h.len
  obtain ⟨K, hK⟩ : ∃ K, n - 1 = K := ⟨_, rfl⟩
  obtain ⟨A1, hA1⟩ : ∃ A1, ap / 256 = A1 := ⟨_, rfl⟩
  obtain ⟨A2, hA2⟩ : ∃ A2, ap % 256 = A2 := ⟨_, rfl⟩
  have hH : (wpk ap l).head = [BitVec.ofNat 8 A1, BitVec.ofNat 8 A2, BitVec.ofNat 8 192, BitVec.ofNat 8 0, BitVec.ofNat 8 0, BitVec.ofNat 8 K] := by
    unfold Pk.head hdr hd1 hd2 wpk
    simp only [Int.toNat_natCast, hln, Bool.false_eq_true, if_false, Nat.zero_add, hA1, hA2, hK]
    rw [show K / 256 = 0 by omega, show K % 256 = K by omega]
    rfl
  have e1 : (n : Int) - 1 = (K : Int) := by omega
  have e2 : (ap : Int).tdiv 256 = (A1 : Int) := by rw [Int.tdiv_eq_ediv_of_nonneg (by omega)]; omega
  have e3 : (ap : Int).tmod 256 = (A2 : Int) := by rw [Int.tmod_eq_emod_of_nonneg (by omega)]; omega
  have e4 : (K : Int).tdiv 256 = 0 := by rw [Int.tdiv_eq_ediv_of_nonneg (by omega)]; omega
  have e5 : (K : Int).tmod 256 = (K : Int) := by rw [Int.tmod_eq_emod_of_nonneg (by omega)]; omega
  have e2' : (ap : Int) / 256 = (A1 : Int) := by omega
  have e3' : (ap : Int) % 256 = (A2 : Int) := by omega
  have e4' : (K : Int) / 256 = 0 := by omega
  have e5' : (K : Int) % 256 = (K : Int) := by omega
  have hA1b : A1 ≤ 7 := by omega
  have hA2b : A2 ≤ 255 := by omega
  have hKb : K ≤ 59 := by omega
  have hH0 : (wpk ap l).head.length = 6 := by rw [hH]; rfl
  obtain ⟨W1, hW1⟩ : ∃ W1, W1 = w.alloc (.cells #[.int .u8 (A1 : Int), .int .u8 (A2 : Int), .int .u8 192, .int .u8 0, .int .u8 0, .int .u8 (K : Int)] 5) := ⟨_, rfl⟩
  have b1 : Below w.heap.size w W1 := by rw [hW1]; exact bel_new _ _
  have o1 : Ow W1 w.heap.size 5 (.slice (some ⟨w.heap.size, 0, none⟩) 6 6) (wpk ap l).head := by
    rw [hW1]
    exact Ow_new w _ _ _ 6 _ hH0 (by rw [hH]; simp only [List.map_cons, List.map_nil, b8_of (show A1 < 256 by omega), b8_of (show A2 < 256 by omega), b8_of (show K < 256 by omega)]; rfl) (Nat.le_refl _) (by decide) _ rfl
  have HH := Lib.hid (And.intro h hH0)
  clear h hln hK hA1 hA2 hH hH0
  go_enter Try.func15, Try.ntmps15
  go_wp2_with (first
    | (at_builtin; rw [← hW1]; refine wpList_appN _ is_bytes rfl (.tmp 21) (.tmp 22) rfl (m := (wpk ap l).head) rfl o1 HH.out.1.len rfl (HH.out.1.bs.below b1) HH.out.1.nil (by rw [HH.out.2]; omega) b1.size ?_; intro v2 w2 ho2 hg2 hv2; have b2 := b1.grown hg2 b1.size o1.base_le))
  go_ret
  exact ⟨_, rfl, ho2, b2⟩
end Go.Proofs.Ytcmonalnhdodmaa.Unp

/-
  The laws of layer 20: alive.
-/
namespace Go.Proofs.Ytcmonalnhdodmaa.Unp
open Go.RowKit Go.Proofs.Ytcmonalnhdodmaa.Row Lst
open Pac (bel_new siE tot)

set_option maxRecDepth 100000 in
set_option maxHeartbeats 8000000 in
theorem alive20_any (w : World) : Calls Try.prog 8 #[] w fun e w' => e = .returned (.bool true) ∧ Below w.heap.size w w' := by
  obtain ⟨w1, hw1⟩ : ∃ w1, w1 = w.alloc (.cells #[.int .u8 8, .int .u8 1, .int .u8 192, .int .u8 0, .int .u8 0, .int .u8 0, .int .u8 170] 5) := ⟨_, rfl⟩
  obtain ⟨w2, hw2⟩ : ∃ w2, w2 = w1.alloc (.cells #[.int .u8 8, .int .u8 1, .int .u8 192, .int .u8 1, .int .u8 0, .int .u8 1, .int .u8 187, .int .u8 204] 5) := ⟨_, rfl⟩
  have b1 : Below w.heap.size w w1 := by rw [hw1]; exact bel_new _ _
  have b2 : Below w1.heap.size w1 w2 := by rw [hw2]; exact bel_new _ _
  have oP : Ow w1 w.heap.size 5 (.slice (some ⟨w.heap.size, 0, none⟩) 7 7) P20 := by rw [hw1]; exact Ow_new w _ _ P20 7 _ rfl rfl (Nat.le_refl _) (by decide) _ rfl
  have oQ : Ow w2 w.heap.size 5 (.slice (some ⟨w1.heap.size, 0, none⟩) 8 8) Q20 := by rw [hw2]; exact Ow_new w1 _ _ Q20 8 _ rfl rfl b1.size (by decide) _ rfl
  have oP2 := oP.below b2
  have b02 := b1.trans (b2.mono b1.size)
  obtain ⟨_, _, he1, rP⟩ := Rd.of (n := 7) oP2 rfl
  cases he1
  obtain ⟨_, _, he2, rQ⟩ := Rd.of (n := 8) oQ rfl
  cases he2
  have s1 : w1.heap.size = w.heap.size + 1 := by rw [hw1]; simp
  have HP := Lib.hid (And.intro rP (And.intro rQ b02))
  have b3 := bel_new w2 (.cells #[] 5)
  have o3 := Ow_empty w2 w2.heap.size 5 (Nat.le_refl _)
  clear oP oQ oP2 rP rQ b1 b2 b02
  go_enter Try.func8, Try.ntmps8
  go_upto_region 3 with fail
  rw [← s1, ← hw1, ← hw2]
  clear s1 hw1 hw2
  go_wp2_with (first
    | (at_builtin; refine wpList_appN _ is_bytes rfl (.tmp 16) (.tmp 17) rfl (m := []) rfl o3 HP.out.1.len rfl (HP.out.1.bs.below b3) HP.out.1.nil (by simp) b3.size ?_; intro v4 w4 ho4 hg4 hv4; have b4 := b3.grown hg4 b3.size o3.base_le; rw [List.nil_append] at ho4; clear hg4 hv4)
    | (at_builtin; refine wpList_appN _ is_bytes rfl (.tmp 18) (.tmp 19) rfl (m := P20) rfl ho4 HP.out.2.1.len rfl (HP.out.2.1.bs.below b4) HP.out.2.1.nil (by decide) b4.size ?_; intro v5 w5 ho5 hg5 hv5; have b5 := b4.grown hg5 b4.size ho4.base_le; obtain ⟨A, c, rfl, rS⟩ := Rd.of (n := 15) ho5 (by decide); clear hg5 hv5 ho4))
  obtain ⟨b, off, rfl, hb5, _⟩ := rS.at_ (by decide)
  have h15 := rS.le
  have n5 : c ≠ 5 := by omega
  have n10 : c ≠ 10 := by omega
  have i5 : (5 : Int) ≤ (c : Int) := by omega
  have i10 : (10 : Int) ≤ (c : Int) := by omega
  have d0 := Rd.sub rS 0 5 (by decide)
  have d5 := Rd.sub rS 5 5 (by decide)
  have d10 := Rd.sub rS 10 5 (by decide)
  rw [Nat.add_zero, Nat.sub_zero] at d0
  have HP5 := Lib.hid (And.intro (HP.out.1.later b5) (And.intro (HP.out.2.1.later b5) (HP.out.2.2.trans (b5.mono HP.out.2.2.size))))
  have HD := Lib.hid (And.intro d0 (And.intro d5 (And.intro d10 hb5)))
  clear rS h15 d0 d5 d10 hb5 b3 o3 b4 ho5 HP
  go_wp2_with fail
  refine (UL.new (w0 := w5) (Below.refl _ _)).mono ?_
  rintro e wu ⟨gu, Fu, rfl, U0, bnu, nu⟩
  go_wp2_with fail
  refine (U0.take (ct := 0) (f := 0) (n := 0) (by decide) (HD.out.1.later U0.b) (by decide) (fun _ => Of_blk (fun x hx => by have := U0.lo x hx; have := HD.out.2.2.2; omega) (Nat.lt_of_lt_of_le HD.out.2.2.2 U0.b.size)) t1_20.1 t1_20.2 rfl).mono ?_
  rintro e wa ⟨Aa, ca, F1, rfl, Ka, U1, ka, fa⟩
  clear U0 Ka ka fa bnu nu
  go_wp2_with fail
  refine (U1.take (ct := 1) (f := 2) (n := 1) (by decide) (HD.out.2.1.later U1.b) (by decide) (fun _ => Of_blk (fun x hx => by have := U1.lo x hx; have := HD.out.2.2.2; omega) (Nat.lt_of_lt_of_le HD.out.2.2.2 U1.b.size)) t2_20.1 t2_20.2 rfl).mono ?_
  rintro e wb ⟨Ab, cb, F2, rfl, Kb, U2, kb, fb⟩
  clear U1 kb fb
  go_wp2_with fail
  refine (U2.take (ct := 2) (f := 2047) (n := 1) (by decide) (HD.out.2.2.1.later U2.b) (by decide) (fun _ => Of_blk (fun x hx => by have := U2.lo x hx; have := HD.out.2.2.2; omega) (Nat.lt_of_lt_of_le HD.out.2.2.2 U2.b.size)) t3_20.1 t3_20.2 rfl).mono ?_
  rintro e wc ⟨Ac, cc, F3, rfl, Kc, U3, kc, fc⟩
  have Kb := Kb.next kc (fun x hx => .inl hx) fc
  clear U2 kc fc
  go_wp2_with fail
  refine (UL.new (w0 := w5) U3.b).mono ?_
  rintro e wv ⟨gv, Fv, rfl, V0, bnv, nv⟩
  have U3lt := U3.p.lt
  have U3 := U3.below bnv
  have Kb := Kb.next (F' := Fv ++ F3) (Only.of_below (S := []) bnv) (by simp) (fun x hx => (List.mem_append.1 hx).elim (fun q => .inr (nv x q)) .inl)
  have Kc := Kc.next (F' := Fv ++ F3) (Only.of_below (S := []) bnv) (by simp) (fun x hx => (List.mem_append.1 hx).elim (fun q => .inr (nv x q)) .inl)
  have D : ∀ x ∈ F3, x ∉ Fv := fun x hx hm => by have := nv x hm; have := U3lt x hx; omega
  clear U3lt bnv nv
  go_wp2_with fail
  refine (V0.take (ct := 1) (f := 2) (n := 0) (by decide) (HD.out.2.1.later V0.b) (by decide) (fun _ => Of_blk (fun x hx => by have := V0.lo x hx; have := HD.out.2.2.2; omega) (Nat.lt_of_lt_of_le HD.out.2.2.2 V0.b.size)) t4_20.1 t4_20.2 rfl).mono ?_
  rintro e wd ⟨Ad, cd, G1, rfl, Kd, V1, kd, fd⟩
  have Kb := Kb.next (F' := G1 ++ F3) kd (fun x hx => .inl (List.mem_append_left _ hx)) (fun x hx => (List.mem_append.1 hx).elim (fun q => (fd x q).imp (List.mem_append_left _) id) (fun q => .inl (List.mem_append_right _ q)))
  have Kc := Kc.next (F' := G1 ++ F3) kd (fun x hx => .inl (List.mem_append_left _ hx)) (fun x hx => (List.mem_append.1 hx).elim (fun q => (fd x q).imp (List.mem_append_left _) id) (fun q => .inl (List.mem_append_right _ q)))
  have D0 := D
  have D : ∀ x ∈ F3, x ∉ G1 := fun x hx hm => by
    rcases fd x hm with q | q
    · exact D x hx q
    · have := U3.p.lt x hx; omega
  have U3 := U3.off kd D0 V0.lo
  clear V0 kd fd D0
  clear Kd
  go_wp2_with fail
  refine (V1.take (ct := 2) (f := 2047) (n := 1) (by decide) (HD.out.2.2.1.later V1.b) (by decide) (fun _ => Of_blk (fun x hx => by have := V1.lo x hx; have := HD.out.2.2.2; omega) (Nat.lt_of_lt_of_le HD.out.2.2.2 V1.b.size)) t3_20.1 t3_20.2 rfl).mono ?_
  rintro e we ⟨Ae, ce, G2, rfl, Ke, V2, ke, fe⟩
  have Kb := Kb.next (F' := G2 ++ F3) ke (fun x hx => .inl (List.mem_append_left _ hx)) (fun x hx => (List.mem_append.1 hx).elim (fun q => (fe x q).imp (List.mem_append_left _) id) (fun q => .inl (List.mem_append_right _ q)))
  have Kc := Kc.next (F' := G2 ++ F3) ke (fun x hx => .inl (List.mem_append_left _ hx)) (fun x hx => (List.mem_append.1 hx).elim (fun q => (fe x q).imp (List.mem_append_left _) id) (fun q => .inl (List.mem_append_right _ q)))
  have D0 := D
  have D : ∀ x ∈ F3, x ∉ G2 := fun x hx hm => by
    rcases fe x hm with q | q
    · exact D x hx q
    · have := U3.p.lt x hx; omega
  have U3 := U3.off ke D0 V1.lo
  clear V1 ke fe D0
  have U3lt := U3.p.lt
  go_wp2_with fail
  refine (UL.new (w0 := w5) V2.b).mono ?_
  rintro e wx ⟨gx, Fx, rfl, X0, bx, nx⟩
  have U3 := U3.below bx
  have Kb := Kb.next (F' := Fx ++ (G2 ++ F3)) (Only.of_below (S := []) bx) (by simp) (fun x hx => (List.mem_append.1 hx).elim (fun q => .inr (nx x q)) .inl)
  have Kc := Kc.next (F' := Fx ++ (G2 ++ F3)) (Only.of_below (S := []) bx) (by simp) (fun x hx => (List.mem_append.1 hx).elim (fun q => .inr (nx x q)) .inl)
  have Ke := Ke.next (F' := Fx ++ G2) (Only.of_below (S := []) bx) (by simp) (fun x hx => (List.mem_append.1 hx).elim (fun q => .inr (nx x q)) .inl)
  have D : ∀ x ∈ F3, x ∉ Fx := fun x hx hm => by have := nx x hm; have := U3lt x hx; omega
  clear U3lt bx nx V2
  go_wp2_with fail
  refine (X0.take (ct := 0) (f := 0) (n := 0) (by decide) (HD.out.1.later X0.b) (by decide) (fun _ => Of_blk (fun x hx => by have := X0.lo x hx; have := HD.out.2.2.2; omega) (Nat.lt_of_lt_of_le HD.out.2.2.2 X0.b.size)) t1_20.1 t1_20.2 rfl).mono ?_
  rintro e wf ⟨Af, cf, H1, rfl, Kf, X1, kf, ff⟩
  have Kb := Kb.next (F' := H1 ++ (G2 ++ F3)) kf (fun x hx => .inl (List.mem_append_left _ hx)) (fun x hx => (List.mem_append.1 hx).elim (fun q => (ff x q).imp (List.mem_append_left _) id) (fun q => .inl (List.mem_append_right _ q)))
  have Kc := Kc.next (F' := H1 ++ (G2 ++ F3)) kf (fun x hx => .inl (List.mem_append_left _ hx)) (fun x hx => (List.mem_append.1 hx).elim (fun q => (ff x q).imp (List.mem_append_left _) id) (fun q => .inl (List.mem_append_right _ q)))
  have Ke := Ke.next (F' := H1 ++ G2) kf (fun x hx => .inl (List.mem_append_left _ hx)) (fun x hx => (List.mem_append.1 hx).elim (fun q => (ff x q).imp (List.mem_append_left _) id) (fun q => .inl (List.mem_append_right _ q)))
  have D0 := D
  have D : ∀ x ∈ F3, x ∉ H1 := fun x hx hm => by
    rcases ff x hm with q | q
    · exact D x hx q
    · have := U3.p.lt x hx; omega
  have U3 := U3.off kf D0 X0.lo
  clear X0 kf ff D0 Kf
  go_wp2_with fail
  refine (X1.take (ct := 2) (f := 2047) (n := 0) (by decide) (HD.out.2.2.1.later X1.b) (by decide) (fun _ => Of_blk (fun x hx => by have := X1.lo x hx; have := HD.out.2.2.2; omega) (Nat.lt_of_lt_of_le HD.out.2.2.2 X1.b.size)) t5_20.1 t5_20.2 rfl).mono ?_
  rintro e wg ⟨Ag, cg, H2, rfl, Kg, X2, kg, fg⟩
  have Kb := Kb.next (F' := H2 ++ (G2 ++ F3)) kg (fun x hx => .inl (List.mem_append_left _ hx)) (fun x hx => (List.mem_append.1 hx).elim (fun q => (fg x q).imp (List.mem_append_left _) id) (fun q => .inl (List.mem_append_right _ q)))
  have Kc := Kc.next (F' := H2 ++ (G2 ++ F3)) kg (fun x hx => .inl (List.mem_append_left _ hx)) (fun x hx => (List.mem_append.1 hx).elim (fun q => (fg x q).imp (List.mem_append_left _) id) (fun q => .inl (List.mem_append_right _ q)))
  have Ke := Ke.next (F' := H2 ++ G2) kg (fun x hx => .inl (List.mem_append_left _ hx)) (fun x hx => (List.mem_append.1 hx).elim (fun q => (fg x q).imp (List.mem_append_left _) id) (fun q => .inl (List.mem_append_right _ q)))
  have D0 := D
  have D : ∀ x ∈ F3, x ∉ H2 := fun x hx hm => by
    rcases fg x hm with q | q
    · exact D x hx q
    · have := U3.p.lt x hx; omega
  have U3 := U3.off kg D0 X1.lo
  clear X1 kg fg D0 Kg
  have bend : Below w.heap.size w wg := HP5.out.2.2.trans (X2.b.mono HP5.out.2.2.size)
  have rP := HP5.out.1.later X2.b
  have rQ := HP5.out.2.1.later X2.b
  have lU := U3.lost
  obtain ⟨W1, hW1⟩ : ∃ W1, W1 = wg.alloc (.cells #[.slice (some ⟨w.heap.size, 0, none⟩) 7 7] 26) := ⟨_, rfl⟩
  have bW1 : Below wg.heap.size wg W1 := by rw [hW1]; exact bel_new _ _
  have y1 := Same_of (c1 := cb) (c2 := 1) (n := 1) W1 ((Kb.below bW1).reads rfl) (by rw [hW1]; exact LS_one rP) rfl (by decide)
  have HK := Lib.hid (And.intro Kc (And.intro Ke (And.intro U3 (And.intro X2 (And.intro rQ (And.intro bend bW1))))))
  clear Kb Kc Ke U3 X2 rQ rP bend bW1 lU D
  go_wp2_with fail
  rw [← hW1]
  clear hW1
  refine y1.mono ?_
  clear y1
  rintro e w11 ⟨rfl, b11⟩
  have b12 := HK.out.2.2.2.2.2.2.trans (b11.mono HK.out.2.2.2.2.2.2.size)
  obtain ⟨W2, hW2⟩ : ∃ W2, W2 = w11.alloc (.cells #[.slice (some ⟨w1.heap.size, 0, none⟩) 8 8] 26) := ⟨_, rfl⟩
  have bW2 : Below w11.heap.size w11 W2 := by rw [hW2]; exact bel_new _ _
  have b13 := b12.trans (bW2.mono b12.size)
  have y2 := Same_of (c1 := cc) (c2 := 1) (n := 1) W2 ((HK.out.1.below b13).reads rfl) (by rw [hW2]; exact LS_one (HK.out.2.2.2.2.1.later b12)) rfl (by decide)
  have HB := Lib.hid b13
  clear b11 b12 b13 bW2
  go_wp2_with fail
  rw [← hW2]
  clear hW2
  refine y2.mono ?_
  clear y2
  rintro e w21 ⟨rfl, b21⟩
  have b22 := HB.out.trans (b21.mono HB.out.size)
  have y3 := (HK.out.2.2.1.below b22).lost
  have HB2 := Lib.hid b22
  clear b21 b22
  go_wp2_with fail
  refine y3.mono ?_
  clear y3
  rintro e w22 ⟨rfl, rfl⟩
  obtain ⟨W3, hW3⟩ : ∃ W3, W3 = w21.alloc (.cells #[.slice (some ⟨w1.heap.size, 0, none⟩) 8 8] 26) := ⟨_, rfl⟩
  have bW3 : Below w21.heap.size w21 W3 := by rw [hW3]; exact bel_new _ _
  have b33 := HB2.out.trans (bW3.mono HB2.out.size)
  have y4 := Same_of (c1 := ce) (c2 := 1) (n := 1) W3 ((HK.out.2.1.below b33).reads rfl) (by rw [hW3]; exact LS_one (HK.out.2.2.2.2.1.later HB2.out)) rfl (by decide)
  have HB3 := Lib.hid b33
  clear b33 bW3
  go_wp2_with fail
  rw [← hW3]
  clear hW3
  refine y4.mono ?_
  clear y4
  rintro e w31 ⟨rfl, b31⟩
  have b32 := HB3.out.trans (b31.mono HB3.out.size)
  have y5 := (HK.out.2.2.2.1.below b32).lost
  have HB4 := Lib.hid b32
  clear b31 b32
  go_wp2_with fail
  refine y5.mono ?_
  clear y5
  rintro e w32 ⟨rfl, rfl⟩
  go_wp2
  go_ret
  exact ⟨rfl, HK.out.2.2.2.2.2.1.trans (HB4.out.mono HK.out.2.2.2.2.2.1.size)⟩
end Go.Proofs.Ytcmonalnhdodmaa.Unp

/-
  Slices of ints in a world: Ns (reads as a list of ints), On (a slice of the call's own that holds a list of ints); append. No dump is imported.
-/
namespace Go.Proofs.Ytcmonalnhdodmaa.Ints
open Go.RowKit

abbrev I (n : Int) : Value := .int .i64 n
/-- type t is a slice of ints, e the int's type -/
def IsInts (P : Program) (t e : TypeId) : Prop :=
  P.underlying t = some (.slice e) ∧ ∃ i, P.info? e = some i ∧ i.zero = some (I 0) ∧ i.size = 1 ∧ i.bytes = 8
/-- 'A' leads to the ints l, all below block B; of the empty list nothing is asked -/
def Ns (w : World) (B : Nat) (A : Option Addr) (l : List Int) : Prop :=
  0 < l.length → ∃ b off, A = some ⟨b, off, none⟩ ∧ b < B ∧ ∀ i x, l[i]? = some x → w.cell? ⟨b, off + i, none⟩ = some (I x)
/-- v is a slice of the call's own (blocks from base on) that holds the ints l -/
def On (w : World) (base : Nat) (e : TypeId) (v : Value) (l : List Int) : Prop := w.ownsRow base e 1 v l.length (l.map I)

theorem I_one (l : List Int) : ∀ u ∈ l.map I, u.oneCell' = true := by
  intro u hu
  obtain ⟨x, _, rfl⟩ := List.mem_map.1 hu
  rfl
theorem add_zero_cell (w : World) (g j : Nat) : w.cell? ((⟨g, 0, none⟩ : Addr).add j) = w.cell? ⟨g, j, none⟩ := by
  rcases Nat.eq_zero_or_pos j with rfl | hj
  · rfl
  · have hne : j ≠ 0 := by omega
    simp [Addr.add, hne]

section
variable {w w' : World} {B B' : Nat} {a : Option Addr} {l : List Int} {base : Nat} {e : TypeId} {v : Value} {S : List Nat}
theorem Ns.nil_ : Ns w B a [] := fun h => absurd h (by simp)
theorem Ns.keep (h : Ns w B a l) (hk : ∀ p : Addr, p.block < B → w'.cell? p = w.cell? p) : Ns w' B a l := fun hl => by
  obtain ⟨b, off, rfl, hb, hc⟩ := h hl
  exact ⟨b, off, rfl, hb, fun i x hx => (hk ⟨b, off + i, none⟩ hb).trans (hc i x hx)⟩
theorem Ns.below (h : Ns w B a l) (hb : Below B w w') : Ns w' B a l := h.keep fun _ hp => hb.cell hp
theorem Ns.more (h : Ns w B a l) (hB : B ≤ B') : Ns w B' a l := fun hl => by
  obtain ⟨b, off, rfl, hb, hc⟩ := h hl
  exact ⟨b, off, rfl, by omega, hc⟩
theorem Ns.only (h : Ns w B a l) (k : Only S w w') (hB : B ≤ w.heap.size) (hS : ∀ x ∈ S, B ≤ x) : Ns w' B a l := h.below (k.below hB hS)
theorem Ns.at_ (h : Ns w B a l) {k : Nat} (hk : k < l.length) : ∃ b off, a = some ⟨b, off, none⟩ ∧ b < B ∧ w.cell? ⟨b, off + k, none⟩ = some (I l[k]) := by
  obtain ⟨b, off, rfl, hb, hc⟩ := h (by omega)
  exact ⟨b, off, rfl, hb, hc k _ (List.getElem?_eq_getElem hk)⟩
theorem Ns.draws (h : Ns w B a l) (n : Nat) : Ns (w.drewN n) B a l := h
theorem Ns.drew (h : Ns w B a l) : Ns w.drew B a l := h

theorem On.nil_ (w : World) (base : Nat) (e : TypeId) : On w base e (.slice none 0 0) [] := ⟨rfl, .inl ⟨rfl, rfl⟩⟩
theorem On.lt (h : On w base e v l) : ∀ i, v.ownBlock = some i → base ≤ i ∧ i < w.heap.size := World.ownsRow.lt h
theorem On.base_le (h : On w base e v l) : ∀ k, v.ownBlock = some k → base ≤ k := fun k hk => (h.lt k hk).1
theorem On.only (h : On w base e v l) (k : Only S w w') (hS : ∀ i, v.ownBlock = some i → i ∉ S) : On w' base e v l := own_only h k hS
theorem On.below (h : On w base e v l) (hb : Below w.heap.size w w') : On w' base e v l := h.only (Only.of_below (S := []) hb) (by simp)
theorem On.alloc (h : On w base e v l) (o : Obj) : On (w.alloc o) base e v l := World.ownsRow.alloc h o
theorem On.draws (h : On w base e v l) (n : Nat) : On (w.drewN n) base e v l := h
theorem On.drew (h : On w base e v l) : On w.drew base e v l := World.ownsRow.drew h
theorem On.more (h : On w base e v l) {b' : Nat} (hb : b' ≤ base) : On w b' e v l := by
  refine ⟨h.1, ?_⟩
  rcases h.2 with h2 | ⟨g, cap, cur, hv, hg, rest⟩
  · exact .inl h2
  · exact .inr ⟨g, cap, cur, hv, by omega, rest⟩
theorem On.reads (h : On w base e v l) : ∃ A c, v = .slice A l.length c ∧ Ns w w.heap.size A l ∧ (A = none → c = 0) ∧ l.length ≤ c ∧ c ≤ maxLen := by
  have hcells := fun g cap (hv : v = .slice (some ⟨g, 0, none⟩) l.length cap) => World.ownsRow.cells h (g := g) (by rw [hv]; rfl)
  rcases h.2 with ⟨rfl, h0⟩ | ⟨g, cap, cur, rfl, _, hh, hn, hm, _⟩
  · have : l = [] := List.eq_nil_of_length_eq_zero h0
    subst this
    exact ⟨none, 0, rfl, Ns.nil_, fun _ => rfl, by simp, by simp⟩
  · refine ⟨some ⟨g, 0, none⟩, cap, rfl, fun _ => ⟨g, 0, rfl, lt_of_block hh, fun i x hx => ?_⟩, by simp, hn, hm⟩
    have := hcells g cap rfl i (I x) (by simp [hx])
    rw [add_zero_cell] at this
    simpa using this
theorem On.reads_len {n : Nat} (h : On w base e v l) (hl : l.length = n) : ∃ A c, v = .slice A n c ∧ Ns w w.heap.size A l ∧ (A = none → c = 0) ∧ n ≤ c ∧ c ≤ maxLen := by
  subst hl; exact h.reads
theorem Ns_new (w : World) (e : TypeId) (l : List Int) (C : Array Value) (hC : C = (l.map I).toArray) (B : Nat) (hB : w.heap.size < B) : Ns (w.alloc (.cells C e)) B (some ⟨w.heap.size, 0, none⟩) l := fun _ => by
  refine ⟨w.heap.size, 0, rfl, hB, fun i z hz => ?_⟩
  rw [Nat.zero_add, cell_of_row _ _ i _ e (0, 0) (heap_alloc_new w _), hC]
  simp [hz]
theorem Ns_new1 (w : World) (e : TypeId) (x : Int) : Ns (w.alloc (.cells #[I x] e)) (w.heap.size + 1) (some ⟨w.heap.size, 0, none⟩) [x] := Ns_new w e [x] _ rfl _ (by omega)
/-- a block that is known whole, as a slice of the call's own -/
theorem On_of_cel {g : Nat} (h : Cel w g e (l.map I).toArray) (hb : base ≤ g) (hl : l.length ≤ maxLen) : On w base e (.slice (some ⟨g, 0, none⟩) l.length l.length) l :=
  ⟨by simp, .inr ⟨g, l.length, _, rfl, hb, h, Nat.le_refl _, hl, by simp, List.take_of_length_le (by simp)⟩⟩
end

section
variable {P : Program} (w : World)
theorem run_iapp {t e ty : TypeId} (hT : IsInts P t e) {base : Nat} {v : Value} {m : List Int} (hown : On w base e v m)
    {B : Nat} {A : Option Addr} {l : List Int} {c : Nat} (hr : Ns w B A l) (hn : A = none → c = 0) (h47 : m.length + l.length ≤ 8796093022208) (hbase : base ≤ w.heap.size) :
    ∃ v' w', (Builtin.append_ #[t, t] ty #[v, .slice A l.length c]).run P w = .ok v' w' ∧ On w' base e v' (m ++ l) ∧ w.grownBy w' v.ownBlock ∧ (v'.ownBlock = v.ownBlock ∨ v'.ownBlock = some w.heap.size) := by
  obtain ⟨ht, i, hi, hz, h1, h2⟩ := hT
  cases A with
  | none =>
    have hl : l = [] := by
      rcases Nat.eq_zero_or_pos l.length with h0 | h0
      · exact List.eq_nil_of_length_eq_zero h0
      · obtain ⟨b, off, h, _⟩ := hr h0; cases h
    subst hl
    obtain rfl : c = 0 := hn rfl
    exact ⟨v, w, run_append_owned_none w base t ty e i 1 ht hi v m.length _ hown, by simpa using hown, World.grownBy.refl w _, .inl rfl⟩
  | some ad =>
    obtain ⟨v', w', hrun, ho, hg, _, h5⟩ := run_append_own_at (P := P) w base t ty e i (I 0) 1 8 ht hi hz h1 h2 rfl (by decide) v m.length (m.map I) hown ad l.length c (l.map I)
      (by simp) (fun j u hu => by
        rw [List.getElem?_map] at hu
        cases hx : l[j]? with
        | none => rw [hx] at hu; cases hu
        | some x =>
          rw [hx] at hu
          injection hu with hu
          subst hu
          have hj := (List.getElem?_eq_some_iff.1 hx).1
          obtain ⟨b, off, he, _, hc⟩ := hr (by omega)
          injection he with he
          subst he
          by_cases h0 : j = 0
          · subst h0; simpa [Addr.add] using hc 0 x hx
          · simpa [Addr.add, h0] using hc j x hx) (I_one l) (by unfold maxLen; omega) (by omega) hbase
    exact ⟨v', w', hrun, by unfold On; rw [List.length_append, List.map_append]; exact ho, hg, h5⟩
theorem wp_iapp {t e : TypeId} (hT : IsInts P t e) {o : Oper} {a : Act} {K : Act → World → Prop} {Q : Exit → Act → World → Prop} (s x : Operand)
    (ho : o.op = .call { callee := .builtin .append, args := #[s, x], argTypes := #[t, t] })
    {base : Nat} {v : Value} {m : List Int} (hs : a.eval s = v) (hown : On w base e v m)
    {B n : Nat} {A : Option Addr} {l : List Int} {c : Nat} (hl : l.length = n) (hx : a.eval x = .slice A n c) (hr : Ns w B A l) (hn : A = none → c = 0) (h47 : m.length + l.length ≤ 8796093022208) (hbase : base ≤ w.heap.size)
    (h : ∀ v' w', On w' base e v' (m ++ l) → w.grownBy w' v.ownBlock → (v'.ownBlock = v.ownBlock ∨ v'.ownBlock = some w.heap.size) → K (a.put o.dst v') w') : o.wp P a w K Q := by
  subst hl
  obtain ⟨v', w', hrun, h2, h3, h4⟩ := run_iapp (P := P) (ty := o.type) w hT hown hr hn h47 hbase
  unfold Oper.wp execOp
  simp only [ho, resolve, invoke, builtin, Sem.run_bind, Sem.run_pure, Result.andThen_ok, List.map_toArray, List.map_cons, List.map_nil, hs, hx, hrun]
  exact h v' w' h2 h3 h4
theorem wpList_iapp {t e : TypeId} (hT : IsInts P t e) {ops : Array Oper} {rest : List Oper} {o : Oper} {a : Act} {Q : Exit → Act → World → Prop} (hgd : o.guard = none) (s x : Operand)
    (ho : o.op = .call { callee := .builtin .append, args := #[s, x], argTypes := #[t, t] })
    {base : Nat} {v : Value} {m : List Int} (hs : a.eval s = v) (hown : On w base e v m)
    {B n : Nat} {A : Option Addr} {l : List Int} {c : Nat} (hl : l.length = n) (hx : a.eval x = .slice A n c) (hr : Ns w B A l) (hn : A = none → c = 0) (h47 : m.length + l.length ≤ 8796093022208) (hbase : base ≤ w.heap.size)
    (h : ∀ v' w', On w' base e v' (m ++ l) → w.grownBy w' v.ownBlock → (v'.ownBlock = v.ownBlock ∨ v'.ownBlock = some w.heap.size) → wpList P ops Q rest (a.put o.dst v') w') : wpList P ops Q (o :: rest) a w :=
  wpList_plain hgd fun _ hK => wp_iapp w hT s x ho hs hown hl hx hr hn h47 hbase fun v' w' h2 h3 h4 => hK _ _ (h v' w' h2 h3 h4)
theorem step_iapp {t e : TypeId} (hT : IsInts P t e) {ops : Array Oper} {o : Oper} {a : Act} {K : Act → World → Prop} {Q : Exit → Act → World → Prop} {E : Prop} (hgd : o.guard = none) (s x : Operand)
    (ho : o.op = .call { callee := .builtin .append, args := #[s, x], argTypes := #[t, t] })
    {base : Nat} {v : Value} {m : List Int} (hs : a.eval s = v) (hown : On w base e v m)
    {B n : Nat} {A : Option Addr} {l : List Int} {c : Nat} (hl : l.length = n) (hx : a.eval x = .slice A n c) (hr : Ns w B A l) (hn : A = none → c = 0) (h47 : m.length + l.length ≤ 8796093022208) (hbase : base ≤ w.heap.size)
    (h : ∀ v' w', On w' base e v' (m ++ l) → w.grownBy w' v.ownBlock → (v'.ownBlock = v.ownBlock ∨ v'.ownBlock = some w.heap.size) → K (a.put o.dst v') w') :
    if Region.wanted o (yielded ops a.tmps) = true then Oper.wp P o a w K Q else E := by
  have hw : Region.wanted o (yielded ops a.tmps) = true := by simp [Region.wanted, hgd]
  rw [if_pos hw]
  exact wp_iapp w hT s x ho hs hown hl hx hr hn h47 hbase h
end
end Go.Proofs.Ytcmonalnhdodmaa.Ints

/-
  The laws of layer 20: an Unpacker and the list of what it has handed back (Gt); packets, their stream and their boundaries as they are laid (Z1).
-/
namespace Go.Proofs.Ytcmonalnhdodmaa.Unp
open Go.RowKit Go.Proofs.Ytcmonalnhdodmaa.Row Lst Ints
open Pac (bel_new)

/-- an Unpacker, and the list of the packets handed back so far -/
structure Gt (w1 w : World) (g : Nat) (F : List Nat) (s : US) (gv : Value) (got : List (List Byte)) : Prop where
  u : UL w1 w g F s
  l : ∃ E, LO w w1.heap.size 26 5 gv got E ∧ ∀ x ∈ E, x ∉ F
/-- with what Take has just handed back -/
structure Gt2 (w1 w : World) (g : Nat) (F : List Nat) (s : US) (gv : Value) (got : List (List Byte)) (R : Value) (O : List (List Byte)) : Prop where
  u : UL w1 w g F s
  l : ∃ E, LO w w1.heap.size 26 5 gv got E ∧ ∀ x ∈ E, x ∉ F
  r : ∃ E, LO w w1.heap.size 26 5 R O E ∧ ∀ x ∈ E, x ∉ F
section
variable {w1 w w' w6 : World} {g m cd n : Nat} {F E E2 : List Nat} {s s' : US} {a : Option Addr} {d : List Byte} {O got : List (List Byte)} {ct f : Int} {gv R v2 : Value}
theorem Gt.below (h : Gt w1 w g F s gv got) (k : Below w.heap.size w w') : Gt w1 w' g F s gv got := by
  obtain ⟨u, E, l, hE⟩ := h
  exact ⟨u.below k, E, l.below k, hE⟩
theorem UL.row_off {t : World} {b : Nat} {v : Value} {ls : List (List Byte)} {E : List Nat} (h : UL w1 t g F s) (l : LO t b 26 5 v ls E) : ∀ x, v.ownBlock = some x → x ∉ F := fun x hx hm => by
  obtain ⟨⟨⟨A', n', c', hc, rfl⟩, _⟩, _⟩ := h
  rcases List.mem_cons.1 hm with rfl | hm
  · exact l.row_apart hc.u (by decide) hx
  · obtain ⟨cs, hcs⟩ := hc.m.cel x hm
    exact l.row_apart hcs (by decide) hx
theorem Gt.take (h : Gt w1 w g F s gv got) (hlo : s.lo ≤ 1000000000000) (hd : Rd w a d m cd) (hm : m ≤ 1000000) (hof : 0 < m → Of w a F) (hS : tkS s ct f d = s') (hO : tkO s ct f d = O) (hn : O.length = n) :
    Calls Try.prog 11 #[.pointer (some ⟨g, 0, none⟩), .int .i64 ct, .int .i64 f, .slice a m cd] w fun e w' => ∃ A c F', e = .returned (.slice A n c) ∧ Gt2 w1 w' g F' s' gv got (.slice A n c) O ∧ ∀ x ∈ F', x ∈ F ∨ w.heap.size ≤ x := by
  subst hS hO
  obtain ⟨u, E, l, hE⟩ := h
  have hrow := u.row_off l
  have hEl := l.lt
  refine (utake_any u.p hlo hd hm hof ct f).mono ?_
  rintro e w' ⟨R, rfl, ⟨E2, F', hl, hu, hF, hE2⟩, k⟩
  obtain ⟨A, c, rfl, _⟩ := hl.len hn
  refine ⟨A, c, F', rfl, ⟨⟨hu, fun x hx => ?_, u.b.trans (k.below u.b.size u.lo)⟩, ⟨E, l.only k hrow hE, fun x hx hm => ?_⟩, ⟨E2, hl.more u.b.size, hE2⟩⟩, hF⟩
  · rcases hF x hx with q | q
    · exact u.lo x q
    · exact Nat.le_trans u.b.size q
  · rcases hF x hm with q | q
    · exact hE x hx q
    · have := (hEl x hx).2; omega
/-- what is handed back is added to the list -/
theorem Gt2.app {qs qs2 : List Qb} {row : Option Nat} (u : UL w1 w g F s) (l : LO w w1.heap.size 26 5 gv got E) (hE : ∀ x ∈ E, x ∉ F) (l2 : LO w w1.heap.size 26 5 R O E2) (hE2 : ∀ x ∈ E2, x ∉ F)
    (he : qs.map (·.l) = got) (h3 : ∀ q ∈ qs, Ow w w1.heap.size 5 q.v q.l ∧ ∀ k, q.v.ownBlock = some k → k ∈ E) (he2 : qs2.map (·.l) = O) (hq2 : ∀ q ∈ qs2, Ow w w1.heap.size 5 q.v q.l ∧ ∀ k, q.v.ownBlock = some k → k ∈ E2)
    (hrow : gv.ownBlock = row) (hg : w.grownBy w6 row) (ho : Row.Os enc 1 w6 w1.heap.size 26 v2 (qs ++ qs2)) : Gt w1 w6 g F s v2 (got ++ O) := by
  have hr := u.row_off l
  have hrl := l.row_lt
  refine ⟨u.off (Only.of_grown hg) (fun x hx hm => hr x (by rw [hrow]; simpa using hm) hx) (fun x hx => (hrl x (by rw [hrow]; simpa using hx)).1), E ++ E2, l.app (by decide) he h3 he2 hq2 l2.el hrow hg ho, fun x hx => ?_⟩
  rcases List.mem_append.1 hx with q | q
  · exact hE x q
  · exact hE2 x q
end

/-! ### packets, their stream, where they begin -/
theorem is_ints : IsInts Try.prog 40 3 := by
  obtain ⟨i, hi, hz, h1, h2⟩ := info_parts (show (Try.prog.info? 3).map (fun i => (i.zero, i.size, i.bytes)) = some (some (.int .i64 0), 1, 8) by kernel_rfl)
  exact ⟨Try.underlying40, i, hi, hz, h1, h2⟩
structure Z1 (w0 w : World) (R V B : Value) (pk : List (List Byte)) (S : List Byte) (bs : List Int) : Prop where
  lo : ∃ E, LO w w0.heap.size 26 5 R pk E ∧ ∀ x, V.ownBlock = some x → x ∉ E
  st : Ow w w0.heap.size 5 V S
  bg : On w w0.heap.size 3 B bs
  b : Below w0.heap.size w0 w
section
variable {w0 w w' w4 w6 : World} {R V B v2 : Value} {pk : List (List Byte)} {S x : List Byte} {bs bs' : List Int} {A : Option Addr} {n c : Nat} {E : List Nat} {row : Option Nat}
theorem Z1.start (w : World) : Z1 w w (.slice none 0 0) (.slice none 0 0) (.slice none 0 0) [] [] [] := ⟨⟨[], LO.nil_ _ _ _ _, fun _ hx => nomatch hx⟩, World.ownsRow_nil _ _ _ _, On.nil_ _ _ _, Below.refl _ _⟩
theorem Z1.below (h : Z1 w0 w R V B pk S bs) (k : Below w.heap.size w w') : Z1 w0 w' R V B pk S bs := by
  obtain ⟨⟨E, l, hE⟩, st, bg, b⟩ := h
  exact ⟨⟨E, l.below k, hE⟩, st.below k, bg.below k, b.trans (k.mono b.size)⟩
/-- a packet more -/
theorem Z1.addp {ob : Obj} {qs : List Qb} (st : Ow w w0.heap.size 5 V S) (bg : On w w0.heap.size 3 B bs) (b : Below w0.heap.size w0 w) (l : LO w w0.heap.size 26 5 R pk E) (hE : ∀ x, V.ownBlock = some x → x ∉ E)
    (o4 : Ow w4 w.heap.size 5 (.slice A n c) x) (hn : x.length = n) (b4 : Below w.heap.size w w4) (he : qs.map (·.l) = pk)
    (h3 : ∀ q ∈ qs, Ow (w4.alloc ob) w0.heap.size 5 q.v q.l ∧ ∀ k, q.v.ownBlock = some k → k ∈ E) (hR : R.ownBlock = row) (hg6 : (w4.alloc ob).grownBy w6 row) (ho6 : Row.Os enc 1 w6 w0.heap.size 26 v2 (qs ++ [⟨x, A, c⟩])) :
    Z1 w0 w6 v2 V B (pk ++ [x]) S bs := by
  have b5 : Below w.heap.size w (w4.alloc ob) := b4.alloc b4.size ob
  have l5 := l.below b5
  have st5 := st.below b5
  have bg5 := bg.below b5
  have k6 := Only.of_grown hg6
  have hr : ∀ i, R.ownBlock = some i → i ∈ row.toList := fun i hi => by rw [← hR, hi]; simp
  have hrow : ∀ i ∈ row.toList, R.ownBlock = some i := fun i hi => by rw [hR]; simpa using hi
  refine ⟨⟨E ++ (Value.slice A n c).ownBlock.toList, l.push1 (by decide) o4 b.size hn b4 he h3 hR hg6 ho6, fun i hi hm => ?_⟩, st5.only k6 (fun i hi hm => ?_), bg5.only k6 (fun i hi hm => ?_), (b.trans (b5.mono b.size)).trans (k6.below (b.trans (b5.mono b.size)).size (fun i hi => (l5.row_lt i (hrow i hi)).1))⟩
  · rcases List.mem_append.1 hm with q | q
    · exact hE i hi q
    · have h1 := (o4.lt i (by simpa using q)).1
      have h2 := (st.lt i hi).2
      omega
  · obtain ⟨cs, hc⟩ := own_cel st5 hi
    exact l5.row_apart hc (by decide) (hrow i hm)
  · obtain ⟨cs, hc⟩ := own_cel bg5 hi
    exact l5.row_apart hc (by decide) (hrow i hm)
/-- a number more -/
theorem Z1.addb {ob : Obj} (h : Z1 w0 w R V B pk S bs) (hB : B.ownBlock = row) (hg : (w.alloc ob).grownBy w6 row) (ho : On w6 w0.heap.size 3 v2 bs') : Z1 w0 w6 R V v2 pk S bs' := by
  obtain ⟨⟨E, l, hE⟩, st, bg, b⟩ := h
  have b5 : Below w.heap.size w (w.alloc ob) := bel_new w ob
  have l5 := l.below b5
  have st5 := st.below b5
  have bg5 := bg.below b5
  have k6 := Only.of_grown hg
  have hrow : ∀ i ∈ row.toList, ∃ cs, Cel (w.alloc ob) i 3 cs := fun i hi => own_cel bg5 (by rw [hB]; simpa using hi)
  refine ⟨⟨E, l5.only k6 (fun i hi hm => ?_) (fun i hi hm => ?_), hE⟩, st5.only k6 (fun i hi hm => ?_), ho, (b.trans (b5.mono b.size)).trans (k6.below (b.trans (b5.mono b.size)).size (fun i hi => (bg5.lt i (by rw [hB]; simpa using hi)).1))⟩
  · obtain ⟨cs, hc⟩ := hrow i hm
    exact l5.row_apart hc (by decide) hi
  · obtain ⟨cs, hc⟩ := hrow i hm
    exact l5.el_apart hc (by decide) hi
  · obtain ⟨cs, hc⟩ := hrow i hm
    exact (st5.apart hc (by decide)) hi
/-- the stream grows -/
theorem Z1.adds {S' : List Byte} (h : Z1 w0 w R V B pk S bs) (hV : V.ownBlock = row) (hg : w.grownBy w6 row) (ho : Ow w6 w0.heap.size 5 v2 S') (hv2 : v2.ownBlock = V.ownBlock ∨ v2.ownBlock = some w.heap.size) : Z1 w0 w6 R v2 B pk S' bs := by
  obtain ⟨⟨E, l, hE⟩, st, bg, b⟩ := h
  have k6 := Only.of_grown hg
  have hrow : ∀ i ∈ row.toList, V.ownBlock = some i := fun i hi => by rw [hV]; simpa using hi
  refine ⟨⟨E, l.only k6 (fun i hi hm => ?_) (fun i hi hm => hE i (hrow i hm) hi), fun i hi hm => ?_⟩, ho, bg.only k6 (fun i hi hm => ?_), b.trans (k6.below b.size (fun i hi => (st.lt i (hrow i hi)).1))⟩
  · obtain ⟨cs, hc⟩ := own_cel st (hrow i hm)
    exact l.row_apart hc (by decide) hi
  · rcases hv2 with q | q
    · exact hE i (by rw [← q]; exact hi) hm
    · rw [q] at hi
      injection hi with hi
      have := (l.lt i hm).2
      omega
  · obtain ⟨cs, hc⟩ := own_cel bg hi
    exact st.apart hc (by decide) (hrow i hm)
end
end Go.Proofs.Ytcmonalnhdodmaa.Unp
