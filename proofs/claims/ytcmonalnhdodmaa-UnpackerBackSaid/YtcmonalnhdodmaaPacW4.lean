/-
  The walk of package packet's Decode.
-/
import Derived.Test.YtcmonalnhdodmaaPacW3
namespace Go.Proofs.Ytcmonalnhdodmaa.Pac
open Go.RowKit

theorem de_results {tmps : Array Value} {W : World} {g : Nat} {n e : Int} {com sec : Bool} {ap fl ct : Int} {v : Value} (h2 : tmps.getD 2 undef = .pointer (some ⟨g, 0, none⟩)) (h3 : tmps.getD 3 undef = .int .i64 n) (h4 : tmps.getD 4 undef = .int .i64 e)
    (hC : Cel W g 56 #[.bool com, .bool sec, .int .i64 ap, .int .i64 fl, .int .i64 ct, v]) :
    (results Try.f53 tmps).run Try.prog W = .ok (.tuple #[.agg #[.bool com, .bool sec, .int .i64 ap, .int .i64 fl, .int .i64 ct, v], .int .i64 n, .int .i64 e]) W := by
  have c0 := hC.cell 0
  have c1 := hC.cell 1
  have c2 := hC.cell 2
  have c3 := hC.cell 3
  have c4 := hC.cell 4
  have c5 := hC.cell 5
  simp at c0 c1 c2 c3 c4 c5
  simp only [Array.getD_eq_getD_getElem?] at h2 h3 h4
  simp [results, Try.results53, go_sem, h2, h3, h4, c0, c1, c2, c3, c4, c5]

theorem Bs_sub {w : World} {B : Nat} {a : Option Addr} {l : List Byte} (h : Bs w B a l) {b off : Nat} (ha : a = some ⟨b, off, none⟩) (k m : Nat) : Bs w B (some ⟨b, off + k, none⟩) ((l.drop k).take m) := fun hl => by
  have hk : k < l.length := by simp at hl; omega
  obtain ⟨b', off', ha', hb, hc⟩ := h (by omega)
  rw [ha] at ha'
  injection ha' with ha'
  injection ha' with e1 e2
  subst e1 e2
  refine ⟨b, off + k, rfl, hb, fun i x hx => ?_⟩
  rw [List.getElem?_take] at hx
  split at hx
  · rw [List.getElem?_drop] at hx
    rw [Nat.add_assoc]
    exact hc _ _ hx
  · cases hx

theorem putAll_below {w W : World} {g : Nat} (h : Below w.heap.size w W) (hg : w.heap.size ≤ g) (com sec : Bool) (ap fl ct : Int) (v : Value) : Below w.heap.size w (putAll W g com sec ap fl ct v) :=
  h.trans ((putAll_only _ _ _ _ _ _ _ _).below h.size (by simpa using hg))

set_option maxHeartbeats 2000000 in
theorem decode_err (a : Option Addr) (l : List Byte) (n c : Nat) (w : World) (hl : Hid (l.length = n)) (hb : Bs w w.heap.size a l) (hn : a = none → c = 0) (hnc : n ≤ c) (hcm : c ≤ maxLen) (h : siE l ≠ 0) :
    Calls Try.prog 53 #[.slice a n c] w fun e w' => e = .returned (.tuple #[.agg #[.bool false, .bool false, .int .i64 0, .int .i64 0, .int .i64 0, .slice none 0 0], .int .i64 0, .int .i64 (siE l)]) ∧ Below w.heap.size w w' := by
  have b0 := bel_new w (.cells #[.bool false, .bool false, .int .i64 0, .int .i64 0, .int .i64 0, .slice none 0 0] 56)
  have hR0 := Cel.new w 56 #[.bool false, .bool false, .int .i64 0, .int .i64 0, .int .i64 0, .slice none 0 0]
  have hs := size_any a l n c _ hl ((hb.below b0).more b0.size) hn hnc hcm
  obtain ⟨E, hE⟩ : ∃ E, E = siE l := ⟨_, rfl⟩
  rw [← hE] at hs h ⊢
  have hne : (E != 0) = true := by simpa using h
  clear hE hl hb hn hnc hcm h
  go_enter Try.func53, Try.ntmps53
  go_wp2_with fail
  refine hs.mono ?_
  rintro e w1 ⟨rfl, hb1⟩
  have hR1 := Cel.later hR0 hb1
  have bel1 := b0.trans (hb1.mono b0.size)
  have c0 := hR1.cell 0
  have c1 := hR1.cell 1
  have c2 := hR1.cell 2
  have c3 := hR1.cell 3
  have c4 := hR1.cell 4
  have c5 := hR1.cell 5
  simp at c0 c1 c2 c3 c4 c5
  have f0 := hR1.free 0
  have f1 := hR1.free 1
  have f2 := hR1.free 2
  have f3 := hR1.free 3
  have f4 := hR1.free 4
  have f5 := hR1.free 5
  clear hs hb1 hR0 b0
  go_wp2
  exact bodyPost_ret (de_results rfl rfl rfl (putAll_cel hR1 false false 0 0 0 (.slice none 0 0))) rfl ⟨rfl, putAll_below bel1 (Nat.le_refl _) _ _ _ _ _ _⟩

set_option maxHeartbeats 2000000 in
theorem decode_short (a : Option Addr) (l : List Byte) (n c : Nat) (w : World) (hl : Hid (l.length = n)) (hb : Bs w w.heap.size a l) (hn : a = none → c = 0) (hnc : n ≤ c) (hcm : c ≤ maxLen) (h : siE l = 0) (h2 : l.length < tot l) :
    Calls Try.prog 53 #[.slice a n c] w fun e w' => e = .returned (.tuple #[.agg #[.bool false, .bool false, .int .i64 0, .int .i64 0, .int .i64 0, .slice none 0 0], .int .i64 0, .int .i64 3]) ∧ Below w.heap.size w w' := by
  have b0 := bel_new w (.cells #[.bool false, .bool false, .int .i64 0, .int .i64 0, .int .i64 0, .slice none 0 0] 56)
  have hR0 := Cel.new w 56 #[.bool false, .bool false, .int .i64 0, .int .i64 0, .int .i64 0, .slice none 0 0]
  have hs := size_any a l n c _ hl ((hb.below b0).more b0.size) hn hnc hcm
  have hln := hl.out
  obtain ⟨h3, h4, h5⟩ := siE_zero h
  rw [(siE_good h3 h4 h5).1, (siE_good h3 h4 h5).2] at hs
  obtain ⟨T, hT⟩ : ∃ T, T = tot l := ⟨_, rfl⟩
  rw [← hT] at hs h2
  have g1 : decide ((n : Int) < (T : Int)) = true := by simp; omega
  have g2 : decide (n < T) = true := by simp; omega
  clear hT hl hb hn hnc hcm h h2 h3 h4 h5 hln
  go_enter Try.func53, Try.ntmps53
  go_wp2_with fail
  refine hs.mono ?_
  rintro e w1 ⟨rfl, hb1⟩
  have hR1 := Cel.later hR0 hb1
  have bel1 := b0.trans (hb1.mono b0.size)
  have c0 := hR1.cell 0
  have c1 := hR1.cell 1
  have c2 := hR1.cell 2
  have c3 := hR1.cell 3
  have c4 := hR1.cell 4
  have c5 := hR1.cell 5
  simp at c0 c1 c2 c3 c4 c5
  have f0 := hR1.free 0
  have f1 := hR1.free 1
  have f2 := hR1.free 2
  have f3 := hR1.free 3
  have f4 := hR1.free 4
  have f5 := hR1.free 5
  clear hs hb1 hR0 b0
  go_wp2
  exact bodyPost_ret (de_results rfl rfl rfl (putAll_cel hR1 false false 0 0 0 (.slice none 0 0))) rfl ⟨rfl, putAll_below bel1 (Nat.le_refl _) _ _ _ _ _ _⟩

set_option maxHeartbeats 2000000 in
theorem decode_form (a : Option Addr) (l : List Byte) (n c : Nat) (w : World) (hl : Hid (l.length = n)) (hb : Bs w w.heap.size a l) (hn : a = none → c = 0) (hnc : n ≤ c) (hcm : c ≤ maxLen) (h : siE l = 0) (h2 : ¬ l.length < tot l) (hok : (rd l).ok = false) :
    Calls Try.prog 53 #[.slice a n c] w fun e w' => e = .returned (.tuple #[.agg #[.bool false, .bool false, .int .i64 0, .int .i64 0, .int .i64 0, .slice none 0 0], .int .i64 0, .int .i64 4]) ∧ Below w.heap.size w w' := by
  have b0 := bel_new w (.cells #[.bool false, .bool false, .int .i64 0, .int .i64 0, .int .i64 0, .slice none 0 0] 56)
  have hR0 := Cel.new w 56 #[.bool false, .bool false, .int .i64 0, .int .i64 0, .int .i64 0, .slice none 0 0]
  have hs := size_any a l n c _ hl ((hb.below b0).more b0.size) hn hnc hcm
  have hln := hl.out
  obtain ⟨h3, h4, h5⟩ := siE_zero h
  rw [(siE_good h3 h4 h5).1, (siE_good h3 h4 h5).2] at hs
  have hrh := fun W hB => readHeader_any a l n c W hl hB hn hnc hcm (by omega)
  have htot : 7 ≤ tot l := by unfold tot; omega
  obtain ⟨b, off, rfl⟩ : ∃ b off, a = some ⟨b, off, none⟩ := by obtain ⟨b, off, h, _⟩ := hb (by omega); exact ⟨b, off, h⟩
  have hsub := fun W (hB : Bs W W.heap.size (some ⟨b, off, none⟩) l) => Bs_sub hB rfl 6 (tot l - 6)
  obtain ⟨m, hm⟩ : ∃ m, tot l = m + 7 := ⟨tot l - 7, by omega⟩
  have hd : (rd l).d = (l.drop 6).take (tot l - 6) := rfl
  have hdl : (rd l).d.length = m + 1 := by rw [hd, List.length_take, List.length_drop]; omega
  rw [← hd] at hsub
  obtain ⟨P, hP⟩ : ∃ P, P = rd l := ⟨_, rfl⟩
  rw [← hP] at hrh hsub hok hdl
  obtain ⟨com, sec, ap, fl, ct, d⟩ := P
  simp only at hrh hsub hok hdl
  rw [hm] at hs hrh
  have hv := fun W hB => valid_any com sec ap fl ct (some ⟨b, off + 6, none⟩) d (m + 1) (m + 1) W (Lib.hid hdl) hB (by unfold maxLen; omega)
  rw [hok] at hv
  have hmn : m + 7 ≤ n := by omega
  have hm4 : m < 4090 := by omega
  have g1 : decide ((n : Int) < (m : Int) + 7) = false := by simp; omega
  have g2 : decide (n < m + 7) = false := by simp; omega
  have hmc : (m : Int) + 7 ≤ (c : Int) := by omega
  have HL := Lib.hid hdl
  have V0 : b8 l 0 / 32 = 0 := by omega
  rw [V0] at hrh
  clear V0 hdl hd hm htot h3 h4 h5 h2 h hln hP hok hnc hcm hn hmn
  go_enter Try.func53, Try.ntmps53
  go_wp2_with fail
  refine hs.mono ?_
  rintro e w1 ⟨rfl, hb1⟩
  have hR1 := Cel.later hR0 hb1
  have bel1 := b0.trans (hb1.mono b0.size)
  have hB1 := (hb.below bel1).more bel1.size
  clear hs hb1 hR0 b0
  go_wp2_with fail
  refine (hrh _ hB1).mono ?_
  rintro e w2 ⟨rfl, hb2⟩
  have hR2 := Cel.later hR1 hb2
  have bel2 := bel1.trans (hb2.mono bel1.size)
  have hlt2 := hR2.lt
  clear hrh hb2 hR1 hB1 bel1
  obtain ⟨W3, hW3⟩ : ∃ W3, W3 = w2.alloc (.cells #[.bool com, .bool sec, .int .i64 ap, .int .i64 fl, .int .i64 ct, .slice (some ⟨b, off + 6, none⟩) (m + 1) (m + 1)] 56) := ⟨_, rfl⟩
  have hP3 : Cel W3 w2.heap.size 56 #[.bool com, .bool sec, .int .i64 ap, .int .i64 fl, .int .i64 ct, .slice (some ⟨b, off + 6, none⟩) (m + 1) (m + 1)] := by rw [hW3]; exact Cel.new _ _ _
  have bel3 : Below w2.heap.size w2 W3 := by rw [hW3]; exact bel_new _ _
  have hR3 := Cel.later hR2 bel3
  have bel3' := bel2.trans (bel3.mono bel2.size)
  have hB3 := (hb.below bel3').more bel3'.size
  have hv3 := hv W3 (hsub W3 hB3)
  clear hv bel2 hR2 bel3
  go_wp2_with fail
  rw [← hW3]
  refine hv3.mono ?_
  rintro e w4 ⟨rfl, hb4⟩
  have hR4 := Cel.later hR3 hb4
  have hP4 := Cel.later hP3 hb4
  have bel4 := bel3'.trans (hb4.mono bel3'.size)
  have hB4 := (hb.below bel4).more bel4.size
  clear hv3 hb4 hR3 hP3 bel3' hB3 hW3
  have c0 := hR4.cell 0
  have c1 := hR4.cell 1
  have c2 := hR4.cell 2
  have c3 := hR4.cell 3
  have c4 := hR4.cell 4
  have c5 := hR4.cell 5
  simp at c0 c1 c2 c3 c4 c5
  have f0 := hR4.free 0
  have f1 := hR4.free 1
  have f2 := hR4.free 2
  have f3 := hR4.free 3
  have f4 := hR4.free 4
  have f5 := hR4.free 5
  go_wp2
  exact bodyPost_ret (de_results rfl rfl rfl (putAll_cel hR4 false false 0 0 0 (.slice none 0 0))) rfl ⟨rfl, putAll_below bel4 (Nat.le_refl _) _ _ _ _ _ _⟩

set_option maxHeartbeats 2000000 in
theorem decode_good (a : Option Addr) (l : List Byte) (n c : Nat) (w : World) (hl : Hid (l.length = n)) (hb : Bs w w.heap.size a l) (hn : a = none → c = 0) (hnc : n ≤ c) (hcm : c ≤ maxLen) (h : siE l = 0) (h2 : ¬ l.length < tot l) (hok : (rd l).ok = true) :
    Calls Try.prog 53 #[.slice a n c] w fun e w' => ∃ v, e = .returned (.tuple #[.agg #[.bool (rd l).com, .bool (rd l).sec, .int .i64 (rd l).ap, .int .i64 (rd l).fl, .int .i64 (rd l).ct, v], .int .i64 ((tot l : Nat) : Int), .int .i64 0]) ∧ Ow w' w.heap.size 5 v (rd l).d ∧ Below w.heap.size w w' := by
  have b0 := bel_new w (.cells #[.bool false, .bool false, .int .i64 0, .int .i64 0, .int .i64 0, .slice none 0 0] 56)
  have hR0 := Cel.new w 56 #[.bool false, .bool false, .int .i64 0, .int .i64 0, .int .i64 0, .slice none 0 0]
  have hs := size_any a l n c _ hl ((hb.below b0).more b0.size) hn hnc hcm
  have hln := hl.out
  obtain ⟨h3, h4, h5⟩ := siE_zero h
  rw [(siE_good h3 h4 h5).1, (siE_good h3 h4 h5).2] at hs
  have hrh := fun W hB => readHeader_any a l n c W hl hB hn hnc hcm (by omega)
  have htot : 7 ≤ tot l := by unfold tot; omega
  obtain ⟨b, off, rfl⟩ : ∃ b off, a = some ⟨b, off, none⟩ := by obtain ⟨b, off, h, _⟩ := hb (by omega); exact ⟨b, off, h⟩
  have hsub := fun W (hB : Bs W W.heap.size (some ⟨b, off, none⟩) l) => Bs_sub hB rfl 6 (tot l - 6)
  obtain ⟨m, hm⟩ : ∃ m, tot l = m + 7 := ⟨tot l - 7, by omega⟩
  have hd : (rd l).d = (l.drop 6).take (tot l - 6) := rfl
  have hdl : (rd l).d.length = m + 1 := by rw [hd, List.length_take, List.length_drop]; omega
  rw [← hd] at hsub
  obtain ⟨P, hP⟩ : ∃ P, P = rd l := ⟨_, rfl⟩
  rw [← hP] at hrh hsub hok hdl ⊢
  obtain ⟨com, sec, ap, fl, ct, d⟩ := P
  simp only at hrh hsub hok hdl ⊢
  rw [hm] at hs hrh ⊢
  have hv := fun W hB => valid_any com sec ap fl ct (some ⟨b, off + 6, none⟩) d (m + 1) (m + 1) W (Lib.hid hdl) hB (by unfold maxLen; omega)
  rw [hok] at hv
  have hmn : m + 7 ≤ n := by omega
  have hm4 : m < 4090 := by omega
  have g1 : decide ((n : Int) < (m : Int) + 7) = false := by simp; omega
  have g2 : decide (n < m + 7) = false := by simp; omega
  have hmc : (m : Int) + 7 ≤ (c : Int) := by omega
  have HL := Lib.hid hdl
  have V0 : b8 l 0 / 32 = 0 := by omega
  rw [V0] at hrh
  clear V0 hdl hd hm htot h3 h4 h5 h2 h hln hP hok hnc hcm hn hmn
  go_enter Try.func53, Try.ntmps53
  go_wp2_with fail
  refine hs.mono ?_
  rintro e w1 ⟨rfl, hb1⟩
  have hR1 := Cel.later hR0 hb1
  have bel1 := b0.trans (hb1.mono b0.size)
  have hB1 := (hb.below bel1).more bel1.size
  clear hs hb1 hR0 b0
  go_wp2_with fail
  refine (hrh _ hB1).mono ?_
  rintro e w2 ⟨rfl, hb2⟩
  have hR2 := Cel.later hR1 hb2
  have bel2 := bel1.trans (hb2.mono bel1.size)
  have hlt2 := hR2.lt
  clear hrh hb2 hR1 hB1 bel1
  obtain ⟨W3, hW3⟩ : ∃ W3, W3 = w2.alloc (.cells #[.bool com, .bool sec, .int .i64 ap, .int .i64 fl, .int .i64 ct, .slice (some ⟨b, off + 6, none⟩) (m + 1) (m + 1)] 56) := ⟨_, rfl⟩
  have hP3 : Cel W3 w2.heap.size 56 #[.bool com, .bool sec, .int .i64 ap, .int .i64 fl, .int .i64 ct, .slice (some ⟨b, off + 6, none⟩) (m + 1) (m + 1)] := by rw [hW3]; exact Cel.new _ _ _
  have bel3 : Below w2.heap.size w2 W3 := by rw [hW3]; exact bel_new _ _
  have hR3 := Cel.later hR2 bel3
  have bel3' := bel2.trans (bel3.mono bel2.size)
  have hB3 := (hb.below bel3').more bel3'.size
  have hv3 := hv W3 (hsub W3 hB3)
  clear hv bel2 hR2 bel3
  go_wp2_with fail
  rw [← hW3]
  refine hv3.mono ?_
  rintro e w4 ⟨rfl, hb4⟩
  have hR4 := Cel.later hR3 hb4
  have hP4 := Cel.later hP3 hb4
  have bel4 := bel3'.trans (hb4.mono bel3'.size)
  have hB4 := (hb.below bel4).more bel4.size
  clear hv3 hb4 hR3 hP3 bel3' hB3 hW3
  have hcl := clone_any (some ⟨b, off + 6, none⟩) d (m + 1) (m + 1) w4 HL (hsub w4 hB4) (fun h => nomatch h) (by omega)
  have p0 := hP4.cell 0
  have p1 := hP4.cell 1
  have p2 := hP4.cell 2
  have p3 := hP4.cell 3
  have p4 := hP4.cell 4
  have p5 := hP4.cell 5
  simp at p0 p1 p2 p3 p4 p5
  go_wp2_with fail
  refine hcl.mono ?_
  rintro e w5 ⟨v, rfl, hown, hb5⟩
  obtain ⟨A5, c5', rfl, _⟩ := hown.reads_len (n := m + 1) HL.out
  have hR5 := Cel.later hR4 hb5
  have hP5 := Cel.later hP4 hb5
  have bel5 := bel4.trans (hb5.mono bel4.size)
  have hlP := hP4.lt
  clear p0 p1 p2 p3 p4 p5 hcl hR4
  have p0 := hP5.cell 0
  have p1 := hP5.cell 1
  have p2 := hP5.cell 2
  have p3 := hP5.cell 3
  have p4 := hP5.cell 4
  have p5 := hP5.cell 5
  simp at p0 p1 p2 p3 p4 p5
  have pf := hP5.free 5
  have c0 := hR5.cell 0
  have c1 := hR5.cell 1
  have c2 := hR5.cell 2
  have c3 := hR5.cell 3
  have c4 := hR5.cell 4
  have c5 := hR5.cell 5
  simp at c0 c1 c2 c3 c4 c5
  have f0 := hR5.free 0
  have f1 := hR5.free 1
  have f2 := hR5.free 2
  have f3 := hR5.free 3
  have f4 := hR5.free 4
  have f5 := hR5.free 5
  have hne : w.heap.size ≠ w2.heap.size := by omega
  have hne' : w2.heap.size ≠ w.heap.size := by omega
  have hO6 : Only [w2.heap.size] w5 (w5.setCell ⟨w2.heap.size, 5, none⟩ (.slice A5 (m + 1) c5')) := (Only.refl _ _).put (.inl (by simp)) _
  have hR6 := hR5.only hO6 (by simpa using hne)
  have hw6 := hown.only hO6 (fun i hi => by have := (hown.lt i hi).1; simp; omega)
  have bel6 := bel5.trans (hO6.below bel5.size (by simp; omega))
  go_wp2
  refine bodyPost_ret (de_results rfl rfl rfl (putAll_cel hR6 com sec ap fl ct (.slice A5 (m + 1) c5'))) rfl ⟨_, rfl, ?_, putAll_below bel6 (Nat.le_refl _) _ _ _ _ _ _⟩
  have hz : w.heap.size ≤ w4.heap.size := bel4.size
  exact (hw6.only (putAll_only _ _ _ _ _ _ _ _) (fun i hi => by have := (hown.lt i hi).1; simp; omega)).more hz

theorem decode_any (a : Option Addr) (l : List Byte) (n c : Nat) (w : World) (hl : Hid (l.length = n)) (hb : Bs w w.heap.size a l) (hn : a = none → c = 0) (hnc : n ≤ c) (hcm : c ≤ maxLen) :
    Calls Try.prog 53 #[.slice a n c] w fun e w' => ∃ v, e = .returned (.tuple #[.agg #[.bool (deP l).com, .bool (deP l).sec, .int .i64 (deP l).ap, .int .i64 (deP l).fl, .int .i64 (deP l).ct, v], .int .i64 ((deN l : Nat) : Int), .int .i64 (deE l)]) ∧ Ow w' w.heap.size 5 v (deP l).d ∧ Below w.heap.size w w' := by
  by_cases h : siE l = 0
  · by_cases h2 : l.length < tot l
    · obtain ⟨e1, e2, e3⟩ := de_short h h2
      rw [e1, e2, e3]
      exact (decode_short a l n c w hl hb hn hnc hcm h h2).mono fun e w' ⟨k1, k2⟩ => ⟨_, k1, Ow_nil _ _, k2⟩
    · cases hok : (rd l).ok with
      | false =>
        obtain ⟨e1, e2, e3⟩ := de_form h h2 hok
        rw [e1, e2, e3]
        exact (decode_form a l n c w hl hb hn hnc hcm h h2 hok).mono fun e w' ⟨k1, k2⟩ => ⟨_, k1, Ow_nil _ _, k2⟩
      | true =>
        obtain ⟨e1, e2, e3⟩ := de_good h h2 hok
        rw [e1, e2, e3]
        exact decode_good a l n c w hl hb hn hnc hcm h h2 hok
  · obtain ⟨e1, e2, e3⟩ := de_err h
    rw [e1, e2, e3]
    exact (decode_err a l n c w hl hb hn hnc hcm h).mono fun e w' ⟨k1, k2⟩ => ⟨_, k1, Ow_nil _ _, k2⟩
end Go.Proofs.Ytcmonalnhdodmaa.Pac
