/-
  Law18d ArgAgg Leaf ArgTm, one after another.
-/
import Derived.Test.YtmkmojhhfbokdaaTmfs3
import Derived.OpenShut
import Derived.ChangeSlices
import Derived.Deep.Slices
import Derived.Deep.Fields
import Derived.WideShapes
import Derived.Test.YtmkmojhhfbokdaaRows

/-
  The walk of the law TmframeDetects.
-/
namespace Go.Proofs.Ytmkmojhhfbokdaa.Tmf
open Go.RowKit Go.Proofs.Ytmkmojhhfbokdaa.Pac
open Clc (Cw)

theorem flip_near (s : List Byte) (i j : Nat) (hi : i < s.length) (hj : j < 8) : Near s (s.set i (s[i] ^^^ (1#8 <<< j))) (8 * i + (7 - j)) 16 ∧ s.set i (s[i] ^^^ (1#8 <<< j)) ≠ s := by
  obtain ⟨p, hp⟩ : ∃ p, p = 8 * i + (7 - j) := ⟨_, rfl⟩
  have e1 : p / 8 = i := by omega
  have e2 : 7 - p % 8 = j := by omega
  have h := Near.flip (s := s) (x := s) (i := p) (k := 0) ⟨rfl, fun _ _ => rfl⟩ (by omega)
  simp only [Nat.add_zero, e1, e2] at h
  rw [← hp]
  refine ⟨⟨h.1, fun q hq => h.2 q (by omega)⟩, fun e => ?_⟩
  have h2 := congrArg (fun t : List Byte => t[i]?) e
  simp only [List.getElem?_set, if_true, hi, List.getElem?_eq_getElem hi, Option.some.injEq] at h2
  have h3 : (1#8 <<< j : BitVec 8) = 0#8 := by
    have := congrArg (fun t => s[i] ^^^ t) h2
    simpa [← BitVec.xor_assoc] using this
  have : ∀ t : Fin 8, (1#8 <<< t.val : BitVec 8) ≠ 0#8 := by decide
  exact this ⟨j, hj⟩ h3
theorem mrun_make_bytes (N : Nat) (hN : N ≤ 1099511627776) (w : World) :
    (Instr.makeSlice 22 (.int .i64 0) (.int .i64 (N : Int))).run Try.prog w = .ok (.slice (some ⟨w.heap.size, 0, none⟩) 0 N) (w.alloc (.cells (madeCells #[.int .u8 0] N) 5)) := by
  obtain ⟨ht, _, i, hi, hz, hs, hb⟩ := is_bytes
  have hr := run_make (P := Try.prog) w 22 5 i (.int .u8 0) ht hi hz .i64 .i64 0 N (Int.le_refl _) (by omega) (by rw [hb]; omega) (by omega)
  simp only [Int.toNat_natCast, hs, Nat.mul_one, Int.toNat_zero] at hr
  exact hr
theorem Ow_made (w : World) (base N : Nat) (hb : base ≤ w.heap.size) (hN : N ≤ 1099511627776) : Ow (w.alloc (.cells (madeCells #[.int .u8 0] N) 5)) base 5 (.slice (some ⟨w.heap.size, 0, none⟩) 0 N) [] :=
  World.ownsRow_made w _ N hb (by simp only [maxLen]; omega) (by rw [size_madeCells]; simp)

set_option maxHeartbeats 4000000 in
theorem tmframeDetects_no (cr ch ma ct fi : Int) (a : Option Addr) (l : List Byte) (n c : Nat) (wc : Int) (lk wt rt : Bool) (wb wn : Int) (bit : Int) (w : World) (hD : Rd w a l n c) (hok : Fr.ok ⟨cr, ch, ma, ct, fi, l, ⟨wc, lk, wt, rt, wb, wn⟩⟩ = false) :
    Calls Try.prog 7 #[.agg #[.int .i64 cr, .int .i64 ch, .int .i64 ma, .int .i64 ct, .int .i64 fi, .slice a n c, .int .i64 wc, .bool lk, .bool wt, .bool rt, .int .i64 wb, .int .i64 wn], .int .i64 bit] w fun e w' => e = .returned (.bool true) ∧ Below w.heap.size w w' := by
  have b0 := bel_new w (.cells #[.int .i64 cr, .int .i64 ch, .int .i64 ma, .int .i64 ct, .int .i64 fi, .slice a n c, .int .i64 wc, .bool lk, .bool wt, .bool rt, .int .i64 wb, .int .i64 wn] 26)
  have p0 := Cel.new w 26 #[.int .i64 cr, .int .i64 ch, .int .i64 ma, .int .i64 ct, .int .i64 fi, .slice a n c, .int .i64 wc, .bool lk, .bool wt, .bool rt, .int .i64 wb, .int .i64 wn]
  have hm : n ≤ maxLen := Nat.le_trans hD.le hD.max
  have x1 := fun W (h : Rd W a l n c) => mencode_any cr ch ma ct fi a l n c wc lk wt rt wb wn W (Lib.hid h.len) h.bs h.nil hm
  simp only [Fr.enc_no hok, Fr.err_no hok] at x1
  have k0 := hD.later b0
  clear hD hm hok
  have m0 := p0.cell 0
  have m1 := p0.cell 1
  have m2 := p0.cell 2
  have m3 := p0.cell 3
  have m4 := p0.cell 4
  have m5 := p0.cell 5
  have m6 := p0.cell 6
  have m7 := p0.cell 7
  have m8 := p0.cell 8
  have m9 := p0.cell 9
  have m10 := p0.cell 10
  have m11 := p0.cell 11
  simp at m0 m1 m2 m3 m4 m5 m6 m7 m8 m9 m10 m11
  go_enter Try.func7, Try.ntmps7
  go_wp2_with fail
  refine (x1 _ k0).mono ?_
  rintro e w1 ⟨v1, rfl, o1, h1⟩
  obtain ⟨A1, c1, rfl, r1⟩ := Rd.of o1 (n := 0) rfl
  have b1 := b0.trans (h1.mono b0.size)
  clear x1 h1 p0 b0 o1 k0 r1 m0 m1 m2 m3 m4 m5 m6 m7 m8 m9 m10 m11
  go_wp2_with fail
  refine (lives_any _).mono ?_
  rintro e w3 ⟨rfl, h3⟩
  go_wp2
  go_ret
  exact ⟨rfl, b1.trans (h3.mono b1.size)⟩

set_option maxHeartbeats 4000000 in
theorem tmframeDetects_out (cr ch ma ct fi : Int) (a : Option Addr) (l : List Byte) (n c : Nat) (wc : Int) (lk wt rt : Bool) (wb wn : Int) (bit : Int) (w : World) (hD : Rd w a l n c) (hok : Fr.ok ⟨cr, ch, ma, ct, fi, l, ⟨wc, lk, wt, rt, wb, wn⟩⟩ = true) (hbit : bit < 0 ∨ 8 * ((n : Int) + 12) ≤ bit) :
    Calls Try.prog 7 #[.agg #[.int .i64 cr, .int .i64 ch, .int .i64 ma, .int .i64 ct, .int .i64 fi, .slice a n c, .int .i64 wc, .bool lk, .bool wt, .bool rt, .int .i64 wb, .int .i64 wn], .int .i64 bit] w fun e w' => e = .returned (.bool true) ∧ Below w.heap.size w w' := by
  have b0 := bel_new w (.cells #[.int .i64 cr, .int .i64 ch, .int .i64 ma, .int .i64 ct, .int .i64 fi, .slice a n c, .int .i64 wc, .bool lk, .bool wt, .bool rt, .int .i64 wb, .int .i64 wn] 26)
  have p0 := Cel.new w 26 #[.int .i64 cr, .int .i64 ch, .int .i64 ma, .int .i64 ct, .int .i64 fi, .slice a n c, .int .i64 wc, .bool lk, .bool wt, .bool rt, .int .i64 wb, .int .i64 wn]
  have hm : n ≤ maxLen := Nat.le_trans hD.le hD.max
  have x1 := fun W (h : Rd W a l n c) => mencode_any cr ch ma ct fi a l n c wc lk wt rt wb wn W (Lib.hid h.len) h.bs h.nil hm
  have hEl := Fr.enc_len hok
  simp only [hD.len] at hEl
  have hn7 := (Fr.ok_fits hok).2.2.1
  simp only at hn7
  rw [hD.len] at hn7
  simp only [Fr.err_yes hok] at x1
  obtain ⟨E, hE⟩ : ∃ E, E = Fr.enc ⟨cr, ch, ma, ct, fi, l, ⟨wc, lk, wt, rt, wb, wn⟩⟩ := ⟨_, rfl⟩
  simp only [← hE] at x1 hEl
  obtain ⟨M, hM⟩ : ∃ M, M = n + 12 := ⟨_, rfl⟩
  rw [← hM] at hEl
  have hMi1 : (M : Int) ≤ 1024 := by omega
  have hMi0 : (0 : Int) < (M : Int) := by omega
  have hbit2 : bit < 0 ∨ 8 * (M : Int) ≤ bit := by omega
  have HEl := Lib.hid hEl
  have k0 := hD.later b0
  clear hD hm hok hE hM hEl hn7 hbit
  have m0 := p0.cell 0
  have m1 := p0.cell 1
  have m2 := p0.cell 2
  have m3 := p0.cell 3
  have m4 := p0.cell 4
  have m5 := p0.cell 5
  have m6 := p0.cell 6
  have m7 := p0.cell 7
  have m8 := p0.cell 8
  have m9 := p0.cell 9
  have m10 := p0.cell 10
  have m11 := p0.cell 11
  simp at m0 m1 m2 m3 m4 m5 m6 m7 m8 m9 m10 m11
  by_cases hneg : bit < 0
  · have t1 : decide (bit < 0) = true := decide_eq_true hneg
    clear hbit2
    go_enter Try.func7, Try.ntmps7
    go_wp2_with fail
    refine (x1 _ k0).mono ?_
    rintro e w1 ⟨v1, rfl, o1, h1⟩
    obtain ⟨A1, c1, rfl, r1⟩ := Rd.of o1 (n := M) HEl.out
    have b1 := b0.trans (h1.mono b0.size)
    clear x1 h1 p0 b0 o1 k0 m0 m1 m2 m3 m4 m5 m6 m7 m8 m9 m10 m11
    go_wp2_with fail
    refine (lives_any _).mono ?_
    rintro e w3 ⟨rfl, h3⟩
    go_wp2
    go_ret
    exact ⟨rfl, b1.trans (h3.mono b1.size)⟩

  · have t1 : decide (bit < 0) = false := decide_eq_false hneg
    have hge : 8 * (M : Int) ≤ bit := by omega
    have t2 : decide (8 * (M : Int) ≤ bit) = true := decide_eq_true hge
    clear hbit2
    go_enter Try.func7, Try.ntmps7
    go_wp2_with fail
    refine (x1 _ k0).mono ?_
    rintro e w1 ⟨v1, rfl, o1, h1⟩
    obtain ⟨A1, c1, rfl, r1⟩ := Rd.of o1 (n := M) HEl.out
    have b1 := b0.trans (h1.mono b0.size)
    clear x1 h1 p0 b0 o1 k0 m0 m1 m2 m3 m4 m5 m6 m7 m8 m9 m10 m11
    go_wp2_with fail
    refine (lives_any _).mono ?_
    rintro e w3 ⟨rfl, h3⟩
    go_wp2
    go_ret
    exact ⟨rfl, b1.trans (h3.mono b1.size)⟩

set_option maxHeartbeats 4000000 in
theorem tmframeDetects_in (cr ch ma ct fi : Int) (a : Option Addr) (l : List Byte) (n c : Nat) (wc : Int) (lk wt rt : Bool) (wb wn : Int) (K0 : Nat) (w : World) (hD : Rd w a l n c) (hok : Fr.ok ⟨cr, ch, ma, ct, fi, l, ⟨wc, lk, wt, rt, wb, wn⟩⟩ = true) (hK : K0 < 8 * (n + 12)) :
    Calls Try.prog 7 #[.agg #[.int .i64 cr, .int .i64 ch, .int .i64 ma, .int .i64 ct, .int .i64 fi, .slice a n c, .int .i64 wc, .bool lk, .bool wt, .bool rt, .int .i64 wb, .int .i64 wn], .int .i64 (K0 : Int)] w fun e w' => e = .returned (.bool true) ∧ Below w.heap.size w w' := by
  have b0 := bel_new w (.cells #[.int .i64 cr, .int .i64 ch, .int .i64 ma, .int .i64 ct, .int .i64 fi, .slice a n c, .int .i64 wc, .bool lk, .bool wt, .bool rt, .int .i64 wb, .int .i64 wn] 26)
  have p0 := Cel.new w 26 #[.int .i64 cr, .int .i64 ch, .int .i64 ma, .int .i64 ct, .int .i64 fi, .slice a n c, .int .i64 wc, .bool lk, .bool wt, .bool rt, .int .i64 wb, .int .i64 wn]
  have hm : n ≤ maxLen := Nat.le_trans hD.le hD.max
  have x1 := fun W (h : Rd W a l n c) => mencode_any cr ch ma ct fi a l n c wc lk wt rt wb wn W (Lib.hid h.len) h.bs h.nil hm
  have hEl := Fr.enc_len hok
  simp only [hD.len] at hEl
  have hn7 := (Fr.ok_fits hok).2.2.1
  simp only at hn7
  rw [hD.len] at hn7
  have hnear := fun (x : List Byte) (i : Nat) (h : Near (Fr.enc ⟨cr, ch, ma, ct, fi, l, ⟨wc, lk, wt, rt, wb, wn⟩⟩) x i 16) (hx : x ≠ Fr.enc ⟨cr, ch, ma, ct, fi, l, ⟨wc, lk, wt, rt, wb, wn⟩⟩) => dec_near hok h hx
  simp only [Fr.err_yes hok] at x1
  obtain ⟨E, hE⟩ : ∃ E, E = Fr.enc ⟨cr, ch, ma, ct, fi, l, ⟨wc, lk, wt, rt, wb, wn⟩⟩ := ⟨_, rfl⟩
  simp only [← hE] at x1 hEl hnear
  obtain ⟨M, hM⟩ : ∃ M, M = n + 12 := ⟨_, rfl⟩
  rw [← hM] at hEl hK
  obtain ⟨I, hI⟩ : ∃ I, I = K0 / 8 := ⟨_, rfl⟩
  obtain ⟨J, hJ⟩ : ∃ J, J = K0 % 8 := ⟨_, rfl⟩
  have hJ8 : J < 8 := by omega
  have hIM : I < M := by omega
  have hIE : I < E.length := by omega
  obtain ⟨y, hy⟩ : ∃ y, y = E[I] := ⟨_, rfl⟩
  obtain ⟨Z, hZ⟩ : ∃ Z, Z = y ^^^ (1#8 <<< J) := ⟨_, rfl⟩
  have hfl := flip_near E I J hIE hJ8
  rw [← hy, ← hZ] at hfl
  have h5 := hnear _ _ hfl.1 hfl.2
  obtain ⟨X, hX⟩ : ∃ X, X = E.set I Z := ⟨_, rfl⟩
  rw [← hX] at h5
  have hXl : X.length = M := by rw [hX, List.length_set]; exact hEl
  have x2 := fun W A k (h : Rd W A X M k) => mdecode_any A X M k W h
  rw [de_else (l := X) (by rw [h5]; decide), h5] at x2
  simp only [noFr, Clc.noCw] at x2
  have hEy : E[I]? = some y := by rw [hy]; exact List.getElem?_eq_getElem hIE
  have fx := flip_byte y J hJ8
  rw [← hZ] at fx
  have t1 : decide ((K0 : Int) < 0) = false := by simp
  have t2 : decide (8 * (M : Int) ≤ (K0 : Int)) = false := by simp; omega
  have t3 : (K0 : Int) / 8 = (I : Int) := by omega
  have t4 : (K0 : Int).tdiv 8 = (I : Int) := by rw [Int.tdiv_eq_ediv_of_nonneg (by omega)]; omega
  have t5 : (K0 : Int) % 8 = (J : Int) := by omega
  have t6 : (K0 : Int).tmod 8 = (J : Int) := by rw [Int.tmod_eq_emod_of_nonneg (by omega)]; omega
  have t7 : (I : Int) < (M : Int) := by omega
  have hMi1 : (M : Int) ≤ 1024 := by omega
  have hMi0 : (0 : Int) < (M : Int) := by omega
  have hmk := mrun_make_bytes M (by omega)
  have hM2 : M ≤ 1024 := by omega
  have hKi : (K0 : Int) < 8 * (M : Int) := by omega
  have HEl := Lib.hid hEl
  have HXl := Lib.hid hXl
  have HX := Lib.hid hX
  have HEy := Lib.hid hEy
  have HZ := Lib.hid hZ
  have k0 := hD.later b0
  clear hD hm hok hE hM hEl hn7 hnear hfl h5 hX hXl hEy hy hZ hIE hI hJ hK
  have m0 := p0.cell 0
  have m1 := p0.cell 1
  have m2 := p0.cell 2
  have m3 := p0.cell 3
  have m4 := p0.cell 4
  have m5 := p0.cell 5
  have m6 := p0.cell 6
  have m7 := p0.cell 7
  have m8 := p0.cell 8
  have m9 := p0.cell 9
  have m10 := p0.cell 10
  have m11 := p0.cell 11
  simp at m0 m1 m2 m3 m4 m5 m6 m7 m8 m9 m10 m11
  go_enter Try.func7, Try.ntmps7
  go_wp2_with fail
  refine (x1 _ k0).mono ?_
  rintro e w1 ⟨v1, rfl, o1, h1⟩
  obtain ⟨A1, c1, rfl, r1⟩ := Rd.of o1 (n := M) HEl.out
  have b1 := b0.trans (h1.mono b0.size)
  clear x1 h1 p0 b0 o1 k0 m0 m1 m2 m3 m4 m5 m6 m7 m8 m9 m10 m11
  go_wp2_with (at_builtin; refine wpList_app _ is_bytes rfl (.tmp 32) (.tmp 33) rfl (m := []) rfl (Ow_made w1 w1.heap.size M (Nat.le_refl _) (by omega)) (l := E) (A := A1) (c := c1) (by rw [HEl.out]; rfl) (r1.later (bel_new w1 _)).bs r1.nil (by rw [HEl.out]; simp; omega) (bel_new w1 _).size ?_; intro v2 w2 hown2 hgr2; have bel2 := (bel_new w1 (.cells (madeCells #[.int .u8 0] M) 5)).grown hgr2 (bel_new w1 _).size (Ow_made w1 w1.heap.size M (Nat.le_refl _) (by omega)).base_le; rw [List.nil_append] at hown2; obtain ⟨A2, c2, rfl, _⟩ := hown2.reads_len (n := M) HEl.out; obtain ⟨g, rfl, hg⟩ : ∃ g, A2 = some ⟨g, 0, none⟩ ∧ w1.heap.size ≤ g := (by
      rcases hown2.2 with ⟨e1, e2⟩ | ⟨g, cap', cur, e1, e2, _⟩
      · injection e1 with _ e1b; omega
      · injection e1 with e1; exact ⟨g, e1, e2⟩); have hown' : w2.ownsRow w1.heap.size 5 1 (.slice (some ⟨g, 0, none⟩) M c2) M (E.map B8) := (by have h := hown2; unfold Ow at h; rw [HEl.out] at h; exact h); have hc : w2.cell? ⟨g, I, none⟩ = some (.int .u8 (y.toNat : Int)) := (by rw [hown'.cellAt _ (by omega)]; have := HEy.out; simp [this]); have hf : w2.frozen? ⟨g, I, none⟩ = false := hown'.frozenAt _)
  obtain ⟨W7, hW7⟩ : ∃ W7, W7 = w2.setCell ⟨g, I, none⟩ (.int .u8 (Z.toNat : Int)) := ⟨_, rfl⟩
  have hst := hown'.stored I (B8 Z)
  have hown7 : Ow W7 w1.heap.size 5 (.slice (some ⟨g, 0, none⟩) M c2) X := by
    rw [hW7]
    unfold Ow
    rw [HXl.out, HX.out, List.map_set]
    exact hst.1
  have bel7 : Below w1.heap.size w1 W7 := by
    rw [hW7]
    exact bel2.grown hst.2 bel2.size (fun k hk => by injection hk with hk; omega)
  obtain ⟨A7, c7, e7, r7⟩ := Rd.of hown7 HXl.out
  injection e7 with e71 _ e73
  subst e71 e73
  rw [← hW7]
  have b7 := b1.trans (bel7.mono b1.size)
  clear hst hown' hc hf hown2 hgr2 bel2 hown7 bel7 hW7 r1 b1
  refine (x2 _ _ _ r7).mono ?_
  rintro e w8 ⟨v8, rfl, o8, h8⟩
  obtain ⟨A8, c8, rfl, _⟩ := Rd.of o8 (n := 0) rfl
  have b8 := b7.trans (h8.mono b7.size)
  obtain ⟨W8, hW8⟩ : ∃ W8, W8 = w8.alloc (.cells #[.int .i64 0, .int .i64 0, .int .i64 0, .int .i64 0, .int .i64 0, .slice A8 0 c8, .int .i64 0, .bool false, .bool false, .bool false, .int .i64 0, .int .i64 0] 26) := ⟨_, rfl⟩
  have b9 : Below w.heap.size w W8 := by rw [hW8]; exact b8.alloc b8.size _
  clear x2 o8 h8 b7 r7 b8
  go_upto_region 8 with fail
  rw [← hW8]
  clear hW8
  go_wp2_with fail
  refine (lives_any _).mono ?_
  rintro e w9 ⟨rfl, h9⟩
  go_wp2
  go_ret
  exact ⟨rfl, b9.trans (h9.mono b9.size)⟩

theorem tmframeDetects_walk (cr ch ma ct fi : Int) (a : Option Addr) (l : List Byte) (n c : Nat) (wc : Int) (lk wt rt : Bool) (wb wn : Int) (bit : Int) (w : World) (hD : Rd w a l n c) :
    Calls Try.prog 7 #[.agg #[.int .i64 cr, .int .i64 ch, .int .i64 ma, .int .i64 ct, .int .i64 fi, .slice a n c, .int .i64 wc, .bool lk, .bool wt, .bool rt, .int .i64 wb, .int .i64 wn], .int .i64 bit] w fun e w' => e = .returned (.bool true) ∧ Below w.heap.size w w' := by
  cases hok : Fr.ok ⟨cr, ch, ma, ct, fi, l, ⟨wc, lk, wt, rt, wb, wn⟩⟩ with
  | false => exact tmframeDetects_no cr ch ma ct fi a l n c wc lk wt rt wb wn bit w hD hok
  | true =>
    by_cases hb : bit < 0 ∨ 8 * ((n : Int) + 12) ≤ bit
    · exact tmframeDetects_out cr ch ma ct fi a l n c wc lk wt rt wb wn bit w hD hok hb
    · obtain ⟨K0, rfl⟩ := Int.eq_ofNat_of_zero_le (show 0 ≤ bit by omega)
      exact tmframeDetects_in cr ch ma ct fi a l n c wc lk wt rt wb wn K0 w hD hok (by omega)
end Go.Proofs.Ytmkmojhhfbokdaa.Tmf

/-
  An argument opened: a struct by value whose fields are one cell each, at every field. No dump is imported.
-/
namespace Go.Proofs.Ytmkmojhhfbokdaa
open Go.RowKit Go.ChangeShapes Go.WideShapes Go.Deep

section
variable {H : Type} {enc : TypeId × Value → H} {P : Program} {w : World} {base : Nat} {spare : Nat → Bool} {held : Bool}

theorem open_agg_any {r : Reach} {b0 : Nat} {t : TypeId} {fs : Array Field} {v : Value} {d : DataW H} {ps : List MemPlace} (hs : P.underlying t = some (.struct fs))
    (hone : ∀ (i : Nat) (f : Field), fs[i]? = some f → f.offset = i ∧ P.cellsOf f.type = 1) (hC : P.cellsOf t = fs.size) (hv : Value.okWide P w r b0 t v) (h : DataW.Trod enc P w base spare held t v d ps) :
    ∃ cs : Array Value, v = .agg cs ∧ cs.size = fs.size ∧ ∃ n, ∀ (j : Nat) (f : Field), fs[j]? = some f → ∃ y, DataW.trod enc P w base spare held n f.type [cs.getD j undef] = some y := by
  obtain ⟨cs, rfl, hsz⟩ := okWide_struct hs hv
  obtain ⟨fuel, hf⟩ := h
  obtain ⟨xs, n, _, _, _, hxl, hg⟩ := DataW.trod_struct hs hf
  have hcl : (Value.agg cs).cells.toList = cs.toList := rfl
  refine ⟨cs, rfl, hsz.trans hC, n, fun j f hj => ?_⟩
  have hjl : j < fs.size := (Array.getElem?_eq_some_iff.1 hj).1
  obtain ⟨ho, hc1⟩ := hone j f hj
  have g := hg j f hj
  rw [hcl, ho, hc1, take1_drop cs.toList j undef (by simp; omega)] at g
  refine ⟨xs[j]'(by omega), ?_⟩
  have e : cs.toList.getD j undef = cs.getD j undef := by
    rw [List.getD_eq_getElem?_getD, Array.getElem?_toList, Array.getD_eq_getD_getElem?]
  rw [← e, g]
  exact List.getElem?_eq_getElem (by omega)

/-- a slice of bytes in a field -/
theorem open_bytes_cell {t e : TypeId} {n : Nat} {v : Value} {y : DataW H × List MemPlace} (ht : P.underlying t = some (.slice e)) (he : P.underlying e = some (.int .u8)) (hc : P.cellsOf e = 1) (h : DataW.trod enc P w base (fun _ => true) held n t [v] = some y) :
    ∃ a l c, v = .slice a l.length c ∧ Bs w w.heap.size a l ∧ (a = none → c = 0) ∧ l.length ≤ c ∧ c ≤ maxLen := by
  have hrow : ∃ a n c zs, v = .slice a n c ∧ IsRow .u8 w a n c zs := by
    rcases open_ints ht he hc h with ⟨hcs, _⟩ | ⟨x, n', c', zs, hcs, _, hl', hm'', hz, _, hcell, hwz⟩
    · injection hcs with hcs
      exact ⟨none, 0, 0, [], hcs, .inl ⟨rfl, rfl, rfl, rfl⟩⟩
    · injection hcs with hcs
      exact ⟨some x, n', c', zs, hcs, .inr ⟨x, rfl, hl', hm'', by simpa using hz, hcell, hwz⟩⟩
  obtain ⟨A, n', c', zs, h3, hr⟩ := hrow
  obtain ⟨B, rfl, hb, hn, hlc, hcm⟩ := hr.bytes
  exact ⟨A, B, c', h3, hb, hn, hlc, hcm⟩
/-- six cells -/
theorem array6 {cs : Array Value} (h : cs.size = 6) : cs = #[cs.getD 0 undef, cs.getD 1 undef, cs.getD 2 undef, cs.getD 3 undef, cs.getD 4 undef, cs.getD 5 undef] := by
  obtain ⟨l⟩ := cs
  match l, h with
  | [x0, x1, x2, x3, x4, x5], _ => rfl
end
end Go.Proofs.Ytmkmojhhfbokdaa

/-
  Slices of structs whose fields may be structs themselves: the cells of each element, and what each cell of one field holds, however deep. No dump is imported.
-/
namespace Go.Proofs.Ytmkmojhhfbokdaa
open Go.RowKit Go.ChangeShapes Go.WideShapes Go.Deep

section
variable {H : Type} {enc : TypeId × Value → H} {P : Program} {w : World} {base : Nat} {spare : Nat → Bool} {held : Bool}

/-- cell j of whatever reads as a value of type e reads as a value of type t -/
def Leaf (enc : TypeId × Value → H) (P : Program) (w : World) (base : Nat) (spare : Nat → Bool) (held : Bool) (e : TypeId) (j : Nat) (t : TypeId) : Prop :=
  ∀ (n : Nat) (cs : List Value) (x : DataW H × List MemPlace), DataW.trod enc P w base spare held n e cs = some x → ∃ m y, DataW.trod enc P w base spare held m t [cs.getD j undef] = some y
theorem Leaf.one {e : TypeId} {fs : Array Field} {i : Nat} {f : Field} (he : P.underlying e = some (.struct fs)) (hi : fs[i]? = some f) (hc : P.cellsOf f.type = 1) (ho : f.offset < P.cellsOf e) : Leaf enc P w base spare held e f.offset f.type := by
  intro n cs x h
  obtain ⟨xs, m, _, _, hl, hxl, hg⟩ := DataW.trod_struct he h
  have g := hg i f hi
  have hil : i < fs.size := (Array.getElem?_eq_some_iff.1 hi).1
  rw [hc, take1_drop cs f.offset undef (by omega)] at g
  exact ⟨m, xs[i]'(by omega), by rw [g]; exact List.getElem?_eq_getElem (by omega)⟩
theorem Leaf.sub {e t : TypeId} {fs : Array Field} {i k : Nat} {f : Field} (he : P.underlying e = some (.struct fs)) (hi : fs[i]? = some f) (hk : k < P.cellsOf f.type) (h : Leaf enc P w base spare held f.type k t) : Leaf enc P w base spare held e (f.offset + k) t := by
  intro n cs x hx
  obtain ⟨xs, m, _, _, hl, hxl, hg⟩ := DataW.trod_struct he hx
  have g := hg i f hi
  have hil : i < fs.size := (Array.getElem?_eq_some_iff.1 hi).1
  obtain ⟨m', y, hy⟩ := h m _ (xs[i]'(by omega)) (by rw [g]; exact List.getElem?_eq_getElem (by omega))
  refine ⟨m', y, ?_⟩
  have e1 : ((cs.drop f.offset).take (P.cellsOf f.type)).getD k undef = cs.getD (f.offset + k) undef := by
    rw [List.getD_eq_getElem?_getD, List.getD_eq_getElem?_getD, List.getElem?_take, if_pos hk, List.getElem?_drop]
  rw [← e1]
  exact hy
/-- the elements of a slice, cell by cell -/
theorem open_cells {t e : TypeId} {fuel C : Nat} {cs : List Value} {x : DataW H × List MemPlace} (ht : P.underlying t = some (.slice e)) (hC : P.cellsOf e = C) (h : DataW.trod enc P w base spare held fuel t cs = some x) :
    cs = [.slice none 0 0] ∨ ∃ (a : Addr) (len cap : Nat) (L : Nat → List Value), cs = [.slice (some a) len cap] ∧ len ≤ cap ∧ cap ≤ maxLen ∧
      ∀ i, i < len → (∀ j, j < C → w.cell? (a.add (i * C + j)) = some ((L i).getD j undef)) ∧ ∃ n y, DataW.trod enc P w base spare held n e (L i) = some y := by
  rcases open_slice ht h with ⟨h0, _⟩ | ⟨a, len, cap, m, n, D, Pl, rfl, hb, hl, hm, hmm, rfl, hx⟩
  · exact .inl h0
  have hlm : len ≤ m := by rw [hmm]; split <;> omega
  have each : ∀ i, i < len → ∃ L : List Value, (∀ j, j < C → w.cell? (a.add (i * C + j)) = some (L.getD j undef)) ∧ ∃ n y, DataW.trod enc P w base spare held n e L = some y := by
    intro i hi
    obtain ⟨cs', h1, h2⟩ := hx i (by omega)
    rw [hC] at h1
    obtain ⟨_, hlen, hcell⟩ := World.cells?_some h1
    refine ⟨cs', fun j hj => ?_, _, _, h2⟩
    have c := hcell j hj
    rw [add_add] at c
    rw [c, List.getD_eq_getElem?_getD, List.getElem?_eq_getElem (by omega)]
    rfl
  obtain ⟨L, hL⟩ := choose_lt each
  exact .inr ⟨a, len, cap, L, rfl, hl, hm, hL⟩
end
end Go.Proofs.Ytmkmojhhfbokdaa

/-
  An argument opened: an api.TmFrame by value, the control word in it.
-/
namespace Go.Proofs.Ytmkmojhhfbokdaa
open Go.RowKit Go.ChangeShapes Go.WideShapes Go.Deep

section
variable {H : Type} {enc' : TypeId × Value → H} {w : World} {base : Nat} {held : Bool}
abbrev LeafTm (enc' : TypeId × Value → H) (w : World) (base : Nat) (held : Bool) (j : Nat) (t : TypeId) : Prop := Leaf enc' Try.prog w base (fun _ => true) held 26 j t
abbrev LeafTw (enc' : TypeId × Value → H) (w : World) (base : Nat) (held : Bool) (j : Nat) (t : TypeId) : Prop := Leaf enc' Try.prog w base (fun _ => true) held 24 j t
set_option maxRecDepth 100000 in
theorem tw0 : LeafTw enc' w base held 0 3 := Leaf.one (i := 0) Try.underlying24 rfl (by kernel_rfl) (of_decide_eq_true (by kernel_rfl))
set_option maxRecDepth 100000 in
theorem tw1 : LeafTw enc' w base held 1 4 := Leaf.one (i := 1) Try.underlying24 rfl (by kernel_rfl) (of_decide_eq_true (by kernel_rfl))
set_option maxRecDepth 100000 in
theorem tw2 : LeafTw enc' w base held 2 4 := Leaf.one (i := 2) Try.underlying24 rfl (by kernel_rfl) (of_decide_eq_true (by kernel_rfl))
set_option maxRecDepth 100000 in
theorem tw3 : LeafTw enc' w base held 3 4 := Leaf.one (i := 3) Try.underlying24 rfl (by kernel_rfl) (of_decide_eq_true (by kernel_rfl))
set_option maxRecDepth 100000 in
theorem tw4 : LeafTw enc' w base held 4 3 := Leaf.one (i := 4) Try.underlying24 rfl (by kernel_rfl) (of_decide_eq_true (by kernel_rfl))
set_option maxRecDepth 100000 in
theorem tw5 : LeafTw enc' w base held 5 3 := Leaf.one (i := 5) Try.underlying24 rfl (by kernel_rfl) (of_decide_eq_true (by kernel_rfl))
set_option maxRecDepth 100000 in
theorem tm0 : LeafTm enc' w base held 0 3 := Leaf.one (i := 0) Try.underlying26 rfl (by kernel_rfl) (of_decide_eq_true (by kernel_rfl))
set_option maxRecDepth 100000 in
theorem tm1 : LeafTm enc' w base held 1 3 := Leaf.one (i := 1) Try.underlying26 rfl (by kernel_rfl) (of_decide_eq_true (by kernel_rfl))
set_option maxRecDepth 100000 in
theorem tm2 : LeafTm enc' w base held 2 3 := Leaf.one (i := 2) Try.underlying26 rfl (by kernel_rfl) (of_decide_eq_true (by kernel_rfl))
set_option maxRecDepth 100000 in
theorem tm3 : LeafTm enc' w base held 3 3 := Leaf.one (i := 3) Try.underlying26 rfl (by kernel_rfl) (of_decide_eq_true (by kernel_rfl))
set_option maxRecDepth 100000 in
theorem tm4 : LeafTm enc' w base held 4 3 := Leaf.one (i := 4) Try.underlying26 rfl (by kernel_rfl) (of_decide_eq_true (by kernel_rfl))
set_option maxRecDepth 100000 in
theorem tm5 : LeafTm enc' w base held 5 22 := Leaf.one (i := 5) Try.underlying26 rfl (by kernel_rfl) (of_decide_eq_true (by kernel_rfl))
set_option maxRecDepth 100000 in
theorem tm6 {j : Nat} {t : TypeId} (hj : j < 6) (h : LeafTw enc' w base held j t) : LeafTm enc' w base held (6 + j) t :=
  Leaf.sub (i := 6) (k := j) (enc := enc') (P := Try.prog) (w := w) (base := base) (spare := fun _ => true) (held := held) (t := t) Try.underlying26 rfl (Nat.lt_of_lt_of_eq hj (by kernel_rfl)) h

theorem array12 {cs : Array Value} (h : cs.size = 12) : cs = #[cs.toList.getD 0 undef, cs.toList.getD 1 undef, cs.toList.getD 2 undef, cs.toList.getD 3 undef, cs.toList.getD 4 undef, cs.toList.getD 5 undef, cs.toList.getD 6 undef, cs.toList.getD 7 undef, cs.toList.getD 8 undef, cs.toList.getD 9 undef, cs.toList.getD 10 undef, cs.toList.getD 11 undef] := by
  obtain ⟨l⟩ := cs
  match l, h with
  | [x0, x1, x2, x3, x4, x5, x6, x7, x8, x9, x10, x11], _ => rfl
set_option maxRecDepth 100000 in
theorem open_tmframe {r : Reach} {b0 : Nat} {v : Value} {d : DataW H} {ps : List MemPlace} (hval : Value.okWide Try.prog w r b0 26 v)
    (hd : DataW.Trod enc' Try.prog w base (fun _ => true) held 26 v d ps) :
    ∃ (cr ch ma ct fi : Int) (a : Option Addr) (l : List Byte) (c : Nat) (wc : Int) (lk wt rt : Bool) (wb wn : Int), v = .agg #[.int .i64 cr, .int .i64 ch, .int .i64 ma, .int .i64 ct, .int .i64 fi, .slice a l.length c, .int .i64 wc, .bool lk, .bool wt, .bool rt, .int .i64 wb, .int .i64 wn] ∧ Rd w a l l.length c := by
  obtain ⟨cs, rfl, hsz⟩ := okWide_struct Try.underlying26 hval
  obtain ⟨n, t⟩ := hd
  have t : DataW.trod enc' Try.prog w base (fun _ => true) held n 26 cs.toList = some (d, ps) := t
  have h12 := array12 (hsz.trans (by kernel_rfl))
  obtain ⟨_, _, t0⟩ := tm0 n _ _ t
  obtain ⟨_, _, t1⟩ := tm1 n _ _ t
  obtain ⟨_, _, t2⟩ := tm2 n _ _ t
  obtain ⟨_, _, t3⟩ := tm3 n _ _ t
  obtain ⟨_, _, t4⟩ := tm4 n _ _ t
  obtain ⟨_, _, t5⟩ := tm5 n _ _ t
  obtain ⟨_, _, t6⟩ := tm6 (by decide) tw0 n _ _ t
  obtain ⟨_, _, t7⟩ := tm6 (by decide) tw1 n _ _ t
  obtain ⟨_, _, t8⟩ := tm6 (by decide) tw2 n _ _ t
  obtain ⟨_, _, t9⟩ := tm6 (by decide) tw3 n _ _ t
  obtain ⟨_, _, t10⟩ := tm6 (by decide) tw4 n _ _ t
  obtain ⟨_, _, t11⟩ := tm6 (by decide) tw5 n _ _ t
  obtain ⟨x0, e0, _⟩ := DataW.trod_int Try.underlying3 t0
  obtain ⟨x1, e1, _⟩ := DataW.trod_int Try.underlying3 t1
  obtain ⟨x2, e2, _⟩ := DataW.trod_int Try.underlying3 t2
  obtain ⟨x3, e3, _⟩ := DataW.trod_int Try.underlying3 t3
  obtain ⟨x4, e4, _⟩ := DataW.trod_int Try.underlying3 t4
  obtain ⟨a, l, c, e5, hb, hn, hl, hm⟩ := open_bytes_cell Try.underlying22 Try.underlying5 (by kernel_rfl) t5
  obtain ⟨x6, e6, _⟩ := DataW.trod_int Try.underlying3 t6
  obtain ⟨x7, e7, _⟩ := DataW.trod_bool Try.underlying4 t7
  obtain ⟨x8, e8, _⟩ := DataW.trod_bool Try.underlying4 t8
  obtain ⟨x9, e9, _⟩ := DataW.trod_bool Try.underlying4 t9
  obtain ⟨x10, e10, _⟩ := DataW.trod_int Try.underlying3 t10
  obtain ⟨x11, e11, _⟩ := DataW.trod_int Try.underlying3 t11
  injection e0 with e0
  injection e1 with e1
  injection e2 with e2
  injection e3 with e3
  injection e4 with e4
  injection e6 with e6
  injection e7 with e7
  injection e8 with e8
  injection e9 with e9
  injection e10 with e10
  injection e11 with e11
  simp only [Nat.reduceAdd] at e7 e8 e9 e10 e11
  rw [e0, e1, e2, e3, e4, e5, e6, e7, e8, e9, e10, e11] at h12
  exact ⟨x0, x1, x2, x3, x4, a, l, c, x6, x7, x8, x9, x10, x11, by rw [h12], rfl, hb, hn, hl, hm⟩
end
end Go.Proofs.Ytmkmojhhfbokdaa
