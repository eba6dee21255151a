/-
  The walk of the law's own function 'changed', and of the law TcframeBack.
-/
import Derived.Test.YtdichdoabhabjaaLaw14b
import Derived.Test.YtdichdoabhabjaaCrcFlip
import Derived.RegionTactic
namespace Go.Proofs.Ytdichdoabhabjaa.Tcf
open Go.RowKit Go.Proofs.Ytdichdoabhabjaa.Pac

set_option maxHeartbeats 1000000 in
theorem tchanged_any (a : Option Addr) (s : List Byte) (c i : Nat) (pat : BitVec 16) (w : World) (ha : Bs w w.heap.size a s) (hna : a = none → c = 0) (hs : s.length ≤ 2002) (hi : i < 65536) :
    Calls Try.prog 22 #[.slice a s.length c, .int .i64 i, .int .u16 (pat.toNat : Int)] w fun e w' => ∃ v x, e = .returned v ∧ Ow w' w.heap.size 5 v x ∧ Near s x i 16 ∧ Below w.heap.size w w' := by
  have bel1 := (Below.refl w.heap.size w).alloc (Nat.le_refl _) (.cells #[] 5)
  have hown1 := Ow_empty w w.heap.size 5 (Nat.le_refl _)
  go_enter Try.func22, Try.ntmps22
  go_wp2_with (first
    | (at_builtin; refine wpList_app _ is_bytes rfl (.tmp 10) (.tmp 11) rfl (m := []) rfl hown1 rfl (ha.below bel1) hna (by simp; omega) bel1.size ?_; intro v2 w2 hown2 hgrow2; have bel2 := bel1.grown hgrow2 bel1.size (Ow.base_le (l := []) hown1)))
  rw [List.nil_append] at hown2
  clear hgrow2 hown1 bel1 ha
  obtain ⟨A, cap, rfl, _, _, hcap, _⟩ := hown2.reads
  go_loopw [8] (fun k wr => ∃ (j : Nat) (x : List Byte), j ≤ 16 ∧ k = .int .i64 j ∧ Ow wr w.heap.size 5 (.slice A s.length cap) x ∧ Near s x i j ∧ Below w.heap.size w wr) (fun k _ => 16 - (intOf k).toNat)
  case atStart => exact ⟨0, s, by omega, rfl, hown2, ⟨rfl, fun _ _ => rfl⟩, bel2⟩
  case round =>
    obtain ⟨j, x, hj, rfl, hown, hnear, hbel⟩ := hrel
    by_cases hlt : j < 16
    · have hp := pat.isLt
      go_wp2_with fail
      · have hin : (i : Int) + (j : Int) < 8 * (s.length : Int) := by assumption
        have hx : x.length = s.length := hnear.1
        have hq : (i + j) / 8 < x.length := by omega
        have hq2 : ((i : Int) + (j : Int)) / 8 < (s.length : Int) := by omega
        have hj0 : 0 ≤ (i : Int) + (j : Int) := by omega
        obtain ⟨g, rfl, hg⟩ : ∃ g, A = some ⟨g, 0, none⟩ ∧ w.heap.size ≤ g := by
          rcases hown.2 with ⟨h1, h2⟩ | ⟨g, cap', cur, h1, h2, _⟩
          · omega
          · injection h1 with h1; exact ⟨g, h1, h2⟩
        have hown' : wr.ownsRow w.heap.size 5 1 (.slice (some ⟨g, 0, none⟩) s.length cap) s.length (x.map B8) := by rw [← hx]; rw [← hx] at hown; exact hown
        have hc : wr.cell? ⟨g, (i + j) / 8, none⟩ = some (B8 x[(i + j) / 8]) := by
          rw [hown'.cellAt _ (by omega)]; simp [hq]
        have hf : wr.frozen? ⟨g, (i + j) / 8, none⟩ = false := hown'.frozenAt _
        have HN := Lib.hid hnear
        have HX : Hid (x.length = s.length) := hx
        clear hx hnear hown
        go_region
        rw [flip_byte x[(i + j) / 8] (7 - (i + j) % 8) (by omega)]
        have hst := hown'.stored ((i + j) / 8) (B8 (x[(i + j) / 8] ^^^ (1#8 <<< (7 - (i + j) % 8))))
        have hbel3 := (hbel.grown hst.2 hbel.size (fun k hk => by injection hk with hk; omega)).drew
        have hown3 : Ow ((wr.setCell ⟨g, (i + j) / 8, none⟩ (B8 (x[(i + j) / 8] ^^^ (1#8 <<< (7 - (i + j) % 8))))).drew) w.heap.size 5 (.slice (some ⟨g, 0, none⟩) s.length cap) (x.set ((i + j) / 8) (x[(i + j) / 8] ^^^ (1#8 <<< (7 - (i + j) % 8)))) := by
          refine Ow.drew ?_
          unfold Ow
          rw [List.length_set, HX.out, List.map_set]
          exact hst.1
        clear hst hc hf hown'
        go_wp2
        go_roundw
        case rel => exact ⟨j + 1, _, by omega, by go_num, hown3, HN.out.flip hq, hbel3⟩
        case measure => simp [intOf]; omega
      · go_roundw
        case rel => exact ⟨j + 1, x, by omega, by go_num, hown, hnear.step, hbel⟩
        case measure => simp [intOf]; omega
      · go_roundw
        case rel => exact ⟨j + 1, x, by omega, by go_num, hown, hnear.step, hbel⟩
        case measure => simp [intOf]; omega
    · go_wp2
      go_ret
      exact ⟨_, x, rfl, hown, by rw [show 16 = j by omega]; exact hnear, hbel⟩


theorem tchanged_len (a : Option Addr) (s : List Byte) (n c i : Nat) (pat : BitVec 16) (w : World) (h : Rd w a s n c) (hs : n ≤ 2002) (hi : i < 65536) :
    Calls Try.prog 22 #[.slice a n c, .int .i64 i, .int .u16 (pat.toNat : Int)] w fun e w' => ∃ v x, e = .returned v ∧ Ow w' w.heap.size 5 v x ∧ Near s x i 16 ∧ Below w.heap.size w w' := by
  obtain ⟨hl, hb, hn, _, _⟩ := h
  subst hl
  exact tchanged_any a s c i pat w hb hn hs hi

set_option maxRecDepth 100000 in
set_option maxHeartbeats 4000000 in
theorem tcframeBack_big (byp con : Bool) (cr ch sq : Int) (a : Option Addr) (l : List Byte) (n c : Nat) (at_ pat : BitVec 16) (w : World) (_hD : Rd w a l n c) (hbig : 1100 < n) :
    Calls Try.prog 6 #[.agg #[.bool byp, .bool con, .int .i64 cr, .int .i64 ch, .int .i64 sq, .slice a n c], .int .u16 (at_.toNat : Int), .int .u16 (pat.toNat : Int)] w fun e w' => e = .returned (.bool true) ∧ Below w.heap.size w w' := by
  have b0 := bel_new w (.cells #[.bool byp, .bool con, .int .i64 cr, .int .i64 ch, .int .i64 sq, .slice a n c] 24)
  have g1 : decide ((1100 : Int) < (n : Int)) = true := by simp; omega
  have g2 : decide (1100 < n) = true := by simp; omega
  clear _hD hbig
  go_enter Try.func6, Try.ntmps6
  go_wp2_with fail
  refine (alive14_any _).mono ?_
  rintro e w1 ⟨rfl, h1⟩
  go_wp2
  go_ret
  exact ⟨rfl, b0.trans (h1.mono b0.size)⟩

set_option maxRecDepth 100000 in
set_option maxHeartbeats 4000000 in
theorem tcframeBack_no (byp con : Bool) (cr ch sq : Int) (a : Option Addr) (l : List Byte) (n c : Nat) (at_ pat : BitVec 16) (w : World) (hD : Rd w a l n c) (hbig : n ≤ 1100) (hok : Fr.ok ⟨byp, con, cr, ch, sq, l⟩ = false) :
    Calls Try.prog 6 #[.agg #[.bool byp, .bool con, .int .i64 cr, .int .i64 ch, .int .i64 sq, .slice a n c], .int .u16 (at_.toNat : Int), .int .u16 (pat.toNat : Int)] w fun e w' => e = .returned (.bool true) ∧ Below w.heap.size w w' := by
  have b0 := bel_new w (.cells #[.bool byp, .bool con, .int .i64 cr, .int .i64 ch, .int .i64 sq, .slice a n c] 24)
  have p0 := Cel.new w 24 #[.bool byp, .bool con, .int .i64 cr, .int .i64 ch, .int .i64 sq, .slice a n c]
  have g1 : decide ((1100 : Int) < (n : Int)) = false := by simp; omega
  have g2 : decide (1100 < n) = false := by simp; omega
  have hm : n ≤ maxLen := Nat.le_trans hD.le hD.max
  have x1 := fun W (h : Rd W a l n c) => tencode_any byp con cr ch sq a l n c W (Lib.hid hD.len) h.bs hD.nil hm
  have x3 := fun W => tvalid_any byp con cr ch sq a l n c W (Lib.hid hD.len) hm
  simp only [Fr.enc_no hok, Fr.err_no hok] at x1
  simp only [hok] at x3
  have k0 := hD.later b0
  clear hD hm hbig hok
  have m0 := p0.cell 0
  have m1 := p0.cell 1
  have m2 := p0.cell 2
  have m3 := p0.cell 3
  have m4 := p0.cell 4
  have m5 := p0.cell 5
  simp at m0 m1 m2 m3 m4 m5
  go_enter Try.func6, Try.ntmps6
  go_wp2_with fail
  refine (x1 _ k0).mono ?_
  rintro e w1 ⟨v1, rfl, o1, h1⟩
  obtain ⟨A1, c1, rfl, r1⟩ := Rd.of o1 (n := 0) rfl
  have b1 := b0.trans (h1.mono b0.size)
  have p1 := Cel.later p0 h1
  clear x1 h1 p0 b0 o1 k0 r1 m0 m1 m2 m3 m4 m5
  have m0 := p1.cell 0
  have m1 := p1.cell 1
  have m2 := p1.cell 2
  have m3 := p1.cell 3
  have m4 := p1.cell 4
  have m5 := p1.cell 5
  simp at m0 m1 m2 m3 m4 m5
  go_wp2_with fail
  refine (x3 _).mono ?_
  rintro e w2 ⟨rfl, h2⟩
  have b2 := b1.trans (h2.mono b1.size)
  clear x3 h2 p1 b1 m0 m1 m2 m3 m4 m5
  go_wp2_with fail
  refine (alive14_any _).mono ?_
  rintro e w3 ⟨rfl, h3⟩
  go_wp2
  go_ret
  exact ⟨rfl, b2.trans (h3.mono b2.size)⟩

set_option maxRecDepth 100000 in
set_option maxHeartbeats 8000000 in
theorem tcframeBack_yes (byp con : Bool) (cr ch sq : Int) (a : Option Addr) (l : List Byte) (n c : Nat) (at_ pat : BitVec 16) (w : World) (hD : Rd w a l n c) (hok : Fr.ok ⟨byp, con, cr, ch, sq, l⟩ = true) :
    Calls Try.prog 6 #[.agg #[.bool byp, .bool con, .int .i64 cr, .int .i64 ch, .int .i64 sq, .slice a n c], .int .u16 (at_.toNat : Int), .int .u16 (pat.toNat : Int)] w fun e w' => e = .returned (.bool true) ∧ Below w.heap.size w w' := by
  have b0 := bel_new w (.cells #[.bool byp, .bool con, .int .i64 cr, .int .i64 ch, .int .i64 sq, .slice a n c] 24)
  have p0 := Cel.new w 24 #[.bool byp, .bool con, .int .i64 cr, .int .i64 ch, .int .i64 sq, .slice a n c]
  have hn7 := (Fr.ok_fits hok).2.2.2.2.2.2.2
  simp only at hn7
  rw [hD.len] at hn7
  have g1 : decide ((1100 : Int) < (n : Int)) = false := by simp; omega
  have g2 : decide (1100 < n) = false := by simp; omega
  have hm : n ≤ maxLen := Nat.le_trans hD.le hD.max
  have x1 := fun W (h : Rd W a l n c) => tencode_any byp con cr ch sq a l n c W (Lib.hid hD.len) h.bs hD.nil hm
  have hEl := Fr.enc_len hok
  simp only [hD.len] at hEl
  have hde := dec_enc hok
  have hnear := fun (x : List Byte) (i : Nat) (h : Near (Fr.enc ⟨byp, con, cr, ch, sq, l⟩) x i 16) (hx : x ≠ Fr.enc ⟨byp, con, cr, ch, sq, l⟩) => dec_near hok h hx
  simp only [Fr.err_yes hok] at x1
  obtain ⟨E, hE⟩ : ∃ E, E = Fr.enc ⟨byp, con, cr, ch, sq, l⟩ := ⟨_, rfl⟩
  simp only [← hE] at x1 hEl hde hnear
  obtain ⟨M, hM⟩ : ∃ M, M = n + 7 := ⟨_, rfl⟩
  rw [← hM] at hEl
  have hMl : M ≤ 1024 := by omega
  have hM0 : 0 < M := by omega
  have x2 := fun W A c (h : Rd W A E M c) => tdecode_any A E M c W (Lib.hid h.len) h.bs h.nil h.le h.max
  simp only [hde.1, hde.2] at x2
  have z1 : ((M : Int) != (n : Int) + 7) = false := by simp; omega
  obtain ⟨I, hI⟩ : ∃ I, I = at_.toNat % (8 * M) := ⟨_, rfl⟩
  have z2 : (at_.toNat : Int) % (8 * (M : Int)) = (I : Int) := by rw [hI]; push_cast; rfl
  have hat := at_.isLt
  have hI2 : I < 65536 := by rw [hI]; exact Nat.lt_of_le_of_lt (Nat.mod_le _ _) (by omega)
  have hNear := Lib.hid hnear
  have HEl := Lib.hid hEl
  have hHl := Lib.hid hD.len
  have k0 := hD.later b0
  have hMi0 : (0 : Int) < (M : Int) := by omega
  have hMi1 : (M : Int) ≤ 1024 := by omega
  clear hD hm hok hE hM hI hde hEl hnear
  have m0 := p0.cell 0
  have m1 := p0.cell 1
  have m2 := p0.cell 2
  have m3 := p0.cell 3
  have m4 := p0.cell 4
  have m5 := p0.cell 5
  simp at m0 m1 m2 m3 m4 m5
  go_enter Try.func6, Try.ntmps6
  go_wp2_with fail
  refine (x1 _ k0).mono ?_
  rintro e w1 ⟨v1, rfl, o1, h1⟩
  obtain ⟨A1, c1, rfl, r1⟩ := Rd.of o1 (n := M) HEl.out
  have b1 := b0.trans (h1.mono b0.size)
  have p1 := Cel.later p0 h1
  have k1 := k0.later h1
  clear x1 h1 p0 b0 o1 k0 m0 m1 m2 m3 m4 m5
  have m0 := p1.cell 0
  have m1 := p1.cell 1
  have m2 := p1.cell 2
  have m3 := p1.cell 3
  have m4 := p1.cell 4
  have m5 := p1.cell 5
  simp at m0 m1 m2 m3 m4 m5
  go_wp2_with fail
  refine (x2 _ A1 c1 r1).mono ?_
  rintro e w2 ⟨v2, rfl, o2, h2⟩
  obtain ⟨A2, c2, rfl, r2⟩ := Rd.of o2 (n := n) hHl.out
  obtain ⟨W2, hW2⟩ : ∃ W2, W2 = w2.alloc (.cells #[.bool byp, .bool con, .int .i64 cr, .int .i64 ch, .int .i64 sq, .slice A2 n c2] 24) := ⟨_, rfl⟩
  have i2 : Below w2.heap.size w2 W2 := by rw [hW2]; exact bel_new _ _
  have q2 : Cel W2 w2.heap.size 24 #[.bool byp, .bool con, .int .i64 cr, .int .i64 ch, .int .i64 sq, .slice A2 n c2] := by rw [hW2]; exact Cel.new _ _ _
  have b2 := (b1.trans (h2.mono b1.size)).trans (i2.mono (b1.trans (h2.mono b1.size)).size)
  have p2 := Cel.later (Cel.later p1 h2) i2
  have k2 := (k1.later h2).later i2
  have r12 := (r1.later h2).later i2
  have r22 := r2.later i2
  clear x2 h2 p1 b1 o2 k1 r1 r2 i2 m0 m1 m2 m3 m4 m5
  go_wp2_with fail
  rw [← hW2]
  refine (tchanged_len A1 E M c1 I pat W2 r12 (by omega) hI2).mono ?_
  rintro e w3 ⟨v3, x, rfl, o3, hne, h3⟩
  have hxl : x.length = M := by rw [hne.1, HEl.out]
  obtain ⟨A3, c3, rfl, r3⟩ := Rd.of o3 (n := M) hxl
  have b3 := b2.trans (h3.mono b2.size)
  have p3 := Cel.later p2 h3
  have q3 := Cel.later q2 h3
  have k3 := k2.later h3
  have r13 := r12.later h3
  have r23 := r22.later h3
  have x4 := tdecode_any A3 x M c3 w3 (Lib.hid hxl) r3.bs r3.nil r3.le r3.max
  have hdx := hNear.out x I hne
  obtain ⟨P, hP⟩ : ∃ P, P = deP x := ⟨_, rfl⟩
  obtain ⟨byp', con', cr', ch', sq', d'⟩ := P
  obtain ⟨G, hG⟩ : ∃ G, G = deE x := ⟨_, rfl⟩
  simp only [← hP, ← hG] at x4 hdx
  clear h3 p2 q2 b2 o3 k2 r12 r22 hW2 hP hG hne hxl
  go_wp2_with fail
  refine x4.mono ?_
  rintro e w4 ⟨v4, rfl, o4, h4⟩
  obtain ⟨A4, c4, rfl, r4⟩ := Rd.of o4 rfl
  obtain ⟨W4, hW4⟩ : ∃ W4, W4 = w4.alloc (.cells #[.bool byp', .bool con', .int .i64 cr', .int .i64 ch', .int .i64 sq', .slice A4 d'.length c4] 24) := ⟨_, rfl⟩
  have i4 : Below w4.heap.size w4 W4 := by rw [hW4]; exact bel_new _ _
  have b4 := (b3.trans (h4.mono b3.size)).trans (i4.mono (b3.trans (h4.mono b3.size)).size)
  have p4 := Cel.later (Cel.later p3 h4) i4
  have q4 := Cel.later (Cel.later q3 h4) i4
  have k4 := (k3.later h4).later i4
  have r14 := (r13.later h4).later i4
  have r24 := (r23.later h4).later i4
  have r34 := (r3.later h4).later i4
  have x5 := ysame_any byp con cr ch sq a A2 l n c c2 W4 k4 r24
  rw [hW4] at p4 q4
  clear x4 h4 p3 q3 b3 o4 k3 r13 r23 r3 r4 i4 k4 r24
  have m0 := p4.cell 0
  have m1 := p4.cell 1
  have m2 := p4.cell 2
  have m3 := p4.cell 3
  have m4 := p4.cell 4
  have m5 := p4.cell 5
  simp at m0 m1 m2 m3 m4 m5
  have y0 := q4.cell 0
  have y1 := q4.cell 1
  have y2 := q4.cell 2
  have y3 := q4.cell 3
  have y4 := q4.cell 4
  have y5 := q4.cell 5
  simp at y0 y1 y2 y3 y4 y5
  go_wp2_with fail
  rw [← hW4]
  refine x5.mono ?_
  rintro e w5 ⟨rfl, h5⟩
  have b5 := b4.trans (h5.mono b4.size)
  have s1 := r34.conv h5
  have s2 := r14.conv h5
  have hbq := str_beq x E
  clear x5 h5 b4 p4 q4 r14 r34 hW4 m0 m1 m2 m3 m4 m5 y0 y1 y2 y3 y4 y5
  by_cases hx : x = E
  · rw [decide_eq_true hx] at hbq
    clear hx hdx
    go_wp2_with fail
    refine (alive14_any _).mono ?_
    rintro e w6 ⟨rfl, h6⟩
    go_wp2
    go_ret
    exact ⟨rfl, b5.trans (h6.mono b5.size)⟩
  · rw [decide_eq_false hx] at hbq
    have hG5 := hdx hx
    subst hG5
    clear hx hdx
    go_wp2_with fail
    refine (alive14_any _).mono ?_
    rintro e w6 ⟨rfl, h6⟩
    go_wp2
    go_ret
    exact ⟨rfl, b5.trans (h6.mono b5.size)⟩

theorem tcframeBack_walk (byp con : Bool) (cr ch sq : Int) (a : Option Addr) (l : List Byte) (n c : Nat) (at_ pat : BitVec 16) (w : World) (hD : Rd w a l n c) :
    Calls Try.prog 6 #[.agg #[.bool byp, .bool con, .int .i64 cr, .int .i64 ch, .int .i64 sq, .slice a n c], .int .u16 (at_.toNat : Int), .int .u16 (pat.toNat : Int)] w fun e w' => e = .returned (.bool true) ∧ Below w.heap.size w w' := by
  by_cases hbig : 1100 < n
  · exact tcframeBack_big byp con cr ch sq a l n c at_ pat w hD hbig
  cases hok : Fr.ok ⟨byp, con, cr, ch, sq, l⟩ with
  | false => exact tcframeBack_no byp con cr ch sq a l n c at_ pat w hD (by omega) hok
  | true => exact tcframeBack_yes byp con cr ch sq a l n c at_ pat w hD hok
end Go.Proofs.Ytdichdoabhabjaa.Tcf
