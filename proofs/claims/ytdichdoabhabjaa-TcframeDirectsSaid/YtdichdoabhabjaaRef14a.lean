/-
  The walks of the reference of layer 14: Encode, Directive, Same.
-/
import Derived.Test.YtdichdoabhabjaaTcfW5
import Derived.Test.YtdichdoabhabjaaRef01c
namespace Go.Proofs.Ytdichdoabhabjaa.Tcf
open Go.RowKit Go.Proofs.Ytdichdoabhabjaa.Pac

theorem Ow_row (w : World) (base : Nat) (e : TypeId) (l : List Byte) (n : Nat) (C : Array Value) (hn : l.length = n) (hC : C = (l.map B8).toArray) (h : base ≤ w.heap.size) (hm : n ≤ maxLen) (g : Nat) (hg : w.heap.size = g) : Ow (w.alloc (.cells C e)) base e (.slice (some ⟨g, 0, none⟩) n n) l := by
  subst hn hg
  exact ⟨by simp, .inr ⟨w.heap.size, l.length, C, rfl, h, heap_alloc_new w _, Nat.le_refl _, hm, by rw [hC]; simp, by rw [hC]; simp [← List.map_take]⟩⟩
theorem hdr5_cells {H S Q : Nat} {x0 x1 x2 x3 x4 : Int} (h0 : x0 = ((H / 256 % 256 : Nat) : Int)) (h1 : x1 = ((H % 256 : Nat) : Int)) (h2 : x2 = ((S / 256 % 256 : Nat) : Int)) (h3 : x3 = ((S % 256 : Nat) : Int)) (h4 : x4 = ((Q % 256 : Nat) : Int)) :
    #[Value.int .u8 x0, .int .u8 x1, .int .u8 x2, .int .u8 x3, .int .u8 x4] = ((hdr5 H S Q).map B8).toArray := by
  subst h0 h1 h2 h3 h4
  simp [hdr5]

set_option maxHeartbeats 2000000 in
theorem yencode_ff (C A Q M : Nat) (a : Option Addr) (l : List Byte) (c : Nat) (w : World) (hl : Hid (l.length = M)) (hb : Bs w w.heap.size a l) (hn : a = none → c = 0) (hok : Fr.ok ⟨false, false, C, A, Q, l⟩ = true) (hC : C < 1024) (hA : A < 8) (hQ : Q < 256) (hM : M ≤ 1017) :
    Calls Try.prog 10 #[.agg #[.bool false, .bool false, .int .i64 (C : Int), .int .i64 (A : Int), .int .i64 (Q : Int), .slice a M c]] w fun e w' => ∃ v, e = .returned (.tuple #[v, .int .i64 0]) ∧ Ow w' w.heap.size 5 v (ap16 (hdr5 (hd false false C) (sd A (M + 6)) Q ++ l)) ∧ Below w.heap.size w w' := by
  have hv := fun W => yvalid_any false false (C : Int) (A : Int) (Q : Int) a l M c W hl (by unfold maxLen; omega)
  rw [hok] at hv
  have hP0 := Cel.new w 24 #[.bool false, .bool false, .int .i64 (C : Int), .int .i64 (A : Int), .int .i64 (Q : Int), .slice a M c]
  have b0 := bel_new w (.cells #[.bool false, .bool false, .int .i64 (C : Int), .int .i64 (A : Int), .int .i64 (Q : Int), .slice a M c] 24)
  obtain ⟨H, hH⟩ : ∃ H, H = hd false false C := ⟨_, rfl⟩
  obtain ⟨S, hS⟩ : ∃ S, S = sd A (M + 6) := ⟨_, rfl⟩
  have hH2 : H = C + 0 := by rw [hH]; simp [hd]; try omega
  have hS2 : S = A * 1024 + (M + 6) := hS
  rw [← hH, ← hS]
  obtain ⟨E, hE⟩ : ∃ E, E = hdr5 H S Q ++ l := ⟨_, rfl⟩
  have hEl : E.length = 5 + M := by rw [hE, List.length_append, hl.out, hdr5_len]
  rw [← hE]
  have HL := Lib.hid hEl
  have HE := Lib.hid hE
  have HH := Lib.hid hH2
  have HS := Lib.hid hS2
  have hln := hl.out
  have hB2 := fun W (h : Below w.heap.size w W) => hb.below h
  clear hok hH hS hE hEl hH2 hS2 hb
  go_enter Try.func10, Try.ntmps10
  go_wp2_with fail
  refine (hv _).mono ?_
  rintro e w1 ⟨rfl, hb1⟩
  have hP1 := Cel.later hP0 hb1
  have b1 := b0.trans (hb1.mono b0.size)
  have hB1 := hB2 w1 b1
  have hlt := hP1.lt
  have c0 := hP1.cell 0
  have c1 := hP1.cell 1
  have c2 := hP1.cell 2
  have c3 := hP1.cell 3
  have c4 := hP1.cell 4
  have c5 := hP1.cell 5
  simp at c0 c1 c2 c3 c4 c5
  clear hv hb1 hP0 b0 hP1 hln
  go_wp2_with (first
    | (at_builtin; refine wpList_app _ is_bytes rfl (.tmp 44) (.tmp 46) rfl (v := Value.slice (some ⟨w1.heap.size, 0, none⟩) 5 5) (m := hdr5 H S Q) rfl (Ow_row _ w.heap.size 5 _ 5 _ rfl (hdr5_cells ?_ ?_ ?_ ?_ ?_) b1.size (by decide) _ rfl) (l := l) (B := w.heap.size) (A := a) (c := c) (by rw [hl.out]; rfl) (hB2 _ (b1.alloc b1.size _)) hn (by rw [hl.out, hdr5_len]; omega) (Nat.le_trans b1.size (by simp)) ?_; (rw [HH.out]; omega); (rw [HH.out]; omega); (rw [HS.out]; omega); (rw [HS.out]; omega); omega; intro v2 w2 hown2 hgrow2; have bel2 := (b1.alloc b1.size _).grown hgrow2 (Nat.le_trans b1.size (by simp)) (fun i hi => by injection hi with hi; have hi' : w1.heap.size = i := hi; have := b1.size; omega); rw [← HE.out] at hown2; obtain ⟨A2, c2', rfl, hA2, hn2, _, _⟩ := hown2.reads_len (n := 5 + M) HL.out))
  refine (refAppend16_len A2 E (5 + M) c2' w2 HL.out hA2 hn2 (by omega)).mono ?_
  rintro e w3 ⟨v3, rfl, hown3, hb3⟩
  go_wp2
  go_ret2
  exact ⟨v3, rfl, hown3.more bel2.size, bel2.trans (hb3.mono bel2.size)⟩

set_option maxHeartbeats 2000000 in
theorem yencode_tf (C A Q M : Nat) (a : Option Addr) (l : List Byte) (c : Nat) (w : World) (hl : Hid (l.length = M)) (hb : Bs w w.heap.size a l) (hn : a = none → c = 0) (hok : Fr.ok ⟨true, false, C, A, Q, l⟩ = true) (hC : C < 1024) (hA : A < 8) (hQ : Q < 256) (hM : M ≤ 1017) :
    Calls Try.prog 10 #[.agg #[.bool true, .bool false, .int .i64 (C : Int), .int .i64 (A : Int), .int .i64 (Q : Int), .slice a M c]] w fun e w' => ∃ v, e = .returned (.tuple #[v, .int .i64 0]) ∧ Ow w' w.heap.size 5 v (ap16 (hdr5 (hd true false C) (sd A (M + 6)) Q ++ l)) ∧ Below w.heap.size w w' := by
  have hv := fun W => yvalid_any true false (C : Int) (A : Int) (Q : Int) a l M c W hl (by unfold maxLen; omega)
  rw [hok] at hv
  have hP0 := Cel.new w 24 #[.bool true, .bool false, .int .i64 (C : Int), .int .i64 (A : Int), .int .i64 (Q : Int), .slice a M c]
  have b0 := bel_new w (.cells #[.bool true, .bool false, .int .i64 (C : Int), .int .i64 (A : Int), .int .i64 (Q : Int), .slice a M c] 24)
  obtain ⟨H, hH⟩ : ∃ H, H = hd true false C := ⟨_, rfl⟩
  obtain ⟨S, hS⟩ : ∃ S, S = sd A (M + 6) := ⟨_, rfl⟩
  have hH2 : H = C + 8192 := by rw [hH]; simp [hd]; try omega
  have hS2 : S = A * 1024 + (M + 6) := hS
  rw [← hH, ← hS]
  obtain ⟨E, hE⟩ : ∃ E, E = hdr5 H S Q ++ l := ⟨_, rfl⟩
  have hEl : E.length = 5 + M := by rw [hE, List.length_append, hl.out, hdr5_len]
  rw [← hE]
  have HL := Lib.hid hEl
  have HE := Lib.hid hE
  have HH := Lib.hid hH2
  have HS := Lib.hid hS2
  have hln := hl.out
  have hB2 := fun W (h : Below w.heap.size w W) => hb.below h
  clear hok hH hS hE hEl hH2 hS2 hb
  go_enter Try.func10, Try.ntmps10
  go_wp2_with fail
  refine (hv _).mono ?_
  rintro e w1 ⟨rfl, hb1⟩
  have hP1 := Cel.later hP0 hb1
  have b1 := b0.trans (hb1.mono b0.size)
  have hB1 := hB2 w1 b1
  have hlt := hP1.lt
  have c0 := hP1.cell 0
  have c1 := hP1.cell 1
  have c2 := hP1.cell 2
  have c3 := hP1.cell 3
  have c4 := hP1.cell 4
  have c5 := hP1.cell 5
  simp at c0 c1 c2 c3 c4 c5
  clear hv hb1 hP0 b0 hP1 hln
  go_wp2_with (first
    | (at_builtin; refine wpList_app _ is_bytes rfl (.tmp 44) (.tmp 46) rfl (v := Value.slice (some ⟨w1.heap.size, 0, none⟩) 5 5) (m := hdr5 H S Q) rfl (Ow_row _ w.heap.size 5 _ 5 _ rfl (hdr5_cells ?_ ?_ ?_ ?_ ?_) b1.size (by decide) _ rfl) (l := l) (B := w.heap.size) (A := a) (c := c) (by rw [hl.out]; rfl) (hB2 _ (b1.alloc b1.size _)) hn (by rw [hl.out, hdr5_len]; omega) (Nat.le_trans b1.size (by simp)) ?_; (rw [HH.out]; omega); (rw [HH.out]; omega); (rw [HS.out]; omega); (rw [HS.out]; omega); omega; intro v2 w2 hown2 hgrow2; have bel2 := (b1.alloc b1.size _).grown hgrow2 (Nat.le_trans b1.size (by simp)) (fun i hi => by injection hi with hi; have hi' : w1.heap.size = i := hi; have := b1.size; omega); rw [← HE.out] at hown2; obtain ⟨A2, c2', rfl, hA2, hn2, _, _⟩ := hown2.reads_len (n := 5 + M) HL.out))
  refine (refAppend16_len A2 E (5 + M) c2' w2 HL.out hA2 hn2 (by omega)).mono ?_
  rintro e w3 ⟨v3, rfl, hown3, hb3⟩
  go_wp2
  go_ret2
  exact ⟨v3, rfl, hown3.more bel2.size, bel2.trans (hb3.mono bel2.size)⟩

set_option maxHeartbeats 2000000 in
theorem yencode_tt (C A Q M : Nat) (a : Option Addr) (l : List Byte) (c : Nat) (w : World) (hl : Hid (l.length = M)) (hb : Bs w w.heap.size a l) (hn : a = none → c = 0) (hok : Fr.ok ⟨true, true, C, A, Q, l⟩ = true) (hC : C < 1024) (hA : A < 8) (hQ : Q < 256) (hM : M ≤ 1017) :
    Calls Try.prog 10 #[.agg #[.bool true, .bool true, .int .i64 (C : Int), .int .i64 (A : Int), .int .i64 (Q : Int), .slice a M c]] w fun e w' => ∃ v, e = .returned (.tuple #[v, .int .i64 0]) ∧ Ow w' w.heap.size 5 v (ap16 (hdr5 (hd true true C) (sd A (M + 6)) Q ++ l)) ∧ Below w.heap.size w w' := by
  have hv := fun W => yvalid_any true true (C : Int) (A : Int) (Q : Int) a l M c W hl (by unfold maxLen; omega)
  rw [hok] at hv
  have hP0 := Cel.new w 24 #[.bool true, .bool true, .int .i64 (C : Int), .int .i64 (A : Int), .int .i64 (Q : Int), .slice a M c]
  have b0 := bel_new w (.cells #[.bool true, .bool true, .int .i64 (C : Int), .int .i64 (A : Int), .int .i64 (Q : Int), .slice a M c] 24)
  obtain ⟨H, hH⟩ : ∃ H, H = hd true true C := ⟨_, rfl⟩
  obtain ⟨S, hS⟩ : ∃ S, S = sd A (M + 6) := ⟨_, rfl⟩
  have hH2 : H = C + 12288 := by rw [hH]; simp [hd]; try omega
  have hS2 : S = A * 1024 + (M + 6) := hS
  rw [← hH, ← hS]
  obtain ⟨E, hE⟩ : ∃ E, E = hdr5 H S Q ++ l := ⟨_, rfl⟩
  have hEl : E.length = 5 + M := by rw [hE, List.length_append, hl.out, hdr5_len]
  rw [← hE]
  have HL := Lib.hid hEl
  have HE := Lib.hid hE
  have HH := Lib.hid hH2
  have HS := Lib.hid hS2
  have hln := hl.out
  have hB2 := fun W (h : Below w.heap.size w W) => hb.below h
  clear hok hH hS hE hEl hH2 hS2 hb
  go_enter Try.func10, Try.ntmps10
  go_wp2_with fail
  refine (hv _).mono ?_
  rintro e w1 ⟨rfl, hb1⟩
  have hP1 := Cel.later hP0 hb1
  have b1 := b0.trans (hb1.mono b0.size)
  have hB1 := hB2 w1 b1
  have hlt := hP1.lt
  have c0 := hP1.cell 0
  have c1 := hP1.cell 1
  have c2 := hP1.cell 2
  have c3 := hP1.cell 3
  have c4 := hP1.cell 4
  have c5 := hP1.cell 5
  simp at c0 c1 c2 c3 c4 c5
  clear hv hb1 hP0 b0 hP1 hln
  go_wp2_with (first
    | (at_builtin; refine wpList_app _ is_bytes rfl (.tmp 44) (.tmp 46) rfl (v := Value.slice (some ⟨w1.heap.size, 0, none⟩) 5 5) (m := hdr5 H S Q) rfl (Ow_row _ w.heap.size 5 _ 5 _ rfl (hdr5_cells ?_ ?_ ?_ ?_ ?_) b1.size (by decide) _ rfl) (l := l) (B := w.heap.size) (A := a) (c := c) (by rw [hl.out]; rfl) (hB2 _ (b1.alloc b1.size _)) hn (by rw [hl.out, hdr5_len]; omega) (Nat.le_trans b1.size (by simp)) ?_; (rw [HH.out]; omega); (rw [HH.out]; omega); (rw [HS.out]; omega); (rw [HS.out]; omega); omega; intro v2 w2 hown2 hgrow2; have bel2 := (b1.alloc b1.size _).grown hgrow2 (Nat.le_trans b1.size (by simp)) (fun i hi => by injection hi with hi; have hi' : w1.heap.size = i := hi; have := b1.size; omega); rw [← HE.out] at hown2; obtain ⟨A2, c2', rfl, hA2, hn2, _, _⟩ := hown2.reads_len (n := 5 + M) HL.out))
  refine (refAppend16_len A2 E (5 + M) c2' w2 HL.out hA2 hn2 (by omega)).mono ?_
  rintro e w3 ⟨v3, rfl, hown3, hb3⟩
  go_wp2
  go_ret2
  exact ⟨v3, rfl, hown3.more bel2.size, bel2.trans (hb3.mono bel2.size)⟩

set_option maxHeartbeats 1000000 in
theorem yencode_no (byp con : Bool) (cr ch sq : Int) (a : Option Addr) (l : List Byte) (n c : Nat) (w : World) (hl : Hid (l.length = n)) (hm : n ≤ maxLen) (hok : Fr.ok ⟨byp, con, cr, ch, sq, l⟩ = false) :
    Calls Try.prog 10 #[.agg #[.bool byp, .bool con, .int .i64 cr, .int .i64 ch, .int .i64 sq, .slice a n c]] w fun e w' => e = .returned (.tuple #[.slice none 0 0, .int .i64 1]) ∧ Below w.heap.size w w' := by
  have hv := fun W => yvalid_any byp con cr ch sq a l n c W hl hm
  rw [hok] at hv
  clear hok hl hm
  go_enter Try.func10, Try.ntmps10
  go_wp2_with fail
  refine (hv _).mono ?_
  rintro e w' ⟨rfl, hbe⟩
  go_wp2
  go_ret2
  exact ⟨rfl, (bel_new _ _).trans (hbe.mono (bel_new _ _).size)⟩

theorem yencode_any (byp con : Bool) (cr ch sq : Int) (a : Option Addr) (l : List Byte) (n c : Nat) (w : World) (hl : Hid (l.length = n)) (hb : Bs w w.heap.size a l) (hn : a = none → c = 0) (hm : n ≤ maxLen) :
    Calls Try.prog 10 #[.agg #[.bool byp, .bool con, .int .i64 cr, .int .i64 ch, .int .i64 sq, .slice a n c]] w fun e w' => ∃ v, e = .returned (.tuple #[v, .int .i64 (Fr.err ⟨byp, con, cr, ch, sq, l⟩)]) ∧ Ow w' w.heap.size 5 v (Fr.enc ⟨byp, con, cr, ch, sq, l⟩) ∧ Below w.heap.size w w' := by
  cases hok : Fr.ok ⟨byp, con, cr, ch, sq, l⟩ with
  | false =>
    rw [Fr.enc_no hok, Fr.err_no hok]
    exact (yencode_no byp con cr ch sq a l n c w hl hm hok).mono fun e w' ⟨h1, h2⟩ => ⟨_, h1, Ow_nil _ _, h2⟩
  | true =>
    rw [Fr.enc_yes hok, Fr.err_yes hok]
    have hF := Fr.ok_fits hok
    have hbc := hok
    rw [Fr.ok_yes hF] at hbc
    obtain ⟨h1, h2, h3, h4, h5, h6, h7, h8⟩ := hF
    simp only at h1 h2 h3 h4 h5 h6 h7 h8 hbc
    have hln := hl.out
    obtain ⟨C, rfl⟩ := Int.eq_ofNat_of_zero_le h1
    obtain ⟨H, rfl⟩ := Int.eq_ofNat_of_zero_le h3
    obtain ⟨Q, rfl⟩ := Int.eq_ofNat_of_zero_le h5
    unfold Fr.head
    simp only [Int.toNat_natCast, hln]
    cases byp <;> cases con
    · exact yencode_ff C H Q n a l c w hl hb hn hok (by omega) (by omega) (by omega) (by omega)
    · exact absurd hbc (by decide)
    · exact yencode_tf C H Q n a l c w hl hb hn hok (by omega) (by omega) (by omega) (by omega)
    · exact yencode_tt C H Q n a l c w hl hb hn hok (by omega) (by omega) (by omega) (by omega)

set_option maxHeartbeats 1000000 in
theorem ysame_any (byp con : Bool) (cr ch sq : Int) (a p : Option Addr) (l : List Byte) (n c k : Nat) (w : World) (hD : Rd w a l n c) (hE : Rd w p l n k) :
    Calls Try.prog 17 #[.agg #[.bool byp, .bool con, .int .i64 cr, .int .i64 ch, .int .i64 sq, .slice a n c], .agg #[.bool byp, .bool con, .int .i64 cr, .int .i64 ch, .int .i64 sq, .slice p n k]] w fun e w' => e = .returned (.bool true) ∧ Below w.heap.size w w' := by
  obtain ⟨W1, hW1⟩ : ∃ W1, W1 = (w.alloc (.cells #[.bool byp, .bool con, .int .i64 cr, .int .i64 ch, .int .i64 sq, .slice a n c] 24)).alloc (.cells #[.bool byp, .bool con, .int .i64 cr, .int .i64 ch, .int .i64 sq, .slice p n k] 24) := ⟨_, rfl⟩
  have b1 : Below w.heap.size w W1 := by rw [hW1]; exact (bel_new _ _).alloc (bel_new _ _).size _
  have s1 := run_str (P := Try.prog) W1 is_bytes Try.underlying9 (hD.later b1).bs hD.nil
  have s2 := run_str (P := Try.prog) W1 is_bytes Try.underlying9 (hE.later b1).bs hE.nil
  rw [hD.len, hW1] at s1
  rw [hE.len, hW1] at s2
  rw [hW1] at b1
  have e0 : (byp == byp) = true := by simp
  have e1 : (con == con) = true := by simp
  have e2 : (cr == cr) = true := by simp
  have e3 : (ch == ch) = true := by simp
  have e4 : (sq == sq) = true := by simp
  have e5 : ((str l).toList == (str l).toList) = true := by simp
  clear hW1 hD hE
  go_enter Try.func17, Try.ntmps17
  go_wp2
  go_ret
  exact ⟨rfl, b1⟩

set_option maxHeartbeats 400000 in
theorem ydir_noByp (con : Bool) (cr ch sq : Int) (a : Option Addr) (n c : Nat) (w : World) :
    Calls Try.prog 12 #[.agg #[.bool false, .bool con, .int .i64 cr, .int .i64 ch, .int .i64 sq, .slice a n c]] w fun e w' => e = .returned (.tuple #[.int .i64 0, .int .i64 0, .bool false]) ∧ Below w.heap.size w w' := by
  go_enter Try.func12, Try.ntmps12
  go_wp2
  go_ret3
  exact ⟨rfl, bel_new _ _⟩

set_option maxHeartbeats 400000 in
theorem ydir_noCon (cr ch sq : Int) (a : Option Addr) (n c : Nat) (w : World) :
    Calls Try.prog 12 #[.agg #[.bool true, .bool false, .int .i64 cr, .int .i64 ch, .int .i64 sq, .slice a n c]] w fun e w' => e = .returned (.tuple #[.int .i64 0, .int .i64 0, .bool false]) ∧ Below w.heap.size w w' := by
  go_enter Try.func12, Try.ntmps12
  go_wp2
  go_ret3
  exact ⟨rfl, bel_new _ _⟩

theorem toNat_ne {x y : Byte} (h : x ≠ y) : x.toNat ≠ y.toNat := fun e => h (BitVec.eq_of_toNat_eq e)

set_option maxHeartbeats 1000000 in
theorem ydir_else (cr ch sq : Int) (a : Option Addr) (n c : Nat) (w : World) (h1 : n ≠ 1) (h3 : n ≠ 3) :
    Calls Try.prog 12 #[.agg #[.bool true, .bool true, .int .i64 cr, .int .i64 ch, .int .i64 sq, .slice a n c]] w fun e w' => e = .returned (.tuple #[.int .i64 0, .int .i64 0, .bool false]) ∧ Below w.heap.size w w' := by
  have g1 : ((n : Int) == 1) = false := by simp; omega
  have g2 : (n == 1) = false := by simpa using h1
  have g3 : ((n : Int) == 3) = false := by simp; omega
  have g4 : (n == 3) = false := by simpa using h3
  clear h1 h3
  go_enter Try.func12, Try.ntmps12
  go_wp2
  go_ret3
  exact ⟨rfl, bel_new _ _⟩

set_option maxHeartbeats 1000000 in
theorem ydir_one0 (x0 : Byte) (cr ch sq : Int) (b off c : Nat) (w : World) (hlt : b < w.heap.size) (k0' : w.cell? ⟨b, off, none⟩ = some (.int .u8 (x0.toNat : Int))) (h0 : x0 = 0#8) :
    Calls Try.prog 12 #[.agg #[.bool true, .bool true, .int .i64 cr, .int .i64 ch, .int .i64 sq, .slice (some ⟨b, off, none⟩) 1 c]] w fun e w' => e = .returned (.tuple #[.int .i64 0, .int .i64 0, .bool true]) ∧ Below w.heap.size w w' := by
  have k0 : (w.alloc (.cells #[.bool true, .bool true, .int .i64 cr, .int .i64 ch, .int .i64 sq, .slice (some ⟨b, off, none⟩) 1 c] 24)).cell? ⟨b, off, none⟩ = some (.int .u8 (x0.toNat : Int)) := ((bel_new w _).cell (p := ⟨b, off, none⟩) hlt).trans k0'
  subst h0
  clear k0'
  go_enter Try.func12, Try.ntmps12
  go_wp2
  go_ret3
  exact ⟨rfl, bel_new _ _⟩

set_option maxHeartbeats 1000000 in
theorem ydir_one1 (x0 : Byte) (cr ch sq : Int) (b off c : Nat) (w : World) (hlt : b < w.heap.size) (k0' : w.cell? ⟨b, off, none⟩ = some (.int .u8 (x0.toNat : Int))) (h0 : x0 ≠ 0#8) :
    Calls Try.prog 12 #[.agg #[.bool true, .bool true, .int .i64 cr, .int .i64 ch, .int .i64 sq, .slice (some ⟨b, off, none⟩) 1 c]] w fun e w' => e = .returned (.tuple #[.int .i64 0, .int .i64 0, .bool false]) ∧ Below w.heap.size w w' := by
  have k0 : (w.alloc (.cells #[.bool true, .bool true, .int .i64 cr, .int .i64 ch, .int .i64 sq, .slice (some ⟨b, off, none⟩) 1 c] 24)).cell? ⟨b, off, none⟩ = some (.int .u8 (x0.toNat : Int)) := ((bel_new w _).cell (p := ⟨b, off, none⟩) hlt).trans k0'
  have n0 := toNat_ne h0
  have j0 : ((x0.toNat : Int) == 0) = false := by simp; exact fun e => n0 (by rw [e]; rfl)
  clear k0' h0 n0
  go_enter Try.func12, Try.ntmps12
  go_wp2
  go_ret3
  exact ⟨rfl, bel_new _ _⟩

set_option maxHeartbeats 1000000 in
theorem ydir_three0 (x0 : Byte) (cr ch sq : Int) (b off c : Nat) (w : World) (hlt : b < w.heap.size) (k0' : w.cell? ⟨b, off, none⟩ = some (.int .u8 (x0.toNat : Int))) (h0 : x0 ≠ 130#8) :
    Calls Try.prog 12 #[.agg #[.bool true, .bool true, .int .i64 cr, .int .i64 ch, .int .i64 sq, .slice (some ⟨b, off, none⟩) 3 c]] w fun e w' => e = .returned (.tuple #[.int .i64 0, .int .i64 0, .bool false]) ∧ Below w.heap.size w w' := by
  have k0 : (w.alloc (.cells #[.bool true, .bool true, .int .i64 cr, .int .i64 ch, .int .i64 sq, .slice (some ⟨b, off, none⟩) 3 c] 24)).cell? ⟨b, off, none⟩ = some (.int .u8 (x0.toNat : Int)) := ((bel_new w _).cell (p := ⟨b, off, none⟩) hlt).trans k0'
  have n0 := toNat_ne h0
  have j0 : ((x0.toNat : Int) == 130) = false := by
    have e : (130#8 : Byte).toNat = 130 := rfl
    rw [e] at n0
    simp; omega
  clear k0' h0 n0
  go_enter Try.func12, Try.ntmps12
  go_wp2
  go_ret3
  exact ⟨rfl, bel_new _ _⟩

set_option maxHeartbeats 1000000 in
theorem ydir_three1 (x0 x1 : Byte) (cr ch sq : Int) (b off c : Nat) (w : World) (hlt : b < w.heap.size) (k0' : w.cell? ⟨b, off, none⟩ = some (.int .u8 (x0.toNat : Int))) (k1' : w.cell? ⟨b, off + 1, none⟩ = some (.int .u8 (x1.toNat : Int))) (h0 : x0 = 130#8) (h1 : x1 ≠ 0#8) :
    Calls Try.prog 12 #[.agg #[.bool true, .bool true, .int .i64 cr, .int .i64 ch, .int .i64 sq, .slice (some ⟨b, off, none⟩) 3 c]] w fun e w' => e = .returned (.tuple #[.int .i64 0, .int .i64 0, .bool false]) ∧ Below w.heap.size w w' := by
  have k0 : (w.alloc (.cells #[.bool true, .bool true, .int .i64 cr, .int .i64 ch, .int .i64 sq, .slice (some ⟨b, off, none⟩) 3 c] 24)).cell? ⟨b, off, none⟩ = some (.int .u8 (x0.toNat : Int)) := ((bel_new w _).cell (p := ⟨b, off, none⟩) hlt).trans k0'
  have k1 : (w.alloc (.cells #[.bool true, .bool true, .int .i64 cr, .int .i64 ch, .int .i64 sq, .slice (some ⟨b, off, none⟩) 3 c] 24)).cell? ⟨b, off + 1, none⟩ = some (.int .u8 (x1.toNat : Int)) := ((bel_new w _).cell (p := ⟨b, off + 1, none⟩) hlt).trans k1'
  subst h0
  have n0 := toNat_ne h1
  have j0 : ((x1.toNat : Int) == 0) = false := by simp; exact fun e => n0 (by rw [e]; rfl)
  clear k0' k1' h1 n0
  go_enter Try.func12, Try.ntmps12
  go_wp2
  go_ret3
  exact ⟨rfl, bel_new _ _⟩

set_option maxHeartbeats 1000000 in
theorem ydir_three2 (x0 x1 x2 : Byte) (cr ch sq : Int) (b off c : Nat) (w : World) (hlt : b < w.heap.size) (k0' : w.cell? ⟨b, off, none⟩ = some (.int .u8 (x0.toNat : Int))) (k1' : w.cell? ⟨b, off + 1, none⟩ = some (.int .u8 (x1.toNat : Int))) (k2' : w.cell? ⟨b, off + 2, none⟩ = some (.int .u8 (x2.toNat : Int))) (h0 : x0 = 130#8) (h1 : x1 = 0#8) :
    Calls Try.prog 12 #[.agg #[.bool true, .bool true, .int .i64 cr, .int .i64 ch, .int .i64 sq, .slice (some ⟨b, off, none⟩) 3 c]] w fun e w' => e = .returned (.tuple #[.int .i64 1, .int .i64 (x2.toNat : Int), .bool true]) ∧ Below w.heap.size w w' := by
  have k0 : (w.alloc (.cells #[.bool true, .bool true, .int .i64 cr, .int .i64 ch, .int .i64 sq, .slice (some ⟨b, off, none⟩) 3 c] 24)).cell? ⟨b, off, none⟩ = some (.int .u8 (x0.toNat : Int)) := ((bel_new w _).cell (p := ⟨b, off, none⟩) hlt).trans k0'
  have k1 : (w.alloc (.cells #[.bool true, .bool true, .int .i64 cr, .int .i64 ch, .int .i64 sq, .slice (some ⟨b, off, none⟩) 3 c] 24)).cell? ⟨b, off + 1, none⟩ = some (.int .u8 (x1.toNat : Int)) := ((bel_new w _).cell (p := ⟨b, off + 1, none⟩) hlt).trans k1'
  have k2 : (w.alloc (.cells #[.bool true, .bool true, .int .i64 cr, .int .i64 ch, .int .i64 sq, .slice (some ⟨b, off, none⟩) 3 c] 24)).cell? ⟨b, off + 2, none⟩ = some (.int .u8 (x2.toNat : Int)) := ((bel_new w _).cell (p := ⟨b, off + 2, none⟩) hlt).trans k2'
  subst h0 h1
  clear k0' k1' k2'
  go_enter Try.func12, Try.ntmps12
  go_wp2
  go_quiet (fail)
  go_wp2
  go_ret3
  exact ⟨rfl, (bel_new _ _).trans (bel_drewN _ _ _)⟩

theorem ydirective_any (byp con : Bool) (cr ch sq : Int) (a : Option Addr) (l : List Byte) (n c : Nat) (w : World) (hD : Rd w a l n c) :
    Calls Try.prog 12 #[.agg #[.bool byp, .bool con, .int .i64 cr, .int .i64 ch, .int .i64 sq, .slice a n c]] w fun e w' => e = .returned (.tuple #[.int .i64 (dir byp con l).1, .int .i64 (dir byp con l).2.1, .bool (dir byp con l).2.2]) ∧ Below w.heap.size w w' := by
  cases byp with
  | false => rw [dir_off rfl]; exact ydir_noByp con cr ch sq a n c w
  | true =>
    cases con with
    | false => rw [dir_off rfl]; exact ydir_noCon cr ch sq a n c w
    | true =>
      have hlen := hD.len
      match l, hlen, hD with
      | [x0], hlen, hD =>
        subst hlen
        obtain ⟨b, off, rfl, hlt, hc⟩ := hD.bs (by simp)
        have k0 := hc 0 x0 rfl
        by_cases h0 : x0 = 0#8
        · rw [h0, dir_unlock]
          exact ydir_one0 x0 cr ch sq b off c w hlt k0 h0
        · rw [dir_else (by simpa using h0) (by simp)]
          exact ydir_one1 x0 cr ch sq b off c w hlt k0 h0
      | [x0, x1, x2], hlen, hD =>
        subst hlen
        obtain ⟨b, off, rfl, hlt, hc⟩ := hD.bs (by simp)
        have k0 := hc 0 x0 rfl
        have k1 := hc 1 x1 rfl
        have k2 := hc 2 x2 rfl
        by_cases h0 : x0 = 130#8
        · by_cases h1 : x1 = 0#8
          · rw [h0, h1, dir_next]
            exact ydir_three2 x0 x1 x2 cr ch sq b off c w hlt k0 k1 k2 h0 h1
          · rw [dir_else (by simp) (by simp [h1])]
            exact ydir_three1 x0 x1 cr ch sq b off c w hlt k0 k1 h0 h1
        · rw [dir_else (by simp) (by simp [h0])]
          exact ydir_three0 x0 cr ch sq b off c w hlt k0 h0
      | [], hlen, hD =>
        rw [dir_else (by simp) (by simp)]
        exact ydir_else cr ch sq a n c w (by simp at hlen; omega) (by simp at hlen; omega)
      | [_, _], hlen, hD =>
        rw [dir_else (by simp) (by simp)]
        exact ydir_else cr ch sq a n c w (by simp at hlen; omega) (by simp at hlen; omega)
      | _ :: _ :: _ :: _ :: r, hlen, hD =>
        rw [dir_else (by simp) (by simp)]
        exact ydir_else cr ch sq a n c w (by simp at hlen; omega) (by simp at hlen; omega)
end Go.Proofs.Ytdichdoabhabjaa.Tcf
