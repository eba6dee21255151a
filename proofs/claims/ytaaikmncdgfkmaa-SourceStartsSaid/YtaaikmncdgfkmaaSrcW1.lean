/-
  Package source: metadata, piece, eof.
-/
import Derived.Test.YtaaikmncdgfkmaaSrcW0
import Derived.Test.YtaaikmncdgfkmaaFsmW0
import Derived.Test.YtaaikmncdgfkmaaHand
import Derived.Lib.ConvBytes
import Derived.WalkSpells
namespace Go.Proofs.Ytaaikmncdgfkmaa.Src
open Go.RowKit
open Go.Proofs.Ytaaikmncdgfkmaa.Pdu (Pd)
open Go.Proofs.Ytaaikmncdgfkmaa.Rng (R)
open Go.Proofs.Ytaaikmncdgfkmaa.Fsm (ps)

/-- '[]byte(s)' -/
theorem conv_bytes (l : List Byte) (n : Nat) (hn : l.length = n) (hl : n ≤ 100000) (w : World) :
    ∃ c W, (convert 9 24 (.string (str l))).run Try.prog w = .ok (.slice (some ⟨w.heap.size, 0, none⟩) n c) W ∧ By W w.heap.size (some ⟨w.heap.size, 0, none⟩) l n c ∧ Below w.heap.size w W := by
  have hsz : (str l).size = n := by rw [← hn]; simp [str, ByteArray.size]
  have h1 := Lib.run_convert_string_bytes (P := Try.prog) w 9 24 5 (str l) Try.underlying9 Try.underlying24 Try.underlying5
  have h2 := grownCap_ge w (str l).size 0 5
  have h3 := grownCap_le_maxLen w (str l).size 0 5 (by rw [hsz]; unfold maxLen; omega)
  refine ⟨grownCap w (str l).size 0 5, Lib.bytesWorld w 5 (str l), by rw [h1, hsz], ?_, ?_⟩
  · refine ⟨fun _ => ⟨w.heap.size, 0, rfl, Nat.le_refl _, by rw [Lib.bytesWorld_size]; omega, ?_, fun i x hx => ?_⟩, hn, (fun h => nomatch h), by rw [← hsz]; exact h2, h3⟩
    · refine ⟨Lib.bytesCells w 5 (str l), ((Lib.bytesCells w 5 (str l)).size, (Lib.bytesCells w 5 (str l)).size + 1), ?_⟩
      simp [Lib.bytesWorld, World.freeze, World.alloc, World.drew, -World.alloc_eq, -World.drew_eq, Array.getElem_modify]
    have hi := (List.getElem?_eq_some_iff.1 hx).1
    rw [Nat.zero_add, Lib.bytesWorld_cell w _ _ i (by rw [hsz]; omega)]
    have : (str l).data.toList.getD i 0 = UInt8.ofBitVec x := by
      simp [str, List.getD, hx]
    rw [this]
    rfl
  · refine ⟨?_, ?_, ?_, by rw [Lib.bytesWorld_size]; omega, fun k hk => Lib.bytesWorld_at_old w _ _ k hk⟩
    all_goals simp [Lib.bytesWorld, World.freeze, World.alloc, World.drew, -World.alloc_eq, -World.drew_eq]
theorem str_len (l : List Byte) : (str l).size = l.length := by simp [str, ByteArray.size]

theorem meta_results {tmps : Array Value} {W : World} {g : Nat} {x0 x1 x2 x3 x4 x5 x6 x7 x8 x9 x10 : Value} (h2 : tmps.getD 2 undef = .pointer (some ⟨g, 0, none⟩)) (hC : Cel W g 45 #[x0, x1, x2, x3, x4, x5, x6, x7, x8, x9, x10]) :
    (results Try.f21 tmps).run Try.prog W = .ok (.agg #[x0, x1, x2, x3, x4, x5, x6, x7, x8, x9, x10]) W := by
  have c0 := hC.cell 0
  have c1 := hC.cell 1
  have c2 := hC.cell 2
  have c3 := hC.cell 3
  have c4 := hC.cell 4
  have c5 := hC.cell 5
  have c6 := hC.cell 6
  have c7 := hC.cell 7
  have c8 := hC.cell 8
  have c9 := hC.cell 9
  have c10 := hC.cell 10
  simp only [Array.getD_eq_getD_getElem?] at h2
  simp [results, Try.results21, go_sem, h2, c0, c1, c2, c3, c4, c5, c6, c7, c8, c9, c10] at *
theorem eof_results {tmps : Array Value} {W : World} {g : Nat} {x0 x1 x2 x3 x4 x5 x6 x7 x8 x9 x10 : Value} (h2 : tmps.getD 2 undef = .pointer (some ⟨g, 0, none⟩)) (hC : Cel W g 45 #[x0, x1, x2, x3, x4, x5, x6, x7, x8, x9, x10]) :
    (results Try.f28 tmps).run Try.prog W = .ok (.agg #[x0, x1, x2, x3, x4, x5, x6, x7, x8, x9, x10]) W := by
  have c0 := hC.cell 0
  have c1 := hC.cell 1
  have c2 := hC.cell 2
  have c3 := hC.cell 3
  have c4 := hC.cell 4
  have c5 := hC.cell 5
  have c6 := hC.cell 6
  have c7 := hC.cell 7
  have c8 := hC.cell 8
  have c9 := hC.cell 9
  have c10 := hC.cell 10
  simp only [Array.getD_eq_getD_getElem?] at h2
  simp [results, Try.results28, go_sem, h2, c0, c1, c2, c3, c4, c5, c6, c7, c8, c9, c10] at *
theorem ack_results {tmps : Array Value} {W : World} {g : Nat} {x0 x1 x2 x3 x4 x5 x6 x7 x8 x9 x10 : Value} (h2 : tmps.getD 2 undef = .pointer (some ⟨g, 0, none⟩)) (hC : Cel W g 45 #[x0, x1, x2, x3, x4, x5, x6, x7, x8, x9, x10]) :
    (results Try.f27 tmps).run Try.prog W = .ok (.agg #[x0, x1, x2, x3, x4, x5, x6, x7, x8, x9, x10]) W := by
  have c0 := hC.cell 0
  have c1 := hC.cell 1
  have c2 := hC.cell 2
  have c3 := hC.cell 3
  have c4 := hC.cell 4
  have c5 := hC.cell 5
  have c6 := hC.cell 6
  have c7 := hC.cell 7
  have c8 := hC.cell 8
  have c9 := hC.cell 9
  have c10 := hC.cell 10
  simp only [Array.getD_eq_getD_getElem?] at h2
  simp [results, Try.results27, go_sem, h2, c0, c1, c2, c3, c4, c5, c6, c7, c8, c9, c10] at *
theorem ans_results {tmps : Array Value} {W : World} {g : Nat} {x0 x1 x2 x3 x4 x5 x6 x7 x8 x9 x10 : Value} (h2 : tmps.getD 2 undef = .pointer (some ⟨g, 0, none⟩)) (hC : Cel W g 45 #[x0, x1, x2, x3, x4, x5, x6, x7, x8, x9, x10]) :
    (results Try.f30 tmps).run Try.prog W = .ok (.agg #[x0, x1, x2, x3, x4, x5, x6, x7, x8, x9, x10]) W := by
  have c0 := hC.cell 0
  have c1 := hC.cell 1
  have c2 := hC.cell 2
  have c3 := hC.cell 3
  have c4 := hC.cell 4
  have c5 := hC.cell 5
  have c6 := hC.cell 6
  have c7 := hC.cell 7
  have c8 := hC.cell 8
  have c9 := hC.cell 9
  have c10 := hC.cell 10
  simp only [Array.getD_eq_getD_getElem?] at h2
  simp [results, Try.results30, go_sem, h2, c0, c1, c2, c3, c4, c5, c6, c7, c8, c9, c10] at *
theorem pro_results {tmps : Array Value} {W : World} {g : Nat} {x0 x1 x2 x3 x4 x5 x6 x7 x8 x9 x10 : Value} (h2 : tmps.getD 2 undef = .pointer (some ⟨g, 0, none⟩)) (hC : Cel W g 45 #[x0, x1, x2, x3, x4, x5, x6, x7, x8, x9, x10]) :
    (results Try.f31 tmps).run Try.prog W = .ok (.agg #[x0, x1, x2, x3, x4, x5, x6, x7, x8, x9, x10]) W := by
  have c0 := hC.cell 0
  have c1 := hC.cell 1
  have c2 := hC.cell 2
  have c3 := hC.cell 3
  have c4 := hC.cell 4
  have c5 := hC.cell 5
  have c6 := hC.cell 6
  have c7 := hC.cell 7
  have c8 := hC.cell 8
  have c9 := hC.cell 9
  have c10 := hC.cell 10
  simp only [Array.getD_eq_getD_getElem?] at h2
  simp [results, Try.results31, go_sem, h2, c0, c1, c2, c3, c4, c5, c6, c7, c8, c9, c10] at *
theorem pie_results {tmps : Array Value} {W : World} {g : Nat} {x0 x1 x2 x3 x4 x5 x6 x7 x8 x9 x10 : Value} (h2 : tmps.getD 4 undef = .pointer (some ⟨g, 0, none⟩)) (hC : Cel W g 45 #[x0, x1, x2, x3, x4, x5, x6, x7, x8, x9, x10]) :
    (results Try.f49 tmps).run Try.prog W = .ok (.agg #[x0, x1, x2, x3, x4, x5, x6, x7, x8, x9, x10]) W := by
  have c0 := hC.cell 0
  have c1 := hC.cell 1
  have c2 := hC.cell 2
  have c3 := hC.cell 3
  have c4 := hC.cell 4
  have c5 := hC.cell 5
  have c6 := hC.cell 6
  have c7 := hC.cell 7
  have c8 := hC.cell 8
  have c9 := hC.cell 9
  have c10 := hC.cell 10
  simp only [Array.getD_eq_getD_getElem?] at h2
  simp [results, Try.results49, go_sem, h2, c0, c1, c2, c3, c4, c5, c6, c7, c8, c9, c10] at *
theorem nxt_results {tmps : Array Value} {W : World} {g : Nat} {x0 x1 x2 x3 x4 x5 x6 x7 x8 x9 x10 : Value} {y : Bool} (h2 : tmps.getD 4 undef = .pointer (some ⟨g, 0, none⟩)) (h3 : tmps.getD 5 undef = .bool y) (hC : Cel W g 45 #[x0, x1, x2, x3, x4, x5, x6, x7, x8, x9, x10]) :
    (results Try.f13 tmps).run Try.prog W = .ok (.tuple #[.agg #[x0, x1, x2, x3, x4, x5, x6, x7, x8, x9, x10], .bool y]) W := by
  have c0 := hC.cell 0
  have c1 := hC.cell 1
  have c2 := hC.cell 2
  have c3 := hC.cell 3
  have c4 := hC.cell 4
  have c5 := hC.cell 5
  have c6 := hC.cell 6
  have c7 := hC.cell 7
  have c8 := hC.cell 8
  have c9 := hC.cell 9
  have c10 := hC.cell 10
  simp only [Array.getD_eq_getD_getElem?] at h2 h3
  simp [results, Try.results13, go_sem, h2, h3, c0, c1, c2, c3, c4, c5, c6, c7, c8, c9, c10] at *
theorem rep_results {tmps : Array Value} {W : World} {g : Nat} {x0 x1 x2 x3 x4 x5 x6 x7 x8 x9 x10 : Value} {y : Bool} (h2 : tmps.getD 2 undef = .pointer (some ⟨g, 0, none⟩)) (h3 : tmps.getD 3 undef = .bool y) (hC : Cel W g 45 #[x0, x1, x2, x3, x4, x5, x6, x7, x8, x9, x10]) :
    (results Try.f32 tmps).run Try.prog W = .ok (.tuple #[.agg #[x0, x1, x2, x3, x4, x5, x6, x7, x8, x9, x10], .bool y]) W := by
  have c0 := hC.cell 0
  have c1 := hC.cell 1
  have c2 := hC.cell 2
  have c3 := hC.cell 3
  have c4 := hC.cell 4
  have c5 := hC.cell 5
  have c6 := hC.cell 6
  have c7 := hC.cell 7
  have c8 := hC.cell 8
  have c9 := hC.cell 9
  have c10 := hC.cell 10
  simp only [Array.getD_eq_getD_getElem?] at h2 h3
  simp [results, Try.results32, go_sem, h2, h3, c0, c1, c2, c3, c4, c5, c6, c7, c8, c9, c10] at *
/-- a conversion whose run is known, in a region -/
theorem step_conv {P : Program} (w : World) {ops : Array Oper} {o : Oper} {a : Act} {K : Act → World → Prop} {Q : Exit → Act → World → Prop} {E : Prop} (hgd : o.guard = none) (x : Operand) (src dst : TypeId)
    (ho : o.op = .convert src dst x) {v v' : Value} {w' : World} (hx : a.eval x = v) (hr : (convert src dst v).run P w = .ok v' w') (h : K (a.put o.dst v') w') :
    if Region.wanted o (yielded ops a.tmps) = true then Oper.wp P o a w K Q else E := by
  have hw : Region.wanted o (yielded ops a.tmps) = true := by simp [Region.wanted, hgd]
  rw [if_pos hw]
  unfold Oper.wp execOp
  simp only [ho, hx, Sem.run_bind, hr, Result.andThen_ok, Sem.run_pure]
  exact h
theorem str_sub (l : List Byte) (a b : Nat) : (str l).extract a b = str ((l.drop a).take (b - a)) := by
  apply ByteArray.ext
  rw [ByteArray.data_extract]
  simp [str, List.extract_eq_take_drop, List.map_take, List.map_drop]
theorem slice_str (P : Program) (t : TypeId) (hu : P.underlying t = some .string) (l : List Byte) (a b : Nat) (T : List Byte) (hT : (l.drop a).take (b - a) = T) (hab : a ≤ b) (hb : b ≤ l.length) (w : World) :
    (Instr.slice t (.string (str l)) (some (.int .i64 (a : Int))) (some (.int .i64 (b : Int))) none).run P w = .ok (.string (str T)) w := by
  have := run_slice_string (P := P) w t (str l) .i64 .i64 (a : Int) (b : Int) hu (by omega) (by omega) (by rw [str_len]; omega)
  rw [Int.toNat_natCast, Int.toNat_natCast, str_sub, hT] at this
  exact this
/-- the cells of a new unit's block, laid for a walk -/
structure Ub (W : World) (g : Nat) : Prop where
  d0 : W.cell? ⟨g, 0, none⟩ = some (.int .i64 0)
  d1 : W.cell? ⟨g, 1, none⟩ = some (.int .i64 0)
  d2 : W.cell? ⟨g, 2, none⟩ = some (.int .i64 0)
  d3 : W.cell? ⟨g, 3, none⟩ = some (.int .i64 0)
  d4 : W.cell? ⟨g, 4, none⟩ = some (.string ⟨#[]⟩)
  d5 : W.cell? ⟨g, 5, none⟩ = some (.int .i64 0)
  d6 : W.cell? ⟨g, 6, none⟩ = some (.int .i64 0)
  d7 : W.cell? ⟨g, 7, none⟩ = some (.slice none 0 0)
  d8 : W.cell? ⟨g, 8, none⟩ = some (.int .u32 0)
  d9 : W.cell? ⟨g, 9, none⟩ = some (.int .i64 0)
  d10 : W.cell? ⟨g, 10, none⟩ = some (.slice none 0 0)
  f : ∀ i, W.frozen? ⟨g, i, none⟩ = false
theorem Ub.of {W : World} {g : Nat} (h : Cel W g 45 #[.int .i64 0, .int .i64 0, .int .i64 0, .int .i64 0, .string ⟨#[]⟩, .int .i64 0, .int .i64 0, .slice none 0 0, .int .u32 0, .int .i64 0, .slice none 0 0]) : Ub W g := ⟨h.cell 0, h.cell 1, h.cell 2, h.cell 3, h.cell 4, h.cell 5, h.cell 6, h.cell 7, h.cell 8, h.cell 9, h.cell 10, h.free⟩
section
variable {K : Kc} {s : SS} {A : Option Addr} {n c : Nat} {g : Nat} {w : World}
set_option maxHeartbeats 4000000 in
theorem smeta_any (h : FC w g K s A n c) :
    Calls Try.prog 21 #[.pointer (some ⟨g, 0, none⟩)] w fun e w' => e = .returned (.agg #[.int .i64 1, .int .i64 K.sr, .int .i64 K.nm, .int .i64 K.cl, .string (str K.na), .int .i64 (K.da.length : Int), .int .i64 0, .slice none 0 0, .int .u32 0, .int .i64 0, .slice none 0 0]) ∧ Below w.heap.size w w' := by
  obtain ⟨W, hW, hu, hb, hs⟩ := unit_box w
  have HE := Lib.hid (box_drew hu hb (Nat.le_refl _))
  have hz := str_len K.da
  obtain ⟨D, hD⟩ : ∃ D, D = K.da.length := ⟨_, rfl⟩
  rw [← hD] at hz ⊢
  have h' := h.below hb
  have c0 := h'.c0
  have c1 := h'.c1
  have c2 := h'.c2
  have c3 := h'.c3
  have c4 := h'.c4
  obtain ⟨d0, d1, d2, d3, d4, d5, d6, d7, d8, d9, d10, ff⟩ := Ub.of hu
  have f0 := ff 0
  have f1 := ff 1
  have f2 := ff 2
  have f3 := ff 3
  have f4 := ff 4
  have f5 := ff 5
  have f6 := ff 6
  have f7 := ff 7
  have f8 := ff 8
  have f9 := ff 9
  have f10 := ff 10
  clear ff
  clear h h' hb hu hD
  go_enter Try.func21, Try.ntmps21
  go_wp2_with fail
  rw [← hW]
  clear hW hs
  go_region
  go_wp2
  have e := HE.out
  refine bodyPost_ret (meta_results rfl (e _ _ _ _ _ _ _ _ _ _ _).1) rfl ⟨rfl, (e _ _ _ _ _ _ _ _ _ _ _).2⟩
set_option maxRecDepth 100000 in
set_option maxHeartbeats 4000000 in
theorem spiece_any (h : FC w g K s A n c) (a b : Nat) (hab : a ≤ b) (hbN : b ≤ K.da.length) (hN : K.da.length ≤ 70000) (T : List Byte) (m : Nat) (hT : (K.da.drop a).take (b - a) = T) (hm : b - a = m) :
    Calls Try.prog 49 #[.pointer (some ⟨g, 0, none⟩), .agg #[.int .i64 (a : Int), .int .i64 (b : Int)]] w fun e w' => (∃ A c, e = .returned (.agg #[.int .i64 2, .int .i64 K.sr, .int .i64 K.nm, .int .i64 0, .string ⟨#[]⟩, .int .i64 0, .int .i64 (a : Int), .slice A m c, .int .u32 0, .int .i64 0, .slice none 0 0]) ∧ By w' w.heap.size A T m c) ∧ Below w.heap.size w w' := by
  obtain ⟨W0, hW0⟩ : ∃ W0, W0 = w.alloc (.cells #[.int .i64 (a : Int), .int .i64 (b : Int)] 62) := ⟨_, rfl⟩
  have hb0 : Below w.heap.size w W0 := by rw [hW0]; exact bel_new w _
  have hs0 : W0.heap.size = w.heap.size + 1 := by rw [hW0]; simp
  have hr0 : Cel W0 w.heap.size 62 #[.int .i64 (a : Int), .int .i64 (b : Int)] := by rw [hW0]; exact Cel.new w _ _
  obtain ⟨W, hW, hu, hb1, hs1⟩ := unit_box W0
  have hb := hb0.trans (hb1.mono hb0.size)
  have hr := Cel.on hr0 hb1
  have h' := h.below hb
  have c0 := h'.c0
  have c1 := h'.c1
  have c4 := h'.c4
  have r0 : W.cell? ⟨w.heap.size, 0, none⟩ = some (.int .i64 (a : Int)) := hr.cell 0
  have r1 : W.cell? ⟨w.heap.size, 1, none⟩ = some (.int .i64 (b : Int)) := hr.cell 1
  have hsl := fun wx => slice_str Try.prog 9 Try.underlying9 K.da a b T hT hab hbN wx
  have hTl : T.length = m := by rw [← hT, ← hm, List.length_take_of_le (by rw [List.length_drop]; omega)]
  have hml : m ≤ 100000 := by omega
  have hg0 := h.lt
  have hg1 := h'.lt
  have hg2 : w.heap.size < W.heap.size := by rw [hs1, hs0]; omega
  have hn6 : g ≠ w.heap.size + 1 := by omega
  have hn7 : w.heap.size ≠ w.heap.size + 1 := by omega
  rw [hs0] at hu
  have HU := Lib.hid hu
  have HB := Lib.hid hb
  clear h h' hb0 hs0 hr0 hb1 hs1 hb hr hu
  go_enter Try.func49, Try.ntmps49
  go_wp2_with fail
  rw [← hW0, ← hW]
  clear hW hW0
  refine wp_region_held_drew (S := fun V => V.cell? ⟨g, 0, none⟩ = some (.int .i64 K.sr) ∧ V.cell? ⟨g, 1, none⟩ = some (.int .i64 K.nm) ∧ V.cell? ⟨g, 4, none⟩ = some (.string (str K.da)) ∧ V.cell? ⟨w.heap.size, 0, none⟩ = some (.int .i64 (a : Int)) ∧ V.cell? ⟨w.heap.size, 1, none⟩ = some (.int .i64 (b : Int))) (by kernel_rfl) (⟨c0, c1, c4, r0, r1⟩) (fun hHeld => ?_)
  refine wpAnyH_here 0 (v := ?_) rfl (by kernel_rfl) (by kernel_rfl) (by kernel_rfl) (fun _ _ _ h => h) (Or.inl ⟨by rfl, ?_⟩) hHeld ?_
  rotate_left
  · intro w hSw; (try dsimp only at hSw); go_simp; all_goals (with_reducible rfl)
  try simp only [Act.put, List.setIfInBounds_toArray, List.set_cons_zero, List.set_cons_succ]
  refine wpAnyH_here 1 (v := ?_) rfl (by kernel_rfl) (by kernel_rfl) (by kernel_rfl) (fun _ _ _ h => h) (Or.inl ⟨by rfl, ?_⟩) hHeld ?_
  rotate_left
  · intro w hSw; (try dsimp only at hSw); go_simp; all_goals (with_reducible rfl)
  try simp only [Act.put, List.setIfInBounds_toArray, List.set_cons_zero, List.set_cons_succ]
  refine wpAnyH_here 2 (v := ?_) rfl (by kernel_rfl) (by kernel_rfl) (by kernel_rfl) (fun _ _ _ h => h) (Or.inl ⟨by rfl, ?_⟩) hHeld ?_
  rotate_left
  · intro w hSw; (try dsimp only at hSw); go_simp; all_goals (with_reducible rfl)
  try simp only [Act.put, List.setIfInBounds_toArray, List.set_cons_zero, List.set_cons_succ]
  refine wpAnyH_here 3 (v := ?_) rfl (by kernel_rfl) (by kernel_rfl) (by kernel_rfl) (fun _ _ _ h => h) (Or.inl ⟨by rfl, ?_⟩) hHeld ?_
  rotate_left
  · intro w hSw; (try dsimp only at hSw); go_simp; all_goals (with_reducible rfl)
  try simp only [Act.put, List.setIfInBounds_toArray, List.set_cons_zero, List.set_cons_succ]
  refine wpAnyH_here 4 (v := ?_) rfl (by kernel_rfl) (by kernel_rfl) (by kernel_rfl) (fun _ _ _ h => h) (Or.inl ⟨by rfl, ?_⟩) hHeld ?_
  rotate_left
  · intro w hSw; (try dsimp only at hSw); go_simp; all_goals (with_reducible rfl)
  try simp only [Act.put, List.setIfInBounds_toArray, List.set_cons_zero, List.set_cons_succ]
  refine wpAnyH_here 5 (v := ?_) rfl (by kernel_rfl) (by kernel_rfl) (by kernel_rfl) (fun _ _ _ h => h) (Or.inl ⟨by rfl, ?_⟩) hHeld ?_
  rotate_left
  · intro w hSw; (try dsimp only at hSw); go_simp; all_goals (with_reducible rfl)
  try simp only [Act.put, List.setIfInBounds_toArray, List.set_cons_zero, List.set_cons_succ]
  refine wpAnyH_here 6 (v := ?_) rfl (by kernel_rfl) (by kernel_rfl) (by kernel_rfl) (fun _ _ _ h => h) (Or.inl ⟨by rfl, ?_⟩) hHeld ?_
  rotate_left
  · intro w hSw; (try dsimp only at hSw); go_simp; all_goals (with_reducible rfl)
  try simp only [Act.put, List.setIfInBounds_toArray, List.set_cons_zero, List.set_cons_succ]
  refine wpAnyH_here 7 (v := ?_) rfl (by kernel_rfl) (by kernel_rfl) (by kernel_rfl) (fun _ _ _ h => h) (Or.inl ⟨by rfl, ?_⟩) hHeld ?_
  rotate_left
  · intro w hSw; (try dsimp only at hSw); go_simp; all_goals (with_reducible rfl)
  try simp only [Act.put, List.setIfInBounds_toArray, List.set_cons_zero, List.set_cons_succ]
  refine wpAnyH_here 8 (v := ?_) rfl (by kernel_rfl) (by kernel_rfl) (by kernel_rfl) (fun _ _ _ h => h) (Or.inl ⟨by rfl, ?_⟩) hHeld ?_
  rotate_left
  · intro w hSw; (try dsimp only at hSw); go_simp; all_goals (with_reducible rfl)
  try simp only [Act.put, List.setIfInBounds_toArray, List.set_cons_zero, List.set_cons_succ]
  refine wpAnyH_here 9 (v := ?_) rfl (by kernel_rfl) (by kernel_rfl) (by kernel_rfl) (fun _ _ _ h => h) (Or.inl ⟨by rfl, ?_⟩) hHeld ?_
  rotate_left
  · intro w hSw; (try dsimp only at hSw); go_simp; all_goals (with_reducible rfl)
  try simp only [Act.put, List.setIfInBounds_toArray, List.set_cons_zero, List.set_cons_succ]
  refine wpAnyH_here 10 (v := ?_) rfl (by kernel_rfl) (by kernel_rfl) (by kernel_rfl) (fun _ _ _ h => h) (Or.inl ⟨by rfl, ?_⟩) hHeld ?_
  rotate_left
  · intro w hSw; (try dsimp only at hSw); go_simp; all_goals (with_reducible rfl)
  try simp only [Act.put, List.setIfInBounds_toArray, List.set_cons_zero, List.set_cons_succ]
  refine wpAnyH_here 11 (v := ?_) rfl (by kernel_rfl) (by kernel_rfl) (by kernel_rfl) (fun _ _ _ h => h) (Or.inl ⟨by rfl, ?_⟩) hHeld ?_
  rotate_left
  · intro w hSw; (try dsimp only at hSw); go_simp; all_goals (with_reducible rfl)
  try simp only [Act.put, List.setIfInBounds_toArray, List.set_cons_zero, List.set_cons_succ]
  refine wpAnyH_here 12 (v := ?_) rfl (by kernel_rfl) (by kernel_rfl) (by kernel_rfl) (fun _ _ _ h => h) (Or.inl ⟨by rfl, ?_⟩) hHeld ?_
  rotate_left
  · intro w hSw; (try dsimp only at hSw); go_simp; all_goals (with_reducible rfl)
  try simp only [Act.put, List.setIfInBounds_toArray, List.set_cons_zero, List.set_cons_succ]
  refine wpAnyH_here 13 (v := ?_) rfl (by kernel_rfl) (by kernel_rfl) (by kernel_rfl) (fun _ _ _ h => h) (Or.inl ⟨by rfl, ?_⟩) hHeld ?_
  rotate_left
  · intro w hSw; (try dsimp only at hSw); go_simp; all_goals (with_reducible rfl)
  try simp only [Act.put, List.setIfInBounds_toArray, List.set_cons_zero, List.set_cons_succ]
  refine wpAnyH_here 14 (v := ?_) rfl (by kernel_rfl) (by kernel_rfl) (by kernel_rfl) (fun _ _ _ h => h) (Or.inl ⟨by rfl, ?_⟩) hHeld ?_
  rotate_left
  · intro w hSw; (try dsimp only at hSw); go_simp; all_goals (with_reducible rfl)
  try simp only [Act.put, List.setIfInBounds_toArray, List.set_cons_zero, List.set_cons_succ]
  refine wpAnyH_alone 15 rfl (by kernel_rfl) (fun K hK => ?_)
  obtain ⟨c5, W5, hrun, hby, hb5⟩ := conv_bytes T m hTl hml W.drew
  refine step_conv _ rfl (.tmp 19) 9 24 rfl (v := .string (str T)) (by simp [Act.eval]) hrun ?_
  have hb6 : Below W.heap.size W W5 := ⟨hb5.os, hb5.tape, hb5.output, hb5.size, hb5.block⟩
  have s5 := And.intro ((hb6.cell (p := ⟨g, 0, none⟩) hg1).trans c0) (And.intro ((hb6.cell (p := ⟨g, 1, none⟩) hg1).trans c1) (And.intro ((hb6.cell (p := ⟨g, 4, none⟩) hg1).trans c4) (And.intro ((hb6.cell (p := ⟨w.heap.size, 0, none⟩) hg2).trans r0) ((hb6.cell (p := ⟨w.heap.size, 1, none⟩) hg2).trans r1))))
  refine hK.out _ _ s5 (fun hHeld => ?_)
  clear hK K
  have hu5 := Cel.on HU.out hb6
  have HE5 := Lib.hid (box_end hu5 (HB.out.trans (hb6.mono (Nat.le_of_lt hg2))) (Nat.le_succ w.heap.size))
  have HY := Lib.hid hby
  have hl5 : w.heap.size < W5.heap.size := Nat.lt_of_lt_of_le hg2 hb6.size
  obtain ⟨d0, d1, d2, d3, d4, d5, d6, d7, d8, d9, d10, ff⟩ := Ub.of hu5
  have f0 := ff 0
  have f1 := ff 1
  have f2 := ff 2
  have f3 := ff 3
  have f4 := ff 4
  have f5 := ff 5
  have f6 := ff 6
  have f7 := ff 7
  have f8 := ff 8
  have f9 := ff 9
  have f10 := ff 10
  have hl6 := Nat.lt_of_lt_of_le hg1 hb6.size
  have HU5 := Lib.hid hu5
  clear hrun hby hb5 hu5
  try simp only [Act.put, List.setIfInBounds_toArray, List.set_cons_zero, List.set_cons_succ]
  refine wpAnyH_here 16 (v := ?_) rfl (by kernel_rfl) (by kernel_rfl) (by kernel_rfl) (fun _ _ _ h => h) (Or.inl ⟨by rfl, ?_⟩) hHeld ?_
  rotate_left
  · intro w hSw; (try dsimp only at hSw); go_simp; all_goals (with_reducible rfl)
  try simp only [Act.put, List.setIfInBounds_toArray, List.set_cons_zero, List.set_cons_succ]
  refine wpAnyH_alone 17 rfl (by kernel_rfl) (fun K hK => ?_)
  go_simp
  skip
  refine hK.out _ _ (⟨cell_only (box_only _ _ _ _ _ _ _ _ _ _ _) hl6 hn6 s5.1, cell_only (box_only _ _ _ _ _ _ _ _ _ _ _) hl6 hn6 s5.2.1, cell_only (box_only _ _ _ _ _ _ _ _ _ _ _) hl6 hn6 s5.2.2.1, cell_only (box_only _ _ _ _ _ _ _ _ _ _ _) hl5 hn7 s5.2.2.2.1, cell_only (box_only _ _ _ _ _ _ _ _ _ _ _) hl5 hn7 s5.2.2.2.2⟩) (fun hHeld => ?_)
  clear hK K
  try simp only [Act.put, List.setIfInBounds_toArray, List.set_cons_zero, List.set_cons_succ]
  refine wpAnyH_done (by kernel_rfl) ?_ _
  go_wp2
  have e := HE5.out
  refine bodyPost_ret (pie_results rfl (e _ _ _ _ _ _ _ _ _ _ _).1) rfl ⟨⟨_, _, rfl, ?_⟩, (e _ _ _ _ _ _ _ _ _ _ _).2⟩
  exact (HY.out.more (b' := w.heap.size) (Nat.le_of_lt hg2)).only (box_only _ _ _ _ _ _ _ _ _ _ _) (not_byte HU5.out (by decide))
set_option maxRecDepth 100000 in
set_option maxHeartbeats 4000000 in
theorem seof_any (h : FC w g K s A n c) (hN : K.da.length ≤ 70000) :
    Calls Try.prog 28 #[.pointer (some ⟨g, 0, none⟩)] w fun e w' => e = .returned (.agg #[.int .i64 3, .int .i64 K.sr, .int .i64 K.nm, .int .i64 K.cl, .string ⟨#[]⟩, .int .i64 (K.da.length : Int), .int .i64 0, .slice none 0 0, .int .u32 ((ps 0 K.da).toNat : Int), .int .i64 s.co, .slice none 0 0]) ∧ Below w.heap.size w w' := by
  obtain ⟨W, hW, hu, hb, hs⟩ := unit_box w
  have hz := str_len K.da
  obtain ⟨D, hD⟩ : ∃ D, K.da.length = D := ⟨_, rfl⟩
  rw [hD] at hz hN ⊢
  obtain ⟨c5, W5, hrun, hby, hb5⟩ := conv_bytes K.da D hD (by omega) W
  have hsum := Fsm.sum_any (some ⟨W.heap.size, 0, none⟩) K.da D c5 W5.heap.size W5 (Lib.hid hD) hby.bx.bs (by omega)
  obtain ⟨P, hP⟩ : ∃ P, P = (ps 0 K.da).toNat := ⟨_, rfl⟩
  rw [← hP] at hsum ⊢
  have hb6 := hb.trans (hb5.mono hb.size)
  have hu5 := Cel.on hu hb5
  have HE := Lib.hid (box_drew hu5 hb6 (Nat.le_refl _))
  have h1 := h.below hb
  have h5 := h1.below hb5
  have e4 := h1.c4
  have c0 := h5.c0
  have c1 := h5.c1
  have c2 := h5.c2
  have c4 := h5.c4
  have c10 := h5.c10
  obtain ⟨d0, d1, d2, d3, d4, d5, d6, d7, d8, d9, d10, ff⟩ := Ub.of hu5
  have f0 := ff 0
  have f1 := ff 1
  have f2 := ff 2
  have f3 := ff 3
  have f4 := ff 4
  have f5 := ff 5
  have f6 := ff 6
  have f7 := ff 7
  have f8 := ff 8
  have f9 := ff 9
  have f10 := ff 10
  clear ff
  rw [hs] at hrun hsum
  rw [hW] at hrun e4
  clear h hb hu hD hP hby hb5 hu5 h1 h5 hb6 hs hN hW
  go_enter Try.func28, Try.ntmps28
  go_wp2_with fail
  refine hsum.mono ?_
  rintro e w2 ⟨rfl, rfl⟩
  clear hsum hrun e4
  go_wp2_with fail
  go_region
  go_wp2
  have e := HE.out
  exact bodyPost_ret (eof_results rfl (e _ _ _ _ _ _ _ _ _ _ _).1) rfl ⟨rfl, (e _ _ _ _ _ _ _ _ _ _ _).2⟩
end
end Go.Proofs.Ytaaikmncdgfkmaa.Src
