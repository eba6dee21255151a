/-
  Package scramble's Sequence: a range over firstBytes' closure that appends each byte.
-/
import Derived.Test.YtahpogmbkkpmdaaScrIter
import Derived.Laws.MakeOwn
namespace Go.Proofs.Ytahpogmbkkpmdaa.Scr
open Go.RowKit Go.Shelf

attribute [local go_sem] Oper.semAt_some

theorem cell_one_new (W : World) (u : Value) (e : TypeId) : ∀ (j : Nat) (u' : Value), [u][j]? = some u' → (W.alloc (.cells #[u] e)).cell? ((⟨W.heap.size, 0, none⟩ : Addr).add j) = some u' := by
  intro j u' hu
  match j, hu with
  | 0, hu =>
    simp at hu
    subst hu
    have := cell_of_row (W.alloc (.cells #[u] e)) W.heap.size 0 _ e (0, 0) (heap_alloc_new W _)
    simp [Addr.add, this]
theorem cel_own {X Y : World} {row : Option Nat} {B : Nat} {t : TypeId} {cs : Array Value} (h : Cel X B t cs) (hg : X.grownBy Y row) (hrow : ∀ r, row = some r → ∃ o : Obj, X.heap[r]? = some o ∧ o.isCells = false) : Cel Y B t cs :=
  (hg.block B h.lt (fun e' => by obtain ⟨o, ho, hc⟩ := hrow B e'.symm; rw [show X.heap[B]? = _ from h] at ho; cases ho; cases hc)).trans h
theorem put_only (W : World) (g i : Nat) (u : Value) : Only [g] W (W.setCell ⟨g, i, none⟩ u) := (Only.refl [g] W).put (.inl (by simp)) u
theorem run_make_bytes (N : Nat) (hN : N ≤ 1099511627776) (w : World) :
    (Instr.makeSlice 22 (.int .i64 0) (.int .i64 (N : Int))).run Try.prog w = .ok (.slice (some ⟨w.heap.size, 0, none⟩) 0 N) (w.alloc (.cells (madeCells #[.int .u8 0] N) 5)) := by
  obtain ⟨ht, _, i, hi, hz, hs, hb⟩ := is_bytes
  have hr := run_make (P := Try.prog) w 22 5 i (.int .u8 0) ht hi hz .i64 .i64 0 N (Int.le_refl _) (by omega) (by rw [hb]; omega) (by omega)
  simp only [Int.toNat_natCast, hs, Nat.mul_one, Int.toNat_zero] at hr
  exact hr
theorem finRange_sq (N : Nat) : (List.finRange N).map (fun x => B8 (sq x.val)) = (seqb N).map B8 := by
  apply List.ext_getElem
  · simp [seqb_len]
  · intro i h1 h2; simp [seqb]

set_option maxRecDepth 100000 in
set_option maxHeartbeats 4000000 in
theorem sequence_in (F : Fence) (n : Nat) (hF : ∀ k, F.fn k) (hro : F.round = none) (hn : 5 ≤ n) (hW : ∀ {f : FuncId} {args : Array Value} {w : World} {R : Ending → World → Prop} (n : Nat), Calls Try.prog f args w R → CallsIn F n Try.prog f args w R)
    (N : Nat) (hm : N ≤ 1099511627776) (w : World) :
    CallsIn F n Try.prog 27 #[.int .i64 (N : Int)] w fun e w' => ∃ v, e = .returned v ∧ Ow w' w.heap.size 5 v (seqb N) ∧ Below w.heap.size w w' := by
  have hmk := run_make_bytes N hm
  obtain ⟨_, _, i0, hi, hz0, hz1, hz2⟩ := is_bytes
  refine callsIn_of_wp_marks Try.func27 rfl (hF _) ?_ hro
  simp only [Try.ntmps27, List.size_toArray, List.length_cons, List.length_nil, Nat.reduceAdd, Nat.reduceSub, Array.replicate_succ, Array.replicate_zero, List.push_toArray, List.append_toArray, List.nil_append, List.cons_append]
  gi_wp2_with fail
  refine ⟨fun _ => by omega, (hW (n - 1) (firstBytes_any _ _)).mono ?_⟩
  rintro e w3 ⟨rfl, hw3⟩
  gi_wp2_with fail
  have hs3 : w3.heap.size = w.heap.size + 3 := by rw [hw3]; simp
  have b01 := (Below.refl w.heap.size w).alloc (Nat.le_refl _) (.cells (madeCells #[.int .u8 0] N) 5)
  have b3 : Below w.heap.size w w3 := by
    rw [hw3]
    exact (b01.alloc (by simp) _).alloc (by simp; omega) _
  have bO : Boxed w3 (w.heap.size + 1) 22 (.slice (some ⟨w.heap.size, 0, none⟩) 0 N) := by
    rw [hw3]
    have := Boxed.new (w.alloc (.cells (madeCells #[.int .u8 0] N) 5)) 22 (.slice (some ⟨w.heap.size, 0, none⟩) 0 N)
    rw [World.size_alloc] at this
    exact this.alloc _
  have cN : Cel w3 (w.heap.size + 1 + 1) 3 #[.int .i64 (N : Int)] := by
    rw [hw3]
    have := Cel.new ((w.alloc (.cells (madeCells #[.int .u8 0] N) 5)).alloc (.cells #[.slice (some ⟨w.heap.size, 0, none⟩) 0 N] 22)) 3 #[.int .i64 (N : Int)]
    rw [World.size_alloc, World.size_alloc] at this
    exact this
  have r0 : w3.ownsRow w.heap.size 5 1 (.slice (some ⟨w.heap.size, 0, none⟩) 0 N) 0 [] := by
    rw [hw3]
    exact ((World.ownsRow_made w _ N (Nat.le_refl _) (by unfold maxLen; omega) (by rw [size_madeCells]; simp)).alloc _).alloc _
  rw [← hw3]
  clear hw3 b01 hmk
  refine wpIn_rangeFunc_ownH hro (by omega) (gf := 30) (lb := #[.pointer (some ⟨w.heap.size + 1 + 1, 0, none⟩)]) rfl (hF _) (enters_of Try.func30 (by kernel_rfl) rfl)
    (bytes_stops F (n - 1) hF hro (by omega) hW (w.heap.size + 1 + 1) N (N : Int) (by omega) (by omega) w3 (by omega) (by have := cN.cell 0; simpa using this)) Kb.trans (Kb_b (by omega)) (Below.refl _ _) (fun _ => rfl)
    (fun pre W => ((∃ v, Boxed W (w.heap.size + 1) 22 v ∧ W.ownsRow w.heap.size 5 1 v pre.length (pre.map fun x => B8 (sq x.val)) ∧ True) ∧ Cel W (w.heap.size + 1 + 1) 3 #[.int .i64 (N : Int)]) ∧ Below w.heap.size w W)
    (fun _ _ _ => False)
    (OwnFrom.and (OwnFrom.and (Own.from (holdsRow_own w.heap.size (w.heap.size + 1) 22 5 1 (fun pre : List (Fin N) => pre.length) (fun pre => pre.map fun x => B8 (sq x.val)) (fun _ _ => True)) _) (fun _ X Y row hs hg hr => cel_own hs hg (fun r e => (hr r e).2))) (ownFrom_below (Nat.le_refl _) (by omega)))
    (fun _ _ _ _ _ hs _ _ => hs)
    ⟨⟨⟨_, bO, r0, trivial⟩, cN⟩, b3⟩
    (fun x a' W => a' = { tmps := #[.int .i64 (N : Int), undef, .slice none 0 0, .pointer (some ⟨w.heap.size + 1, 0, none⟩), B8 (sq x.val), .int .i64 (N : Int), .int .i64 (N : Int), .slice (some ⟨w.heap.size, 0, none⟩) 0 N, .int .i64 (N : Int), .func (.func 30) #[] #[.pointer (some ⟨w.heap.size + 1 + 1, 0, none⟩)], B8 (sq x.val), undef, undef, undef, undef, undef], defers := [] })
    (fun x a' _ X Y row hs hg hr => hs)
    ?assign ?body ?done ?stop
  case assign =>
    rintro l pre x W K ⟨hI, hB⟩ hK
    gi_wp2
    exact hK _ _ ((KeepsOthers.refl W).from _) Kb.refl ⟨hI, hB⟩ rfl
  case body =>
    rintro l pre x a' W hl' _ ⟨⟨⟨v, hv, hrow, _⟩, hc⟩, hB⟩ rfl hlt
    have hcv := hv.cell
    obtain ⟨Z, hZ⟩ : ∃ Z : Int, ((sq x.val).toNat : Int) = Z := ⟨_, rfl⟩
    dsimp only [B8]
    rw [hZ]
    gi_wp2_with (gi_at_builtin; refine wpListIn_append_own _ rfl _ _ 22 rfl w.heap.size 5 i0 (.int .u8 0) 1 1 Try.underlying22 hi hz0 hz1 hz2 rfl (by decide) _ _ _ rfl (hrow.alloc _) ⟨W.heap.size, 0, none⟩ 1 1 [.int .u8 Z] rfl rfl (cell_one_new _ _ _) (by simp [Value.oneCell']) (by unfold maxLen; omega) (by omega) (by have := hB.size; simp; omega) ?_; intro v' w1 hown' hgrow _; obtain ⟨g', cap', rfl⟩ := ownsRow_succ hown'; obtain ⟨hv1, hv2, hr2, hk2, hb2⟩ := hv.appended (by decide) hrow hB.size (by omega) hown' hgrow; have hc1 := hv1.cell; have hf1 := hv1.frozen)
    have hc3 := (hc.grown hgrow (own_apart hrow hc (by decide))).only (put_only w1 (w.heap.size + 1) 0 (.slice (some ⟨g', 0, none⟩) (pre.length + 1) cap')) (by simp)
    exact ⟨hk2.from _, (show _ = _ from hc3).trans (show _ = _ from hc).symm, ⟨⟨_, hv2, by rw [List.length_append, List.map_append, List.map_cons, List.map_nil, hZ]; exact hr2, trivial⟩, hc3⟩, hB.trans hb2⟩
  case done =>
    rintro D ys W hD rfl ⟨⟨⟨v, hv, hrow, _⟩, hc⟩, hB⟩ hK
    have hcv := hv.cell
    rw [finRange_sq, List.length_finRange] at hrow
    gi_wp2
    refine ⟨by simp, .inl ⟨_, _, rfl, run_takeDeferred hK, ?_⟩⟩
    refine ⟨_, results_tmp rfl _ _ _, v, rfl, ?_, hB.trans (belowK_b (w := w) (Nat.le_refl _) W D _ _ (by omega) hK rfl rfl)⟩
    unfold Ow
    rw [seqb_len]
    exact ownsRow_putObj hrow _ hK rfl
  case stop =>
    rintro D c pre W _ _ h _
    exact h.elim
set_option maxRecDepth 100000 in
set_option maxHeartbeats 4000000 in
theorem sequence_neg_in (F : Fence) (n : Nat) (hF : ∀ k, F.fn k) (hro : F.round = none) (hn : 5 ≤ n) (hW : ∀ {f : FuncId} {args : Array Value} {w : World} {R : Ending → World → Prop} (n : Nat), Calls Try.prog f args w R → CallsIn F n Try.prog f args w R)
    (m : Int) (hm : m < 0) (w : World) :
    CallsIn F n Try.prog 27 #[.int .i64 m] w fun e w' => ∃ v, e = .returned v ∧ Ow w' w.heap.size 5 v (seqb 0) ∧ Below w.heap.size w w' := by
  have hmk : ∀ w : World, (Instr.makeSlice 22 (.int .i64 0) (.int .i64 0)).run Try.prog w = .ok (.slice (some ⟨w.heap.size, 0, none⟩) 0 0) (w.alloc (.cells (madeCells #[.int .u8 0] 0) 5)) := fun w => run_make_bytes 0 (by omega) w
  have hd : decide (m < 0) = true := by simpa using hm
  obtain ⟨_, _, i0, hi, hz0, hz1, hz2⟩ := is_bytes
  refine callsIn_of_wp_marks Try.func27 rfl (hF _) ?_ hro
  simp only [Try.ntmps27, List.size_toArray, List.length_cons, List.length_nil, Nat.reduceAdd, Nat.reduceSub, Array.replicate_succ, Array.replicate_zero, List.push_toArray, List.append_toArray, List.nil_append, List.cons_append]
  gi_wp2_with fail
  refine ⟨fun _ => by omega, (hW (n - 1) (firstBytes_any _ _)).mono ?_⟩
  rintro e w3 ⟨rfl, hw3⟩
  gi_wp2_with fail
  have hs3 : w3.heap.size = w.heap.size + 3 := by rw [hw3]; simp
  have b01 := (Below.refl w.heap.size w).alloc (Nat.le_refl _) (.cells (madeCells #[.int .u8 0] 0) 5)
  have b3 : Below w.heap.size w w3 := by
    rw [hw3]
    exact (b01.alloc (by simp) _).alloc (by simp; omega) _
  have bO : Boxed w3 (w.heap.size + 1) 22 (.slice (some ⟨w.heap.size, 0, none⟩) 0 0) := by
    rw [hw3]
    have := Boxed.new (w.alloc (.cells (madeCells #[.int .u8 0] 0) 5)) 22 (.slice (some ⟨w.heap.size, 0, none⟩) 0 0)
    rw [World.size_alloc] at this
    exact this.alloc _
  have cN : Cel w3 (w.heap.size + 1 + 1) 3 #[.int .i64 m] := by
    rw [hw3]
    have := Cel.new ((w.alloc (.cells (madeCells #[.int .u8 0] 0) 5)).alloc (.cells #[.slice (some ⟨w.heap.size, 0, none⟩) 0 0] 22)) 3 #[.int .i64 m]
    rw [World.size_alloc, World.size_alloc] at this
    exact this
  have r0 : w3.ownsRow w.heap.size 5 1 (.slice (some ⟨w.heap.size, 0, none⟩) 0 0) 0 [] := by
    rw [hw3]
    exact ((World.ownsRow_made w _ 0 (Nat.le_refl _) (by unfold maxLen; omega) (by rw [size_madeCells])).alloc _).alloc _
  rw [← hw3]
  clear hw3 b01 hmk
  refine wpIn_rangeFunc_ownH hro (by omega) (gf := 30) (lb := #[.pointer (some ⟨w.heap.size + 1 + 1, 0, none⟩)]) rfl (hF _) (enters_of Try.func30 (by kernel_rfl) rfl)
    (bytes_stops F (n - 1) hF hro (by omega) hW (w.heap.size + 1 + 1) 0 m (by omega) (by omega) w3 (by omega) (by have := cN.cell 0; simpa using this)) Kb.trans (Kb_b (by omega)) (Below.refl _ _) (fun _ => rfl)
    (fun pre W => ((∃ v, Boxed W (w.heap.size + 1) 22 v ∧ W.ownsRow w.heap.size 5 1 v pre.length (pre.map fun x => B8 (sq x.val)) ∧ True) ∧ Cel W (w.heap.size + 1 + 1) 3 #[.int .i64 m]) ∧ Below w.heap.size w W)
    (fun _ _ _ => False)
    (OwnFrom.and (OwnFrom.and (Own.from (holdsRow_own w.heap.size (w.heap.size + 1) 22 5 1 (fun pre : List (Fin 0) => pre.length) (fun pre => pre.map fun x => B8 (sq x.val)) (fun _ _ => True)) _) (fun _ X Y row hs hg hr => cel_own hs hg (fun r e => (hr r e).2))) (ownFrom_below (Nat.le_refl _) (by omega)))
    (fun _ _ _ _ _ hs _ _ => hs)
    ⟨⟨⟨_, bO, r0, trivial⟩, cN⟩, b3⟩
    (fun x a' W => a' = { tmps := #[.int .i64 m, undef, .slice none 0 0, .pointer (some ⟨w.heap.size + 1, 0, none⟩), B8 (sq x.val), .int .i64 m, .int .i64 0, .slice (some ⟨w.heap.size, 0, none⟩) 0 0, .int .i64 m, .func (.func 30) #[] #[.pointer (some ⟨w.heap.size + 1 + 1, 0, none⟩)], B8 (sq x.val), undef, undef, undef, undef, undef], defers := [] })
    (fun x a' _ X Y row hs hg hr => hs)
    ?assign ?body ?done ?stop
  case assign =>
    rintro l pre x W K ⟨hI, hB⟩ hK
    gi_wp2
    exact hK _ _ ((KeepsOthers.refl W).from _) Kb.refl ⟨hI, hB⟩ rfl
  case body =>
    rintro l pre x
    exact x.elim0
  case done =>
    rintro D ys W hD rfl ⟨⟨⟨v, hv, hrow, _⟩, hc⟩, hB⟩ hK
    have hcv := hv.cell
    rw [finRange_sq, List.length_finRange] at hrow
    gi_wp2
    refine ⟨by simp, .inl ⟨_, _, rfl, run_takeDeferred hK, ?_⟩⟩
    refine ⟨_, results_tmp rfl _ _ _, v, rfl, ?_, hB.trans (belowK_b (w := w) (Nat.le_refl _) W D _ _ (by omega) hK rfl rfl)⟩
    unfold Ow
    rw [seqb_len]
    exact ownsRow_putObj hrow _ hK rfl
  case stop =>
    rintro D c pre W _ _ h _
    exact h.elim

theorem sequence_any (m : Int) (hm : m ≤ 1099511627776) (w : World) :
    Calls Try.prog 27 #[.int .i64 m] w fun e w' => ∃ v, e = .returned v ∧ Ow w' w.heap.size 5 v (seqb m.toNat) ∧ Below w.heap.size w w' := by
  rcases Int.lt_or_le m 0 with h | h
  · rw [show m.toNat = 0 by omega]
    exact callsIn_wide.1 (sequence_neg_in Fence.wide 5 (fun _ => trivial) rfl (by omega) (fun _ h => callsIn_wide.2 h) m h w)
  · obtain ⟨N, rfl⟩ : ∃ N : Nat, m = (N : Int) := ⟨m.toNat, by omega⟩
    rw [Int.toNat_natCast]
    exact callsIn_wide.1 (sequence_in Fence.wide 5 (fun _ => trivial) rfl (by omega) (fun _ h => callsIn_wide.2 h) N (by omega) w)
end Go.Proofs.Ytahpogmbkkpmdaa.Scr
