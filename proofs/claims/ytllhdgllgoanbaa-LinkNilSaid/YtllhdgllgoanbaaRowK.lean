/-
  Copy, clear and append with room on a row that is known whole, at elements of whatever size; lists of cells. No dump is imported.
-/
import Derived.Test.YtllhdgllgoanbaaRowH
import Derived.Laws.IdiomCopy
import Derived.Lib.AppendZeros
import Derived.Lib.Overlaps
import Derived.Deep.RegionLaw
namespace Go.Proofs.Ytllhdgllgoanbaa.Row
open Go.RowKit

section
variable {P : Program} (w : World)

theorem run_copyK (dT sT ty elem : TypeId) (size g o dLen dCap : Nat) (a : Addr) (sLen sCap n : Nat) (cur : List Value) (t : TypeId) (cs : List Value)
    (hu : P.underlying dT = some (.slice elem)) (hs : (P.info? elem).map (·.size) = some size)
    (hg : Cel w g t cur.toArray) (hm : Nat.min sLen dLen = n) (hn : cs.length = n * size)
    (hsrc : ∀ j v, cs[j]? = some v → w.cell? (a.add j) = some v) (hfit : o + cs.length ≤ cur.length) (h1 : ∀ v ∈ cs, v.oneCell' = true) :
    (Builtin.copy_ #[dT, sT] ty #[.slice (some ⟨g, o, none⟩) dLen dCap, .slice (some a) sLen sCap]).run P w =
      .ok (goInt n) (w.setRow g (splice cur o cs).toArray) := by
  have hl := run_loadCells_list (P := P) w a cs hsrc
  have hst := run_storeCells_at P g o t cs 0 cur.toArray w hg (by simpa using hfit) h1
  have esp : splice cur o cs = cur.take (o + 0) ++ cs ++ cur.drop (o + 0 + cs.length) := by simp [splice]
  rw [esp]
  cases hq : P.info? elem with
  | none => simp [hq] at hs
  | some i =>
    have hi : i.size = size := by simpa [hq] using hs
    simp [Builtin.copy_, run_underlying hu, Builtin.lenOf, Builtin.firstCells, sizeOf, typeInfo, hq, hi, ← hn, hm, hl, hst]

theorem run_clearK (tS ty elem : TypeId) (z : Value) (g o n c : Nat) (cur : List Value) (t : TypeId) (cs : List Value)
    (hu : P.underlying tS = some (.slice elem)) (hv : ∀ w, (zeroValue elem).run P w = .ok z w) (hcs : z.cells.toList = cs) (hn : n = 1)
    (hg : Cel w g t cur.toArray) (hfit : o + cs.length ≤ cur.length) (h1 : ∀ v ∈ cs, v.oneCell' = true) :
    (Builtin.clear_ #[tS] ty #[.slice (some ⟨g, o, none⟩) n c]).run P w = .ok (.tuple #[]) (w.setRow g (splice cur o cs).toArray) := by
  subst hn
  have hz : (Builtin.zeroCells z.cells 1).toList = cs := by
    rw [← hcs]
    apply List.ext_getElem
    · simp [Builtin.zeroCells]
    · intro i k1 k2
      simp [Builtin.zeroCells] at k1 k2 ⊢
      simp [Nat.mod_eq_of_lt k2]
      exact getElem!_pos z.cells i k2
  have hst := run_storeCells_at P g o t cs 0 cur.toArray w hg (by simpa using hfit) h1
  have esp : splice cur o cs = cur.take (o + 0) ++ cs ++ cur.drop (o + 0 + cs.length) := by simp [splice]
  rw [esp]
  simp [Builtin.clear_, run_underlying hu, hv, hz, hst]

theorem run_appendK (t ty e : TypeId) (size g n c : Nat) (a : Addr) (m c' r : Nat) (cur : List Value) (T : TypeId) (news : List Value)
    (hu : P.underlying t = some (.slice e)) (hs : (P.info? e).map (·.size) = some size) (hg : Cel w g T cur.toArray) (hl : news.length = m * size)
    (hsrc : ∀ j v, news[j]? = some v → w.cell? (a.add j) = some v) (hroom : n + m ≤ c) (hr : n + m = r) (hfit : n * size + news.length ≤ cur.length) (h1 : ∀ v ∈ news, v.oneCell' = true) :
    (Builtin.append_ #[t, t] ty #[.slice (some ⟨g, 0, none⟩) n c, .slice (some a) m c']).run P w = .ok (.slice (some ⟨g, 0, none⟩) r c) (w.setRow g (splice cur (n * size) news).toArray) := by
  have hst := run_storeCells_at P g (n * size) T news 0 cur.toArray w hg (by simpa using hfit) h1
  have esp : splice cur (n * size) news = cur.take (n * size + 0) ++ news ++ cur.drop (n * size + 0 + news.length) := by simp [splice]
  rw [esp]
  subst hr
  cases hq : P.info? e with
  | none => simp [hq] at hs
  | some i =>
    have hi : i.size = size := by simpa [hq] using hs
    have hfc := run_firstCells_some (P := P) w size m a m c' news hl hsrc
    simp [Builtin.append_, run_underlying hu, sizeOf, typeInfo, hq, hi, Builtin.lenOf, hroom, hfc, Addr.add_lit, hst]

/-- a builtin of two operands whose run is known -/
theorem wp_bi2 {bi : Builtin} {o : Oper} {a : Act} {K : Act → World → Prop} {Q : Exit → Act → World → Prop} (d s : Operand) (t t' : TypeId)
    (ho : o.op = .call { callee := .builtin bi, args := #[d, s], argTypes := #[t, t'] }) (v u : Value) (hd : a.eval d = v) (hs : a.eval s = u) {v' : Value} {w' : World}
    (hbi : bi = .copy ∨ bi = .append)
    (hr : (match bi with | .copy => Builtin.copy_ #[t, t'] o.type #[v, u] | _ => Builtin.append_ #[t, t'] o.type #[v, u]).run P w = .ok v' w') (h : K (a.put o.dst v') w') : o.wp P a w K Q := by
  rcases hbi with rfl | rfl
  all_goals
    unfold Oper.wp execOp
    simp only [ho, resolve, invoke, builtin, Sem.run_bind, Sem.run_pure, Result.andThen_ok, List.map_toArray, List.map_cons, List.map_nil, hd, hs, hr]
    exact h
theorem wpList_copyK {ops : Array Oper} {rest : List Oper} {o : Oper} {a : Act} {Q : Exit → Act → World → Prop} (hgd : o.guard = none) (d s : Operand) (t t' : TypeId)
    (ho : o.op = .call { callee := .builtin .copy, args := #[d, s], argTypes := #[t, t'] }) (v u : Value) (hd : a.eval d = v) (hs : a.eval s = u) {v' : Value} {w' : World}
    (hr : (Builtin.copy_ #[t, t'] o.type #[v, u]).run P w = .ok v' w') (h : wpList P ops Q rest (a.put o.dst v') w') : wpList P ops Q (o :: rest) a w :=
  wpList_plain hgd fun _ hK => wp_bi2 w d s t t' ho v u hd hs (.inl rfl) hr (hK _ _ h)
theorem step_copyK {ops : Array Oper} {o : Oper} {a : Act} {K : Act → World → Prop} {Q : Exit → Act → World → Prop} {E : Prop} (hgd : o.guard = none) (d s : Operand) (t t' : TypeId)
    (ho : o.op = .call { callee := .builtin .copy, args := #[d, s], argTypes := #[t, t'] }) (v u : Value) (hd : a.eval d = v) (hs : a.eval s = u) {v' : Value} {w' : World}
    (hr : (Builtin.copy_ #[t, t'] o.type #[v, u]).run P w = .ok v' w') (h : K (a.put o.dst v') w') : if Region.wanted o (yielded ops a.tmps) = true then Oper.wp P o a w K Q else E := by
  have hw : Region.wanted o (yielded ops a.tmps) = true := by simp [Region.wanted, hgd]
  rw [if_pos hw]
  exact wp_bi2 w d s t t' ho v u hd hs (.inl rfl) hr h
theorem wpList_appendK {ops : Array Oper} {rest : List Oper} {o : Oper} {a : Act} {Q : Exit → Act → World → Prop} (hgd : o.guard = none) (d s : Operand) (t t' : TypeId)
    (ho : o.op = .call { callee := .builtin .append, args := #[d, s], argTypes := #[t, t'] }) (v u : Value) (hd : a.eval d = v) (hs : a.eval s = u) {v' : Value} {w' : World}
    (hr : (Builtin.append_ #[t, t'] o.type #[v, u]).run P w = .ok v' w') (h : wpList P ops Q rest (a.put o.dst v') w') : wpList P ops Q (o :: rest) a w :=
  wpList_plain hgd fun _ hK => wp_bi2 w d s t t' ho v u hd hs (.inr rfl) hr (hK _ _ h)
theorem step_appendK {ops : Array Oper} {o : Oper} {a : Act} {K : Act → World → Prop} {Q : Exit → Act → World → Prop} {E : Prop} (hgd : o.guard = none) (d s : Operand) (t t' : TypeId)
    (ho : o.op = .call { callee := .builtin .append, args := #[d, s], argTypes := #[t, t'] }) (v u : Value) (hd : a.eval d = v) (hs : a.eval s = u) {v' : Value} {w' : World}
    (hr : (Builtin.append_ #[t, t'] o.type #[v, u]).run P w = .ok v' w') (h : K (a.put o.dst v') w') : if Region.wanted o (yielded ops a.tmps) = true then Oper.wp P o a w K Q else E := by
  have hw : Region.wanted o (yielded ops a.tmps) = true := by simp [Region.wanted, hgd]
  rw [if_pos hw]
  exact wp_bi2 w d s t t' ho v u hd hs (.inr rfl) hr h
end

section
variable {w w' : World} {g : Nat} {S : List Nat}
theorem Cel_row {t : TypeId} {cs : Array Value} (h : Cel w g t cs) (l : List Value) : Cel (w.setRow g l.toArray) g t l.toArray := setRow_heap w g _ _ t _ h
theorem only_setRow (w : World) (g : Nat) (cs : Array Value) : Only [g] w (w.setRow g cs) :=
  ⟨rfl, rfl, rfl, by simp [World.setRow], fun k _ hn => setRow_other w g k cs (by simpa using hn)⟩
theorem Only_row (h : Only S w w') (hg : g ∈ S ∨ w.heap.size ≤ g) (cs : Array Value) : Only S w (w'.setRow g cs) :=
  h.trans (only_setRow w' g cs) (by simpa using hg)
end

/-! ### lists of cells -/
theorem splice_delete (fa ex fb sp : List Value) (z : List Value) (hz : z.length = ex.length) :
    ∃ sp', splice (splice (fa ++ (ex ++ (fb ++ sp))) fa.length fb) (fa ++ fb).length z = (fa ++ fb) ++ sp' ∧ sp'.length = ex.length + sp.length := by
  have e1 : splice (fa ++ (ex ++ (fb ++ sp))) fa.length fb = (fa ++ fb) ++ (ex ++ (fb ++ sp)).drop fb.length := by
    unfold splice
    rw [List.take_left, List.drop_append, List.drop_eq_nil_of_le («as» := fa) (by omega), Nat.add_sub_cancel_left, List.nil_append, List.append_assoc]
  rw [e1]
  refine ⟨z ++ ((ex ++ (fb ++ sp)).drop fb.length).drop z.length, ?_, ?_⟩
  · unfold splice
    rw [List.take_left, List.drop_append, List.drop_eq_nil_of_le («as» := fa ++ fb) (by omega), Nat.add_sub_cancel_left, List.nil_append]
  · simp; omega
theorem splice_insert (fa ex fb sp : List Value) (hs : ex.length ≤ sp.length) :
    ∃ sp', splice (splice (fa ++ (fb ++ sp)) (fa.length + ex.length) fb) fa.length ex = (fa ++ (ex ++ fb)) ++ sp' ∧ sp'.length + ex.length = sp.length := by
  refine ⟨sp.drop ex.length, ?_, by simp; omega⟩
  have h1 : (splice (fa ++ (fb ++ sp)) (fa.length + ex.length) fb).take fa.length = fa := by
    unfold splice
    rw [List.take_append_of_le_length (by simp), List.take_take, Nat.min_eq_left (by omega), List.take_left]
  have h2 : (splice (fa ++ (fb ++ sp)) (fa.length + ex.length) fb).drop (fa.length + ex.length) = fb ++ sp.drop ex.length := by
    unfold splice
    rw [List.drop_append, List.drop_eq_nil_of_le (by simp; omega), List.nil_append, List.length_take, Nat.min_eq_left (by simp; omega), Nat.sub_self, List.drop_zero]
    congr 1
    rw [List.drop_append, List.drop_eq_nil_of_le (by omega), List.nil_append, List.drop_append, List.drop_eq_nil_of_le (by omega), List.nil_append]
    congr 1; omega
  rw [splice, h1, h2]; simp
theorem splice_grow (fa ex fb zs : List Value) (hz : ex.length + fb.length ≤ zs.length) :
    ∃ sp', splice (splice (fa ++ zs) fa.length ex) (fa.length + ex.length) fb = (fa ++ (ex ++ fb)) ++ sp' ∧ sp'.length + ex.length + fb.length = zs.length := by
  have e1 : splice (fa ++ zs) fa.length ex = (fa ++ ex) ++ zs.drop ex.length := by
    unfold splice
    rw [List.take_left, List.drop_append, List.drop_eq_nil_of_le («as» := fa) (by omega), Nat.add_sub_cancel_left, List.nil_append, List.append_assoc]
  refine ⟨(zs.drop ex.length).drop fb.length, ?_, by simp; omega⟩
  rw [e1, ← List.length_append]
  unfold splice
  rw [List.take_left, List.drop_append, List.drop_eq_nil_of_le («as» := fa ++ ex) (by omega), Nat.add_sub_cancel_left, List.nil_append]
  simp
end Go.Proofs.Ytllhdgllgoanbaa.Row
