/-
  Byte slices that the call itself makes: append, make, string(b), whatever the source. No dump is imported.
-/
import Derived.Test.YtaaikmncdgfkmaaBytes
import Derived.Maps.AppendAt
import Derived.Laws.OwnMore
import Derived.Laws.IdiomStrings
import Derived.Lib.BufferRead
namespace Go.Proofs.Ytaaikmncdgfkmaa
open Go.RowKit

/-- type t is a slice of bytes, e the byte's type. -/
def IsBytes (P : Program) (t e : TypeId) : Prop :=
  P.underlying t = some (.slice e) ∧ P.underlying e = some (.int .u8) ∧ ∃ i, P.info? e = some i ∧ i.zero = some (.int .u8 0) ∧ i.size = 1 ∧ i.bytes = 1

/-- v is a slice of the call's own (blocks from base on) that holds the bytes l. -/
def Ow (w : World) (base : Nat) (e : TypeId) (v : Value) (l : List Byte) : Prop := w.ownsRow base e 1 v l.length (l.map B8)

theorem B8_one (l : List Byte) : ∀ u ∈ l.map B8, u.oneCell' = true := by
  intro u hu
  obtain ⟨x, _, rfl⟩ := List.mem_map.1 hu
  rfl

theorem Ow.base_le {w : World} {base : Nat} {e : TypeId} {v : Value} {l : List Byte} (h : Ow w base e v l) : ∀ k, v.ownBlock = some k → base ≤ k := by
  intro k hk
  rcases h.2 with ⟨rfl, _⟩ | ⟨g, cap, cur, rfl, hg, _⟩
  · cases hk
  · injection hk with hk; subst hk; exact hg

theorem Ow.reads {w : World} {base : Nat} {e : TypeId} {v : Value} {l : List Byte} (h : Ow w base e v l) :
    ∃ A c, v = .slice A l.length c ∧ Bs w w.heap.size A l ∧ (A = none → c = 0) ∧ l.length ≤ c ∧ c ≤ maxLen := by
  have hcells := fun g cap (hv : v = .slice (some ⟨g, 0, none⟩) l.length cap) => h.cells (g := g) (by rw [hv]; rfl)
  rcases h.2 with ⟨rfl, h0⟩ | ⟨g, cap, cur, rfl, _, hh, hn, hm, _⟩
  · have : l = [] := List.eq_nil_of_length_eq_zero h0
    subst this
    exact ⟨none, 0, rfl, Bs.nil_, fun _ => rfl, by simp, by simp⟩
  · refine ⟨some ⟨g, 0, none⟩, cap, rfl, fun hl => ⟨g, 0, rfl, ?_, fun i x hx => ?_⟩, by simp, hn, hm⟩
    · rcases Nat.lt_or_ge g w.heap.size with hlt | hge
      · exact hlt
      · rw [Array.getElem?_eq_none hge] at hh; cases hh
    · have := hcells g cap rfl i (B8 x) (by simp [hx])
      rcases Nat.eq_zero_or_pos i with rfl | hi
      · simpa [Addr.add] using this
      · have hne : i ≠ 0 := by omega
        simpa [Addr.add, hne] using this

section
variable {P : Program} (w : World)

theorem run_app {t e ty : TypeId} (hT : IsBytes P t e) {base : Nat} {v : Value} {m : List Byte} (hown : Ow w base e v m)
    {B : Nat} {A : Option Addr} {l : List Byte} {c : Nat} (hr : Bs w B A l) (hn : A = none → c = 0) (h47 : m.length + l.length ≤ 140737488355328) (hbase : base ≤ w.heap.size) :
    ∃ v' w', (Builtin.append_ #[t, t] ty #[v, .slice A l.length c]).run P w = .ok v' w' ∧ Ow w' base e v' (m ++ l) ∧ w.grownBy w' v.ownBlock ∧ (v'.ownBlock = v.ownBlock ∨ v'.ownBlock = some w.heap.size) := by
  obtain ⟨ht, _, i, hi, hz, h1, h2⟩ := hT
  cases A with
  | none =>
    have hl : l = [] := by
      rcases Nat.eq_zero_or_pos l.length with h0 | h0
      · exact List.eq_nil_of_length_eq_zero h0
      · obtain ⟨b, off, h, _⟩ := hr h0; cases h
    subst hl
    obtain rfl : c = 0 := hn rfl
    exact ⟨v, w, run_append_owned_none w base t ty e i 1 ht hi v m.length _ hown, by simpa using hown, World.grownBy.refl w _, .inl rfl⟩
  | some ad =>
    obtain ⟨v', w', hrun, ho, hg, _, h5⟩ := run_append_own_at (P := P) w base t ty e i (.int .u8 0) 1 1 ht hi hz h1 h2 rfl (by decide) v m.length (m.map B8) hown ad l.length c (l.map B8)
      (by simp) (fun j u hu => by
        rw [List.getElem?_map] at hu
        cases hx : l[j]? with
        | none => rw [hx] at hu; cases hu
        | some x =>
          rw [hx] at hu
          injection hu with hu
          subst hu
          have hj := (List.getElem?_eq_some_iff.1 hx).1
          obtain ⟨b, off, he, _, hc⟩ := hr (by omega)
          injection he with he
          subst he
          by_cases h0 : j = 0
          · subst h0; simpa [Addr.add] using hc 0 x hx
          · simpa [Addr.add, h0] using hc j x hx) (B8_one l) (by unfold maxLen; omega) (by omega) hbase
    exact ⟨v', w', hrun, by unfold Ow; rw [List.length_append, List.map_append]; exact ho, hg, h5⟩

theorem wp_app {t e : TypeId} (hT : IsBytes P t e) {o : Oper} {a : Act} {K : Act → World → Prop} {Q : Exit → Act → World → Prop} (s x : Operand)
    (ho : o.op = .call { callee := .builtin .append, args := #[s, x], argTypes := #[t, t] })
    {base : Nat} {v : Value} {m : List Byte} (hs : a.eval s = v) (hown : Ow w base e v m)
    {B : Nat} {A : Option Addr} {l : List Byte} {c : Nat} (hx : a.eval x = .slice A l.length c) (hr : Bs w B A l) (hn : A = none → c = 0) (h47 : m.length + l.length ≤ 140737488355328) (hbase : base ≤ w.heap.size)
    (h : ∀ v' w', Ow w' base e v' (m ++ l) → w.grownBy w' v.ownBlock → K (a.put o.dst v') w') : o.wp P a w K Q := by
  obtain ⟨v', w', hrun, h2, h3, _⟩ := run_app (P := P) (ty := o.type) w hT hown hr hn h47 hbase
  unfold Oper.wp execOp
  simp only [ho, resolve, invoke, builtin, Sem.run_bind, Sem.run_pure, Result.andThen_ok, List.map_toArray, List.map_cons, List.map_nil, hs, hx, hrun]
  exact h v' w' h2 h3

theorem wpList_app {t e : TypeId} (hT : IsBytes P t e) {ops : Array Oper} {rest : List Oper} {o : Oper} {a : Act} {Q : Exit → Act → World → Prop} (hgd : o.guard = none) (s x : Operand)
    (ho : o.op = .call { callee := .builtin .append, args := #[s, x], argTypes := #[t, t] })
    {base : Nat} {v : Value} {m : List Byte} (hs : a.eval s = v) (hown : Ow w base e v m)
    {B : Nat} {A : Option Addr} {l : List Byte} {c : Nat} (hx : a.eval x = .slice A l.length c) (hr : Bs w B A l) (hn : A = none → c = 0) (h47 : m.length + l.length ≤ 140737488355328) (hbase : base ≤ w.heap.size)
    (h : ∀ v' w', Ow w' base e v' (m ++ l) → w.grownBy w' v.ownBlock → wpList P ops Q rest (a.put o.dst v') w') : wpList P ops Q (o :: rest) a w :=
  wpList_plain hgd fun _ hK => wp_app w hT s x ho hs hown hx hr hn h47 hbase fun v' w' h2 h3 => hK _ _ (h v' w' h2 h3)

theorem wp_appAt {t e : TypeId} (hT : IsBytes P t e) {o : Oper} {a : Act} {K : Act → World → Prop} {Q : Exit → Act → World → Prop} (s x : Operand)
    (ho : o.op = .call { callee := .builtin .append, args := #[s, x], argTypes := #[t, t] })
    {base : Nat} {v : Value} {m : List Byte} (hs : a.eval s = v) (hown : Ow w base e v m)
    {B : Nat} {A : Option Addr} {l : List Byte} {c : Nat} (hx : a.eval x = .slice A l.length c) (hr : Bs w B A l) (hn : A = none → c = 0) (h47 : m.length + l.length ≤ 140737488355328) (hbase : base ≤ w.heap.size)
    (h : ∀ v' w', Ow w' base e v' (m ++ l) → w.grownBy w' v.ownBlock → (v'.ownBlock = v.ownBlock ∨ v'.ownBlock = some w.heap.size) → K (a.put o.dst v') w') : o.wp P a w K Q := by
  obtain ⟨v', w', hrun, h2, h3, h4⟩ := run_app (P := P) (ty := o.type) w hT hown hr hn h47 hbase
  unfold Oper.wp execOp
  simp only [ho, resolve, invoke, builtin, Sem.run_bind, Sem.run_pure, Result.andThen_ok, List.map_toArray, List.map_cons, List.map_nil, hs, hx, hrun]
  exact h v' w' h2 h3 h4

theorem wpList_appAt {t e : TypeId} (hT : IsBytes P t e) {ops : Array Oper} {rest : List Oper} {o : Oper} {a : Act} {Q : Exit → Act → World → Prop} (hgd : o.guard = none) (s x : Operand)
    (ho : o.op = .call { callee := .builtin .append, args := #[s, x], argTypes := #[t, t] })
    {base : Nat} {v : Value} {m : List Byte} (hs : a.eval s = v) (hown : Ow w base e v m)
    {B : Nat} {A : Option Addr} {l : List Byte} {c : Nat} (hx : a.eval x = .slice A l.length c) (hr : Bs w B A l) (hn : A = none → c = 0) (h47 : m.length + l.length ≤ 140737488355328) (hbase : base ≤ w.heap.size)
    (h : ∀ v' w', Ow w' base e v' (m ++ l) → w.grownBy w' v.ownBlock → (v'.ownBlock = v.ownBlock ∨ v'.ownBlock = some w.heap.size) → wpList P ops Q rest (a.put o.dst v') w') : wpList P ops Q (o :: rest) a w :=
  wpList_plain hgd fun _ hK => wp_appAt w hT s x ho hs hown hx hr hn h47 hbase fun v' w' h2 h3 h4 => hK _ _ (h v' w' h2 h3 h4)

theorem Bs_new2 (w : World) (e : TypeId) (x y : Byte) (m n : Int) (hm : m = (x.toNat : Int)) (hn : n = (y.toNat : Int)) :
    Bs (w.alloc (.cells #[.int .u8 m, .int .u8 n] e)) (w.heap.size + 1) (some ⟨w.heap.size, 0, none⟩) [x, y] := fun _ => by
  refine ⟨w.heap.size, 0, rfl, by omega, fun i z hz => ?_⟩
  subst hm hn
  rw [Nat.zero_add, cell_of_row _ _ i _ e (0, 0) (heap_alloc_new w _)]
  match i, hz with
  | 0, hz => simp at hz; subst hz; rfl
  | 1, hz => simp at hz; subst hz; rfl
theorem Bs_new1 (w : World) (e : TypeId) (x : Byte) (m : Int) (hm : m = (x.toNat : Int)) :
    Bs (w.alloc (.cells #[.int .u8 m] e)) (w.heap.size + 1) (some ⟨w.heap.size, 0, none⟩) [x] := fun _ => by
  refine ⟨w.heap.size, 0, rfl, by omega, fun i z hz => ?_⟩
  subst hm
  rw [Nat.zero_add, cell_of_row _ _ i _ e (0, 0) (heap_alloc_new w _)]
  match i, hz with
  | 0, hz => simp at hz; subst hz; rfl

theorem Bs_new (w : World) (e : TypeId) (l : List Byte) (C : Array Value) (hC : C = (l.map B8).toArray) (B : Nat) (hB : w.heap.size < B) (fr : Nat × Nat := (0, 0)) :
    Bs (w.alloc (.cells C e fr)) B (some ⟨w.heap.size, 0, none⟩) l := fun _ => by
  refine ⟨w.heap.size, 0, rfl, hB, fun i z hz => ?_⟩
  rw [Nat.zero_add, cell_of_row _ _ i _ e fr (heap_alloc_new w _), hC]
  simp [hz]
theorem Ow_empty (w : World) (base : Nat) (e : TypeId) (h : base ≤ w.heap.size) : Ow (w.alloc (.cells #[] e)) base e (.slice (some ⟨w.heap.size, 0, none⟩) 0 0) [] :=
  ⟨rfl, .inr ⟨w.heap.size, 0, #[], rfl, h, heap_alloc_new w _, Nat.le_refl _, by simp, rfl, rfl⟩⟩

theorem step_app {t e : TypeId} (hT : IsBytes P t e) {ops : Array Oper} {o : Oper} {a : Act} {K : Act → World → Prop} {Q : Exit → Act → World → Prop} {E : Prop} (hgd : o.guard = none) (s x : Operand)
    (ho : o.op = .call { callee := .builtin .append, args := #[s, x], argTypes := #[t, t] })
    {base : Nat} {v : Value} {m : List Byte} (hs : a.eval s = v) (hown : Ow w base e v m)
    {B : Nat} {A : Option Addr} {l : List Byte} {c : Nat} (hx : a.eval x = .slice A l.length c) (hr : Bs w B A l) (hn : A = none → c = 0) (h47 : m.length + l.length ≤ 140737488355328) (hbase : base ≤ w.heap.size)
    (h : ∀ v' w', Ow w' base e v' (m ++ l) → w.grownBy w' v.ownBlock → K (a.put o.dst v') w') :
    if Region.wanted o (yielded ops a.tmps) = true then Oper.wp P o a w K Q else E := by
  have hw : Region.wanted o (yielded ops a.tmps) = true := by simp [Region.wanted, hgd]
  rw [if_pos hw]
  exact wp_app w hT s x ho hs hown hx hr hn h47 hbase h

theorem step_appAt {t e : TypeId} (hT : IsBytes P t e) {ops : Array Oper} {o : Oper} {a : Act} {K : Act → World → Prop} {Q : Exit → Act → World → Prop} {E : Prop} (hgd : o.guard = none) (s x : Operand)
    (ho : o.op = .call { callee := .builtin .append, args := #[s, x], argTypes := #[t, t] })
    {base : Nat} {v : Value} {m : List Byte} (hs : a.eval s = v) (hown : Ow w base e v m)
    {B : Nat} {A : Option Addr} {l : List Byte} {c : Nat} (hx : a.eval x = .slice A l.length c) (hr : Bs w B A l) (hn : A = none → c = 0) (h47 : m.length + l.length ≤ 140737488355328) (hbase : base ≤ w.heap.size)
    (h : ∀ v' w', Ow w' base e v' (m ++ l) → w.grownBy w' v.ownBlock → (v'.ownBlock = v.ownBlock ∨ v'.ownBlock = some w.heap.size) → K (a.put o.dst v') w') :
    if Region.wanted o (yielded ops a.tmps) = true then Oper.wp P o a w K Q else E := by
  have hw : Region.wanted o (yielded ops a.tmps) = true := by simp [Region.wanted, hgd]
  rw [if_pos hw]
  exact wp_appAt w hT s x ho hs hown hx hr hn h47 hbase h

theorem Bs.drew {w : World} {B : Nat} {a : Option Addr} {l : List Byte} (h : Bs w B a l) : Bs w.drew B a l := h
theorem Ow.drew {w : World} {base : Nat} {e : TypeId} {v : Value} {l : List Byte} (h : Ow w base e v l) : Ow w.drew base e v l := World.ownsRow.drew h
theorem Ow.alloc {w : World} {base : Nat} {e : TypeId} {v : Value} {l : List Byte} (h : Ow w base e v l) (o : Obj) : Ow (w.alloc o) base e v l := World.ownsRow.alloc h o

/-! ### string(b) -/
def str (l : List Byte) : ByteArray := ⟨(l.map UInt8.ofBitVec).toArray⟩
theorem str_inj {l m : List Byte} (h : str l = str m) : l = m := by
  unfold str at h
  injection h with h
  have h2 : l.map UInt8.ofBitVec = m.map UInt8.ofBitVec := by simpa using congrArg Array.toList h
  exact (List.map_inj_right (fun x y e => by injection e)).1 h2

theorem str_toList (l : List Byte) : (str l).toList = l.map UInt8.ofBitVec := ByteArray.toList_mk _
theorem str_beq (l m : List Byte) : ((str l).toList == (str m).toList) = decide (l = m) := by
  rw [str_toList, str_toList, Bool.eq_iff_iff, beq_iff_eq, decide_eq_true_iff]
  exact List.map_inj_right (fun x y e => by injection e)

theorem run_str {src dst e : TypeId} (hT : IsBytes P src e) (hd : P.underlying dst = some .string) {B : Nat} {A : Option Addr} {l : List Byte} {c : Nat} (hr : Bs w B A l) (hn : A = none → c = 0) :
    (convert src dst (.slice A l.length c)).run P w = .ok (.string (str l)) w := by
  obtain ⟨hs, he, _⟩ := hT
  cases A with
  | none =>
    have hl : l = [] := by
      rcases Nat.eq_zero_or_pos l.length with h0 | h0
      · exact List.eq_nil_of_length_eq_zero h0
      · obtain ⟨b, off, h, _⟩ := hr h0; cases h
    subst hl
    exact Lib.run_convert_nil_bytes w src dst e c hs he hd
  | some ad =>
    have := run_convert_bytes_back (P := P) w src dst e ad c (l.map UInt8.ofBitVec) hs he hd (fun j hj => by
      simp only [List.length_map] at hj
      obtain ⟨b, off, he, _, hc⟩ := hr (by omega)
      injection he with he
      subst he
      have hcj := hc j l[j] (List.getElem?_eq_getElem hj)
      rw [List.getElem_map]
      by_cases h0 : j = 0
      · subst h0; simpa [Addr.add] using hcj
      · simpa [Addr.add, h0] using hcj)
    rw [List.length_map] at this
    exact this
end
end Go.Proofs.Ytaaikmncdgfkmaa
