/-
  A MAP FROM STRINGS TO SLICES, WHEREVER IT LIES (no dump is imported): Mp = block b is a map whose entries are the ascending list Q (a name, a slice's value); look-up, len, store, delete; Rg = a range over it, of which the names that gn tells are over; the laws at the operations.
-/
import Derived.Test.YtbeekfbcflmemaaFilMath
import Derived.Test.YtbeekfbcflmemaaCel
import Derived.Maps.RangeWalk
import Derived.Sort.KeysCollected
import Derived.StringKeys
import Derived.Lib.Hide
namespace Go.Proofs.Ytbeekfbcflmemaa.Fil
open Go.RowKit Go.Maps Go.WideShapes

structure V where
  a : Option Addr
  n : Nat
  c : Nat
def V.v (x : V) : Value := .slice x.a x.n x.c
def V.z : V := ⟨none, 0, 0⟩
/-- how an element reads: as itself -/
def R : Value → Option (DataW V × List MemPlace)
  | .slice a n c => some (.held ⟨a, n, c⟩, [])
  | _ => none
theorem R_mk (x : V) : R x.v = some (.held x, []) := rfl
theorem R_inv {v : Value} {z : DataW V × List MemPlace} (h : R v = some z) : ∃ x : V, v = x.v ∧ z = (.held x, []) := by
  unfold R at h
  split at h
  · cases h; exact ⟨_, rfl, rfl⟩
  · cases h
def ent (p : Nm × V) : Lit × DataW V := (.string p.1, .held p.2)
def D (Q : List (Nm × V)) : DataW V := .map (Q.map ent)
/-- a name as Go's string -/
def nm (n : Nm) : ByteArray := ⟨n.toArray⟩
theorem nm_inj {a b : Nm} (h : nm a = nm b) : a = b := by simpa [nm] using h
theorem nm_size (n : Nm) : (nm n).size = n.length := by simp [nm, ByteArray.size]
theorem nm_of (s : ByteArray) : ∃ n : Nm, s = nm n := ⟨s.data.toList, by simp [nm]⟩

section
variable {Q : List (Nm × V)}
theorem find_ent (n : Nm) : ∀ Q : List (Nm × V), (Q.map ent).find? (fun p => p.1.sameKey (.string n)) = (Q.find? fun p => p.1 == n).map ent
  | [] => rfl
  | p :: Q => by
    have e : ((ent p).1.sameKey (.string n)) = (p.1 == n) := rfl
    rw [List.map_cons, List.find?_cons, e, List.find?_cons]
    cases p.1 == n
    · exact find_ent n Q
    · rfl
theorem any_ent (n : Nm) : ∀ Q : List (Nm × V), (Q.map ent).any (fun p => p.1.sameKey (.string n)) = (get n Q).isSome
  | [] => rfl
  | p :: Q => by
    have e : ((ent p).1.sameKey (.string n)) = (p.1 == n) := rfl
    rw [List.map_cons, List.any_cons, e, any_ent n Q]
    unfold get
    rw [List.find?_cons]
    cases p.1 == n <;> simp
theorem D_has (n : Nm) : Maps.has (D Q) (.string n) = (get n Q).isSome := any_ent n Q
theorem D_at (n : Nm) (z : DataW V) : (D Q).atKey (.string n) z = ((get n Q).map DataW.held).getD z := by
  unfold DataW.atKey D
  simp only [find_ent]
  unfold get
  cases Q.find? fun p => p.1 == n <;> rfl
theorem insert_ent (n : Nm) (x : V) : ∀ Q : List (Nm × V), DataW.insert (ent (n, x)) (Q.map ent) = (ins n x Q).map ent
  | [] => rfl
  | y :: r => by
    rw [List.map_cons]
    unfold DataW.insert ins
    have e : ((ent (n, x)).1.before (ent y).1) = lt n y.1 := rfl
    rw [e]
    cases lt n y.1
    · simp only [Bool.false_eq_true, if_false, List.map_cons]; rw [insert_ent n x r]
    · simp only [if_true, List.map_cons]
theorem filter_ent (n : Nm) (Q : List (Nm × V)) : (Q.map ent).filter (fun p => !p.1.sameKey (.string n)) = (del n Q).map ent := by
  unfold del
  rw [List.filter_map]
  rfl
theorem D_put (n : Nm) (x : V) : (D Q).put (.string n) (.held x) = D (put n x Q) := by
  show DataW.map (DataW.insert (ent (n, x)) ((Q.map ent).filter (fun p => !p.1.sameKey (.string n)))) = _
  rw [filter_ent, insert_ent]
  rfl
theorem D_del (n : Nm) : (D Q).del (.string n) = D (del n Q) := by
  show DataW.map ((Q.map ent).filter (fun p => !p.1.sameKey (.string n))) = _
  rw [filter_ent]
  rfl
theorem D_size : Maps.size (D Q) = Q.length := by simp [Maps.size, D]
end

/-- block b is a map whose entries are Q -/
def Mp (P : Program) (k : TypeId) (w : World) (b : Nat) (Q : List (Nm × V)) : Prop := w.ownsMap P k R b Q.length (D Q)
section
variable {P : Program} {k t e : TypeId} {w w' : World} {b n : Nat} {Q : List (Nm × V)} {S : List Nat}
theorem Mp.of (h : w.ownsMap P k R b n (D Q)) : Mp P k w b Q := by
  obtain ⟨es, clock, hb, F, hs, hD⟩ := h
  refine ⟨es, clock, hb, F, ?_, hD⟩
  have e1 : Maps.size (D Q) = es.size := by rw [hD]; simp [Maps.size, length_sorted]
  rw [D_size] at e1
  omega
theorem Mp.new (w : World) : Mp P k (w.alloc (.map #[] 0)) w.heap.size [] := World.ownsMap_made w P k R
theorem Mp.lt (h : Mp P k w b Q) : b < w.heap.size := World.ownsMap.lt h
theorem Mp.only (h : Mp P k w b Q) (q : Only S w w') (hb : b ∉ S) : Mp P k w' b Q := by
  have hl := h.lt
  obtain ⟨es, clock, hh, F, hs, hD⟩ := h
  exact ⟨es, clock, (q.block b hl hb).trans hh, F, hs, hD⟩
theorem Mp.below (h : Mp P k w b Q) (q : Below w.heap.size w w') : Mp P k w' b Q := h.only (Only.of_below (S := []) q) (by simp)
theorem Mp.ne (h : Mp P k w b Q) {g : Nat} {T : TypeId} {cs : Array Value} (c : Cel w g T cs) : g ≠ b := by
  intro e
  subst e
  obtain ⟨es, clock, hh, _⟩ := h
  unfold Cel at c
  rw [hh] at c
  cases c
theorem key_of (hk : P.underlying k = some .string) {x : Nm} (hx : x.length ≤ maxLen) : keyOf P k (.string (nm x)) = some (.string x) := WideMaps.keyOf_string_mk hk (by rw [nm_size]; exact hx)
theorem Mp.look (h : Mp P k w b Q) (hk : P.underlying k = some .string) (ht : P.underlying t = some (.map k e)) (hz : (zeroValue e).run P w = .ok (.slice none 0 0) w) {x : Nm} (hx : x.length ≤ maxLen) :
    (Instr.lookup t (.map (some b)) (.string (nm x)) true).run P w = .ok (.tuple #[((get x Q).getD V.z).v, .bool (get x Q).isSome]) w := by
  obtain ⟨v, ps, hrun, hv⟩ := World.ownsMap.look_ok h (string_keyed hk) ht hz (R_mk V.z) (key_of hk hx)
  rw [D_has] at hrun
  rw [D_at] at hv
  obtain ⟨y, rfl, hy⟩ := R_inv hv
  rw [hrun]
  cases hg : get x Q with
  | none =>
    rw [hg] at hy
    simp only [Option.map_none, Option.getD_none, Prod.mk.injEq, DataW.held.injEq] at hy
    rw [← hy.1]; rfl
  | some d =>
    rw [hg] at hy
    simp only [Option.map_some, Option.getD_some, Prod.mk.injEq, DataW.held.injEq] at hy
    rw [← hy.1]; rfl
theorem Mp.look1 (h : Mp P k w b Q) (hk : P.underlying k = some .string) (ht : P.underlying t = some (.map k e)) (hz : (zeroValue e).run P w = .ok (.slice none 0 0) w) {x : Nm} (hx : x.length ≤ maxLen) :
    (Instr.lookup t (.map (some b)) (.string (nm x)) false).run P w = .ok ((get x Q).getD V.z).v w := by
  obtain ⟨v, ps, hrun, hv⟩ := World.ownsMap.lookup h (string_keyed hk) ht hz (R_mk V.z) (key_of hk hx)
  rw [D_at] at hv
  obtain ⟨y, rfl, hy⟩ := R_inv hv
  rw [hrun]
  cases hg : get x Q with
  | none =>
    rw [hg] at hy
    simp only [Option.map_none, Option.getD_none, Prod.mk.injEq, DataW.held.injEq] at hy
    rw [← hy.1]; rfl
  | some d =>
    rw [hg] at hy
    simp only [Option.map_some, Option.getD_some, Prod.mk.injEq, DataW.held.injEq] at hy
    rw [← hy.1]; rfl
theorem Mp.len (h : Mp P k w b Q) (ht : P.underlying t = some (.map k e)) (ty : TypeId) : (Builtin.len_ #[t] ty #[.map (some b)]).run P w = .ok (.int .i64 (Q.length : Int)) w := by
  have := World.ownsMap.len h ht ty
  rw [D_size] at this
  exact this
theorem Mp.store (h : Mp P k w b Q) (hk : P.underlying k = some .string) (ht : P.underlying t = some (.map k e)) {x : Nm} (hx : x.length ≤ maxLen) (hm : Q.length < maxLen) (y : V) :
    ∃ w', (Instr.mapUpdate t (.map (some b)) (.string (nm x)) y.v).run P w = .ok () w' ∧ Mp P k w' b (put x y Q) ∧ Only [b] w w' := by
  obtain ⟨w', hrun, ho, hg⟩ := World.ownsMap.update h (string_keyed hk) ht hm (key_of hk hx) (R_mk y)
  rw [D_put] at ho
  exact ⟨w', hrun, Mp.of ho, Only.of_grown hg⟩
theorem Mp.drop (h : Mp P k w b Q) (hk : P.underlying k = some .string) (ht : P.underlying t = some (.map k e)) {x : Nm} (hx : x.length ≤ maxLen) (ty : TypeId) :
    ∃ w', (Builtin.delete_ #[t, k] ty #[.map (some b), .string (nm x)]).run P w = .ok (.tuple #[]) w' ∧ Mp P k w' b (del x Q) ∧ Only [b] w w' := by
  obtain ⟨w', hrun, ho, hg⟩ := World.ownsMap.drop h (string_keyed hk) ht (key_of hk hx) ty
  rw [D_del] at ho
  exact ⟨w', hrun, Mp.of ho, Only.of_grown hg.grown⟩

/-! ### at the operations -/
variable {ops : Array Oper} {rest : List Oper} {o : Oper} {a : Act} {QQ : Exit → Act → World → Prop} {K : Act → World → Prop} {E : Prop}
theorem wp_store (h : Mp P k w b Q) (hk : P.underlying k = some .string) (ht : P.underlying t = some (.map k e)) (m i y : Operand) (ho : o.op = .mapUpdate t m i y) {x : Nm} {z : V} (hx : x.length ≤ maxLen) (hmx : Q.length < maxLen)
    (hm : a.eval m = .map (some b)) (hi : a.eval i = .string (nm x)) (hy : a.eval y = z.v) (hK : ∀ w', Mp P k w' b (put x z Q) → Only [b] w w' → K (a.put o.dst undef) w') : o.wp P a w K QQ := by
  obtain ⟨w', hrun, h1, h2⟩ := h.store hk ht hx hmx z
  unfold Oper.wp
  simp [execOp, ho, hm, hi, hy, hrun, Result.andThen]
  exact hK w' h1 h2
theorem wpList_store (hgd : o.guard = none) (h : Mp P k w b Q) (hk : P.underlying k = some .string) (ht : P.underlying t = some (.map k e)) (m i y : Operand) (ho : o.op = .mapUpdate t m i y) {x : Nm} {z : V} (hx : x.length ≤ maxLen) (hmx : Q.length < maxLen)
    (hm : a.eval m = .map (some b)) (hi : a.eval i = .string (nm x)) (hy : a.eval y = z.v) (hK : ∀ w', Mp P k w' b (put x z Q) → Only [b] w w' → wpList P ops QQ rest (a.put o.dst undef) w') : wpList P ops QQ (o :: rest) a w :=
  wpList_plain hgd fun _ hK' => wp_store h hk ht m i y ho hx hmx hm hi hy fun w' h1 h2 => hK' _ _ (hK w' h1 h2)
theorem step_store (hgd : o.guard = none) (h : Mp P k w b Q) (hk : P.underlying k = some .string) (ht : P.underlying t = some (.map k e)) (m i y : Operand) (ho : o.op = .mapUpdate t m i y) {x : Nm} {z : V} (hx : x.length ≤ maxLen) (hmx : Q.length < maxLen)
    (hm : a.eval m = .map (some b)) (hi : a.eval i = .string (nm x)) (hy : a.eval y = z.v) (hK : ∀ w', Mp P k w' b (put x z Q) → Only [b] w w' → K (a.put o.dst undef) w') :
    if Region.wanted o (yielded ops a.tmps) = true then Oper.wp P o a w K QQ else E := by
  have hw : Region.wanted o (yielded ops a.tmps) = true := by simp [Region.wanted, hgd]
  rw [if_pos hw]
  exact wp_store h hk ht m i y ho hx hmx hm hi hy hK
theorem wpList_drop (hgd : o.guard = none) (h : Mp P k w b Q) (hk : P.underlying k = some .string) (ht : P.underlying t = some (.map k e)) (m i : Operand) (ho : o.op = Op.call { callee := Callee.builtin Builtin.delete, args := #[m, i], argTypes := #[t, k] }) {x : Nm} (hx : x.length ≤ maxLen)
    (hm : a.eval m = .map (some b)) (hi : a.eval i = .string (nm x)) (hK : ∀ w', Mp P k w' b (del x Q) → Only [b] w w' → wpList P ops QQ rest (a.put o.dst (.tuple #[])) w') : wpList P ops QQ (o :: rest) a w := by
  refine wpList_plain hgd fun K' hK' => ?_
  obtain ⟨w', hrun, h1, h2⟩ := h.drop hk ht hx o.type
  unfold Oper.wp
  simp [execOp, ho, resolve, invoke, builtin, hm, hi, hrun, Result.andThen]
  exact hK' _ _ (hK w' h1 h2)

/-! ### a range over it -/
/-- block r is a range over the map in block b, the names that gn tells are over -/
def Rg (P : Program) (k : TypeId) (w : World) (b r : Nat) (Q : List (Nm × V)) (gn : Nm → Bool) : Prop := ∃ left cnt, w.ranges P k R b r Q.length (D Q) left cnt ∧ ∀ p ∈ Q, gn p.1 = !left (.string p.1)
variable {r : Nat} {gn : Nm → Bool}
theorem Rg.mp (h : Rg P k w b r Q gn) : Mp P k w b Q := by
  obtain ⟨_, _, h, _⟩ := h
  exact h.owns
theorem Rg.lt (h : Rg P k w b r Q gn) : r < w.heap.size := by
  obtain ⟨_, _, h, _⟩ := h
  exact h.lt
theorem Rg.ne (h : Rg P k w b r Q gn) : r ≠ b := by
  obtain ⟨_, _, h, _⟩ := h
  exact World.ranges.ne h
theorem Rg.only (h : Rg P k w b r Q gn) (q : Only S w w') (hb : b ∉ S) (hr : r ∉ S) : Rg P k w' b r Q gn := by
  have h1 := h.mp.lt
  have h2 := h.lt
  obtain ⟨left, cnt, ⟨es, clock, since, seen, c0, hh, F, hs, hD, hr', rest⟩, hl⟩ := h
  exact ⟨left, cnt, ⟨es, clock, since, seen, c0, (q.block b h1 hb).trans hh, F, hs, hD, (q.block r h2 hr).trans hr', rest⟩, hl⟩
theorem Rg.below (h : Rg P k w b r Q gn) (q : Below w.heap.size w w') : Rg P k w' b r Q gn := h.only (Only.of_below (S := []) q) (by simp) (by simp)
theorem rangeLeft_only (h : Rg P k w b r Q gn) (q : Only S w w') (hb : b ∉ S) (hr : r ∉ S) : w'.rangeLeft b r = w.rangeLeft b r := by
  have h1 := h.mp.lt
  have h2 := h.lt
  unfold World.rangeLeft
  rw [q.block b h1 hb, q.block r h2 hr]
theorem Rg.cel_ne (h : Rg P k w b r Q gn) {g : Nat} {T : TypeId} {cs : Array Value} (c : Cel w g T cs) : g ≠ r := by
  intro e
  subst e
  obtain ⟨_, _, ⟨es, clock, since, seen, c0, hh, F, hs, hD, hr', rest⟩, _⟩ := h
  unfold Cel at c
  rw [hr'] at c
  cases c
theorem wpList_range (hgd : o.guard = none) (h : Mp P k w b Q) (hs : Srt Q) (hk : P.underlying k = some .string) (ht : P.underlying t = some (.map k e)) (m : Operand) (ho : o.op = .range t m) (hm : a.eval m = .map (some b))
    (hK : ∀ w', Rg P k w' b w.heap.size Q (fun _ => false) → Below w.heap.size w w' → wpList P ops QQ rest (a.put o.dst (.pointer (some ⟨w.heap.size, 0, none⟩))) w') : wpList P ops QQ (o :: rest) a w := by
  refine wpList_range_own w hgd m t ho k e (string_keyed hk) ht R b Q.length (D Q) hm h fun w' h1 h2 h3 => hK w' ⟨_, _, h1, fun p hp => ?_⟩ ⟨h2.os, h2.tape, h2.output, h2.size, fun i hi => h2.block i hi (by simp)⟩
  rw [D_has, hs.get (d := p.2) hp]
  rfl
theorem wpList_next (hgd : o.guard = none) (h : Rg P k w b r Q gn) (hk : P.underlying k = some .string) (it : Operand) (ho : o.op = .next it false) (hi : a.eval it = .pointer (some ⟨r, 0, none⟩))
    (hDone : (∀ p ∈ Q, gn p.1 = true) → wpList P ops QQ rest (a.put o.dst (.tuple #[.bool false])) w)
    (hMore : ∀ (x : Nm) (y : V) (w' : World), (x, y) ∈ Q → gn x = false → Rg P k w' b r Q (fun z => gn z || z == x) → w'.rangeLeft b r < w.rangeLeft b r → Only [r] w w' →
      (Instr.entry (.pointer (some ⟨r, 0, none⟩))).run P w' = .ok (.tuple #[.string (nm x), y.v]) w' → wpList P ops QQ rest (a.put o.dst (.tuple #[.bool true, .string (nm x), y.v])) w') :
    wpList P ops QQ (o :: rest) a w := by
  obtain ⟨left, cnt, hr, hl⟩ := h
  refine wpList_next_ranges w hgd it ho k (string_keyed hk) R (fun x : Nm => .string (nm x)) V.v (fun key kl hkey => ?_) (fun v y hv => ?_) b r Q.length (D Q) left cnt hi hr (fun _ h0 => hDone fun p hp => ?_) (fun x c kl y w' cnt' hkey hlk hv hat hr' hlt hg hs he => ?_)
  · obtain ⟨x, rfl, _⟩ := Maps.keyOf_str hk hkey
    exact ⟨x, rfl⟩
  · obtain ⟨x, rfl, _⟩ := R_inv hv
    exact ⟨x, rfl⟩
  · rw [hl p hp, h0]; rfl
  · obtain ⟨x', ex, rfl, _⟩ := Maps.keyOf_str hk hkey
    have ex' : nm x = nm x' := by injection ex
    obtain rfl := nm_inj ex'
    have hm : (x, c) ∈ Q := by
      rw [R_mk] at hv
      injection hv with hv
      subst hv
      have h1 := hat (.held c)
      have h2 := hat .nil
      rw [D_at] at h1 h2
      cases hg : get x Q with
      | none => rw [hg] at h2; cases h2
      | some d =>
        rw [hg] at h2
        simp only [Option.map_some, Option.getD_some, DataW.held.injEq] at h2
        subst h2
        exact get_some hg
    refine hMore x c w' hm ?_ ⟨_, _, hr', fun p hp => ?_⟩ ?_ ?_ he
    · have := hl _ hm
      rw [this, hlk]; rfl
    · show (gn p.1 || p.1 == x) = !(left (.string p.1) && !(Lit.string p.1).sameKey (.string x))
      rw [hl p hp]
      show (!left (.string p.1) || p.1 == x) = !(left (.string p.1) && !(p.1 == x))
      cases left (.string p.1) <;> cases p.1 == x <;> rfl
    · rw [hr'.left_eq, hr.left_eq]; exact hlt
    · exact Only.of_grown hg
end

/-! ### what is over -/
section
variable {α : Type}
def gl (gn : Nm → Bool) (Q : List (Nm × α)) : List (Nm × α) := Q.filter fun p => gn p.1
theorem gl_none (Q : List (Nm × α)) : gl (fun _ => false) Q = [] := by simp [gl]
theorem gl_all {gn : Nm → Bool} {Q : List (Nm × α)} (h : ∀ p ∈ Q, gn p.1 = true) : gl gn Q = Q := List.filter_eq_self.2 h
theorem srt_ext : ∀ {A B : List (Nm × α)}, Srt A → Srt B → (∀ p, p ∈ A ↔ p ∈ B) → A = B
  | [], [], _, _, _ => rfl
  | [], b :: B, _, _, h => absurd ((h b).2 List.mem_cons_self) (by simp)
  | a :: A, [], _, _, h => absurd ((h a).1 List.mem_cons_self) (by simp)
  | a :: A, b :: B, hA, hB, h => by
    obtain ⟨h1, h2⟩ := List.pairwise_cons.1 hA
    obtain ⟨k1, k2⟩ := List.pairwise_cons.1 hB
    have e : a = b := by
      rcases List.mem_cons.1 ((h a).1 List.mem_cons_self) with e | e
      · exact e
      · rcases List.mem_cons.1 ((h b).2 List.mem_cons_self) with e2 | e2
        · exact e2.symm
        · have := lt_not (k1 a e)
          rw [h1 b e2] at this
          cases this
    subst e
    have key : ∀ {L : List (Nm × α)}, (∀ q ∈ L, lt a.1 q.1 = true) → a ∉ L := fun hl hm => by
      have := hl a hm
      rw [lt_irrefl] at this
      cases this
    rw [srt_ext h2 k2 fun p => ?_]
    constructor
    · intro hp
      rcases List.mem_cons.1 ((h p).1 (List.mem_cons_of_mem _ hp)) with e | e
      · exact absurd (e ▸ hp) (key h1)
      · exact e
    · intro hp
      rcases List.mem_cons.1 ((h p).2 (List.mem_cons_of_mem _ hp)) with e | e
      · exact absurd (e ▸ hp) (key k1)
      · exact e
theorem Srt.gl {Q : List (Nm × α)} (h : Srt Q) (gn : Nm → Bool) : Srt (Fil.gl gn Q) := List.Pairwise.sublist List.filter_sublist h
theorem gl_step {Q : List (Nm × α)} (h : Srt Q) {gn : Nm → Bool} {x : Nm} {y : α} (hm : (x, y) ∈ Q) : gl (fun z => gn z || z == x) Q = put x y (gl gn Q) := by
  refine srt_ext (h.gl _) ((h.gl _).put _ _) fun p => ?_
  rw [mem_put]
  unfold gl
  simp only [List.mem_filter, Bool.or_eq_true, beq_iff_eq]
  constructor
  · rintro ⟨h1, h2⟩
    rcases Classical.em (p.1 = x) with e | e
    · exact .inl (h.inj h1 hm e)
    · exact .inr ⟨⟨h1, h2.resolve_right e⟩, e⟩
  · rintro (rfl | ⟨⟨h1, h2⟩, _⟩)
    · exact ⟨hm, .inr rfl⟩
    · exact ⟨h1, .inl h2⟩
theorem gl_new {Q : List (Nm × α)} {gn : Nm → Bool} {x : Nm} (h : gn x = false) : del x (gl gn Q) = gl gn Q := List.filter_eq_self.2 fun p hp => by
  have h1 := (List.mem_filter.1 hp).2
  have : p.1 ≠ x := fun e => by rw [e, h] at h1; cases h1
  simpa using this
end
end Go.Proofs.Ytbeekfbcflmemaa.Fil
