/-
  The arguments of FarmTakes, opened: a slice of frames with two booleans each, and a struct of three ints.
-/
import Derived.Test.YtdjopkfibfgjeaaRows
import Derived.Test.YtdjopkfibfgjeaaLeaf
import Derived.Test.YtdjopkfibfgjeaaArgAgg
import Derived.Test.YtdjopkfibfgjeaaRd
import Derived.Test.YtdjopkfibfgjeaaFarmMath
import Derived.ChangeSlices
namespace Go.Proofs.Ytdjopkfibfgjeaa.Far
open Go.RowKit Go.ChangeShapes Go.WideShapes Go.Deep
open Tcf (Fr)

/-- a frame, whether there is room, whether the receiving end is replaced by a copy -/
structure Op16 where
  x : Fr
  room : Bool
  cpy : Bool
/-- element k of the slice that A leads to -/
structure OA (w : World) (B : Nat) (A : Option Addr) (b off k : Nat) (o : Op16) (a : Option Addr) (n c : Nat) : Prop where
  e : A = some ⟨b, off, none⟩
  hb : b < B
  c0 : w.cell? ⟨b, off + k * 8, none⟩ = some (.bool o.x.byp)
  c1 : w.cell? ⟨b, off + k * 8 + 1, none⟩ = some (.bool o.x.con)
  c2 : w.cell? ⟨b, off + k * 8 + 2, none⟩ = some (.int .i64 o.x.cr)
  c3 : w.cell? ⟨b, off + k * 8 + 3, none⟩ = some (.int .i64 o.x.ch)
  c4 : w.cell? ⟨b, off + k * 8 + 4, none⟩ = some (.int .i64 o.x.sq)
  c5 : w.cell? ⟨b, off + k * 8 + 5, none⟩ = some (.slice a n c)
  c6 : w.cell? ⟨b, off + k * 8 + 6, none⟩ = some (.bool o.room)
  c7 : w.cell? ⟨b, off + k * 8 + 7, none⟩ = some (.bool o.cpy)
  len : o.x.d.length = n
  bs : Bs w B a o.x.d
  nil : a = none → c = 0
  le : n ≤ c
  max : c ≤ maxLen
theorem OA.below {w w' : World} {B b off k n c : Nat} {A a : Option Addr} {o : Op16} (h : OA w B A b off k o a n c) (t : Below B w w') : OA w' B A b off k o a n c :=
  ⟨h.e, h.hb, (t.cell h.hb).trans h.c0, (t.cell h.hb).trans h.c1, (t.cell h.hb).trans h.c2, (t.cell h.hb).trans h.c3, (t.cell h.hb).trans h.c4, (t.cell h.hb).trans h.c5, (t.cell h.hb).trans h.c6, (t.cell h.hb).trans h.c7, h.len, h.bs.below t, h.nil, h.le, h.max⟩
theorem OA.rd {w : World} {B b off k n c : Nat} {A a : Option Addr} {o : Op16} (h : OA w B A b off k o a n c) (hB : B ≤ w.heap.size) : Rd w a o.x.d n c := ⟨h.len, h.bs.more hB, h.nil, h.le, h.max⟩
def Ops (w : World) (B : Nat) (A : Option Addr) (l : List Op16) : Prop := ∀ k o, l[k]? = some o → ∃ b off a n c, OA w B A b off k o a n c

section
variable {H : Type} {enc' : TypeId × Value → H} {w : World} {base : Nat} {held : Bool}
abbrev LeafOp (enc' : TypeId × Value → H) (w : World) (base : Nat) (held : Bool) (j : Nat) (t : TypeId) : Prop := Leaf enc' Try.prog w base (fun _ => true) held 42 j t
abbrev LeafFr (enc' : TypeId × Value → H) (w : World) (base : Nat) (held : Bool) (j : Nat) (t : TypeId) : Prop := Leaf enc' Try.prog w base (fun _ => true) held 32 j t
theorem f0 : LeafFr enc' w base held 0 4 := Leaf.one (i := 0) Try.underlying32 rfl (by kernel_rfl) (of_decide_eq_true (by kernel_rfl))
theorem f1 : LeafFr enc' w base held 1 4 := Leaf.one (i := 1) Try.underlying32 rfl (by kernel_rfl) (of_decide_eq_true (by kernel_rfl))
theorem f2 : LeafFr enc' w base held 2 3 := Leaf.one (i := 2) Try.underlying32 rfl (by kernel_rfl) (of_decide_eq_true (by kernel_rfl))
theorem f3 : LeafFr enc' w base held 3 3 := Leaf.one (i := 3) Try.underlying32 rfl (by kernel_rfl) (of_decide_eq_true (by kernel_rfl))
theorem f4 : LeafFr enc' w base held 4 3 := Leaf.one (i := 4) Try.underlying32 rfl (by kernel_rfl) (of_decide_eq_true (by kernel_rfl))
theorem f5 : LeafFr enc' w base held 5 28 := Leaf.one (i := 5) Try.underlying32 rfl (by kernel_rfl) (of_decide_eq_true (by kernel_rfl))
theorem o0 {j : Nat} {t : TypeId} (hj : j < 6) (h : LeafFr enc' w base held j t) : LeafOp enc' w base held j t := by
  have := Leaf.sub (i := 0) (k := j) (enc := enc') (P := Try.prog) (w := w) (base := base) (spare := fun _ => true) (held := held) (t := t) Try.underlying42 rfl (Nat.lt_of_lt_of_eq hj (by kernel_rfl)) h
  simpa using this
theorem o6 : LeafOp enc' w base held 6 4 := Leaf.one (i := 1) Try.underlying42 rfl (by kernel_rfl) (of_decide_eq_true (by kernel_rfl))
theorem o7 : LeafOp enc' w base held 7 4 := Leaf.one (i := 2) Try.underlying42 rfl (by kernel_rfl) (of_decide_eq_true (by kernel_rfl))

theorem open_ops16 {r : Reach} {b0 : Nat} {v : Value} {d : DataW H} {ps : List MemPlace} (hval : Value.okWide Try.prog w r b0 24 v) (hd : DataW.Trod enc' Try.prog w base (fun _ => true) held 24 v d ps) :
    ∃ a cap, ∃ l : List Op16, v = .slice a l.length cap ∧ (a = none → cap = 0) ∧ l.length ≤ cap ∧ cap ≤ maxLen ∧ Ops w w.heap.size a l := by
  obtain ⟨a0, len0, cap0, rfl⟩ := okWide_slice Try.underlying24 hval
  obtain ⟨fuel, hf⟩ := hd
  rcases open_cells (C := 8) Try.underlying24 (by kernel_rfl) hf with hcs | ⟨a, len, cap, L, hcs, hl, hm, hx⟩
  · simp [Value.cells] at hcs
    obtain ⟨rfl, rfl, rfl⟩ := hcs
    exact ⟨none, 0, [], rfl, fun _ => rfl, by simp, by simp, fun k o h => by simp at h⟩
  · simp [Value.cells] at hcs
    obtain ⟨rfl, rfl, rfl⟩ := hcs
    have sel : ∀ i, i < len0 → ∃ q : Op16 × Option Addr × Nat, ((L i).getD 0 undef = .bool q.1.x.byp ∧ (L i).getD 1 undef = .bool q.1.x.con ∧ (L i).getD 2 undef = .int .i64 q.1.x.cr ∧ (L i).getD 3 undef = .int .i64 q.1.x.ch ∧ (L i).getD 4 undef = .int .i64 q.1.x.sq ∧
        (L i).getD 5 undef = .slice q.2.1 q.1.x.d.length q.2.2 ∧ (L i).getD 6 undef = .bool q.1.room ∧ (L i).getD 7 undef = .bool q.1.cpy) ∧ Bs w w.heap.size q.2.1 q.1.x.d ∧ (q.2.1 = none → q.2.2 = 0) ∧ q.1.x.d.length ≤ q.2.2 ∧ q.2.2 ≤ maxLen := by
      intro i hi
      obtain ⟨_, n, y, t⟩ := hx i hi
      obtain ⟨_, _, t0⟩ := o0 (by decide) f0 n _ _ t
      obtain ⟨_, _, t1⟩ := o0 (by decide) f1 n _ _ t
      obtain ⟨_, _, t2⟩ := o0 (by decide) f2 n _ _ t
      obtain ⟨_, _, t3⟩ := o0 (by decide) f3 n _ _ t
      obtain ⟨_, _, t4⟩ := o0 (by decide) f4 n _ _ t
      obtain ⟨_, _, t5⟩ := o0 (by decide) f5 n _ _ t
      obtain ⟨_, _, t6⟩ := o6 n _ _ t
      obtain ⟨_, _, t7⟩ := o7 n _ _ t
      obtain ⟨x0, e0, _⟩ := DataW.trod_bool Try.underlying4 t0
      obtain ⟨x1, e1, _⟩ := DataW.trod_bool Try.underlying4 t1
      obtain ⟨x2, e2, _⟩ := DataW.trod_int Try.underlying3 t2
      obtain ⟨x3, e3, _⟩ := DataW.trod_int Try.underlying3 t3
      obtain ⟨x4, e4, _⟩ := DataW.trod_int Try.underlying3 t4
      obtain ⟨A5, l5, c5', e5, hb, hn, hlc, hcm⟩ := open_bytes_cell Try.underlying28 Try.underlying5 (by kernel_rfl) t5
      obtain ⟨x6, e6, _⟩ := DataW.trod_bool Try.underlying4 t6
      obtain ⟨x7, e7, _⟩ := DataW.trod_bool Try.underlying4 t7
      injection e0 with e0
      injection e1 with e1
      injection e2 with e2
      injection e3 with e3
      injection e4 with e4
      injection e6 with e6
      injection e7 with e7
      exact ⟨(⟨⟨x0, x1, x2, x3, x4, l5⟩, x6, x7⟩, A5, c5'), ⟨e0, e1, e2, e3, e4, e5, e6, e7⟩, hb, hn, hlc, hcm⟩
    have : Inhabited (Op16 × Option Addr × Nat) := ⟨(⟨⟨false, false, 0, 0, 0, []⟩, false, false⟩, none, 0)⟩
    obtain ⟨F, hF⟩ := choose_lt sel
    have hlen : ((List.range len0).map (fun i => (F i).1)).length = len0 := by simp
    refine ⟨some a, cap0, (List.range len0).map (fun i => (F i).1), by rw [hlen], (fun h => nomatch h), by rw [hlen]; exact hl, hm, fun i o hv => ?_⟩
    rw [List.getElem?_map] at hv
    by_cases hi : i < len0
    · rw [List.getElem?_range hi] at hv
      injection hv with hv
      subst hv
      obtain ⟨b, off, spot⟩ := a
      have hs : spot = none := by
        have := World.cell?_spot ((hx 0 (by omega)).1 0 (by decide))
        simpa [Addr.add] using this
      subst hs
      have c0 := (hx i hi).1 0 (by decide)
      have c1 := (hx i hi).1 1 (by decide)
      have c2 := (hx i hi).1 2 (by decide)
      have c3 := (hx i hi).1 3 (by decide)
      have c4 := (hx i hi).1 4 (by decide)
      have c5 := (hx i hi).1 5 (by decide)
      have c6 := (hx i hi).1 6 (by decide)
      have c7 := (hx i hi).1 7 (by decide)
      rw [add_plain] at c0 c1 c2 c3 c4 c5 c6 c7
      obtain ⟨⟨e0, e1, e2, e3, e4, e5, e6, e7⟩, hb, hn, hlc, hcm⟩ := hF i hi
      rw [e0] at c0
      rw [e1] at c1
      rw [e2] at c2
      rw [e3] at c3
      rw [e4] at c4
      rw [e5] at c5
      rw [e6] at c6
      rw [e7] at c7
      simp only [Nat.add_zero, ← Nat.add_assoc] at c0 c1 c2 c3 c4 c5 c6 c7
      exact ⟨b, off, (F i).2.1, _, (F i).2.2, rfl, lt_of_cell c0, c0, c1, c2, c3, c4, c5, c6, c7, rfl, hb, hn, hlc, hcm⟩
    · rw [List.getElem?_eq_none (by simpa using hi)] at hv
      cases hv

theorem array3 {cs : Array Value} (h : cs.size = 3) : cs = #[cs.getD 0 undef, cs.getD 1 undef, cs.getD 2 undef] := by
  obtain ⟨l⟩ := cs
  match l, h with
  | [x0, x1, x2], _ => rfl
theorem open_ends {r : Reach} {b0 : Nat} {v : Value} {d : DataW H} {ps : List MemPlace} (hval : Value.okWide Try.prog w r b0 23 v)
    (hd : DataW.Trod enc' Try.prog w base (fun _ => true) held 23 v d ps) :
    ∃ x y z : Int, v = .agg #[.int .i64 x, .int .i64 y, .int .i64 z] := by
  obtain ⟨cs, rfl, hsz, n, hf⟩ := open_agg_any Try.underlying23 (hone_of (by kernel_rfl)) (by kernel_rfl) hval hd
  have h6 := array3 (hsz.trans rfl)
  obtain ⟨y0, t0⟩ := hf 0 _ rfl
  obtain ⟨y1, t1⟩ := hf 1 _ rfl
  obtain ⟨y2, t2⟩ := hf 2 _ rfl
  obtain ⟨x0, e0, _⟩ := DataW.trod_int Try.underlying3 t0
  obtain ⟨x1, e1, _⟩ := DataW.trod_int Try.underlying3 t1
  obtain ⟨x2, e2, _⟩ := DataW.trod_int Try.underlying3 t2
  injection e0 with e0
  injection e1 with e1
  injection e2 with e2
  rw [e0, e1, e2] at h6
  exact ⟨x0, x1, x2, h6 ▸ rfl⟩
end
end Go.Proofs.Ytdjopkfibfgjeaa.Far
