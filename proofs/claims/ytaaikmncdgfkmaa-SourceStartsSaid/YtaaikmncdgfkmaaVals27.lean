/-
  The arguments of layer 27's laws: a sending end's settings and its calls, a struct by value with a struct, a string, bytes and a slice of structs in it.
-/
import Derived.Test.YtaaikmncdgfkmaaRows
import Derived.Test.YtaaikmncdgfkmaaRecs
import Derived.Test.YtaaikmncdgfkmaaArgAgg
import Derived.Test.YtaaikmncdgfkmaaLeaf
import Derived.Test.YtaaikmncdgfkmaaSrcH
import Derived.ChangeSlices
namespace Go.Proofs.Ytaaikmncdgfkmaa.Src
open Go.RowKit Go.ChangeShapes Go.WideShapes Go.Deep
open Go.Proofs.Ytaaikmncdgfkmaa.Pdu (Pd Gx Bx Px encR encR_ok)
open Go.Proofs.Ytaaikmncdgfkmaa.Rng (R)

/-- a call -/
structure St27 where
  kind : Nat
  p : Pd
  now : Int
/-- element k of the slice that A leads to -/
structure OA (w : World) (B : Nat) (A : Option Addr) (b off k : Nat) (o : St27) (aA : Option Addr) (nA cA : Nat) (aG : Option Addr) (nG cG : Nat) : Prop where
  e : A = some ⟨b, off, none⟩
  hb : b < B
  c0 : w.cell? ⟨b, off + k * 13, none⟩ = some (.int .u8 (o.kind : Int))
  c1 : w.cell? ⟨b, off + k * 13 + 1, none⟩ = some (I o.p.kd)
  c2 : w.cell? ⟨b, off + k * 13 + 2, none⟩ = some (I o.p.sr)
  c3 : w.cell? ⟨b, off + k * 13 + 3, none⟩ = some (I o.p.nm)
  c4 : w.cell? ⟨b, off + k * 13 + 4, none⟩ = some (I o.p.cl)
  c5 : w.cell? ⟨b, off + k * 13 + 5, none⟩ = some (.string (str o.p.na))
  c6 : w.cell? ⟨b, off + k * 13 + 6, none⟩ = some (I o.p.sz)
  c7 : w.cell? ⟨b, off + k * 13 + 7, none⟩ = some (I o.p.of)
  c8 : w.cell? ⟨b, off + k * 13 + 8, none⟩ = some (.slice aA nA cA)
  c9 : w.cell? ⟨b, off + k * 13 + 9, none⟩ = some (.int .u32 (o.p.su : Int))
  c10 : w.cell? ⟨b, off + k * 13 + 10, none⟩ = some (I o.p.co)
  c11 : w.cell? ⟨b, off + k * 13 + 11, none⟩ = some (.slice aG nG cG)
  c12 : w.cell? ⟨b, off + k * 13 + 12, none⟩ = some (I o.now)
  kb : o.kind < 256
  sb : o.p.su < 4294967296
  lA : o.p.da.length = nA
  rA : Bs w B aA o.p.da
  zA : aA = none → cA = 0
  mA : nA ≤ cA
  xA : cA ≤ maxLen
  lG : o.p.ga.length = nG
  rG : Row.Rs encR 2 w B aG o.p.ga
  zG : aG = none → cG = 0
  mG : nG ≤ cG
  xG : cG ≤ maxLen
theorem OA.below {w w' : World} {B b off k : Nat} {A : Option Addr} {o : St27} {aA : Option Addr} {nA cA : Nat} {aG : Option Addr} {nG cG : Nat} (h : OA w B A b off k o aA nA cA aG nG cG) (t : Below B w w') : OA w' B A b off k o aA nA cA aG nG cG :=
  ⟨h.e, h.hb, (t.cell h.hb).trans h.c0, (t.cell h.hb).trans h.c1, (t.cell h.hb).trans h.c2, (t.cell h.hb).trans h.c3, (t.cell h.hb).trans h.c4, (t.cell h.hb).trans h.c5, (t.cell h.hb).trans h.c6, (t.cell h.hb).trans h.c7, (t.cell h.hb).trans h.c8, (t.cell h.hb).trans h.c9, (t.cell h.hb).trans h.c10, (t.cell h.hb).trans h.c11, (t.cell h.hb).trans h.c12, h.kb, h.sb, h.lA, h.rA.below t, h.zA, h.mA, h.xA, h.lG, h.rG.below t, h.zG, h.mG, h.xG⟩
theorem OA.px {w : World} {B b off k : Nat} {A : Option Addr} {o : St27} {aA : Option Addr} {nA cA : Nat} {aG : Option Addr} {nG cG : Nat} (h : OA w B A b off k o aA nA cA aG nG cG) (hB : B ≤ w.heap.size) : Px w o.p aA nA cA aG nG cG :=
  ⟨⟨h.lA, h.rA.more hB, h.zA, h.mA, h.xA⟩, ⟨h.lG, h.rG.more hB, h.zG, h.mG, h.xG⟩, h.sb⟩
def Sts (w : World) (B : Nat) (A : Option Addr) (l : List St27) : Prop := ∀ k o, l[k]? = some o → ∃ b off aA nA cA aG nG cG, OA w B A b off k o aA nA cA aG nG cG
theorem Sts.below {w w' : World} {B : Nat} {A : Option Addr} {l : List St27} (h : Sts w B A l) (t : Below B w w') : Sts w' B A l := fun k o ho => by
  obtain ⟨b, off, aA, nA, cA, aG, nG, cG, q⟩ := h k o ho
  exact ⟨b, off, aA, nA, cA, aG, nG, cG, q.below t⟩
theorem u32_b27 {k : Int} (h : (Lit.int .u32 k).wf = true) : 0 ≤ k ∧ k < 4294967296 := by
  unfold Lit.wf at h
  rw [Bool.and_eq_true] at h
  have h1 := of_decide_eq_true h.1
  have h2 := of_decide_eq_true h.2
  have e : IntKind.u32.min = 0 := by decide
  have e2 : IntKind.u32.max = 4294967295 := by decide
  rw [e] at h1
  rw [e2] at h2
  exact ⟨h1, by omega⟩
theorem u8_b27 {k : Int} (h : (Lit.int .u8 k).wf = true) : 0 ≤ k ∧ k < 256 := by
  unfold Lit.wf at h
  rw [Bool.and_eq_true] at h
  have h1 := of_decide_eq_true h.1
  have h2 := of_decide_eq_true h.2
  have e : IntKind.u8.min = 0 := by decide
  have e2 : IntKind.u8.max = 255 := by decide
  rw [e] at h1
  rw [e2] at h2
  exact ⟨h1, by omega⟩

theorem add_plain'' (b off i : Nat) : (⟨b, off, none⟩ : Addr).add i = ⟨b, off + i, none⟩ := by
  by_cases h : i = 0
  · subst h; rfl
  · simp [Addr.add, h]

section
variable {H : Type} {enc' : TypeId × Value → H} {w : World} {base : Nat} {held : Bool}
abbrev LeafP (enc' : TypeId × Value → H) (w : World) (base : Nat) (held : Bool) (j : Nat) (t : TypeId) : Prop := Leaf enc' Try.prog w base (fun _ => true) held 45 j t
abbrev LeafI (enc' : TypeId × Value → H) (w : World) (base : Nat) (held : Bool) (j : Nat) (t : TypeId) : Prop := Leaf enc' Try.prog w base (fun _ => true) held 23 j t
set_option maxRecDepth 100000 in
theorem li0 : LeafI enc' w base held 0 3 := Leaf.one (i := 0) Try.underlying23 rfl (by kernel_rfl) (of_decide_eq_true (by kernel_rfl))
set_option maxRecDepth 100000 in
theorem li1 : LeafI enc' w base held 1 3 := Leaf.one (i := 1) Try.underlying23 rfl (by kernel_rfl) (of_decide_eq_true (by kernel_rfl))
set_option maxRecDepth 100000 in
theorem lp0 : LeafP enc' w base held 0 3 := Leaf.one (i := 0) Try.underlying45 rfl (by kernel_rfl) (of_decide_eq_true (by kernel_rfl))
set_option maxRecDepth 100000 in
theorem lp3 : LeafP enc' w base held 3 3 := Leaf.one (i := 2) Try.underlying45 rfl (by kernel_rfl) (of_decide_eq_true (by kernel_rfl))
set_option maxRecDepth 100000 in
theorem lp4 : LeafP enc' w base held 4 9 := Leaf.one (i := 3) Try.underlying45 rfl (by kernel_rfl) (of_decide_eq_true (by kernel_rfl))
set_option maxRecDepth 100000 in
theorem lp5 : LeafP enc' w base held 5 3 := Leaf.one (i := 4) Try.underlying45 rfl (by kernel_rfl) (of_decide_eq_true (by kernel_rfl))
set_option maxRecDepth 100000 in
theorem lp6 : LeafP enc' w base held 6 3 := Leaf.one (i := 5) Try.underlying45 rfl (by kernel_rfl) (of_decide_eq_true (by kernel_rfl))
set_option maxRecDepth 100000 in
theorem lp7 : LeafP enc' w base held 7 24 := Leaf.one (i := 6) Try.underlying45 rfl (by kernel_rfl) (of_decide_eq_true (by kernel_rfl))
set_option maxRecDepth 100000 in
theorem lp8 : LeafP enc' w base held 8 43 := Leaf.one (i := 7) Try.underlying45 rfl (by kernel_rfl) (of_decide_eq_true (by kernel_rfl))
set_option maxRecDepth 100000 in
theorem lp9 : LeafP enc' w base held 9 33 := Leaf.one (i := 8) Try.underlying45 rfl (by kernel_rfl) (of_decide_eq_true (by kernel_rfl))
set_option maxRecDepth 100000 in
theorem lp10 : LeafP enc' w base held 10 36 := Leaf.one (i := 9) Try.underlying45 rfl (by kernel_rfl) (of_decide_eq_true (by kernel_rfl))
set_option maxRecDepth 100000 in
theorem lpi {j : Nat} {t : TypeId} (hj : j < 2) (h : LeafI enc' w base held j t) : LeafP enc' w base held (1 + j) t :=
  Leaf.sub (i := 1) (k := j) (enc := enc') (P := Try.prog) (w := w) (base := base) (spare := fun _ => true) (held := held) (t := t) Try.underlying45 rfl (Nat.lt_of_lt_of_eq hj (by kernel_rfl)) h
set_option maxRecDepth 100000 in
theorem open_rngs {fuel : Nat} {v : Value} {y : DataW H × List MemPlace} (hf : DataW.trod enc' Try.prog w base (fun _ => true) held fuel 36 [v] = some y) :
    ∃ a cap, ∃ l : List R, v = .slice a l.length cap ∧ Gx w a l l.length cap := by
  rcases open_recs Try.underlying36 Try.underlying62 (hone_of (by kernel_rfl)) (by kernel_rfl) hf with hcs | ⟨a, len, cap, n, V, hcs, hl, hm, hx⟩
  · injection hcs with hcs
    subst hcs
    exact ⟨none, 0, [], rfl, rfl, fun h => absurd h (by simp), fun _ => rfl, Nat.le_refl _, by decide⟩
  · injection hcs with hcs
    subst hcs
    have sel : ∀ i, i < len → ∃ x : R, V i 0 = I x.1 ∧ V i 1 = I x.2 := by
      intro i hi
      obtain ⟨c0, d0, t0⟩ := hx i hi 0 _ rfl
      obtain ⟨c1, d1, t1⟩ := hx i hi 1 _ rfl
      obtain ⟨k, hk, _⟩ := DataW.trod_int Try.underlying3 t0
      obtain ⟨m, hm', _⟩ := DataW.trod_int Try.underlying3 t1
      injection hk with hk
      injection hm' with hm'
      exact ⟨(k, m), hk, hm'⟩
    obtain ⟨F, hF⟩ := choose_lt sel
    have hlen : ((List.range len).map F).length = len := by simp
    refine ⟨some a, cap, (List.range len).map F, by rw [hlen], rfl, fun hpos => ?_, (fun h => nomatch h), by rw [hlen]; exact hl, hm⟩
    rw [hlen] at hpos
    obtain ⟨b, off, spot⟩ := a
    have hs : spot = none := by
      have := World.cell?_spot (hx 0 hpos 0 _ rfl).1
      simpa [Addr.add] using this
    subst hs
    have c00 := (hx 0 hpos 0 _ rfl).1
    rw [add_plain''] at c00
    refine ⟨b, off, rfl, lt_of_cell c00, fun i x hv j u hu => ?_⟩
    rw [List.getElem?_map] at hv
    by_cases hi : i < len
    · rw [List.getElem?_range hi] at hv
      injection hv with hv
      subst hv
      obtain ⟨e0, e1⟩ := hF i hi
      have c0 := (hx i hi 0 _ rfl).1
      have c1 := (hx i hi 1 _ rfl).1
      rw [add_plain''] at c0 c1
      rw [e0] at c0
      rw [e1] at c1
      match j, hu with
      | 0, hu => cases hu; exact c0
      | 1, hu => cases hu; exact c1
    · rw [List.getElem?_eq_none (by simpa using hi)] at hv
      cases hv

theorem str_of (s : ByteArray) : ∃ l : List Byte, s = str l := by
  refine ⟨s.data.toList.map UInt8.toBitVec, ?_⟩
  obtain ⟨d⟩ := s
  obtain ⟨l⟩ := d
  unfold str
  congr 2
  rw [List.map_map]
  exact (List.map_id'' (fun _ => rfl) l).symm
abbrev LeafS (enc' : TypeId × Value → H) (w : World) (base : Nat) (held : Bool) (j : Nat) (t : TypeId) : Prop := Leaf enc' Try.prog w base (fun _ => true) held 60 j t
abbrev LeafC (enc' : TypeId × Value → H) (w : World) (base : Nat) (held : Bool) (j : Nat) (t : TypeId) : Prop := Leaf enc' Try.prog w base (fun _ => true) held 26 j t
abbrev LeafA (enc' : TypeId × Value → H) (w : World) (base : Nat) (held : Bool) (j : Nat) (t : TypeId) : Prop := Leaf enc' Try.prog w base (fun _ => true) held 29 j t
set_option maxRecDepth 100000 in
theorem ls0 : LeafS enc' w base held 0 5 := Leaf.one (i := 0) Try.underlying60 rfl (by kernel_rfl) (of_decide_eq_true (by kernel_rfl))
set_option maxRecDepth 100000 in
theorem ls12 : LeafS enc' w base held 12 3 := Leaf.one (i := 2) Try.underlying60 rfl (by kernel_rfl) (of_decide_eq_true (by kernel_rfl))
set_option maxRecDepth 100000 in
theorem lsp {j : Nat} {t : TypeId} (hj : j < 11) (h : LeafP enc' w base held j t) : LeafS enc' w base held (1 + j) t :=
  Leaf.sub (i := 1) (k := j) (enc := enc') (P := Try.prog) (w := w) (base := base) (spare := fun _ => true) (held := held) (t := t) Try.underlying60 rfl (Nat.lt_of_lt_of_eq hj (by kernel_rfl)) h
set_option maxRecDepth 100000 in
theorem lc0 : LeafC enc' w base held 0 3 := Leaf.one (i := 0) Try.underlying26 rfl (by kernel_rfl) (of_decide_eq_true (by kernel_rfl))
set_option maxRecDepth 100000 in
theorem lc1 : LeafC enc' w base held 1 3 := Leaf.one (i := 1) Try.underlying26 rfl (by kernel_rfl) (of_decide_eq_true (by kernel_rfl))
set_option maxRecDepth 100000 in
theorem lc2 : LeafC enc' w base held 2 3 := Leaf.one (i := 2) Try.underlying26 rfl (by kernel_rfl) (of_decide_eq_true (by kernel_rfl))
set_option maxRecDepth 100000 in
theorem lai {j : Nat} {t : TypeId} (hj : j < 2) (h : LeafI enc' w base held j t) : LeafA enc' w base held (0 + j) t :=
  Leaf.sub (i := 0) (k := j) (enc := enc') (P := Try.prog) (w := w) (base := base) (spare := fun _ => true) (held := held) (t := t) Try.underlying29 rfl (Nat.lt_of_lt_of_eq hj (by kernel_rfl)) h
set_option maxRecDepth 100000 in
theorem lac {j : Nat} {t : TypeId} (hj : j < 3) (h : LeafC enc' w base held j t) : LeafA enc' w base held (5 + j) t :=
  Leaf.sub (i := 4) (k := j) (enc := enc') (P := Try.prog) (w := w) (base := base) (spare := fun _ => true) (held := held) (t := t) Try.underlying29 rfl (Nat.lt_of_lt_of_eq hj (by kernel_rfl)) h
set_option maxRecDepth 100000 in
theorem la2 : LeafA enc' w base held 2 3 := Leaf.one (i := 1) Try.underlying29 rfl (by kernel_rfl) (of_decide_eq_true (by kernel_rfl))
set_option maxRecDepth 100000 in
theorem la3 : LeafA enc' w base held 3 9 := Leaf.one (i := 2) Try.underlying29 rfl (by kernel_rfl) (of_decide_eq_true (by kernel_rfl))
set_option maxRecDepth 100000 in
theorem la4 : LeafA enc' w base held 4 24 := Leaf.one (i := 3) Try.underlying29 rfl (by kernel_rfl) (of_decide_eq_true (by kernel_rfl))
set_option maxRecDepth 100000 in
theorem la8 : LeafA enc' w base held 8 27 := Leaf.one (i := 5) Try.underlying29 rfl (by kernel_rfl) (of_decide_eq_true (by kernel_rfl))
set_option maxRecDepth 100000 in
set_option maxHeartbeats 2000000 in
theorem open_steps27 {fuel : Nat} {v : Value} {y : DataW H × List MemPlace} (hf : DataW.trod enc' Try.prog w base (fun _ => true) held fuel 27 [v] = some y) :
    ∃ a cap, ∃ l : List St27, v = .slice a l.length cap ∧ l.length ≤ cap ∧ cap ≤ maxLen ∧ Sts w w.heap.size a l := by
  rcases open_cells (C := 13) Try.underlying27 (by kernel_rfl) hf with hcs | ⟨a, len0, cap0, L, hcs, hl, hm, hx⟩
  · injection hcs with hcs
    exact ⟨none, 0, [], hcs, by simp, by simp, fun k o h => by simp at h⟩
  · injection hcs with hcs
    subst hcs
    have sel : ∀ i, i < len0 → ∃ q : St27 × Option Addr × Nat × Option Addr × Nat, ((L i).getD 0 undef = .int .u8 (q.1.kind : Int) ∧ (L i).getD 1 undef = I q.1.p.kd ∧ (L i).getD 2 undef = I q.1.p.sr ∧ (L i).getD 3 undef = I q.1.p.nm ∧ (L i).getD 4 undef = I q.1.p.cl ∧ (L i).getD 5 undef = .string (str q.1.p.na) ∧ (L i).getD 6 undef = I q.1.p.sz ∧ (L i).getD 7 undef = I q.1.p.of ∧ (L i).getD 8 undef = .slice q.2.1 q.1.p.da.length q.2.2.1 ∧ (L i).getD 9 undef = .int .u32 (q.1.p.su : Int) ∧ (L i).getD 10 undef = I q.1.p.co ∧ (L i).getD 11 undef = .slice q.2.2.2.1 q.1.p.ga.length q.2.2.2.2 ∧ (L i).getD 12 undef = I q.1.now) ∧ q.1.kind < 256 ∧ q.1.p.su < 4294967296 ∧ (Bs w w.heap.size q.2.1 q.1.p.da ∧ (q.2.1 = none → q.2.2.1 = 0) ∧ q.1.p.da.length ≤ q.2.2.1 ∧ q.2.2.1 ≤ maxLen) ∧ Gx w q.2.2.2.1 q.1.p.ga q.1.p.ga.length q.2.2.2.2 := by
      intro i hi
      obtain ⟨_, n, y, t⟩ := hx i hi
      obtain ⟨_, _, t0⟩ := ls0 n _ _ t
      obtain ⟨_, _, t1⟩ := lsp (by decide) lp0 n _ _ t
      obtain ⟨_, _, t2⟩ := lsp (by decide) (lpi (by decide) li0) n _ _ t
      obtain ⟨_, _, t3⟩ := lsp (by decide) (lpi (by decide) li1) n _ _ t
      obtain ⟨_, _, t4⟩ := lsp (by decide) lp3 n _ _ t
      obtain ⟨_, _, t5⟩ := lsp (by decide) lp4 n _ _ t
      obtain ⟨_, _, t6⟩ := lsp (by decide) lp5 n _ _ t
      obtain ⟨_, _, t7⟩ := lsp (by decide) lp6 n _ _ t
      obtain ⟨_, _, t8⟩ := lsp (by decide) lp7 n _ _ t
      obtain ⟨_, _, t9⟩ := lsp (by decide) lp8 n _ _ t
      obtain ⟨_, _, t10⟩ := lsp (by decide) lp9 n _ _ t
      obtain ⟨_, _, t11⟩ := lsp (by decide) lp10 n _ _ t
      obtain ⟨_, _, t12⟩ := ls12 n _ _ t
      obtain ⟨x0, e0, _, w0⟩ := DataW.trod_int Try.underlying5 t0
      obtain ⟨x1, e1, _⟩ := DataW.trod_int Try.underlying3 t1
      obtain ⟨x2, e2, _⟩ := DataW.trod_int Try.underlying3 t2
      obtain ⟨x3, e3, _⟩ := DataW.trod_int Try.underlying3 t3
      obtain ⟨x4, e4, _⟩ := DataW.trod_int Try.underlying3 t4
      obtain ⟨s5, e5, _⟩ := DataW.trod_string Try.underlying9 t5
      obtain ⟨x6, e6, _⟩ := DataW.trod_int Try.underlying3 t6
      obtain ⟨x7, e7, _⟩ := DataW.trod_int Try.underlying3 t7
      obtain ⟨a8, l8, d8, e8, hb, hn, hl8, hm8⟩ := open_bytes_cell Try.underlying24 Try.underlying5 (by kernel_rfl) t8
      obtain ⟨x9, e9, _, w9⟩ := DataW.trod_int Try.underlying43 t9
      obtain ⟨x10, e10, _⟩ := DataW.trod_int Try.underlying33 t10
      obtain ⟨a11, d11, l11, e11, hg⟩ := open_rngs t11
      obtain ⟨x12, e12, _⟩ := DataW.trod_int Try.underlying3 t12
      obtain ⟨na, rfl⟩ := str_of s5
      obtain ⟨q1, q2⟩ := u32_b27 w9
      obtain ⟨su, rfl⟩ := Int.eq_ofNat_of_zero_le q1
      obtain ⟨q3, q4⟩ := u8_b27 w0
      obtain ⟨kd, rfl⟩ := Int.eq_ofNat_of_zero_le q3
      injection e0 with e0
      injection e1 with e1
      injection e2 with e2
      injection e3 with e3
      injection e4 with e4
      injection e5 with e5
      injection e6 with e6
      injection e7 with e7
      injection e9 with e9
      injection e10 with e10
      injection e12 with e12
      simp only [Nat.reduceAdd] at e1 e2 e3 e4 e5 e6 e7 e8 e9 e10 e11
      exact ⟨(⟨kd, ⟨x1, x2, x3, x4, na, x6, x7, l8, su, x10, l11⟩, x12⟩, a8, d8, a11, d11), ⟨e0, e1, e2, e3, e4, e5, e6, e7, e8, e9, e10, e11, e12⟩, by simp only; omega, by simp only; omega, ⟨hb, hn, hl8, hm8⟩, hg⟩
    have : Inhabited (St27 × Option Addr × Nat × Option Addr × Nat) := ⟨(⟨0, Pdu.Pd.none, 0⟩, none, 0, none, 0)⟩
    obtain ⟨F, hF⟩ := choose_lt sel
    have hlen : ((List.range len0).map (fun i => (F i).1)).length = len0 := by simp
    refine ⟨some a, cap0, (List.range len0).map (fun i => (F i).1), by rw [hlen], by rw [hlen]; exact hl, hm, fun i o hv => ?_⟩
    rw [List.getElem?_map] at hv
    by_cases hi : i < len0
    · rw [List.getElem?_range hi] at hv
      injection hv with hv
      subst hv
      obtain ⟨b, off, spot⟩ := a
      have hs : spot = none := by
        have := World.cell?_spot ((hx 0 (by omega)).1 0 (by decide))
        simpa [Addr.add] using this
      subst hs
      have c0 := (hx i hi).1 0 (by decide)
      have c1 := (hx i hi).1 1 (by decide)
      have c2 := (hx i hi).1 2 (by decide)
      have c3 := (hx i hi).1 3 (by decide)
      have c4 := (hx i hi).1 4 (by decide)
      have c5 := (hx i hi).1 5 (by decide)
      have c6 := (hx i hi).1 6 (by decide)
      have c7 := (hx i hi).1 7 (by decide)
      have c8 := (hx i hi).1 8 (by decide)
      have c9 := (hx i hi).1 9 (by decide)
      have c10 := (hx i hi).1 10 (by decide)
      have c11 := (hx i hi).1 11 (by decide)
      have c12 := (hx i hi).1 12 (by decide)
      rw [add_plain''] at c0 c1 c2 c3 c4 c5 c6 c7 c8 c9 c10 c11 c12
      obtain ⟨⟨e0, e1, e2, e3, e4, e5, e6, e7, e8, e9, e10, e11, e12⟩, hk, hsu, ⟨hb, hn, hl8, hm8⟩, hg⟩ := hF i hi
      rw [e0] at c0
      rw [e1] at c1
      rw [e2] at c2
      rw [e3] at c3
      rw [e4] at c4
      rw [e5] at c5
      rw [e6] at c6
      rw [e7] at c7
      rw [e8] at c8
      rw [e9] at c9
      rw [e10] at c10
      rw [e11] at c11
      rw [e12] at c12
      simp only [Nat.add_zero, ← Nat.add_assoc] at c0 c1 c2 c3 c4 c5 c6 c7 c8 c9 c10 c11 c12
      exact ⟨b, off, _, _, _, _, _, _, ⟨rfl, lt_of_cell c0, c0, c1, c2, c3, c4, c5, c6, c7, c8, c9, c10, c11, c12, hk, hsu, rfl, hb, hn, hl8, hm8, rfl, hg.rs, hg.nil, hg.le, hg.max⟩⟩
    · rw [List.getElem?_eq_none (by simpa using hi)] at hv
      cases hv
theorem nine27 {cs : Array Value} (h : cs.size = 9) : cs = #[cs.toList.getD 0 undef, cs.toList.getD 1 undef, cs.toList.getD 2 undef, cs.toList.getD 3 undef, cs.toList.getD 4 undef, cs.toList.getD 5 undef, cs.toList.getD 6 undef, cs.toList.getD 7 undef, cs.toList.getD 8 undef] := by
  obtain ⟨l⟩ := cs
  match l, h with
  | [_, _, _, _, _, _, _, _, _], _ => rfl
set_option maxRecDepth 100000 in
set_option maxHeartbeats 2000000 in
theorem open_ask27 {r : Reach} {b0 : Nat} {v : Value} {d : DataW H} {ps : List MemPlace} (hval : Value.okWide Try.prog w r b0 29 v)
    (hd : DataW.Trod enc' Try.prog w base (fun _ => true) held 29 v d ps) :
    ∃ (sr nm cl : Int) (na da : List Byte) (ch tt rt : Int) (l : List St27) (A : Option Addr) (a : Nat) (S : Option Addr) (c : Nat), v = .agg #[I sr, I nm, I cl, .string (str na), .slice A da.length a, I ch, I tt, I rt, .slice S l.length c] ∧ Bx w A da da.length a ∧ Sts w w.heap.size S l ∧ l.length ≤ c ∧ c ≤ maxLen := by
  obtain ⟨cs, rfl, hsz⟩ := okWide_struct Try.underlying29 hval
  obtain ⟨n, t⟩ := hd
  have t : DataW.trod enc' Try.prog w base (fun _ => true) held n 29 cs.toList = some (d, ps) := t
  have h9 := nine27 (hsz.trans (by kernel_rfl))
  obtain ⟨_, _, t0⟩ := lai (by decide) li0 n _ _ t
  obtain ⟨_, _, t1⟩ := lai (by decide) li1 n _ _ t
  obtain ⟨_, _, t2⟩ := la2 n _ _ t
  obtain ⟨_, _, t3⟩ := la3 n _ _ t
  obtain ⟨_, _, t4⟩ := la4 n _ _ t
  obtain ⟨_, _, t5⟩ := lac (by decide) lc0 n _ _ t
  obtain ⟨_, _, t6⟩ := lac (by decide) lc1 n _ _ t
  obtain ⟨_, _, t7⟩ := lac (by decide) lc2 n _ _ t
  obtain ⟨_, _, t8⟩ := la8 n _ _ t
  obtain ⟨x0, e0, _⟩ := DataW.trod_int Try.underlying3 t0
  obtain ⟨x1, e1, _⟩ := DataW.trod_int Try.underlying3 t1
  obtain ⟨x2, e2, _⟩ := DataW.trod_int Try.underlying3 t2
  obtain ⟨s3, e3, _⟩ := DataW.trod_string Try.underlying9 t3
  obtain ⟨a4, l4, c4, e4, hb, hn, hl, hm⟩ := open_bytes_cell Try.underlying24 Try.underlying5 (by kernel_rfl) t4
  obtain ⟨x5, e5, _⟩ := DataW.trod_int Try.underlying3 t5
  obtain ⟨x6, e6, _⟩ := DataW.trod_int Try.underlying3 t6
  obtain ⟨x7, e7, _⟩ := DataW.trod_int Try.underlying3 t7
  obtain ⟨a8, c8, l8, e8, hl8, hm8, hs8⟩ := open_steps27 t8
  obtain ⟨na, rfl⟩ := str_of s3
  injection e0 with e0
  injection e1 with e1
  injection e2 with e2
  injection e3 with e3
  injection e5 with e5
  injection e6 with e6
  injection e7 with e7
  simp only [Nat.reduceAdd] at e0 e1 e5 e6 e7
  rw [e0, e1, e2, e3, e4, e5, e6, e7, e8] at h9
  exact ⟨x0, x1, x2, na, l4, x5, x6, x7, l8, a4, c4, a8, c8, by rw [h9], ⟨rfl, hb, hn, hl, hm⟩, hs8, hl8, hm8⟩
end
end Go.Proofs.Ytaaikmncdgfkmaa.Src
