/-
  An argument opened: an api.Pdu by value: the file's id in it, a string, bytes, ranges.
-/
import Derived.Test.YtjjfamkljcipgaaRows
import Derived.Test.YtjjfamkljcipgaaRecs
import Derived.Test.YtjjfamkljcipgaaArgAgg
import Derived.Test.YtjjfamkljcipgaaLeaf
import Derived.Test.YtjjfamkljcipgaaPduU0
import Derived.ChangeSlices
namespace Go.Proofs.Ytjjfamkljcipgaa.Pdu
open Go.RowKit Go.ChangeShapes Go.WideShapes Go.Deep

theorem add_plain'' (b off i : Nat) : (⟨b, off, none⟩ : Addr).add i = ⟨b, off + i, none⟩ := by
  by_cases h : i = 0
  · subst h; rfl
  · simp [Addr.add, h]

section
variable {H : Type} {enc' : TypeId × Value → H} {w : World} {base : Nat} {held : Bool}
abbrev LeafP (enc' : TypeId × Value → H) (w : World) (base : Nat) (held : Bool) (j : Nat) (t : TypeId) : Prop := Leaf enc' Try.prog w base (fun _ => true) held 29 j t
abbrev LeafI (enc' : TypeId × Value → H) (w : World) (base : Nat) (held : Bool) (j : Nat) (t : TypeId) : Prop := Leaf enc' Try.prog w base (fun _ => true) held 23 j t
set_option maxRecDepth 100000 in
theorem li0 : LeafI enc' w base held 0 3 := Leaf.one (i := 0) Try.underlying23 rfl (by kernel_rfl) (of_decide_eq_true (by kernel_rfl))
set_option maxRecDepth 100000 in
theorem li1 : LeafI enc' w base held 1 3 := Leaf.one (i := 1) Try.underlying23 rfl (by kernel_rfl) (of_decide_eq_true (by kernel_rfl))
set_option maxRecDepth 100000 in
theorem lp0 : LeafP enc' w base held 0 3 := Leaf.one (i := 0) Try.underlying29 rfl (by kernel_rfl) (of_decide_eq_true (by kernel_rfl))
set_option maxRecDepth 100000 in
theorem lp3 : LeafP enc' w base held 3 3 := Leaf.one (i := 2) Try.underlying29 rfl (by kernel_rfl) (of_decide_eq_true (by kernel_rfl))
set_option maxRecDepth 100000 in
theorem lp4 : LeafP enc' w base held 4 9 := Leaf.one (i := 3) Try.underlying29 rfl (by kernel_rfl) (of_decide_eq_true (by kernel_rfl))
set_option maxRecDepth 100000 in
theorem lp5 : LeafP enc' w base held 5 3 := Leaf.one (i := 4) Try.underlying29 rfl (by kernel_rfl) (of_decide_eq_true (by kernel_rfl))
set_option maxRecDepth 100000 in
theorem lp6 : LeafP enc' w base held 6 3 := Leaf.one (i := 5) Try.underlying29 rfl (by kernel_rfl) (of_decide_eq_true (by kernel_rfl))
set_option maxRecDepth 100000 in
theorem lp7 : LeafP enc' w base held 7 24 := Leaf.one (i := 6) Try.underlying29 rfl (by kernel_rfl) (of_decide_eq_true (by kernel_rfl))
set_option maxRecDepth 100000 in
theorem lp8 : LeafP enc' w base held 8 25 := Leaf.one (i := 7) Try.underlying29 rfl (by kernel_rfl) (of_decide_eq_true (by kernel_rfl))
set_option maxRecDepth 100000 in
theorem lp9 : LeafP enc' w base held 9 26 := Leaf.one (i := 8) Try.underlying29 rfl (by kernel_rfl) (of_decide_eq_true (by kernel_rfl))
set_option maxRecDepth 100000 in
theorem lp10 : LeafP enc' w base held 10 27 := Leaf.one (i := 9) Try.underlying29 rfl (by kernel_rfl) (of_decide_eq_true (by kernel_rfl))
set_option maxRecDepth 100000 in
theorem lpi {j : Nat} {t : TypeId} (hj : j < 2) (h : LeafI enc' w base held j t) : LeafP enc' w base held (1 + j) t :=
  Leaf.sub (i := 1) (k := j) (enc := enc') (P := Try.prog) (w := w) (base := base) (spare := fun _ => true) (held := held) (t := t) Try.underlying29 rfl (Nat.lt_of_lt_of_eq hj (by kernel_rfl)) h
set_option maxRecDepth 100000 in
theorem open_rngs {fuel : Nat} {v : Value} {y : DataW H × List MemPlace} (hf : DataW.trod enc' Try.prog w base (fun _ => true) held fuel 27 [v] = some y) :
    ∃ a cap, ∃ l : List R, v = .slice a l.length cap ∧ Gx w a l l.length cap := by
  rcases open_recs Try.underlying27 Try.underlying41 (hone_of (by kernel_rfl)) (by kernel_rfl) hf with hcs | ⟨a, len, cap, n, V, hcs, hl, hm, hx⟩
  · injection hcs with hcs
    subst hcs
    exact ⟨none, 0, [], rfl, rfl, fun h => absurd h (by simp), fun _ => rfl, Nat.le_refl _, by decide⟩
  · injection hcs with hcs
    subst hcs
    have sel : ∀ i, i < len → ∃ x : R, V i 0 = I x.1 ∧ V i 1 = I x.2 := by
      intro i hi
      obtain ⟨c0, d0, t0⟩ := hx i hi 0 _ rfl
      obtain ⟨c1, d1, t1⟩ := hx i hi 1 _ rfl
      obtain ⟨k, hk, _⟩ := DataW.trod_int Try.underlying3 t0
      obtain ⟨m, hm', _⟩ := DataW.trod_int Try.underlying3 t1
      injection hk with hk
      injection hm' with hm'
      exact ⟨(k, m), hk, hm'⟩
    obtain ⟨F, hF⟩ := choose_lt sel
    have hlen : ((List.range len).map F).length = len := by simp
    refine ⟨some a, cap, (List.range len).map F, by rw [hlen], rfl, fun hpos => ?_, (fun h => nomatch h), by rw [hlen]; exact hl, hm⟩
    rw [hlen] at hpos
    obtain ⟨b, off, spot⟩ := a
    have hs : spot = none := by
      have := World.cell?_spot (hx 0 hpos 0 _ rfl).1
      simpa [Addr.add] using this
    subst hs
    have c00 := (hx 0 hpos 0 _ rfl).1
    rw [add_plain''] at c00
    refine ⟨b, off, rfl, lt_of_cell c00, fun i x hv j u hu => ?_⟩
    rw [List.getElem?_map] at hv
    by_cases hi : i < len
    · rw [List.getElem?_range hi] at hv
      injection hv with hv
      subst hv
      obtain ⟨e0, e1⟩ := hF i hi
      have c0 := (hx i hi 0 _ rfl).1
      have c1 := (hx i hi 1 _ rfl).1
      rw [add_plain''] at c0 c1
      rw [e0] at c0
      rw [e1] at c1
      match j, hu with
      | 0, hu => cases hu; exact c0
      | 1, hu => cases hu; exact c1
    · rw [List.getElem?_eq_none (by simpa using hi)] at hv
      cases hv

theorem str_of (s : ByteArray) : ∃ l : List Byte, s = str l := by
  refine ⟨s.data.toList.map UInt8.toBitVec, ?_⟩
  obtain ⟨d⟩ := s
  obtain ⟨l⟩ := d
  unfold str
  congr 2
  rw [List.map_map]
  exact (List.map_id'' (fun _ => rfl) l).symm
set_option maxRecDepth 100000 in
theorem open_pdu {r : Reach} {b0 : Nat} {v : Value} {d : DataW H} {ps : List MemPlace} (hval : Value.okWide Try.prog w r b0 29 v)
    (hd : DataW.Trod enc' Try.prog w base (fun _ => true) held 29 v d ps) :
    ∃ (kd sr nm cl : Int) (na : List Byte) (sz of : Int) (da : List Byte) (su : Nat) (co : Int) (ga : List R) (A : Option Addr) (a : Nat) (G : Option Addr) (c : Nat), v = .agg #[I kd, I sr, I nm, I cl, .string (str na), I sz, I of, .slice A da.length a, .int .u32 (su : Int), I co, .slice G ga.length c] ∧ Px w ⟨kd, sr, nm, cl, na, sz, of, da, su, co, ga⟩ A da.length a G ga.length c := by
  obtain ⟨cs, rfl, hsz⟩ := okWide_struct Try.underlying29 hval
  obtain ⟨n, t⟩ := hd
  have t : DataW.trod enc' Try.prog w base (fun _ => true) held n 29 cs.toList = some (d, ps) := t
  have h11 := eleven (hsz.trans (by kernel_rfl))
  obtain ⟨_, _, t0⟩ := lp0 n _ _ t
  obtain ⟨_, _, t1⟩ := lpi (by decide) li0 n _ _ t
  obtain ⟨_, _, t2⟩ := lpi (by decide) li1 n _ _ t
  obtain ⟨_, _, t3⟩ := lp3 n _ _ t
  obtain ⟨_, _, t4⟩ := lp4 n _ _ t
  obtain ⟨_, _, t5⟩ := lp5 n _ _ t
  obtain ⟨_, _, t6⟩ := lp6 n _ _ t
  obtain ⟨_, _, t7⟩ := lp7 n _ _ t
  obtain ⟨_, _, t8⟩ := lp8 n _ _ t
  obtain ⟨_, _, t9⟩ := lp9 n _ _ t
  obtain ⟨_, _, t10⟩ := lp10 n _ _ t
  obtain ⟨x0, e0, _⟩ := DataW.trod_int Try.underlying3 t0
  obtain ⟨x1, e1, _⟩ := DataW.trod_int Try.underlying3 t1
  obtain ⟨x2, e2, _⟩ := DataW.trod_int Try.underlying3 t2
  obtain ⟨x3, e3, _⟩ := DataW.trod_int Try.underlying3 t3
  obtain ⟨s4, e4, _⟩ := DataW.trod_string Try.underlying9 t4
  obtain ⟨x5, e5, _⟩ := DataW.trod_int Try.underlying3 t5
  obtain ⟨x6, e6, _⟩ := DataW.trod_int Try.underlying3 t6
  obtain ⟨a7, l7, c7, e7, hb, hn, hl, hm⟩ := open_bytes_cell Try.underlying24 Try.underlying5 (by kernel_rfl) t7
  obtain ⟨x8, e8, _, w8⟩ := DataW.trod_int Try.underlying25 t8
  obtain ⟨x9, e9, _⟩ := DataW.trod_int Try.underlying26 t9
  obtain ⟨a10, c10, l10, e10, hg⟩ := open_rngs t10
  obtain ⟨na, rfl⟩ := str_of s4
  obtain ⟨q1, q2⟩ := u32_bounds w8
  obtain ⟨su, rfl⟩ := Int.eq_ofNat_of_zero_le q1
  injection e0 with e0
  injection e1 with e1
  injection e2 with e2
  injection e3 with e3
  injection e4 with e4
  injection e5 with e5
  injection e6 with e6
  injection e8 with e8
  injection e9 with e9
  simp only [Nat.reduceAdd] at e1 e2
  rw [e0, e1, e2, e3, e4, e5, e6, e7, e8, e9, e10] at h11
  exact ⟨x0, x1, x2, x3, na, x5, x6, l7, su, x9, l10, a7, c7, a10, c10, by rw [h11], ⟨rfl, hb, hn, hl, hm⟩, hg, by simp only; omega⟩
end
end Go.Proofs.Ytjjfamkljcipgaa.Pdu
