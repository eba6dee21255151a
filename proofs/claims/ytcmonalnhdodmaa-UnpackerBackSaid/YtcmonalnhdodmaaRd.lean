/-
  One word for 'this slice value reads as these bytes', with its length, its nil rule and its bounds; a Reader of package bits beside a struct's block, as one state; a struct of six cells stored whole.
-/
import Derived.Test.YtcmonalnhdodmaaPacW2
import Derived.Test.YtcmonalnhdodmaaPacW4
import Derived.Test.YtcmonalnhdodmaaBitsR1
namespace Go.Proofs.Ytcmonalnhdodmaa
open Go.RowKit

/-- A leads to the bytes l, n of them, in w -/
structure Rd (w : World) (A : Option Addr) (l : List Byte) (n c : Nat) : Prop where
  len : l.length = n
  bs : Bs w w.heap.size A l
  nil : A = none → c = 0
  le : n ≤ c
  max : c ≤ maxLen
theorem Rd.later {w w' : World} {A : Option Addr} {l : List Byte} {n c : Nat} (h : Rd w A l n c) (hb : Below w.heap.size w w') : Rd w' A l n c := ⟨h.len, (h.bs.below hb).more hb.size, h.nil, h.le, h.max⟩
theorem Rd.of {w : World} {base n : Nat} {v : Value} {l : List Byte} (h : Ow w base 5 v l) (hl : l.length = n) : ∃ A c, v = .slice A n c ∧ Rd w A l n c := by
  obtain ⟨A, c, h1, h2, h3, h4, h5⟩ := h.reads_len hl
  exact ⟨A, c, h1, hl, h2, h3, h4, h5⟩
theorem Rd.only {w w' : World} {b off : Nat} {l : List Byte} {n c : Nat} {S : List Nat} (h : Rd w (some ⟨b, off, none⟩) l n c) (k : Only S w w') (hb : b ∉ S) : Rd w' (some ⟨b, off, none⟩) l n c := by
  refine ⟨h.len, fun hl => ?_, h.nil, h.le, h.max⟩
  obtain ⟨b', o', e, hlt, hc⟩ := h.bs hl
  injection e with e
  injection e with e1 e2
  subst e1 e2
  refine ⟨b, off, rfl, Nat.lt_of_lt_of_le hlt k.size, fun i x hx => ?_⟩
  have h1 := hc i x hx
  have h2 := k.block b hlt hb
  unfold World.cell? at h1 ⊢
  simp only at h1 ⊢
  rw [h2]
  exact h1
theorem Rd.conv {w w' : World} {A : Option Addr} {l : List Byte} {n c : Nat} (h : Rd w A l n c) (hb : Below w.heap.size w w') : (convert 26 9 (.slice A n c)).run Try.prog w' = .ok (.string (str l)) w' := by
  have hl := h.len
  subst hl
  exact run_str w' is_bytes Try.underlying9 (h.bs.below hb) h.nil
/-- the cells of what a slice leads to, in every later world -/
theorem Rd.at_ {w : World} {A : Option Addr} {l : List Byte} {n c : Nat} (h : Rd w A l n c) (hl : 0 < n) : ∃ b off, A = some ⟨b, off, none⟩ ∧ b < w.heap.size ∧ ∀ i x, l[i]? = some x → w.cell? ⟨b, off + i, none⟩ = some (B8 x) := h.bs (by rw [h.len]; exact hl)

/-- a row that the call lays is an own slice -/
theorem Ow_new (w : World) (base : Nat) (e : TypeId) (l : List Byte) (n : Nat) (C : Array Value) (hn : l.length = n) (hC : C = (l.map B8).toArray) (h : base ≤ w.heap.size) (hm : n ≤ maxLen) (g : Nat) (hg : w.heap.size = g) : Ow (w.alloc (.cells C e)) base e (.slice (some ⟨g, 0, none⟩) n n) l := by
  subst hn hg
  exact ⟨by simp, .inr ⟨w.heap.size, l.length, C, rfl, h, heap_alloc_new w _, Nat.le_refl _, hm, by rw [hC]; simp, by rw [hC]; simp [← List.map_take]⟩⟩

/-- a Reader at block g over the bytes bs, p bits passed; the struct of type T that the call fills lies in the first block behind w0's; w0's blocks are as they were -/
structure RS (T : TypeId) (w0 : World) (bs : List Byte) (p : Nat) (cs : Array Value) (g : Nat) (w : World) : Prop where
  rd : ∃ r, RAt w (w0.heap.size + 1) g r bs p false
  hg : w0.heap.size + 1 ≤ g
  cel : Cel w w0.heap.size T cs
  bel : Below w0.heap.size w0 w
theorem RS.get {T : TypeId} {w0 w : World} {bs : List Byte} {p g : Nat} {cs : Array Value} (h : RS T w0 bs p cs g w) (y : Int) (k N : Nat) (hy : y = (k : Int)) (hN : numAt bs p k = N) (hL : bs.length < 1000000) (hk : k ≤ 64) (hp : p + k ≤ 8 * bs.length) :
    Calls Try.prog 59 #[.pointer (some ⟨g, 0, none⟩), .int .i64 y] w fun e w' => e = .returned (.int .u64 (N : Int)) ∧ RS T w0 bs (p + k) cs g w' := by
  obtain ⟨⟨r, h1⟩, h2, h3, h4⟩ := h
  subst hy hN
  refine (get_ok w _ g r bs p k h1 hL hk hp).mono ?_
  rintro e w' ⟨rfl, h5, h6⟩
  have hlt := h1.lt
  exact ⟨rfl, ⟨r, h5⟩, h2, h3.only h6 (by simp; omega), h4.trans (h6.below (by omega) (by simp; omega))⟩
theorem RS.put {T : TypeId} {w0 w : World} {bs : List Byte} {p g : Nat} {cs : Array Value} (h : RS T w0 bs p cs g w) (i : Nat) (v : Value) : RS T w0 bs p (cs.setIfInBounds i v) g (w.setCell ⟨w0.heap.size, i, none⟩ v) := by
  obtain ⟨⟨r, h1⟩, h2, h3, h4⟩ := h
  have hO : Only [w0.heap.size] w (w.setCell ⟨w0.heap.size, i, none⟩ v) := (Only.refl _ _).put (.inl (by simp)) _
  exact ⟨⟨r, h1.only hO (by simp; omega) (fun j hj => by have := (h1.row j hj).1; simp; omega)⟩, h2, h3.put i v, h4.trans (hO.below h4.size (by simp))⟩

/-- a struct of six cells stored whole over another -/
def put6 (w : World) (g : Nat) (v0 v1 v2 v3 v4 v5 : Value) : World :=
  (((((w.setCell ⟨g, 0, none⟩ v0).setCell ⟨g, 1, none⟩ v1).setCell ⟨g, 2, none⟩ v2).setCell ⟨g, 3, none⟩ v3).setCell ⟨g, 4, none⟩ v4).setCell ⟨g, 5, none⟩ v5
theorem put6_cel {w : World} {g : Nat} {t : TypeId} {x0 x1 x2 x3 x4 x5 : Value} (h : Cel w g t #[x0, x1, x2, x3, x4, x5]) (v0 v1 v2 v3 v4 v5 : Value) : Cel (put6 w g v0 v1 v2 v3 v4 v5) g t #[v0, v1, v2, v3, v4, v5] :=
  (((((h.put 0 v0).put 1 v1).put 2 v2).put 3 v3).put 4 v4).put 5 v5
theorem put6_only (w : World) (g : Nat) (v0 v1 v2 v3 v4 v5 : Value) : Only [g] w (put6 w g v0 v1 v2 v3 v4 v5) := by
  unfold put6
  exact ((((((Only.refl [g] w).put (p := ⟨g, 0, none⟩) (.inl (by simp)) _).put (p := ⟨g, 1, none⟩) (.inl (by simp)) _).put (p := ⟨g, 2, none⟩) (.inl (by simp)) _).put (p := ⟨g, 3, none⟩) (.inl (by simp)) _).put (p := ⟨g, 4, none⟩) (.inl (by simp)) _).put (p := ⟨g, 5, none⟩) (.inl (by simp)) _
theorem put6_below {w W : World} {g : Nat} (h : Below w.heap.size w W) (hg : w.heap.size ≤ g) (v0 v1 v2 v3 v4 v5 : Value) : Below w.heap.size w (put6 W g v0 v1 v2 v3 v4 v5) :=
  h.trans ((put6_only _ _ _ _ _ _ _ _).below h.size (by simpa using hg))
end Go.Proofs.Ytcmonalnhdodmaa
