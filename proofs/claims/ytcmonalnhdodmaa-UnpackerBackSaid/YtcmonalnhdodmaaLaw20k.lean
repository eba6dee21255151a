/-
  The law UnpackerBack: the data fields that cut lays, one after the other.
-/
import Derived.Test.YtcmonalnhdodmaaLaw20i
namespace Go.Proofs.Ytcmonalnhdodmaa.Unp
open Go.RowKit Go.Proofs.Ytcmonalnhdodmaa.Row Lst Ints
open Pac (bel_new)

def frs (ps : List (List Byte)) (z k : Nat) : List Int := (List.range k).map fun i => ((bnd ps i / z : Nat) : Int)
def tos (ps : List (List Byte)) (z k : Nat) : List Int := (List.range k).map fun i => (((bnd ps (i + 1) - 1) / z : Nat) : Int)
theorem frs_succ (ps : List (List Byte)) (z k : Nat) : frs ps z (k + 1) = frs ps z k ++ [((bnd ps k / z : Nat) : Int)] := by unfold frs; rw [List.range_succ, List.map_append]; rfl
theorem tos_succ (ps : List (List Byte)) (z k : Nat) : tos ps z (k + 1) = tos ps z k ++ [(((bnd ps (k + 1) - 1) / z : Nat) : Int)] := by unfold tos; rw [List.range_succ, List.map_append]; rfl
theorem frs_len (ps : List (List Byte)) (z k : Nat) : (frs ps z k).length = k := by simp [frs]
theorem tos_len (ps : List (List Byte)) (z k : Nat) : (tos ps z k).length = k := by simp [tos]
theorem frs_at {ps : List (List Byte)} {z k i : Nat} (h : i < k) : (frs ps z k)[i]? = some ((bnd ps i / z : Nat) : Int) := by unfold frs; rw [List.getElem?_map, List.getElem?_range h]; rfl
theorem tos_at {ps : List (List Byte)} {z k i : Nat} (h : i < k) : (tos ps z k)[i]? = some (((bnd ps (i + 1) - 1) / z : Nat) : Int) := by unfold tos; rw [List.getElem?_map, List.getElem?_range h]; rfl

/-- a data field -/
structure Fd where
  ct : Nat
  f : Nat
  A : Option Addr
  n : Nat
  c : Nat
  d : List Byte
def encF (x : Fd) : List Value := [.int .i64 (x.ct : Int), .int .i64 (x.f : Int), .slice x.A x.n x.c]
theorem encF_ok : Enc encF 3 := ⟨fun _ => rfl, fun x u hu => by simp only [encF, List.mem_cons, List.not_mem_nil, or_false] at hu; rcases hu with rfl | rfl | rfl <;> rfl, by decide⟩
theorem is_flds : IsRows Try.prog 22 30 (.agg #[.int .i64 0, .int .i64 0, .slice none 0 0]) 3 40 := IsRows.of Try.underlying22 rfl (by kernel_rfl)

/-- field j of the stream of ps, z bytes each -/
structure FdOk (w : World) (ps : List (List Byte)) (z st j : Nat) (o : Fd) : Prop where
  hct : o.ct = (st + j) % 256
  hf : Fst ps (j * z) (min ((j + 1) * z) ps.flatten.length) o.f
  hd : o.d = (ps.flatten.drop (j * z)).take (min ((j + 1) * z) ps.flatten.length - j * z)
  rd : Rd w o.A o.d o.n o.c
  blk : ∃ b off, o.A = some ⟨b, off, none⟩ ∧ b < w.heap.size
/-- all fields so far -/
def FdsOk (w : World) (ps : List (List Byte)) (z st G R : Nat) (fs : List Fd) (k : Nat) : Prop := fs.length = k ∧ ∀ j o, fs[j]? = some o → FdOk w ps z st j o ∧ G ∉ blkA o.A ∧ R ∉ blkA o.A
section
variable {w w' w9 X w6 : World} {ps : List (List Byte)} {z st j k G R : Nat} {o : Fd} {fs fs' : List Fd} {vs v1 v2 vV vB vF u : Value} {row : Option Nat}
theorem FdOk.later (h : FdOk w ps z st j o) (k : Below w.heap.size w w') : FdOk w' ps z st j o := by
  obtain ⟨h1, h2, h3, h4, b, off, h5, h6⟩ := h
  exact ⟨h1, h2, h3, h4.later k, b, off, h5, Nat.lt_of_lt_of_le h6 k.size⟩
theorem FdOk.only (h : FdOk w ps z st j o) (hG : G ∉ blkA o.A) (k : Only [G] w w') : FdOk w' ps z st j o := by
  obtain ⟨h1, h2, h3, h4, b, off, h5, h6⟩ := h
  exact ⟨h1, h2, h3, h4.put k (fun x hx hm => hG (by rw [← List.mem_singleton.1 hm]; exact hx)), b, off, h5, Nat.lt_of_lt_of_le h6 k.size⟩
theorem FdsOk.start : FdsOk w ps z st G R [] 0 := ⟨rfl, fun j o h => by simp at h⟩
theorem FdsOk.next (h : FdsOk w ps z st G R fs k) (ho : FdOk w ps z st k o) (hG : G ∉ blkA o.A ∧ R ∉ blkA o.A) : FdsOk w ps z st G R (fs ++ [o]) (k + 1) := by
  obtain ⟨h1, h2⟩ := h
  refine ⟨by rw [List.length_append, h1]; rfl, fun j x hj => ?_⟩
  by_cases hk : j < fs.length
  · rw [List.getElem?_append_left hk] at hj
    exact h2 j x hj
  · rw [List.getElem?_append_right (by omega)] at hj
    have hl := (List.getElem?_eq_some_iff.1 hj).1
    simp only [List.length_cons, List.length_nil] at hl
    obtain rfl : j = k := by omega
    rw [show j - fs.length = 0 by omega] at hj
    injection hj with hj
    subst hj
    exact ⟨ho, hG⟩

/-- the struct of cut while the fields are laid -/
structure K2 (w9 w : World) (G : Nat) (vs v1 v2 vV vB vF : Value) (fs : List Fd) : Prop where
  g : Cel w G 42 #[vF, v1, v2, vs, vV, vB]
  lt : G < w9.heap.size
  f : Row.Os encF 3 w w9.heap.size 30 vF fs
  o : Only [G] w9 w
theorem K2.start (h : Cel w9 G 42 #[.slice none 0 0, v1, v2, vs, vV, vB]) : K2 w9 w9 G vs v1 v2 vV vB (.slice none 0 0) [] := ⟨h, h.lt, Row.Os.nil_ _ _ _, Only.refl _ _⟩
theorem K2.below (h : K2 w9 X G vs v1 v2 vV vB vF fs) (k : Below X.heap.size X w') : K2 w9 w' G vs v1 v2 vV vB vF fs := ⟨Pac.Cel.later h.g k, h.lt, h.f.below k, h.o.trans (Only.of_below (S := [G]) k) (fun _ hx => .inl hx)⟩
theorem K2.drew (h : K2 w9 X G vs v1 v2 vV vB vF fs) : K2 w9 X.drew G vs v1 v2 vV vB vF fs := h.below ⟨rfl, rfl, rfl, Nat.le_refl _, fun _ _ => rfl⟩
theorem K2.grow (h : K2 w9 X G vs v1 v2 vV vB vF fs) (hr : vF.ownBlock = row) (hg : X.grownBy w6 row) (ho : Row.Os encF 3 w6 w9.heap.size 30 u fs') :
    w6.cell? ⟨G, 0, none⟩ = some vF ∧ w6.frozen? ⟨G, 0, none⟩ = false ∧ K2 w9 (w6.setCell ⟨G, 0, none⟩ u) G vs v1 v2 vV vB u fs' := by
  have k6 := Only.of_grown hg
  have hrow : ∀ i ∈ row.toList, w9.heap.size ≤ i := fun i hi => (h.f.lt i (by rw [hr]; simpa using hi)).1
  have hlt := h.lt
  have hG : G ∉ row.toList := fun hm => by have := hrow G hm; omega
  have g6 := h.g.only k6 hG
  have k7 := set_only w6 G 0 u
  refine ⟨g6.cell 0, g6.free 0, g6.put 0 u, h.lt, ho.only k7 (fun i hi hm => ?_), (h.o.trans k6 (fun x hx => .inr (hrow x hx))).trans k7 (fun _ hx => .inl hx)⟩
  have := (ho.lt i hi).1
  have := List.mem_singleton.1 hm
  omega
end

/-- a struct of six cells stored whole over another -/
def put6 (w : World) (g : Nat) (v0 v1 v2 v3 v4 v5 : Value) : World :=
  (((((w.setCell ⟨g, 0, none⟩ v0).setCell ⟨g, 1, none⟩ v1).setCell ⟨g, 2, none⟩ v2).setCell ⟨g, 3, none⟩ v3).setCell ⟨g, 4, none⟩ v4).setCell ⟨g, 5, none⟩ v5
theorem put6_cel {w : World} {g : Nat} {t : TypeId} {x0 x1 x2 x3 x4 x5 : Value} (h : Cel w g t #[x0, x1, x2, x3, x4, x5]) (v0 v1 v2 v3 v4 v5 : Value) : Cel (put6 w g v0 v1 v2 v3 v4 v5) g t #[v0, v1, v2, v3, v4, v5] := by
  unfold put6
  have h0 : Cel _ g t #[v0, x1, x2, x3, x4, x5] := h.put 0 v0
  have h1 : Cel _ g t #[v0, v1, x2, x3, x4, x5] := h0.put 1 v1
  have h2 : Cel _ g t #[v0, v1, v2, x3, x4, x5] := h1.put 2 v2
  have h3 : Cel _ g t #[v0, v1, v2, v3, x4, x5] := h2.put 3 v3
  have h4 : Cel _ g t #[v0, v1, v2, v3, v4, x5] := h3.put 4 v4
  exact h4.put 5 v5
theorem put6_only (w : World) (g : Nat) (v0 v1 v2 v3 v4 v5 : Value) : Only [g] w (put6 w g v0 v1 v2 v3 v4 v5) := by
  unfold put6
  exact set_then (set_then (set_then (set_then (set_then (set_only _ g 0 _) 1 _) 2 _) 3 _) 4 _) 5 _
theorem cut_results {tmps : Array Value} {W : World} {g : Nat} {u0 u1 u2 u3 u4 u5 : Value} (h2 : tmps.getD 6 undef = .pointer (some ⟨g, 0, none⟩))
    (hC : Cel W g 42 #[u0, u1, u2, u3, u4, u5]) :
    (results Try.f16 tmps).run Try.prog W = .ok (.agg #[u0, u1, u2, u3, u4, u5]) W := by
  have c0 := hC.cell 0
  have c1 := hC.cell 1
  have c2 := hC.cell 2
  have c3 := hC.cell 3
  have c4 := hC.cell 4
  have c5 := hC.cell 5
  simp at c0 c1 c2 c3 c4 c5
  simp only [Array.getD_eq_getD_getElem?] at h2
  simp [results, Try.results16, go_sem, h2, c0, c1, c2, c3, c4, c5]
/-- what cut hands back: the fields, from where to where each packet goes -/
structure CutOut (w0 w : World) (ps : List (List Byte)) (z st n NF : Nat) (AF A1 A2 : Option Addr) : Prop where
  nf : ∀ j, j < NF ↔ j * z < ps.flatten.length
  fl : ∃ fs : List Fd, fs.length = NF ∧ Row.Rs encF 3 w w.heap.size AF fs ∧ ∀ j o, fs[j]? = some o → FdOk w ps z st j o
  fr' : Ns w w.heap.size A1 (frs ps z n)
  to' : Ns w w.heap.size A2 (tos ps z n)
  b : Below w0.heap.size w0 w
end Go.Proofs.Ytcmonalnhdodmaa.Unp
