/-
  The law UnpackerBack: lost; the struct of cut as it is filled.
-/
import Derived.Test.YtcmonalnhdodmaaLaw20h
import Derived.Test.YtcmonalnhdodmaaUnpRun
import Derived.Test.YtcmonalnhdodmaaVals20
namespace Go.Proofs.Ytcmonalnhdodmaa.Unp
open Go.RowKit Go.Proofs.Ytcmonalnhdodmaa.Row Lst Ints
open Pac (bel_new)

/-- whether bit t of a pattern is set -/
def lsf (pt : List Byte) (t : Nat) : Bool := decide (t / 8 < pt.length) && decide ((pt.getD (t / 8) 0#8).toNat / 2 ^ (t % 8) % 2 = 1)
set_option maxRecDepth 100000 in
set_option maxHeartbeats 2000000 in
theorem lost_any (pt : List Byte) (n t c : Nat) (A : Option Addr) (w : World) (h : Rd w A pt n c) (ht : t ≤ 1000000) :
    Calls Try.prog 17 #[.slice A n c, .int .i64 (t : Int)] w fun e w' => e = .returned (.bool (lsf pt t)) ∧ w = w' := by
  have hln := h.len
  obtain ⟨Q, hQ⟩ : ∃ Q, t / 8 = Q := ⟨_, rfl⟩
  obtain ⟨K, hK⟩ : ∃ K, t % 8 = K := ⟨_, rfl⟩
  have d1 : (t : Int).tdiv 8 = (Q : Int) := by rw [Int.tdiv_eq_ediv_of_nonneg (by omega)]; omega
  have d1' : (t : Int) / 8 = (Q : Int) := by omega
  have d2 : (t : Int).tmod 8 = (K : Int) := by rw [Int.tmod_eq_emod_of_nonneg (by omega)]; omega
  have d2' : (t : Int) % 8 = (K : Int) := by omega
  have hK8 : K < 8 := by omega
  unfold lsf
  rw [hQ, hK, hln]
  by_cases hlt : Q < n
  · have u1 : decide ((Q : Int) < (n : Int)) = true := by simp; omega
    have u1' : decide (Q < n) = true := by simpa using hlt
    obtain ⟨b, off, rfl, hb, hc⟩ := h.at_ (by omega)
    obtain ⟨x, hx⟩ : ∃ x, pt[Q]? = some x := ⟨_, List.getElem?_eq_getElem (by omega)⟩
    have cx := hc Q x hx
    have hg : pt.getD Q 0#8 = x := by rw [List.getD_eq_getElem?_getD, hx]; rfl
    obtain ⟨v, hv⟩ : ∃ v, x.toNat = v := ⟨_, rfl⟩
    have hvb : v < 256 := by rw [← hv]; exact x.isLt
    have cx' : w.cell? ⟨b, off + Q, none⟩ = some (.int .u8 (v : Int)) := by rw [cx]; show some (Value.int .u8 ((x.toNat : Nat) : Int)) = _; rw [hv]
    obtain ⟨B, hB⟩ : ∃ B, v / 2 ^ K % 2 = B := ⟨_, rfl⟩
    have s1 : ((v : Int) / 2 ^ K).tmod 2 = (B : Int) := by
      rw [Int.tmod_eq_emod_of_nonneg (Int.ediv_nonneg (by omega) (Int.le_of_lt (Int.pow_pos (by decide))))]
      rw [← hB]
      simp [Int.natCast_emod, Int.natCast_ediv, Int.natCast_pow]
    have q0 : (0 : Int) ≤ (Q : Int) := by omega
    have q1 : (Q : Int) < (n : Int) := by omega
    have k0 : (0 : Int) ≤ (K : Int) := by omega
    have r1 : ((B : Int) == 1) = decide (B = 1) := by rw [Bool.eq_iff_iff]; simp; omega
    rw [hg, hv, hB, u1', Bool.true_and]
    obtain ⟨rr, hrr⟩ : ∃ rr, decide (B = 1) = rr := ⟨_, rfl⟩
    rw [hrr] at r1 ⊢
    clear h hln hQ hK hc hx cx hg hv hB hrr hlt
    go_enter Try.func17, Try.ntmps17
    go_wp2
    go_ret
    exact ⟨rfl, rfl⟩
  · have u1 : decide ((Q : Int) < (n : Int)) = false := by simp; omega
    have u1' : decide (Q < n) = false := by simpa using hlt
    rw [u1', Bool.false_and]
    clear h hln hQ hK hlt
    go_enter Try.func17, Try.ntmps17
    go_wp2
    go_ret
    exact ⟨rfl, rfl⟩

/-- the struct of cut, at block G: three slices of ints, the stream -/
structure K1 (w0 w : World) (G : Nat) (vs v1 v2 vV vB : Value) (l1 l2 lb : List Int) (S : List Byte) : Prop where
  g : Cel w G 42 #[.slice none 0 0, v1, v2, vs, vV, vB]
  lo : w0.heap.size ≤ G
  i1 : On w w0.heap.size 3 v1 l1
  i2 : On w w0.heap.size 3 v2 l2
  ib : On w w0.heap.size 3 vB lb
  st : Ow w w0.heap.size 5 vV S
  d12 : ∀ i, v1.ownBlock = some i → v2.ownBlock ≠ some i
  d1b : ∀ i, v1.ownBlock = some i → vB.ownBlock ≠ some i
  d2b : ∀ i, v2.ownBlock = some i → vB.ownBlock ≠ some i
  b : Below w0.heap.size w0 w
section
variable {w0 w X w6 : World} {G : Nat} {vs v1 v2 vV vB u : Value} {l1 l2 lb l' : List Int} {S S' : List Byte} {row : Option Nat}
theorem K1.below (h : K1 w0 w G vs v1 v2 vV vB l1 l2 lb S) (k : Below w.heap.size w X) : K1 w0 X G vs v1 v2 vV vB l1 l2 lb S :=
  ⟨Pac.Cel.later h.g k, h.lo, h.i1.below k, h.i2.below k, h.ib.below k, h.st.below k, h.d12, h.d1b, h.d2b, h.b.trans (k.mono h.b.size)⟩
theorem on_nrow {b : Nat} {v : Value} {l : List Int} (h : On w b 3 v l) {g : Nat} {t : TypeId} {cs : Array Value} (k : Cel w g t cs) (ht : 3 ≠ t) : v.ownBlock ≠ some g := own_apart h k ht
/-- one of the slices of ints has grown -/
theorem K1.grow1 (h : K1 w0 X G vs v1 v2 vV vB l1 l2 lb S) (hr : v1.ownBlock = row) (hg : X.grownBy w6 row) (ho : On w6 w0.heap.size 3 u l') (hu : u.ownBlock = v1.ownBlock ∨ u.ownBlock = some X.heap.size) :
    w6.cell? ⟨G, 1, none⟩ = some v1 ∧ w6.frozen? ⟨G, 1, none⟩ = false ∧ K1 w0 (w6.setCell ⟨G, 1, none⟩ u) G vs u v2 vV vB l' l2 lb S := by
  have k6 := Only.of_grown hg
  have hrow : ∀ i ∈ row.toList, v1.ownBlock = some i := fun i hi => by rw [hr]; simpa using hi
  have hG : G ∉ row.toList := fun hm => on_nrow h.i1 h.g (by decide) (hrow G hm)
  have g6 := h.g.only k6 hG
  have k7 := set_only w6 G 1 u
  have hX := h.g.lt
  have hn : ∀ i, u.ownBlock = some i → v1.ownBlock = some i ∨ i = X.heap.size := fun i hi => by
    rcases hu with q | q
    · exact .inl (by rw [← q]; exact hi)
    · rw [q] at hi; injection hi with hi; exact .inr hi.symm
  have i26 := h.i2.only k6 (fun i hi hm => h.d12 i (hrow i hm) hi)
  have ib6 := h.ib.only k6 (fun i hi hm => h.d1b i (hrow i hm) hi)
  have st6 := h.st.only k6 (fun i hi hm => by
    obtain ⟨cs, hc⟩ := own_cel h.i1 (hrow i hm)
    exact h.st.apart hc (by decide) hi)
  refine ⟨g6.cell 1, g6.free 1, g6.put 1 u, h.lo, ho.only k7 (fun i hi hm => on_nrow ho g6 (by decide) (by rw [hi, List.mem_singleton.1 hm])), i26.only k7 (fun i hi hm => on_nrow i26 g6 (by decide) (by rw [hi, List.mem_singleton.1 hm])), ib6.only k7 (fun i hi hm => on_nrow ib6 g6 (by decide) (by rw [hi, List.mem_singleton.1 hm])), st6.only k7 (fun i hi hm => st6.apart g6 (by decide) (by rw [hi, List.mem_singleton.1 hm])), fun i hi hc => ?_, fun i hi hc => ?_, h.d2b, ?_⟩
  · rcases hn i hi with q | q
    · exact h.d12 i q hc
    · have := (h.i2.lt i hc).2; omega
  · rcases hn i hi with q | q
    · exact h.d1b i q hc
    · have := (h.ib.lt i hc).2; omega
  · exact (h.b.trans (k6.below h.b.size (fun i hi => (h.i1.lt i (hrow i hi)).1))).trans (k7.below (Nat.le_trans h.b.size k6.size) (fun i hi => by rw [List.mem_singleton.1 hi]; exact h.lo))
theorem K1.grow2 (h : K1 w0 X G vs v1 v2 vV vB l1 l2 lb S) (hr : v2.ownBlock = row) (hg : X.grownBy w6 row) (ho : On w6 w0.heap.size 3 u l') (hu : u.ownBlock = v2.ownBlock ∨ u.ownBlock = some X.heap.size) :
    w6.cell? ⟨G, 2, none⟩ = some v2 ∧ w6.frozen? ⟨G, 2, none⟩ = false ∧ K1 w0 (w6.setCell ⟨G, 2, none⟩ u) G vs v1 u vV vB l1 l' lb S := by
  have k6 := Only.of_grown hg
  have hrow : ∀ i ∈ row.toList, v2.ownBlock = some i := fun i hi => by rw [hr]; simpa using hi
  have hG : G ∉ row.toList := fun hm => on_nrow h.i2 h.g (by decide) (hrow G hm)
  have g6 := h.g.only k6 hG
  have k7 := set_only w6 G 2 u
  have hn : ∀ i, u.ownBlock = some i → v2.ownBlock = some i ∨ i = X.heap.size := fun i hi => by
    rcases hu with q | q
    · exact .inl (by rw [← q]; exact hi)
    · rw [q] at hi; injection hi with hi; exact .inr hi.symm
  have i16 := h.i1.only k6 (fun i hi hm => h.d12 i hi (hrow i hm))
  have ib6 := h.ib.only k6 (fun i hi hm => h.d2b i (hrow i hm) hi)
  have st6 := h.st.only k6 (fun i hi hm => by
    obtain ⟨cs, hc⟩ := own_cel h.i2 (hrow i hm)
    exact h.st.apart hc (by decide) hi)
  refine ⟨g6.cell 2, g6.free 2, g6.put 2 u, h.lo, i16.only k7 (fun i hi hm => on_nrow i16 g6 (by decide) (by rw [hi, List.mem_singleton.1 hm])), ho.only k7 (fun i hi hm => on_nrow ho g6 (by decide) (by rw [hi, List.mem_singleton.1 hm])), ib6.only k7 (fun i hi hm => on_nrow ib6 g6 (by decide) (by rw [hi, List.mem_singleton.1 hm])), st6.only k7 (fun i hi hm => st6.apart g6 (by decide) (by rw [hi, List.mem_singleton.1 hm])), fun i hi hc => ?_, h.d1b, fun i hi hc => ?_, ?_⟩
  · rcases hn i hc with q | q
    · exact h.d12 i hi q
    · have := (h.i1.lt i hi).2; omega
  · rcases hn i hi with q | q
    · exact h.d2b i q hc
    · have := (h.ib.lt i hc).2; omega
  · exact (h.b.trans (k6.below h.b.size (fun i hi => (h.i2.lt i (hrow i hi)).1))).trans (k7.below (Nat.le_trans h.b.size k6.size) (fun i hi => by rw [List.mem_singleton.1 hi]; exact h.lo))
theorem K1.growb (h : K1 w0 X G vs v1 v2 vV vB l1 l2 lb S) (hr : vB.ownBlock = row) (hg : X.grownBy w6 row) (ho : On w6 w0.heap.size 3 u l') (hu : u.ownBlock = vB.ownBlock ∨ u.ownBlock = some X.heap.size) :
    w6.cell? ⟨G, 5, none⟩ = some vB ∧ w6.frozen? ⟨G, 5, none⟩ = false ∧ K1 w0 (w6.setCell ⟨G, 5, none⟩ u) G vs v1 v2 vV u l1 l2 l' S := by
  have k6 := Only.of_grown hg
  have hrow : ∀ i ∈ row.toList, vB.ownBlock = some i := fun i hi => by rw [hr]; simpa using hi
  have hG : G ∉ row.toList := fun hm => on_nrow h.ib h.g (by decide) (hrow G hm)
  have g6 := h.g.only k6 hG
  have k7 := set_only w6 G 5 u
  have hn : ∀ i, u.ownBlock = some i → vB.ownBlock = some i ∨ i = X.heap.size := fun i hi => by
    rcases hu with q | q
    · exact .inl (by rw [← q]; exact hi)
    · rw [q] at hi; injection hi with hi; exact .inr hi.symm
  have i16 := h.i1.only k6 (fun i hi hm => h.d1b i hi (hrow i hm))
  have i26 := h.i2.only k6 (fun i hi hm => h.d2b i hi (hrow i hm))
  have st6 := h.st.only k6 (fun i hi hm => by
    obtain ⟨cs, hc⟩ := own_cel h.ib (hrow i hm)
    exact h.st.apart hc (by decide) hi)
  refine ⟨g6.cell 5, g6.free 5, g6.put 5 u, h.lo, i16.only k7 (fun i hi hm => on_nrow i16 g6 (by decide) (by rw [hi, List.mem_singleton.1 hm])), i26.only k7 (fun i hi hm => on_nrow i26 g6 (by decide) (by rw [hi, List.mem_singleton.1 hm])), ho.only k7 (fun i hi hm => on_nrow ho g6 (by decide) (by rw [hi, List.mem_singleton.1 hm])), st6.only k7 (fun i hi hm => st6.apart g6 (by decide) (by rw [hi, List.mem_singleton.1 hm])), h.d12, fun i hi hc => ?_, fun i hi hc => ?_, ?_⟩
  · rcases hn i hc with q | q
    · exact h.d1b i hi q
    · have := (h.i1.lt i hi).2; omega
  · rcases hn i hc with q | q
    · exact h.d2b i hi q
    · have := (h.i2.lt i hi).2; omega
  · exact (h.b.trans (k6.below h.b.size (fun i hi => (h.ib.lt i (hrow i hi)).1))).trans (k7.below (Nat.le_trans h.b.size k6.size) (fun i hi => by rw [List.mem_singleton.1 hi]; exact h.lo))
/-- the stream has grown -/
theorem K1.grows (h : K1 w0 X G vs v1 v2 vV vB l1 l2 lb S) (hr : vV.ownBlock = row) (hg : X.grownBy w6 row) (ho : Ow w6 w0.heap.size 5 u S') :
    w6.cell? ⟨G, 4, none⟩ = some vV ∧ w6.frozen? ⟨G, 4, none⟩ = false ∧ K1 w0 (w6.setCell ⟨G, 4, none⟩ u) G vs v1 v2 u vB l1 l2 lb S' := by
  have k6 := Only.of_grown hg
  have hrow : ∀ i ∈ row.toList, vV.ownBlock = some i := fun i hi => by rw [hr]; simpa using hi
  have hG : G ∉ row.toList := fun hm => h.st.apart h.g (by decide) (hrow G hm)
  have g6 := h.g.only k6 hG
  have k7 := set_only w6 G 4 u
  have hV : ∀ {v : Value} {l : List Int}, On X w0.heap.size 3 v l → ∀ i, v.ownBlock = some i → i ∉ row.toList := fun hh i hi hm => by
    obtain ⟨cs, hc⟩ := own_cel hh hi
    exact h.st.apart hc (by decide) (hrow i hm)
  have i16 := h.i1.only k6 (hV h.i1)
  have i26 := h.i2.only k6 (hV h.i2)
  have ib6 := h.ib.only k6 (hV h.ib)
  refine ⟨g6.cell 4, g6.free 4, g6.put 4 u, h.lo, i16.only k7 (fun i hi hm => on_nrow i16 g6 (by decide) (by rw [hi, List.mem_singleton.1 hm])), i26.only k7 (fun i hi hm => on_nrow i26 g6 (by decide) (by rw [hi, List.mem_singleton.1 hm])), ib6.only k7 (fun i hi hm => on_nrow ib6 g6 (by decide) (by rw [hi, List.mem_singleton.1 hm])), ho.only k7 (fun i hi hm => ho.apart g6 (by decide) (by rw [hi, List.mem_singleton.1 hm])), h.d12, h.d1b, h.d2b, ?_⟩
  exact (h.b.trans (k6.below h.b.size (fun i hi => (h.st.lt i (hrow i hi)).1))).trans (k7.below (Nat.le_trans h.b.size k6.size) (fun i hi => by rw [List.mem_singleton.1 hi]; exact h.lo))
end
end Go.Proofs.Ytcmonalnhdodmaa.Unp
