/-
  A slice of booleans in a world; an argument opened: a slice of booleans that came in.
-/
import Derived.Test.YtdjopkfibfgjeaaRows
import Derived.Test.YtdjopkfibfgjeaaRecs
import Derived.Test.YtdjopkfibfgjeaaArgAgg
import Derived.Test.YtdjopkfibfgjeaaRowH
import Derived.ChangeSlices
namespace Go.Proofs.Ytdjopkfibfgjeaa.Bools
open Go.RowKit Go.ChangeShapes Go.WideShapes Go.Deep Go.Proofs.Ytdjopkfibfgjeaa.Row

/-- 'A' leads to the booleans l, all below block B; of the empty list nothing is asked -/
def Nb (w : World) (B : Nat) (A : Option Addr) (l : List Bool) : Prop :=
  0 < l.length → ∃ b off, A = some ⟨b, off, none⟩ ∧ b < B ∧ ∀ i x, l[i]? = some x → w.cell? ⟨b, off + i, none⟩ = some (.bool x)
theorem Nb.at_ {w : World} {B : Nat} {a : Option Addr} {l : List Bool} (h : Nb w B a l) {k : Nat} (hk : k < l.length) : ∃ b off, a = some ⟨b, off, none⟩ ∧ b < B ∧ w.cell? ⟨b, off + k, none⟩ = some (.bool l[k]) := by
  obtain ⟨b, off, rfl, hb, hc⟩ := h (by omega)
  exact ⟨b, off, rfl, hb, hc k _ (List.getElem?_eq_getElem hk)⟩

theorem add_plain' (b off i : Nat) : (⟨b, off, none⟩ : Addr).add i = ⟨b, off + i, none⟩ := by
  by_cases h : i = 0
  · subst h; rfl
  · simp [Addr.add, h]
theorem open_bools {H : Type} {enc' : TypeId × Value → H} {w : World} {base : Nat} {held : Bool} {r : Reach} {b0 : Nat} {v : Value} {d : DataW H} {ps : List MemPlace} (hval : Value.okWide Try.prog w r b0 48 v) (hd : DataW.Trod enc' Try.prog w base (fun _ => true) held 48 v d ps) :
    ∃ a cap, ∃ l : List Bool, v = .slice a l.length cap ∧ (a = none → cap = 0) ∧ l.length ≤ cap ∧ cap ≤ maxLen ∧ Nb w w.heap.size a l := by
  obtain ⟨a0, len0, cap0, rfl⟩ := okWide_slice Try.underlying48 hval
  obtain ⟨fuel, hf⟩ := hd
  rcases open_slice1 Try.underlying48 (by kernel_rfl) hf with ⟨hcs, _⟩ | ⟨a, len, cap, m, n, V, D, Pl, hcs, _, hl, hm, hmm, _, hx⟩
  · simp [Value.cells] at hcs
    obtain ⟨rfl, rfl, rfl⟩ := hcs
    exact ⟨none, 0, [], rfl, fun _ => rfl, by simp, by simp, fun h => absurd h (by simp)⟩
  · simp [Value.cells] at hcs
    obtain ⟨rfl, rfl, rfl⟩ := hcs
    have hlm : len0 ≤ m := by rw [hmm]; split <;> omega
    have sel : ∀ i, i < len0 → ∃ q : Bool, V i = .bool q := by
      intro i hi
      obtain ⟨x0, e0, _⟩ := DataW.trod_bool Try.underlying4 (hx i (by omega)).2
      injection e0 with e0
      exact ⟨x0, e0⟩
    obtain ⟨F, hF⟩ := choose_lt sel
    have hlen : ((List.range len0).map F).length = len0 := by simp
    refine ⟨some a, cap0, (List.range len0).map F, by rw [hlen], (fun h => nomatch h), by rw [hlen]; exact hl, hm, fun h0 => ?_⟩
    have h0 : 0 < len0 := by simpa using h0
    obtain ⟨b, off, spot⟩ := a
    have hs : spot = none := by
      have := World.cell?_spot (hx 0 (by omega)).1
      simpa [Addr.add] using this
    subst hs
    have hb : b < w.heap.size := by
      have c0 := (hx 0 (by omega)).1
      rw [add_plain'] at c0
      exact lt_of_cell c0
    refine ⟨b, off, rfl, hb, fun i x hix => ?_⟩
    rw [List.getElem?_map] at hix
    by_cases hi : i < len0
    · rw [List.getElem?_range hi] at hix
      injection hix with hix
      subst hix
      have c := (hx i (by omega)).1
      rw [add_plain', hF i hi] at c
      exact c
    · rw [List.getElem?_eq_none (by simpa using hi)] at hix
      cases hix
end Go.Proofs.Ytdjopkfibfgjeaa.Bools
