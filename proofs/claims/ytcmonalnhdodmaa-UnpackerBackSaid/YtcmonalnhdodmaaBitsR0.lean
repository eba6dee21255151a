/-
  The walks of the small functions of package bits' Reader: works, Left, Failed, NewReader, Skip; a nil Reader and a zero value.
-/
import Derived.Test.YtcmonalnhdodmaaBitsW0
import Derived.Deep.DeepCutAuto
import Derived.Deep.LoopGhost
namespace Go.Proofs.Ytcmonalnhdodmaa
open Go.RowKit

/-- block g is a Reader of package bits over the bytes bs (in block r), p bits of which have been passed -/
def RAt (w : World) (base g : Nat) (r : Option Nat) (bs : List Byte) (p : Nat) (bad : Bool) : Prop :=
  ∃ v, Cel w g 98 #[.bool true, .bool bad, v, .int .i64 (p : Int)] ∧ Ow w base 5 v bs ∧ v.ownBlock = r ∧ p ≤ 8 * bs.length

section
variable {w w' : World} {base g : Nat} {r : Option Nat} {bs : List Byte} {p : Nat} {bad : Bool} {S : List Nat}
theorem RAt.lt (h : RAt w base g r bs p bad) : g < w.heap.size := by
  obtain ⟨v, hc, _⟩ := h
  exact hc.lt
theorem RAt.row (h : RAt w base g r bs p bad) : ∀ i, r = some i → base ≤ i ∧ i < w.heap.size ∧ i ≠ g := by
  obtain ⟨v, hc, ho, rfl, _⟩ := h
  intro i hi
  have := ho.lt i hi
  exact ⟨this.1, this.2, fun e => ho.apart hc (by decide) (by rw [hi, e])⟩
theorem RAt.only (h : RAt w base g r bs p bad) (k : Only S w w') (hg : g ∉ S) (hr : ∀ i, r = some i → i ∉ S) : RAt w' base g r bs p bad := by
  obtain ⟨v, hc, ho, rfl, rest⟩ := h
  exact ⟨v, hc.only k hg, ho.only k hr, rfl, rest⟩
theorem RAt.draws (h : RAt w base g r bs p bad) (n : Nat) : RAt (w.drewN n) base g r bs p bad := h
theorem RAt.moved (h : RAt w base g r bs p bad) (q : Nat) (hq : q ≤ 8 * bs.length) : RAt (w.setCell ⟨g, 3, none⟩ (.int .i64 (q : Int))) base g r bs q bad := by
  obtain ⟨v, hc, ho, hv, _⟩ := h
  have hne := ho.apart hc (by decide)
  refine ⟨v, ?_, ownsRow_setCell_other ho (a := ⟨g, 3, none⟩) hne _, hv, hq⟩
  have := hc.put 3 (.int .i64 (q : Int))
  unfold Cel
  simpa [Cel] using this
theorem RAt.failed (h : RAt w base g r bs p bad) : RAt (w.setCell ⟨g, 1, none⟩ (.bool true)) base g r bs p true := by
  obtain ⟨v, hc, ho, hv, hp⟩ := h
  have hne := ho.apart hc (by decide)
  refine ⟨v, ?_, ownsRow_setCell_other ho (a := ⟨g, 1, none⟩) hne _, hv, hp⟩
  have := hc.put 1 (.bool true)
  unfold Cel
  simpa [Cel] using this
end

/-- bits that a Reader has left -/
def leftR (bs : List Byte) (p : Nat) (bad : Bool) : Nat := if bad then 0 else 8 * bs.length - p

set_option maxHeartbeats 400000 in
theorem works_any (w : World) (base g : Nat) (r : Option Nat) (bs : List Byte) (p : Nat) (bad : Bool) (h : RAt w base g r bs p bad) :
    Calls Try.prog 60 #[.pointer (some ⟨g, 0, none⟩)] w fun e w' => e = .returned (.bool (!bad)) ∧ w = w' := by
  obtain ⟨v, hc, ho, _, _⟩ := h
  have c0 := hc.cell 0
  have c1 := hc.cell 1
  simp at c0 c1
  clear hc ho
  go_enter Try.func60, Try.ntmps60
  go_wp2
  go_ret
  exact ⟨rfl, rfl⟩

set_option maxHeartbeats 400000 in
theorem left_any (w : World) (base g : Nat) (r : Option Nat) (bs : List Byte) (p : Nat) (bad : Bool) (h : RAt w base g r bs p bad) (hL : bs.length < 1000000) :
    Calls Try.prog 61 #[.pointer (some ⟨g, 0, none⟩)] w fun e w' => e = .returned (.int .i64 (leftR bs p bad : Int)) ∧ ∃ n, w' = w.drewN n := by
  have hw := works_any w base g r bs p bad h
  cases bad with
  | true =>
    go_enter Try.func61, Try.ntmps61
    go_wp2_with (go_at_call 60; refine hw.mono ?_; rintro e w' ⟨rfl, rfl⟩)
    go_ret
    exact ⟨rfl, 0, rfl⟩
  | false =>
    obtain ⟨v, hc, ho, _, hp⟩ := h
    obtain ⟨A, c, rfl, _⟩ := ho.reads
    have c2 := hc.cell 2
    have c3 := hc.cell 3
    simp at c2 c3
    clear hc ho
    go_enter Try.func61, Try.ntmps61
    go_wp2_with (go_at_call 60; refine hw.mono ?_; rintro e w' ⟨rfl, rfl⟩)
    go_quiet (fail)
    go_wp2
    go_ret
    exact ⟨ret_int (by unfold leftR; simp; omega), nq, rfl⟩

set_option maxHeartbeats 400000 in
theorem newReader_any (a : Option Addr) (l : List Byte) (n c : Nat) (w : World) (hl : Hid (l.length = n)) (hb : Bs w w.heap.size a l) (hn : a = none → c = 0) (hm : n ≤ 140737488355328) :
    Calls Try.prog 58 #[.slice a n c] w fun e w' => ∃ g r, e = .returned (.pointer (some ⟨g, 0, none⟩)) ∧ RAt w' w.heap.size g r l 0 false ∧ w.heap.size ≤ g ∧ Below w.heap.size w w' := by
  go_enter Try.func58, Try.ntmps58
  go_wp2_with (go_at_call 25; refine (clone_any a l _ c _ hl hb hn hm).mono ?_; rintro e w1 ⟨v, rfl, hown, hbel⟩; obtain ⟨A, c2, rfl, _⟩ := hown.reads)
  go_ret
  exact ⟨w1.heap.size, _, rfl, ⟨_, Cel.new _ _ _, hown.alloc _, rfl, by omega⟩, hbel.size, hbel.alloc hbel.size _⟩

/-- what Skip makes of a Reader -/
def skipP (bs : List Byte) (p : Nat) (bad : Bool) (k : Int) : Nat := if bad ∨ k < 0 ∨ (leftR bs p bad : Int) < k then p else p + k.toNat
def skipB (bs : List Byte) (p : Nat) (bad : Bool) (k : Int) : Bool := decide (bad ∨ k < 0 ∨ (leftR bs p bad : Int) < k)

end Go.Proofs.Ytcmonalnhdodmaa
