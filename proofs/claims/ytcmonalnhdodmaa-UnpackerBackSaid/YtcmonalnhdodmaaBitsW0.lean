/-
  The walks of the small functions of package bits that its Writer wants: bytes.Clone, a width's test, NewWriter, Len, Bytes.
-/
import Derived.Test.YtcmonalnhdodmaaBitsMath
import Derived.Test.YtcmonalnhdodmaaBase
import Derived.Test.YtcmonalnhdodmaaClone
import Derived.Deep.QuietTactic
import Derived.BigQuiet
import Derived.BigRegion
namespace Go.Proofs.Ytcmonalnhdodmaa
open Go.RowKit

set_option maxHeartbeats 400000 in
theorem valid_yes (n : Int) (w : World) (h0 : 0 ≤ n) (h1 : n ≤ 64) :
    Calls Try.prog 52 #[.int .i64 n] w fun e w' => e = .returned (.bool true) ∧ w = w' := by
  go_enter Try.func52, Try.ntmps52
  go_wp2
  go_ret
  exact ⟨rfl, rfl⟩
set_option maxHeartbeats 400000 in
theorem valid_no (n : Int) (w : World) (h : n < 0 ∨ 64 < n) :
    Calls Try.prog 52 #[.int .i64 n] w fun e w' => e = .returned (.bool false) ∧ w = w' := by
  rcases h with h | h
  · go_enter Try.func52, Try.ntmps52
    go_wp2
    go_ret
    exact ⟨rfl, rfl⟩
  · have h2 : 0 ≤ n := by omega
    have h3 : decide (n ≤ 64) = false := by simpa using h
    go_enter Try.func52, Try.ntmps52
    go_wp2
    go_ret
    exact ⟨rfl, rfl⟩

/-- block g is a Writer of package bits that holds the bits L; its bytes lie in block r -/
def WAt (w : World) (base g : Nat) (r : Option Nat) (L : List Bool) : Prop :=
  ∃ v bs fr, Cel w g 86 #[.bool true, v, .int .i64 ((fr : Nat) : Int)] ∧ Ow w base 5 v bs ∧ v.ownBlock = r ∧ Room bs L fr ∧ fr < 8

set_option maxHeartbeats 400000 in
theorem newWriter_any (w : World) :
    Calls Try.prog 34 #[] w fun e w' => e = .returned (.pointer (some ⟨w.heap.size, 0, none⟩)) ∧ w.alloc (.cells #[.bool true, .slice none 0 0, .int .i64 0] 86) = w' := by
  go_enter Try.func34, Try.ntmps34
  go_wp2
  go_ret
  exact ⟨rfl, rfl⟩
theorem WAt_new (w : World) (base : Nat) : WAt (w.alloc (.cells #[.bool true, .slice none 0 0, .int .i64 0] 86)) base w.heap.size none [] :=
  ⟨_, [], 0, Cel.new _ _ _, World.ownsRow_nil _ _ _ _, rfl, room_nil, by omega⟩
theorem WAt.lt {w : World} {base g : Nat} {r : Option Nat} {L : List Bool} (h : WAt w base g r L) : g < w.heap.size := by
  obtain ⟨v, bs, fr, hc, _⟩ := h
  exact hc.lt
theorem WAt.row {w : World} {base g : Nat} {r : Option Nat} {L : List Bool} (h : WAt w base g r L) : ∀ i, r = some i → base ≤ i ∧ i < w.heap.size ∧ i ≠ g := by
  obtain ⟨v, bs, fr, hc, ho, rfl, _⟩ := h
  intro i hi
  have := ho.lt i hi
  exact ⟨this.1, this.2, fun e => ho.apart hc (by decide) (by rw [hi, e])⟩
theorem WAt.only {w w' : World} {base g : Nat} {r : Option Nat} {L : List Bool} {S : List Nat} (h : WAt w base g r L) (k : Only S w w') (hg : g ∉ S) (hr : ∀ i, r = some i → i ∉ S) : WAt w' base g r L := by
  obtain ⟨v, bs, fr, hc, ho, rfl, rest⟩ := h
  exact ⟨v, bs, fr, hc.only k hg, ho.only k hr, rfl, rest⟩
theorem WAt.draws {w : World} {base g : Nat} {r : Option Nat} {L : List Bool} (h : WAt w base g r L) (n : Nat) : WAt (w.drewN n) base g r L := h

set_option maxHeartbeats 400000 in
theorem wbytes_any (w : World) (base g : Nat) (r : Option Nat) (L : List Bool) (h : WAt w base g r L) (hL : L.length < 1000000) :
    Calls Try.prog 37 #[.pointer (some ⟨g, 0, none⟩)] w fun e w' => ∃ v bs, e = .returned v ∧ Packs bs L ∧ Ow w' w.heap.size 5 v bs ∧ Below w.heap.size w w' := by
  obtain ⟨v, bs, fr, hc, ho, _, hR, hf⟩ := h
  obtain ⟨A, c, rfl, hr, hn, _, _⟩ := ho.reads
  have c1 := hc.cell 1
  simp at c1
  have hp := hR.packs hf
  have hb : bs.length ≤ 140737488355328 := by have := hR.len; omega
  clear ho hc hR
  go_enter Try.func37, Try.ntmps37
  go_wp2_with (go_at_call 25; refine (clone_any A bs _ c _ rfl hr hn hb).mono ?_; rintro e w1 ⟨v, rfl, hown, hbel⟩)
  go_ret
  exact ⟨v, bs, rfl, hp, hown, hbel⟩

end Go.Proofs.Ytcmonalnhdodmaa
