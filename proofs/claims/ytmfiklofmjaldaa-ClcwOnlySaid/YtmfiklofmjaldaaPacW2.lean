/-
  The Writer of package bits as one state; the walk of package packet's Encode.
-/
import Derived.Test.YtmfiklofmjaldaaPacW1
import Derived.Test.YtmfiklofmjaldaaBitsW1
import Derived.Test.YtmfiklofmjaldaaHand
namespace Go.Proofs.Ytmfiklofmjaldaa.Pac
open Go.RowKit

/-- block g is a Writer with the bits L, made behind w0; the blocks below B are as w0 had them -/
def WS (B : Nat) (w0 : World) (g : Nat) (L : List Bool) (w : World) : Prop := (∃ r, WAt w B g r L) ∧ B ≤ g ∧ Below B w0 w
theorem WS.new {B : Nat} {w0 w : World} (h : Below B w0 w) (hB : B ≤ w.heap.size) : WS B w0 w.heap.size [] (w.alloc (.cells #[.bool true, .slice none 0 0, .int .i64 0] 43)) :=
  ⟨⟨none, WAt_new w B⟩, hB, h.alloc hB _⟩
theorem WS.draws {B : Nat} {w0 w : World} {g : Nat} {L : List Bool} (h : WS B w0 g L w) : WS B w0 g L w.drew := by
  obtain ⟨⟨r, h1⟩, h2, h3⟩ := h
  exact ⟨⟨r, h1⟩, h2, h3.drew⟩
theorem WS.put {B : Nat} {w0 w : World} {g : Nat} {L : List Bool} (h : WS B w0 g L w) (x : Int) (X : Nat) (hx : x = (X : Int)) (y : Int) (k : Nat) (hy : y = (k : Int)) (hX : X < 18446744073709551616) (hk : k ≤ 64) (hL : L.length < 1000000) :
    Calls Try.prog 15 #[.pointer (some ⟨g, 0, none⟩), .int .u64 x, .int .i64 y] w fun e w' => e = .returned (.pointer (some ⟨g, 0, none⟩)) ∧ WS B w0 g (L ++ bitsOf X k) w' := by
  obtain ⟨⟨r, h1⟩, h2, h3⟩ := h
  subst hx hy
  have hlt := h1.lt
  have e : (BitVec.ofNat 64 X).toNat = X := by rw [BitVec.toNat_ofNat, Nat.mod_eq_of_lt (by omega)]
  have hp := put_any w B g r L (BitVec.ofNat 64 X) k h1 hk hL (by omega)
  rw [e] at hp
  refine hp.mono ?_
  rintro e w' ⟨rfl, r', h4, _, h5⟩
  refine ⟨rfl, ⟨r', h4⟩, h2, h3.trans (h5.below (by omega) fun x hx => ?_)⟩
  rcases List.mem_cons.1 hx with rfl | hx
  · exact h2
  · exact (h1.row x (by simpa using hx)).1
theorem WS.bytes {B : Nat} {w0 w : World} {g : Nat} {L : List Bool} (h : WS B w0 g L w) (hL : L.length < 1000000) :
    Calls Try.prog 17 #[.pointer (some ⟨g, 0, none⟩)] w fun e w' => ∃ v bs, e = .returned v ∧ Packs bs L ∧ Ow w' w.heap.size 5 v bs ∧ Below w.heap.size w w' := by
  obtain ⟨⟨r, h1⟩, _⟩ := h
  exact wbytes_any w B g r L h1 hL
theorem WS.size {B : Nat} {w0 w : World} {g : Nat} {L : List Bool} (h : WS B w0 g L w) : B < w.heap.size := by
  obtain ⟨⟨r, h1⟩, h2, _⟩ := h
  have := h1.lt
  omega

theorem to_u64 (X : Nat) (h : X < 1000000) : IntKind.u64.wrap (X : Int) = (X : Int) := by rw [IntKind.wrap_u64]; omega

theorem Ow_nil (w : World) (base : Nat) : Ow w base 5 (.slice none 0 0) [] := World.ownsRow_nil _ _ _ _

end Go.Proofs.Ytmfiklofmjaldaa.Pac
