/-
  The walk of package packet's Decode.
-/
import Derived.Test.YtdjopkfibfgjeaaPacW3
namespace Go.Proofs.Ytdjopkfibfgjeaa.Pac
open Go.RowKit

theorem Bs_sub {w : World} {B : Nat} {a : Option Addr} {l : List Byte} (h : Bs w B a l) {b off : Nat} (ha : a = some ⟨b, off, none⟩) (k m : Nat) : Bs w B (some ⟨b, off + k, none⟩) ((l.drop k).take m) := fun hl => by
  have hk : k < l.length := by simp at hl; omega
  obtain ⟨b', off', ha', hb, hc⟩ := h (by omega)
  rw [ha] at ha'
  injection ha' with ha'
  injection ha' with e1 e2
  subst e1 e2
  refine ⟨b, off + k, rfl, hb, fun i x hx => ?_⟩
  rw [List.getElem?_take] at hx
  split at hx
  · rw [List.getElem?_drop] at hx
    rw [Nat.add_assoc]
    exact hc _ _ hx
  · cases hx

theorem putAll_below {w W : World} {g : Nat} (h : Below w.heap.size w W) (hg : w.heap.size ≤ g) (com sec : Bool) (ap fl ct : Int) (v : Value) : Below w.heap.size w (putAll W g com sec ap fl ct v) :=
  h.trans ((putAll_only _ _ _ _ _ _ _ _).below h.size (by simpa using hg))

end Go.Proofs.Ytdjopkfibfgjeaa.Pac
