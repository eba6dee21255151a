/-
  A struct of twelve cells stored whole over another; a part of what a slice leads to.
-/
import Derived.Test.YtcmonalnhdodmaaRd
namespace Go.Proofs.Ytcmonalnhdodmaa
open Go.RowKit

theorem set_only (w : World) (g i : Nat) (u : Value) : Only [g] w (w.setCell ⟨g, i, none⟩ u) := (Only.refl [g] w).put (p := ⟨g, i, none⟩) (.inl (by simp)) u
theorem set_then {w w' : World} {g : Nat} (h : Only [g] w w') (i : Nat) (u : Value) : Only [g] w (w'.setCell ⟨g, i, none⟩ u) := h.put (p := ⟨g, i, none⟩) (.inl (by simp)) u

def put12 (w : World) (g : Nat) (v0 v1 v2 v3 v4 v5 v6 v7 v8 v9 v10 v11 : Value) : World :=
  (((((((((((w.setCell ⟨g, 0, none⟩ v0).setCell ⟨g, 1, none⟩ v1).setCell ⟨g, 2, none⟩ v2).setCell ⟨g, 3, none⟩ v3).setCell ⟨g, 4, none⟩ v4).setCell ⟨g, 5, none⟩ v5).setCell ⟨g, 6, none⟩ v6).setCell ⟨g, 7, none⟩ v7).setCell ⟨g, 8, none⟩ v8).setCell ⟨g, 9, none⟩ v9).setCell ⟨g, 10, none⟩ v10).setCell ⟨g, 11, none⟩ v11
theorem put12_cel {w : World} {g : Nat} {t : TypeId} {x0 x1 x2 x3 x4 x5 x6 x7 x8 x9 x10 x11 : Value} (h : Cel w g t #[x0, x1, x2, x3, x4, x5, x6, x7, x8, x9, x10, x11]) (v0 v1 v2 v3 v4 v5 v6 v7 v8 v9 v10 v11 : Value) : Cel (put12 w g v0 v1 v2 v3 v4 v5 v6 v7 v8 v9 v10 v11) g t #[v0, v1, v2, v3, v4, v5, v6, v7, v8, v9, v10, v11] := by
  unfold put12
  have h0 : Cel _ g t #[v0, x1, x2, x3, x4, x5, x6, x7, x8, x9, x10, x11] := h.put 0 v0
  have h1 : Cel _ g t #[v0, v1, x2, x3, x4, x5, x6, x7, x8, x9, x10, x11] := h0.put 1 v1
  have h2 : Cel _ g t #[v0, v1, v2, x3, x4, x5, x6, x7, x8, x9, x10, x11] := h1.put 2 v2
  have h3 : Cel _ g t #[v0, v1, v2, v3, x4, x5, x6, x7, x8, x9, x10, x11] := h2.put 3 v3
  have h4 : Cel _ g t #[v0, v1, v2, v3, v4, x5, x6, x7, x8, x9, x10, x11] := h3.put 4 v4
  have h5 : Cel _ g t #[v0, v1, v2, v3, v4, v5, x6, x7, x8, x9, x10, x11] := h4.put 5 v5
  have h6 : Cel _ g t #[v0, v1, v2, v3, v4, v5, v6, x7, x8, x9, x10, x11] := h5.put 6 v6
  have h7 : Cel _ g t #[v0, v1, v2, v3, v4, v5, v6, v7, x8, x9, x10, x11] := h6.put 7 v7
  have h8 : Cel _ g t #[v0, v1, v2, v3, v4, v5, v6, v7, v8, x9, x10, x11] := h7.put 8 v8
  have h9 : Cel _ g t #[v0, v1, v2, v3, v4, v5, v6, v7, v8, v9, x10, x11] := h8.put 9 v9
  have h10 : Cel _ g t #[v0, v1, v2, v3, v4, v5, v6, v7, v8, v9, v10, x11] := h9.put 10 v10
  exact h10.put 11 v11
theorem put12_only (w : World) (g : Nat) (v0 v1 v2 v3 v4 v5 v6 v7 v8 v9 v10 v11 : Value) : Only [g] w (put12 w g v0 v1 v2 v3 v4 v5 v6 v7 v8 v9 v10 v11) := by
  unfold put12
  exact set_then (set_then (set_then (set_then (set_then (set_then (set_then (set_then (set_then (set_then (set_then (set_only _ g 0 _) 1 _) 2 _) 3 _) 4 _) 5 _) 6 _) 7 _) 8 _) 9 _) 10 _) 11 _
theorem put12_below {w W : World} {g : Nat} (h : Below w.heap.size w W) (hg : w.heap.size ≤ g) (v0 v1 v2 v3 v4 v5 v6 v7 v8 v9 v10 v11 : Value) : Below w.heap.size w (put12 W g v0 v1 v2 v3 v4 v5 v6 v7 v8 v9 v10 v11) :=
  h.trans ((put12_only _ _ _ _ _ _ _ _ _ _ _ _ _ _).below h.size (by simpa using hg))

/-- a part of what a slice leads to -/
theorem Rd.sub {w : World} {b off n c : Nat} {l : List Byte} (h : Rd w (some ⟨b, off, none⟩) l n c) (k m : Nat) (hk : k + m ≤ n) : Rd w (some ⟨b, off + k, none⟩) ((l.drop k).take m) m (c - k) := by
  have hln := h.len
  have hle := h.le
  have hmx := h.max
  exact ⟨(by rw [List.length_take, List.length_drop]; omega), Pac.Bs_sub h.bs rfl k m, (fun e => nomatch e), by omega, by omega⟩
theorem Rd.head {w : World} {a : Option Addr} {n c : Nat} {l : List Byte} (h : Rd w a l n c) (m : Nat) (hk : m ≤ n) : Rd w a (l.take m) m c := by
  have hln := h.len
  have hle := h.le
  refine ⟨by rw [List.length_take]; omega, fun hl => ?_, h.nil, by omega, h.max⟩
  obtain ⟨b, off, e, hb, hc⟩ := h.bs (by rw [List.length_take] at hl; omega)
  exact ⟨b, off, e, hb, fun i x hx => hc i x (by rw [List.getElem?_take] at hx; split at hx; exact hx; cases hx)⟩
end Go.Proofs.Ytcmonalnhdodmaa
