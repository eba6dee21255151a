/-
  The heap words of package pdu: what a slice of bytes leads to (Bx), what a slice of ranges leads to (Gx); a unit's value.
-/
import Derived.Test.YtaaikmncdgfkmaaPduMath
import Derived.Test.YtaaikmncdgfkmaaBase
import Derived.Test.YtaaikmncdgfkmaaClone
import Derived.Test.YtaaikmncdgfkmaaCel
import Derived.Test.YtaaikmncdgfkmaaRowH
import Derived.Lib.Hide
namespace Go.Proofs.Ytaaikmncdgfkmaa.Pdu
open Go.RowKit Go.Proofs.Ytaaikmncdgfkmaa.Row

abbrev I (n : Int) : Value := .int .i64 n
abbrev R := Int × Int
theorem bel_new (w : World) (o : Obj) : Below w.heap.size w (w.alloc o) := (Below.refl _ _).alloc (Nat.le_refl _) _
def encR (x : R) : List Value := [I x.1, I x.2]
theorem encR_ok : Enc encR 2 := ⟨fun _ => rfl, fun x u hu => by simp [encR] at hu; rcases hu with rfl | rfl <;> rfl, by decide⟩
theorem is_ranges : IsRows Try.prog 36 62 (.agg #[I 0, I 0]) 2 16 := IsRows.of Try.underlying36 rfl (by kernel_rfl)
theorem Cel.on {w w' : World} {g : Nat} {t : TypeId} {cs : Array Value} (h : Cel w g t cs) (hb : Below w.heap.size w w') : Cel w' g t cs := (hb.block g h.lt).trans h

/-- A leads to the bytes l, n of them -/
structure Bx (w : World) (A : Option Addr) (l : List Byte) (n c : Nat) : Prop where
  len : l.length = n
  bs : Bs w w.heap.size A l
  nil : A = none → c = 0
  le : n ≤ c
  max : c ≤ maxLen
/-- G leads to the ranges l, n of them -/
structure Gx (w : World) (G : Option Addr) (l : List R) (n c : Nat) : Prop where
  len : l.length = n
  rs : Rs encR 2 w w.heap.size G l
  nil : G = none → c = 0
  le : n ≤ c
  max : c ≤ maxLen
section
variable {w w' : World} {A : Option Addr} {l : List Byte} {g : List R} {n c : Nat}
theorem Bx.later (h : Bx w A l n c) (hb : Below w.heap.size w w') : Bx w' A l n c := ⟨h.len, (h.bs.below hb).more hb.size, h.nil, h.le, h.max⟩
theorem Gx.later (h : Gx w A g n c) (hb : Below w.heap.size w w') : Gx w' A g n c := ⟨h.len, (h.rs.below hb).more hb.size, h.nil, h.le, h.max⟩
theorem Bx.zero (w : World) : Bx w none [] 0 0 := ⟨rfl, Bs.nil_, fun _ => rfl, Nat.le_refl _, by decide⟩
theorem Gx.zero (w : World) : Gx w none [] 0 0 := ⟨rfl, Rs.nil_, fun _ => rfl, Nat.le_refl _, by decide⟩
theorem Bx.of {base : Nat} {v : Value} (h : Ow w base 5 v l) (hl : l.length = n) : ∃ A c, v = .slice A n c ∧ Bx w A l n c := by
  obtain ⟨A, c, h1, h2, h3, h4, h5⟩ := h.reads_len hl
  exact ⟨A, c, h1, hl, h2, h3, h4, h5⟩
theorem Gx.of {base : Nat} {v : Value} (h : Row.Os encR 2 w base 62 v g) (hl : g.length = n) : ∃ A c, v = .slice A n c ∧ Gx w A g n c := by
  obtain ⟨A, c, h1, h2, h3, h4, h5⟩ := h.reads_len encR_ok hl
  exact ⟨A, c, h1, hl, h2, h3, h4, h5⟩
theorem Gx.at_ (h : Gx w A g n c) {i : Nat} {x : R} (hx : g[i]? = some x) : ∃ b off, A = some ⟨b, off, none⟩ ∧ b < w.heap.size ∧ w.cell? ⟨b, off + i * 2, none⟩ = some (I x.1) ∧ w.cell? ⟨b, off + i * 2 + 1, none⟩ = some (I x.2) := by
  obtain ⟨hi, hxi⟩ := List.getElem?_eq_some_iff.1 hx
  obtain ⟨b, off, e, hb, hc⟩ := h.rs.at_ hi
  rw [hxi] at hc
  exact ⟨b, off, e, hb, hc 0 _ rfl, hc 1 _ rfl⟩
theorem Bx.conv (h : Bx w A l n c) (hb : Below w.heap.size w w') : (convert 24 9 (.slice A n c)).run Try.prog w' = .ok (.string (str l)) w' := by
  have hl := h.len
  subst hl
  exact run_str w' is_bytes Try.underlying9 (h.bs.below hb) h.nil
end

/-- what a unit's two slices lead to -/
structure Px (w : World) (p : Pd) (A : Option Addr) (n a : Nat) (G : Option Addr) (m c : Nat) : Prop where
  b : Bx w A p.da n a
  g : Gx w G p.ga m c
  s : p.su < 4294967296
section
variable {w w' : World} {p : Pd} {A G : Option Addr} {n a m c : Nat}
theorem Px.later (h : Px w p A n a G m c) (hb : Below w.heap.size w w') : Px w' p A n a G m c := ⟨h.b.later hb, h.g.later hb, h.s⟩
end
theorem str_size (l : List Byte) : (str l).size = l.length := by simp [str, ByteArray.size]
end Go.Proofs.Ytaaikmncdgfkmaa.Pdu
