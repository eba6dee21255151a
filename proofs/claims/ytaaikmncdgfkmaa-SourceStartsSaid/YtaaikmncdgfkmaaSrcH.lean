/-
  The heap words of package source: ranges that lie in a block of ranges (Gq), a sending end at block g (FC, FX, FW), a unit that a call hands back (UR).
-/
import Derived.Test.YtaaikmncdgfkmaaSrcMath
import Derived.Test.YtaaikmncdgfkmaaPduH
import Derived.Test.YtaaikmncdgfkmaaRngH
import Derived.Test.YtaaikmncdgfkmaaLater
namespace Go.Proofs.Ytaaikmncdgfkmaa.Src
open Go.RowKit
open Go.Proofs.Ytaaikmncdgfkmaa.Pdu (Pd Px Bx Gx)
open Go.Proofs.Ytaaikmncdgfkmaa.Rng (R)

abbrev I (n : Int) : Value := .int .i64 n
theorem bel_new (w : World) (o : Obj) : Below w.heap.size w (w.alloc o) := (Below.refl _ _).alloc (Nat.le_refl _) _
theorem put_only (w : World) (g i : Nat) (v : Value) : Only [g] w (w.setCell ⟨g, i, none⟩ v) := (Only.refl [g] w).put (p := ⟨g, i, none⟩) (.inl (by simp)) v
theorem only_then {w w' w2 : World} {g : Nat} (h : Only [g] w w') (k : Only [g] w' w2) : Only [g] w w2 := h.trans k (fun _ hx => .inl hx)
theorem wr64 {x : Int} (h0 : -9223372036854775808 ≤ x) (h1 : x < 9223372036854775808) : wrap64 x = x := by unfold wrap64; omega
theorem Cel.on {w w' : World} {g : Nat} {t : TypeId} {cs : Array Value} (h : Cel w g t cs) (hb : Below w.heap.size w w') : Cel w' g t cs := (hb.block g h.lt).trans h
theorem row_cel {X : World} {base size n : Nat} {t : TypeId} {v : Value} {xs : List Value} (h : X.ownsRow base t size v n xs) {i : Nat} (hi : v.ownBlock = some i) : ∃ cs, Cel X i t cs := by
  rcases h.2 with ⟨rfl, _⟩ | ⟨g, cap, cur, rfl, _, hg, _⟩
  · cases hi
  · injection hi with hi
    have : g = i := hi
    subst this
    exact ⟨_, hg⟩

/-- blocks of ranges stay -/
def Kr (w w' : World) : Prop := ∀ b cs, Cel w b 62 cs → Cel w' b 62 cs
section
variable {w w' w2 : World} {S : List Nat} {g : Nat} {l : List R} {A : Option Addr} {n c : Nat}
theorem Kr.refl (w : World) : Kr w w := fun _ _ h => h
theorem Kr.trans (h : Kr w w') (k : Kr w' w2) : Kr w w2 := fun b cs hc => k b cs (h b cs hc)
theorem Kr.of_below (h : Below w.heap.size w w') : Kr w w' := fun b _ hc => (h.block b hc.lt).trans hc
theorem Kr.of_only (k : Only S w w') (hS : ∀ x ∈ S, ∀ cs, ¬ Cel w x 62 cs) : Kr w w' := fun b cs hc => hc.only k (fun hm => hS b hm cs hc)
theorem not_rng {t : TypeId} {cs : Array Value} (h : Cel w g t cs) (ht : t ≠ 62) : ∀ cs', ¬ Cel w g 62 cs' := fun _ h' => Cel.apart h h' ht rfl
/-- A leads to the ranges l, n of them, in a block of ranges -/
structure Gq (w : World) (l : List R) (A : Option Addr) (n c : Nat) : Prop where
  r : 0 < l.length → ∃ b off, A = some ⟨b, off, none⟩ ∧ (∃ cs, Cel w b 62 cs) ∧ ∀ i x, l[i]? = some x → w.cell? ⟨b, off + i * 2, none⟩ = some (.int .i64 x.1) ∧ w.cell? ⟨b, off + i * 2 + 1, none⟩ = some (.int .i64 x.2)
  len : l.length = n
  nil : A = none → c = 0
  le : n ≤ c
  max : c ≤ maxLen
theorem Gq.zero (w : World) : Gq w [] none 0 0 := ⟨fun h => absurd h (by simp), rfl, fun _ => rfl, Nat.le_refl _, Nat.zero_le _⟩
theorem Gq.keep (h : Gq w l A n c) (k : Kr w w') : Gq w' l A n c := ⟨fun hl => by
  obtain ⟨b, off, e, ⟨cs, hc⟩, hx⟩ := h.r hl
  have hc' := k b cs hc
  refine ⟨b, off, e, ⟨cs, hc'⟩, fun i x hi => ?_⟩
  have := hx i x hi
  rw [hc.cell, hc.cell] at this
  rw [hc'.cell, hc'.cell]
  exact this, h.len, h.nil, h.le, h.max⟩
theorem Gq.below (h : Gq w l A n c) (k : Below w.heap.size w w') : Gq w' l A n c := h.keep (.of_below k)
theorem Gq.rs (h : Gq w l A n c) : Rng.Rs w w.heap.size A l := fun hl => by
  obtain ⟨b, off, e, ⟨cs, hc⟩, hx⟩ := h.r hl
  exact ⟨b, off, e, hc.lt, hx⟩
theorem Gq.own {base : Nat} {v : Value} (h : Rng.Os w base 62 v l) (hl : l.length = n) : ∃ A c, v = .slice A n c ∧ Gq w l A n c := by
  obtain ⟨A, c, rfl, hr, hn, hle, hm⟩ := h.reads_len hl
  refine ⟨A, c, rfl, ⟨fun h0 => ?_, hl, hn, hle, hm⟩⟩
  obtain ⟨b, off, rfl, _, hx⟩ := hr h0
  exact ⟨b, off, rfl, row_cel h (i := b) rfl, hx⟩
theorem Gq.at_ (h : Gq w l A n c) {i : Nat} {x : R} (hi : l[i]? = some x) : ∃ b off, A = some ⟨b, off, none⟩ ∧ b < w.heap.size ∧ w.cell? ⟨b, off + i * 2, none⟩ = some (.int .i64 x.1) ∧ w.cell? ⟨b, off + i * 2 + 1, none⟩ = some (.int .i64 x.2) := by
  have hl := (List.getElem?_eq_some_iff.1 hi).1
  obtain ⟨b, off, e, ⟨cs, hc⟩, hx⟩ := h.r (by omega)
  exact ⟨b, off, e, hc.lt, hx i x hi⟩
end

/-! ### a sending end -/
/-- block g is a sending end with K in state s; its requests are the slice (A, n, c) -/
def FC (w : World) (g : Nat) (K : Kc) (s : SS) (A : Option Addr) (n c : Nat) : Prop :=
  Cel w g 64 #[.int .i64 K.sr, .int .i64 K.nm, .int .i64 K.cl, .string (str K.na), .string (str K.da), .int .i64 K.ch, .int .i64 K.tt, .int .i64 K.rt, .int .i64 s.ph, .bool s.su, .int .i64 s.co, .bool s.ms, .int .i64 (s.po : Int), .bool s.mr, .slice A n c, .bool s.ea, .bool s.ad, .int .i64 s.ti, .int .i64 s.re, .int .i64 s.nw]
structure FX (w : World) (g : Nat) (K : Kc) (s : SS) (A : Option Addr) (n c : Nat) : Prop where
  cel : FC w g K s A n c
  q : Gq w s.rq A n c
def FW (w : World) (g : Nat) (K : Kc) (s : SS) : Prop := ∃ A n c, FX w g K s A n c
section
variable {w w' w2 : World} {S : List Nat} {g : Nat} {K : Kc} {s : SS} {A : Option Addr} {n c : Nat}
abbrev TS : TypeId := 64
theorem FC.cell (h : FC w g K s A n c) (i : Nat) : w.cell? ⟨g, i, none⟩ = #[.int .i64 K.sr, .int .i64 K.nm, .int .i64 K.cl, .string (str K.na), .string (str K.da), .int .i64 K.ch, .int .i64 K.tt, .int .i64 K.rt, .int .i64 s.ph, .bool s.su, .int .i64 s.co, .bool s.ms, .int .i64 (s.po : Int), .bool s.mr, .slice A n c, .bool s.ea, .bool s.ad, .int .i64 s.ti, .int .i64 s.re, .int .i64 s.nw][i]? := Cel.cell (t := TS) h i
theorem FC.c0 (h : FC w g K s A n c) : w.cell? ⟨g, 0, none⟩ = some (.int .i64 K.sr) := h.cell 0
theorem FC.c1 (h : FC w g K s A n c) : w.cell? ⟨g, 1, none⟩ = some (.int .i64 K.nm) := h.cell 1
theorem FC.c2 (h : FC w g K s A n c) : w.cell? ⟨g, 2, none⟩ = some (.int .i64 K.cl) := h.cell 2
theorem FC.c3 (h : FC w g K s A n c) : w.cell? ⟨g, 3, none⟩ = some (.string (str K.na)) := h.cell 3
theorem FC.c4 (h : FC w g K s A n c) : w.cell? ⟨g, 4, none⟩ = some (.string (str K.da)) := h.cell 4
theorem FC.c5 (h : FC w g K s A n c) : w.cell? ⟨g, 5, none⟩ = some (.int .i64 K.ch) := h.cell 5
theorem FC.c6 (h : FC w g K s A n c) : w.cell? ⟨g, 6, none⟩ = some (.int .i64 K.tt) := h.cell 6
theorem FC.c7 (h : FC w g K s A n c) : w.cell? ⟨g, 7, none⟩ = some (.int .i64 K.rt) := h.cell 7
theorem FC.c8 (h : FC w g K s A n c) : w.cell? ⟨g, 8, none⟩ = some (.int .i64 s.ph) := h.cell 8
theorem FC.c9 (h : FC w g K s A n c) : w.cell? ⟨g, 9, none⟩ = some (.bool s.su) := h.cell 9
theorem FC.c10 (h : FC w g K s A n c) : w.cell? ⟨g, 10, none⟩ = some (.int .i64 s.co) := h.cell 10
theorem FC.c11 (h : FC w g K s A n c) : w.cell? ⟨g, 11, none⟩ = some (.bool s.ms) := h.cell 11
theorem FC.c12 (h : FC w g K s A n c) : w.cell? ⟨g, 12, none⟩ = some (.int .i64 (s.po : Int)) := h.cell 12
theorem FC.c13 (h : FC w g K s A n c) : w.cell? ⟨g, 13, none⟩ = some (.bool s.mr) := h.cell 13
theorem FC.c14 (h : FC w g K s A n c) : w.cell? ⟨g, 14, none⟩ = some (.slice A n c) := h.cell 14
theorem FC.c15 (h : FC w g K s A n c) : w.cell? ⟨g, 15, none⟩ = some (.bool s.ea) := h.cell 15
theorem FC.c16 (h : FC w g K s A n c) : w.cell? ⟨g, 16, none⟩ = some (.bool s.ad) := h.cell 16
theorem FC.c17 (h : FC w g K s A n c) : w.cell? ⟨g, 17, none⟩ = some (.int .i64 s.ti) := h.cell 17
theorem FC.c18 (h : FC w g K s A n c) : w.cell? ⟨g, 18, none⟩ = some (.int .i64 s.re) := h.cell 18
theorem FC.c19 (h : FC w g K s A n c) : w.cell? ⟨g, 19, none⟩ = some (.int .i64 s.nw) := h.cell 19
theorem FC.free (h : FC w g K s A n c) (i : Nat) : w.frozen? ⟨g, i, none⟩ = false := Cel.free (t := TS) h i
theorem FC.only (h : FC w g K s A n c) (k : Only S w w') (hg : g ∉ S) : FC w' g K s A n c := Cel.only (t := TS) h k hg
theorem FC.lt (h : FC w g K s A n c) : g < w.heap.size := Cel.lt (t := TS) h
theorem FC.below (h : FC w g K s A n c) (k : Below w.heap.size w w') : FC w' g K s A n c := h.only (Only.of_below (S := []) k) (by simp)
theorem FC.ph (h : FC w g K s A n c) (x : Int) : FC (w.setCell ⟨g, 8, none⟩ (.int .i64 x)) g K { s with ph := x } A n c := Cel.put (t := TS) h 8 _
theorem FC.su (h : FC w g K s A n c) (x : Bool) : FC (w.setCell ⟨g, 9, none⟩ (.bool x)) g K { s with su := x } A n c := Cel.put (t := TS) h 9 _
theorem FC.co (h : FC w g K s A n c) (x : Int) : FC (w.setCell ⟨g, 10, none⟩ (.int .i64 x)) g K { s with co := x } A n c := Cel.put (t := TS) h 10 _
theorem FC.ms (h : FC w g K s A n c) (x : Bool) : FC (w.setCell ⟨g, 11, none⟩ (.bool x)) g K { s with ms := x } A n c := Cel.put (t := TS) h 11 _
theorem FC.po (h : FC w g K s A n c) (x : Nat) : FC (w.setCell ⟨g, 12, none⟩ (.int .i64 (x : Int))) g K { s with po := x } A n c := Cel.put (t := TS) h 12 _
theorem FC.mr (h : FC w g K s A n c) (x : Bool) : FC (w.setCell ⟨g, 13, none⟩ (.bool x)) g K { s with mr := x } A n c := Cel.put (t := TS) h 13 _
theorem FC.rq (h : FC w g K s A n c) (l : List R) (A' : Option Addr) (n' c' : Nat) : FC (w.setCell ⟨g, 14, none⟩ (.slice A' n' c')) g K { s with rq := l } A' n' c' := Cel.put (t := TS) h 14 _
theorem FC.ea (h : FC w g K s A n c) (x : Bool) : FC (w.setCell ⟨g, 15, none⟩ (.bool x)) g K { s with ea := x } A n c := Cel.put (t := TS) h 15 _
theorem FC.ad (h : FC w g K s A n c) (x : Bool) : FC (w.setCell ⟨g, 16, none⟩ (.bool x)) g K { s with ad := x } A n c := Cel.put (t := TS) h 16 _
theorem FC.ti (h : FC w g K s A n c) (x : Int) : FC (w.setCell ⟨g, 17, none⟩ (.int .i64 x)) g K { s with ti := x } A n c := Cel.put (t := TS) h 17 _
theorem FC.re (h : FC w g K s A n c) (x : Int) : FC (w.setCell ⟨g, 18, none⟩ (.int .i64 x)) g K { s with re := x } A n c := Cel.put (t := TS) h 18 _
theorem FC.nw (h : FC w g K s A n c) (x : Int) : FC (w.setCell ⟨g, 19, none⟩ (.int .i64 x)) g K { s with nw := x } A n c := Cel.put (t := TS) h 19 _
theorem FC.kr (h : FC w g K s A n c) (k : Only [g] w w') : Kr w w' := .of_only k fun x hx => by
  rw [List.mem_singleton.1 hx]
  exact not_rng (t := TS) h (by decide)
theorem FC.kr_put (h : FC w g K s A n c) (i : Nat) (v : Value) : Kr w (w.setCell ⟨g, i, none⟩ v) := h.kr (put_only w g i v)
theorem FX.below (h : FX w g K s A n c) (k : Below w.heap.size w w') : FX w' g K s A n c := ⟨h.cel.below k, h.q.below k⟩
theorem FX.only (h : FX w g K s A n c) (k : Only S w w') (hg : g ∉ S) (hr : Kr w w') : FX w' g K s A n c := ⟨h.cel.only k hg, h.q.keep hr⟩
theorem FW.below (h : FW w g K s) (k : Below w.heap.size w w') : FW w' g K s := by
  obtain ⟨A, n, c, h⟩ := h
  exact ⟨A, n, c, h.below k⟩
theorem FW.only (h : FW w g K s) (k : Only S w w') (hg : g ∉ S) (hr : Kr w w') : FW w' g K s := by
  obtain ⟨A, n, c, h⟩ := h
  exact ⟨A, n, c, h.only k hg hr⟩
theorem FW.lt (h : FW w g K s) : g < w.heap.size := by
  obtain ⟨A, n, c, h⟩ := h
  exact h.cel.lt
theorem FW.kr (h : FW w g K s) (k : Only [g] w w') : Kr w w' := by
  obtain ⟨A, n, c, h⟩ := h
  exact h.cel.kr k
end

/-! ### bytes in a block of bytes from base on -/
def Ty (w : World) (b : Nat) : Prop := ∃ cs m, w.heap[b]? = some (.cells cs 5 m)
structure By (w : World) (base : Nat) (A : Option Addr) (l : List Byte) (n c : Nat) : Prop where
  r : 0 < l.length → ∃ b off, A = some ⟨b, off, none⟩ ∧ base ≤ b ∧ b < w.heap.size ∧ Ty w b ∧ ∀ i x, l[i]? = some x → w.cell? ⟨b, off + i, none⟩ = some (B8 x)
  len : l.length = n
  nil : A = none → c = 0
  le : n ≤ c
  max : c ≤ maxLen
section
variable {w w' : World} {base b' : Nat} {A : Option Addr} {l : List Byte} {n c : Nat} {S : List Nat}
theorem By.zero (w : World) (base : Nat) : By w base none [] 0 0 := ⟨fun h => absurd h (by simp), rfl, fun _ => rfl, Nat.le_refl _, Nat.zero_le _⟩
theorem By.only (h : By w base A l n c) (k : Only S w w') (hS : ∀ x ∈ S, ¬ Ty w x) : By w' base A l n c := ⟨fun hl => by
  obtain ⟨b, off, e, h1, h2, h3, hx⟩ := h.r hl
  have hb : w'.heap[b]? = w.heap[b]? := k.block b h2 (fun hm => hS b hm h3)
  refine ⟨b, off, e, h1, Nat.lt_of_lt_of_le h2 k.size, ?_, fun i x hi => ?_⟩
  · obtain ⟨cs, m, hc⟩ := h3
    exact ⟨cs, m, hb.trans hc⟩
  · rw [← hx i x hi]
    simp only [World.cell?, hb], h.len, h.nil, h.le, h.max⟩
theorem By.below (h : By w base A l n c) (k : Below w.heap.size w w') : By w' base A l n c := h.only (Only.of_below (S := []) k) (by simp)
theorem By.more (h : By w base A l n c) (hb : b' ≤ base) : By w b' A l n c := ⟨fun hl => by
  obtain ⟨b, off, e, h1, h2⟩ := h.r hl
  exact ⟨b, off, e, by omega, h2⟩, h.len, h.nil, h.le, h.max⟩
theorem By.bx (h : By w base A l n c) : Bx w A l n c := ⟨h.len, fun hl => by
  obtain ⟨b, off, e, h1, h2, h3, hx⟩ := h.r hl
  exact ⟨b, off, e, h2, hx⟩, h.nil, h.le, h.max⟩
end

/-! ### a unit that a call hands back -/
structure UR (w w' : World) (p : Pd) (kd sr nm cl : Int) (na : List Byte) (sz of : Int) (da : List Byte) (su : Nat) (co : Int) (A : Option Addr) (n a : Nat) : Prop where
  eq : p = ⟨kd, sr, nm, cl, na, sz, of, da, su, co, []⟩
  ow : By w' w.heap.size A da n a
  sm : su < 4294967296
/-- .. as a value -/
def UV (kd sr nm cl : Int) (na : List Byte) (sz of : Int) (su : Nat) (co : Int) (A : Option Addr) (n a : Nat) : Value :=
  .agg #[.int .i64 kd, .int .i64 sr, .int .i64 nm, .int .i64 cl, .string (str na), .int .i64 sz, .int .i64 of, .slice A n a, .int .u32 (su : Int), .int .i64 co, .slice none 0 0]
section
variable {w w0 w' w2 : World} {p : Pd} {kd sr nm cl : Int} {na : List Byte} {sz of : Int} {da : List Byte} {su : Nat} {co : Int} {A : Option Addr} {n a : Nat} {S : List Nat}
theorem UR.only (h : UR w w' p kd sr nm cl na sz of da su co A n a) (k : Only S w' w2) (hS : ∀ x ∈ S, ¬ Ty w' x) : UR w w2 p kd sr nm cl na sz of da su co A n a :=
  ⟨h.eq, h.ow.only k hS, h.sm⟩
theorem UR.more (h : UR w w' p kd sr nm cl na sz of da su co A n a) (hb : w0.heap.size ≤ w.heap.size) : UR w0 w' p kd sr nm cl na sz of da su co A n a := ⟨h.eq, h.ow.more hb, h.sm⟩
theorem UR.px (h : UR w w' p kd sr nm cl na sz of da su co A n a) : Px w' p A n a none 0 0 := by
  obtain ⟨rfl, ow, hs⟩ := h
  exact ⟨ow.bx, Gx.zero _, hs⟩
theorem not_byte {g : Nat} {t : TypeId} {cs : Array Value} (h : Cel w g t cs) (ht : t ≠ 5) : ∀ x ∈ [g], ¬ Ty w x := fun x hx ⟨cs', m, h'⟩ => by
  rw [List.mem_singleton.1 hx] at h'
  unfold Cel at h
  rw [h] at h'
  injection h' with h'
  injection h' with h1 h2
  exact ht h2
end

/-! ### a whole unit stored -/
def put11 (w : World) (g : Nat) (v0 v1 v2 v3 v4 v5 v6 v7 v8 v9 v10 : Value) : World :=
  ((((((((((w.setCell ⟨g, 0, none⟩ v0).setCell ⟨g, 1, none⟩ v1).setCell ⟨g, 2, none⟩ v2).setCell ⟨g, 3, none⟩ v3).setCell ⟨g, 4, none⟩ v4).setCell ⟨g, 5, none⟩ v5).setCell ⟨g, 6, none⟩ v6).setCell ⟨g, 7, none⟩ v7).setCell ⟨g, 8, none⟩ v8).setCell ⟨g, 9, none⟩ v9).setCell ⟨g, 10, none⟩ v10
theorem put11_cel {w : World} {g : Nat} {t : TypeId} {x0 x1 x2 x3 x4 x5 x6 x7 x8 x9 x10 : Value} (h : Cel w g t #[x0, x1, x2, x3, x4, x5, x6, x7, x8, x9, x10]) (v0 v1 v2 v3 v4 v5 v6 v7 v8 v9 v10 : Value) : Cel (put11 w g v0 v1 v2 v3 v4 v5 v6 v7 v8 v9 v10) g t #[v0, v1, v2, v3, v4, v5, v6, v7, v8, v9, v10] := by
  unfold put11
  have h0 : Cel _ g t #[v0, x1, x2, x3, x4, x5, x6, x7, x8, x9, x10] := h.put 0 v0
  have h1 : Cel _ g t #[v0, v1, x2, x3, x4, x5, x6, x7, x8, x9, x10] := h0.put 1 v1
  have h2 : Cel _ g t #[v0, v1, v2, x3, x4, x5, x6, x7, x8, x9, x10] := h1.put 2 v2
  have h3 : Cel _ g t #[v0, v1, v2, v3, x4, x5, x6, x7, x8, x9, x10] := h2.put 3 v3
  have h4 : Cel _ g t #[v0, v1, v2, v3, v4, x5, x6, x7, x8, x9, x10] := h3.put 4 v4
  have h5 : Cel _ g t #[v0, v1, v2, v3, v4, v5, x6, x7, x8, x9, x10] := h4.put 5 v5
  have h6 : Cel _ g t #[v0, v1, v2, v3, v4, v5, v6, x7, x8, x9, x10] := h5.put 6 v6
  have h7 : Cel _ g t #[v0, v1, v2, v3, v4, v5, v6, v7, x8, x9, x10] := h6.put 7 v7
  have h8 : Cel _ g t #[v0, v1, v2, v3, v4, v5, v6, v7, v8, x9, x10] := h7.put 8 v8
  have h9 : Cel _ g t #[v0, v1, v2, v3, v4, v5, v6, v7, v8, v9, x10] := h8.put 9 v9
  exact h9.put 10 v10
theorem put11_only (w : World) (g : Nat) (v0 v1 v2 v3 v4 v5 v6 v7 v8 v9 v10 : Value) : Only [g] w (put11 w g v0 v1 v2 v3 v4 v5 v6 v7 v8 v9 v10) := by
  unfold put11
  have st := fun {W : World} (h : Only [g] w W) i v => only_then h (put_only W g i v)
  exact st (st (st (st (st (st (st (st (st (st (put_only _ g 0 _) 1 _) 2 _) 3 _) 4 _) 5 _) 6 _) 7 _) 8 _) 9 _) 10 _
/-- the zero unit's block, as it is made -/
theorem unit_box (w : World) : ∃ W, W = w.alloc (.cells #[.int .i64 0, .int .i64 0, .int .i64 0, .int .i64 0, .string ⟨#[]⟩, .int .i64 0, .int .i64 0, .slice none 0 0, .int .u32 0, .int .i64 0, .slice none 0 0] 45) ∧ Cel W w.heap.size 45 #[.int .i64 0, .int .i64 0, .int .i64 0, .int .i64 0, .string ⟨#[]⟩, .int .i64 0, .int .i64 0, .slice none 0 0, .int .u32 0, .int .i64 0, .slice none 0 0] ∧ Below w.heap.size w W ∧ W.heap.size = w.heap.size + 1 :=
  ⟨_, rfl, Cel.new w _ _, bel_new w _, by simp⟩
/-- .. and when a unit has been stored into it, later on -/
theorem unit_then {w W : World} (hb : Below w.heap.size w W) {g : Nat} (hg : w.heap.size ≤ g) (v0 v1 v2 v3 v4 v5 v6 v7 v8 v9 v10 : Value) : Below w.heap.size w (put11 W g v0 v1 v2 v3 v4 v5 v6 v7 v8 v9 v10) :=
  hb.trans ((put11_only W g v0 v1 v2 v3 v4 v5 v6 v7 v8 v9 v10).below hb.size (by simpa using hg))
theorem cell_only {w w' : World} {q b i : Nat} {v : Value} (k : Only [q] w w') (hb : b < w.heap.size) (hn : b ≠ q) (hc : w.cell? ⟨b, i, none⟩ = some v) : w'.cell? ⟨b, i, none⟩ = some v := by
  have := k.block b hb (by simpa using hn)
  rw [← hc]
  simp only [World.cell?, this]
/-- the same as the walk prints it -/
theorem box_end {w0 w : World} {g : Nat} {t : TypeId} {x0 x1 x2 x3 x4 x5 x6 x7 x8 x9 x10 : Value} (h : Cel w g t #[x0, x1, x2, x3, x4, x5, x6, x7, x8, x9, x10]) (hb : Below w0.heap.size w0 w) (hg : w0.heap.size ≤ g) (v0 v1 v2 v3 v4 v5 v6 v7 v8 v9 v10 : Value) :
    Cel (((((((((((w.setCell ⟨g, 0, none⟩ v0).setCell ⟨g, 1, none⟩ v1).setCell ⟨g, 2, none⟩ v2).setCell ⟨g, 3, none⟩ v3).setCell ⟨g, 4, none⟩ v4).setCell ⟨g, 5, none⟩ v5).setCell ⟨g, 6, none⟩ v6).setCell ⟨g, 7, none⟩ v7).setCell ⟨g, 8, none⟩ v8).setCell ⟨g, 9, none⟩ v9).setCell ⟨g, 10, none⟩ v10) g t #[v0, v1, v2, v3, v4, v5, v6, v7, v8, v9, v10] ∧ Below w0.heap.size w0 (((((((((((w.setCell ⟨g, 0, none⟩ v0).setCell ⟨g, 1, none⟩ v1).setCell ⟨g, 2, none⟩ v2).setCell ⟨g, 3, none⟩ v3).setCell ⟨g, 4, none⟩ v4).setCell ⟨g, 5, none⟩ v5).setCell ⟨g, 6, none⟩ v6).setCell ⟨g, 7, none⟩ v7).setCell ⟨g, 8, none⟩ v8).setCell ⟨g, 9, none⟩ v9).setCell ⟨g, 10, none⟩ v10) := by
  have a := put11_cel h v0 v1 v2 v3 v4 v5 v6 v7 v8 v9 v10
  have b := unit_then hb hg v0 v1 v2 v3 v4 v5 v6 v7 v8 v9 v10
  unfold put11 at a b
  exact ⟨a, b⟩
theorem Cel.drew1 {w : World} {g : Nat} {t : TypeId} {cs : Array Value} (h : Cel w g t cs) : Cel w.drew g t cs := h
theorem bel_drew1 {B : Nat} {w w' : World} (b : Below B w w') : Below B w w'.drew := ⟨b.os, b.tape, b.output, b.size, b.block⟩
theorem box_drew {w0 w : World} {g : Nat} {t : TypeId} {x0 x1 x2 x3 x4 x5 x6 x7 x8 x9 x10 : Value} (h : Cel w g t #[x0, x1, x2, x3, x4, x5, x6, x7, x8, x9, x10]) (hb : Below w0.heap.size w0 w) (hg : w0.heap.size ≤ g) (v0 v1 v2 v3 v4 v5 v6 v7 v8 v9 v10 : Value) :
    Cel ((((((((((((w.setCell ⟨g, 0, none⟩ v0).setCell ⟨g, 1, none⟩ v1).setCell ⟨g, 2, none⟩ v2).setCell ⟨g, 3, none⟩ v3).setCell ⟨g, 4, none⟩ v4).setCell ⟨g, 5, none⟩ v5).setCell ⟨g, 6, none⟩ v6).setCell ⟨g, 7, none⟩ v7).setCell ⟨g, 8, none⟩ v8).setCell ⟨g, 9, none⟩ v9).setCell ⟨g, 10, none⟩ v10)).drew g t #[v0, v1, v2, v3, v4, v5, v6, v7, v8, v9, v10] ∧ Below w0.heap.size w0 ((((((((((((w.setCell ⟨g, 0, none⟩ v0).setCell ⟨g, 1, none⟩ v1).setCell ⟨g, 2, none⟩ v2).setCell ⟨g, 3, none⟩ v3).setCell ⟨g, 4, none⟩ v4).setCell ⟨g, 5, none⟩ v5).setCell ⟨g, 6, none⟩ v6).setCell ⟨g, 7, none⟩ v7).setCell ⟨g, 8, none⟩ v8).setCell ⟨g, 9, none⟩ v9).setCell ⟨g, 10, none⟩ v10)).drew := by
  obtain ⟨a, b⟩ := box_end h hb hg v0 v1 v2 v3 v4 v5 v6 v7 v8 v9 v10
  exact ⟨Cel.drew1 a, bel_drew1 b⟩
theorem box_only {w : World} {g : Nat} (v0 v1 v2 v3 v4 v5 v6 v7 v8 v9 v10 : Value) : Only [g] w (((((((((((w.setCell ⟨g, 0, none⟩ v0).setCell ⟨g, 1, none⟩ v1).setCell ⟨g, 2, none⟩ v2).setCell ⟨g, 3, none⟩ v3).setCell ⟨g, 4, none⟩ v4).setCell ⟨g, 5, none⟩ v5).setCell ⟨g, 6, none⟩ v6).setCell ⟨g, 7, none⟩ v7).setCell ⟨g, 8, none⟩ v8).setCell ⟨g, 9, none⟩ v9).setCell ⟨g, 10, none⟩ v10) := by
  have a := put11_only w g v0 v1 v2 v3 v4 v5 v6 v7 v8 v9 v10
  unfold put11 at a
  exact a
theorem rng_put {w : World} {q : Nat} {t : TypeId} {x y : Value} (h : Cel w q t #[x, y]) (a b : Value) : Cel ((w.setCell ⟨q, 0, none⟩ a).setCell ⟨q, 1, none⟩ b) q t #[a, b] ∧ Only [q] w ((w.setCell ⟨q, 0, none⟩ a).setCell ⟨q, 1, none⟩ b) :=
  ⟨(h.put 0 a).put 1 b, only_then (put_only w q 0 a) (put_only _ q 1 b)⟩
theorem only_bel {w0 w w' : World} {q : Nat} (h : Below w0.heap.size w0 w) (k : Only [q] w w') (hq : w0.heap.size ≤ q) : Below w0.heap.size w0 w' := h.trans (k.below h.size (by simpa using hq))
/-- a unit's block stored whole beside a sending end -/
theorem fin_box {w w1 : World} {g q : Nat} {K : Kc} {s : SS} {A : Option Addr} {n c : Nat} {x0 x1 x2 x3 x4 x5 x6 x7 x8 x9 x10 : Value} (hx : FX w1 g K s A n c) (ho : Only [g] w w1) (hq : w.heap.size ≤ q) (hu : Cel w1 q 45 #[x0, x1, x2, x3, x4, x5, x6, x7, x8, x9, x10]) (v0 v1 v2 v3 v4 v5 v6 v7 v8 v9 v10 : Value) :
    Cel (((((((((((w1.setCell ⟨q, 0, none⟩ v0).setCell ⟨q, 1, none⟩ v1).setCell ⟨q, 2, none⟩ v2).setCell ⟨q, 3, none⟩ v3).setCell ⟨q, 4, none⟩ v4).setCell ⟨q, 5, none⟩ v5).setCell ⟨q, 6, none⟩ v6).setCell ⟨q, 7, none⟩ v7).setCell ⟨q, 8, none⟩ v8).setCell ⟨q, 9, none⟩ v9).setCell ⟨q, 10, none⟩ v10) q 45 #[v0, v1, v2, v3, v4, v5, v6, v7, v8, v9, v10] ∧ FX (((((((((((w1.setCell ⟨q, 0, none⟩ v0).setCell ⟨q, 1, none⟩ v1).setCell ⟨q, 2, none⟩ v2).setCell ⟨q, 3, none⟩ v3).setCell ⟨q, 4, none⟩ v4).setCell ⟨q, 5, none⟩ v5).setCell ⟨q, 6, none⟩ v6).setCell ⟨q, 7, none⟩ v7).setCell ⟨q, 8, none⟩ v8).setCell ⟨q, 9, none⟩ v9).setCell ⟨q, 10, none⟩ v10) g K s A n c ∧ Only [g] w (((((((((((w1.setCell ⟨q, 0, none⟩ v0).setCell ⟨q, 1, none⟩ v1).setCell ⟨q, 2, none⟩ v2).setCell ⟨q, 3, none⟩ v3).setCell ⟨q, 4, none⟩ v4).setCell ⟨q, 5, none⟩ v5).setCell ⟨q, 6, none⟩ v6).setCell ⟨q, 7, none⟩ v7).setCell ⟨q, 8, none⟩ v8).setCell ⟨q, 9, none⟩ v9).setCell ⟨q, 10, none⟩ v10) := by
  have a := put11_cel hu v0 v1 v2 v3 v4 v5 v6 v7 v8 v9 v10
  have k := put11_only w1 q v0 v1 v2 v3 v4 v5 v6 v7 v8 v9 v10
  unfold put11 at a k
  have hne : g ≠ q := Cel.apart (t := TS) hx.cel hu (by decide)
  exact ⟨a, hx.only k (by simpa using hne) (.of_only k (fun x hx => by rw [List.mem_singleton.1 hx]; exact not_rng hu (by decide))), ho.trans k (fun x hx => .inr (by rw [List.mem_singleton.1 hx]; exact hq))⟩
end Go.Proofs.Ytaaikmncdgfkmaa.Src
