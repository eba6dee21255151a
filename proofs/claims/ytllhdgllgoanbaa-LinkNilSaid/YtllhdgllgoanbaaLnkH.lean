/-
  The heap words of package link: blocks of a kind that no call writes (Bt, Kq), slices that lead into such blocks (Qr, Sl, Dq), transmissions and flights as rows of two cells (encT); pairs of ints, ints as rows (encR, encI).
-/
import Derived.Test.YtllhdgllgoanbaaLnkMath
import Derived.Test.YtllhdgllgoanbaaBase
import Derived.Test.YtllhdgllgoanbaaLstH
import Derived.Test.YtllhdgllgoanbaaRngH
import Derived.Test.YtllhdgllgoanbaaIntH
namespace Go.Proofs.Ytllhdgllgoanbaa.Lnk
open Go.RowKit Go.Proofs.Ytllhdgllgoanbaa.Row
open Rng (R)
open Lst (Qb Dt LS)
abbrev I (n : Int) : Value := .int .i64 n
theorem bel_new (w : World) (o : Obj) : Below w.heap.size w (w.alloc o) := (Below.refl _ _).alloc (Nat.le_refl _) _

theorem Cel.on {w w' : World} {g : Nat} {t : TypeId} {cs : Array Value} (h : Cel w g t cs) (hb : Below w.heap.size w w') : Cel w' g t cs := (hb.block g h.lt).trans h

/-- a type whose blocks are never written once they are laid -/
def Fx (t : TypeId) : Prop := t ≠ 61 ∧ t ≠ 71 ∧ t ≠ 39 ∧ t ≠ 36 ∧ t ≠ 26
instance (t : TypeId) : Decidable (Fx t) := by unfold Fx; infer_instance
def Bt (w : World) (b : Nat) : Prop := ∃ t cs, Cel w b t cs ∧ Fx t
/-- all such blocks stay -/
def Kq (w w' : World) : Prop := ∀ b t cs, Cel w b t cs → Fx t → Cel w' b t cs
section
variable {w w' w2 : World} {b n c B g : Nat} {l : List Byte} {a A : Option Addr} {S : List Nat}
theorem Kq.refl (w : World) : Kq w w := fun _ _ _ h _ => h
theorem Kq.of_below (h : Below w.heap.size w w') : Kq w w' := fun b _ _ hc _ => (h.block b hc.lt).trans hc
theorem Kq.trans (h : Kq w w') (k : Kq w' w2) : Kq w w2 := fun b t cs hc h1 => k b t cs (h b t cs hc h1) h1
theorem Kq.of_only (k : Only S w w') (hS : ∀ x ∈ S, ∀ t cs, Cel w x t cs → ¬ Fx t) : Kq w w' := fun b t cs hc h1 => hc.only k (fun hm => hS b hm t cs hc h1)
/-- a block of another kind is none such -/
theorem not_fx {t : TypeId} {cs : Array Value} (h : Cel w g t cs) (ht : ¬ Fx t) : ∀ t' cs', Cel w g t' cs' → ¬ Fx t' := fun t' cs' h' hf => by
  have e : some (Obj.cells cs t (0, 0)) = some (.cells cs' t' (0, 0)) := h.symm.trans h'
  simp at e
  exact ht (e.2 ▸ hf)
theorem not_lt (h : w.heap.size ≤ g) : ∀ t' cs', Cel w g t' cs' → ¬ Fx t' := fun t' cs' h' _ => by have := h'.lt; omega
theorem Bt.lt (h : Bt w b) : b < w.heap.size := by
  obtain ⟨t, cs, h, _⟩ := h
  exact h.lt
theorem Bt.keep (h : Bt w b) (k : Kq w w') : Bt w' b := by
  obtain ⟨t, cs, hc, h1⟩ := h
  exact ⟨t, cs, k b t cs hc h1, h1⟩
theorem Bt.cell (h : Bt w b) (k : Kq w w') (i : Nat) : w'.cell? ⟨b, i, none⟩ = w.cell? ⟨b, i, none⟩ := by
  obtain ⟨t, cs, hc, h1⟩ := h
  rw [(k b t cs hc h1).cell, hc.cell]

/-- bytes in such a block -/
structure Dq (w : World) (l : List Byte) (a : Option Addr) (c : Nat) : Prop where
  b : 0 < l.length → ∃ b off, a = some ⟨b, off, none⟩ ∧ Bt w b ∧ ∀ i x, l[i]? = some x → w.cell? ⟨b, off + i, none⟩ = some (B8 x)
  n : a = none → c = 0
  l : l.length ≤ c
  m : c ≤ maxLen
theorem Dq.keep (h : Dq w l a c) (k : Kq w w') : Dq w' l a c := ⟨fun hl => by
  obtain ⟨b, off, e, hb, hc⟩ := h.b hl
  exact ⟨b, off, e, hb.keep k, fun i x hx => (hb.cell k _).trans (hc i x hx)⟩, h.n, h.l, h.m⟩
theorem Dq.bs (h : Dq w l a c) : Bs w w.heap.size a l := fun hl => by
  obtain ⟨b, off, e, hb, hc⟩ := h.b hl
  exact ⟨b, off, e, hb.lt, hc⟩
theorem Dq.dt (h : Dq w l a c) : Dt w w.heap.size l a c := ⟨h.bs, h.n, h.l, h.m⟩
theorem Dq.own {base : Nat} (h : Ow w base 5 (.slice a n c) l) : Dq w l a c := by
  obtain ⟨A', c', hv, hb, hn, hl, hm⟩ := h.reads
  injection hv with h1 h2 h3
  subst h1 h2 h3
  refine ⟨fun h0 => ?_, hn, hl, hm⟩
  obtain ⟨b, off, rfl, hlt, hc⟩ := hb h0
  obtain ⟨cs, hcel⟩ := Lst.own_cel h (i := b) rfl
  exact ⟨b, off, rfl, ⟨_, cs, hcel, by decide⟩, hc⟩

/-! ### slices of elements of whatever size -/
variable {α : Type} {enc : α → List Value} {k : Nat} {L : List α}
def Qr (enc : α → List Value) (k : Nat) (w : World) (A : Option Addr) (L : List α) : Prop :=
  0 < L.length → ∃ b off, A = some ⟨b, off, none⟩ ∧ Bt w b ∧ ∀ i x, L[i]? = some x → ∀ j u, (enc x)[j]? = some u → w.cell? ⟨b, off + i * k + j, none⟩ = some u
theorem Qr.keep (h : Qr enc k w A L) (q : Kq w w') : Qr enc k w' A L := fun hl => by
  obtain ⟨b, off, e, hb, hc⟩ := h hl
  exact ⟨b, off, e, hb.keep q, fun i x hx j u hu => (hb.cell q _).trans (hc i x hx j u hu)⟩
theorem Qr.rs (h : Qr enc k w A L) : Row.Rs enc k w w.heap.size A L := fun hl => by
  obtain ⟨b, off, e, hb, hc⟩ := h hl
  exact ⟨b, off, e, hb.lt, hc⟩
theorem Qr.own (hE : Enc enc k) {base : Nat} {e : TypeId} (h : Row.Os enc k w base e (.slice A n c) L) (he : Fx e) : Qr enc k w A L := fun hl => by
  obtain ⟨b, off, rfl, _, hc⟩ := (h.rs hE) hl
  obtain ⟨cs, hcel⟩ := Lst.own_cel h (i := b) rfl
  exact ⟨b, off, rfl, ⟨_, cs, hcel, he⟩, hc⟩
/-- (A, n, c) leads to L -/
structure Sl (enc : α → List Value) (k : Nat) (w : World) (A : Option Addr) (n c : Nat) (L : List α) : Prop where
  r : Row.Rs enc k w w.heap.size A L
  len : L.length = n
  nil : A = none → c = 0
  le : n ≤ c
  max : c ≤ maxLen
theorem Sl.below (h : Sl enc k w A n c L) (q : Below w.heap.size w w') : Sl enc k w' A n c L := ⟨(h.r.below q).more q.size, h.len, h.nil, h.le, h.max⟩
structure Sq (enc : α → List Value) (k : Nat) (w : World) (A : Option Addr) (n c : Nat) (L : List α) : Prop where
  r : Qr enc k w A L
  len : L.length = n
  nil : A = none → c = 0
  le : n ≤ c
  max : c ≤ maxLen
theorem Sq.keep (h : Sq enc k w A n c L) (q : Kq w w') : Sq enc k w' A n c L := ⟨h.r.keep q, h.len, h.nil, h.le, h.max⟩
theorem Sq.sl (h : Sq enc k w A n c L) : Sl enc k w A n c L := ⟨h.r.rs, h.len, h.nil, h.le, h.max⟩
theorem Sq.own (hE : Enc enc k) {base : Nat} {e : TypeId} {v : Value} (h : Row.Os enc k w base e v L) (he : Fx e) (hl : L.length = n) : ∃ A c, v = .slice A n c ∧ Sq enc k w A n c L := by
  obtain ⟨A, c, rfl, _, hn, hle, hm⟩ := h.reads_len hE hl
  exact ⟨A, c, rfl, Qr.own hE h he, hl, hn, hle, hm⟩
end

/-! ### pairs of ints, ints -/
def encR (x : R) : List Value := [I x.1, I x.2]
def encI (x : Int) : List Value := [I x]
theorem encR_ok : Enc encR 2 := ⟨fun _ => rfl, fun x u hu => by simp [encR] at hu; rcases hu with rfl | rfl <;> rfl, by decide⟩
theorem encI_ok : Enc encI 1 := ⟨fun _ => rfl, fun x u hu => by simp [encI] at hu; subst hu; rfl, by decide⟩
theorem Rng_of {w : World} {B : Nat} {A : Option Addr} {l : List R} (h : Row.Rs encR 2 w B A l) : Rng.Rs w B A l := fun hl => by
  obtain ⟨b, off, rfl, hb, hc⟩ := h hl
  exact ⟨b, off, rfl, hb, fun i x hx => ⟨hc i x hx 0 _ rfl, hc i x hx 1 _ rfl⟩⟩
theorem Ns_of {w : World} {B : Nat} {A : Option Addr} {l : List Int} (h : Row.Rs encI 1 w B A l) : Ints.Ns w B A l := fun hl => by
  obtain ⟨b, off, rfl, hb, hc⟩ := h hl
  refine ⟨b, off, rfl, hb, fun i x hx => ?_⟩
  have := hc i x hx 0 _ rfl
  rwa [Nat.mul_one, Nat.add_zero] at this
theorem Rng_to {w : World} {B : Nat} {A : Option Addr} {l : List R} (h : Rng.Rs w B A l) : Row.Rs encR 2 w B A l := fun hl => by
  obtain ⟨b, off, rfl, hb, hc⟩ := h hl
  refine ⟨b, off, rfl, hb, fun i x hx j u hu => ?_⟩
  match j, hu with
  | 0, hu => cases hu; exact (hc i x hx).1
  | 1, hu => cases hu; exact (hc i x hx).2
theorem Ns_to {w : World} {B : Nat} {A : Option Addr} {l : List Int} (h : Ints.Ns w B A l) : Row.Rs encI 1 w B A l := fun hl => by
  obtain ⟨b, off, rfl, hb, hc⟩ := h hl
  refine ⟨b, off, rfl, hb, fun i x hx j u hu => ?_⟩
  match j, hu with
  | 0, hu => cases hu; rw [Nat.mul_one, Nat.add_zero]; exact hc i x hx
theorem r_at {w : World} {B : Nat} {A : Option Addr} {l : List R} {i : Nat} (h : Row.Rs encR 2 w B A l) (hi : i < l.length) : ∃ b off, A = some ⟨b, off, none⟩ ∧ b < B ∧ w.cell? ⟨b, off + i * 2, none⟩ = some (I l[i].1) ∧ w.cell? ⟨b, off + i * 2 + 1, none⟩ = some (I l[i].2) := by
  obtain ⟨b, off, e, hb, hc⟩ := h.at_ hi
  exact ⟨b, off, e, hb, hc 0 _ rfl, hc 1 _ rfl⟩
theorem i_at {w : World} {B : Nat} {A : Option Addr} {l : List Int} {i : Nat} (h : Row.Rs encI 1 w B A l) (hi : i < l.length) : ∃ b off, A = some ⟨b, off, none⟩ ∧ b < B ∧ w.cell? ⟨b, off + i, none⟩ = some (I l[i]) := by
  obtain ⟨b, off, e, hb, hc⟩ := h.at_ hi
  have := hc 0 _ rfl
  rw [Nat.mul_one, Nat.add_zero] at this
  exact ⟨b, off, e, hb, this⟩

/-! ### transmissions, flights -/
structure Tq where
  at_ : Int
  q : Qb
def Tq.p (x : Tq) : Int × List Byte := (x.at_, x.q.l)
def encT (x : Tq) : List Value := [I x.at_, .slice x.q.a x.q.l.length x.q.c]
theorem encT_ok : Enc encT 2 := ⟨fun _ => rfl, fun x u hu => by simp [encT] at hu; rcases hu with rfl | rfl <;> rfl, by decide⟩
theorem t_at {w : World} {B : Nat} {A : Option Addr} {l : List Tq} {i : Nat} (h : Row.Rs encT 2 w B A l) (hi : i < l.length) : ∃ b off, A = some ⟨b, off, none⟩ ∧ b < B ∧ w.cell? ⟨b, off + i * 2, none⟩ = some (I l[i].at_) ∧ w.cell? ⟨b, off + i * 2 + 1, none⟩ = some (.slice l[i].q.a l[i].q.l.length l[i].q.c) := by
  obtain ⟨b, off, e, hb, hc⟩ := h.at_ hi
  exact ⟨b, off, e, hb, hc 0 _ rfl, hc 1 _ rfl⟩
theorem is_trans : IsRows Try.prog 59 71 (.agg #[I 0, .slice none 0 0]) 2 32 := IsRows.of Try.underlying59 rfl (by kernel_rfl)
theorem is_flights : IsRows Try.prog 34 75 (.agg #[I 0, .slice none 0 0]) 2 32 := IsRows.of Try.underlying34 rfl (by kernel_rfl)
theorem is_rngs : IsRows Try.prog 22 53 (.agg #[I 0, I 0]) 2 16 := IsRows.of Try.underlying22 rfl (by kernel_rfl)
theorem is_flips : IsRows Try.prog 24 57 (.agg #[I 0, I 0]) 2 16 := IsRows.of Try.underlying24 rfl (by kernel_rfl)
theorem is_nums : IsRows Try.prog 23 3 (I 0) 1 8 := IsRows.of Try.underlying23 rfl (by kernel_rfl)
theorem is_lists : IsRows Try.prog 44 39 (.slice none 0 0) 1 24 := IsRows.of Try.underlying44 rfl (by kernel_rfl)

/-! ### a configuration -/
/-- the four cells of a configuration, its slices somewhere below -/
structure Cg (w : World) (c : Cf) (Ao : Option Addr) (no co : Nat) (Al : Option Addr) (nl cl : Nat) (Af : Option Addr) (nf cf : Nat) : Prop where
  o : Sl encR 2 w Ao no co c.ot
  l : Sl encI 1 w Al nl cl c.lo
  f : Sl encR 2 w Af nf cf c.fl
structure Ch (w : World) (c : Cf) (Ao : Option Addr) (no co : Nat) (Al : Option Addr) (nl cl : Nat) (Af : Option Addr) (nf cf : Nat) : Prop where
  o : Sq encR 2 w Ao no co c.ot
  l : Sq encI 1 w Al nl cl c.lo
  f : Sq encR 2 w Af nf cf c.fl
section
variable {w w' : World} {c : Cf} {Ao Al Af : Option Addr} {no co nl cl nf cf : Nat}
theorem Cg.below (h : Cg w c Ao no co Al nl cl Af nf cf) (q : Below w.heap.size w w') : Cg w' c Ao no co Al nl cl Af nf cf := ⟨h.o.below q, h.l.below q, h.f.below q⟩
theorem Ch.keep (h : Ch w c Ao no co Al nl cl Af nf cf) (q : Kq w w') : Ch w' c Ao no co Al nl cl Af nf cf := ⟨h.o.keep q, h.l.keep q, h.f.keep q⟩
theorem Ch.cg (h : Ch w c Ao no co Al nl cl Af nf cf) : Cg w c Ao no co Al nl cl Af nf cf := ⟨h.o.sl, h.l.sl, h.f.sl⟩
end

/-! ### a Link -/
/-- block g is a Link of New with the configuration c in state s; its row lies in block r -/
structure LC (w : World) (base g : Nat) (v : Value) (ts : List Tq) (c : Cf) (s : LS) (Ao : Option Addr) (no co : Nat) (Al : Option Addr) (nl cl : Nat) (Af : Option Addr) (nf cf : Nat) : Prop where
  cel : Cel w g 61 #[.bool true, I c.dl, .slice Ao no co, .slice Al nl cl, .slice Af nf cf, I s.tm, I (s.sn : Int), v]
  ch : Ch w c Ao no co Al nl cl Af nf cf
  os : Row.Os encT 2 w base 71 v ts
  tp : ts.map Tq.p = s.wt
  dq : ∀ t ∈ ts, Dq w t.q.l t.q.a t.q.c
  ok : c.ok = true
def LW (w : World) (base g : Nat) (r : Option Nat) (c : Cf) (s : LS) : Prop := ∃ v ts Ao no co Al nl cl Af nf cf, LC w base g v ts c s Ao no co Al nl cl Af nf cf ∧ v.ownBlock = r
section
variable {w w' : World} {base g : Nat} {v : Value} {ts : List Tq} {r : Option Nat} {c : Cf} {s : LS} {Ao Al Af : Option Addr} {no co nl cl nf cf : Nat} {S : List Nat}
theorem LC.keep (h : LC w base g v ts c s Ao no co Al nl cl Af nf cf) (k : Only S w w') (q : Kq w w') (hg : g ∉ S) (hr : ∀ i, v.ownBlock = some i → i ∉ S) : LC w' base g v ts c s Ao no co Al nl cl Af nf cf :=
  ⟨h.cel.only k hg, h.ch.keep q, Row.Os.only h.os k hr, h.tp, fun t ht => (h.dq t ht).keep q, h.ok⟩
theorem LC.below (h : LC w base g v ts c s Ao no co Al nl cl Af nf cf) (k : Below w.heap.size w w') : LC w' base g v ts c s Ao no co Al nl cl Af nf cf := h.keep (Only.of_below (S := []) k) (.of_below k) (by simp) (by simp)
theorem LC.draws (h : LC w base g v ts c s Ao no co Al nl cl Af nf cf) (n : Nat) : LC (w.drewN n) base g v ts c s Ao no co Al nl cl Af nf cf := h.below (drewN_below _ _)
theorem LC.len (h : LC w base g v ts c s Ao no co Al nl cl Af nf cf) : ts.length = s.wt.length := by rw [← h.tp, List.length_map]
theorem LC.off (h : LC w base g v ts c s Ao no co Al nl cl Af nf cf) : v.ownBlock ≠ some g := Row.Os.apart h.os h.cel (by decide)
/-- what a call that writes these two blocks leaves of the others -/
theorem LC.kq (h : LC w base g v ts c s Ao no co Al nl cl Af nf cf) (k : Only (g :: v.ownBlock.toList) w w') : Kq w w' := .of_only k fun x hx => by
  rcases List.mem_cons.1 hx with rfl | hx
  · exact not_fx h.cel (by decide)
  · have hx : v.ownBlock = some x := by simpa using hx
    obtain ⟨cs, hc⟩ := Lst.own_cel h.os hx
    exact not_fx hc (by decide)
theorem LW.keep (h : LW w base g r c s) (k : Only S w w') (q : Kq w w') (hg : g ∉ S) (hr : ∀ i, r = some i → i ∉ S) : LW w' base g r c s := by
  obtain ⟨v, ts, Ao, no, co, Al, nl, cl, Af, nf, cf, hc, rfl⟩ := h
  exact ⟨v, ts, Ao, no, co, Al, nl, cl, Af, nf, cf, hc.keep k q hg hr, rfl⟩
theorem LW.below (h : LW w base g r c s) (k : Below w.heap.size w w') : LW w' base g r c s := h.keep (Only.of_below (S := []) k) (.of_below k) (by simp) (by simp)
theorem LW.kq (h : LW w base g r c s) (k : Only (g :: r.toList) w w') : Kq w w' := by
  obtain ⟨v, ts, Ao, no, co, Al, nl, cl, Af, nf, cf, hc, rfl⟩ := h
  exact hc.kq k
theorem LW.lt (h : LW w base g r c s) : g < w.heap.size := by
  obtain ⟨v, ts, Ao, no, co, Al, nl, cl, Af, nf, cf, hc, rfl⟩ := h
  exact hc.cel.lt
theorem LW.row (h : LW w base g r c s) : ∀ i, r = some i → base ≤ i ∧ i < w.heap.size ∧ i ≠ g := by
  obtain ⟨v, ts, Ao, no, co, Al, nl, cl, Af, nf, cf, hc, rfl⟩ := h
  intro i hi
  have := Row.Os.lt hc.os i hi
  exact ⟨this.1, this.2, fun e => hc.off (by rw [hi, e])⟩
end
end Go.Proofs.Ytllhdgllgoanbaa.Lnk
