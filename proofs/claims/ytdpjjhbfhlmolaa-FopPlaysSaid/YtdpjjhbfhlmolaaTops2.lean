/-
  Rd Later FopW0 TcfW0 CrcW1 CrcW2 CrcW3 TcfW1 TcfW2 TcfW3 TcfW4 FopW1 FopW2 FopW3 FopW4 FopW5 ClcW0, one after another.
-/
import Derived.Test.YtdpjjhbfhlmolaaTops1
import Derived.BigQuiet
import Derived.Below
import Derived.Deep.QuietTactic
import Derived.BigRegion
import Derived.Lib.ConvBytes
import Derived.ArgAppend
import Derived.Lib.SlBytesConst

/-
  One word for 'this slice value reads as these bytes', with its length, its nil rule and its bounds; a Reader of package bits beside a struct's block, as one state; a struct of six cells stored whole.
-/
namespace Go.Proofs.Ytdpjjhbfhlmolaa
open Go.RowKit

/-- A leads to the bytes l, n of them, in w -/
structure Rd (w : World) (A : Option Addr) (l : List Byte) (n c : Nat) : Prop where
  len : l.length = n
  bs : Bs w w.heap.size A l
  nil : A = none → c = 0
  le : n ≤ c
  max : c ≤ maxLen
theorem Rd.later {w w' : World} {A : Option Addr} {l : List Byte} {n c : Nat} (h : Rd w A l n c) (hb : Below w.heap.size w w') : Rd w' A l n c := ⟨h.len, (h.bs.below hb).more hb.size, h.nil, h.le, h.max⟩
theorem Rd.of {w : World} {base n : Nat} {v : Value} {l : List Byte} (h : Ow w base 5 v l) (hl : l.length = n) : ∃ A c, v = .slice A n c ∧ Rd w A l n c := by
  obtain ⟨A, c, h1, h2, h3, h4, h5⟩ := h.reads_len hl
  exact ⟨A, c, h1, hl, h2, h3, h4, h5⟩
theorem Rd.only {w w' : World} {b off : Nat} {l : List Byte} {n c : Nat} {S : List Nat} (h : Rd w (some ⟨b, off, none⟩) l n c) (k : Only S w w') (hb : b ∉ S) : Rd w' (some ⟨b, off, none⟩) l n c := by
  refine ⟨h.len, fun hl => ?_, h.nil, h.le, h.max⟩
  obtain ⟨b', o', e, hlt, hc⟩ := h.bs hl
  injection e with e
  injection e with e1 e2
  subst e1 e2
  refine ⟨b, off, rfl, Nat.lt_of_lt_of_le hlt k.size, fun i x hx => ?_⟩
  have h1 := hc i x hx
  have h2 := k.block b hlt hb
  unfold World.cell? at h1 ⊢
  simp only at h1 ⊢
  rw [h2]
  exact h1
theorem Rd.conv {w w' : World} {A : Option Addr} {l : List Byte} {n c : Nat} (h : Rd w A l n c) (hb : Below w.heap.size w w') : (convert 33 9 (.slice A n c)).run Try.prog w' = .ok (.string (str l)) w' := by
  have hl := h.len
  subst hl
  exact run_str w' is_bytes Try.underlying9 (h.bs.below hb) h.nil
/-- the cells of what a slice leads to, in every later world -/
theorem Rd.at_ {w : World} {A : Option Addr} {l : List Byte} {n c : Nat} (h : Rd w A l n c) (hl : 0 < n) : ∃ b off, A = some ⟨b, off, none⟩ ∧ b < w.heap.size ∧ ∀ i x, l[i]? = some x → w.cell? ⟨b, off + i, none⟩ = some (B8 x) := h.bs (by rw [h.len]; exact hl)

/-- a row that the call lays is an own slice -/
theorem Ow_new (w : World) (base : Nat) (e : TypeId) (l : List Byte) (n : Nat) (C : Array Value) (hn : l.length = n) (hC : C = (l.map B8).toArray) (h : base ≤ w.heap.size) (hm : n ≤ maxLen) (g : Nat) (hg : w.heap.size = g) : Ow (w.alloc (.cells C e)) base e (.slice (some ⟨g, 0, none⟩) n n) l := by
  subst hn hg
  exact ⟨by simp, .inr ⟨w.heap.size, l.length, C, rfl, h, heap_alloc_new w _, Nat.le_refl _, hm, by rw [hC]; simp, by rw [hC]; simp [← List.map_take]⟩⟩

/-- a struct of six cells stored whole over another -/
def put6 (w : World) (g : Nat) (v0 v1 v2 v3 v4 v5 : Value) : World :=
  (((((w.setCell ⟨g, 0, none⟩ v0).setCell ⟨g, 1, none⟩ v1).setCell ⟨g, 2, none⟩ v2).setCell ⟨g, 3, none⟩ v3).setCell ⟨g, 4, none⟩ v4).setCell ⟨g, 5, none⟩ v5
theorem put6_cel {w : World} {g : Nat} {t : TypeId} {x0 x1 x2 x3 x4 x5 : Value} (h : Cel w g t #[x0, x1, x2, x3, x4, x5]) (v0 v1 v2 v3 v4 v5 : Value) : Cel (put6 w g v0 v1 v2 v3 v4 v5) g t #[v0, v1, v2, v3, v4, v5] :=
  (((((h.put 0 v0).put 1 v1).put 2 v2).put 3 v3).put 4 v4).put 5 v5
theorem put6_only (w : World) (g : Nat) (v0 v1 v2 v3 v4 v5 : Value) : Only [g] w (put6 w g v0 v1 v2 v3 v4 v5) := by
  unfold put6
  exact ((((((Only.refl [g] w).put (p := ⟨g, 0, none⟩) (.inl (by simp)) _).put (p := ⟨g, 1, none⟩) (.inl (by simp)) _).put (p := ⟨g, 2, none⟩) (.inl (by simp)) _).put (p := ⟨g, 3, none⟩) (.inl (by simp)) _).put (p := ⟨g, 4, none⟩) (.inl (by simp)) _).put (p := ⟨g, 5, none⟩) (.inl (by simp)) _
theorem put6_below {w W : World} {g : Nat} (h : Below w.heap.size w W) (hg : w.heap.size ≤ g) (v0 v1 v2 v3 v4 v5 : Value) : Below w.heap.size w (put6 W g v0 v1 v2 v3 v4 v5) :=
  h.trans ((put6_only _ _ _ _ _ _ _ _).below h.size (by simpa using hg))
end Go.Proofs.Ytdpjjhbfhlmolaa

/-
  A region that draws its order, whose operations read and whose callees may make memory of their own but hand back a value that hangs on no world: one walk in the order of the text. The class of worlds: whatever leaves the old blocks alone. No dump is imported.
-/
namespace Go.Proofs.Ytdpjjhbfhlmolaa
open Go.RowKit

/-- a world in which all blocks of w are as they were -/
structure Later (w : World) where
  W : World
  h : Below w.heap.size w W
instance later_nonempty (w : World) : Nonempty (Later w) := ⟨⟨w, Below.refl _ _⟩⟩

theorem wp_region_later {P : Program} {id : Nat} {Q : Exit → Act → World → Prop} {a : Act} {w : World} {l : List Oper} (hm : P.follows .mixedOrders = true) (hB : Region.lexB .any l.toArray = true)
    (h : wpQuiet P l.toArray (fun w' => ∃ p : Later w, w' = p.W) (fun a' => ∀ w', (∃ p : Later w, w' = p.W) → Q .normal a' w') l a) : (Code.region id l.toArray true).wp P Q a w :=
  wp_region_quiet (C := fun w' => ∃ p : Later w, w' = p.W) hm hB ⟨⟨{ w with drawn := w.drawn + 1 }, ⟨rfl, rfl, rfl, Nat.le_refl _, fun _ _ => rfl⟩⟩, rfl⟩ (by simpa using h)

theorem later_cell {w : World} {b off : Nat} {v : Value} (hc : w.cell? ⟨b, off, none⟩ = some v) (hb : b < w.heap.size) (p : Later w) : p.W.cell? ⟨b, off, none⟩ = some v :=
  (p.h.cell (p := ⟨b, off, none⟩) hb).trans hc

/-- a callee's contract, met in such a world -/
theorem later_of {P : Program} {f : FuncId} {args : Array Value} {w : World} {p : Later w} {v : Value}
    (h : Calls P f args p.W fun e w' => e = .returned v ∧ Below p.W.heap.size p.W w') : Calls P f args p.W fun e w'' => e = .returned v ∧ ∃ q : Later w, w'' = q.W :=
  h.mono fun _ w'' ⟨he, hb⟩ => ⟨he, ⟨w'', p.h.trans (hb.mono p.h.size)⟩, rfl⟩
theorem later_same {P : Program} {f : FuncId} {args : Array Value} {w : World} {p : Later w} {v : Value}
    (h : Calls P f args p.W fun e w' => e = .returned v ∧ p.W = w') : Calls P f args p.W fun e w'' => e = .returned v ∧ ∃ q : Later w, w'' = q.W :=
  h.mono fun _ _ ⟨he, hb⟩ => ⟨he, p, hb.symm⟩

end Go.Proofs.Ytdpjjhbfhlmolaa

/-
  Package fop: what it is to be a sending end; newWindow, New, works, advance, first, ready, rewind, frame.
-/
namespace Go.Proofs.Ytdpjjhbfhlmolaa.Fop
open Go.RowKit
open Pac (bel_new Cel.later)
open Tcf (Fr)
open Strs (So)

/-- the cells of a sending end -/
def cells (K H W T R : Int) (v : Value) (s : Fs) : Array Value :=
  #[.int .i64 W, v, .int .i64 s.fl, .int .i64 s.fr, .int .i64 s.ac, .int .i64 K, .int .i64 H, .int .i64 T, .int .i64 R, .int .i64 s.st, .int .i64 s.ct, .int .i64 s.rp, .int .i64 s.tm, .int .i64 s.nw]
/-- block g is a sending end -/
def FC (w : World) (g : Nat) (K H W T R : Int) (v : Value) (s : Fs) : Prop := Cel w g 70 (cells K H W T R v s)
/-- what New was given, in range -/
structure Par (K H W T R : Int) : Prop where
  k0 : 0 ≤ K
  k1 : K ≤ 1023
  h0 : 0 ≤ H
  h1 : H ≤ 7
  w0 : 1 ≤ W
  w1 : W ≤ 127
  t0 : 1 ≤ T
  t1 : T ≤ 1099511627776
  r0 : 0 ≤ R
  r1 : R ≤ 255
/-- the sending end at block g, its units in a slice v of its own (blocks from B on) -/
structure FW (w : World) (B g : Nat) (v : Value) (K H W T R : Int) (s : Fs) : Prop where
  cel : FC w g K H W T R v s
  row : So w B v s.us
  ok : s.Ok R
  p : Par K H W T R
/-- its blocks -/
def blk (g : Nat) (v : Value) : List Nat := g :: v.ownBlock.toList

section
variable {w w' : World} {B g : Nat} {v v' : Value} {K H W T R x : Int} {s : Fs} {S : List Nat}
theorem FC.put (h : FC w g K H W T R v s) (i : Nat) (u : Value) : Cel (w.setCell ⟨g, i, none⟩ u) g 70 ((cells K H W T R v s).setIfInBounds i u) := Cel.put (t := 70) h i u
theorem FC.units (h : FC w g K H W T R v s) (u : List (List Byte)) : FC (w.setCell ⟨g, 1, none⟩ v') g K H W T R v' { s with us := u } := h.put 1 _
theorem FC.fl (h : FC w g K H W T R v s) (x : Int) : FC (w.setCell ⟨g, 2, none⟩ (.int .i64 x)) g K H W T R v { s with fl := x } := h.put 2 _
theorem FC.fr (h : FC w g K H W T R v s) (x : Int) : FC (w.setCell ⟨g, 3, none⟩ (.int .i64 x)) g K H W T R v { s with fr := x } := h.put 3 _
theorem FC.ac (h : FC w g K H W T R v s) (x : Int) : FC (w.setCell ⟨g, 4, none⟩ (.int .i64 x)) g K H W T R v { s with ac := x } := h.put 4 _
theorem FC.st (h : FC w g K H W T R v s) (x : Int) : FC (w.setCell ⟨g, 9, none⟩ (.int .i64 x)) g K H W T R v { s with st := x } := h.put 9 _
theorem FC.ct (h : FC w g K H W T R v s) (x : Int) : FC (w.setCell ⟨g, 10, none⟩ (.int .i64 x)) g K H W T R v { s with ct := x } := h.put 10 _
theorem FC.rp (h : FC w g K H W T R v s) (x : Int) : FC (w.setCell ⟨g, 11, none⟩ (.int .i64 x)) g K H W T R v { s with rp := x } := h.put 11 _
theorem FC.tm (h : FC w g K H W T R v s) (x : Int) : FC (w.setCell ⟨g, 12, none⟩ (.int .i64 x)) g K H W T R v { s with tm := x } := h.put 12 _
theorem FC.nw (h : FC w g K H W T R v s) (x : Int) : FC (w.setCell ⟨g, 13, none⟩ (.int .i64 x)) g K H W T R v { s with nw := x } := h.put 13 _
theorem FC.lt (h : FC w g K H W T R v s) : g < w.heap.size := Cel.lt (t := 70) h
theorem FC.only (h : FC w g K H W T R v s) (k : Only S w w') (hg : g ∉ S) : FC w' g K H W T R v s := Cel.only (t := 70) h k hg
theorem FC.below (h : FC w g K H W T R v s) (k : Below w.heap.size w w') : FC w' g K H W T R v s := h.only (Only.of_below (S := []) k) (by simp)
theorem FC.draws (h : FC w g K H W T R v s) (n : Nat) : FC (w.drewN n) g K H W T R v s := h
theorem FC.c0 (h : FC w g K H W T R v s) : w.cell? ⟨g, 0, none⟩ = some (.int .i64 W) := Cel.cell (t := 70) h 0
theorem FC.c1 (h : FC w g K H W T R v s) : w.cell? ⟨g, 1, none⟩ = some v := Cel.cell (t := 70) h 1
theorem FC.c2 (h : FC w g K H W T R v s) : w.cell? ⟨g, 2, none⟩ = some (.int .i64 s.fl) := Cel.cell (t := 70) h 2
theorem FC.c3 (h : FC w g K H W T R v s) : w.cell? ⟨g, 3, none⟩ = some (.int .i64 s.fr) := Cel.cell (t := 70) h 3
theorem FC.c4 (h : FC w g K H W T R v s) : w.cell? ⟨g, 4, none⟩ = some (.int .i64 s.ac) := Cel.cell (t := 70) h 4
theorem FC.c5 (h : FC w g K H W T R v s) : w.cell? ⟨g, 5, none⟩ = some (.int .i64 K) := Cel.cell (t := 70) h 5
theorem FC.c6 (h : FC w g K H W T R v s) : w.cell? ⟨g, 6, none⟩ = some (.int .i64 H) := Cel.cell (t := 70) h 6
theorem FC.c7 (h : FC w g K H W T R v s) : w.cell? ⟨g, 7, none⟩ = some (.int .i64 T) := Cel.cell (t := 70) h 7
theorem FC.c8 (h : FC w g K H W T R v s) : w.cell? ⟨g, 8, none⟩ = some (.int .i64 R) := Cel.cell (t := 70) h 8
theorem FC.c9 (h : FC w g K H W T R v s) : w.cell? ⟨g, 9, none⟩ = some (.int .i64 s.st) := Cel.cell (t := 70) h 9
theorem FC.c10 (h : FC w g K H W T R v s) : w.cell? ⟨g, 10, none⟩ = some (.int .i64 s.ct) := Cel.cell (t := 70) h 10
theorem FC.c11 (h : FC w g K H W T R v s) : w.cell? ⟨g, 11, none⟩ = some (.int .i64 s.rp) := Cel.cell (t := 70) h 11
theorem FC.c12 (h : FC w g K H W T R v s) : w.cell? ⟨g, 12, none⟩ = some (.int .i64 s.tm) := Cel.cell (t := 70) h 12
theorem FC.c13 (h : FC w g K H W T R v s) : w.cell? ⟨g, 13, none⟩ = some (.int .i64 s.nw) := Cel.cell (t := 70) h 13
theorem FC.free (h : FC w g K H W T R v s) (i : Nat) : w.frozen? ⟨g, i, none⟩ = false := Cel.free (t := 70) h i
theorem FC.row_only (hr : So w B v s.us) (h : FC w g K H W T R v s) (k : Only [g] w w') : So w' B v s.us := hr.only k (fun i hi hm => by
  rw [List.mem_singleton] at hm
  subst hm
  exact Row.Os.apart hr (t := 70) h (by decide) hi)
theorem FW.only (h : FW w B g v K H W T R s) (k : Only S w w') (hS : ∀ x ∈ blk g v, x ∉ S) : FW w' B g v K H W T R s :=
  ⟨h.cel.only k (hS g (by simp [blk])), h.row.only k (fun i hi => hS i (by simp [blk, hi])), h.ok, h.p⟩
theorem FW.below (h : FW w B g v K H W T R s) (k : Below w.heap.size w w') : FW w' B g v K H W T R s := h.only (Only.of_below (S := []) k) (by simp)
theorem FW.draws (h : FW w B g v K H W T R s) (n : Nat) : FW (w.drewN n) B g v K H W T R s := ⟨h.cel, h.row.draws n, h.ok, h.p⟩
theorem FW.len (h : FW w B g v K H W T R s) {n : Nat} (hn : s.us.length = n) : ∃ A c, v = .slice A n c ∧ Row.Rs Strs.senc 1 w w.heap.size A s.us ∧ (A = none → c = 0) ∧ n ≤ c ∧ c ≤ maxLen := h.row.reads_len Strs.senc_ok hn
/-- a call that turns the end's own block alone -/
theorem FW.self (h : FW w B g v K H W T R s) {t : Fs} (k : Only [g] w w') (hc : FC w' g K H W T R v t) (hu : t.us = s.us) (ho : t.Ok R) : FW w' B g v K H W T R t :=
  ⟨hc, by rw [hu]; exact FC.row_only h.row h.cel k, ho, h.p⟩
theorem put_only (w : World) (g i : Nat) (u : Value) : Only [g] w (w.setCell ⟨g, i, none⟩ u) := (Only.refl [g] w).put (p := ⟨g, i, none⟩) (.inl (by simp)) u
theorem only_then {w w' w2 : World} {S : List Nat} (h : Only S w w') (k : Only S w' w2) : Only S w w2 := h.trans k (fun _ hx => .inl hx)
theorem only_put {w w' : World} {g : Nat} (h : Only [g] w w') (i : Nat) (u : Value) : Only [g] w (w'.setCell ⟨g, i, none⟩ u) := only_then h (put_only w' g i u)
end

/-! ### New -/
theorem win_results {tmps : Array Value} {W : World} {g : Nat} {n a b c : Int} {v : Value} (h2 : tmps.getD 2 undef = .pointer (some ⟨g, 0, none⟩))
    (hC : Cel W g 68 #[.int .i64 n, v, .int .i64 a, .int .i64 b, .int .i64 c]) :
    (results Try.f34 tmps).run Try.prog W = .ok (.agg #[.int .i64 n, v, .int .i64 a, .int .i64 b, .int .i64 c]) W := by
  have c0 := hC.cell 0
  have c1 := hC.cell 1
  have c2 := hC.cell 2
  have c3 := hC.cell 3
  have c4 := hC.cell 4
  simp at c0 c1 c2 c3 c4
  simp only [Array.getD_eq_getD_getElem?] at h2
  simp [results, Try.results34, go_sem, h2, c0, c1, c2, c3, c4]
theorem clp_facts (n lo hi M : Int) (hM : M = max n lo) : max n lo = M ∧ (if n < lo then lo else n) = M ∧ min M hi = clp n lo hi ∧ (if hi < M then hi else M) = clp n lo hi := by
  subst hM
  refine ⟨rfl, ?_, rfl, ?_⟩
  · split <;> omega
  · unfold clp; split <;> omega

set_option maxHeartbeats 1000000 in
theorem newWindow_any (n : Int) (w : World) :
    Calls Try.prog 34 #[.int .i64 n] w fun e w' => e = .returned (.agg #[.int .i64 (clp n 1 127), .slice none 0 0, .int .i64 0, .int .i64 0, .int .i64 0]) ∧ Below w.heap.size w w' := by
  obtain ⟨M, hM⟩ : ∃ M, M = max n 1 := ⟨_, rfl⟩
  obtain ⟨m1, m2, m3, m4⟩ := clp_facts n 1 127 M hM
  obtain ⟨W, hW⟩ : ∃ W, W = clp n 1 127 := ⟨_, rfl⟩
  rw [← hW] at m3 m4 ⊢
  have hR := Cel.new w 68 #[.int .i64 W, .slice none 0 0, .int .i64 0, .int .i64 0, .int .i64 0]
  have b0 := bel_new w (.cells #[.int .i64 W, .slice none 0 0, .int .i64 0, .int .i64 0, .int .i64 0] 68)
  clear hM hW
  go_enter Try.func34, Try.ntmps34
  go_wp2
  exact bodyPost_ret (win_results rfl hR) rfl ⟨rfl, b0⟩

set_option maxHeartbeats 4000000 in
theorem fnew_any (K H W T R : Int) (w : World) :
    Calls Try.prog 10 #[.int .i64 K, .int .i64 H, .int .i64 W, .int .i64 T, .int .i64 R] w fun e w' => ∃ g, e = .returned (.pointer (some ⟨g, 0, none⟩)) ∧ w.heap.size ≤ g ∧ FW w' w.heap.size g (.slice none 0 0) (clp K 0 1023) (clp H 0 7) (clp W 1 127) (clp T 1 1099511627776) (clp R 0 255) fs0 ∧ Below w.heap.size w w' := by
  have hx := newWindow_any W w
  have iK := clp_in (n := K) (lo := 0) (hi := 1023) (by decide)
  have iH := clp_in (n := H) (lo := 0) (hi := 7) (by decide)
  have iW := clp_in (n := W) (lo := 1) (hi := 127) (by decide)
  have iT := clp_in (n := T) (lo := 1) (hi := 1099511627776) (by decide)
  have iR := clp_in (n := R) (lo := 0) (hi := 255) (by decide)
  obtain ⟨MK, hMK⟩ : ∃ M, M = max K 0 := ⟨_, rfl⟩
  obtain ⟨a1, a2, a3, a4⟩ := clp_facts K 0 1023 MK hMK
  obtain ⟨MH, hMH⟩ : ∃ M, M = max H 0 := ⟨_, rfl⟩
  obtain ⟨b1, b2, b3, b4⟩ := clp_facts H 0 7 MH hMH
  obtain ⟨MT, hMT⟩ : ∃ M, M = max T 1 := ⟨_, rfl⟩
  obtain ⟨d1, d2, d3, d4⟩ := clp_facts T 1 1099511627776 MT hMT
  obtain ⟨MR, hMR⟩ : ∃ M, M = max R 0 := ⟨_, rfl⟩
  obtain ⟨e1, e2, e3, e4⟩ := clp_facts R 0 255 MR hMR
  obtain ⟨K', hK⟩ : ∃ K', K' = clp K 0 1023 := ⟨_, rfl⟩
  obtain ⟨H', hH⟩ : ∃ H', H' = clp H 0 7 := ⟨_, rfl⟩
  obtain ⟨W', hW⟩ : ∃ W', W' = clp W 1 127 := ⟨_, rfl⟩
  obtain ⟨T', hT⟩ : ∃ T', T' = clp T 1 1099511627776 := ⟨_, rfl⟩
  obtain ⟨R', hR⟩ : ∃ R', R' = clp R 0 255 := ⟨_, rfl⟩
  rw [← hK] at iK a3 a4 ⊢
  rw [← hH] at iH b3 b4 ⊢
  rw [← hW] at iW hx ⊢
  rw [← hT] at iT d3 d4 ⊢
  rw [← hR] at iR e3 e4 ⊢
  have hP : Par K' H' W' T' R' := ⟨iK.1, iK.2, iH.1, iH.2, iW.1, iW.2, iT.1, iT.2, iR.1, iR.2⟩
  have hF := fun w0 : World => (⟨Cel.new w0 _ _, Row.Os.nil_ _ w.heap.size _, fs0_ok iR.1, hP⟩ : FW (w0.alloc (.cells (cells K' H' W' T' R' (.slice none 0 0) fs0) 70)) w.heap.size w0.heap.size (.slice none 0 0) K' H' W' T' R' fs0)
  have HF := Lib.hid hF
  clear hMK hMH hMT hMR hK hH hW hT hR iK iH iW iT iR hP hF
  go_enter Try.func10, Try.ntmps10
  go_wp2_with fail
  refine hx.mono ?_
  rintro e w1 ⟨rfl, k1⟩
  go_wp2
  go_ret
  exact ⟨_, rfl, k1.size, HF.out w1, k1.alloc k1.size _⟩

/-! ### works, advance, first, ready, rewind, frame -/
set_option maxHeartbeats 400000 in
theorem fopworks_any (w : World) (B g : Nat) (v : Value) (K H W T R : Int) (s : Fs) (h : FW w B g v K H W T R s) :
    Calls Try.prog 36 #[.pointer (some ⟨g, 0, none⟩)] w fun e w' => e = .returned (.bool true) ∧ w = w' := by
  have c9 := h.cel.c9
  have t1 : (s.st != 0) = true := by have := h.ok.s1; simp; omega
  clear h
  go_enter Try.func36, Try.ntmps36
  go_wp2
  go_ret
  exact ⟨rfl, rfl⟩
/-- no sending end: nil, or a zero value -/
def Dead (w : World) (p : Option Addr) : Prop := p = none ∨ ∃ g, p = some ⟨g, 0, none⟩ ∧ w.cell? ⟨g, 9, none⟩ = some (.int .i64 0) ∧ g < w.heap.size
theorem Dead.below {w w' : World} {p : Option Addr} (h : Dead w p) (k : Below w.heap.size w w') : Dead w' p := by
  rcases h with h | ⟨g, e, hc, hl⟩
  · exact .inl h
  · exact .inr ⟨g, e, by rw [k.cell (p := ⟨g, 9, none⟩) hl]; exact hc, Nat.lt_of_lt_of_le hl k.size⟩
set_option maxHeartbeats 400000 in
theorem fopworks_dead (w : World) (p : Option Addr) (h : Dead w p) : Calls Try.prog 36 #[.pointer p] w fun e w' => e = .returned (.bool false) ∧ w = w' := by
  rcases h with rfl | ⟨g, rfl, hc, _⟩
  · go_enter Try.func36, Try.ntmps36
    go_wp2
    go_ret
    exact ⟨rfl, rfl⟩
  · go_enter Try.func36, Try.ntmps36
    go_wp2
    go_ret
    exact ⟨rfl, rfl⟩

set_option maxHeartbeats 400000 in
theorem advance_any (n : Int) (w : World) (B g : Nat) (v : Value) (K H W T R : Int) (s : Fs) (h : FW w B g v K H W T R s) :
    Calls Try.prog 39 #[.pointer (some ⟨g, 0, none⟩), .int .i64 n] w fun e w' => e = .returned (.tuple #[]) ∧ FW w' B g v K H W T R (adv n s) ∧ Only [g] w w' := by
  have c13 := h.cel.c13
  have f13 := h.cel.free 13
  by_cases h1 : s.nw < n
  · by_cases h2 : n ≤ 1099511627776
    · have e : adv n s = { s with nw := n } := by unfold adv; rw [if_pos ⟨h1, h2⟩]
      have hok := adv_ok (n := n) h.ok
      rw [e] at hok ⊢
      have HF := Lib.hid (h.self (put_only w g 13 _) (h.cel.nw n) rfl hok)
      have HO := Lib.hid (put_only w g 13 (.int .i64 n))
      clear h e hok
      go_enter Try.func39, Try.ntmps39
      go_wp2
      go_end0
      exact ⟨rfl, HF.out, HO.out⟩
    · have e : adv n s = s := by unfold adv; rw [if_neg (fun h => h2 h.2)]
      rw [e]
      have h3 : 1099511627776 < n := by omega
      have HF := Lib.hid h
      clear h e h2
      go_enter Try.func39, Try.ntmps39
      go_wp2
      go_end0
      exact ⟨rfl, HF.out, Only.refl _ _⟩
  · have e : adv n s = s := by unfold adv; rw [if_neg (fun h => h1 h.1)]
    rw [e]
    have h3 : n ≤ s.nw := by omega
    have HF := Lib.hid h
    clear h e h1
    go_enter Try.func39, Try.ntmps39
    go_wp2
    go_end0
    exact ⟨rfl, HF.out, Only.refl _ _⟩

set_option maxHeartbeats 400000 in
theorem first_any (w : World) (g : Nat) (v : Value) (K H W T R : Int) (s : Fs) (h : FC w g K H W T R v s) :
    Calls Try.prog 47 #[.pointer (some ⟨g, 0, none⟩)] w fun e w' => e = .returned (.int .i64 (s.ac % 256)) ∧ w = w' := by
  have c4 := h.c4
  have ha := add_any 0 s.ac 8 w
  rw [add_first] at ha
  obtain ⟨X, hX⟩ : ∃ X, X = s.ac % 256 := ⟨_, rfl⟩
  rw [← hX] at ha ⊢
  clear h hX
  go_enter Try.func47, Try.ntmps47
  go_wp2_with fail
  refine ha.mono ?_
  rintro e w' ⟨rfl, rfl⟩
  go_wp2
  go_ret
  exact ⟨rfl, rfl⟩

set_option maxHeartbeats 1000000 in
theorem ready_any (w : World) (B g : Nat) (v : Value) (K H W T R : Int) (s : Fs) (h : FW w B g v K H W T R s) :
    Calls Try.prog 41 #[.pointer (some ⟨g, 0, none⟩)] w fun e w' => e = .returned (.bool (decide (s.fl < min W s.us.length))) ∧ ∃ m, w' = w.drewN m := by
  obtain ⟨U, hU⟩ : ∃ U, s.us.length = U := ⟨_, rfl⟩
  obtain ⟨A, c, rfl, _, _, _, _⟩ := h.len hU
  have c0 := h.cel.c0
  have c1 := h.cel.c1
  have c2 := h.cel.c2
  obtain ⟨F, hF⟩ : ∃ F, F = s.fl := ⟨_, rfl⟩
  rw [← hF] at c2 ⊢
  obtain ⟨M, hM⟩ : ∃ M, M = min W s.us.length := ⟨_, rfl⟩
  rw [← hM]
  rw [hU] at hM
  have m1 : min W (U : Int) = M := hM.symm
  have m2 : (if (U : Int) < W then (U : Int) else W) = M := by rw [hM]; split <;> omega
  clear h hM hF hU
  cases hb : decide (F < M) with
  | true =>
    go_enter Try.func41, Try.ntmps41
    go_wp2_with fail
    go_quiet (fail)
    go_wp2
    go_ret
    exact ⟨rfl, _, rfl⟩
  | false =>
    go_enter Try.func41, Try.ntmps41
    go_wp2_with fail
    go_quiet (fail)
    go_wp2
    go_ret
    exact ⟨rfl, _, rfl⟩

set_option maxHeartbeats 400000 in
theorem rewind_any (w : World) (g : Nat) (v : Value) (K H W T R : Int) (s : Fs) (h : FC w g K H W T R v s) :
    Calls Try.prog 49 #[.pointer (some ⟨g, 0, none⟩)] w fun e w' => e = .returned (.tuple #[]) ∧ FC w' g K H W T R v (rew s) ∧ Only [g] w w' := by
  have c2 := h.c2
  have f2 := h.free 2
  have HF := Lib.hid (h.fl 0)
  have HO := Lib.hid (put_only w g 2 (.int .i64 0))
  clear h
  go_enter Try.func49, Try.ntmps49
  go_wp2
  go_end0
  exact ⟨rfl, HF.out, HO.out⟩

theorem fra_results {tmps : Array Value} {W : World} {g : Nat} {byp con : Bool} {cr ch sq : Int} {v : Value} (h2 : tmps.getD 6 undef = .pointer (some ⟨g, 0, none⟩))
    (hC : Cel W g 43 #[.bool byp, .bool con, .int .i64 cr, .int .i64 ch, .int .i64 sq, v]) :
    (results Try.f38 tmps).run Try.prog W = .ok (.agg #[.bool byp, .bool con, .int .i64 cr, .int .i64 ch, .int .i64 sq, v]) W := by
  have c0 := hC.cell 0
  have c1 := hC.cell 1
  have c2 := hC.cell 2
  have c3 := hC.cell 3
  have c4 := hC.cell 4
  have c5 := hC.cell 5
  simp at c0 c1 c2 c3 c4 c5
  simp only [Array.getD_eq_getD_getElem?] at h2
  simp [results, Try.results38, go_sem, h2, c0, c1, c2, c3, c4, c5]

set_option maxHeartbeats 2000000 in
theorem frame_any (q : Int) (a : Option Addr) (n c : Nat) (w : World) (g : Nat) (v : Value) (K H W T R : Int) (s : Fs) (h : FC w g K H W T R v s) :
    Calls Try.prog 38 #[.pointer (some ⟨g, 0, none⟩), .int .i64 q, .slice a n c] w fun e w' => e = .returned (.agg #[.bool false, .bool false, .int .i64 K, .int .i64 H, .int .i64 q, .slice a n c]) ∧ Below w.heap.size w w' := by
  obtain ⟨w1, hw1⟩ : ∃ w1, w1 = w.alloc (.cells #[.bool false, .bool false, .int .i64 0, .int .i64 0, .int .i64 0, .slice none 0 0] 43) := ⟨_, rfl⟩
  have b1 : Below w.heap.size w w1 := by rw [hw1]; exact bel_new _ _
  have hR : Cel w1 w.heap.size 43 #[.bool false, .bool false, .int .i64 0, .int .i64 0, .int .i64 0, .slice none 0 0] := by rw [hw1]; exact Cel.new _ _ _
  have h1 := h.below b1
  have c5 := h1.c5
  have c6 := h1.c6
  have r0 := hR.cell 0
  have r1 := hR.cell 1
  have r2 := hR.cell 2
  have r3 := hR.cell 3
  have r4 := hR.cell 4
  have r5 := hR.cell 5
  simp at r0 r1 r2 r3 r4 r5
  have f0 := hR.free 0
  have f1 := hR.free 1
  have f2 := hR.free 2
  have f3 := hR.free 3
  have f4 := hR.free 4
  have f5 := hR.free 5
  clear h h1
  go_enter Try.func38, Try.ntmps38
  go_wp2_with fail
  rw [← hw1]
  clear hw1
  go_region
  go_wp2
  exact bodyPost_ret (fra_results rfl ((put6_cel hR (.bool false) (.bool false) (.int .i64 K) (.int .i64 H) (.int .i64 q) (.slice a n c)).draws 1)) rfl ⟨rfl, (put6_below b1 (Nat.le_refl _) _ _ _ _ _ _).trans (drewN_below _ 1)⟩
end Go.Proofs.Ytdpjjhbfhlmolaa.Fop

/-
  The walks of package tcframe's bit and Valid, and of the reference's Valid.
-/
namespace Go.Proofs.Ytdpjjhbfhlmolaa.Tcf
open Go.RowKit Go.Proofs.Ytdpjjhbfhlmolaa.Pac

theorem ok_bad {byp con : Bool} {cr ch sq : Int} {l : List Byte} (h : cr < 0 ∨ 1023 < cr ∨ ch < 0 ∨ 7 < ch ∨ sq < 0 ∨ 255 < sq ∨ l.length = 0 ∨ 1017 < l.length) : Fr.ok ⟨byp, con, cr, ch, sq, l⟩ = false :=
  Fr.ok_no (fun ⟨h1, h2, h3, h4, h5, h6, h7, h8⟩ => by simp only at h1 h2 h3 h4 h5 h6 h7 h8; omega)

set_option maxHeartbeats 2000000 in
theorem tvalid_any (byp con : Bool) (cr ch sq : Int) (a : Option Addr) (l : List Byte) (n c : Nat) (w : World) (hl : Hid (l.length = n)) (hm : n ≤ maxLen) :
    Calls Try.prog 37 #[.agg #[.bool byp, .bool con, .int .i64 cr, .int .i64 ch, .int .i64 sq, .slice a n c]] w fun e w' => e = .returned (.bool (Fr.ok ⟨byp, con, cr, ch, sq, l⟩)) ∧ Below w.heap.size w w' := by
  have hln := hl.out
  have hm' : n ≤ 9223372036854775807 := by unfold maxLen at hm; omega
  by_cases h1 : cr < 0
  · rw [ok_bad (by simp only [hln]; omega)]
    clear hl hm hln
    go_enter Try.func37, Try.ntmps37
    go_wp2
    go_ret
    exact ⟨rfl, bel_new _ _⟩
  have p1 : 0 ≤ cr := by omega
  clear h1
  by_cases h2 : 1023 < cr
  · rw [ok_bad (by simp only [hln]; omega)]
    clear hl hm hln
    go_enter Try.func37, Try.ntmps37
    go_wp2
    go_ret
    exact ⟨rfl, bel_new _ _⟩
  have p2 : cr ≤ 1023 := by omega
  clear h2
  by_cases h3 : ch < 0
  · rw [ok_bad (by simp only [hln]; omega)]
    clear hl hm hln
    go_enter Try.func37, Try.ntmps37
    go_wp2
    go_ret
    exact ⟨rfl, bel_new _ _⟩
  have p3 : 0 ≤ ch := by omega
  clear h3
  by_cases h4 : 7 < ch
  · rw [ok_bad (by simp only [hln]; omega)]
    clear hl hm hln
    go_enter Try.func37, Try.ntmps37
    go_wp2
    go_ret
    exact ⟨rfl, bel_new _ _⟩
  have p4 : ch ≤ 7 := by omega
  clear h4
  by_cases h5 : sq < 0
  · rw [ok_bad (by simp only [hln]; omega)]
    clear hl hm hln
    go_enter Try.func37, Try.ntmps37
    go_wp2
    go_ret
    exact ⟨rfl, bel_new _ _⟩
  have p5 : 0 ≤ sq := by omega
  clear h5
  by_cases h6 : 255 < sq
  · rw [ok_bad (by simp only [hln]; omega)]
    clear hl hm hln
    go_enter Try.func37, Try.ntmps37
    go_wp2
    go_ret
    exact ⟨rfl, bel_new _ _⟩
  have p6 : sq ≤ 255 := by omega
  clear h6
  by_cases h7 : n = 0
  · rw [ok_bad (by simp only [hln]; omega)]
    clear hl hm hln
    subst h7
    go_enter Try.func37, Try.ntmps37
    go_wp2
    go_ret
    exact ⟨rfl, bel_new _ _⟩
  have p7 : 1 ≤ n := by omega
  clear h7
  by_cases h8 : 1017 < n
  · rw [ok_bad (by simp only [hln]; omega)]
    clear hl hm hln
    have g1 : decide ((1017 : Int) < (n : Int)) = true := by simp; omega
    have g2 : decide (1017 < n) = true := by simp; omega
    have g3 : decide ((n : Int) < 1) = false := by simp; omega
    have g4 : decide (n < 1) = false := by simp; omega
    go_enter Try.func37, Try.ntmps37
    go_wp2
    go_ret
    exact ⟨rfl, bel_new _ _⟩
  have p8 : n ≤ 1017 := by omega
  clear h8
  have hF : Fr.Fits ⟨byp, con, cr, ch, sq, l⟩ := ⟨p1, p2, p3, p4, p5, p6, by rw [hln]; exact p7, by rw [hln]; exact p8⟩
  have g1 : decide ((1017 : Int) < (n : Int)) = false := by simp; omega
  have g2 : decide (1017 < n) = false := by simp; omega
  have g3 : decide ((n : Int) < 1) = false := by simp; omega
  have g4 : decide (n < 1) = false := by simp; omega
  rw [Fr.ok_yes hF]
  clear hl hm hln hF p7 p8
  cases byp with
  | true =>
    go_enter Try.func37, Try.ntmps37
    go_wp2
    go_ret
    exact ⟨rfl, bel_new _ _⟩
  | false =>
    go_enter Try.func37, Try.ntmps37
    go_wp2
    go_ret
    exact ⟨ret_bool (by simp), bel_new _ _⟩

end Go.Proofs.Ytdpjjhbfhlmolaa.Tcf

/-
  The walks of the program's own checksums: a step, a byte string.
-/
namespace Go.Proofs.Ytdpjjhbfhlmolaa
open Go.RowKit


theorem sh16_hi (r : BitVec 16) (h : r.getLsbD 15 = true) : (bits .and .u16 (r.toNat : Int) 32768 != 0) = true ∧ bits .xor .u16 (IntKind.u16.wrap ((r.toNat : Int) * 2)) 4129 = ((sh16 r).toNat : Int) := by
  have e1 := b16_and r 0x8000#16
  have e2 := b16_xor (r <<< 1) 0x1021#16
  rw [and_top, h] at e1
  constructor
  · rw [show (32768 : Int) = ((0x8000#16).toNat : Int) from rfl, e1]; rfl
  · rw [b16_shl1, show (4129 : Int) = ((0x1021#16).toNat : Int) from rfl, e2, sh16, if_pos h]
theorem sh16_lo (r : BitVec 16) (h : r.getLsbD 15 = false) : (bits .and .u16 (r.toNat : Int) 32768 != 0) = false ∧ IntKind.u16.wrap ((r.toNat : Int) * 2) = ((sh16 r).toNat : Int) := by
  have e1 := b16_and r 0x8000#16
  rw [and_top, h] at e1
  constructor
  · rw [show (32768 : Int) = ((0x8000#16).toNat : Int) from rfl, e1]; rfl
  · rw [b16_shl1, sh16, if_neg (by rw [h]; decide)]

theorem in16 (r : BitVec 16) (x : Byte) : bits .xor .u16 (r.toNat : Int) ((x.toNat : Int) * 256) = ((r ^^^ (x.setWidth 16 <<< 8)).toNat : Int) := by
  rw [← b16_xor]
  congr 1
  have := x.isLt
  rw [BitVec.toNat_shiftLeft, BitVec.toNat_setWidth, Nat.shiftLeft_eq]
  show (x.toNat : Int) * 256 = ((x.toNat % 65536 * 256 % 65536 : Nat) : Int)
  omega

end Go.Proofs.Ytdpjjhbfhlmolaa

/-
  The walks of the program's CRC-32C: a step, a byte string.
-/
namespace Go.Proofs.Ytdpjjhbfhlmolaa
open Go.RowKit

theorem sh32_hi (r : BitVec 32) (h : r.getLsbD 0 = true) : (bits .and .u32 (r.toNat : Int) 1 != 0) = true ∧ bits .xor .u32 ((r.toNat : Int) / 2) 2197175160 = ((sh32 r).toNat : Int) := by
  have e1 := b32_and r 1#32
  have e2 := b32_xor (r >>> 1) 0x82f63b78#32
  rw [and_low, h] at e1
  constructor
  · rw [show (1 : Int) = ((1#32).toNat : Int) from rfl, e1]; rfl
  · rw [b32_shr1, show (2197175160 : Int) = ((0x82f63b78#32).toNat : Int) from rfl, e2, sh32, if_pos h]
theorem sh32_lo (r : BitVec 32) (h : r.getLsbD 0 = false) : (bits .and .u32 (r.toNat : Int) 1 != 0) = false ∧ (r.toNat : Int) / 2 = ((sh32 r).toNat : Int) := by
  have e1 := b32_and r 1#32
  rw [and_low, h] at e1
  constructor
  · rw [show (1 : Int) = ((1#32).toNat : Int) from rfl, e1]; rfl
  · rw [b32_shr1, sh32, if_neg (by rw [h]; decide)]

theorem in32 (r : BitVec 32) (x : Byte) : bits .xor .u32 (r.toNat : Int) (x.toNat : Int) = ((r ^^^ x.setWidth 32).toNat : Int) := by
  rw [← b32_xor]
  congr 1

end Go.Proofs.Ytdpjjhbfhlmolaa

/-
  The walks of the program's sums, of Append16 and of Check16.
-/
namespace Go.Proofs.Ytdpjjhbfhlmolaa
open Go.RowKit

theorem hi_byte (r : BitVec 16) : (r.toNat : Int) / 256 = (((r >>> 8).setWidth 8 : Byte).toNat : Int) := by
  have := r.isLt
  rw [BitVec.toNat_setWidth, BitVec.toNat_ushiftRight, Nat.shiftRight_eq_div_pow]
  omega
theorem lo_byte (r : BitVec 16) : (r.toNat : Int) % 256 = ((r.setWidth 8 : Byte).toNat : Int) := by
  rw [BitVec.toNat_setWidth]
  omega

theorem or_join (x y : Byte) : bits .or .u16 ((x.toNat : Int) * 256) (y.toNat : Int) = (x.toNat : Int) * 256 + (y.toNat : Int) := by
  have hx := x.isLt
  have hy := y.isLt
  have e := u16_or_nat (2 ^ 8 * x.toNat) y.toNat (by omega) (by omega)
  rw [← Nat.two_pow_add_eq_or_of_lt hy] at e
  rw [show (x.toNat : Int) * 256 = ((2 ^ 8 * x.toNat : Nat) : Int) by omega, e]
  omega
theorem crcb_iff (r : BitVec 16) (x y : Byte) : crcb r = [x, y] ↔ (r.toNat : Int) = (x.toNat : Int) * 256 + (y.toNat : Int) := by
  have h1 := hi_byte r
  have h2 := lo_byte r
  have hy := y.isLt
  unfold crcb
  constructor
  · intro h
    injection h with ha hb
    injection hb with hb
    rw [ha] at h1
    rw [hb] at h2
    omega
  · intro h
    have ea : (r >>> 8).setWidth 8 = x := BitVec.eq_of_toNat_eq (by omega)
    have eb : r.setWidth 8 = y := BitVec.eq_of_toNat_eq (by omega)
    rw [ea, eb]
theorem ck_eq (l : List Byte) (n : Nat) (hl : l.length = n + 2) :
    (((up16 0xffff#16 (l.take n)).toNat : Int) == bits .or .u16 ((l[n].toNat : Int) * 256) (l[n + 1].toNat : Int)) = ck16 l := by
  rw [or_join, Bool.eq_iff_iff, beq_iff_eq, ← crcb_iff]
  have hs : l = l.take n ++ [l[n], l[n + 1]] := by
    have h1 := List.take_append_drop n l
    have h2 : l.drop n = [l[n], l[n + 1]] := by
      rw [List.drop_eq_getElem_cons (by omega), List.drop_eq_getElem_cons (by omega), List.drop_of_length_le (by omega)]
    rw [h2] at h1
    exact h1.symm
  unfold ck16 ap16
  rw [decide_eq_true_iff, show l.length - 2 = n by omega]
  constructor
  · intro h; exact ⟨by omega, by rw [h]; exact hs.symm⟩
  · rintro ⟨_, h⟩
    rw [hs] at h
    rw [List.take_left' (by rw [List.length_take]; omega)] at h
    exact List.append_cancel_left h

end Go.Proofs.Ytdpjjhbfhlmolaa

/-
  The walk of package tcframe's Encode.
-/
namespace Go.Proofs.Ytdpjjhbfhlmolaa.Tcf
open Go.RowKit Go.Proofs.Ytdpjjhbfhlmolaa.Pac

end Go.Proofs.Ytdpjjhbfhlmolaa.Tcf

/-
  The Reader of package bits beside a frame's block as one state; the walk of package tcframe's readHeader.
-/
namespace Go.Proofs.Ytdpjjhbfhlmolaa.Tcf
open Go.RowKit Go.Proofs.Ytdpjjhbfhlmolaa.Pac

end Go.Proofs.Ytdpjjhbfhlmolaa.Tcf

/-
  The walk of package tcframe's Decode.
-/
namespace Go.Proofs.Ytdpjjhbfhlmolaa.Tcf
open Go.RowKit Go.Proofs.Ytdpjjhbfhlmolaa.Pac

theorem bel_drewN (B : Nat) (w : World) (k : Nat) : Below B w (w.drewN k) := ⟨rfl, rfl, rfl, Nat.le_refl _, fun _ _ => rfl⟩

end Go.Proofs.Ytdpjjhbfhlmolaa.Tcf

/-
  The walks of package tcframe's control, Unlock, SetNext.
-/
namespace Go.Proofs.Ytdpjjhbfhlmolaa.Tcf
open Go.RowKit Go.Proofs.Ytdpjjhbfhlmolaa.Pac

theorem Bs.adds {w : World} {B b off : Nat} {l : List Byte} (h : Bs w B (some ⟨b, off, none⟩) l) : ∀ j u, (l.map B8)[j]? = some u → w.cell? ((⟨b, off, none⟩ : Addr).add j) = some u := fun j u hu => by
  rw [List.getElem?_map] at hu
  cases hx : l[j]? with
  | none => rw [hx] at hu; cases hu
  | some x =>
    rw [hx] at hu
    injection hu with hu
    subst hu
    have hj := (List.getElem?_eq_some_iff.1 hx).1
    obtain ⟨b', off', he, _, hc⟩ := h (by omega)
    injection he with he
    injection he with e1 e2
    subst e1 e2
    by_cases h0 : j = 0
    · subst h0; simpa [Addr.add] using hc 0 x hx
    · simpa [Addr.add, h0] using hc j x hx

theorem tco_results {tmps : Array Value} {W : World} {g : Nat} {byp con : Bool} {cr ch sq : Int} {v : Value} (h2 : tmps.getD 6 undef = .pointer (some ⟨g, 0, none⟩))
    (hC : Cel W g 43 #[.bool byp, .bool con, .int .i64 cr, .int .i64 ch, .int .i64 sq, v]) :
    (results Try.f66 tmps).run Try.prog W = .ok (.agg #[.bool byp, .bool con, .int .i64 cr, .int .i64 ch, .int .i64 sq, v]) W := by
  have c0 := hC.cell 0
  have c1 := hC.cell 1
  have c2 := hC.cell 2
  have c3 := hC.cell 3
  have c4 := hC.cell 4
  have c5 := hC.cell 5
  simp at c0 c1 c2 c3 c4 c5
  simp only [Array.getD_eq_getD_getElem?] at h2
  simp [results, Try.results66, go_sem, h2, c0, c1, c2, c3, c4, c5]
theorem tun_results {tmps : Array Value} {W : World} {g : Nat} {byp con : Bool} {cr ch sq : Int} {v : Value} (h2 : tmps.getD 4 undef = .pointer (some ⟨g, 0, none⟩))
    (hC : Cel W g 43 #[.bool byp, .bool con, .int .i64 cr, .int .i64 ch, .int .i64 sq, v]) :
    (results Try.f57 tmps).run Try.prog W = .ok (.agg #[.bool byp, .bool con, .int .i64 cr, .int .i64 ch, .int .i64 sq, v]) W := by
  have c0 := hC.cell 0
  have c1 := hC.cell 1
  have c2 := hC.cell 2
  have c3 := hC.cell 3
  have c4 := hC.cell 4
  have c5 := hC.cell 5
  simp at c0 c1 c2 c3 c4 c5
  simp only [Array.getD_eq_getD_getElem?] at h2
  simp [results, Try.results57, go_sem, h2, c0, c1, c2, c3, c4, c5]
theorem tsn_results {tmps : Array Value} {W : World} {g : Nat} {byp con : Bool} {cr ch sq : Int} {v : Value} (h2 : tmps.getD 6 undef = .pointer (some ⟨g, 0, none⟩))
    (hC : Cel W g 43 #[.bool byp, .bool con, .int .i64 cr, .int .i64 ch, .int .i64 sq, v]) :
    (results Try.f58 tmps).run Try.prog W = .ok (.agg #[.bool byp, .bool con, .int .i64 cr, .int .i64 ch, .int .i64 sq, v]) W := by
  have c0 := hC.cell 0
  have c1 := hC.cell 1
  have c2 := hC.cell 2
  have c3 := hC.cell 3
  have c4 := hC.cell 4
  have c5 := hC.cell 5
  simp at c0 c1 c2 c3 c4 c5
  simp only [Array.getD_eq_getD_getElem?] at h2
  simp [results, Try.results58, go_sem, h2, c0, c1, c2, c3, c4, c5]

set_option maxHeartbeats 400000 in
theorem tcontrol_any (cr ch : Int) (A : Option Addr) (n c : Nat) (w : World) :
    Calls Try.prog 66 #[.int .i64 cr, .int .i64 ch, .slice A n c] w fun e w' => e = .returned (.agg #[.bool true, .bool true, .int .i64 cr, .int .i64 ch, .int .i64 0, .slice A n c]) ∧ Below w.heap.size w w' := by
  have hR := Cel.new w 43 #[.bool true, .bool true, .int .i64 cr, .int .i64 ch, .int .i64 0, .slice A n c]
  have b0 := bel_new w (.cells #[.bool true, .bool true, .int .i64 cr, .int .i64 ch, .int .i64 0, .slice A n c] 43)
  go_enter Try.func66, Try.ntmps66
  go_wp2
  exact bodyPost_ret (tco_results rfl hR) rfl ⟨rfl, b0⟩

set_option maxHeartbeats 1000000 in
theorem tunlock_any (cr ch : Int) (w : World) :
    Calls Try.prog 57 #[.int .i64 cr, .int .i64 ch] w fun e w' => ∃ A c, e = .returned (.agg #[.bool true, .bool true, .int .i64 cr, .int .i64 ch, .int .i64 0, .slice A 1 c]) ∧ Rd w' A [0#8] 1 c ∧ Below w.heap.size w w' := by
  have kc : (convert 33 33 (.slice (some ⟨w.heap.size + 1, 0, none⟩) 1 1)).run Try.prog ((w.alloc (.cells #[.bool false, .bool false, .int .i64 0, .int .i64 0, .int .i64 0, .slice none 0 0] 43)).alloc (.cells #[.int .u8 0] 5)) = .ok (.slice (some ⟨w.heap.size + 1, 0, none⟩) 1 1) ((w.alloc (.cells #[.bool false, .bool false, .int .i64 0, .int .i64 0, .int .i64 0, .slice none 0 0] 43)).alloc (.cells #[.int .u8 0] 5 (1, 2))) := by
    have h := Lib.run_convert_bytes_const (P := Try.prog) (w.alloc (.cells #[.bool false, .bool false, .int .i64 0, .int .i64 0, .int .i64 0, .slice none 0 0] 43)) 33 5 #[.int .u8 0] 1 1 Try.underlying33 Try.underlying5
    rw [show (w.alloc (.cells #[.bool false, .bool false, .int .i64 0, .int .i64 0, .int .i64 0, .slice none 0 0] 43)).heap.size = w.heap.size + 1 by simp] at h
    exact h
  obtain ⟨W0, hW0⟩ : ∃ W0, W0 = w.alloc (.cells #[.bool false, .bool false, .int .i64 0, .int .i64 0, .int .i64 0, .slice none 0 0] 43) := ⟨_, rfl⟩
  have hR0 : Cel W0 w.heap.size 43 #[.bool false, .bool false, .int .i64 0, .int .i64 0, .int .i64 0, .slice none 0 0] := by rw [hW0]; exact Cel.new _ _ _
  have b0 : Below w.heap.size w W0 := by rw [hW0]; exact bel_new _ _
  have hs0 : W0.heap.size = w.heap.size + 1 := by rw [hW0]; simp
  obtain ⟨W1, hW1⟩ : ∃ W1, W1 = W0.alloc (.cells #[.int .u8 0] 5 (1, 2)) := ⟨_, rfl⟩
  have hR1 : Cel W1 w.heap.size 43 #[.bool false, .bool false, .int .i64 0, .int .i64 0, .int .i64 0, .slice none 0 0] := by rw [hW1]; exact Cel.later hR0 (bel_new _ _)
  have b1 : Below w.heap.size w W1 := by rw [hW1]; exact b0.alloc b0.size _
  have hD : Rd W1 (some ⟨w.heap.size + 1, 0, none⟩) [0#8] 1 1 := by
    rw [hW1, ← hs0]
    exact ⟨rfl, Bs_new _ _ _ _ (by simp) _ (by simp) _, (fun h => nomatch h), by decide, by decide⟩
  have hco := tcontrol_any cr ch (some ⟨w.heap.size + 1, 0, none⟩) 1 1 W1
  rw [hW1, hW0] at hco
  rw [hW0] at hW1
  clear hs0 hR0 b0 hW0
  go_enter Try.func57, Try.ntmps57
  go_wp2_with fail
  refine hco.mono ?_
  rw [← hW1]
  rintro e w2 ⟨rfl, h2⟩
  have hR2 := Cel.later hR1 h2
  have b2 := b1.trans (h2.mono b1.size)
  have hD2 := hD.later h2
  have f0 := hR2.free 0
  have f1 := hR2.free 1
  have f2 := hR2.free 2
  have f3 := hR2.free 3
  have f4 := hR2.free 4
  have f5 := hR2.free 5
  have c0 := hR2.cell 0
  have c1 := hR2.cell 1
  have c2 := hR2.cell 2
  have c3 := hR2.cell 3
  have c4 := hR2.cell 4
  have c5 := hR2.cell 5
  simp at c0 c1 c2 c3 c4 c5
  clear hco
  go_wp2
  refine bodyPost_ret (tun_results rfl (putAll_cel hR2 true true cr ch 0 (.slice (some ⟨w.heap.size + 1, 0, none⟩) 1 1))) rfl ⟨_, _, rfl, ?_, putAll_below b2 (Nat.le_refl _) _ _ _ _ _ _⟩
  exact hD2.only (putAll_only _ _ _ _ _ _ _ _) (by simp)

set_option maxHeartbeats 400000 in
theorem tsetNext_no (cr ch x : Int) (w : World) (hx : x < 0 ∨ 255 < x) :
    Calls Try.prog 58 #[.int .i64 cr, .int .i64 ch, .int .i64 x] w fun e w' => e = .returned (.agg #[.bool false, .bool false, .int .i64 0, .int .i64 0, .int .i64 0, .slice none 0 0]) ∧ Below w.heap.size w w' := by
  have hR := Cel.new w 43 #[.bool false, .bool false, .int .i64 0, .int .i64 0, .int .i64 0, .slice none 0 0]
  have b0 := bel_new w (.cells #[.bool false, .bool false, .int .i64 0, .int .i64 0, .int .i64 0, .slice none 0 0] 43)
  rcases hx with hx | hx
  · have g1 : decide (x < 0) = true := by simpa using hx
    go_enter Try.func58, Try.ntmps58
    go_wp2
    exact bodyPost_ret (tsn_results rfl hR) rfl ⟨rfl, b0⟩
  · have g1 : decide (x < 0) = false := by simp; omega
    have g2 : decide (255 < x) = true := by simpa using hx
    go_enter Try.func58, Try.ntmps58
    go_wp2
    exact bodyPost_ret (tsn_results rfl hR) rfl ⟨rfl, b0⟩

set_option maxHeartbeats 1000000 in
theorem tsetNext_yes (cr ch : Int) (z : Byte) (w : World) :
    Calls Try.prog 58 #[.int .i64 cr, .int .i64 ch, .int .i64 (z.toNat : Int)] w fun e w' => ∃ A c, e = .returned (.agg #[.bool true, .bool true, .int .i64 cr, .int .i64 ch, .int .i64 0, .slice A 3 c]) ∧ Rd w' A [130#8, 0#8, z] 3 c ∧ Below w.heap.size w w' := by
  have kc : (convert 33 33 (.slice (some ⟨w.heap.size + 1, 0, none⟩) 2 2)).run Try.prog ((w.alloc (.cells #[.bool false, .bool false, .int .i64 0, .int .i64 0, .int .i64 0, .slice none 0 0] 43)).alloc (.cells #[.int .u8 130, .int .u8 0] 5)) = .ok (.slice (some ⟨w.heap.size + 1, 0, none⟩) 2 2) ((w.alloc (.cells #[.bool false, .bool false, .int .i64 0, .int .i64 0, .int .i64 0, .slice none 0 0] 43)).alloc (.cells #[.int .u8 130, .int .u8 0] 5 (2, 3))) := by
    have h := Lib.run_convert_bytes_const (P := Try.prog) (w.alloc (.cells #[.bool false, .bool false, .int .i64 0, .int .i64 0, .int .i64 0, .slice none 0 0] 43)) 33 5 #[.int .u8 130, .int .u8 0] 2 2 Try.underlying33 Try.underlying5
    rw [show (w.alloc (.cells #[.bool false, .bool false, .int .i64 0, .int .i64 0, .int .i64 0, .slice none 0 0] 43)).heap.size = w.heap.size + 1 by simp] at h
    exact h
  have hz := z.isLt
  have hz2 : (0 : Int) ≤ (z.toNat : Int) := by omega
  have hz3 : (z.toNat : Int) ≤ 255 := by omega
  have hz4 : IntKind.u8.wrap (z.toNat : Int) = (z.toNat : Int) := by rw [IntKind.wrap_u8]; omega
  obtain ⟨Z, hZ⟩ : ∃ Z : Int, Z = (z.toNat : Int) := ⟨_, rfl⟩
  rw [← hZ] at hz2 hz3 hz4 ⊢
  have g1 : decide (Z < 0) = false := by simp; omega
  have g2 : decide (255 < Z) = false := by simp; omega
  obtain ⟨hu, _, i0, hi, hz0, hz1, hzb⟩ := is_bytes
  have hR0 := Cel.new w 43 #[.bool false, .bool false, .int .i64 0, .int .i64 0, .int .i64 0, .slice none 0 0]
  have b0 := bel_new w (.cells #[.bool false, .bool false, .int .i64 0, .int .i64 0, .int .i64 0, .slice none 0 0] 43)
  have s0 : (w.alloc (.cells #[.bool false, .bool false, .int .i64 0, .int .i64 0, .int .i64 0, .slice none 0 0] 43)).heap.size = w.heap.size + 1 := by simp
  have d1 : Bs ((w.alloc (.cells #[.bool false, .bool false, .int .i64 0, .int .i64 0, .int .i64 0, .slice none 0 0] 43)).alloc (.cells #[.int .u8 130, .int .u8 0] 5 (2, 3))) (w.heap.size + 2) (some ⟨w.heap.size + 1, 0, none⟩) [130#8, 0#8] := by
    rw [← s0]; exact Bs_new _ _ _ _ (by simp) _ (by simp) _
  have s1 : ((w.alloc (.cells #[.bool false, .bool false, .int .i64 0, .int .i64 0, .int .i64 0, .slice none 0 0] 43)).alloc (.cells #[.int .u8 130, .int .u8 0] 5 (2, 3))).heap.size = w.heap.size + 1 + 1 := by simp
  have d2 : Bs (((w.alloc (.cells #[.bool false, .bool false, .int .i64 0, .int .i64 0, .int .i64 0, .slice none 0 0] 43)).alloc (.cells #[.int .u8 130, .int .u8 0] 5 (2, 3))).alloc (.cells #[.int .u8 Z] 5)) (w.heap.size + 3) (some ⟨w.heap.size + 1 + 1, 0, none⟩) [z] := by
    rw [← s1]; exact Bs_new _ _ _ _ (by rw [hZ]; rfl) _ (by simp) _
  have b1 : Below w.heap.size w ((w.alloc (.cells #[.bool false, .bool false, .int .i64 0, .int .i64 0, .int .i64 0, .slice none 0 0] 43)).alloc (.cells #[.int .u8 130, .int .u8 0] 5 (2, 3))) := b0.alloc b0.size _
  have hR1 := Cel.later hR0 (bel_new (w.alloc (.cells #[.bool false, .bool false, .int .i64 0, .int .i64 0, .int .i64 0, .slice none 0 0] 43)) (.cells #[.int .u8 130, .int .u8 0] 5 (2, 3)))
  obtain ⟨W1, hW1⟩ : ∃ W1, W1 = (w.alloc (.cells #[.bool false, .bool false, .int .i64 0, .int .i64 0, .int .i64 0, .slice none 0 0] 43)).alloc (.cells #[.int .u8 130, .int .u8 0] 5 (2, 3)) := ⟨_, rfl⟩
  rw [← hW1] at d1 s1 d2 b1 hR1
  have k2 := bel_new W1 (.cells #[.int .u8 Z] 5)
  have d1' : Bs (W1.alloc (.cells #[.int .u8 Z] 5)) (w.heap.size + 2) (some ⟨w.heap.size + 1, 0, none⟩) [130#8, 0#8] := by
    refine d1.keep fun p hp => ?_
    exact k2.cell (p := p) (by omega)
  have b2 := b1.trans (k2.mono b1.size)
  have hR2 := Cel.later hR1 k2
  obtain ⟨W2, hW2⟩ : ∃ W2, W2 = W1.alloc (.cells #[.int .u8 Z] 5) := ⟨_, rfl⟩
  rw [← hW2] at d1' d2 b2 hR2
  rw [hW1] at hW2
  have e1 := Bs.adds d1'
  have e2 := Bs.adds d2
  have HZ := Lib.hid hZ
  clear hZ d1 d2 d1' hR1 b1 k2 hW1 hR0 b0 s0 s1 hz
  go_enter Try.func58, Try.ntmps58
  go_wp2_with (first
    | (at_builtin; rw [← hW2]; refine wpList_append_grows _ rfl (.tmp 17) (.tmp 20) 33 rfl 5 i0 _ 1 1 hu hi hz0 hz1 hzb rfl (by decide) (some ⟨w.heap.size + 1, 0, none⟩) 2 2 ([130#8, 0#8].map B8) rfl (fun h => nomatch h) rfl (fun b hb => by injection hb with hb; subst hb; exact e1) ⟨w.heap.size + 1 + 1, 0, none⟩ 1 1 ([z].map B8) rfl rfl e2 (B8_one _) (by decide) (by decide) (by decide) ?_; intro v3 w3 hown3 hgr3))
  have o3 : Ow w3 W2.heap.size 5 v3 [130#8, 0#8, z] := hown3
  obtain ⟨gr, c9, hv3, hgr, _⟩ := o3.form_len (m := 2) rfl
  have hv3' : v3 = .slice (some ⟨gr, 0, none⟩) 3 c9 := hv3
  subst hv3'
  obtain ⟨A', c', he, hD3⟩ := Rd.of o3 rfl
  injection he with q1 q2 q3
  subst q1 q3
  have b3 := b2.trans ((Only.of_grown hgr3).below b2.size (by simp))
  have hR3 := hR2.only (Only.of_grown hgr3) (by simp)
  have hne : gr ≠ w.heap.size := by have := hR2.lt; omega
  clear hown3 hgr3 hR2 b2 e1 e2 o3 hW2
  refine (tcontrol_any cr ch (some ⟨gr, 0, none⟩) 3 c9 w3).mono ?_
  rintro e w4 ⟨rfl, h4⟩
  have hR4 := Cel.later hR3 h4
  have b4 := b3.trans (h4.mono b3.size)
  have hD4 := hD3.later h4
  have f0 := hR4.free 0
  have f1 := hR4.free 1
  have f2 := hR4.free 2
  have f3 := hR4.free 3
  have f4 := hR4.free 4
  have f5 := hR4.free 5
  have c0 := hR4.cell 0
  have c1 := hR4.cell 1
  have c2 := hR4.cell 2
  have c3 := hR4.cell 3
  have c4 := hR4.cell 4
  have c5 := hR4.cell 5
  simp at c0 c1 c2 c3 c4 c5
  go_wp2
  exact bodyPost_ret (tsn_results rfl (putAll_cel hR4 true true cr ch 0 (.slice (some ⟨gr, 0, none⟩) 3 c9))) rfl ⟨_, _, rfl, hD4.only (putAll_only _ _ _ _ _ _ _ _) (by simpa using hne), putAll_below b4 (Nat.le_refl _) _ _ _ _ _ _⟩
end Go.Proofs.Ytdpjjhbfhlmolaa.Tcf

/-
  Package fop: launch, acknowledge, progress, hold, repeat, control.
-/
namespace Go.Proofs.Ytdpjjhbfhlmolaa.Fop
open Go.RowKit
open Pac (bel_new Cel.later)
open Tcf (Fr tunlock_any tsetNext_yes)
open Strs (So)

/-! ### launch -/
/-- '[]byte(s)' -/
theorem conv_bytes (l : List Byte) (n : Nat) (hn : l.length = n) (hl : n ≤ 2000) (w : World) :
    ∃ c W, (convert 9 33 (.string (str l))).run Try.prog w = .ok (.slice (some ⟨w.heap.size, 0, none⟩) n c) W ∧ Rd W (some ⟨w.heap.size, 0, none⟩) l n c ∧ Below w.heap.size w W := by
  have hsz : (str l).size = n := by rw [← hn]; simp [str, ByteArray.size]
  have h1 := Lib.run_convert_string_bytes (P := Try.prog) w 9 33 5 (str l) Try.underlying9 Try.underlying33 Try.underlying5
  have h2 := grownCap_ge w (str l).size 0 5
  have h3 := grownCap_le_maxLen w (str l).size 0 5 (by rw [hsz]; unfold maxLen; omega)
  refine ⟨grownCap w (str l).size 0 5, Lib.bytesWorld w 5 (str l), by rw [h1, hsz], ?_, ?_⟩
  · refine ⟨hn, fun _ => ⟨w.heap.size, 0, rfl, by rw [Lib.bytesWorld_size]; omega, fun i x hx => ?_⟩, (fun h => nomatch h), by rw [← hsz]; exact h2, h3⟩
    have hi := (List.getElem?_eq_some_iff.1 hx).1
    rw [Nat.zero_add, Lib.bytesWorld_cell w _ _ i (by rw [hsz]; omega)]
    have : (str l).data.toList.getD i 0 = UInt8.ofBitVec x := by
      simp [str, List.getD, hx]
    rw [this]
    rfl
  · refine ⟨?_, ?_, ?_, by rw [Lib.bytesWorld_size]; omega, fun k hk => Lib.bytesWorld_at_old w _ _ k hk⟩
    all_goals simp [Lib.bytesWorld, World.freeze, World.alloc, World.drew, -World.alloc_eq, -World.drew_eq]

/-- a conversion whose run is known, in a region -/
theorem step_conv {P : Program} (w : World) {ops : Array Oper} {o : Oper} {a : Act} {K : Act → World → Prop} {Q : Exit → Act → World → Prop} {E : Prop} (hgd : o.guard = none) (x : Operand) (src dst : TypeId)
    (ho : o.op = .convert src dst x) {v v' : Value} {w' : World} (hx : a.eval x = v) (hr : (convert src dst v).run P w = .ok v' w') (h : K (a.put o.dst v') w') :
    if Region.wanted o (yielded ops a.tmps) = true then Oper.wp P o a w K Q else E := by
  have hw : Region.wanted o (yielded ops a.tmps) = true := by simp [Region.wanted, hgd]
  rw [if_pos hw]
  unfold Oper.wp execOp
  simp only [ho, hx, Sem.run_bind, hr, Result.andThen_ok, Sem.run_pure]
  exact h

set_option maxRecDepth 100000 in
set_option maxHeartbeats 4000000 in
theorem launch_any (F n : Nat) (l : List Byte) (w : World) (B g : Nat) (v : Value) (K' H W T R : Int) (s : Fs) (h : FW w B g v K' H W T R s) (hF : s.fl = (F : Int)) (hl : s.us[F]? = some l) (hn : l.length = n) (hm : n ≤ 1017) (hc : ¬ 0 < s.ct) :
    Calls Try.prog 43 #[.pointer (some ⟨g, 0, none⟩)] w fun e w' => (∃ b' c', e = .returned (.tuple #[.int .i64 ((s.ac + s.fl) % 256), .slice (some ⟨b', 0, none⟩) n c']) ∧ Rd w' (some ⟨b', 0, none⟩) l n c' ∧ w.heap.size ≤ b') ∧ FW w' B g v K' H W T R { s with fl := s.fl + 1, fr := max s.fr (s.fl + 1) } ∧ Only [g] w w' := by
  have hFl := (List.getElem?_eq_some_iff.1 hl).1
  have hok2 := fly_ok h.ok (by omega) hc
  have hok3 : ({ s with fl := s.fl + 1, fr := max s.fr (s.fl + 1) } : Fs).Ok R := ⟨hok2.f0, hok2.f1, hok2.f2, hok2.u, hok2.a0, hok2.s1, hok2.s4, hok2.c0, hok2.c2, hok2.cf, hok2.r0, hok2.r1, h.ok.t0, h.ok.t1, h.ok.n1, h.ok.ul⟩
  have hFu := h.ok.u
  obtain ⟨U, hU⟩ : ∃ U, s.us.length = U := ⟨_, rfl⟩
  rw [hU] at hFl hFu
  obtain ⟨A, c, rfl, hr, hnil, hUc, hcm⟩ := h.len hU
  obtain ⟨b, off, rfl, hb, hcell⟩ := hr (by omega)
  have cs := hcell F l hl 0 _ rfl
  rw [Nat.mul_one, Nat.add_zero] at cs
  have c1 := h.cel.c1
  have c2 := h.cel.c2
  have c3 := h.cel.c3
  rw [hF] at c2
  obtain ⟨X, hX⟩ : ∃ X, X = max s.fr (s.fl + 1) := ⟨_, rfl⟩
  have x1 : max s.fr ((F : Int) + 1) = X := by rw [hX, hF]
  have x2 : (if s.fr < (F : Int) + 1 then (F : Int) + 1 else s.fr) = X := by rw [hX, hF]; split <;> omega
  have f2 := h.cel.free 2
  have f3 := h.cel.free 3
  obtain ⟨fr, hfr⟩ : ∃ fr, fr = s.fr := ⟨_, rfl⟩
  rw [← hfr] at c3 x1 x2
  obtain ⟨G1, hG1⟩ : ∃ G1 : Int, G1 = (F : Int) + 1 := ⟨_, rfl⟩
  have q1 := (h.cel.fl ((F : Int) + 1)).fr X
  have hne : b ≠ g := fun e => by
    subst e
    exact Row.Os.apart h.row (t := 70) h.cel (by decide) rfl
  have hw64 : wrap64 ((F : Int) + 1) = (F : Int) + 1 := by unfold wrap64; omega
  have hFlt : F < U := hFl
  have hm2 : n ≤ 2000 := Nat.le_trans hm (by decide)
  have hFlt2 : (F : Int) < (U : Int) := Int.ofNat_lt.2 hFlt
  obtain ⟨W1, hW1⟩ : ∃ W1, W1 = ((w.setCell ⟨g, 2, none⟩ (.int .i64 ((F : Int) + 1))).setCell ⟨g, 3, none⟩ (.int .i64 X)).drew := ⟨_, rfl⟩
  have o1 : Only [g] w W1 := by rw [hW1]; exact ((put_only w g 2 _).put (p := ⟨g, 3, none⟩) (.inl (by simp)) _).drew
  have q2 : FC W1 g K' H W T R (.slice (some ⟨b, off, none⟩) U c) { s with fl := (F : Int) + 1, fr := X } := by rw [hW1]; exact q1.draws 1
  have e1 : W1.cell? ⟨g, 1, none⟩ = some (.slice (some ⟨b, off, none⟩) U c) := q2.c1
  have es : W1.cell? ⟨b, off + F, none⟩ = some (.string (str l)) := by
    have := o1.block b hb (by simpa using hne)
    unfold World.cell? at cs ⊢
    simp only at cs ⊢
    rw [this]
    exact cs
  have hX2 : ({ s with fl := (F : Int) + 1, fr := X } : Fs) = { s with fl := s.fl + 1, fr := max s.fr (s.fl + 1) } := by rw [hX, hF]
  rw [hX2] at q2
  have HF2 := Lib.hid (h.self o1 q2 rfl hok3)
  have xa := fun W' => add_any (s.ac % 256) (F : Int) 8 W'
  have hQ : sadd (s.ac % 256) (F : Int) 8 = (s.ac + s.fl) % 256 := by rw [add_unit, hF]
  have xf := fun W' (hh : FC W' g K' H W T R (.slice (some ⟨b, off, none⟩) U c) { s with fl := s.fl + 1, fr := max s.fr (s.fl + 1) }) => first_any W' g _ K' H W T R _ hh
  obtain ⟨Q1, hQ1⟩ : ∃ Q1, Q1 = s.ac % 256 := ⟨_, rfl⟩
  obtain ⟨Q2, hQ2⟩ : ∃ Q2, Q2 = (s.ac + s.fl) % 256 := ⟨_, rfl⟩
  simp only [hQ, ← hQ2] at xa
  rw [← hQ2]
  simp only [← hQ1] at xa xf
  have HQ := Lib.hid q2
  have HO1 := Lib.hid o1
  clear hok2 hok3 hX hfr hF h hr hcell hl hG1 hU hFl q1 q2 o1 hX2 hQ hQ1 hQ2
  have hbg : b < W1.heap.size := Nat.lt_of_lt_of_le hb HO1.out.size
  have hgg : g < W1.heap.size := HQ.out.lt
  go_enter Try.func43, Try.ntmps43
  go_wp2_with fail
  go_region
  go_wp2_with fail
  rw [← hW1]
  clear hW1 f2 f3 c1 c2 c3 cs x1 x2
  refine wp_region_held_drew (S := fun W => W.cell? ⟨g, 1, none⟩ = some (.slice (some ⟨b, off, none⟩) U c) ∧ W.cell? ⟨b, off + F, none⟩ = some (.string (str l))) (by kernel_rfl) (⟨e1, es⟩) (fun hHeld => ?_)
  refine wpAnyH_here 0 (v := ?_) rfl (by kernel_rfl) (by kernel_rfl) (by kernel_rfl) (fun _ _ _ h => h) (Or.inl ⟨by rfl, ?_⟩) hHeld ?_
  rotate_left
  · intro w hSw; (try dsimp only at hSw); go_simp; all_goals (with_reducible rfl)
  try simp only [Act.put, List.setIfInBounds_toArray, List.set_cons_zero, List.set_cons_succ]
  refine wpAnyH_here 2 (v := ?_) rfl (by kernel_rfl) (by kernel_rfl) (by kernel_rfl) (fun _ _ _ h => h) (Or.inl ⟨by rfl, ?_⟩) hHeld ?_
  rotate_left
  · intro w hSw; (try dsimp only at hSw); go_simp; all_goals (with_reducible rfl)
  try simp only [Act.put, List.setIfInBounds_toArray, List.set_cons_zero, List.set_cons_succ]
  refine wpAnyH_here 4 (v := ?_) rfl (by kernel_rfl) (by kernel_rfl) (by kernel_rfl) (fun _ _ _ h => h) (Or.inl ⟨by rfl, ?_⟩) hHeld ?_
  rotate_left
  · intro w hSw; (try dsimp only at hSw); go_simp; all_goals (with_reducible rfl)
  try simp only [Act.put, List.setIfInBounds_toArray, List.set_cons_zero, List.set_cons_succ]
  refine wpAnyH_here 5 (v := ?_) rfl (by kernel_rfl) (by kernel_rfl) (by kernel_rfl) (fun _ _ _ h => h) (Or.inl ⟨by rfl, ?_⟩) hHeld ?_
  rotate_left
  · intro w hSw; (try dsimp only at hSw); go_simp; all_goals (with_reducible rfl)
  try simp only [Act.put, List.setIfInBounds_toArray, List.set_cons_zero, List.set_cons_succ]
  refine wpAnyH_here 6 (v := ?_) rfl (by kernel_rfl) (by kernel_rfl) (by kernel_rfl) (fun _ _ _ h => h) (Or.inl ⟨by rfl, ?_⟩) hHeld ?_
  rotate_left
  · intro w hSw; (try dsimp only at hSw); go_simp; all_goals (with_reducible rfl)
  try simp only [Act.put, List.setIfInBounds_toArray, List.set_cons_zero, List.set_cons_succ]
  refine wpAnyH_here 7 (v := ?_) rfl (by kernel_rfl) (by kernel_rfl) (by kernel_rfl) (fun _ _ _ h => h) (Or.inl ⟨by rfl, ?_⟩) hHeld ?_
  rotate_left
  · intro w hSw; (try dsimp only at hSw); go_simp; all_goals (with_reducible rfl)
  try simp only [Act.put, List.setIfInBounds_toArray, List.set_cons_zero, List.set_cons_succ]
  refine wpAnyH_here 8 (v := ?_) rfl (by kernel_rfl) (by kernel_rfl) (by kernel_rfl) (fun _ _ _ h => h) (Or.inl ⟨by rfl, ?_⟩) hHeld ?_
  rotate_left
  · intro w hSw; (try dsimp only at hSw); go_simp; all_goals (with_reducible rfl)
  try simp only [Act.put, List.setIfInBounds_toArray, List.set_cons_zero, List.set_cons_succ]
  refine wpAnyH_here 9 (v := ?_) rfl (by kernel_rfl) (by kernel_rfl) (by kernel_rfl) (fun _ _ _ h => h) (Or.inl ⟨by rfl, ?_⟩) hHeld ?_
  rotate_left
  · intro w hSw; (try dsimp only at hSw); go_simp; all_goals (with_reducible rfl)
  try simp only [Act.put, List.setIfInBounds_toArray, List.set_cons_zero, List.set_cons_succ]
  refine wpAnyH_here 10 (v := ?_) rfl (by kernel_rfl) (by kernel_rfl) (by kernel_rfl) (fun _ _ _ h => h) (Or.inl ⟨by rfl, ?_⟩) hHeld ?_
  rotate_left
  · intro w hSw; (try dsimp only at hSw); go_simp; all_goals (with_reducible rfl)
  try simp only [Act.put, List.setIfInBounds_toArray, List.set_cons_zero, List.set_cons_succ]
  refine wpAnyH_both 1 11 rfl rfl (by kernel_rfl) (fun K hK => ?_) (fun K hK => ?_)
  · go_simp
    refine (xf _ (HQ.out.draws 1)).mono ?_
    rintro e w' ⟨rfl, rfl⟩
    refine hK.out _ _ ⟨e1, es⟩ (fun hHeld => ?_)
    clear hK K
    try simp only [Act.put, List.setIfInBounds_toArray, List.set_cons_zero, List.set_cons_succ]
    refine wpAnyH_both 3 11 rfl rfl (by kernel_rfl) (fun K hK => ?_) (fun K hK => ?_)
    · go_simp
      refine (xa _).mono ?_
      rintro e w' ⟨rfl, rfl⟩
      refine hK.out _ _ ⟨e1, es⟩ (fun hHeld => ?_)
      clear hK K
      try simp only [Act.put, List.setIfInBounds_toArray, List.set_cons_zero, List.set_cons_succ]
      refine wpAnyH_here 12 (v := ?_) rfl (by kernel_rfl) (by kernel_rfl) (by kernel_rfl) (fun _ _ _ h => h) (Or.inl ⟨by rfl, ?_⟩) hHeld ?_
      rotate_left
      · intro w hSw; (try dsimp only at hSw); go_simp; all_goals (with_reducible rfl)
      try simp only [Act.put, List.setIfInBounds_toArray, List.set_cons_zero, List.set_cons_succ]
      refine wpAnyH_alone 11 rfl (by kernel_rfl) (fun K hK => ?_)
      obtain ⟨c5, W5, hrun, hrd, hb5⟩ := conv_bytes l n hn hm2 (W1.drewN 1)
      refine step_conv _ rfl (.tmp 38) 9 33 rfl (v := .string (str l)) (by simp [Act.eval]) hrun ?_
      have hb6 : Below W1.heap.size W1 W5 := ⟨hb5.os, hb5.tape, hb5.output, hb5.size, hb5.block⟩
      have HQ5 := HQ.out.below hb6
      have s5 : W5.cell? ⟨g, 1, none⟩ = some (.slice (some ⟨b, off, none⟩) U c) ∧ W5.cell? ⟨b, off + F, none⟩ = some (.string (str l)) := ⟨(hb6.cell (p := ⟨g, 1, none⟩) hgg).trans e1, (hb6.cell (p := ⟨b, off + F, none⟩) hbg).trans es⟩
      refine hK.out _ _ s5 (fun hHeld => ?_)
      clear hK K
      try simp only [Act.put, List.setIfInBounds_toArray, List.set_cons_zero, List.set_cons_succ]
      refine wpAnyH_here 13 (v := ?_) rfl (by kernel_rfl) (by kernel_rfl) (by kernel_rfl) (fun _ _ _ h => h) (Or.inl ⟨by rfl, ?_⟩) hHeld ?_
      rotate_left
      · intro w hSw; (try dsimp only at hSw); go_simp; all_goals (with_reducible rfl)
      try simp only [Act.put, List.setIfInBounds_toArray, List.set_cons_zero, List.set_cons_succ]
      refine wpAnyH_done (by kernel_rfl) ?_ _
      go_wp2
      go_ret2
      exact ⟨⟨_, _, rfl, hrd, HO1.out.size⟩, HF2.out.below hb6, only_then HO1.out (Only.of_below hb6)⟩
    · obtain ⟨c5, W5, hrun, hrd, hb5⟩ := conv_bytes l n hn hm2 (W1.drewN 1)
      refine step_conv _ rfl (.tmp 38) 9 33 rfl (v := .string (str l)) (by simp [Act.eval]) hrun ?_
      have hb6 : Below W1.heap.size W1 W5 := ⟨hb5.os, hb5.tape, hb5.output, hb5.size, hb5.block⟩
      have HQ5 := HQ.out.below hb6
      have s5 : W5.cell? ⟨g, 1, none⟩ = some (.slice (some ⟨b, off, none⟩) U c) ∧ W5.cell? ⟨b, off + F, none⟩ = some (.string (str l)) := ⟨(hb6.cell (p := ⟨g, 1, none⟩) hgg).trans e1, (hb6.cell (p := ⟨b, off + F, none⟩) hbg).trans es⟩
      refine hK.out _ _ s5 (fun hHeld => ?_)
      clear hK K
      try simp only [Act.put, List.setIfInBounds_toArray, List.set_cons_zero, List.set_cons_succ]
      refine wpAnyH_alone 3 rfl (by kernel_rfl) (fun K hK => ?_)
      go_simp
      refine (xa _).mono ?_
      rintro e w' ⟨rfl, rfl⟩
      refine hK.out _ _ s5 (fun hHeld => ?_)
      clear hK K
      try simp only [Act.put, List.setIfInBounds_toArray, List.set_cons_zero, List.set_cons_succ]
      refine wpAnyH_here 12 (v := ?_) rfl (by kernel_rfl) (by kernel_rfl) (by kernel_rfl) (fun _ _ _ h => h) (Or.inl ⟨by rfl, ?_⟩) hHeld ?_
      rotate_left
      · intro w hSw; (try dsimp only at hSw); go_simp; all_goals (with_reducible rfl)
      try simp only [Act.put, List.setIfInBounds_toArray, List.set_cons_zero, List.set_cons_succ]
      refine wpAnyH_here 13 (v := ?_) rfl (by kernel_rfl) (by kernel_rfl) (by kernel_rfl) (fun _ _ _ h => h) (Or.inl ⟨by rfl, ?_⟩) hHeld ?_
      rotate_left
      · intro w hSw; (try dsimp only at hSw); go_simp; all_goals (with_reducible rfl)
      try simp only [Act.put, List.setIfInBounds_toArray, List.set_cons_zero, List.set_cons_succ]
      refine wpAnyH_done (by kernel_rfl) ?_ _
      go_wp2
      go_ret2
      exact ⟨⟨_, _, rfl, hrd, HO1.out.size⟩, HF2.out.below hb6, only_then HO1.out (Only.of_below hb6)⟩
  · obtain ⟨c5, W5, hrun, hrd, hb5⟩ := conv_bytes l n hn hm2 W1.drew
    refine step_conv _ rfl (.tmp 38) 9 33 rfl (v := .string (str l)) (by simp [Act.eval]) hrun ?_
    have hb6 : Below W1.heap.size W1 W5 := ⟨hb5.os, hb5.tape, hb5.output, hb5.size, hb5.block⟩
    have HQ5 := HQ.out.below hb6
    have s5 : W5.cell? ⟨g, 1, none⟩ = some (.slice (some ⟨b, off, none⟩) U c) ∧ W5.cell? ⟨b, off + F, none⟩ = some (.string (str l)) := ⟨(hb6.cell (p := ⟨g, 1, none⟩) hgg).trans e1, (hb6.cell (p := ⟨b, off + F, none⟩) hbg).trans es⟩
    refine hK.out _ _ s5 (fun hHeld => ?_)
    clear hK K
    try simp only [Act.put, List.setIfInBounds_toArray, List.set_cons_zero, List.set_cons_succ]
    refine wpAnyH_alone 1 rfl (by kernel_rfl) (fun K hK => ?_)
    go_simp
    refine (xf _ (HQ5)).mono ?_
    rintro e w' ⟨rfl, rfl⟩
    refine hK.out _ _ s5 (fun hHeld => ?_)
    clear hK K
    try simp only [Act.put, List.setIfInBounds_toArray, List.set_cons_zero, List.set_cons_succ]
    refine wpAnyH_alone 3 rfl (by kernel_rfl) (fun K hK => ?_)
    go_simp
    refine (xa _).mono ?_
    rintro e w' ⟨rfl, rfl⟩
    refine hK.out _ _ s5 (fun hHeld => ?_)
    clear hK K
    try simp only [Act.put, List.setIfInBounds_toArray, List.set_cons_zero, List.set_cons_succ]
    refine wpAnyH_here 12 (v := ?_) rfl (by kernel_rfl) (by kernel_rfl) (by kernel_rfl) (fun _ _ _ h => h) (Or.inl ⟨by rfl, ?_⟩) hHeld ?_
    rotate_left
    · intro w hSw; (try dsimp only at hSw); go_simp; all_goals (with_reducible rfl)
    try simp only [Act.put, List.setIfInBounds_toArray, List.set_cons_zero, List.set_cons_succ]
    refine wpAnyH_here 13 (v := ?_) rfl (by kernel_rfl) (by kernel_rfl) (by kernel_rfl) (fun _ _ _ h => h) (Or.inl ⟨by rfl, ?_⟩) hHeld ?_
    rotate_left
    · intro w hSw; (try dsimp only at hSw); go_simp; all_goals (with_reducible rfl)
    try simp only [Act.put, List.setIfInBounds_toArray, List.set_cons_zero, List.set_cons_succ]
    refine wpAnyH_done (by kernel_rfl) ?_ _
    go_wp2
    go_ret2
    exact ⟨⟨_, _, rfl, hrd, HO1.out.size⟩, HF2.out.below hb6, only_then HO1.out (Only.of_below hb6)⟩
end Go.Proofs.Ytdpjjhbfhlmolaa.Fop

/-
  Package fop: acknowledge, progress, hold, repeat, control.
-/
namespace Go.Proofs.Ytdpjjhbfhlmolaa.Fop
open Go.RowKit
open Pac (bel_new Cel.later)
open Tcf (Fr tunlock_any tsetNext_yes)
open Strs (So)

theorem wr64 {x : Int} (h0 : -9223372036854775808 ≤ x) (h1 : x < 9223372036854775808) : wrap64 x = x := by unfold wrap64; omega

set_option maxHeartbeats 2000000 in
theorem acknowledge_any (n : Nat) (w : World) (B g : Nat) (v : Value) (K H W T R : Int) (s : Fs) (h : FW w B g v K H W T R s) (h0 : 1 ≤ n) (h1 : (n : Int) ≤ s.fr) (ha : s.ac ≤ 1099511627776) :
    Calls Try.prog 62 #[.pointer (some ⟨g, 0, none⟩), .int .i64 (n : Int)] w fun e w' => e = .returned (.tuple #[]) ∧ (∃ v', FC w' g K H W T R v' { s with us := s.us.drop n, ac := s.ac + n, fr := s.fr - n, fl := max (s.fl - n) 0 } ∧ So w' B v' (s.us.drop n) ∧ v'.ownBlock = v.ownBlock) ∧ Only (blk g v) w w' := by
  have hu := h.ok.u
  have hf2 := h.ok.f2
  have hf0 := h.ok.f0
  have hf1 := h.ok.f1
  have ha0 := h.ok.a0
  have hrow := h.row
  rw [← List.take_append_drop n s.us] at hrow
  have hd := Strs.sdelete_any (s.us.take n) (s.us.drop n) n w B v (by rw [List.length_take]; omega) h0 hrow (by rw [List.take_append_drop]; omega)
  have c1 := h.cel.c1
  obtain ⟨X4, hX4⟩ : ∃ X, X = s.ac + (n : Int) := ⟨_, rfl⟩
  obtain ⟨X3, hX3⟩ : ∃ X, X = s.fr - (n : Int) := ⟨_, rfl⟩
  obtain ⟨Y2, hY2⟩ : ∃ X, X = s.fl - (n : Int) := ⟨_, rfl⟩
  obtain ⟨X2, hX2⟩ : ∃ X, X = max (s.fl - (n : Int)) 0 := ⟨_, rfl⟩
  have y1 : wrap64 (s.ac + (n : Int)) = X4 := by rw [hX4]; exact wr64 (by omega) (by omega)
  have y2 : wrap64 (s.fr - (n : Int)) = X3 := by rw [hX3]; exact wr64 (by omega) (by omega)
  have y3 : wrap64 (s.fl - (n : Int)) = Y2 := by rw [hY2]; exact wr64 (by omega) (by omega)
  have hne : v.ownBlock ≠ some g := Row.Os.apart h.row (t := 70) h.cel (by decide)
  have hbg : B ≤ w.heap.size ∨ v.ownBlock = none := by
    cases hv : v.ownBlock with
    | none => exact .inr rfl
    | some i => have := Row.Os.lt h.row i hv; exact .inl (by omega)
  rw [← hX4, ← hX3, ← hX2]
  have m1 : max Y2 0 = X2 := by rw [hX2, hY2]
  have hc := h.cel
  obtain ⟨us, hus⟩ : ∃ us, us = s.us.drop n := ⟨_, rfl⟩
  rw [← hus] at hd ⊢
  obtain ⟨M, hM⟩ : ∃ M, us.length = M := ⟨_, rfl⟩
  have HW1 := Lib.hid (And.intro hX4 (And.intro hX3 hY2))
  clear hX2 hrow hbg h hu hf2 hf0 hf1 ha0 hus
  obtain ⟨us0, fl0, fr0, ac0, st, ct, rp, tm, nw⟩ := s
  dsimp only at hX4 hX3 hY2 hc y1 y2 y3 HW1 ha h1 ⊢
  clear hX4 hX3 hY2 ha h1
  go_enter Try.func62, Try.ntmps62
  go_wp2_with fail
  refine hd.mono ?_
  rintro e w1 ⟨v1, rfl, o1, b1, k1⟩
  obtain ⟨A1, cc, rfl, _, _, _, _⟩ := o1.reads_len Strs.senc_ok hM
  clear hM
  obtain ⟨v1, hv1⟩ : ∃ v1, v1 = Value.slice A1 M cc := ⟨_, rfl⟩
  rw [← hv1] at o1 b1
  have hc1 := hc.only k1 (by simpa [eq_comm] using hne)
  have f1 := hc1.free 1
  have d1 := hc1.c1
  have k2 : Only (blk g v) w w1 := k1.more (fun x hx => .inl (by simp [blk] at hx ⊢; exact .inr hx))
  have p0 := hc1.units (v' := v1) us
  have p1 := p0.ac X4
  have p2 := p1.fr X3
  have p3 := p2.fl X2
  have o2 : Only [g] w1 ((((w1.setCell ⟨g, 1, none⟩ v1).setCell ⟨g, 4, none⟩ (.int .i64 X4)).setCell ⟨g, 3, none⟩ (.int .i64 X3)).setCell ⟨g, 2, none⟩ (.int .i64 X2)) := only_put (only_put (only_put (put_only w1 g 1 v1) 4 _) 3 _) 2 _
  have hne1 : ∀ i, v1.ownBlock = some i → i ∉ [g] := fun i hi hm => by
    rw [List.mem_singleton] at hm
    subst hm
    exact hne (b1 ▸ hi)
  have o3 := o1.only o2 hne1
  have HP := Lib.hid (And.intro p3 (And.intro o3 (And.intro b1 (only_then k2 (o2.more (fun x hx => .inl (by simp [blk] at hx ⊢; exact .inl hx)))))))
  have d4 := p0.c4
  have d3 := p1.c3
  have d2 := p2.c2
  have f4 := p0.free 4
  have f3 := p1.free 3
  have f2 := p2.free 2
  clear p0 p1 p2 p3 o2 o3 hne1 hd hc k1 k2 hc1 c1 o1 b1
  rw [hv1] at HP d4 d3 d2 f4 f3 f2
  clear hv1
  go_wp2
  go_end0
  exact ⟨rfl, ⟨_, HP.out.1, HP.out.2.1, HP.out.2.2.1⟩, HP.out.2.2.2⟩

set_option maxHeartbeats 1000000 in
theorem progress_any (n : Nat) (w : World) (B g : Nat) (v : Value) (K H W T R : Int) (s : Fs) (h : FW w B g v K H W T R s) (h1 : (n : Int) ≤ s.fr) (ha : s.ac ≤ 1099511627776) :
    Calls Try.prog 48 #[.pointer (some ⟨g, 0, none⟩), .int .i64 (n : Int)] w fun e w' => e = .returned (.tuple #[]) ∧ (∃ v', FW w' B g v' K H W T R (prg n s) ∧ v'.ownBlock = v.ownBlock) ∧ Only (blk g v) w w' := by
  by_cases h0 : n = 0
  · subst h0
    have e : prg ((0 : Nat) : Int) s = s := rfl
    rw [e]
    have HF := Lib.hid h
    clear h e h1 ha
    go_enter Try.func48, Try.ntmps48
    go_wp2
    refine bodyPost_ret (results_none rfl _ _ _) rfl ?_
    exact ⟨rfl, ⟨v, HF.out, rfl⟩, Only.refl _ _⟩
  · have e : prg (n : Int) s = { s with us := s.us.drop n, ac := s.ac + n, fr := s.fr - n, fl := max (s.fl - n) 0, rp := 0, tm := s.nw } := by
      unfold prg
      rw [if_neg (by omega)]
      rfl
    have hok := prg_ok (d := (n : Int)) h.ok (by omega) h1 h.p.r0
    rw [e] at hok ⊢
    have hx := acknowledge_any n w B g v K H W T R s h (by omega) h1 ha
    have hp := h.p
    have hne : v.ownBlock ≠ some g := Row.Os.apart h.row (t := 70) h.cel (by decide)
    have HOK := Lib.hid hok
    have t1 : ((n : Int) == 0) = false := by simp; omega
    have t2 : (n == 0) = false := by simpa using h0
    clear h e h1 ha hok h0
    go_enter Try.func48, Try.ntmps48
    go_wp2_with fail
    refine hx.mono ?_
    rintro e w1 ⟨rfl, ⟨v1, p1, o1, b1⟩, k1⟩
    have f11 := p1.free 11
    have d11 := p1.c11
    have p2 := p1.rp 0
    have f12 := p2.free 12
    have d12 := p2.c12
    have d13 := p2.c13
    have p3 := p2.tm s.nw
    have o2 : Only [g] w1 ((w1.setCell ⟨g, 11, none⟩ (.int .i64 0)).setCell ⟨g, 12, none⟩ (.int .i64 s.nw)) := only_put (put_only w1 g 11 _) 12 _
    have o3 := o1.only o2 (fun i hi hm => by
      rw [List.mem_singleton] at hm
      subst hm
      exact hne (b1 ▸ hi))
    have HP := Lib.hid (And.intro p3 (And.intro o3 (And.intro b1 (only_then k1 (o2.more (fun x hx => .inl (by simp [blk] at hx ⊢; exact .inl hx)))))))
    clear p1 p2 p3 o1 o2 o3 k1 hx b1
    dsimp only at d11 d12 d13
    go_wp2
    go_end0
    exact ⟨rfl, ⟨v1, ⟨HP.out.1, HP.out.2.1, HOK.out, hp⟩, HP.out.2.2.1⟩, HP.out.2.2.2⟩

set_option maxHeartbeats 1000000 in
theorem hold_any (b : Bool) (w : World) (B g : Nat) (v : Value) (K H W T R : Int) (s : Fs) (h : FW w B g v K H W T R s) :
    Calls Try.prog 50 #[.pointer (some ⟨g, 0, none⟩), .bool b] w fun e w' => e = .returned (.tuple #[]) ∧ FW w' B g v K H W T R (hld b s) ∧ Only [g] w w' := by
  have c9 := h.cel.c9
  have f9 := h.cel.free 9
  have hok := hld_ok (b := b) h.ok
  obtain ⟨us, fl, fr, ac, st, ct, rp, tm, nw⟩ := s
  dsimp only at c9
  by_cases h1 : st = 1 ∨ st = 2
  · have e : hld b ⟨us, fl, fr, ac, st, ct, rp, tm, nw⟩ = ⟨us, fl, fr, ac, if b then 2 else 1, ct, rp, tm, nw⟩ := by unfold hld; rw [if_pos h1]
    rw [e] at hok ⊢
    cases b
    · have HF := Lib.hid (h.self (put_only w g 9 _) (h.cel.st 1) rfl hok)
      have HO := Lib.hid (put_only w g 9 (.int .i64 1))
      clear h hok e
      rcases h1 with rfl | rfl
      · go_enter Try.func50, Try.ntmps50
        go_wp2
        go_end0
        exact ⟨rfl, HF.out, HO.out⟩
      · go_enter Try.func50, Try.ntmps50
        go_wp2
        go_end0
        exact ⟨rfl, HF.out, HO.out⟩
    · have p1 := h.cel.st 1
      have q9 := p1.free 9
      have e9 := p1.c9
      have HF := Lib.hid (h.self (only_put (put_only w g 9 (.int .i64 1)) 9 _) (p1.st 2) rfl hok)
      have HO := Lib.hid (only_put (put_only w g 9 (.int .i64 1)) 9 (.int .i64 2))
      clear h hok e p1
      rcases h1 with rfl | rfl
      · go_enter Try.func50, Try.ntmps50
        go_wp2
        go_end0
        exact ⟨rfl, HF.out, HO.out⟩
      · go_enter Try.func50, Try.ntmps50
        go_wp2
        go_end0
        exact ⟨rfl, HF.out, HO.out⟩
  · have e : hld b ⟨us, fl, fr, ac, st, ct, rp, tm, nw⟩ = ⟨us, fl, fr, ac, st, ct, rp, tm, nw⟩ := by unfold hld; rw [if_neg h1]
    rw [e]
    have t1 : (st != 1) = true := by simp; omega
    have t2 : (st != 2) = true := by simp; omega
    have HF := Lib.hid h
    clear h hok e h1
    go_enter Try.func50, Try.ntmps50
    go_wp2
    refine bodyPost_ret (results_none rfl _ _ _) rfl ?_
    exact ⟨rfl, HF.out, Only.refl _ _⟩

set_option maxHeartbeats 2000000 in
theorem repeat_any (w : World) (B g : Nat) (v : Value) (K H W T R : Int) (s : Fs) (h : FW w B g v K H W T R s) :
    Calls Try.prog 42 #[.pointer (some ⟨g, 0, none⟩)] w fun e w' => e = .returned (.bool (rpe T R s).1) ∧ FW w' B g v K H W T R (rpe T R s).2 ∧ Only [g] w w' := by
  have c4 := h.cel.c4
  have c7 := h.cel.c7
  have c8 := h.cel.c8
  have c11 := h.cel.c11
  have c12 := h.cel.c12
  have c13 := h.cel.c13
  have hok := rpe_ok (T := T) h.ok
  have ht0 := h.ok.t0
  have ht1 := h.ok.t1
  have hn1 := h.ok.n1
  have hr0 := h.ok.r0
  have hr1 := h.ok.r1
  have hp1 := h.p.r1
  obtain ⟨us, fl, fr, ac, st, ct, rp, tm, nw⟩ := s
  dsimp only at c4 c11 c12 c13 ht0 ht1 hn1 hr0 hr1
  obtain ⟨D, hD⟩ : ∃ D, D = nw - tm := ⟨_, rfl⟩
  have w1 : wrap64 (nw - tm) = D := by rw [hD]; exact wr64 (by omega) (by omega)
  have w2' : wrap64 (rp + 1) = rp + 1 := wr64 (by omega) (by omega)
  by_cases h1 : D < T
  · have e : rpe T R ⟨us, fl, fr, ac, st, ct, rp, tm, nw⟩ = (false, ⟨us, fl, fr, ac, st, ct, rp, tm, nw⟩) := by unfold rpe; rw [if_pos (by simp only; omega)]
    rw [e]
    have g1 : decide (D < T) = true := by simpa using h1
    have HF := Lib.hid h
    clear h hok e hD h1 ht0 ht1 hn1 hr0 hr1 hp1
    go_enter Try.func42, Try.ntmps42
    go_wp2_with fail
    go_quiet (fail)
    go_wp2
    go_ret
    exact ⟨rfl, HF.out.draws _, (Only.refl _ _).draws _⟩
  · have g1 : decide (D < T) = false := by simpa using h1
    by_cases h2 : rp = R
    · have e : rpe T R ⟨us, fl, fr, ac, st, ct, rp, tm, nw⟩ = (false, ⟨us, fl, fr, ac, 4, ct, rp, tm, nw⟩) := by unfold rpe; rw [if_neg (by simp only; omega), if_pos h2]
      rw [e] at hok ⊢
      have g2 : (rp == R) = true := by simpa using h2
      have HF := Lib.hid h
      have HOK := Lib.hid hok
      have f9 := h.cel.free 9
      have c9 := h.cel.c9
      dsimp only at c9
      clear h hok e hD h1 ht0 ht1 hn1 hr0 hr1 hp1 h2
      go_enter Try.func42, Try.ntmps42
      go_wp2_with fail
      go_quiet (fail)
      go_wp2_with fail
      go_quiet (fail)
      go_wp2
      go_ret
      all_goals exact ⟨rfl, FW.self (HF.out.draws _) (put_only _ g 9 _) ((HF.out.cel.draws _).st 4) rfl HOK.out, ((Only.refl _ _).draws _).put (p := ⟨g, 9, none⟩) (.inl (by simp)) _⟩
    · have e : rpe T R ⟨us, fl, fr, ac, st, ct, rp, tm, nw⟩ = (true, ⟨us, 0, fr, ac, st, ct, rp + 1, tm, nw⟩) := by unfold rpe; rw [if_neg (by simp only; omega), if_neg h2]
      rw [e] at hok ⊢
      have g2 : (rp == R) = false := by simpa using h2
      have HF := Lib.hid h
      have HOK := Lib.hid hok
      have f11 := h.cel.free 11
      obtain ⟨Y, hY⟩ : ∃ Y, Y = rp + 1 := ⟨_, rfl⟩
      have w2 : wrap64 (rp + 1) = Y := by rw [hY]; exact w2'
      clear w2'
      rw [← hY] at HOK ⊢
      have p1 := h.cel.rp Y
      have hw := fun W' hh => rewind_any W' g v K H W T R ⟨us, fl, fr, ac, st, ct, Y, tm, nw⟩ hh
      have HP := Lib.hid p1
      have HY := Lib.hid hY
      clear h hok e hD h1 ht0 ht1 hn1 hr0 hr1 hp1 h2 p1 hY
      go_enter Try.func42, Try.ntmps42
      go_wp2_with fail
      go_quiet (fail)
      go_wp2_with fail
      go_quiet (fail)
      go_wp2_with fail
      refine (hw _ ((HF.out.cel.draws _).rp Y)).mono ?_
      rintro e w5 ⟨rfl, p5, o5⟩
      go_wp2
      go_ret
      have o6 : Only [g] w w5 := only_then (((Only.refl _ _).draws _).put (p := ⟨g, 11, none⟩) (.inl (by simp)) _) o5
      exact ⟨rfl, HF.out.self o6 p5 rfl HOK.out, o6⟩
end Go.Proofs.Ytdpjjhbfhlmolaa.Fop

/-
  Package fop: control.
-/
namespace Go.Proofs.Ytdpjjhbfhlmolaa.Fop
open Go.RowKit
open Pac (bel_new Cel.later)
open Tcf (Fr tunlock_any tsetNext_yes)
open Strs (So)

theorem only_put6 {w w' : World} {S : List Nat} {b : Nat} (h : Only S w w') (hb : w.heap.size ≤ b) (a0 a1 a2 a3 a4 a5 : Value) : Only S w (put6 w' b a0 a1 a2 a3 a4 a5) :=
  h.trans (put6_only w' b a0 a1 a2 a3 a4 a5) (fun x hx => by rw [List.mem_singleton] at hx; subst hx; exact .inr hb)
theorem FW.put6_ {w : World} {B g b : Nat} {v : Value} {K H W T R : Int} {s : Fs} (h : FW w B g v K H W T R s) {cs : Array Value} (hc : Cel w b 43 cs) (hs : So w B v s.us) (a0 a1 a2 a3 a4 a5 : Value) : FW (put6 w b a0 a1 a2 a3 a4 a5) B g v K H W T R s :=
  h.only (put6_only w b a0 a1 a2 a3 a4 a5) (fun x hx => by
    rw [List.mem_singleton]
    rintro rfl
    simp only [blk, List.mem_cons, Option.mem_toList] at hx
    rcases hx with hx | hx
    · subst hx
      exact Cel.apart (t := 43) (t' := 70) hc h.cel (by decide) rfl
    · exact Row.Os.apart hs hc (by decide) hx)
theorem ctl_results {tmps : Array Value} {W : World} {g : Nat} {byp con : Bool} {cr ch sq : Int} {v : Value} (h2 : tmps.getD 2 undef = .pointer (some ⟨g, 0, none⟩))
    (hC : Cel W g 43 #[.bool byp, .bool con, .int .i64 cr, .int .i64 ch, .int .i64 sq, v]) :
    (results Try.f40 tmps).run Try.prog W = .ok (.agg #[.bool byp, .bool con, .int .i64 cr, .int .i64 ch, .int .i64 sq, v]) W := by
  have c0 := hC.cell 0
  have c1 := hC.cell 1
  have c2 := hC.cell 2
  have c3 := hC.cell 3
  have c4 := hC.cell 4
  have c5 := hC.cell 5
  simp at c0 c1 c2 c3 c4 c5
  simp only [Array.getD_eq_getD_getElem?] at h2
  simp [results, Try.results40, go_sem, h2, c0, c1, c2, c3, c4, c5]
/-- bytes stay where a frame's block is written -/
theorem Rd.off_put6 {w : World} {b n c : Nat} {a : Option Addr} {l : List Byte} (h : Rd w a l n c) {byp con : Bool} {cr ch sq : Int} {a' : Option Addr} {n' c' : Nat} (hc : Cel w b 43 #[.bool byp, .bool con, .int .i64 cr, .int .i64 ch, .int .i64 sq, .slice a' n' c']) (a0 a1 a2 a3 a4 a5 : Value) : Rd (put6 w b a0 a1 a2 a3 a4 a5) a l n c := by
  have k := put6_only w b a0 a1 a2 a3 a4 a5
  refine ⟨h.len, fun hl => ?_, h.nil, h.le, h.max⟩
  obtain ⟨b', off, e, hlt, hcl⟩ := h.bs hl
  refine ⟨b', off, e, Nat.lt_of_lt_of_le hlt k.size, fun i x hx => ?_⟩
  have h1 := hcl i x hx
  have hb : b' ≠ b := by
    rintro rfl
    have h2 := Cel.cell (t := 43) hc (off + i)
    rw [h1] at h2
    have hlt8 := (Array.getElem?_eq_some_iff.1 h2.symm).1
    simp at hlt8
    rcases (show off + i = 0 ∨ off + i = 1 ∨ off + i = 2 ∨ off + i = 3 ∨ off + i = 4 ∨ off + i = 5 by omega) with h3 | h3 | h3 | h3 | h3 | h3 <;> (rw [h3] at h2; simp at h2)
  have h2 := k.block b' hlt (by simpa using hb)
  unfold World.cell? at h1 ⊢
  simp only at h1 ⊢
  rw [h2]
  exact h1

set_option maxRecDepth 100000 in
set_option maxHeartbeats 4000000 in
theorem control_two (us : List (List Byte)) (fl fr ac st rp tm nw : Int) (w : World) (B g : Nat) (v : Value) (K' H W T R : Int) (h : FW w B g v K' H W T R ⟨us, fl, fr, ac, st, 2, rp, tm, nw⟩) :
    Calls Try.prog 40 #[.pointer (some ⟨g, 0, none⟩)] w fun e w' => (∃ A c, e = .returned (.agg #[.bool true, .bool true, .int .i64 K', .int .i64 H, .int .i64 0, .slice A 1 c]) ∧ Rd w' A [0#8] 1 c) ∧ FW w' B g v K' H W T R ⟨us, fl, fr, ac, st, 1, rp, tm, nw⟩ ∧ Only [g] w w' := by
  have hok : (⟨us, fl, fr, ac, st, 1, rp, tm, nw⟩ : Fs).Ok R := ⟨h.ok.f0, h.ok.f1, h.ok.f2, h.ok.u, h.ok.a0, h.ok.s1, h.ok.s4, (by decide : (0 : Int) ≤ 1), (by decide : (1 : Int) ≤ 2), fun _ => h.ok.cf (show (0 : Int) < 2 by decide), h.ok.r0, h.ok.r1, h.ok.t0, h.ok.t1, h.ok.n1, h.ok.ul⟩
  have c10 := h.cel.c10
  have f10 := h.cel.free 10
  dsimp only at c10
  have hgl := h.cel.lt
  obtain ⟨w1, hw1⟩ : ∃ w1, w1 = w.alloc (.cells #[.bool false, .bool false, .int .i64 0, .int .i64 0, .int .i64 0, .slice none 0 0] 43) := ⟨_, rfl⟩
  have b1 : Below w.heap.size w w1 := by rw [hw1]; exact bel_new _ _
  have hR1 : Cel w1 w.heap.size 43 #[.bool false, .bool false, .int .i64 0, .int .i64 0, .int .i64 0, .slice none 0 0] := by rw [hw1]; exact Cel.new _ _ _
  have h1 := h.below b1
  obtain ⟨W2, hW2⟩ : ∃ W2, W2 = w1.setCell ⟨g, 10, none⟩ (.int .i64 1) := ⟨_, rfl⟩
  have q2 : FW W2 B g v K' H W T R ⟨us, fl, fr, ac, st, 1, rp, tm, nw⟩ := by rw [hW2]; exact h1.self (put_only w1 g 10 _) (h1.cel.ct 1) rfl hok
  have o2 : Only [g] w W2 := by rw [hW2]; exact only_put (Only.of_below b1) 10 _
  have hR2 : Cel W2 w.heap.size 43 #[.bool false, .bool false, .int .i64 0, .int .i64 0, .int .i64 0, .slice none 0 0] := by rw [hW2]; exact hR1.only (put_only w1 g 10 _) (by simp; omega)
  rw [hw1] at hW2
  have d10 : W2.cell? ⟨g, 10, none⟩ = some (.int .i64 1) := q2.cel.c10
  have d10' := ((h.cel.ct 1).below (bel_new _ (.cells #[.bool false, .bool false, .int .i64 0, .int .i64 0, .int .i64 0, .slice none 0 0] 43))).c10
  have c10a := (h.below (bel_new w (.cells #[.bool false, .bool false, .int .i64 0, .int .i64 0, .int .i64 0, .slice none 0 0] 43))).cel.c10
  have f10a := (h.below (bel_new w (.cells #[.bool false, .bool false, .int .i64 0, .int .i64 0, .int .i64 0, .slice none 0 0] 43))).cel.free 10
  dsimp only at c10a d10'
  have e5 := q2.cel.c5
  have e6 := q2.cel.c6
  have hg2 := q2.cel.lt
  have hu := fun W' => tunlock_any K' H W'
  have HQ := Lib.hid q2
  have HO := Lib.hid o2
  have HR := Lib.hid hR2
  clear h hok b1 q2 o2 hR2 hR1 h1 hw1 hgl
  go_enter Try.func40, Try.ntmps40
  go_wp2_with fail
  rw [← hW2]
  clear hW2 c10 f10 c10a f10a d10'
  refine wp_region_held_drew (S := fun W => W.cell? ⟨g, 5, none⟩ = some (.int .i64 K') ∧ W.cell? ⟨g, 6, none⟩ = some (.int .i64 H)) (by kernel_rfl) (⟨e5, e6⟩) (fun hHeld => ?_)
  refine wpAnyH_here 0 (v := ?_) rfl (by kernel_rfl) (by kernel_rfl) (by kernel_rfl) (fun _ _ _ h => h) (Or.inl ⟨by rfl, ?_⟩) hHeld ?_
  rotate_left
  · intro w hSw; (try dsimp only at hSw); go_simp; all_goals (with_reducible rfl)
  try simp only [Act.put, List.setIfInBounds_toArray, List.set_cons_zero, List.set_cons_succ]
  refine wpAnyH_here 1 (v := ?_) rfl (by kernel_rfl) (by kernel_rfl) (by kernel_rfl) (fun _ _ _ h => h) (Or.inl ⟨by rfl, ?_⟩) hHeld ?_
  rotate_left
  · intro w hSw; (try dsimp only at hSw); go_simp; all_goals (with_reducible rfl)
  try simp only [Act.put, List.setIfInBounds_toArray, List.set_cons_zero, List.set_cons_succ]
  refine wpAnyH_here 2 (v := ?_) rfl (by kernel_rfl) (by kernel_rfl) (by kernel_rfl) (fun _ _ _ h => h) (Or.inl ⟨by rfl, ?_⟩) hHeld ?_
  rotate_left
  · intro w hSw; (try dsimp only at hSw); go_simp; all_goals (with_reducible rfl)
  try simp only [Act.put, List.setIfInBounds_toArray, List.set_cons_zero, List.set_cons_succ]
  refine wpAnyH_here 3 (v := ?_) rfl (by kernel_rfl) (by kernel_rfl) (by kernel_rfl) (fun _ _ _ h => h) (Or.inl ⟨by rfl, ?_⟩) hHeld ?_
  rotate_left
  · intro w hSw; (try dsimp only at hSw); go_simp; all_goals (with_reducible rfl)
  try simp only [Act.put, List.setIfInBounds_toArray, List.set_cons_zero, List.set_cons_succ]
  refine wpAnyH_here 4 (v := ?_) rfl (by kernel_rfl) (by kernel_rfl) (by kernel_rfl) (fun _ _ _ h => h) (Or.inl ⟨by rfl, ?_⟩) hHeld ?_
  rotate_left
  · intro w hSw; (try dsimp only at hSw); go_simp; all_goals (with_reducible rfl)
  try simp only [Act.put, List.setIfInBounds_toArray, List.set_cons_zero, List.set_cons_succ]
  refine wpAnyH_here 5 (v := ?_) rfl (by kernel_rfl) (by kernel_rfl) (by kernel_rfl) (fun _ _ _ h => h) (Or.inl ⟨by rfl, ?_⟩) hHeld ?_
  rotate_left
  · intro w hSw; (try dsimp only at hSw); go_simp; all_goals (with_reducible rfl)
  try simp only [Act.put, List.setIfInBounds_toArray, List.set_cons_zero, List.set_cons_succ]
  refine wpAnyH_here 6 (v := ?_) rfl (by kernel_rfl) (by kernel_rfl) (by kernel_rfl) (fun _ _ _ h => h) (Or.inl ⟨by rfl, ?_⟩) hHeld ?_
  rotate_left
  · intro w hSw; (try dsimp only at hSw); go_simp; all_goals (with_reducible rfl)
  try simp only [Act.put, List.setIfInBounds_toArray, List.set_cons_zero, List.set_cons_succ]
  refine wpAnyH_here 7 (v := ?_) rfl (by kernel_rfl) (by kernel_rfl) (by kernel_rfl) (fun _ _ _ h => h) (Or.inl ⟨by rfl, ?_⟩) hHeld ?_
  rotate_left
  · intro w hSw; (try dsimp only at hSw); go_simp; all_goals (with_reducible rfl)
  try simp only [Act.put, List.setIfInBounds_toArray, List.set_cons_zero, List.set_cons_succ]
  refine wpAnyH_alone 8 rfl (by kernel_rfl) (fun K hK => ?_)
  go_simp
  refine (hu _).mono ?_; rintro e w5 ⟨A5, c5, rfl, rd5, b5⟩
  refine hK.out _ _ (⟨(b5.cell (p := ⟨g, 5, none⟩) hg2).trans e5, (b5.cell (p := ⟨g, 6, none⟩) hg2).trans e6⟩) (fun hHeld => ?_)
  clear hK K
  try simp only [Act.put, List.setIfInBounds_toArray, List.set_cons_zero, List.set_cons_succ]
  have b6 : Below W2.heap.size W2 w5 := ⟨b5.os, b5.tape, b5.output, b5.size, b5.block⟩
  have hR5 := Cel.later HR.out b6
  have HQ5 := HQ.out.below b6
  have r0 := hR5.cell 0
  have r1 := hR5.cell 1
  have r2 := hR5.cell 2
  have r3 := hR5.cell 3
  have r4 := hR5.cell 4
  have r5 := hR5.cell 5
  simp at r0 r1 r2 r3 r4 r5
  have k0 := hR5.free 0
  have k1 := hR5.free 1
  have k2 := hR5.free 2
  have k3 := hR5.free 3
  have k4 := hR5.free 4
  have k5 := hR5.free 5
  have HP := Lib.hid (HQ5.put6_ hR5 HQ5.row (.bool true) (.bool true) (.int .i64 K') (.int .i64 H) (.int .i64 0) (.slice A5 1 c5))
  have HC := Lib.hid (put6_cel hR5 (.bool true) (.bool true) (.int .i64 K') (.int .i64 H) (.int .i64 0) (.slice A5 1 c5))
  have HRd := Lib.hid (show Rd (put6 w5 w.heap.size (.bool true) (.bool true) (.int .i64 K') (.int .i64 H) (.int .i64 0) (.slice A5 1 c5)) A5 [0#8] 1 c5 from Rd.off_put6 rd5 hR5 _ _ _ _ _ _)
  have HOn := Lib.hid (only_put6 (only_then HO.out (Only.of_below b6)) (Nat.le_refl _) (.bool true) (.bool true) (.int .i64 K') (.int .i64 H) (.int .i64 0) (.slice A5 1 c5))
  refine wpAnyH_alone 9 rfl (by kernel_rfl) (fun K hK => ?_)
  go_simp
  skip
  refine hK.out _ _ (⟨HP.out.cel.c5, HP.out.cel.c6⟩) (fun hHeld => ?_)
  clear hK K
  try simp only [Act.put, List.setIfInBounds_toArray, List.set_cons_zero, List.set_cons_succ]
  refine wpAnyH_done (by kernel_rfl) ?_ _
  go_wp2
  exact bodyPost_ret (ctl_results rfl HC.out) rfl ⟨⟨_, _, rfl, HRd.out⟩, HP.out, HOn.out⟩

set_option maxRecDepth 100000 in
set_option maxHeartbeats 4000000 in
theorem control_one (us : List (List Byte)) (fl fr ac st rp tm nw : Int) (w : World) (B g : Nat) (v : Value) (K' H W T R : Int) (h : FW w B g v K' H W T R ⟨us, fl, fr, ac, st, 1, rp, tm, nw⟩) :
    Calls Try.prog 40 #[.pointer (some ⟨g, 0, none⟩)] w fun e w' => (∃ A c, e = .returned (.agg #[.bool true, .bool true, .int .i64 K', .int .i64 H, .int .i64 0, .slice A 3 c]) ∧ Rd w' A [130#8, 0#8, (BitVec.ofNat 8 (ac % 256).toNat : Byte)] 3 c) ∧ FW w' B g v K' H W T R ⟨us, fl, fr, ac, st, 0, rp, tm, nw⟩ ∧ Only [g] w w' := by
  have hok : (⟨us, fl, fr, ac, st, 0, rp, tm, nw⟩ : Fs).Ok R := ⟨h.ok.f0, h.ok.f1, h.ok.f2, h.ok.u, h.ok.a0, h.ok.s1, h.ok.s4, (by decide : (0 : Int) ≤ 0), (by decide : (0 : Int) ≤ 2), fun _ => h.ok.cf (show (0 : Int) < 1 by decide), h.ok.r0, h.ok.r1, h.ok.t0, h.ok.t1, h.ok.n1, h.ok.ul⟩
  have c10 := h.cel.c10
  have f10 := h.cel.free 10
  dsimp only at c10
  have hgl := h.cel.lt
  obtain ⟨w1, hw1⟩ : ∃ w1, w1 = w.alloc (.cells #[.bool false, .bool false, .int .i64 0, .int .i64 0, .int .i64 0, .slice none 0 0] 43) := ⟨_, rfl⟩
  have b1 : Below w.heap.size w w1 := by rw [hw1]; exact bel_new _ _
  have hR1 : Cel w1 w.heap.size 43 #[.bool false, .bool false, .int .i64 0, .int .i64 0, .int .i64 0, .slice none 0 0] := by rw [hw1]; exact Cel.new _ _ _
  have h1 := h.below b1
  obtain ⟨W2, hW2⟩ : ∃ W2, W2 = w1.setCell ⟨g, 10, none⟩ (.int .i64 0) := ⟨_, rfl⟩
  have q2 : FW W2 B g v K' H W T R ⟨us, fl, fr, ac, st, 0, rp, tm, nw⟩ := by rw [hW2]; exact h1.self (put_only w1 g 10 _) (h1.cel.ct 0) rfl hok
  have o2 : Only [g] w W2 := by rw [hW2]; exact only_put (Only.of_below b1) 10 _
  have hR2 : Cel W2 w.heap.size 43 #[.bool false, .bool false, .int .i64 0, .int .i64 0, .int .i64 0, .slice none 0 0] := by rw [hW2]; exact hR1.only (put_only w1 g 10 _) (by simp; omega)
  rw [hw1] at hW2
  have d10 : W2.cell? ⟨g, 10, none⟩ = some (.int .i64 0) := q2.cel.c10
  have d10' := ((h.cel.ct 0).below (bel_new _ (.cells #[.bool false, .bool false, .int .i64 0, .int .i64 0, .int .i64 0, .slice none 0 0] 43))).c10
  have c10a := (h.below (bel_new w (.cells #[.bool false, .bool false, .int .i64 0, .int .i64 0, .int .i64 0, .slice none 0 0] 43))).cel.c10
  have f10a := (h.below (bel_new w (.cells #[.bool false, .bool false, .int .i64 0, .int .i64 0, .int .i64 0, .slice none 0 0] 43))).cel.free 10
  dsimp only at c10a d10'
  have e5 := q2.cel.c5
  have e6 := q2.cel.c6
  have hg2 := q2.cel.lt
  have hz : (((BitVec.ofNat 8 (ac % 256).toNat : Byte).toNat : Nat) : Int) = ac % 256 := by
    rw [BitVec.toNat_ofNat]; omega
  have hu := fun W' => tsetNext_yes K' H (BitVec.ofNat 8 (ac % 256).toNat) W'
  have hf := fun W' hh => first_any W' g v K' H W T R ⟨us, fl, fr, ac, st, 0, rp, tm, nw⟩ hh
  rw [hz] at hu
  dsimp only at hf
  obtain ⟨D, hD⟩ : ∃ D, D = [130#8, 0#8, (BitVec.ofNat 8 (ac % 256).toNat : Byte)] := ⟨_, rfl⟩
  rw [← hD] at hu ⊢
  obtain ⟨Q, hQ⟩ : ∃ Q, Q = ac % 256 := ⟨_, rfl⟩
  rw [← hQ] at hu hf
  clear hz hQ hD
  have HQ := Lib.hid q2
  have HO := Lib.hid o2
  have HR := Lib.hid hR2
  clear h hok b1 q2 o2 hR2 hR1 h1 hw1 hgl
  go_enter Try.func40, Try.ntmps40
  go_wp2_with fail
  rw [← hW2]
  clear hW2 c10 f10 c10a f10a d10'
  refine wp_region_held_drew (S := fun W => W.cell? ⟨g, 5, none⟩ = some (.int .i64 K') ∧ W.cell? ⟨g, 6, none⟩ = some (.int .i64 H)) (by kernel_rfl) (⟨e5, e6⟩) (fun hHeld => ?_)
  refine wpAnyH_here 0 (v := ?_) rfl (by kernel_rfl) (by kernel_rfl) (by kernel_rfl) (fun _ _ _ h => h) (Or.inl ⟨by rfl, ?_⟩) hHeld ?_
  rotate_left
  · intro w hSw; (try dsimp only at hSw); go_simp; all_goals (with_reducible rfl)
  try simp only [Act.put, List.setIfInBounds_toArray, List.set_cons_zero, List.set_cons_succ]
  refine wpAnyH_here 1 (v := ?_) rfl (by kernel_rfl) (by kernel_rfl) (by kernel_rfl) (fun _ _ _ h => h) (Or.inl ⟨by rfl, ?_⟩) hHeld ?_
  rotate_left
  · intro w hSw; (try dsimp only at hSw); go_simp; all_goals (with_reducible rfl)
  try simp only [Act.put, List.setIfInBounds_toArray, List.set_cons_zero, List.set_cons_succ]
  refine wpAnyH_here 2 (v := ?_) rfl (by kernel_rfl) (by kernel_rfl) (by kernel_rfl) (fun _ _ _ h => h) (Or.inl ⟨by rfl, ?_⟩) hHeld ?_
  rotate_left
  · intro w hSw; (try dsimp only at hSw); go_simp; all_goals (with_reducible rfl)
  try simp only [Act.put, List.setIfInBounds_toArray, List.set_cons_zero, List.set_cons_succ]
  refine wpAnyH_here 3 (v := ?_) rfl (by kernel_rfl) (by kernel_rfl) (by kernel_rfl) (fun _ _ _ h => h) (Or.inl ⟨by rfl, ?_⟩) hHeld ?_
  rotate_left
  · intro w hSw; (try dsimp only at hSw); go_simp; all_goals (with_reducible rfl)
  try simp only [Act.put, List.setIfInBounds_toArray, List.set_cons_zero, List.set_cons_succ]
  refine wpAnyH_here 4 (v := ?_) rfl (by kernel_rfl) (by kernel_rfl) (by kernel_rfl) (fun _ _ _ h => h) (Or.inl ⟨by rfl, ?_⟩) hHeld ?_
  rotate_left
  · intro w hSw; (try dsimp only at hSw); go_simp; all_goals (with_reducible rfl)
  try simp only [Act.put, List.setIfInBounds_toArray, List.set_cons_zero, List.set_cons_succ]
  refine wpAnyH_here 5 (v := ?_) rfl (by kernel_rfl) (by kernel_rfl) (by kernel_rfl) (fun _ _ _ h => h) (Or.inl ⟨by rfl, ?_⟩) hHeld ?_
  rotate_left
  · intro w hSw; (try dsimp only at hSw); go_simp; all_goals (with_reducible rfl)
  try simp only [Act.put, List.setIfInBounds_toArray, List.set_cons_zero, List.set_cons_succ]
  refine wpAnyH_here 6 (v := ?_) rfl (by kernel_rfl) (by kernel_rfl) (by kernel_rfl) (fun _ _ _ h => h) (Or.inl ⟨by rfl, ?_⟩) hHeld ?_
  rotate_left
  · intro w hSw; (try dsimp only at hSw); go_simp; all_goals (with_reducible rfl)
  try simp only [Act.put, List.setIfInBounds_toArray, List.set_cons_zero, List.set_cons_succ]
  refine wpAnyH_here 7 (v := ?_) rfl (by kernel_rfl) (by kernel_rfl) (by kernel_rfl) (fun _ _ _ h => h) (Or.inl ⟨by rfl, ?_⟩) hHeld ?_
  rotate_left
  · intro w hSw; (try dsimp only at hSw); go_simp; all_goals (with_reducible rfl)
  try simp only [Act.put, List.setIfInBounds_toArray, List.set_cons_zero, List.set_cons_succ]
  refine wpAnyH_here 8 (v := ?_) rfl (by kernel_rfl) (by kernel_rfl) (by kernel_rfl) (fun _ _ _ h => h) (Or.inl ⟨by rfl, ?_⟩) hHeld ?_
  rotate_left
  · intro w hSw; (try dsimp only at hSw); go_simp; all_goals (with_reducible rfl)
  try simp only [Act.put, List.setIfInBounds_toArray, List.set_cons_zero, List.set_cons_succ]
  refine wpAnyH_here 9 (v := ?_) rfl (by kernel_rfl) (by kernel_rfl) (by kernel_rfl) (fun _ _ _ h => h) (Or.inl ⟨by rfl, ?_⟩) hHeld ?_
  rotate_left
  · intro w hSw; (try dsimp only at hSw); go_simp; all_goals (with_reducible rfl)
  try simp only [Act.put, List.setIfInBounds_toArray, List.set_cons_zero, List.set_cons_succ]
  refine wpAnyH_here 10 (v := ?_) rfl (by kernel_rfl) (by kernel_rfl) (by kernel_rfl) (fun _ _ _ h => h) (Or.inl ⟨by rfl, ?_⟩) hHeld ?_
  rotate_left
  · intro w hSw; (try dsimp only at hSw); go_simp; all_goals (with_reducible rfl)
  try simp only [Act.put, List.setIfInBounds_toArray, List.set_cons_zero, List.set_cons_succ]
  refine wpAnyH_alone 11 rfl (by kernel_rfl) (fun K hK => ?_)
  go_simp
  refine (hf _ (HQ.out.cel.draws 1)).mono ?_; rintro e w5 ⟨rfl, rfl⟩
  refine hK.out _ _ (⟨e5, e6⟩) (fun hHeld => ?_)
  clear hK K
  try simp only [Act.put, List.setIfInBounds_toArray, List.set_cons_zero, List.set_cons_succ]
  refine wpAnyH_alone 12 rfl (by kernel_rfl) (fun K hK => ?_)
  go_simp
  refine (hu _).mono ?_; rintro e w5 ⟨A5, c5, rfl, rd5, b5⟩
  refine hK.out _ _ (⟨(b5.cell (p := ⟨g, 5, none⟩) hg2).trans e5, (b5.cell (p := ⟨g, 6, none⟩) hg2).trans e6⟩) (fun hHeld => ?_)
  clear hK K
  try simp only [Act.put, List.setIfInBounds_toArray, List.set_cons_zero, List.set_cons_succ]
  have b6 : Below W2.heap.size W2 w5 := ⟨b5.os, b5.tape, b5.output, b5.size, b5.block⟩
  have hR5 := Cel.later HR.out b6
  have HQ5 := HQ.out.below b6
  have r0 := hR5.cell 0
  have r1 := hR5.cell 1
  have r2 := hR5.cell 2
  have r3 := hR5.cell 3
  have r4 := hR5.cell 4
  have r5 := hR5.cell 5
  simp at r0 r1 r2 r3 r4 r5
  have k0 := hR5.free 0
  have k1 := hR5.free 1
  have k2 := hR5.free 2
  have k3 := hR5.free 3
  have k4 := hR5.free 4
  have k5 := hR5.free 5
  have HP := Lib.hid (HQ5.put6_ hR5 HQ5.row (.bool true) (.bool true) (.int .i64 K') (.int .i64 H) (.int .i64 0) (.slice A5 3 c5))
  have HC := Lib.hid (put6_cel hR5 (.bool true) (.bool true) (.int .i64 K') (.int .i64 H) (.int .i64 0) (.slice A5 3 c5))
  have HRd := Lib.hid (show Rd (put6 w5 w.heap.size (.bool true) (.bool true) (.int .i64 K') (.int .i64 H) (.int .i64 0) (.slice A5 3 c5)) A5 D 3 c5 from Rd.off_put6 rd5 hR5 _ _ _ _ _ _)
  have HOn := Lib.hid (only_put6 (only_then HO.out (Only.of_below b6)) (Nat.le_refl _) (.bool true) (.bool true) (.int .i64 K') (.int .i64 H) (.int .i64 0) (.slice A5 3 c5))
  refine wpAnyH_alone 13 rfl (by kernel_rfl) (fun K hK => ?_)
  go_simp
  skip
  refine hK.out _ _ (⟨HP.out.cel.c5, HP.out.cel.c6⟩) (fun hHeld => ?_)
  clear hK K
  try simp only [Act.put, List.setIfInBounds_toArray, List.set_cons_zero, List.set_cons_succ]
  refine wpAnyH_done (by kernel_rfl) ?_ _
  go_wp2
  exact bodyPost_ret (ctl_results rfl HC.out) rfl ⟨⟨_, _, rfl, HRd.out⟩, HP.out, HOn.out⟩
end Go.Proofs.Ytdpjjhbfhlmolaa.Fop

/-
  Package fop: Next.
-/
namespace Go.Proofs.Ytdpjjhbfhlmolaa.Fop
open Go.RowKit
open Pac (bel_new Cel.later)
open Tcf (Fr)
open Strs (So)

theorem nx_results {tmps : Array Value} {W : World} {g : Nat} {byp con : Bool} {cr ch sq : Int} {v : Value} {ok : Bool} (h2 : tmps.getD 4 undef = .pointer (some ⟨g, 0, none⟩)) (h3 : tmps.getD 5 undef = .bool ok)
    (hC : Cel W g 43 #[.bool byp, .bool con, .int .i64 cr, .int .i64 ch, .int .i64 sq, v]) :
    (results Try.f14 tmps).run Try.prog W = .ok (.tuple #[.agg #[.bool byp, .bool con, .int .i64 cr, .int .i64 ch, .int .i64 sq, v], .bool ok]) W := by
  have c0 := hC.cell 0
  have c1 := hC.cell 1
  have c2 := hC.cell 2
  have c3 := hC.cell 3
  have c4 := hC.cell 4
  have c5 := hC.cell 5
  simp at c0 c1 c2 c3 c4 c5
  simp only [Array.getD_eq_getD_getElem?] at h2 h3
  simp [results, Try.results14, go_sem, h2, h3, c0, c1, c2, c3, c4, c5]

theorem rd_none (w : World) : Rd w none [] 0 0 := ⟨rfl, fun h => absurd h (by simp), fun _ => rfl, Nat.le_refl _, by decide⟩

set_option maxRecDepth 100000 in
set_option maxHeartbeats 4000000 in
theorem next_ctl2 (n : Int) (us : List (List Byte)) (fl fr ac st rp tm nw : Int) (w : World) (B g : Nat) (v : Value) (K' H W T R : Int) (s : Fs) (h : FW w B g v K' H W T R s) (hs : adv n s = ⟨us, fl, fr, ac, st, 2, rp, tm, nw⟩)  :
    Calls Try.prog 14 #[.pointer (some ⟨g, 0, none⟩), .int .i64 n] w fun e w' => (∃ A c, e = .returned (.tuple #[.agg #[.bool true, .bool true, .int .i64 K', .int .i64 H, .int .i64 0, .slice A 1 c], .bool true]) ∧ Rd w' A [0#8] 1 c) ∧ FW w' B g v K' H W T R ⟨us, fl, fr, ac, st, 1, rp, tm, nw⟩ ∧ Only [g] w w' := by
  obtain ⟨w1, hw1⟩ : ∃ w1, w1 = w.alloc (.cells #[.bool false, .bool false, .int .i64 0, .int .i64 0, .int .i64 0, .slice none 0 0] 43) := ⟨_, rfl⟩
  have b1 : Below w.heap.size w w1 := by rw [hw1]; exact bel_new _ _
  have hR1 : Cel w1 w.heap.size 43 #[.bool false, .bool false, .int .i64 0, .int .i64 0, .int .i64 0, .slice none 0 0] := by rw [hw1]; exact Cel.new _ _ _
  have h1 := h.below b1
  have hgl := h.cel.lt
  have x1 := fopworks_any w1 B g v K' H W T R s h1
  have x2 := advance_any n w1 B g v K' H W T R s h1
  rw [hs] at x2
  clear hs h h1
  go_enter Try.func14, Try.ntmps14
  go_wp2_with fail
  rw [← hw1]
  clear hw1
  refine x1.mono ?_
  rintro e w2 ⟨rfl, rfl⟩
  clear x1
  go_wp2_with fail
  refine x2.mono ?_
  rintro e w2 ⟨rfl, h2, k2⟩
  clear x2
  have o2 : Only [g] w w2 := only_then (Only.of_below b1) k2
  have hR2 := hR1.only k2 (by simp; omega)
  clear k2 b1 hR1
  have c10 := h2.cel.c10
  dsimp only at c10
  have x3 := control_two us fl fr ac st rp tm nw w2 B g v K' H W T R h2
  clear h2
  go_wp2_with fail
  refine x3.mono ?_
  rintro e w3 ⟨⟨A3, c3, rfl, rd3⟩, h3, k3⟩
  clear x3 c10
  have hR3 := hR2.only k3 (by simp; omega)
  have o3 := only_then o2 k3
  clear hR2 k3 o2
  have r0 := hR3.cell 0
  have r1 := hR3.cell 1
  have r2 := hR3.cell 2
  have r3 := hR3.cell 3
  have r4 := hR3.cell 4
  have r5 := hR3.cell 5
  simp at r0 r1 r2 r3 r4 r5
  have k0 := hR3.free 0
  have k1 := hR3.free 1
  have k2 := hR3.free 2
  have k3 := hR3.free 3
  have k4 := hR3.free 4
  have k5 := hR3.free 5
  have HP := Lib.hid (h3.put6_ hR3 h3.row (.bool true) (.bool true) (.int .i64 K') (.int .i64 H) (.int .i64 0) (.slice A3 1 c3))
  have HC := Lib.hid (put6_cel hR3 (.bool true) (.bool true) (.int .i64 K') (.int .i64 H) (.int .i64 0) (.slice A3 1 c3))
  have HRd := Lib.hid (Rd.off_put6 rd3 hR3 (.bool true) (.bool true) (.int .i64 K') (.int .i64 H) (.int .i64 0) (.slice A3 1 c3))
  have HOn := Lib.hid (only_put6 o3 (Nat.le_refl _) (.bool true) (.bool true) (.int .i64 K') (.int .i64 H) (.int .i64 0) (.slice A3 1 c3))
  clear h3 rd3 o3 hR3
  go_wp2
  exact bodyPost_ret (nx_results rfl rfl HC.out) rfl ⟨⟨_, _, rfl, HRd.out⟩, HP.out, HOn.out⟩

set_option maxRecDepth 100000 in
set_option maxHeartbeats 4000000 in
theorem next_ctl1 (n : Int) (us : List (List Byte)) (fl fr ac st rp tm nw : Int) (w : World) (B g : Nat) (v : Value) (K' H W T R : Int) (s : Fs) (h : FW w B g v K' H W T R s) (hs : adv n s = ⟨us, fl, fr, ac, st, 1, rp, tm, nw⟩)  :
    Calls Try.prog 14 #[.pointer (some ⟨g, 0, none⟩), .int .i64 n] w fun e w' => (∃ A c, e = .returned (.tuple #[.agg #[.bool true, .bool true, .int .i64 K', .int .i64 H, .int .i64 0, .slice A 3 c], .bool true]) ∧ Rd w' A [130#8, 0#8, (BitVec.ofNat 8 (ac % 256).toNat : Byte)] 3 c) ∧ FW w' B g v K' H W T R ⟨us, fl, fr, ac, st, 0, rp, tm, nw⟩ ∧ Only [g] w w' := by
  obtain ⟨w1, hw1⟩ : ∃ w1, w1 = w.alloc (.cells #[.bool false, .bool false, .int .i64 0, .int .i64 0, .int .i64 0, .slice none 0 0] 43) := ⟨_, rfl⟩
  have b1 : Below w.heap.size w w1 := by rw [hw1]; exact bel_new _ _
  have hR1 : Cel w1 w.heap.size 43 #[.bool false, .bool false, .int .i64 0, .int .i64 0, .int .i64 0, .slice none 0 0] := by rw [hw1]; exact Cel.new _ _ _
  have h1 := h.below b1
  have hgl := h.cel.lt
  have x1 := fopworks_any w1 B g v K' H W T R s h1
  have x2 := advance_any n w1 B g v K' H W T R s h1
  rw [hs] at x2
  clear hs h h1
  go_enter Try.func14, Try.ntmps14
  go_wp2_with fail
  rw [← hw1]
  clear hw1
  refine x1.mono ?_
  rintro e w2 ⟨rfl, rfl⟩
  clear x1
  go_wp2_with fail
  refine x2.mono ?_
  rintro e w2 ⟨rfl, h2, k2⟩
  clear x2
  have o2 : Only [g] w w2 := only_then (Only.of_below b1) k2
  have hR2 := hR1.only k2 (by simp; omega)
  clear k2 b1 hR1
  have c10 := h2.cel.c10
  dsimp only at c10
  have x3 := control_one us fl fr ac st rp tm nw w2 B g v K' H W T R h2
  clear h2
  go_wp2_with fail
  refine x3.mono ?_
  rintro e w3 ⟨⟨A3, c3, rfl, rd3⟩, h3, k3⟩
  clear x3 c10
  have hR3 := hR2.only k3 (by simp; omega)
  have o3 := only_then o2 k3
  clear hR2 k3 o2
  have r0 := hR3.cell 0
  have r1 := hR3.cell 1
  have r2 := hR3.cell 2
  have r3 := hR3.cell 3
  have r4 := hR3.cell 4
  have r5 := hR3.cell 5
  simp at r0 r1 r2 r3 r4 r5
  have k0 := hR3.free 0
  have k1 := hR3.free 1
  have k2 := hR3.free 2
  have k3 := hR3.free 3
  have k4 := hR3.free 4
  have k5 := hR3.free 5
  have HP := Lib.hid (h3.put6_ hR3 h3.row (.bool true) (.bool true) (.int .i64 K') (.int .i64 H) (.int .i64 0) (.slice A3 3 c3))
  have HC := Lib.hid (put6_cel hR3 (.bool true) (.bool true) (.int .i64 K') (.int .i64 H) (.int .i64 0) (.slice A3 3 c3))
  have HRd := Lib.hid (Rd.off_put6 rd3 hR3 (.bool true) (.bool true) (.int .i64 K') (.int .i64 H) (.int .i64 0) (.slice A3 3 c3))
  have HOn := Lib.hid (only_put6 o3 (Nat.le_refl _) (.bool true) (.bool true) (.int .i64 K') (.int .i64 H) (.int .i64 0) (.slice A3 3 c3))
  clear h3 rd3 o3 hR3
  go_wp2
  exact bodyPost_ret (nx_results rfl rfl HC.out) rfl ⟨⟨_, _, rfl, HRd.out⟩, HP.out, HOn.out⟩

set_option maxRecDepth 100000 in
set_option maxHeartbeats 4000000 in
theorem next_held (n : Int) (us : List (List Byte)) (fl fr ac st rp tm nw : Int) (w : World) (B g : Nat) (v : Value) (K' H W T R : Int) (s : Fs) (h : FW w B g v K' H W T R s) (hs : adv n s = ⟨us, fl, fr, ac, st, 0, rp, tm, nw⟩) (h1' : st ≠ 1) :
    Calls Try.prog 14 #[.pointer (some ⟨g, 0, none⟩), .int .i64 n] w fun e w' => (e = .returned (.tuple #[.agg #[.bool false, .bool false, .int .i64 0, .int .i64 0, .int .i64 0, .slice none 0 0], .bool false])) ∧ FW w' B g v K' H W T R ⟨us, fl, fr, ac, st, 0, rp, tm, nw⟩ ∧ Only [g] w w' := by
  obtain ⟨w1, hw1⟩ : ∃ w1, w1 = w.alloc (.cells #[.bool false, .bool false, .int .i64 0, .int .i64 0, .int .i64 0, .slice none 0 0] 43) := ⟨_, rfl⟩
  have b1 : Below w.heap.size w w1 := by rw [hw1]; exact bel_new _ _
  have hR1 : Cel w1 w.heap.size 43 #[.bool false, .bool false, .int .i64 0, .int .i64 0, .int .i64 0, .slice none 0 0] := by rw [hw1]; exact Cel.new _ _ _
  have h1 := h.below b1
  have hgl := h.cel.lt
  have x1 := fopworks_any w1 B g v K' H W T R s h1
  have x2 := advance_any n w1 B g v K' H W T R s h1
  rw [hs] at x2
  clear hs h h1
  go_enter Try.func14, Try.ntmps14
  go_wp2_with fail
  rw [← hw1]
  clear hw1
  refine x1.mono ?_
  rintro e w2 ⟨rfl, rfl⟩
  clear x1
  go_wp2_with fail
  refine x2.mono ?_
  rintro e w2 ⟨rfl, h2, k2⟩
  clear x2
  have o2 : Only [g] w w2 := only_then (Only.of_below b1) k2
  have hR2 := hR1.only k2 (by simp; omega)
  clear k2 b1 hR1
  have c10 := h2.cel.c10
  dsimp only at c10
  have c9 := h2.cel.c9
  dsimp only at c9
  have t1 : (st != 1) = true := by simpa using h1'
  clear h1'
  have r0 := hR2.cell 0
  have r1 := hR2.cell 1
  have r2 := hR2.cell 2
  have r3 := hR2.cell 3
  have r4 := hR2.cell 4
  have r5 := hR2.cell 5
  simp at r0 r1 r2 r3 r4 r5
  have k0 := hR2.free 0
  have k1 := hR2.free 1
  have k2 := hR2.free 2
  have k3 := hR2.free 3
  have k4 := hR2.free 4
  have k5 := hR2.free 5
  have HP := Lib.hid (h2.put6_ hR2 h2.row (.bool false) (.bool false) (.int .i64 0) (.int .i64 0) (.int .i64 0) (.slice none 0 0))
  have HC := Lib.hid (put6_cel hR2 (.bool false) (.bool false) (.int .i64 0) (.int .i64 0) (.int .i64 0) (.slice none 0 0))
  have HOn := Lib.hid (only_put6 o2 (Nat.le_refl _) (.bool false) (.bool false) (.int .i64 0) (.int .i64 0) (.int .i64 0) (.slice none 0 0))
  clear h2 o2 hR2
  go_wp2
  exact bodyPost_ret (nx_results rfl rfl HC.out) rfl ⟨rfl, HP.out, HOn.out⟩

set_option maxRecDepth 100000 in
set_option maxHeartbeats 4000000 in
theorem next_empty (n : Int) (fl fr ac rp tm nw : Int) (w : World) (B g : Nat) (v : Value) (K' H W T R : Int) (s : Fs) (h : FW w B g v K' H W T R s) (hs : adv n s = ⟨[], fl, fr, ac, 1, 0, rp, tm, nw⟩)  :
    Calls Try.prog 14 #[.pointer (some ⟨g, 0, none⟩), .int .i64 n] w fun e w' => (e = .returned (.tuple #[.agg #[.bool false, .bool false, .int .i64 0, .int .i64 0, .int .i64 0, .slice none 0 0], .bool false])) ∧ FW w' B g v K' H W T R ⟨[], fl, fr, ac, 1, 0, rp, tm, nw⟩ ∧ Only [g] w w' := by
  obtain ⟨w1, hw1⟩ : ∃ w1, w1 = w.alloc (.cells #[.bool false, .bool false, .int .i64 0, .int .i64 0, .int .i64 0, .slice none 0 0] 43) := ⟨_, rfl⟩
  have b1 : Below w.heap.size w w1 := by rw [hw1]; exact bel_new _ _
  have hR1 : Cel w1 w.heap.size 43 #[.bool false, .bool false, .int .i64 0, .int .i64 0, .int .i64 0, .slice none 0 0] := by rw [hw1]; exact Cel.new _ _ _
  have h1 := h.below b1
  have hgl := h.cel.lt
  have x1 := fopworks_any w1 B g v K' H W T R s h1
  have x2 := advance_any n w1 B g v K' H W T R s h1
  rw [hs] at x2
  clear hs h h1
  go_enter Try.func14, Try.ntmps14
  go_wp2_with fail
  rw [← hw1]
  clear hw1
  refine x1.mono ?_
  rintro e w2 ⟨rfl, rfl⟩
  clear x1
  go_wp2_with fail
  refine x2.mono ?_
  rintro e w2 ⟨rfl, h2, k2⟩
  clear x2
  have o2 : Only [g] w w2 := only_then (Only.of_below b1) k2
  have hR2 := hR1.only k2 (by simp; omega)
  clear k2 b1 hR1
  have c10 := h2.cel.c10
  dsimp only at c10
  have c9 := h2.cel.c9
  have c1 := h2.cel.c1
  obtain ⟨A, c, rfl, _, _, _, _⟩ := h2.len (n := 0) rfl
  dsimp only at c9
  have r0 := hR2.cell 0
  have r1 := hR2.cell 1
  have r2 := hR2.cell 2
  have r3 := hR2.cell 3
  have r4 := hR2.cell 4
  have r5 := hR2.cell 5
  simp at r0 r1 r2 r3 r4 r5
  have k0 := hR2.free 0
  have k1 := hR2.free 1
  have k2 := hR2.free 2
  have k3 := hR2.free 3
  have k4 := hR2.free 4
  have k5 := hR2.free 5
  have HP := Lib.hid (h2.put6_ hR2 h2.row (.bool false) (.bool false) (.int .i64 0) (.int .i64 0) (.int .i64 0) (.slice none 0 0))
  have HC := Lib.hid (put6_cel hR2 (.bool false) (.bool false) (.int .i64 0) (.int .i64 0) (.int .i64 0) (.slice none 0 0))
  have HOn := Lib.hid (only_put6 o2 (Nat.le_refl _) (.bool false) (.bool false) (.int .i64 0) (.int .i64 0) (.int .i64 0) (.slice none 0 0))
  clear h2 o2 hR2
  go_wp2
  exact bodyPost_ret (nx_results rfl rfl HC.out) rfl ⟨rfl, HP.out, HOn.out⟩

set_option maxRecDepth 100000 in
set_option maxHeartbeats 4000000 in
theorem next_ready (n : Int) (us : List (List Byte)) (fl fr ac rp tm nw : Int) (F : Nat) (l : List Byte) (w : World) (B g : Nat) (v : Value) (K' H W T R : Int) (s : Fs) (h : FW w B g v K' H W T R s) (hs : adv n s = ⟨us, fl, fr, ac, 1, 0, rp, tm, nw⟩) (hus : Hid (us.length ≠ 0)) (hF : Hid (fl = (F : Int))) (hl : Hid (us[F]? = some l)) (hrd : Hid (fl < min W us.length)) :
    Calls Try.prog 14 #[.pointer (some ⟨g, 0, none⟩), .int .i64 n] w fun e w' => (∃ b c, e = .returned (.tuple #[.agg #[.bool false, .bool false, .int .i64 K', .int .i64 H, .int .i64 ((ac + fl) % 256), .slice (some ⟨b, 0, none⟩) l.length c], .bool true]) ∧ Rd w' (some ⟨b, 0, none⟩) l l.length c ∧ w.heap.size ≤ b) ∧ FW w' B g v K' H W T R ⟨us, fl + 1, max fr (fl + 1), ac, 1, 0, rp, nw, nw⟩ ∧ Only [g] w w' := by
  obtain ⟨w1, hw1⟩ : ∃ w1, w1 = w.alloc (.cells #[.bool false, .bool false, .int .i64 0, .int .i64 0, .int .i64 0, .slice none 0 0] 43) := ⟨_, rfl⟩
  have b1 : Below w.heap.size w w1 := by rw [hw1]; exact bel_new _ _
  have hR1 : Cel w1 w.heap.size 43 #[.bool false, .bool false, .int .i64 0, .int .i64 0, .int .i64 0, .slice none 0 0] := by rw [hw1]; exact Cel.new _ _ _
  have h1 := h.below b1
  have hgl := h.cel.lt
  have x1 := fopworks_any w1 B g v K' H W T R s h1
  have x2 := advance_any n w1 B g v K' H W T R s h1
  rw [hs] at x2
  obtain ⟨Q, hQ'⟩ : ∃ Q, Q = (ac + fl) % 256 := ⟨_, rfl⟩
  rw [← hQ']
  obtain ⟨M, hM'⟩ : ∃ M, M = l.length := ⟨_, rfl⟩
  rw [← hM']
  have hQ := Lib.hid hQ'
  have hM := Lib.hid hM'
  clear hQ' hM'
  clear hs h h1
  go_enter Try.func14, Try.ntmps14
  go_wp2_with fail
  rw [← hw1]
  clear hw1
  refine x1.mono ?_
  rintro e w2 ⟨rfl, rfl⟩
  clear x1
  go_wp2_with fail
  refine x2.mono ?_
  rintro e w2 ⟨rfl, h2, k2⟩
  clear x2
  have o2 : Only [g] w w2 := only_then (Only.of_below b1) k2
  have hR2 := hR1.only k2 (by simp; omega)
  clear k2 b1 hR1
  have c10 := h2.cel.c10
  dsimp only at c10
  have c9 := h2.cel.c9
  have c1 := h2.cel.c1
  obtain ⟨U, hU⟩ : ∃ U, us.length = U := ⟨_, rfl⟩
  obtain ⟨A, c, hv, _, _, _, _⟩ := h2.len (n := U) hU
  rw [hv] at c1
  dsimp only at c9
  have hus' := hus.out
  have t1 : ((U : Int) == 0) = false := by simp; omega
  have t2 : (U == 0) = false := by simp; omega
  have t3 : decide (U = 0) = false := by simp; omega
  have x3 := ready_any w2 B g v K' H W T R _ h2
  dsimp only at x3
  rw [decide_eq_true hrd.out] at x3
  clear hrd hv hus'
  go_wp2_with fail
  refine x3.mono ?_
  rintro e w3 ⟨rfl, m, rfl⟩
  clear x3 c10 c9 c1 t1 t2 t3
  have h3 := h2.draws m
  have hR3 := hR2.draws m
  have o3 := o2.draws m
  obtain ⟨w3, hw3⟩ : ∃ w3, w3 = w2.drewN m := ⟨_, rfl⟩
  rw [← hw3] at h3 hR3 o3 ⊢
  clear h2 hR2 o2 hw3
  have d13 := h3.cel.c13
  have d12 := h3.cel.c12
  have g12 := h3.cel.free 12
  dsimp only at d13 d12
  have hok4 : (⟨us, fl, fr, ac, 1, 0, rp, nw, nw⟩ : Fs).Ok R := ⟨h3.ok.f0, h3.ok.f1, h3.ok.f2, h3.ok.u, h3.ok.a0, h3.ok.s1, h3.ok.s4, h3.ok.c0, h3.ok.c2, h3.ok.cf, h3.ok.r0, h3.ok.r1, Int.le_trans h3.ok.t0 h3.ok.t1, Int.le_refl _, h3.ok.n1, h3.ok.ul⟩
  have h4 : FW (w3.setCell ⟨g, 12, none⟩ (.int .i64 nw)) B g v K' H W T R ⟨us, fl, fr, ac, 1, 0, rp, nw, nw⟩ := h3.self (put_only w3 g 12 _) (h3.cel.tm nw) rfl hok4
  have o4 := only_put o3 12 (.int .i64 nw)
  have hR4 : Cel (w3.setCell ⟨g, 12, none⟩ (.int .i64 nw)) w.heap.size 43 #[.bool false, .bool false, .int .i64 0, .int .i64 0, .int .i64 0, .slice none 0 0] := hR3.only (put_only w3 g 12 _) (by simp; omega)
  have hlm := hok4.ul l (List.mem_of_getElem? hl.out)
  have x5 := launch_any F l.length l (w3.setCell ⟨g, 12, none⟩ (.int .i64 nw)) B g v K' H W T R ⟨us, fl, fr, ac, 1, 0, rp, nw, nw⟩ h4 hF.out hl.out rfl hlm.2 (fun hx => absurd hx (by decide : ¬ (0 : Int) < 0))
  dsimp only at x5
  rw [← hQ.out, ← hM.out] at x5
  clear hok4 h3 o3 hR3 hl hlm hQ hM
  go_wp2_with fail
  refine x5.mono ?_
  rintro e w5 ⟨⟨b5, c5, rfl, rd5, nb5⟩, h5, k5⟩
  have HN := Lib.hid (Nat.le_trans o4.size nb5)
  clear x5 d13 d12 g12 nb5
  have hR5 := hR4.only k5 (by simp; omega)
  have o5 := only_then o4 k5
  clear hR4 o4 k5 h4
  go_wp2_with fail
  refine (frame_any Q (some ⟨b5, 0, none⟩) M c5 w5 g v K' H W T R _ h5.cel).mono ?_
  rintro e w6 ⟨rfl, b6⟩
  have h6 := h5.below b6
  have hR6 := Cel.later hR5 b6
  have rd6 := rd5.later b6
  have o6 := only_then o5 (Only.of_below b6)
  clear h5 hR5 rd5 o5 b6
  have r0 := hR6.cell 0
  have r1 := hR6.cell 1
  have r2 := hR6.cell 2
  have r3 := hR6.cell 3
  have r4 := hR6.cell 4
  have r5 := hR6.cell 5
  simp at r0 r1 r2 r3 r4 r5
  have k0 := hR6.free 0
  have k1 := hR6.free 1
  have k2 := hR6.free 2
  have k3 := hR6.free 3
  have k4 := hR6.free 4
  have k5 := hR6.free 5
  have HP := Lib.hid (h6.put6_ hR6 h6.row (.bool false) (.bool false) (.int .i64 K') (.int .i64 H) (.int .i64 Q) (.slice (some ⟨b5, 0, none⟩) M c5))
  have HC := Lib.hid (put6_cel hR6 (.bool false) (.bool false) (.int .i64 K') (.int .i64 H) (.int .i64 Q) (.slice (some ⟨b5, 0, none⟩) M c5))
  have HRd := Lib.hid (Rd.off_put6 rd6 hR6 (.bool false) (.bool false) (.int .i64 K') (.int .i64 H) (.int .i64 Q) (.slice (some ⟨b5, 0, none⟩) M c5))
  have HOn := Lib.hid (only_put6 o6 (Nat.le_refl _) (.bool false) (.bool false) (.int .i64 K') (.int .i64 H) (.int .i64 Q) (.slice (some ⟨b5, 0, none⟩) M c5))
  clear h6 rd6 o6 hR6
  go_wp2
  exact bodyPost_ret (nx_results rfl rfl HC.out) rfl ⟨⟨_, _, rfl, HRd.out, HN.out⟩, HP.out, HOn.out⟩

set_option maxRecDepth 100000 in
set_option maxHeartbeats 4000000 in
theorem next_wait (n : Int) (us : List (List Byte)) (fl fr ac rp tm nw : Int) (w : World) (B g : Nat) (v : Value) (K' H W T R : Int) (s : Fs) (h : FW w B g v K' H W T R s) (hs : adv n s = ⟨us, fl, fr, ac, 1, 0, rp, tm, nw⟩) (hus : Hid (us.length ≠ 0)) (hrd : Hid (min W us.length ≤ fl)) (hT : Hid (nw - tm < T)) :
    Calls Try.prog 14 #[.pointer (some ⟨g, 0, none⟩), .int .i64 n] w fun e w' => (e = .returned (.tuple #[.agg #[.bool false, .bool false, .int .i64 0, .int .i64 0, .int .i64 0, .slice none 0 0], .bool false])) ∧ FW w' B g v K' H W T R ⟨us, fl, fr, ac, 1, 0, rp, tm, nw⟩ ∧ Only [g] w w' := by
  obtain ⟨w1, hw1⟩ : ∃ w1, w1 = w.alloc (.cells #[.bool false, .bool false, .int .i64 0, .int .i64 0, .int .i64 0, .slice none 0 0] 43) := ⟨_, rfl⟩
  have b1 : Below w.heap.size w w1 := by rw [hw1]; exact bel_new _ _
  have hR1 : Cel w1 w.heap.size 43 #[.bool false, .bool false, .int .i64 0, .int .i64 0, .int .i64 0, .slice none 0 0] := by rw [hw1]; exact Cel.new _ _ _
  have h1 := h.below b1
  have hgl := h.cel.lt
  have x1 := fopworks_any w1 B g v K' H W T R s h1
  have x2 := advance_any n w1 B g v K' H W T R s h1
  rw [hs] at x2
  clear hs h h1
  go_enter Try.func14, Try.ntmps14
  go_wp2_with fail
  rw [← hw1]
  clear hw1
  refine x1.mono ?_
  rintro e w2 ⟨rfl, rfl⟩
  clear x1
  go_wp2_with fail
  refine x2.mono ?_
  rintro e w2 ⟨rfl, h2, k2⟩
  clear x2
  have o2 : Only [g] w w2 := only_then (Only.of_below b1) k2
  have hR2 := hR1.only k2 (by simp; omega)
  clear k2 b1 hR1
  have c10 := h2.cel.c10
  dsimp only at c10
  have c9 := h2.cel.c9
  have c1 := h2.cel.c1
  obtain ⟨U, hU⟩ : ∃ U, us.length = U := ⟨_, rfl⟩
  obtain ⟨A, c, hv, _, _, _, _⟩ := h2.len (n := U) hU
  rw [hv] at c1
  dsimp only at c9
  have hus' := hus.out
  have t1 : ((U : Int) == 0) = false := by simp; omega
  have t2 : (U == 0) = false := by simp; omega
  have t3 : decide (U = 0) = false := by simp; omega
  have x3 := ready_any w2 B g v K' H W T R _ h2
  dsimp only at x3
  rw [decide_eq_false (Int.not_lt.2 hrd.out)] at x3
  clear hrd hv hus'
  go_wp2_with fail
  refine x3.mono ?_
  rintro e w3 ⟨rfl, m, rfl⟩
  clear x3 c10 c9 c1 t1 t2 t3
  have h3 := h2.draws m
  have hR3 := hR2.draws m
  have o3 := o2.draws m
  obtain ⟨w3, hw3⟩ : ∃ w3, w3 = w2.drewN m := ⟨_, rfl⟩
  rw [← hw3] at h3 hR3 o3 ⊢
  clear h2 hR2 o2 hw3
  have x4 := repeat_any w3 B g v K' H W T R _ h3
  have e4 : rpe T R ⟨us, fl, fr, ac, 1, 0, rp, tm, nw⟩ = (false, ⟨us, fl, fr, ac, 1, 0, rp, tm, nw⟩) := by unfold rpe; dsimp only; rw [if_pos hT.out]
  rw [e4] at x4
  dsimp only at x4
  clear e4 hT
  go_wp2_with fail
  refine x4.mono ?_
  rintro e w4 ⟨rfl, h4, k4⟩
  have hR4 := hR3.only k4 (by simp; omega)
  have o4 := only_then o3 k4
  clear x4 hR3 o3 k4 h3
  have r0 := hR4.cell 0
  have r1 := hR4.cell 1
  have r2 := hR4.cell 2
  have r3 := hR4.cell 3
  have r4 := hR4.cell 4
  have r5 := hR4.cell 5
  simp at r0 r1 r2 r3 r4 r5
  have k0 := hR4.free 0
  have k1 := hR4.free 1
  have k2 := hR4.free 2
  have k3 := hR4.free 3
  have k4 := hR4.free 4
  have k5 := hR4.free 5
  have HP := Lib.hid (h4.put6_ hR4 h4.row (.bool false) (.bool false) (.int .i64 0) (.int .i64 0) (.int .i64 0) (.slice none 0 0))
  have HC := Lib.hid (put6_cel hR4 (.bool false) (.bool false) (.int .i64 0) (.int .i64 0) (.int .i64 0) (.slice none 0 0))
  have HOn := Lib.hid (only_put6 o4 (Nat.le_refl _) (.bool false) (.bool false) (.int .i64 0) (.int .i64 0) (.int .i64 0) (.slice none 0 0))
  clear h4 o4 hR4
  go_wp2
  exact bodyPost_ret (nx_results rfl rfl HC.out) rfl ⟨rfl, HP.out, HOn.out⟩

set_option maxRecDepth 100000 in
set_option maxHeartbeats 4000000 in
theorem next_stop (n : Int) (us : List (List Byte)) (fl fr ac rp tm nw : Int) (w : World) (B g : Nat) (v : Value) (K' H W T R : Int) (s : Fs) (h : FW w B g v K' H W T R s) (hs : adv n s = ⟨us, fl, fr, ac, 1, 0, rp, tm, nw⟩) (hus : Hid (us.length ≠ 0)) (hrd : Hid (min W us.length ≤ fl)) (hT : Hid (T ≤ nw - tm)) (hRr : Hid (rp = R)) :
    Calls Try.prog 14 #[.pointer (some ⟨g, 0, none⟩), .int .i64 n] w fun e w' => (e = .returned (.tuple #[.agg #[.bool false, .bool false, .int .i64 0, .int .i64 0, .int .i64 0, .slice none 0 0], .bool false])) ∧ FW w' B g v K' H W T R ⟨us, fl, fr, ac, 4, 0, rp, tm, nw⟩ ∧ Only [g] w w' := by
  obtain ⟨w1, hw1⟩ : ∃ w1, w1 = w.alloc (.cells #[.bool false, .bool false, .int .i64 0, .int .i64 0, .int .i64 0, .slice none 0 0] 43) := ⟨_, rfl⟩
  have b1 : Below w.heap.size w w1 := by rw [hw1]; exact bel_new _ _
  have hR1 : Cel w1 w.heap.size 43 #[.bool false, .bool false, .int .i64 0, .int .i64 0, .int .i64 0, .slice none 0 0] := by rw [hw1]; exact Cel.new _ _ _
  have h1 := h.below b1
  have hgl := h.cel.lt
  have x1 := fopworks_any w1 B g v K' H W T R s h1
  have x2 := advance_any n w1 B g v K' H W T R s h1
  rw [hs] at x2
  clear hs h h1
  go_enter Try.func14, Try.ntmps14
  go_wp2_with fail
  rw [← hw1]
  clear hw1
  refine x1.mono ?_
  rintro e w2 ⟨rfl, rfl⟩
  clear x1
  go_wp2_with fail
  refine x2.mono ?_
  rintro e w2 ⟨rfl, h2, k2⟩
  clear x2
  have o2 : Only [g] w w2 := only_then (Only.of_below b1) k2
  have hR2 := hR1.only k2 (by simp; omega)
  clear k2 b1 hR1
  have c10 := h2.cel.c10
  dsimp only at c10
  have c9 := h2.cel.c9
  have c1 := h2.cel.c1
  obtain ⟨U, hU⟩ : ∃ U, us.length = U := ⟨_, rfl⟩
  obtain ⟨A, c, hv, _, _, _, _⟩ := h2.len (n := U) hU
  rw [hv] at c1
  dsimp only at c9
  have hus' := hus.out
  have t1 : ((U : Int) == 0) = false := by simp; omega
  have t2 : (U == 0) = false := by simp; omega
  have t3 : decide (U = 0) = false := by simp; omega
  have x3 := ready_any w2 B g v K' H W T R _ h2
  dsimp only at x3
  rw [decide_eq_false (Int.not_lt.2 hrd.out)] at x3
  clear hrd hv hus'
  go_wp2_with fail
  refine x3.mono ?_
  rintro e w3 ⟨rfl, m, rfl⟩
  clear x3 c10 c9 c1 t1 t2 t3
  have h3 := h2.draws m
  have hR3 := hR2.draws m
  have o3 := o2.draws m
  obtain ⟨w3, hw3⟩ : ∃ w3, w3 = w2.drewN m := ⟨_, rfl⟩
  rw [← hw3] at h3 hR3 o3 ⊢
  clear h2 hR2 o2 hw3
  have x4 := repeat_any w3 B g v K' H W T R _ h3
  have e4 : rpe T R ⟨us, fl, fr, ac, 1, 0, rp, tm, nw⟩ = (false, ⟨us, fl, fr, ac, 4, 0, rp, tm, nw⟩) := by unfold rpe; dsimp only; rw [if_neg (Int.not_lt.2 hT.out), if_pos hRr.out]
  rw [e4] at x4
  dsimp only at x4
  clear e4 hT hRr
  go_wp2_with fail
  refine x4.mono ?_
  rintro e w4 ⟨rfl, h4, k4⟩
  have hR4 := hR3.only k4 (by simp; omega)
  have o4 := only_then o3 k4
  clear x4 hR3 o3 k4 h3
  have r0 := hR4.cell 0
  have r1 := hR4.cell 1
  have r2 := hR4.cell 2
  have r3 := hR4.cell 3
  have r4 := hR4.cell 4
  have r5 := hR4.cell 5
  simp at r0 r1 r2 r3 r4 r5
  have k0 := hR4.free 0
  have k1 := hR4.free 1
  have k2 := hR4.free 2
  have k3 := hR4.free 3
  have k4 := hR4.free 4
  have k5 := hR4.free 5
  have HP := Lib.hid (h4.put6_ hR4 h4.row (.bool false) (.bool false) (.int .i64 0) (.int .i64 0) (.int .i64 0) (.slice none 0 0))
  have HC := Lib.hid (put6_cel hR4 (.bool false) (.bool false) (.int .i64 0) (.int .i64 0) (.int .i64 0) (.slice none 0 0))
  have HOn := Lib.hid (only_put6 o4 (Nat.le_refl _) (.bool false) (.bool false) (.int .i64 0) (.int .i64 0) (.int .i64 0) (.slice none 0 0))
  clear h4 o4 hR4
  go_wp2
  exact bodyPost_ret (nx_results rfl rfl HC.out) rfl ⟨rfl, HP.out, HOn.out⟩

set_option maxRecDepth 100000 in
set_option maxHeartbeats 4000000 in
theorem next_again (n : Int) (us : List (List Byte)) (fl fr ac rp tm nw : Int) (l : List Byte) (w : World) (B g : Nat) (v : Value) (K' H W T R : Int) (s : Fs) (h : FW w B g v K' H W T R s) (hs : adv n s = ⟨us, fl, fr, ac, 1, 0, rp, tm, nw⟩) (hus : Hid (us.length ≠ 0)) (hl : Hid (us[0]? = some l)) (hrd : Hid (min W us.length ≤ fl)) (hT : Hid (T ≤ nw - tm)) (hRr : Hid (rp ≠ R)) :
    Calls Try.prog 14 #[.pointer (some ⟨g, 0, none⟩), .int .i64 n] w fun e w' => (∃ b c, e = .returned (.tuple #[.agg #[.bool false, .bool false, .int .i64 K', .int .i64 H, .int .i64 ((ac + 0) % 256), .slice (some ⟨b, 0, none⟩) l.length c], .bool true]) ∧ Rd w' (some ⟨b, 0, none⟩) l l.length c ∧ w.heap.size ≤ b) ∧ FW w' B g v K' H W T R ⟨us, 0 + 1, max fr (0 + 1), ac, 1, 0, rp + 1, nw, nw⟩ ∧ Only [g] w w' := by
  obtain ⟨w1, hw1⟩ : ∃ w1, w1 = w.alloc (.cells #[.bool false, .bool false, .int .i64 0, .int .i64 0, .int .i64 0, .slice none 0 0] 43) := ⟨_, rfl⟩
  have b1 : Below w.heap.size w w1 := by rw [hw1]; exact bel_new _ _
  have hR1 : Cel w1 w.heap.size 43 #[.bool false, .bool false, .int .i64 0, .int .i64 0, .int .i64 0, .slice none 0 0] := by rw [hw1]; exact Cel.new _ _ _
  have h1 := h.below b1
  have hgl := h.cel.lt
  have x1 := fopworks_any w1 B g v K' H W T R s h1
  have x2 := advance_any n w1 B g v K' H W T R s h1
  rw [hs] at x2
  obtain ⟨Q, hQ'⟩ : ∃ Q, Q = (ac + 0) % 256 := ⟨_, rfl⟩
  rw [← hQ']
  obtain ⟨M, hM'⟩ : ∃ M, M = l.length := ⟨_, rfl⟩
  rw [← hM']
  have hQ := Lib.hid hQ'
  have hM := Lib.hid hM'
  clear hQ' hM'
  clear hs h h1
  go_enter Try.func14, Try.ntmps14
  go_wp2_with fail
  rw [← hw1]
  clear hw1
  refine x1.mono ?_
  rintro e w2 ⟨rfl, rfl⟩
  clear x1
  go_wp2_with fail
  refine x2.mono ?_
  rintro e w2 ⟨rfl, h2, k2⟩
  clear x2
  have o2 : Only [g] w w2 := only_then (Only.of_below b1) k2
  have hR2 := hR1.only k2 (by simp; omega)
  clear k2 b1 hR1
  have c10 := h2.cel.c10
  dsimp only at c10
  have c9 := h2.cel.c9
  have c1 := h2.cel.c1
  obtain ⟨U, hU⟩ : ∃ U, us.length = U := ⟨_, rfl⟩
  obtain ⟨A, c, hv, _, _, _, _⟩ := h2.len (n := U) hU
  rw [hv] at c1
  dsimp only at c9
  have hus' := hus.out
  have t1 : ((U : Int) == 0) = false := by simp; omega
  have t2 : (U == 0) = false := by simp; omega
  have t3 : decide (U = 0) = false := by simp; omega
  have x3 := ready_any w2 B g v K' H W T R _ h2
  dsimp only at x3
  rw [decide_eq_false (Int.not_lt.2 hrd.out)] at x3
  clear hrd hv hus'
  go_wp2_with fail
  refine x3.mono ?_
  rintro e w3 ⟨rfl, m, rfl⟩
  clear x3 c10 c9 c1 t1 t2 t3
  have h3 := h2.draws m
  have hR3 := hR2.draws m
  have o3 := o2.draws m
  obtain ⟨w3, hw3⟩ : ∃ w3, w3 = w2.drewN m := ⟨_, rfl⟩
  rw [← hw3] at h3 hR3 o3 ⊢
  clear h2 hR2 o2 hw3
  have x4 := repeat_any w3 B g v K' H W T R _ h3
  have e4 : rpe T R ⟨us, fl, fr, ac, 1, 0, rp, tm, nw⟩ = (true, ⟨us, 0, fr, ac, 1, 0, rp + 1, tm, nw⟩) := by unfold rpe; dsimp only; rw [if_neg (Int.not_lt.2 hT.out), if_neg hRr.out]
  rw [e4] at x4
  dsimp only at x4
  clear e4 hT hRr
  go_wp2_with fail
  refine x4.mono ?_
  rintro e w4 ⟨rfl, h4', k4⟩
  have hR4' := hR3.only k4 (by simp; omega)
  have o4' := only_then o3 k4
  have hF : Hid ((0 : Int) = ((0 : Nat) : Int)) := Lib.hid rfl
  clear x4 hR3 o3 k4 h3
  have d13 := h4'.cel.c13
  have d12 := h4'.cel.c12
  have g12 := h4'.cel.free 12
  dsimp only at d13 d12
  have hok4 : (⟨us, 0, fr, ac, 1, 0, rp + 1, nw, nw⟩ : Fs).Ok R := ⟨h4'.ok.f0, h4'.ok.f1, h4'.ok.f2, h4'.ok.u, h4'.ok.a0, h4'.ok.s1, h4'.ok.s4, h4'.ok.c0, h4'.ok.c2, h4'.ok.cf, h4'.ok.r0, h4'.ok.r1, Int.le_trans h4'.ok.t0 h4'.ok.t1, Int.le_refl _, h4'.ok.n1, h4'.ok.ul⟩
  have h4 : FW (w4.setCell ⟨g, 12, none⟩ (.int .i64 nw)) B g v K' H W T R ⟨us, 0, fr, ac, 1, 0, rp + 1, nw, nw⟩ := h4'.self (put_only w4 g 12 _) (h4'.cel.tm nw) rfl hok4
  have o4 := only_put o4' 12 (.int .i64 nw)
  have hR4 : Cel (w4.setCell ⟨g, 12, none⟩ (.int .i64 nw)) w.heap.size 43 #[.bool false, .bool false, .int .i64 0, .int .i64 0, .int .i64 0, .slice none 0 0] := hR4'.only (put_only w4 g 12 _) (by simp; omega)
  have hlm := hok4.ul l (List.mem_of_getElem? hl.out)
  have x5 := launch_any 0 l.length l (w4.setCell ⟨g, 12, none⟩ (.int .i64 nw)) B g v K' H W T R ⟨us, 0, fr, ac, 1, 0, rp + 1, nw, nw⟩ h4 hF.out hl.out rfl hlm.2 (fun hx => absurd hx (by decide : ¬ (0 : Int) < 0))
  dsimp only at x5
  rw [← hQ.out, ← hM.out] at x5
  clear hok4 h4' o4' hR4' hl hlm hQ hM
  go_wp2_with fail
  refine x5.mono ?_
  rintro e w5 ⟨⟨b5, c5, rfl, rd5, nb5⟩, h5, k5⟩
  have HN := Lib.hid (Nat.le_trans o4.size nb5)
  clear x5 d13 d12 g12 nb5
  have hR5 := hR4.only k5 (by simp; omega)
  have o5 := only_then o4 k5
  clear hR4 o4 k5 h4
  go_wp2_with fail
  refine (frame_any Q (some ⟨b5, 0, none⟩) M c5 w5 g v K' H W T R _ h5.cel).mono ?_
  rintro e w6 ⟨rfl, b6⟩
  have h6 := h5.below b6
  have hR6 := Cel.later hR5 b6
  have rd6 := rd5.later b6
  have o6 := only_then o5 (Only.of_below b6)
  clear h5 hR5 rd5 o5 b6
  have r0 := hR6.cell 0
  have r1 := hR6.cell 1
  have r2 := hR6.cell 2
  have r3 := hR6.cell 3
  have r4 := hR6.cell 4
  have r5 := hR6.cell 5
  simp at r0 r1 r2 r3 r4 r5
  have k0 := hR6.free 0
  have k1 := hR6.free 1
  have k2 := hR6.free 2
  have k3 := hR6.free 3
  have k4 := hR6.free 4
  have k5 := hR6.free 5
  have HP := Lib.hid (h6.put6_ hR6 h6.row (.bool false) (.bool false) (.int .i64 K') (.int .i64 H) (.int .i64 Q) (.slice (some ⟨b5, 0, none⟩) M c5))
  have HC := Lib.hid (put6_cel hR6 (.bool false) (.bool false) (.int .i64 K') (.int .i64 H) (.int .i64 Q) (.slice (some ⟨b5, 0, none⟩) M c5))
  have HRd := Lib.hid (Rd.off_put6 rd6 hR6 (.bool false) (.bool false) (.int .i64 K') (.int .i64 H) (.int .i64 Q) (.slice (some ⟨b5, 0, none⟩) M c5))
  have HOn := Lib.hid (only_put6 o6 (Nat.le_refl _) (.bool false) (.bool false) (.int .i64 K') (.int .i64 H) (.int .i64 Q) (.slice (some ⟨b5, 0, none⟩) M c5))
  clear h6 rd6 o6 hR6
  go_wp2
  exact bodyPost_ret (nx_results rfl rfl HC.out) rfl ⟨⟨_, _, rfl, HRd.out, HN.out⟩, HP.out, HOn.out⟩

/-- the frame as a value, with its data at address A -/
def frV (F : Fr) (A : Option Addr) (m c : Nat) : Value := .agg #[.bool F.byp, .bool F.con, .int .i64 F.cr, .int .i64 F.ch, .int .i64 F.sq, .slice A m c]
theorem next_any (n : Int) (w : World) (B g : Nat) (v : Value) (K H W T R : Int) (s : Fs) (h : FW w B g v K H W T R s) {F : Fr} {ok : Bool} {s' : Fs} (hN : nxt K H W T R n s = ((F, ok), s')) {m : Nat} (hm : F.d.length = m) :
    Calls Try.prog 14 #[.pointer (some ⟨g, 0, none⟩), .int .i64 n] w fun e w' => (∃ A c, e = .returned (.tuple #[.agg #[.bool F.byp, .bool F.con, .int .i64 F.cr, .int .i64 F.ch, .int .i64 F.sq, .slice A m c], .bool ok]) ∧ Rd w' A F.d m c ∧ (F.con = false → ok = true → ∃ b, A = some ⟨b, 0, none⟩ ∧ w.heap.size ≤ b)) ∧ FW w' B g v K H W T R s' ∧ Only [g] w w' := by
  subst hm
  have hok := adv_ok (n := n) h.ok
  have hw0 := h.p.w0
  obtain ⟨s1, hs1⟩ : ∃ s1, adv n s = s1 := ⟨_, rfl⟩
  unfold nxt at hN
  rw [hs1] at hN hok
  obtain ⟨us, fl, fr, ac, st, ct, rp, tm, nw⟩ := s1
  by_cases hct : 0 < ct
  · have e : nxc K H W T R ⟨us, fl, fr, ac, st, ct, rp, tm, nw⟩ = ((ctl K H ⟨us, fl, fr, ac, st, ct, rp, tm, nw⟩, true), ⟨us, fl, fr, ac, st, ct - 1, rp, tm, nw⟩) := by unfold nxc; rw [if_pos hct]
    rw [e] at hN
    cases hN
    have h2 : ct ≤ 2 := hok.c2
    rcases (show ct = 1 ∨ ct = 2 by omega) with rfl | rfl
    · exact (next_ctl1 n us fl fr ac st rp tm nw w B g v K H W T R s h hs1).mono fun _ _ ⟨⟨A, c, e, r⟩, f, o⟩ => ⟨⟨A, c, e, r, fun hc => nomatch hc⟩, f, o⟩
    · exact (next_ctl2 n us fl fr ac st rp tm nw w B g v K H W T R s h hs1).mono fun _ _ ⟨⟨A, c, e, r⟩, f, o⟩ => ⟨⟨A, c, e, r, fun hc => nomatch hc⟩, f, o⟩
  have h0 : 0 ≤ ct := hok.c0
  obtain rfl : ct = 0 := by omega
  have e0 : nxc K H W T R ⟨us, fl, fr, ac, st, 0, rp, tm, nw⟩ = nxd K H W T R ⟨us, fl, fr, ac, st, 0, rp, tm, nw⟩ := by unfold nxc; rw [if_neg hct]
  rw [e0] at hN
  by_cases hst : st = 1
  · subst hst
    by_cases hu : us.length = 0
    · obtain rfl : us = [] := List.eq_nil_of_length_eq_zero hu
      have e : nxd K H W T R ⟨[], fl, fr, ac, 1, 0, rp, tm, nw⟩ = ((zr, false), ⟨[], fl, fr, ac, 1, 0, rp, tm, nw⟩) := by unfold nxd; rw [if_pos (.inr rfl)]
      rw [e] at hN
      cases hN
      exact (next_empty n fl fr ac rp tm nw w B g v K H W T R s h hs1).mono fun _ w' ⟨e, f, o⟩ => ⟨⟨none, 0, e, rd_none w', fun _ hc => nomatch hc⟩, f, o⟩
    have hf0 : 0 ≤ fl := hok.f0
    have hz : ¬ ((1 : Int) ≠ 1 ∨ us.length = 0) := by omega
    by_cases hrd : fl < min W us.length
    · have e : nxd K H W T R ⟨us, fl, fr, ac, 1, 0, rp, tm, nw⟩ = ((lau K H ⟨us, fl, fr, ac, 1, 0, rp, tm, nw⟩, true), fly ⟨us, fl, fr, ac, 1, 0, rp, tm, nw⟩) := by unfold nxd; rw [if_neg hz, if_pos hrd]
      rw [e] at hN
      cases hN
      obtain ⟨F, hF⟩ : ∃ F : Nat, fl = (F : Int) := ⟨fl.toNat, by omega⟩
      obtain ⟨l, hl⟩ : ∃ l, us[F]? = some l := ⟨_, List.getElem?_eq_getElem (by omega)⟩
      have hd : (lau K H ⟨us, fl, fr, ac, 1, 0, rp, tm, nw⟩).d = l := by unfold lau; dsimp only; rw [hF, Int.toNat_natCast, List.getD_eq_getElem?_getD, hl]; rfl
      rw [hd]
      exact (next_ready n us fl fr ac rp tm nw F l w B g v K H W T R s h hs1 (Lib.hid hu) (Lib.hid hF) (Lib.hid hl) (Lib.hid hrd)).mono fun _ _ ⟨⟨b, c, e, r, hb⟩, f, o⟩ => ⟨⟨_, c, e, r, fun _ _ => ⟨b, rfl, hb⟩⟩, f, o⟩
    by_cases hT : nw - tm < T
    · have e : nxd K H W T R ⟨us, fl, fr, ac, 1, 0, rp, tm, nw⟩ = ((zr, false), ⟨us, fl, fr, ac, 1, 0, rp, tm, nw⟩) := by unfold nxd; rw [if_neg hz, if_neg hrd, if_pos hT]
      rw [e] at hN
      cases hN
      exact (next_wait n us fl fr ac rp tm nw w B g v K H W T R s h hs1 (Lib.hid hu) (Lib.hid (Int.not_lt.1 hrd)) (Lib.hid hT)).mono fun _ w' ⟨e, f, o⟩ => ⟨⟨none, 0, e, rd_none w', fun _ hc => nomatch hc⟩, f, o⟩
    by_cases hR : rp = R
    · have e : nxd K H W T R ⟨us, fl, fr, ac, 1, 0, rp, tm, nw⟩ = ((zr, false), ⟨us, fl, fr, ac, 4, 0, rp, tm, nw⟩) := by unfold nxd; rw [if_neg hz, if_neg hrd, if_neg hT, if_pos hR]
      rw [e] at hN
      cases hN
      exact (next_stop n us fl fr ac rp tm nw w B g v K H W T R s h hs1 (Lib.hid hu) (Lib.hid (Int.not_lt.1 hrd)) (Lib.hid (Int.not_lt.1 hT)) (Lib.hid hR)).mono fun _ w' ⟨e, f, o⟩ => ⟨⟨none, 0, e, rd_none w', fun _ hc => nomatch hc⟩, f, o⟩
    · have e : nxd K H W T R ⟨us, fl, fr, ac, 1, 0, rp, tm, nw⟩ = ((lau K H ⟨us, 0, fr, ac, 1, 0, rp + 1, tm, nw⟩, true), fly ⟨us, 0, fr, ac, 1, 0, rp + 1, tm, nw⟩) := by unfold nxd; rw [if_neg hz, if_neg hrd, if_neg hT, if_neg hR]
      rw [e] at hN
      cases hN
      obtain ⟨l, hl⟩ : ∃ l, us[0]? = some l := ⟨_, List.getElem?_eq_getElem (by omega)⟩
      have hd : (lau K H ⟨us, 0, fr, ac, 1, 0, rp + 1, tm, nw⟩).d = l := by unfold lau; dsimp only; rw [show (0 : Int).toNat = 0 from rfl, List.getD_eq_getElem?_getD, hl]; rfl
      rw [hd]
      exact (next_again n us fl fr ac rp tm nw l w B g v K H W T R s h hs1 (Lib.hid hu) (Lib.hid hl) (Lib.hid (Int.not_lt.1 hrd)) (Lib.hid (Int.not_lt.1 hT)) (Lib.hid hR)).mono fun _ _ ⟨⟨b, c, e, r, hb⟩, f, o⟩ => ⟨⟨_, c, e, r, fun _ _ => ⟨b, rfl, hb⟩⟩, f, o⟩
  · have e : nxd K H W T R ⟨us, fl, fr, ac, st, 0, rp, tm, nw⟩ = ((zr, false), ⟨us, fl, fr, ac, st, 0, rp, tm, nw⟩) := by unfold nxd; rw [if_pos (.inl hst)]
    rw [e] at hN
    cases hN
    exact (next_held n us fl fr ac st rp tm nw w B g v K H W T R s h hs1 hst).mono fun _ w' ⟨e, f, o⟩ => ⟨⟨none, 0, e, rd_none w', fun _ hc => nomatch hc⟩, f, o⟩
end Go.Proofs.Ytdpjjhbfhlmolaa.Fop

/-
  Package fop: Send, Unlock, State, Queued, Acked, Clone.
-/
namespace Go.Proofs.Ytdpjjhbfhlmolaa.Fop
open Go.RowKit
open Pac (bel_new Cel.later)
open Tcf (Fr tvalid_any)
open Strs (So)

/-! ### State, Queued, Acked -/
set_option maxHeartbeats 400000 in
theorem state_any (w : World) (B g : Nat) (v : Value) (K H W T R : Int) (s : Fs) (h : FW w B g v K H W T R s) :
    Calls Try.prog 22 #[.pointer (some ⟨g, 0, none⟩)] w fun e w' => e = .returned (.int .i64 s.st) ∧ w = w' := by
  have x1 := fopworks_any w B g v K H W T R s h
  have c := h.cel.c9
  clear h
  go_enter Try.func22, Try.ntmps22
  go_wp2_with fail
  refine x1.mono ?_
  rintro e w1 ⟨rfl, rfl⟩
  go_wp2
  go_ret
  exact ⟨rfl, rfl⟩
set_option maxHeartbeats 400000 in
theorem acked_any (w : World) (B g : Nat) (v : Value) (K H W T R : Int) (s : Fs) (h : FW w B g v K H W T R s) :
    Calls Try.prog 24 #[.pointer (some ⟨g, 0, none⟩)] w fun e w' => e = .returned (.int .i64 s.ac) ∧ w = w' := by
  have x1 := fopworks_any w B g v K H W T R s h
  have c := h.cel.c4
  clear h
  go_enter Try.func24, Try.ntmps24
  go_wp2_with fail
  refine x1.mono ?_
  rintro e w1 ⟨rfl, rfl⟩
  go_wp2
  go_ret
  exact ⟨rfl, rfl⟩
set_option maxHeartbeats 400000 in
theorem queued_any (w : World) (B g : Nat) (v : Value) (K H W T R : Int) (s : Fs) (h : FW w B g v K H W T R s) :
    Calls Try.prog 23 #[.pointer (some ⟨g, 0, none⟩)] w fun e w' => e = .returned (.int .i64 (s.us.length : Int)) ∧ w = w' := by
  have x1 := fopworks_any w B g v K H W T R s h
  obtain ⟨U, hU⟩ : ∃ U, s.us.length = U := ⟨_, rfl⟩
  obtain ⟨A, c, rfl, _, _, _, _⟩ := h.len hU
  have c1 := h.cel.c1
  rw [hU]
  clear h hU
  go_enter Try.func23, Try.ntmps23
  go_wp2_with fail
  refine x1.mono ?_
  rintro e w1 ⟨rfl, rfl⟩
  go_wp2
  go_ret
  exact ⟨rfl, rfl⟩

/-! ### Unlock -/
set_option maxHeartbeats 2000000 in
theorem unlock_any (n : Int) (w : World) (B g : Nat) (v : Value) (K H W T R : Int) (s : Fs) (h : FW w B g v K H W T R s) :
    Calls Try.prog 19 #[.pointer (some ⟨g, 0, none⟩), .int .i64 n] w fun e w' => e = .returned (.int .i64 0) ∧ FW w' B g v K H W T R (unl n s) ∧ Only [g] w w' := by
  have x1 := fopworks_any w B g v K H W T R s h
  have x2 := advance_any n w B g v K H W T R s h
  have hok := unl_ok (n := n) h.ok h.p.r0
  have e : unl n s = { adv n s with ct := 2, fl := 0, fr := 0, rp := 0, tm := (adv n s).nw, st := 1 } := rfl
  rw [e] at hok ⊢
  obtain ⟨s1, hs1⟩ : ∃ s1, s1 = adv n s := ⟨_, rfl⟩
  rw [← hs1] at x2 hok ⊢
  obtain ⟨us, fl, fr, ac, st, ct, rp, tm, nw⟩ := s1
  dsimp only at hok ⊢
  have HOK := Lib.hid hok
  clear h hs1 e hok
  go_enter Try.func19, Try.ntmps19
  go_wp2_with fail
  refine x1.mono ?_
  rintro e w1 ⟨rfl, rfl⟩
  go_wp2_with fail
  refine x2.mono ?_
  rintro e w2 ⟨rfl, h2, k2⟩
  clear x1 x2
  have c10 := h2.cel.c10
  have f10 := h2.cel.free 10
  have p1 := h2.cel.ct 2
  go_wp2_with fail
  refine (rewind_any _ g v K H W T R _ p1).mono ?_
  rintro e w3 ⟨rfl, p2, k3⟩
  unfold rew at p2
  dsimp only at p2
  have k4 : Only [g] w2 w3 := only_then (put_only w2 g 10 _) k3
  clear p1 k3 c10 f10
  have f3 := p2.free 3
  have d3 := p2.c3
  have p3 := p2.fr 0
  have f11 := p3.free 11
  have d11 := p3.c11
  have p4 := p3.rp 0
  have f12 := p4.free 12
  have d12 := p4.c12
  have d13 := p4.c13
  have p5 := p4.tm nw
  have f9 := p5.free 9
  have d9 := p5.c9
  have p6 := p5.st 1
  have k5 := only_put (only_put (only_put (only_put k4 3 (.int .i64 0)) 11 (.int .i64 0)) 12 (.int .i64 nw)) 9 (.int .i64 1)
  have HP := Lib.hid (h2.self k5 p6 rfl HOK.out)
  have HK := Lib.hid (only_then k2 k5)
  clear p2 p3 p4 p5 p6 k4 k5 k2 h2
  go_wp2
  go_ret
  exact ⟨rfl, HP.out, HK.out⟩

/-! ### Clone -/
set_option maxHeartbeats 2000000 in
theorem fclone_any (w : World) (B g : Nat) (v : Value) (K H W T R : Int) (s : Fs) (h : FW w B g v K H W T R s) :
    Calls Try.prog 21 #[.pointer (some ⟨g, 0, none⟩)] w fun e w' => ∃ q v', e = .returned (.pointer (some ⟨q, 0, none⟩)) ∧ w.heap.size ≤ q ∧ FW w' w.heap.size q v' K H W T R s ∧ Below w.heap.size w w' := by
  have x1 := fopworks_any w B g v K H W T R s h
  obtain ⟨U, hU⟩ : ∃ U, s.us.length = U := ⟨_, rfl⟩
  obtain ⟨A, c, rfl, hr, hn, _, _⟩ := h.len hU
  have hu := h.ok.u
  have hok := h.ok
  have hp := h.p
  have hc := h.cel
  have z0 := hc.c0
  have z1 := hc.c1
  have z2 := hc.c2
  have z3 := hc.c3
  have z4 := hc.c4
  have z5 := hc.c5
  have z6 := hc.c6
  have z7 := hc.c7
  have z8 := hc.c8
  have z9 := hc.c9
  have z10 := hc.c10
  have z11 := hc.c11
  have z12 := hc.c12
  have z13 := hc.c13
  obtain ⟨us, fl, fr, ac, st, ct, rp, tm, nw⟩ := s
  dsimp only at z2 z3 z4 z9 z10 z11 z12 z13 hU hr hu
  obtain ⟨w1, hw1⟩ : ∃ w1, w1 = w.alloc (.cells (cells K H W T R (.slice A U c) ⟨us, fl, fr, ac, st, ct, rp, tm, nw⟩) 70) := ⟨_, rfl⟩
  have p1 : FC w1 w.heap.size K H W T R (.slice A U c) ⟨us, fl, fr, ac, st, ct, rp, tm, nw⟩ := by rw [hw1]; exact Cel.new _ _ _
  have b1 : Below w.heap.size w w1 := by rw [hw1]; exact bel_new _ _
  have hc1 := hc.below b1
  have y1 := hc1.c1
  have hr1 : Row.Rs Strs.senc 1 w1 w1.heap.size A us := (hr.below b1).more b1.size
  have x2 := Strs.sclone_any us U w1 A c hU hr1 hn (by omega)
  have HOK := Lib.hid hok
  have hgl := p1.lt
  simp only [cells] at hw1
  rw [hw1] at y1 x2
  have hu2 := Lib.hid hu
  clear h hok hc hc1 hr hr1 hu hn
  go_enter Try.func21, Try.ntmps21
  go_wp2_with fail
  refine x1.mono ?_
  rintro e w2 ⟨rfl, rfl⟩
  clear x1
  go_wp2_with fail
  refine x2.mono ?_
  rintro e w3 ⟨v2, rfl, o2, b2⟩
  rw [← hw1] at b2 o2
  obtain ⟨A2, c2, rfl, _, _, _, _⟩ := o2.reads_len Strs.senc_ok hU
  clear x2 y1 z0 z1 z2 z3 z4 z5 z6 z7 z8 z9 z10 z11 z12 z13 hw1
  have p2 := p1.below b2
  have f1 := p2.free 1
  have e1 := p2.c1
  have p3 := p2.units (v' := .slice A2 U c2) us
  have k3 := put_only w3 w.heap.size 1 (.slice A2 U c2)
  have o3 : So (w3.setCell ⟨w.heap.size, 1, none⟩ (.slice A2 U c2)) w.heap.size (.slice A2 U c2) us := (o2.only k3 (fun i hi hm => by
    rw [List.mem_singleton] at hm
    have := o2.lt i hi
    omega)).more b1.size
  have HF : Hid (FW (w3.setCell ⟨w.heap.size, 1, none⟩ (.slice A2 U c2)) w.heap.size w.heap.size (.slice A2 U c2) K H W T R ⟨us, fl, fr, ac, st, ct, rp, tm, nw⟩) := Lib.hid ⟨p3, o3, HOK.out, hp⟩
  have HB := Lib.hid ((b1.trans (b2.mono b1.size)).trans (k3.below (Nat.le_trans b1.size b2.size) (by simp)))
  clear p1 p2 p3 o2 o3 k3 b1 b2
  go_wp2
  go_ret
  exact ⟨_, _, rfl, Nat.le_refl _, HF.out, HB.out⟩

/-! ### Send -/
theorem fr_ok (K H W T R : Int) (p : Par K H W T R) (l : List Byte) : Fr.ok ⟨false, false, K, H, 0, l⟩ = decide (1 ≤ l.length ∧ l.length ≤ 1017) := by
  by_cases hl : 1 ≤ l.length ∧ l.length ≤ 1017
  · rw [decide_eq_true hl, Fr.ok_yes ⟨p.k0, p.k1, p.h0, p.h1, (by decide : (0 : Int) ≤ 0), (by decide : (0 : Int) ≤ 255), hl.1, hl.2⟩]
    rfl
  · rw [decide_eq_false hl, Fr.ok_no (fun h => hl ⟨h.2.2.2.2.2.2.1, h.2.2.2.2.2.2.2⟩)]

set_option maxRecDepth 100000 in
set_option maxHeartbeats 4000000 in
theorem send_bad (a : Option Addr) (l : List Byte) (n c : Nat) (w : World) (B g : Nat) (v : Value) (K' H W T R : Int) (s : Fs) (h : FW w B g v K' H W T R s) (hD : Rd w a l n c) (_hB : B ≤ w.heap.size) (hl : Hid (l.length < 1 ∨ 1017 < l.length)) :
    Calls Try.prog 12 #[.pointer (some ⟨g, 0, none⟩), .slice a n c] w fun e w' => e = .returned (.int .i64 1) ∧ (∃ v', FW w' B g v' K' H W T R s ∧ (v'.ownBlock = v.ownBlock ∨ ∃ i, v'.ownBlock = some i ∧ w.heap.size ≤ i)) ∧ Only (blk g v) w w' := by
  have x1 := fopworks_any w B g v K' H W T R s h
  have x2 := frame_any 0 a n c w g v K' H W T R s h.cel
  have hfo := fr_ok K' H W T R h.p l
  have x3 := fun W => tvalid_any false false K' H 0 a l n c W (Lib.hid hD.len) (Nat.le_trans hD.le hD.max)
  rw [hfo] at x3
  clear hfo
  rw [decide_eq_false (by have := hl.out; omega)] at x3
  have HF := Lib.hid h
  clear h hD hl
  go_enter Try.func12, Try.ntmps12
  go_wp2_with fail
  refine x1.mono ?_
  rintro e w1 ⟨rfl, rfl⟩
  go_wp2_with fail
  refine x2.mono ?_
  rintro e w1 ⟨rfl, b1⟩
  go_wp2_with fail
  refine (x3 _).mono ?_
  rintro e w2 ⟨rfl, b2⟩
  clear x1 x2 x3
  have b3 := b1.trans (b2.mono b1.size)
  go_wp2
  go_ret
  exact ⟨rfl, ⟨v, HF.out.below b3, .inl rfl⟩, Only.of_below b3⟩

set_option maxRecDepth 100000 in
set_option maxHeartbeats 4000000 in
theorem send_full (a : Option Addr) (l : List Byte) (n c : Nat) (w : World) (B g : Nat) (v : Value) (K' H W T R : Int) (s : Fs) (h : FW w B g v K' H W T R s) (hD : Rd w a l n c) (_hB : B ≤ w.heap.size) (hl : Hid (1 ≤ l.length ∧ l.length ≤ 1017)) (hf : Hid (256 ≤ s.us.length)) :
    Calls Try.prog 12 #[.pointer (some ⟨g, 0, none⟩), .slice a n c] w fun e w' => e = .returned (.int .i64 7) ∧ (∃ v', FW w' B g v' K' H W T R s ∧ (v'.ownBlock = v.ownBlock ∨ ∃ i, v'.ownBlock = some i ∧ w.heap.size ≤ i)) ∧ Only (blk g v) w w' := by
  have x1 := fopworks_any w B g v K' H W T R s h
  have x2 := frame_any 0 a n c w g v K' H W T R s h.cel
  have hfo := fr_ok K' H W T R h.p l
  have x3 := fun W => tvalid_any false false K' H 0 a l n c W (Lib.hid hD.len) (Nat.le_trans hD.le hD.max)
  rw [hfo] at x3
  clear hfo
  rw [decide_eq_true hl.out] at x3
  have HF := Lib.hid h
  obtain ⟨U, hU⟩ : ∃ U, s.us.length = U := ⟨_, rfl⟩
  obtain ⟨A, c9, rfl, _, _, _, _⟩ := h.len hU
  have hf' := hf.out
  rw [hU] at hf'
  have g1 : decide ((256 : Int) ≤ (U : Int)) = true := by simp; omega
  have g2 : decide (256 ≤ U) = true := by simp; omega
  clear h hD hl hU hf hf'
  go_enter Try.func12, Try.ntmps12
  go_wp2_with fail
  refine x1.mono ?_
  rintro e w1 ⟨rfl, rfl⟩
  go_wp2_with fail
  refine x2.mono ?_
  rintro e w1 ⟨rfl, b1⟩
  go_wp2_with fail
  refine (x3 _).mono ?_
  rintro e w2 ⟨rfl, b2⟩
  clear x1 x2 x3
  have b3 := b1.trans (b2.mono b1.size)
  have h3 := HF.out.below b3
  have c1 := h3.cel.c1
  go_wp2
  go_ret
  exact ⟨rfl, ⟨_, h3, .inl rfl⟩, Only.of_below b3⟩

set_option maxRecDepth 100000 in
set_option maxHeartbeats 4000000 in
theorem send_good (a : Option Addr) (l : List Byte) (n c : Nat) (w : World) (B g : Nat) (v : Value) (K' H W T R : Int) (s : Fs) (h : FW w B g v K' H W T R s) (hD : Rd w a l n c) (hB : B ≤ w.heap.size) (hl : Hid (1 ≤ l.length ∧ l.length ≤ 1017)) (hf : Hid (s.us.length < 256)) :
    Calls Try.prog 12 #[.pointer (some ⟨g, 0, none⟩), .slice a n c] w fun e w' => e = .returned (.int .i64 0) ∧ (∃ v', FW w' B g v' K' H W T R { s with us := s.us ++ [l] } ∧ (v'.ownBlock = v.ownBlock ∨ ∃ i, v'.ownBlock = some i ∧ w.heap.size ≤ i)) ∧ Only (blk g v) w w' := by
  have x1 := fopworks_any w B g v K' H W T R s h
  have x2 := frame_any 0 a n c w g v K' H W T R s h.cel
  have hfo := fr_ok K' H W T R h.p l
  have x3 := fun W => tvalid_any false false K' H 0 a l n c W (Lib.hid hD.len) (Nat.le_trans hD.le hD.max)
  rw [hfo] at x3
  clear hfo
  rw [decide_eq_true hl.out] at x3
  have hok : ({ s with us := s.us ++ [l] } : Fs).Ok R := by
    have := snd_ok (d := l) h.ok
    unfold snd at this
    rw [if_neg (by have := hl.out; omega), if_neg (by have := hf.out; omega)] at this
    exact this
  have HOK := Lib.hid hok
  have HF := Lib.hid h
  obtain ⟨U, hU⟩ : ∃ U, s.us.length = U := ⟨_, rfl⟩
  obtain ⟨A, c9, rfl, _, _, _, _⟩ := h.len hU
  have hf' := hf.out
  rw [hU] at hf'
  have g1 : decide ((256 : Int) ≤ (U : Int)) = false := by simp; omega
  have g2 : decide (256 ≤ U) = false := by simp; omega
  have HD := Lib.hid hD
  have HU := Lib.hid hU
  have HB := Lib.hid hB
  have hfb := Lib.hid hf'
  clear h hD hB hU hf hf' hok hl
  go_enter Try.func12, Try.ntmps12
  go_wp2_with fail
  refine x1.mono ?_
  rintro e w1 ⟨rfl, rfl⟩
  go_wp2_with fail
  refine x2.mono ?_
  rintro e w1 ⟨rfl, b1⟩
  go_wp2_with fail
  refine (x3 _).mono ?_
  rintro e w2 ⟨rfl, b2⟩
  clear x1 x2 x3
  have b3 := b1.trans (b2.mono b1.size)
  have h3 := HF.out.below b3
  have rd3 := HD.out.later b3
  have c1 := h3.cel.c1
  have cv := rd3.conv (drewN_below w2 1)
  have HB2 := Lib.hid b3
  have hsz : B ≤ w2.heap.size := Nat.le_trans HB.out b3.size
  have ha := Row.Os.apart h3.row (t := 70) h3.cel (by decide)
  have hgl := h3.cel.lt
  have H3 := Lib.hid h3
  have HD3 := Lib.hid rd3
  clear b1 b2 b3 h3 rd3
  go_wp2_with fail
  refine wp_region_held_drew (S := fun _ => True) (by kernel_rfl) (trivial) (fun hHeld => ?_)
  refine wpAnyH_here 0 (v := ?_) rfl (by kernel_rfl) (by kernel_rfl) (by kernel_rfl) (fun _ _ _ h => h) (Or.inl ⟨by rfl, ?_⟩) hHeld ?_
  rotate_left
  · intro w hSw; (try dsimp only at hSw); go_simp; all_goals (with_reducible rfl)
  try simp only [Act.put, List.setIfInBounds_toArray, List.set_cons_zero, List.set_cons_succ]
  refine wpAnyH_here 1 (v := ?_) rfl (by kernel_rfl) (by kernel_rfl) (by kernel_rfl) (fun _ _ _ h => h) (Or.inl ⟨by rfl, ?_⟩) hHeld ?_
  rotate_left
  · intro w hSw; (try dsimp only at hSw); go_simp; all_goals (with_reducible rfl)
  try simp only [Act.put, List.setIfInBounds_toArray, List.set_cons_zero, List.set_cons_succ]
  refine wpAnyH_here 2 (v := ?_) rfl (by kernel_rfl) (by kernel_rfl) (by kernel_rfl) (fun _ _ _ h => h) (Or.inl ⟨by rfl, ?_⟩) hHeld ?_
  rotate_left
  · intro w hSw; (try dsimp only at hSw); go_simp; all_goals (with_reducible rfl)
  try simp only [Act.put, List.setIfInBounds_toArray, List.set_cons_zero, List.set_cons_succ]
  refine wpAnyH_here 3 (v := ?_) rfl (by kernel_rfl) (by kernel_rfl) (by kernel_rfl) (fun _ _ _ h => h) (Or.inl ⟨by rfl, ?_⟩) hHeld ?_
  rotate_left
  · intro w hSw; (try dsimp only at hSw); go_simp; all_goals (with_reducible rfl)
  try simp only [Act.put, List.setIfInBounds_toArray, List.set_cons_zero, List.set_cons_succ]
  refine wpAnyH_here 4 (v := ?_) rfl (by kernel_rfl) (by kernel_rfl) (by kernel_rfl) (fun _ _ _ h => h) (Or.inl ⟨by rfl, ?_⟩) hHeld ?_
  rotate_left
  · intro w hSw; (try dsimp only at hSw); go_simp; all_goals (with_reducible rfl)
  try simp only [Act.put, List.setIfInBounds_toArray, List.set_cons_zero, List.set_cons_succ]
  refine wpAnyH_here 6 (v := ?_) rfl (by kernel_rfl) (by kernel_rfl) (by kernel_rfl) (fun _ _ _ h => h) (Or.inl ⟨by rfl, ?_⟩) hHeld ?_
  rotate_left
  · intro w hSw; (try dsimp only at hSw); go_simp; all_goals (with_reducible rfl)
  try simp only [Act.put, List.setIfInBounds_toArray, List.set_cons_zero, List.set_cons_succ]
  refine wpAnyH_both 5 7 rfl rfl (by kernel_rfl) (fun K hK => ?_) (fun K hK => ?_)
  · go_simp
    refine hK.out _ _ trivial (fun hHeld => ?_)
    clear hK K
    try simp only [Act.put, List.setIfInBounds_toArray, List.set_cons_zero, List.set_cons_succ]
    refine wpAnyH_alone 7 rfl (by kernel_rfl) (fun K hK => ?_)
    refine step_conv _ rfl (.tmp 26) 33 9 rfl (v := .slice a n c) (by simp [Act.eval]) cv ?_
    refine hK.out _ _ trivial (fun hHeld => ?_)
    clear hK K
    try simp only [Act.put, List.setIfInBounds_toArray, List.set_cons_zero, List.set_cons_succ]
    refine wpAnyH_alone 8 rfl (by kernel_rfl) (fun K hK => ?_)
    go_simp
    obtain ⟨W4, hW4⟩ : ∃ W4, W4 = (w2.drewN 1).alloc (.cells #[.string (str l)] 9) := ⟨_, rfl⟩
    have b4 : Below w2.heap.size w2 W4 := by rw [hW4]; exact (drewN_below w2 1).trans (show Below w2.heap.size (w2.drewN 1) _ from bel_new (w2.drewN 1) _)
    have rs4 : Row.Rs Strs.senc 1 W4 (w2.heap.size + 1) (some ⟨w2.heap.size, 0, none⟩) [l] := by rw [hW4]; exact Row.Rs_new1 Strs.senc_ok (w2.drewN 1) 9 l _ rfl
    have hs4 : W4.heap.size = w2.heap.size + 1 := by rw [hW4]; simp
    rw [← hW4]
    clear hW4
    have h4 := H3.out.below b4
    have own4 := h4.row
    have c4 := h4.cel.c1
    refine hK.out _ _ trivial (fun hHeld => ?_)
    clear hK K
    try simp only [Act.put, List.setIfInBounds_toArray, List.set_cons_zero, List.set_cons_succ]
    refine wpAnyH_alone 9 rfl (by kernel_rfl) (fun K hK => ?_)
    refine Row.step_row _ Strs.senc_ok Strs.is_strs (by decide) rfl (.tmp 25) (.tmp 28) rfl (m := s.us) rfl own4 (l := [l]) (n := 1) (A := some ⟨w2.heap.size, 0, none⟩) (c := 1) rfl rfl rs4 (fun h => nomatch h) (by rw [HU.out]; simp; have := hfb.out; omega) (Nat.le_trans hsz b4.size) ?_
    intro v5 W5 own5 gr5 hv5
    have hl5 : (s.us ++ [l]).length = U + 1 := by rw [List.length_append, HU.out]; rfl
    obtain ⟨A5, c5, rfl, _, _, _, _⟩ := own5.reads_len Strs.senc_ok hl5
    have k5 : Only (Value.slice A U c9).ownBlock.toList W4 W5 := Only.of_grown gr5
    have hc5 := h4.cel.only k5 (by
      intro hm
      rw [Option.mem_toList] at hm
      exact ha hm)
    have c5' := hc5.c1
    have f5' := hc5.free 1
    have hgr : (Value.slice A5 (U + 1) c5).ownBlock ≠ some g := by
      rcases hv5 with e | e
      · rw [e]; exact ha
      · rw [e, hs4]; intro hx; injection hx with hx; omega
    refine hK.out _ _ trivial (fun hHeld => ?_)
    clear hK K
    try simp only [Act.put, List.setIfInBounds_toArray, List.set_cons_zero, List.set_cons_succ]
    refine wpAnyH_here 10 (v := ?_) rfl (by kernel_rfl) (by kernel_rfl) (by kernel_rfl) (fun _ _ _ h => h) (Or.inl ⟨by rfl, ?_⟩) hHeld ?_
    rotate_left
    · intro w hSw; (try dsimp only at hSw); go_simp; all_goals (with_reducible rfl)
    try simp only [Act.put, List.setIfInBounds_toArray, List.set_cons_zero, List.set_cons_succ]
    refine wpAnyH_here 11 (v := ?_) rfl (by kernel_rfl) (by kernel_rfl) (by kernel_rfl) (fun _ _ _ h => h) (Or.inl ⟨by rfl, ?_⟩) hHeld ?_
    rotate_left
    · intro w hSw; (try dsimp only at hSw); go_simp; all_goals (with_reducible rfl)
    try simp only [Act.put, List.setIfInBounds_toArray, List.set_cons_zero, List.set_cons_succ]
    refine wpAnyH_here 12 (v := ?_) rfl (by kernel_rfl) (by kernel_rfl) (by kernel_rfl) (fun _ _ _ h => h) (Or.inl ⟨by rfl, ?_⟩) hHeld ?_
    rotate_left
    · intro w hSw; (try dsimp only at hSw); go_simp; all_goals (with_reducible rfl)
    try simp only [Act.put, List.setIfInBounds_toArray, List.set_cons_zero, List.set_cons_succ]
    refine wpAnyH_alone 13 rfl (by kernel_rfl) (fun K hK => ?_)
    have p6 := hc5.units (v' := .slice A5 (U + 1) c5) (s.us ++ [l])
    have k6 := put_only W5 g 1 (.slice A5 (U + 1) c5)
    have o6 := own5.only k6 (fun i hi hm => by
      rw [List.mem_singleton] at hm
      subst hm
      exact hgr hi)
    have k7 : Only (blk g (Value.slice A U c9)) w (W5.setCell ⟨g, 1, none⟩ (.slice A5 (U + 1) c5)) := by
      refine only_then (only_then (only_then (Only.of_below HB2.out) (Only.of_below b4)) (k5.more (fun x hx => .inl ?_))) (k6.more (fun x hx => .inl ?_))
      · simp [blk] at hx ⊢; exact .inr hx
      · simp [blk] at hx ⊢; exact .inl hx
    have HP : Hid (FW (W5.setCell ⟨g, 1, none⟩ (.slice A5 (U + 1) c5)) B g (.slice A5 (U + 1) c5) K' H W T R { s with us := s.us ++ [l] }) := Lib.hid ⟨p6, o6, HOK.out, HF.out.p⟩
    have HV : Hid ((Value.slice A5 (U + 1) c5).ownBlock = (Value.slice A U c9).ownBlock ∨ ∃ i, (Value.slice A5 (U + 1) c5).ownBlock = some i ∧ w.heap.size ≤ i) := Lib.hid (by
      rcases hv5 with e | e
      · exact .inl e
      · exact .inr ⟨_, e, Nat.le_trans HB2.out.size b4.size⟩)
    have HK7 := Lib.hid k7
    have hp6 := p6.c1
    clear p6 k6 o6 k7 own5 gr5 hv5 k5 own4 h4 rs4 c4 c1 hgr
    go_simp
    refine hK.out _ _ trivial (fun hHeld => ?_)
    clear hK K
    try simp only [Act.put, List.setIfInBounds_toArray, List.set_cons_zero, List.set_cons_succ]
    refine wpAnyH_done (by kernel_rfl) ?_ _
    go_wp2
    go_ret
    exact ⟨rfl, ⟨_, HP.out, HV.out⟩, HK7.out⟩
  · refine step_conv _ rfl (.tmp 26) 33 9 rfl (v := .slice a n c) (by simp [Act.eval]) cv ?_
    refine hK.out _ _ trivial (fun hHeld => ?_)
    clear hK K
    try simp only [Act.put, List.setIfInBounds_toArray, List.set_cons_zero, List.set_cons_succ]
    refine wpAnyH_both 5 8 rfl rfl (by kernel_rfl) (fun K hK => ?_) (fun K hK => ?_)
    · go_simp
      refine hK.out _ _ trivial (fun hHeld => ?_)
      clear hK K
      try simp only [Act.put, List.setIfInBounds_toArray, List.set_cons_zero, List.set_cons_succ]
      refine wpAnyH_alone 8 rfl (by kernel_rfl) (fun K hK => ?_)
      go_simp
      obtain ⟨W4, hW4⟩ : ∃ W4, W4 = (w2.drewN 1).alloc (.cells #[.string (str l)] 9) := ⟨_, rfl⟩
      have b4 : Below w2.heap.size w2 W4 := by rw [hW4]; exact (drewN_below w2 1).trans (show Below w2.heap.size (w2.drewN 1) _ from bel_new (w2.drewN 1) _)
      have rs4 : Row.Rs Strs.senc 1 W4 (w2.heap.size + 1) (some ⟨w2.heap.size, 0, none⟩) [l] := by rw [hW4]; exact Row.Rs_new1 Strs.senc_ok (w2.drewN 1) 9 l _ rfl
      have hs4 : W4.heap.size = w2.heap.size + 1 := by rw [hW4]; simp
      rw [← hW4]
      clear hW4
      have h4 := H3.out.below b4
      have own4 := h4.row
      have c4 := h4.cel.c1
      refine hK.out _ _ trivial (fun hHeld => ?_)
      clear hK K
      try simp only [Act.put, List.setIfInBounds_toArray, List.set_cons_zero, List.set_cons_succ]
      refine wpAnyH_alone 9 rfl (by kernel_rfl) (fun K hK => ?_)
      refine Row.step_row _ Strs.senc_ok Strs.is_strs (by decide) rfl (.tmp 25) (.tmp 28) rfl (m := s.us) rfl own4 (l := [l]) (n := 1) (A := some ⟨w2.heap.size, 0, none⟩) (c := 1) rfl rfl rs4 (fun h => nomatch h) (by rw [HU.out]; simp; have := hfb.out; omega) (Nat.le_trans hsz b4.size) ?_
      intro v5 W5 own5 gr5 hv5
      have hl5 : (s.us ++ [l]).length = U + 1 := by rw [List.length_append, HU.out]; rfl
      obtain ⟨A5, c5, rfl, _, _, _, _⟩ := own5.reads_len Strs.senc_ok hl5
      have k5 : Only (Value.slice A U c9).ownBlock.toList W4 W5 := Only.of_grown gr5
      have hc5 := h4.cel.only k5 (by
        intro hm
        rw [Option.mem_toList] at hm
        exact ha hm)
      have c5' := hc5.c1
      have f5' := hc5.free 1
      have hgr : (Value.slice A5 (U + 1) c5).ownBlock ≠ some g := by
        rcases hv5 with e | e
        · rw [e]; exact ha
        · rw [e, hs4]; intro hx; injection hx with hx; omega
      refine hK.out _ _ trivial (fun hHeld => ?_)
      clear hK K
      try simp only [Act.put, List.setIfInBounds_toArray, List.set_cons_zero, List.set_cons_succ]
      refine wpAnyH_here 10 (v := ?_) rfl (by kernel_rfl) (by kernel_rfl) (by kernel_rfl) (fun _ _ _ h => h) (Or.inl ⟨by rfl, ?_⟩) hHeld ?_
      rotate_left
      · intro w hSw; (try dsimp only at hSw); go_simp; all_goals (with_reducible rfl)
      try simp only [Act.put, List.setIfInBounds_toArray, List.set_cons_zero, List.set_cons_succ]
      refine wpAnyH_here 11 (v := ?_) rfl (by kernel_rfl) (by kernel_rfl) (by kernel_rfl) (fun _ _ _ h => h) (Or.inl ⟨by rfl, ?_⟩) hHeld ?_
      rotate_left
      · intro w hSw; (try dsimp only at hSw); go_simp; all_goals (with_reducible rfl)
      try simp only [Act.put, List.setIfInBounds_toArray, List.set_cons_zero, List.set_cons_succ]
      refine wpAnyH_here 12 (v := ?_) rfl (by kernel_rfl) (by kernel_rfl) (by kernel_rfl) (fun _ _ _ h => h) (Or.inl ⟨by rfl, ?_⟩) hHeld ?_
      rotate_left
      · intro w hSw; (try dsimp only at hSw); go_simp; all_goals (with_reducible rfl)
      try simp only [Act.put, List.setIfInBounds_toArray, List.set_cons_zero, List.set_cons_succ]
      refine wpAnyH_alone 13 rfl (by kernel_rfl) (fun K hK => ?_)
      have p6 := hc5.units (v' := .slice A5 (U + 1) c5) (s.us ++ [l])
      have k6 := put_only W5 g 1 (.slice A5 (U + 1) c5)
      have o6 := own5.only k6 (fun i hi hm => by
        rw [List.mem_singleton] at hm
        subst hm
        exact hgr hi)
      have k7 : Only (blk g (Value.slice A U c9)) w (W5.setCell ⟨g, 1, none⟩ (.slice A5 (U + 1) c5)) := by
        refine only_then (only_then (only_then (Only.of_below HB2.out) (Only.of_below b4)) (k5.more (fun x hx => .inl ?_))) (k6.more (fun x hx => .inl ?_))
        · simp [blk] at hx ⊢; exact .inr hx
        · simp [blk] at hx ⊢; exact .inl hx
      have HP : Hid (FW (W5.setCell ⟨g, 1, none⟩ (.slice A5 (U + 1) c5)) B g (.slice A5 (U + 1) c5) K' H W T R { s with us := s.us ++ [l] }) := Lib.hid ⟨p6, o6, HOK.out, HF.out.p⟩
      have HV : Hid ((Value.slice A5 (U + 1) c5).ownBlock = (Value.slice A U c9).ownBlock ∨ ∃ i, (Value.slice A5 (U + 1) c5).ownBlock = some i ∧ w.heap.size ≤ i) := Lib.hid (by
        rcases hv5 with e | e
        · exact .inl e
        · exact .inr ⟨_, e, Nat.le_trans HB2.out.size b4.size⟩)
      have HK7 := Lib.hid k7
      have hp6 := p6.c1
      clear p6 k6 o6 k7 own5 gr5 hv5 k5 own4 h4 rs4 c4 c1 hgr
      go_simp
      refine hK.out _ _ trivial (fun hHeld => ?_)
      clear hK K
      try simp only [Act.put, List.setIfInBounds_toArray, List.set_cons_zero, List.set_cons_succ]
      refine wpAnyH_done (by kernel_rfl) ?_ _
      go_wp2
      go_ret
      exact ⟨rfl, ⟨_, HP.out, HV.out⟩, HK7.out⟩
    · go_simp
      obtain ⟨W4, hW4⟩ : ∃ W4, W4 = (w2.drewN 1).alloc (.cells #[.string (str l)] 9) := ⟨_, rfl⟩
      have b4 : Below w2.heap.size w2 W4 := by rw [hW4]; exact (drewN_below w2 1).trans (show Below w2.heap.size (w2.drewN 1) _ from bel_new (w2.drewN 1) _)
      have rs4 : Row.Rs Strs.senc 1 W4 (w2.heap.size + 1) (some ⟨w2.heap.size, 0, none⟩) [l] := by rw [hW4]; exact Row.Rs_new1 Strs.senc_ok (w2.drewN 1) 9 l _ rfl
      have hs4 : W4.heap.size = w2.heap.size + 1 := by rw [hW4]; simp
      rw [← hW4]
      clear hW4
      have h4 := H3.out.below b4
      have own4 := h4.row
      have c4 := h4.cel.c1
      refine hK.out _ _ trivial (fun hHeld => ?_)
      clear hK K
      try simp only [Act.put, List.setIfInBounds_toArray, List.set_cons_zero, List.set_cons_succ]
      refine wpAnyH_alone 5 rfl (by kernel_rfl) (fun K hK => ?_)
      go_simp
      refine hK.out _ _ trivial (fun hHeld => ?_)
      clear hK K
      try simp only [Act.put, List.setIfInBounds_toArray, List.set_cons_zero, List.set_cons_succ]
      refine wpAnyH_alone 9 rfl (by kernel_rfl) (fun K hK => ?_)
      refine Row.step_row _ Strs.senc_ok Strs.is_strs (by decide) rfl (.tmp 25) (.tmp 28) rfl (m := s.us) rfl own4 (l := [l]) (n := 1) (A := some ⟨w2.heap.size, 0, none⟩) (c := 1) rfl rfl rs4 (fun h => nomatch h) (by rw [HU.out]; simp; have := hfb.out; omega) (Nat.le_trans hsz b4.size) ?_
      intro v5 W5 own5 gr5 hv5
      have hl5 : (s.us ++ [l]).length = U + 1 := by rw [List.length_append, HU.out]; rfl
      obtain ⟨A5, c5, rfl, _, _, _, _⟩ := own5.reads_len Strs.senc_ok hl5
      have k5 : Only (Value.slice A U c9).ownBlock.toList W4 W5 := Only.of_grown gr5
      have hc5 := h4.cel.only k5 (by
        intro hm
        rw [Option.mem_toList] at hm
        exact ha hm)
      have c5' := hc5.c1
      have f5' := hc5.free 1
      have hgr : (Value.slice A5 (U + 1) c5).ownBlock ≠ some g := by
        rcases hv5 with e | e
        · rw [e]; exact ha
        · rw [e, hs4]; intro hx; injection hx with hx; omega
      refine hK.out _ _ trivial (fun hHeld => ?_)
      clear hK K
      try simp only [Act.put, List.setIfInBounds_toArray, List.set_cons_zero, List.set_cons_succ]
      refine wpAnyH_here 10 (v := ?_) rfl (by kernel_rfl) (by kernel_rfl) (by kernel_rfl) (fun _ _ _ h => h) (Or.inl ⟨by rfl, ?_⟩) hHeld ?_
      rotate_left
      · intro w hSw; (try dsimp only at hSw); go_simp; all_goals (with_reducible rfl)
      try simp only [Act.put, List.setIfInBounds_toArray, List.set_cons_zero, List.set_cons_succ]
      refine wpAnyH_here 11 (v := ?_) rfl (by kernel_rfl) (by kernel_rfl) (by kernel_rfl) (fun _ _ _ h => h) (Or.inl ⟨by rfl, ?_⟩) hHeld ?_
      rotate_left
      · intro w hSw; (try dsimp only at hSw); go_simp; all_goals (with_reducible rfl)
      try simp only [Act.put, List.setIfInBounds_toArray, List.set_cons_zero, List.set_cons_succ]
      refine wpAnyH_here 12 (v := ?_) rfl (by kernel_rfl) (by kernel_rfl) (by kernel_rfl) (fun _ _ _ h => h) (Or.inl ⟨by rfl, ?_⟩) hHeld ?_
      rotate_left
      · intro w hSw; (try dsimp only at hSw); go_simp; all_goals (with_reducible rfl)
      try simp only [Act.put, List.setIfInBounds_toArray, List.set_cons_zero, List.set_cons_succ]
      refine wpAnyH_alone 13 rfl (by kernel_rfl) (fun K hK => ?_)
      have p6 := hc5.units (v' := .slice A5 (U + 1) c5) (s.us ++ [l])
      have k6 := put_only W5 g 1 (.slice A5 (U + 1) c5)
      have o6 := own5.only k6 (fun i hi hm => by
        rw [List.mem_singleton] at hm
        subst hm
        exact hgr hi)
      have k7 : Only (blk g (Value.slice A U c9)) w (W5.setCell ⟨g, 1, none⟩ (.slice A5 (U + 1) c5)) := by
        refine only_then (only_then (only_then (Only.of_below HB2.out) (Only.of_below b4)) (k5.more (fun x hx => .inl ?_))) (k6.more (fun x hx => .inl ?_))
        · simp [blk] at hx ⊢; exact .inr hx
        · simp [blk] at hx ⊢; exact .inl hx
      have HP : Hid (FW (W5.setCell ⟨g, 1, none⟩ (.slice A5 (U + 1) c5)) B g (.slice A5 (U + 1) c5) K' H W T R { s with us := s.us ++ [l] }) := Lib.hid ⟨p6, o6, HOK.out, HF.out.p⟩
      have HV : Hid ((Value.slice A5 (U + 1) c5).ownBlock = (Value.slice A U c9).ownBlock ∨ ∃ i, (Value.slice A5 (U + 1) c5).ownBlock = some i ∧ w.heap.size ≤ i) := Lib.hid (by
        rcases hv5 with e | e
        · exact .inl e
        · exact .inr ⟨_, e, Nat.le_trans HB2.out.size b4.size⟩)
      have HK7 := Lib.hid k7
      have hp6 := p6.c1
      clear p6 k6 o6 k7 own5 gr5 hv5 k5 own4 h4 rs4 c4 c1 hgr
      go_simp
      refine hK.out _ _ trivial (fun hHeld => ?_)
      clear hK K
      try simp only [Act.put, List.setIfInBounds_toArray, List.set_cons_zero, List.set_cons_succ]
      refine wpAnyH_done (by kernel_rfl) ?_ _
      go_wp2
      go_ret
      exact ⟨rfl, ⟨_, HP.out, HV.out⟩, HK7.out⟩

theorem send_any (a : Option Addr) (l : List Byte) (n c : Nat) (w : World) (B g : Nat) (v : Value) (K H W T R : Int) (s : Fs) (h : FW w B g v K H W T R s) (hD : Rd w a l n c) (hB : B ≤ w.heap.size) :
    Calls Try.prog 12 #[.pointer (some ⟨g, 0, none⟩), .slice a n c] w fun e w' => e = .returned (.int .i64 (snd l s).1) ∧ (∃ v', FW w' B g v' K H W T R (snd l s).2 ∧ (v'.ownBlock = v.ownBlock ∨ ∃ i, v'.ownBlock = some i ∧ w.heap.size ≤ i)) ∧ Only (blk g v) w w' := by
  unfold snd
  by_cases h1 : l.length < 1 ∨ 1017 < l.length
  · rw [if_pos h1]
    exact send_bad a l n c w B g v K H W T R s h hD hB (Lib.hid h1)
  · rw [if_neg h1]
    have h2 : 1 ≤ l.length ∧ l.length ≤ 1017 := by omega
    by_cases h3 : 256 ≤ s.us.length
    · rw [if_pos h3]
      exact send_full a l n c w B g v K H W T R s h hD hB (Lib.hid h2) (Lib.hid h3)
    · rw [if_neg h3]
      exact send_good a l n c w B g v K H W T R s h hD hB (Lib.hid h2) (Lib.hid (by omega))
end Go.Proofs.Ytdpjjhbfhlmolaa.Fop

/-
  The walks of package clcw's bit and Valid, of the reference's flag and Valid.
-/
namespace Go.Proofs.Ytdpjjhbfhlmolaa.Clc
open Go.RowKit Go.Proofs.Ytdpjjhbfhlmolaa.Pac

theorem ok_bad {ch bp nx : Int} {lk wt rt : Bool} (h : ch < 0 ∨ 7 < ch ∨ bp < 0 ∨ 3 < bp ∨ nx < 0 ∨ 255 < nx) : Cw.ok ⟨ch, lk, wt, rt, bp, nx⟩ = false :=
  Cw.ok_no (fun ⟨h1, h2, h3, h4, h5, h6⟩ => by simp only at h1 h2 h3 h4 h5 h6; omega)

def flg (b : Bool) (n : Int) : Int := if b then n else 0
set_option maxHeartbeats 2000000 in
theorem cvalid_any (ch : Int) (lk wt rt : Bool) (bp nx : Int) (w : World) :
    Calls Try.prog 45 #[.agg #[.int .i64 ch, .bool lk, .bool wt, .bool rt, .int .i64 bp, .int .i64 nx]] w fun e w' => e = .returned (.bool (Cw.ok ⟨ch, lk, wt, rt, bp, nx⟩)) ∧ Below w.heap.size w w' := by
  by_cases h1 : ch < 0
  · rw [ok_bad (by omega)]
    go_enter Try.func45, Try.ntmps45
    go_wp2
    go_ret
    exact ⟨rfl, bel_new _ _⟩
  have p1 : 0 ≤ ch := by omega
  clear h1
  by_cases h2 : 7 < ch
  · rw [ok_bad (by omega)]
    go_enter Try.func45, Try.ntmps45
    go_wp2
    go_ret
    exact ⟨rfl, bel_new _ _⟩
  have p2 : ch ≤ 7 := by omega
  clear h2
  by_cases h3 : bp < 0
  · rw [ok_bad (by omega)]
    go_enter Try.func45, Try.ntmps45
    go_wp2
    go_ret
    exact ⟨rfl, bel_new _ _⟩
  have p3 : 0 ≤ bp := by omega
  clear h3
  by_cases h4 : 3 < bp
  · rw [ok_bad (by omega)]
    go_enter Try.func45, Try.ntmps45
    go_wp2
    go_ret
    exact ⟨rfl, bel_new _ _⟩
  have p4 : bp ≤ 3 := by omega
  clear h4
  by_cases h5 : nx < 0
  · rw [ok_bad (by omega)]
    go_enter Try.func45, Try.ntmps45
    go_wp2
    go_ret
    exact ⟨rfl, bel_new _ _⟩
  have p5 : 0 ≤ nx := by omega
  clear h5
  by_cases h6 : 255 < nx
  · rw [ok_bad (by omega)]
    go_enter Try.func45, Try.ntmps45
    go_wp2
    go_ret
    first
    | exact ⟨rfl, bel_new _ _⟩
    | exact ⟨ret_bool (decide_eq_false (by omega)), bel_new _ _⟩
  have p6 : nx ≤ 255 := by omega
  clear h6
  rw [Cw.ok_yes ⟨p1, p2, p3, p4, p5, p6⟩]
  go_enter Try.func45, Try.ntmps45
  go_wp2
  go_ret
  exact ⟨rfl, bel_new _ _⟩

set_option maxHeartbeats 2000000 in
theorem zvalid_any (ch : Int) (lk wt rt : Bool) (bp nx : Int) (w : World) :
    Calls Try.prog 51 #[.agg #[.int .i64 ch, .bool lk, .bool wt, .bool rt, .int .i64 bp, .int .i64 nx]] w fun e w' => e = .returned (.bool (Cw.ok ⟨ch, lk, wt, rt, bp, nx⟩)) ∧ Below w.heap.size w w' := by
  by_cases h1 : ch < 0
  · rw [ok_bad (by omega)]
    go_enter Try.func51, Try.ntmps51
    go_wp2
    go_ret
    exact ⟨rfl, bel_new _ _⟩
  have p1 : 0 ≤ ch := by omega
  clear h1
  by_cases h2 : 7 < ch
  · rw [ok_bad (by omega)]
    go_enter Try.func51, Try.ntmps51
    go_wp2
    go_ret
    exact ⟨rfl, bel_new _ _⟩
  have p2 : ch ≤ 7 := by omega
  clear h2
  by_cases h3 : bp < 0
  · rw [ok_bad (by omega)]
    go_enter Try.func51, Try.ntmps51
    go_wp2
    go_ret
    exact ⟨rfl, bel_new _ _⟩
  have p3 : 0 ≤ bp := by omega
  clear h3
  by_cases h4 : 3 < bp
  · rw [ok_bad (by omega)]
    go_enter Try.func51, Try.ntmps51
    go_wp2
    go_ret
    exact ⟨rfl, bel_new _ _⟩
  have p4 : bp ≤ 3 := by omega
  clear h4
  by_cases h5 : nx < 0
  · rw [ok_bad (by omega)]
    go_enter Try.func51, Try.ntmps51
    go_wp2
    go_ret
    exact ⟨rfl, bel_new _ _⟩
  have p5 : 0 ≤ nx := by omega
  clear h5
  by_cases h6 : 255 < nx
  · rw [ok_bad (by omega)]
    go_enter Try.func51, Try.ntmps51
    go_wp2
    go_ret
    first
    | exact ⟨rfl, bel_new _ _⟩
    | exact ⟨ret_bool (decide_eq_false (by omega)), bel_new _ _⟩
  have p6 : nx ≤ 255 := by omega
  clear h6
  rw [Cw.ok_yes ⟨p1, p2, p3, p4, p5, p6⟩]
  go_enter Try.func51, Try.ntmps51
  go_wp2
  go_ret
  exact ⟨rfl, bel_new _ _⟩
end Go.Proofs.Ytdpjjhbfhlmolaa.Clc
