/-
  Package source, the laws: a sending end in play (PO), two of them (PL); the chapter's examples (lives).
-/
import Derived.Test.YtaaikmncdgfkmaaSrcW4
import Derived.Test.YtaaikmncdgfkmaaSrcW6
import Derived.Test.YtaaikmncdgfkmaaSrcW7
import Derived.Lib.SlBytesConst
namespace Go.Proofs.Ytaaikmncdgfkmaa.Src
open Go.RowKit
open Go.Proofs.Ytaaikmncdgfkmaa.Pdu (Pd Gx Bx Px)
open Go.Proofs.Ytaaikmncdgfkmaa.Rng (R)
open Go.Proofs.Ytaaikmncdgfkmaa.Fsm (ps)

/-- a sending end stands at block g in state s -/
structure PO (w : World) (g : Nat) (K : Kc) (s : SS) : Prop where
  f : FW w g K s
  k : K.Ok
  o : s.Ok K
section
variable {w w' : World} {g : Nat} {K : Kc} {s S : SS} {L : List Nat}
theorem PO.only (h : PO w g K s) (k : Only L w w') (hg : g ∉ L) (hr : Kr w w') : PO w' g K s := ⟨h.f.only k hg hr, h.k, h.o⟩
theorem PO.below (h : PO w g K s) (k : Below w.heap.size w w') : PO w' g K s := ⟨h.f.below k, h.k, h.o⟩
theorem PO.lt (h : PO w g K s) : g < w.heap.size := h.f.lt
theorem FW.cel {w : World} {g : Nat} {K : Kc} {s : SS} (h : FW w g K s) : ∃ cs, Cel w g TS cs := by
  obtain ⟨A, n, c, h⟩ := h
  exact ⟨_, h.cel⟩
theorem PO.next (h : PO w g K s) (m kd sr nm cl : Int) (na : List Byte) (sz of : Int) (da : List Byte) (su : Nat) (co : Int) (n : Nat) (F : Bool) (hO : nxO K (adv m s) = (⟨kd, sr, nm, cl, na, sz, of, da, su, co, []⟩, F)) (hS : nxS K (adv m s) = S) (hn : da.length = n) :
    Calls Try.prog 13 #[.pointer (some ⟨g, 0, none⟩), .int .i64 m] w fun e w' => ∃ A a, e = .returned (.tuple #[.agg #[.int .i64 kd, .int .i64 sr, .int .i64 nm, .int .i64 cl, .string (str na), .int .i64 sz, .int .i64 of, .slice A n a, .int .u32 (su : Int), .int .i64 co, .slice none 0 0], .bool F]) ∧ By w' w.heap.size A da n a ∧ PO w' g K S ∧ Only [g] w w' := by
  refine (snext_any m h.f h.k h.o).mono ?_
  rintro e w' ⟨⟨kd', sr', nm', cl', na', sz', of', da', su', co', A, n', a, rfl, r⟩, hf, ho⟩
  have ok := nxS_ok h.k (adv_ok h.o m)
  rw [hO] at r
  rw [hO]
  rw [hS] at hf ok
  have e := r.eq
  injection e with e1 e2 e3 e4 e5 e6 e7 e8 e9 e10
  subst e1 e2 e3 e4 e5 e6 e7 e8 e9 e10
  have hl := r.ow.len
  rw [hn] at hl
  subst hl
  exact ⟨A, a, rfl, r.ow, ⟨hf, h.k, ok⟩, ho⟩
theorem PO.kr (h : PO w g K s) (k : Only [g] w w') : Kr w w' := h.f.kr k
end

/-! ### units in blocks of their own, bytes -/
def KC (w : World) (L : List (Nat × Array Value)) : Prop := ∀ x ∈ L, Cel w x.1 45 x.2
def KB (w : World) (D : List (Option Addr × List Byte × Nat × Nat)) : Prop := ∀ x ∈ D, By w 0 x.1 x.2.1 x.2.2.1 x.2.2.2
section
variable {w w' : World} {g : Nat} {L : List (Nat × Array Value)} {D : List (Option Addr × List Byte × Nat × Nat)}
theorem KC.only (h : KC w L) {cs : Array Value} (hg : Cel w g TS cs) (k : Only [g] w w') : KC w' L := fun x hx => (h x hx).only k (by simpa using Cel.apart (h x hx) hg (by decide))
theorem KB.only (h : KB w D) {cs : Array Value} (hg : Cel w g TS cs) (k : Only [g] w w') : KB w' D := fun x hx => (h x hx).only k (not_byte hg (by decide))
theorem KC.below (h : KC w L) (k : Below w.heap.size w w') : KC w' L := fun x hx => Cel.on (h x hx) k
theorem KB.below (h : KB w D) (k : Below w.heap.size w w') : KB w' D := fun x hx => (h x hx).below k
end

/-- two sending ends, units, bytes; what lies below is as it was -/
structure PL (w0 w : World) (g1 g2 : Nat) (K1 K2 : Kc) (s1 s2 : SS) (L : List (Nat × Array Value)) (D : List (Option Addr × List Byte × Nat × Nat)) : Prop where
  bel : Below w0.heap.size w0 w
  a : PO w g1 K1 s1
  b : PO w g2 K2 s2
  ge1 : w0.heap.size ≤ g1
  ge2 : w0.heap.size ≤ g2
  ne : g1 ≠ g2
  c : KC w L
  d : KB w D
section
variable {w0 w : World} {g1 g2 : Nat} {K1 K2 : Kc} {s1 s2 S : SS} {L : List (Nat × Array Value)} {D : List (Option Addr × List Byte × Nat × Nat)}
theorem PL.swap (h : PL w0 w g1 g2 K1 K2 s1 s2 L D) : PL w0 w g2 g1 K2 K1 s2 s1 L D := ⟨h.bel, h.b, h.a, h.ge2, h.ge1, h.ne.symm, h.c, h.d⟩
theorem PL.below {w' : World} (h : PL w0 w g1 g2 K1 K2 s1 s2 L D) (k : Below w.heap.size w w') : PL w0 w' g1 g2 K1 K2 s1 s2 L D := ⟨h.bel.trans (k.mono h.bel.size), h.a.below k, h.b.below k, h.ge1, h.ge2, h.ne, h.c.below k, h.d.below k⟩
theorem PL.box (h : PL w0 w g1 g2 K1 K2 s1 s2 L D) (cs : Array Value) : PL w0 (w.alloc (.cells cs 45)) g1 g2 K1 K2 s1 s2 ((w.heap.size, cs) :: L) D := by
  have h1 := h.below (bel_new w (.cells cs 45))
  refine ⟨h1.bel, h1.a, h1.b, h1.ge1, h1.ge2, h1.ne, fun x hx => ?_, h1.d⟩
  rcases List.mem_cons.1 hx with rfl | hx
  · exact Cel.new _ _ _
  · exact h1.c x hx
theorem PL.step {w' : World} (h : PL w0 w g1 g2 K1 K2 s1 s2 L D) (p : PO w' g1 K1 S) (k : Only [g1] w w') : PL w0 w' g1 g2 K1 K2 S s2 L D := by
  obtain ⟨cs, hc⟩ := h.a.f.cel
  exact ⟨only_bel h.bel k h.ge1, p, h.b.only k (by simpa using h.ne.symm) (h.a.kr k), h.ge1, h.ge2, h.ne, h.c.only hc k, h.d.only hc k⟩
theorem PL.next1 (h : PL w0 w g1 g2 K1 K2 s1 s2 L D) (m kd sr nm cl : Int) (na : List Byte) (sz of : Int) (da : List Byte) (su : Nat) (co : Int) (n : Nat) (F : Bool) (S : SS) (hO : nxO K1 (adv m s1) = (⟨kd, sr, nm, cl, na, sz, of, da, su, co, []⟩, F)) (hS : nxS K1 (adv m s1) = S) (hn : da.length = n) :
    Calls Try.prog 13 #[.pointer (some ⟨g1, 0, none⟩), .int .i64 m] w fun e w' => ∃ A a, e = .returned (.tuple #[.agg #[.int .i64 kd, .int .i64 sr, .int .i64 nm, .int .i64 cl, .string (str na), .int .i64 sz, .int .i64 of, .slice A n a, .int .u32 (su : Int), .int .i64 co, .slice none 0 0], .bool F]) ∧ PL w0 w' g1 g2 K1 K2 S s2 L ((A, da, n, a) :: D) := by
  refine (h.a.next m kd sr nm cl na sz of da su co n F hO hS hn).mono ?_
  rintro e w' ⟨A, a, rfl, hb, p, k⟩
  have h1 := h.step p k
  refine ⟨A, a, rfl, h1.bel, h1.a, h1.b, h1.ge1, h1.ge2, h1.ne, h1.c, fun x hx => ?_⟩
  rcases List.mem_cons.1 hx with rfl | hx
  · exact hb.more (Nat.zero_le _)
  · exact h1.d x hx
theorem PL.next2 (h : PL w0 w g1 g2 K1 K2 s1 s2 L D) (m kd sr nm cl : Int) (na : List Byte) (sz of : Int) (da : List Byte) (su : Nat) (co : Int) (n : Nat) (F : Bool) (S : SS) (hO : nxO K2 (adv m s2) = (⟨kd, sr, nm, cl, na, sz, of, da, su, co, []⟩, F)) (hS : nxS K2 (adv m s2) = S) (hn : da.length = n) :
    Calls Try.prog 13 #[.pointer (some ⟨g2, 0, none⟩), .int .i64 m] w fun e w' => ∃ A a, e = .returned (.tuple #[.agg #[.int .i64 kd, .int .i64 sr, .int .i64 nm, .int .i64 cl, .string (str na), .int .i64 sz, .int .i64 of, .slice A n a, .int .u32 (su : Int), .int .i64 co, .slice none 0 0], .bool F]) ∧ PL w0 w' g1 g2 K1 K2 s1 S L ((A, da, n, a) :: D) := by
  refine (h.swap.next1 m kd sr nm cl na sz of da su co n F S hO hS hn).mono ?_
  rintro e w' ⟨A, a, rfl, k⟩
  exact ⟨A, a, rfl, k.swap⟩
theorem PO.take {w : World} {g : Nat} {K : Kc} {s : SS} (h : PO w g K s) (mt : Int) (kd sr nm cl : Int) (na : List Byte) (sz of : Int) (da : List Byte) (su : Nat) (co : Int) (ga : List R) (A0 : Option Addr) (n0 a0 : Nat) (G : Option Addr) (m a : Nat) (E : Int) (S : SS) (hp : Px w ⟨kd, sr, nm, cl, na, sz, of, da, su, co, ga⟩ A0 n0 a0 G m a) (hA : Off A0 g) (hG : Off G g) (hE : taO K ⟨kd, sr, nm, cl, na, sz, of, da, su, co, ga⟩ (adv mt s) = E) (hS : taS K ⟨kd, sr, nm, cl, na, sz, of, da, su, co, ga⟩ (adv mt s) = S) :
    Calls Try.prog 18 #[.pointer (some ⟨g, 0, none⟩), .agg #[.int .i64 kd, .int .i64 sr, .int .i64 nm, .int .i64 cl, .string (str na), .int .i64 sz, .int .i64 of, .slice A0 n0 a0, .int .u32 (su : Int), .int .i64 co, .slice G m a], .int .i64 mt] w fun e w' => e = .returned (.int .i64 E) ∧ PO w' g K S ∧ Only [g] w w' := by
  refine (stake_any mt kd sr nm cl na sz of da su co ga A0 n0 a0 G m a h.f h.k h.o hp hA hG).mono ?_
  rintro e w' ⟨rfl, hf, ho⟩
  have ok := taS_ok h.k (adv_ok h.o mt) ⟨kd, sr, nm, cl, na, sz, of, da, su, co, ga⟩
  rw [hS] at hf ok
  rw [hE]
  exact ⟨rfl, ⟨hf, h.k, ok⟩, ho⟩
theorem PL.take2 (h : PL w0 w g1 g2 K1 K2 s1 s2 L D) (mt : Int) (kd sr nm cl : Int) (na : List Byte) (sz of : Int) (da : List Byte) (su : Nat) (co : Int) (ga : List R) (A0 : Option Addr) (n0 a0 : Nat) (G : Option Addr) (m a : Nat) (E : Int) (S : SS) (hp : Px w ⟨kd, sr, nm, cl, na, sz, of, da, su, co, ga⟩ A0 n0 a0 G m a) (hA : Off A0 g2) (hG : Off G g2) (hE : taO K2 ⟨kd, sr, nm, cl, na, sz, of, da, su, co, ga⟩ (adv mt s2) = E) (hS : taS K2 ⟨kd, sr, nm, cl, na, sz, of, da, su, co, ga⟩ (adv mt s2) = S) :
    Calls Try.prog 18 #[.pointer (some ⟨g2, 0, none⟩), .agg #[.int .i64 kd, .int .i64 sr, .int .i64 nm, .int .i64 cl, .string (str na), .int .i64 sz, .int .i64 of, .slice A0 n0 a0, .int .u32 (su : Int), .int .i64 co, .slice G m a], .int .i64 mt] w fun e w' => e = .returned (.int .i64 E) ∧ PL w0 w' g1 g2 K1 K2 s1 S L D := by
  refine (h.b.take mt kd sr nm cl na sz of da su co ga A0 n0 a0 G m a E S hp hA hG hE hS).mono ?_
  rintro e w' ⟨rfl, p, k⟩
  exact ⟨rfl, (h.swap.step p k).swap⟩
theorem KC.at_ {x : Nat × Array Value} (h : KC w L) (hx : x ∈ L) : Cel w x.1 45 x.2 := h x hx
theorem KB.conv {A : Option Addr} {l : List Byte} {n c : Nat} (h : KB w D) (hx : (A, l, n, c) ∈ D) : (convert 24 9 (.slice A n c)).run Try.prog w = .ok (.string (str l)) w := (h _ hx).bx.conv (Below.refl _ _)
end

/-! ### the chapter's examples -/
theorem id_results {tmps : Array Value} {W : World} {g : Nat} {x0 x1 : Value} (h2 : tmps.getD 0 undef = .pointer (some ⟨g, 0, none⟩)) (hC : Cel W g 23 #[x0, x1]) :
    (results Try.f15 tmps).run Try.prog W = .ok (.agg #[x0, x1]) W := by
  have c0 := hC.cell 0
  have c1 := hC.cell 1
  simp only [Array.getD_eq_getD_getElem?] at h2
  simp [results, Try.results15, go_sem, h2, c0, c1] at *
set_option maxHeartbeats 400000 in
theorem id_any (w : World) : Calls Try.prog 15 #[] w fun e w' => e = .returned (.agg #[.int .i64 1, .int .i64 7]) ∧ Below w.heap.size w w' := by
  have hb := bel_new w (.cells #[.int .i64 1, .int .i64 7] 23)
  go_enter Try.func15, Try.ntmps15
  go_wp2
  exact bodyPost_ret (id_results rfl (Cel.new _ _ _)) rfl ⟨rfl, hb⟩
def bt5 : List Byte := [65#8, 66#8, 67#8, 68#8, 69#8]
def KA : Kc := ⟨1, 7, 1, [120#8], bt5, 2, 10, 0⟩
def KE : Kc := ⟨1, 7, 2, [120#8], bt5, 5, 10, 1⟩
def sa1 : SS := nxS KA (adv 0 ss0)
def sa2 : SS := nxS KA (adv 0 sa1)
def sa3 : SS := nxS KA (adv 0 sa2)
def sa4 : SS := nxS KA (adv 0 sa3)
def sa5 : SS := nxS KA (adv 0 sa4)
def se1 : SS := nxS KE (adv 3 ss0)
def se2 : SS := nxS KE (adv 3 se1)
def se3 : SS := nxS KE (adv 3 se2)
def se4 : SS := nxS KE (adv 12 se3)
def se5 : SS := nxS KE (adv 13 se4)
def se6 : SS := taS KE ⟨4, 1, 7, 0, [], 0, 0, [], 0, 0, [(0, 0), (1, 4)]⟩ (adv 14 se5)
def se7 : SS := nxS KE (adv 14 se6)
def se8 : SS := nxS KE (adv 14 se7)
def se9 : SS := nxS KE (adv 24 se8)
def se10 : SS := nxS KE (adv 34 se9)
theorem ka_acc : KA.acc = true := by kernel_rfl
theorem ke_acc : KE.acc = true := by kernel_rfl
theorem kc_acc : Kc.acc ⟨1, 7, 3, [120#8], [], 5, 10, 0⟩ = false := by kernel_rfl
theorem oa1 : nxO KA (adv 0 ss0) = (⟨1, 1, 7, 1, [120#8], 5, 0, [], 0, 0, []⟩, true) := by kernel_rfl
theorem oa2 : nxO KA (adv 0 sa1) = (⟨2, 1, 7, 0, [], 0, 0, [65#8, 66#8], 0, 0, []⟩, true) := by kernel_rfl
theorem oa3 : nxO KA (adv 0 sa2) = (⟨2, 1, 7, 0, [], 0, 2, [67#8, 68#8], 0, 0, []⟩, true) := by kernel_rfl
theorem oa4 : nxO KA (adv 0 sa3) = (⟨2, 1, 7, 0, [], 0, 4, [69#8], 0, 0, []⟩, true) := by kernel_rfl
theorem oa5 : nxO KA (adv 0 sa4) = (⟨3, 1, 7, 1, [], 5, 0, [], 2252489540, 0, []⟩, true) := by kernel_rfl
theorem oe1 : nxO KE (adv 3 ss0) = (⟨1, 1, 7, 2, [120#8], 5, 0, [], 0, 0, []⟩, true) := by kernel_rfl
theorem oe2 : nxO KE (adv 3 se1) = (⟨2, 1, 7, 0, [], 0, 0, bt5, 0, 0, []⟩, true) := by kernel_rfl
theorem oe3 : nxO KE (adv 3 se2) = (⟨3, 1, 7, 2, [], 5, 0, [], 2252489540, 0, []⟩, true) := by kernel_rfl
theorem oe4 : nxO KE (adv 12 se3) = (⟨0, 0, 0, 0, [], 0, 0, [], 0, 0, []⟩, false) := by kernel_rfl
theorem oe5 : nxO KE (adv 13 se4) = (⟨3, 1, 7, 2, [], 5, 0, [], 2252489540, 0, []⟩, true) := by kernel_rfl
theorem oe7 : nxO KE (adv 14 se6) = (⟨1, 1, 7, 2, [120#8], 5, 0, [], 0, 0, []⟩, true) := by kernel_rfl
theorem oe8 : nxO KE (adv 14 se7) = (⟨2, 1, 7, 0, [], 0, 1, [66#8, 67#8, 68#8], 0, 0, []⟩, true) := by kernel_rfl
theorem oe9 : nxO KE (adv 24 se8) = (⟨3, 1, 7, 2, [], 5, 0, [], 2252489540, 0, []⟩, true) := by kernel_rfl
theorem oe10 : nxO KE (adv 34 se9) = (⟨0, 0, 0, 0, [], 0, 0, [], 0, 0, []⟩, false) := by kernel_rfl
theorem oeT : taO KE ⟨4, 1, 7, 0, [], 0, 0, [], 0, 0, [(0, 0), (1, 4)]⟩ (adv 14 se5) = 0 := by kernel_rfl
theorem sta_a : sta sa5 = 4 := by kernel_rfl
theorem sta_e : sta se10 = 5 := by kernel_rfl
theorem co_e : se10.co = 10 := by kernel_rfl
end Go.Proofs.Ytaaikmncdgfkmaa.Src
