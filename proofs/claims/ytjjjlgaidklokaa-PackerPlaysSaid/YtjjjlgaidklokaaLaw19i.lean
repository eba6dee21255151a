/-
  The law PackerPlays: Next in one word; a Packer beside the reference's in a variable, and beside another Packer.
-/
import Derived.Test.YtjjjlgaidklokaaLaw19e
import Derived.Test.YtjjjlgaidklokaaRef19c
import Derived.Test.YtjjjlgaidklokaaRef19e
import Derived.Test.YtjjjlgaidklokaaVals19
namespace Go.Proofs.Ytjjjlgaidklokaa.Pkr
open Go.RowKit
open Pac (bel_new Cel.later)

/-- what Next hands back, and what it leaves -/
def nq (Z : Nat) (s : PS) : Nat × List Byte × Bool × PS := if s.wt.length = 0 then (0, [], false, s) else (nxP Z s, nxF Z s, true, nxS Z s)
theorem Rd.nil_ (w : World) : Rd w none [] 0 0 := ⟨rfl, fun h => absurd h (by simp), fun _ => rfl, Nat.le_refl _, by decide⟩
section
variable {w0 w w' : World} {g Z R N P : Nat} {F : List Nat} {s s' : PS} {fl : List Byte} {b : Bool}
theorem PL.nextq (h : PL w0 w g F Z R s) (hQ : nq Z s = (P, fl, b, s')) (hN : fl.length = N) :
    Calls Try.prog 18 #[.pointer (some ⟨g, 0, none⟩)] w fun e w' => ∃ A c F', e = .returned (.tuple #[.slice A N c, .int .i64 (P : Int), .bool b]) ∧ Rd w' A fl N c ∧ PL w0 w' g F' Z R s' ∧ Only F w w' ∧ ∀ x ∈ F', x ∈ F ∨ w.heap.size ≤ x := by
  unfold nq at hQ
  by_cases h0 : s.wt.length = 0
  · rw [if_pos h0] at hQ
    cases hQ
    refine (h.next0 h0).mono ?_
    rintro e w' ⟨rfl, rfl⟩
    subst hN
    exact ⟨none, 0, F, rfl, Rd.nil_ _, h, Only.refl _ _, fun x hx => .inl hx⟩
  · rw [if_neg h0] at hQ
    cases hQ
    obtain rfl : Z = N := by rw [← hN, nxF_len h.p.z2]
    refine (h.next (by omega) rfl rfl rfl).mono ?_
    rintro e w' ⟨A, c, F', rfl, h1, _, h2, h3, h4⟩
    exact ⟨A, c, F', rfl, h1, h2, h3, h4⟩
theorem RV.nextq {D : Nat → Prop} {Re n c Tk : Nat} {A : Option Addr} (h : RV w D R Re A n c Tk s) (hZ : Z ≤ 1012) (hQ : nq Z s = (P, fl, b, s')) (hN : fl.length = N) :
    Calls Try.prog 19 #[.agg #[.int .i64 (Z : Int), .int .i64 (R : Int), .int .i64 (Re : Int), .slice A n c, .int .i64 (Tk : Int)]] w fun e w' => ∃ (Re' : Nat) (A' : Option Addr) (n' c' Tk' : Nat) (Au : Option Addr) (cu : Nat), e = .returned (.tuple #[.agg #[.int .i64 (Z : Int), .int .i64 (R : Int), .int .i64 (Re' : Int), .slice A' n' c', .int .i64 (Tk' : Int)], .slice Au N cu, .int .i64 (P : Int), .bool b]) ∧ RV w' D R Re' A' n' c' Tk' s' ∧ Rd w' Au fl N cu ∧ Below w.heap.size w w' := by
  unfold nq at hQ
  by_cases h0 : s.wt.length = 0
  · rw [if_pos h0] at hQ
    cases hQ
    refine (xnext_no h h0).mono ?_
    rintro e w' ⟨rfl, hb⟩
    subst hN
    exact ⟨Re, A, n, c, Tk, none, 0, rfl, h.below hb, Rd.nil_ _, hb⟩
  · rw [if_neg h0] at hQ
    cases hQ
    refine (xnext_yes h hZ (by omega)).mono ?_
    rintro e w' ⟨⟨Re', A', n', c', Tk', v, rfl, h1, ho⟩, hb⟩
    obtain ⟨Au, cu, rfl, hr⟩ := Rd.of ho hN
    exact ⟨Re', A', n', c', Tk', Au, cu, rfl, h1, hr, hb⟩
end

/-- a slice of bytes leads nowhere into a block that holds none -/
theorem Rd.offc {w w' : World} {g n c : Nat} {t : TypeId} {cs : Array Value} {a : Option Addr} {l : List Byte} (hc : Cel w g t cs) (hn : ∀ (i : Nat) (x : Byte), cs[i]? ≠ some (B8 x)) (hd : Rd w a l n c) (k : Only [g] w w') : Rd w' a l n c := by
  refine ⟨hd.len, fun hl => ?_, hd.nil, hd.le, hd.max⟩
  obtain ⟨b, off, e, hlt, h1⟩ := hd.bs hl
  refine ⟨b, off, e, Nat.lt_of_lt_of_le hlt k.size, fun i x hx => ?_⟩
  have h1 := h1 i x hx
  have hb : b ≠ g := by
    rintro rfl
    rw [hc.cell (off + i)] at h1
    exact hn _ _ h1
  have h2 := k.block b hlt (by simpa using hb)
  unfold World.cell? at h1 ⊢
  simp only at h1 ⊢
  rw [h2]
  exact h1
theorem pk_no (Z R Re Tk : Int) (A : Option Addr) (n c : Nat) : ∀ (i : Nat) (x : Byte), (#[.int .i64 Z, .int .i64 R, .int .i64 Re, .slice A n c, .int .i64 Tk] : Array Value)[i]? ≠ some (B8 x)
  | 0, _ => by simp
  | 1, _ => by simp
  | 2, _ => by simp
  | 3, _ => by simp
  | 4, _ => by simp
  | i + 5, _ => by simp

theorem Ops19.below {w w' : World} {a : Option Addr} {l : List O19} (h : Ops19 w a l) (k : Below w.heap.size w w') : Ops19 w' a l := fun i v hv => by
  obtain ⟨b, off, e, hb, h1, h2, h3, h4⟩ := h i v hv
  exact ⟨b, off, e, Nat.lt_of_lt_of_le hb k.size, (k.cell (p := ⟨b, off + i * 3, none⟩) hb).trans h1, (k.cell (p := ⟨b, off + i * 3 + 1, none⟩) hb).trans h2, (k.cell (p := ⟨b, off + i * 3 + 2, none⟩) hb).trans h3, h4.later k⟩

/-- the blocks that are no Packer's and not the variable's -/
def Dn (F G : List Nat) (X : Nat) (b : Nat) : Prop := b ∉ F ∧ b ∉ G ∧ b ≠ X
theorem RV.turn {w w' : World} {F F' G G' S : List Nat} {X R Re n c Tk : Nat} {A : Option Addr} {s : PS} (h : RV w (Dn F G X) R Re A n c Tk s) (k : Only S w w') (hS : ∀ x ∈ S, x ∈ F ∨ x ∈ G) (hF : ∀ x, x ∈ F' ∨ x ∈ G' → (x ∈ F ∨ x ∈ G) ∨ w.heap.size ≤ x) : RV w' (Dn F' G' X) R Re A n c Tk s := by
  have h1 : RV w (fun b => Dn F G X b ∧ Dn F' G' X b) R Re A n c Tk s := h.imp fun b hb hd => ⟨hd, fun hm => ?_, fun hm => ?_, hd.2.2⟩
  · have h2 := h1.keep (Lst.Kd.of_only k fun i _ hd hm => (hS i hm).elim hd.1.1 hd.1.2.1)
    exact h2.imp fun b _ hd => hd.2
  · rcases hF b (.inl hm) with (h2 | h2) | h2
    · exact hd.1 h2
    · exact hd.2.1 h2
    · omega
  · rcases hF b (.inr hm) with (h2 | h2) | h2
    · exact hd.1 h2
    · exact hd.2.1 h2
    · omega
/-- a Packer (state s) and a variable X that holds the reference's (state r); the blocks G are another Packer's -/
structure PR (w0 w : World) (g : Nat) (F : List Nat) (Z R X Re : Nat) (A : Option Addr) (n c Tk : Nat) (G : List Nat) (s r : PS) : Prop where
  pl : PL w0 w g F Z R s
  x : Cel w X 36 #[.int .i64 (Z : Int), .int .i64 (R : Int), .int .i64 (Re : Int), .slice A n c, .int .i64 (Tk : Int)]
  v : RV w (Dn F G X) R Re A n c Tk r
  lo : w0.heap.size ≤ X
  xf : X ∉ F
  xg : X ∉ G
section
variable {w0 w w' : World} {g Z R X Re n c Tk : Nat} {A : Option Addr} {F F' G S : List Nat} {s s' r r' : PS}
theorem PR.below (h : PR w0 w g F Z R X Re A n c Tk G s r) (k : Below w.heap.size w w') : PR w0 w' g F Z R X Re A n c Tk G s r :=
  ⟨h.pl.below k, Cel.later h.x k, h.v.below k, h.lo, h.xf, h.xg⟩
theorem PR.turn {g' : Nat} (h : PR w0 w g F Z R X Re A n c Tk [] s r) (k : Only F w w') (p : PL w0 w' g' F' Z R s') (hn : ∀ x ∈ F', x ∈ F ∨ w.heap.size ≤ x) : PR w0 w' g' F' Z R X Re A n c Tk [] s' r :=
  ⟨p, h.x.only k h.xf, h.v.turn k (fun _ hx => .inl hx) (fun x hx => hx.elim (fun e => (hn x e).imp .inl id) (fun e => nomatch e)), h.lo, fun hm => by
    rcases hn X hm with h1 | h1
    · exact h.xf h1
    · have := h.x.lt; omega, h.xg⟩
theorem PR.push1 (h : PR w0 w g F Z R X Re A n c Tk [] s r) {a : Option Addr} {l : List Byte} {N cap : Nat} (hl : Rd w a l N cap) {E : Int} (hE : psE R l s = E) (hS : psS R l s = s') :
    Calls Try.prog 9 #[.pointer (some ⟨g, 0, none⟩), .slice a N cap] w fun e w' => e = .returned (.int .i64 E) ∧ ∃ F', PR w0 w' g F' Z R X Re A n c Tk [] s' r := by
  refine (h.pl.push hl hE hS).mono ?_
  rintro e w' ⟨rfl, F', p, k, hn⟩
  exact ⟨rfl, F', h.turn k p hn⟩
theorem PR.next1 (h : PR w0 w g F Z R X Re A n c Tk [] s r) {P N : Nat} {fl : List Byte} {b : Bool} (hQ : nq Z s = (P, fl, b, s')) (hN : fl.length = N) :
    Calls Try.prog 18 #[.pointer (some ⟨g, 0, none⟩)] w fun e w' => ∃ Au cu F', e = .returned (.tuple #[.slice Au N cu, .int .i64 (P : Int), .bool b]) ∧ Rd w' Au fl N cu ∧ PR w0 w' g F' Z R X Re A n c Tk [] s' r := by
  refine (h.pl.nextq hQ hN).mono ?_
  rintro e w' ⟨Au, cu, F', rfl, hr, p, k, hn⟩
  exact ⟨Au, cu, F', rfl, hr, h.turn k p hn⟩
/-- the variable is set -/
theorem PR.store (h : PR w0 w g F Z R X Re A n c Tk [] s r) {Re' n' c' Tk' : Nat} {A' : Option Addr} (v : RV w (Dn F [] X) R Re' A' n' c' Tk' r') :
    PR w0 (put5 w X (.int .i64 (Z : Int)) (.int .i64 (R : Int)) (.int .i64 (Re' : Int)) (.slice A' n' c') (.int .i64 (Tk' : Int))) g F Z R X Re' A' n' c' Tk' [] s r' := by
  have k := put5_only w X (.int .i64 (Z : Int)) (.int .i64 (R : Int)) (.int .i64 (Re' : Int)) (.slice A' n' c') (.int .i64 (Tk' : Int))
  refine ⟨h.pl.only k (fun x hx => by rw [List.mem_singleton.1 hx]; exact h.lo) (fun x hx hm => h.xf (by rw [← List.mem_singleton.1 hm]; exact hx)), put5_cel h.x _ _ _ _ _, v.keep (Lst.Kd.of_only k fun i _ hd hm => hd.2.2 (List.mem_singleton.1 hm)), h.lo, h.xf, h.xg⟩
/-- beside it another Packer (block o, blocks G, state t) -/
structure PQ (w0 w : World) (g : Nat) (F : List Nat) (Z R X Re : Nat) (A : Option Addr) (n c Tk : Nat) (s r : PS) (o : Nat) (G : List Nat) (t : PS) : Prop where
  q : PR w0 w g F Z R X Re A n c Tk G s r
  o : PL w0 w o G Z R t
  ap : ∀ x ∈ F, x ∉ G
theorem PR.clone1 (h : PR w0 w g F Z R X Re A n c Tk [] s r) :
    Calls Try.prog 13 #[.pointer (some ⟨g, 0, none⟩)] w fun e w' => ∃ q F', e = .returned (.pointer (some ⟨q, 0, none⟩)) ∧ PQ w0 w' q F' Z R X Re A n c Tk s r g F s := by
  refine (pclone_any h.pl.p).mono ?_
  rintro e w' ⟨q, F', rfl, p, hn, k⟩
  have hX := h.x.lt
  exact ⟨q, F', rfl, ⟨h.pl.turn (Only.of_below (S := []) k) (fun x hx => nomatch hx) p (fun x hx => .inr (hn x hx)), Cel.later h.x k,
    h.v.turn (Only.of_below (S := []) k) (fun x hx => nomatch hx) (fun x hx => hx.elim (fun e => .inr (hn x e)) (fun e => .inl (.inl e))), h.lo, fun hm => by have := hn X hm; omega, h.xf⟩,
    h.pl.below k, fun x hx hm => by have := hn x hx; have := h.pl.p.lt x hm; omega⟩
section
variable {o : Nat} {G' : List Nat} {t t' : PS}
theorem PQ.below (h : PQ w0 w g F Z R X Re A n c Tk s r o G t) (k : Below w.heap.size w w') : PQ w0 w' g F Z R X Re A n c Tk s r o G t := ⟨h.q.below k, h.o.below k, h.ap⟩
theorem PQ.turn (h : PQ w0 w g F Z R X Re A n c Tk s r o G t) (k : Only G w w') (p : PL w0 w' o G' Z R t') (hn : ∀ x ∈ G', x ∈ G ∨ w.heap.size ≤ x) : PQ w0 w' g F Z R X Re A n c Tk s r o G' t' := by
  have hX := h.q.x.lt
  refine ⟨⟨h.q.pl.only k h.o.lo h.ap, h.q.x.only k h.q.xg, h.q.v.turn k (fun _ hx => .inr hx) (fun x hx => hx.elim (fun e => .inl (.inl e)) (fun e => (hn x e).imp .inr id)), h.q.lo, h.q.xf, fun hm => ?_⟩, p, fun x hx hm => ?_⟩
  · rcases hn X hm with h1 | h1
    · exact h.q.xg h1
    · omega
  · have := h.q.pl.p.lt x hx
    rcases hn x hm with h1 | h1
    · exact h.ap x hx h1
    · omega
theorem PQ.push (h : PQ w0 w g F Z R X Re A n c Tk s r o G t) {a : Option Addr} {l : List Byte} {N cap : Nat} (hl : Rd w a l N cap) :
    Calls Try.prog 9 #[.pointer (some ⟨o, 0, none⟩), .slice a N cap] w fun e w' => ∃ E G' t', e = .returned (.int .i64 E) ∧ PQ w0 w' g F Z R X Re A n c Tk s r o G' t' := by
  refine (h.o.push hl rfl rfl).mono ?_
  rintro e w' ⟨rfl, G', p, k, hn⟩
  exact ⟨_, G', _, rfl, h.turn k p hn⟩
theorem PQ.next (h : PQ w0 w g F Z R X Re A n c Tk s r o G t) :
    Calls Try.prog 18 #[.pointer (some ⟨o, 0, none⟩)] w fun e w' => ∃ Au N cu P b G' t', e = .returned (.tuple #[.slice Au N cu, .int .i64 P, .bool b]) ∧ PQ w0 w' g F Z R X Re A n c Tk s r o G' t' := by
  obtain ⟨Q, hQ⟩ : ∃ Q, nq Z t = Q := ⟨_, rfl⟩
  obtain ⟨P, fl, b, t'⟩ := Q
  refine (h.o.nextq hQ rfl).mono ?_
  rintro e w' ⟨Au, cu, G', rfl, _, p, k, hn⟩
  exact ⟨Au, _, cu, _, b, G', t', rfl, h.turn k p hn⟩
/-- the other one is left -/
theorem PQ.drop (h : PQ w0 w g F Z R X Re A n c Tk s r o G t) : PR w0 w g F Z R X Re A n c Tk [] s r :=
  ⟨h.q.pl, h.q.x, h.q.v.imp fun _ _ hd => ⟨hd.1, (fun hm => nomatch hm), hd.2.2⟩, h.q.lo, h.q.xf, fun hm => nomatch hm⟩
end
end
end Go.Proofs.Ytjjjlgaidklokaa.Pkr
