/-
  The law LinkPlays: few; a Link beside the reference's in a variable (PR); the calls of the play as an argument.
-/
import Derived.Test.YtllhdgllgoanbaaLaw23a
import Derived.Test.YtllhdgllgoanbaaRef23d
namespace Go.Proofs.Ytllhdgllgoanbaa.Lnk
open Go.RowKit Go.Proofs.Ytllhdgllgoanbaa.Row
open Rng (R)
open Lst (Qb)

/-- a call of the play -/
structure Op23 where
  cl : Int
  nw : Int
  A : Option Addr
  c : Nat
  b : List Byte
instance : Inhabited Op23 := ⟨⟨0, 0, none, 0, []⟩⟩
/-- 'a' leads to the calls l, three cells each -/
def Ops23 (w : World) (a : Option Addr) (l : List Op23) : Prop :=
  ∀ i v, l[i]? = some v → ∃ b off, a = some ⟨b, off, none⟩ ∧ b < w.heap.size ∧ w.cell? ⟨b, off + i * 3, none⟩ = some (I v.cl) ∧ w.cell? ⟨b, off + i * 3 + 1, none⟩ = some (I v.nw) ∧
    w.cell? ⟨b, off + i * 3 + 2, none⟩ = some (.slice v.A v.b.length v.c) ∧ Lst.Dt w w.heap.size v.b v.A v.c
theorem Ops23.below {w w' : World} {a : Option Addr} {l : List Op23} (h : Ops23 w a l) (k : Below w.heap.size w w') : Ops23 w' a l := fun i v hv => by
  obtain ⟨b, off, e, hb, h1, h2, h3, h4⟩ := h i v hv
  exact ⟨b, off, e, Nat.lt_of_lt_of_le hb k.size, (k.cell (p := ⟨b, off + i * 3, none⟩) hb).trans h1, (k.cell (p := ⟨b, off + i * 3 + 1, none⟩) hb).trans h2, (k.cell (p := ⟨b, off + i * 3 + 2, none⟩) hb).trans h3, h4.later k⟩

set_option maxHeartbeats 1000000 in
theorem few_any (dl : Int) (Ao Al Af : Option Addr) (no co nl cl nf cf : Nat) (w : World) (h1 : no ≤ maxLen) (h2 : nl ≤ maxLen) (h3 : nf ≤ maxLen) :
    Calls Try.prog 7 #[.agg #[I dl, .slice Ao no co, .slice Al nl cl, .slice Af nf cf]] w fun e w' => e = .returned (.bool ((decide (no ≤ 30) && decide (nl ≤ 60)) && decide (nf ≤ 60))) ∧ Below w.heap.size w w' := by
  unfold maxLen at h1 h2 h3
  have b1 := bel_new w (.cells #[I dl, .slice Ao no co, .slice Al nl cl, .slice Af nf cf] 26)
  by_cases q1 : no ≤ 30
  · have t1 : decide ((no : Int) ≤ 30) = true := by simp; omega
    have t1' : decide (no ≤ 30) = true := by simpa using q1
    by_cases q2 : nl ≤ 60
    · have t2 : decide ((nl : Int) ≤ 60) = true := by simp; omega
      have t2' : decide (nl ≤ 60) = true := by simpa using q2
      by_cases q3 : nf ≤ 60
      · have t3 : decide ((nf : Int) ≤ 60) = true := by simp; omega
        have t3' : decide (nf ≤ 60) = true := by simpa using q3
        rw [t1', t2', t3']
        clear q1 q2 q3
        go_enter Try.func7, Try.ntmps7
        go_wp2
        go_ret
        exact ⟨rfl, b1⟩
      · have t3 : decide ((nf : Int) ≤ 60) = false := by simp; omega
        have t3' : decide (nf ≤ 60) = false := by simpa using q3
        rw [t1', t2', t3']
        clear q1 q2 q3
        go_enter Try.func7, Try.ntmps7
        go_wp2
        go_ret
        exact ⟨rfl, b1⟩
    · have t2 : decide ((nl : Int) ≤ 60) = false := by simp; omega
      have t2' : decide (nl ≤ 60) = false := by simpa using q2
      rw [t1', t2', Bool.and_false, Bool.false_and]
      clear q1 q2
      go_enter Try.func7, Try.ntmps7
      go_wp2
      go_ret
      exact ⟨rfl, b1⟩
  · have t1 : decide ((no : Int) ≤ 30) = false := by simp; omega
    have t1' : decide (no ≤ 30) = false := by simpa using q1
    rw [t1', Bool.false_and, Bool.false_and]
    clear q1
    go_enter Try.func7, Try.ntmps7
    go_wp2
    go_ret
    exact ⟨rfl, b1⟩

/-- a Link (state s) and a variable X that holds the reference's (state r) -/
structure PR (w0 w : World) (g : Nat) (F : List Nat) (X : Nat) (c : Cf) (s r : LS) (N : Nat) (Ao : Option Addr) (no co : Nat) (Al : Option Addr) (nl cl : Nat) (Af : Option Addr) (nf cf : Nat) (AL : Option Addr) (nL cL : Nat) : Prop where
  p : PL w0 w g F c s N
  x : Cel w X 36 #[I c.dl, .slice Ao no co, .slice Al nl cl, .slice Af nf cf, I r.tm, I (r.sn : Int), .slice AL nL cL]
  f : Fq w AL nL cL r.wt
  xb : w0.heap.size ≤ X
section
variable {w0 w w' : World} {g X N : Nat} {F F' S : List Nat} {c : Cf} {s s' r : LS} {Ao Al Af AL : Option Addr} {no co nl cl nf cf nL cL : Nat}
theorem PL.off (h : PL w0 w g F c s N) {t : TypeId} {cs : Array Value} (hc : Cel w X t cs) (h1 : t ≠ 61) (h2 : t ≠ 71) : X ∉ F := by
  obtain ⟨⟨r, ⟨v, ts, Ao, no, co, Al, nl, cl, Af, nf, cf, hl, rfl⟩, rfl⟩, _⟩ := h
  simp only [List.mem_cons, Option.mem_toList, not_or]
  exact ⟨fun e => by subst e; exact Cel.apart hc hl.cel h1 rfl, fun e => Row.Os.apart hl.os hc h2.symm e⟩
theorem PR.below (h : PR w0 w g F X c s r N Ao no co Al nl cl Af nf cf AL nL cL) (k : Below w.heap.size w w') : PR w0 w' g F X c s r N Ao no co Al nl cl Af nf cf AL nL cL :=
  ⟨h.p.below k, Cel.on h.x k, h.f.below k, h.xb⟩
theorem PR.up {M : Nat} (h : PR w0 w g F X c s r N Ao no co Al nl cl Af nf cf AL nL cL) (k : N ≤ M) : PR w0 w g F X c s r M Ao no co Al nl cl Af nf cf AL nL cL :=
  ⟨⟨h.p.l, h.p.ge, h.p.ok.up k, h.p.m, h.p.b⟩, h.x, h.f, h.xb⟩
theorem PR.send1 (h : PR w0 w g F X c s r N Ao no co Al nl cl Af nf cf AL nL cL) (hN : N < 100000) {now : Int} {a : Option Addr} {b : List Byte} {n k : Nat} (hl : b.length = n) (hb : Bs w0 w0.heap.size a b) (hn : a = none → k = 0) (hm : n ≤ 1000000) :
    Calls Try.prog 11 #[.pointer (some ⟨g, 0, none⟩), I now, .slice a n k] w fun e w' => e = .returned (.int .i64 0) ∧ (∃ F', PR w0 w' g F' X c (snd c now b s) r (N + 1) Ao no co Al nl cl Af nf cf AL nL cL) ∧ Kq w w' := by
  refine (h.p.send hN hl (h.p.bo_low hb) hn hm rfl).mono ?_
  rintro e w' ⟨rfl, F', p, k', hF⟩
  have q := h.p.kq k'
  exact ⟨rfl, ⟨F', p, h.x.only k' (h.p.off h.x (by decide) (by decide)), h.f.keep q, h.xb⟩, q⟩
theorem PR.recv1 (h : PR w0 w g F X c s r N Ao no co Al nl cl Af nf cf AL nL cL) (hN : N ≤ 100000) {now : Int} :
    Calls Try.prog 13 #[.pointer (some ⟨g, 0, none⟩), I now] w fun e w' => ∃ v, e = .returned v ∧ Ls w' w.heap.size v (rcO now s) ∧ PR w0 w' g F X c (rcS now s) r N Ao no co Al nl cl Af nf cf AL nL cL ∧ Kq w w' := by
  refine (h.p.recv hN rfl rfl).mono ?_
  rintro e w' ⟨v, rfl, hls, p, k'⟩
  have q := h.p.kq k'
  exact ⟨v, rfl, hls, ⟨p, h.x.only k' (h.p.off h.x (by decide) (by decide)), h.f.keep q, h.xb⟩, q⟩
/-- a copy; the elder Link beside it -/
theorem PR.clone1 (h : PR w0 w g F X c s r N Ao no co Al nl cl Af nf cf AL nL cL) (hN : N ≤ 100000) :
    Calls Try.prog 16 #[.pointer (some ⟨g, 0, none⟩)] w fun e w' => ∃ g' F', e = .returned (.pointer (some ⟨g', 0, none⟩)) ∧ PR w0 w' g' F' X c s r N Ao no co Al nl cl Af nf cf AL nL cL ∧ PL w0 w' g F c s N ∧ (∀ x ∈ F, x ∉ F') ∧ Below w.heap.size w w' := by
  refine (h.p.clone hN).mono ?_
  rintro e w' ⟨g', F', rfl, p, b, hF⟩
  exact ⟨g', F', rfl, ⟨p, Cel.on h.x b, h.f.below b, h.xb⟩, h.p.below b, fun x hx hm => by have := (h.p.lo x hx).2; have := hF x hm; omega, b⟩
/-- calls of another Link leave this one alone -/
theorem PR.other {g2 : Nat} {F2 F2' : List Nat} {s2 : LS} {N2 : Nat} (h : PR w0 w g F X c s r N Ao no co Al nl cl Af nf cf AL nL cL) (h2 : PL w0 w g2 F2 c s2 N2) (hd : ∀ x ∈ F2, x ∉ F) (k : Only F2 w w') (hF : ∀ x ∈ F2', x ∈ F2 ∨ w.heap.size ≤ x) : PR w0 w' g F X c s r N Ao no co Al nl cl Af nf cf AL nL cL ∧ ∀ x ∈ F2', x ∉ F := by
  have q := h2.kq k
  refine ⟨⟨h.p.only k q (fun x hx => ⟨hd x hx, (h2.lo x hx).1⟩), h.x.only k (h2.off h.x (by decide) (by decide)), h.f.keep q, h.xb⟩, fun x hx hm => ?_⟩
  rcases hF x hx with e | e
  · exact hd x e hm
  · have := (h.p.lo x hm).2; omega
/-- the reference's next state stored into its variable -/
theorem PR.store (h : PR w0 w g F X c s r N Ao no co Al nl cl Af nf cf AL nL cL) {A' : Option Addr} {n' c' : Nat} {t : LS} (v : Fq w A' n' c' t.wt) :
    PR w0 (put7 w X (I c.dl) (.slice Ao no co) (.slice Al nl cl) (.slice Af nf cf) (I t.tm) (I (t.sn : Int)) (.slice A' n' c')) g F X c s t N Ao no co Al nl cl Af nf cf A' n' c' ∧ Kq w (put7 w X (I c.dl) (.slice Ao no co) (.slice Al nl cl) (.slice Af nf cf) (I t.tm) (I (t.sn : Int)) (.slice A' n' c')) ∧ Only [X] w (put7 w X (I c.dl) (.slice Ao no co) (.slice Al nl cl) (.slice Af nf cf) (I t.tm) (I (t.sn : Int)) (.slice A' n' c')) := by
  have k := put7_only w X (I c.dl) (.slice Ao no co) (.slice Al nl cl) (.slice Af nf cf) (I t.tm) (I (t.sn : Int)) (.slice A' n' c')
  have q := Kq.of_only k (fun x hx => by rw [List.mem_singleton.1 hx]; exact not_fx h.x (by decide))
  have ho := h.p.off h.x (by decide) (by decide)
  exact ⟨⟨h.p.only k q (fun x hx => by rw [List.mem_singleton.1 hx]; exact ⟨ho, h.xb⟩), put7_cel h.x _ _ _ _ _ _ _, v.keep q, h.xb⟩, q, k⟩
end
end Go.Proofs.Ytllhdgllgoanbaa.Lnk
