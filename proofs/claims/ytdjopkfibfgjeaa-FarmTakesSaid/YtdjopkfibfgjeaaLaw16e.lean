/-
  The law FarmTakes: a receiving end and the reference's beside it.
-/
import Derived.Test.YtdjopkfibfgjeaaLaw16c
import Derived.Test.YtdjopkfibfgjeaaRef16b
import Derived.Test.YtdjopkfibfgjeaaOps16
import Derived.Test.YtdjopkfibfgjeaaHand
import Derived.Deep.Cut
import Derived.Deep.CutRange
namespace Go.Proofs.Ytdjopkfibfgjeaa.Far
open Go.RowKit
open Pac (bel_new Cel.later)
open Tcf (Fr dir)

set_option maxHeartbeats 1000000 in
theorem want_any (byp con : Bool) (cr ch sq : Int) (a : Option Addr) (l : List Byte) (n c : Nat) (V : Int) (w : World) (hD : Rd w a l n c) :
    Calls Try.prog 15 #[.agg #[.bool byp, .bool con, .int .i64 cr, .int .i64 ch, .int .i64 sq, .slice a n c], .int .i64 V] w fun e w' => e = .returned (.string (str (dat V l))) ∧ Below w.heap.size w w' := by
  obtain ⟨w1, hw1⟩ : ∃ w1, w1 = w.alloc (.cells #[.bool byp, .bool con, .int .i64 cr, .int .i64 ch, .int .i64 sq, .slice a n c] 32) := ⟨_, rfl⟩
  have b1 : Below w.heap.size w w1 := by rw [hw1]; exact bel_new _ _
  have hR : Cel w1 w.heap.size 32 #[.bool byp, .bool con, .int .i64 cr, .int .i64 ch, .int .i64 sq, .slice a n c] := by rw [hw1]; exact Cel.new _ _ _
  have c5 := hR.cell 5
  simp at c5
  have cv := (hD.later b1).conv (Below.refl _ _)
  by_cases hV : V = 1
  · subst hV
    have e1 : dat 1 l = l := rfl
    rw [e1]
    obtain ⟨X, hX⟩ : ∃ X, X = str l := ⟨_, rfl⟩
    rw [← hX] at cv ⊢
    rw [hw1] at c5 cv
    have HB := Lib.hid b1
    clear hX hR hD b1
    go_enter Try.func15, Try.ntmps15
    go_wp2
    go_ret
    rw [← hw1]
    exact ⟨rfl, HB.out⟩
  · have e1 : dat V l = [] := by unfold dat; rw [if_neg hV]
    rw [e1]
    have t1 : (V != 1) = true := by simpa using hV
    have HB := Lib.hid b1
    clear hR hD b1 c5 cv hV e1
    go_enter Try.func15, Try.ntmps15
    go_wp2
    go_ret
    rw [← hw1]
    exact ⟨rfl, HB.out⟩

/-- a receiving end (state s) and a variable X that holds the reference's (state r); neither lies below B -/
structure TK (w0 w : World) (B g X : Nat) (K H W : Int) (s r : St) : Prop where
  f : PF w0 w B g K H W s
  x : Cel w X 39 #[.int .i64 K, .int .i64 W, .int .i64 H, .bool r.lk, .bool r.wt, .bool r.rt, .int .i64 r.bc, .int .i64 r.nx]
  b : B ≤ X
section
variable {w0 w w' : World} {B g X q n c : Nat} {K H W cr ch sq : Int} {s r : St} {byp con : Bool} {a : Option Addr} {l : List Byte}
theorem TK.apart (h : TK w0 w B g X K H W s r) : X ≠ g := fun e => Cel.apart (t := 39) (t' := 53) h.x h.f.f.cel (by decide) e
theorem TK.below (h : TK w0 w B g X K H W s r) (k : Below w.heap.size w w') : TK w0 w' B g X K H W s r := ⟨h.f.below k, Cel.later h.x k, h.b⟩
theorem TK.take (h : TK w0 w B g X K H W s r) (hD : Rd w a l n c) (room : Bool) {V : Int} {S' : St} {D : List Byte} {m : Nat} (hT : tke K H W s ⟨byp, con, cr, ch, sq, l⟩ room = (V, S')) (hd : dat V l = D) (hm : D.length = m) :
    Calls Try.prog 9 #[.pointer (some ⟨g, 0, none⟩), .agg #[.bool byp, .bool con, .int .i64 cr, .int .i64 ch, .int .i64 sq, .slice a n c], .bool room] w fun e w' => (∃ A c', e = .returned (.tuple #[.slice A m c', .int .i64 V]) ∧ Rd w' A D m c') ∧ TK w0 w' B g X K H W S' r ∧ w.heap.size ≤ w'.heap.size := by
  refine (h.f.take hD room hT hd hm).mono ?_
  rintro e w' ⟨h1, h2, k⟩
  exact ⟨h1, ⟨h2, h.x.only k (by simpa using h.apart), h.b⟩, k.size⟩
/-- what is done to another end leaves this one alone -/
theorem TK.other (h : TK w0 w B q X K H W s r) (h' : TK w0 w B g X K H W s r) (hq : q ≠ g) (hD : Rd w a l n c) (room : Bool) :
    Calls Try.prog 9 #[.pointer (some ⟨g, 0, none⟩), .agg #[.bool byp, .bool con, .int .i64 cr, .int .i64 ch, .int .i64 sq, .slice a n c], .bool room] w fun e w' => (∃ A m c' V, e = .returned (.tuple #[.slice A m c', .int .i64 V])) ∧ TK w0 w' B q X K H W s r := by
  obtain ⟨R, hR⟩ : ∃ R, tke K H W s ⟨byp, con, cr, ch, sq, l⟩ room = R := ⟨_, rfl⟩
  obtain ⟨V, S'⟩ := R
  refine (h'.f.take hD room hR rfl rfl).mono ?_
  rintro e w' ⟨⟨A, c', rfl, _⟩, h2, k⟩
  exact ⟨⟨_, _, _, _, rfl⟩, ⟨h.f.only k (by simpa using h'.f.g) (by simpa using hq), h.x.only k (by simpa using h'.apart), h.b⟩⟩
theorem TK.report (h : TK w0 w B g X K H W s r) :
    Calls Try.prog 10 #[.pointer (some ⟨g, 0, none⟩)] w fun e w' => e = .returned (.agg #[.int .i64 H, .bool s.lk, .bool s.wt, .bool s.rt, .int .i64 s.bc, .int .i64 s.nx]) ∧ Below w.heap.size w w' :=
  h.f.report.mono fun _ _ ⟨e, _, b⟩ => ⟨e, b⟩
theorem TK.clone (h : TK w0 w B g X K H W s r) :
    Calls Try.prog 11 #[.pointer (some ⟨g, 0, none⟩)] w fun e w' => ∃ q, e = .returned (.pointer (some ⟨q, 0, none⟩)) ∧ q ≠ g ∧ TK w0 w' B q X K H W s r ∧ TK w0 w' B g X K H W s r := by
  refine (clone16_any w g K H W s h.f.f).mono ?_
  rintro e w' ⟨rfl, f, k⟩
  have hg : g < w.heap.size := h.f.f.cel.lt
  have h2 := h.below k
  exact ⟨_, rfl, by omega, ⟨⟨f, h2.f.b, h2.f.s, h.f.s⟩, h2.x, h.b⟩, h2⟩
theorem TK.store (h : TK w0 w B g X K H W s r) (t : St) : TK w0 (put8 w X (.int .i64 K) (.int .i64 W) (.int .i64 H) (.bool t.lk) (.bool t.wt) (.bool t.rt) (.int .i64 t.bc) (.int .i64 t.nx)) B g X K H W s t := by
  have k := put8_only w X (.int .i64 K) (.int .i64 W) (.int .i64 H) (.bool t.lk) (.bool t.wt) (.bool t.rt) (.int .i64 t.bc) (.int .i64 t.nx)
  exact ⟨h.f.only k (by simpa using h.b) (by simpa using h.apart.symm), put8_cel h.x _ _ _ _ _ _ _ _, h.b⟩
theorem ref_no (K W H bc nx : Int) (lk wt rt : Bool) : ∀ (i : Nat) (x : Byte), (#[.int .i64 K, .int .i64 W, .int .i64 H, .bool lk, .bool wt, .bool rt, .int .i64 bc, .int .i64 nx] : Array Value)[i]? ≠ some (B8 x)
  | 0, _ => by simp
  | 1, _ => by simp
  | 2, _ => by simp
  | 3, _ => by simp
  | 4, _ => by simp
  | 5, _ => by simp
  | 6, _ => by simp
  | 7, _ => by simp
  | i + 8, _ => by simp
end

set_option maxRecDepth 100000 in
set_option maxHeartbeats 4000000 in
theorem farmTakes_bad (K H m : Int) (A : Option Addr) (N cap : Nat) (w : World) (hb : K < 0 ∨ 1023 < K ∨ H < 0 ∨ 7 < H) :
    Calls Try.prog 3 #[.agg #[.int .i64 K, .int .i64 H, .int .i64 m], .slice A N cap] w fun e w' => e = .returned (.bool true) ∧ Below w.heap.size w w' := by
  obtain ⟨w1, hw1⟩ : ∃ w1, w1 = w.alloc (.cells #[.int .i64 K, .int .i64 H, .int .i64 m] 23) := ⟨_, rfl⟩
  have b1 : Below w.heap.size w w1 := by rw [hw1]; exact bel_new _ _
  have hs1 : w.heap.size ≤ w1.heap.size := b1.size
  have y1 : Cel w1 w.heap.size 23 #[.int .i64 K, .int .i64 H, .int .i64 m] := by rw [hw1]; exact Cel.new _ _ _
  have x1 := new_bad K H m w1 hb
  have x2 := fun W => right_no K H W hb
  have z0 := y1.cell 0
  have z1 := y1.cell 1
  have z2 := y1.cell 2
  simp at z0 z1 z2
  have HB := Lib.hid b1
  have HS := Lib.hid hs1
  have z0' := z0
  have z1' := z1
  have z2' := z2
  rw [hw1] at z0 z1 z2
  clear hb y1 b1 hs1
  go_enter Try.func3, Try.ntmps3
  go_wp2_with fail
  rw [← hw1]
  clear z0 z1 z2 hw1
  refine x1.mono ?_
  rintro e w2 ⟨rfl, rfl⟩
  clear x1
  go_wp2_with fail
  refine (x2 _).mono ?_
  rintro e w2 ⟨rfl, rfl⟩
  clear x2
  go_wp2_with fail
  refine (take_nil _ true).mono ?_
  rintro e w3 ⟨rfl, b3⟩
  clear z0' z1' z2'
  go_wp2_with fail
  refine (report_nil _).mono ?_
  rintro e w4 ⟨rfl, b4⟩
  go_wp2_with fail
  refine (clone_nil16 _).mono ?_
  rintro e w5 ⟨rfl, rfl⟩
  go_wp2_with fail
  refine (alive16_any _).mono ?_
  rintro e w6 ⟨rfl, b6⟩
  go_wp2
  go_ret
  have c3 := HB.out.trans (b3.mono HS.out)
  have c4 := c3.trans (b4.mono c3.size)
  exact ⟨rfl, c4.trans (b6.mono c4.size)⟩
end Go.Proofs.Ytdjopkfibfgjeaa.Far
