/-
  The reference of layer 19: words for the walk of Next; Next where nothing waits.
-/
import Derived.Test.YtjjjlgaidklokaaRef19c
import Derived.Test.YtjjjlgaidklokaaRef10b
import Derived.Test.YtjjjlgaidklokaaHand
namespace Go.Proofs.Ytjjjlgaidklokaa.Pkr
open Go.RowKit Go.Proofs.Ytjjjlgaidklokaa.Lst
open Pac (bel_new Cel.later)

theorem add_zero_ {b off : Nat} (k : Nat) : (⟨b, off, none⟩ : Addr).add k = ⟨b, off + k, none⟩ := by
  by_cases h0 : k = 0
  · subst h0; rfl
  · simp [Addr.add, h0]
/-- what 's[k:]' leads to -/
theorem Rd.drop {w : World} {a : Option Addr} {l : List Byte} {n c k : Nat} (h : Rd w a l n c) (hk : k < n) : Rd w (if c = k then a else a.map (fun x => x.add k)) (l.drop k) (n - k) (c - k) := by
  have hl := h.len
  have h1 := h.le
  have h2 := h.max
  obtain ⟨b, off, rfl, hb, hc⟩ := h.bs (by omega)
  rw [if_neg (by omega), Option.map_some, add_zero_]
  refine ⟨by rw [List.length_drop, hl], fun _ => ⟨b, off + k, rfl, hb, fun i x hx => ?_⟩, (fun e => nomatch e), by omega, by omega⟩
  rw [List.getElem?_drop] at hx
  have := hc _ x hx
  rwa [← Nat.add_assoc] at this
def slen : Value → Nat
  | .slice _ n _ => n
  | _ => 0

/-- in the midst of Next: the data field so far, the reference's packer in its box, the result's block -/
structure XL (w0 w : World) (Z R Re : Nat) (A : Option Addr) (n c Tk : Nat) (ov : Value) (out : List Byte) : Prop where
  ow : Ow w w0.heap.size 5 ov out
  p : Cel w w0.heap.size 36 #[.int .i64 (Z : Int), .int .i64 (R : Int), .int .i64 (Re : Int), .slice A n c, .int .i64 (Tk : Int)]
  z : Cel w (w0.heap.size + 1) 36 #[.int .i64 0, .int .i64 0, .int .i64 0, .slice none 0 0, .int .i64 0]
  b : Below w0.heap.size w0 w
section
variable {w0 w w' : World} {Z R Re n c Tk : Nat} {A : Option Addr} {ov ov' : Value} {out out' : List Byte}
theorem XL.below (h : XL w0 w Z R Re A n c Tk ov out) (k : Below w.heap.size w w') : XL w0 w' Z R Re A n c Tk ov out := ⟨h.ow.below k, Cel.later h.p k, Cel.later h.z k, h.b.trans (k.mono h.b.size)⟩
theorem XL.draws (h : XL w0 w Z R Re A n c Tk ov out) (m : Nat) : XL w0 (w.drewN m) Z R Re A n c Tk ov out := h.below (drewN_below w m)
theorem XL.app (h : XL w0 w Z R Re A n c Tk ov out) (hg : w.grownBy w' ov.ownBlock) (ho : Ow w' w0.heap.size 5 ov' out') : XL w0 w' Z R Re A n c Tk ov' out' := by
  have k := Only.of_grown hg
  exact ⟨ho, h.p.only k (fun hm => h.ow.apart h.p (by decide) (by simpa using hm)), h.z.only k (fun hm => h.ow.apart h.z (by decide) (by simpa using hm)), h.b.trans (k.below h.b.size fun x hx => (h.ow.lt x (by simpa using hx)).1)⟩
theorem XL.set_ (h : XL w0 w Z R Re A n c Tk ov out) (k : Only [w0.heap.size] w w') {Re' n' c' Tk' : Nat} {A' : Option Addr} (hp : Cel w' w0.heap.size 36 #[.int .i64 (Z : Int), .int .i64 (R : Int), .int .i64 (Re' : Int), .slice A' n' c', .int .i64 (Tk' : Int)]) : XL w0 w' Z R Re' A' n' c' Tk' ov out :=
  ⟨h.ow.only k (fun i hi hm => h.ow.apart h.p (by decide) (by rw [hi, List.mem_singleton.1 hm])), hp, h.z.only k (by simp), h.b.trans (k.below h.b.size (by simp))⟩
theorem XL.setRe (h : XL w0 w Z R Re A n c Tk ov out) (m : Nat) : XL w0 (w.setCell ⟨w0.heap.size, 2, none⟩ (.int .i64 (m : Int))) Z R m A n c Tk ov out := h.set_ (set_only _ _ 2 _) (h.p.put 2 (.int .i64 (m : Int)))
theorem XL.setTk (h : XL w0 w Z R Re A n c Tk ov out) (m : Nat) : XL w0 (w.setCell ⟨w0.heap.size, 4, none⟩ (.int .i64 (m : Int))) Z R Re A n c m ov out := h.set_ (set_only _ _ 4 _) (h.p.put 4 (.int .i64 (m : Int)))
theorem XL.setL (h : XL w0 w Z R Re A n c Tk ov out) (A' : Option Addr) (n' c' : Nat) : XL w0 (w.setCell ⟨w0.heap.size, 3, none⟩ (.slice A' n' c')) Z R Re A' n' c' Tk ov out := h.set_ (set_only _ _ 3 _) (h.p.put 3 (.slice A' n' c'))
end
theorem xnx_results {tmps : Array Value} {W : World} {g : Nat} {P : Int} {v : Value} {ok : Bool} {u0 u1 u2 u3 u4 : Value} (h2 : tmps.getD 2 undef = .pointer (some ⟨g, 0, none⟩)) (h3 : tmps.getD 3 undef = v) (h4 : tmps.getD 4 undef = .int .i64 P) (h5 : tmps.getD 5 undef = .bool ok)
    (hC : Cel W g 36 #[u0, u1, u2, u3, u4]) :
    (results Try.f19 tmps).run Try.prog W = .ok (.tuple #[.agg #[u0, u1, u2, u3, u4], v, .int .i64 P, .bool ok]) W := by
  have c0 := hC.cell 0
  have c1 := hC.cell 1
  have c2 := hC.cell 2
  have c3 := hC.cell 3
  have c4 := hC.cell 4
  simp at c0 c1 c2 c3 c4
  simp only [Array.getD_eq_getD_getElem?] at h2 h3 h4 h5
  simp [results, Try.results19, go_sem, h2, h3, h4, h5, c0, c1, c2, c3, c4]

section
variable {w : World} {D : Nat → Prop} {Z R Re n c Tk : Nat} {A : Option Addr} {s : PS}
set_option maxHeartbeats 2000000 in
theorem xnext_no (h : RV w D R Re A n c Tk s) (h0 : s.wt.length = 0) :
    Calls Try.prog 19 #[.agg #[.int .i64 (Z : Int), .int .i64 (R : Int), .int .i64 (Re : Int), .slice A n c, .int .i64 (Tk : Int)]] w fun e w' => e = .returned (.tuple #[.agg #[.int .i64 (Z : Int), .int .i64 (R : Int), .int .i64 (Re : Int), .slice A n c, .int .i64 (Tk : Int)], .slice none 0 0, .int .i64 0, .bool false]) ∧ Below w.heap.size w w' := by
  obtain ⟨w1, hw1⟩ : ∃ w1, w1 = (w.alloc (.cells #[.int .i64 (Z : Int), .int .i64 (R : Int), .int .i64 (Re : Int), .slice A n c, .int .i64 (Tk : Int)] 36)).alloc (.cells #[.int .i64 0, .int .i64 0, .int .i64 0, .slice none 0 0, .int .i64 0] 36) := ⟨_, rfl⟩
  have b1 : Below w.heap.size w w1 := by rw [hw1]; exact (bel_new _ _).alloc (by simp) _
  have p1 : Cel w1 w.heap.size 36 #[.int .i64 (Z : Int), .int .i64 (R : Int), .int .i64 (Re : Int), .slice A n c, .int .i64 (Tk : Int)] := by rw [hw1]; exact Cel.later (Cel_at rfl) (bel_new _ _)
  have z1 : Cel w1 (w.heap.size + 1) 36 #[.int .i64 0, .int .i64 0, .int .i64 0, .slice none 0 0, .int .i64 0] := by rw [hw1]; exact Cel_at (by simp)
  have x1 := (h.below b1).xleft (Z : Int) h0
  have HH := Lib.hid (And.intro b1 (And.intro p1 z1))
  have c0 := p1.cell 0
  have c1 := p1.cell 1
  have c2 := p1.cell 2
  have c3 := p1.cell 3
  have c4 := p1.cell 4
  simp at c0 c1 c2 c3 c4
  rw [hw1] at c0 c1 c2 c3 c4
  clear h h0 b1 p1 z1
  go_enter Try.func19, Try.ntmps19
  go_wp2_with fail
  rw [← hw1]
  refine x1.mono ?_
  clear x1 hw1 c0 c1 c2 c3 c4
  rintro e w2 ⟨rfl, b2⟩
  obtain ⟨b1, p1, z1⟩ := HH.out
  have p2 := Cel.later p1 b2
  have z2 := Cel.later z1 b2
  have c0 := p2.cell 0
  have c1 := p2.cell 1
  have c2 := p2.cell 2
  have c3 := p2.cell 3
  have c4 := p2.cell 4
  simp at c0 c1 c2 c3 c4
  have y0 := z2.cell 0
  have y1 := z2.cell 1
  have y2 := z2.cell 2
  have y3 := z2.cell 3
  have y4 := z2.cell 4
  simp at y0 y1 y2 y3 y4
  have f0 := z2.free 0
  have f1 := z2.free 1
  have f2 := z2.free 2
  have f3 := z2.free 3
  have f4 := z2.free 4
  have q5 := put5_cel z2 (.int .i64 (Z : Int)) (.int .i64 (R : Int)) (.int .i64 (Re : Int)) (.slice A n c) (.int .i64 (Tk : Int))
  have k5 := put5_only w2 (w.heap.size + 1) (.int .i64 (Z : Int)) (.int .i64 (R : Int)) (.int .i64 (Re : Int)) (.slice A n c) (.int .i64 (Tk : Int))
  have b5 := (b1.trans (b2.mono b1.size)).trans (k5.below (b1.trans (b2.mono b1.size)).size (by simp))
  unfold put5 at q5 b5
  have HF := Lib.hid (And.intro q5 b5)
  clear b1 p1 z1 p2 z2 q5 k5 b5 b2 HH
  go_wp2
  exact bodyPost_ret (xnx_results rfl rfl rfl rfl HF.out.1) rfl ⟨rfl, HF.out.2⟩
end
end Go.Proofs.Ytjjjlgaidklokaa.Pkr
