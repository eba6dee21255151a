/-
  The walk of package parts' Take.
-/
import Derived.Test.YtfjmlgclgmcjcaaParW1
namespace Go.Proofs.Ytfjmlgclgmcjcaa.Par
open Go.RowKit Go.Proofs.Ytfjmlgclgmcjcaa.Row
open Pac (Pk bel_new Cel.later Cel.within)

section
variable {w w' : World} {g : Nat} {v : Value} {s : JS}
/-- the message dropped -/
theorem Jo.drop_ (h : Jo w g v s) : Jo (w.setCell ⟨g, 2, none⟩ (.slice none 0 0)) g (.slice none 0 0) { s with msg := [] } :=
  ⟨by have := h.c.put 2 (.slice none 0 0); simpa [Jv] using this, Ow_nil _ _ _, h.m, h.n⟩
end

set_option maxHeartbeats 2000000 in
theorem take_rng (w : World) (g : Nat) (v : Value) (s : JS) (com sec : Bool) (ap fl ct : Int) (a : Option Addr) (n c : Nat) (h : Jo w g v s) (h2 : rng ap fl ct = false) :
    Calls Try.prog 16 #[.pointer (some ⟨g, 0, none⟩), .agg #[.bool com, .bool sec, .int .i64 ap, .int .i64 fl, .int .i64 ct, .slice a n c]] w fun e w' => e = .returned (.tuple #[.slice none 0 0, .bool false, .int .i64 1]) ∧ Below w.heap.size w w' := by
  have b1 := bel_new w (.cells #[.bool com, .bool sec, .int .i64 ap, .int .i64 fl, .int .i64 ct, .slice a n c] 24)
  have h1 := h.below b1
  have c0 := h1.c.cell 0
  simp [Jv] at c0
  have hw := works_any _ g c0
  have hr := inRange_any com sec ap fl ct a n c (w.alloc (.cells #[.bool com, .bool sec, .int .i64 ap, .int .i64 fl, .int .i64 ct, .slice a n c] 24))
  rw [h2] at hr
  clear h h1 h2 c0
  go_enter Try.func16, Try.ntmps16
  go_wp2_with fail
  refine hw.mono ?_
  rintro e w2 ⟨rfl, rfl⟩
  go_wp2_with fail
  refine hr.mono ?_
  rintro e w2 ⟨rfl, b2⟩
  go_wp2
  go_ret3
  exact ⟨rfl, b1.trans (b2.mono b1.size)⟩

set_option maxHeartbeats 2000000 in
theorem take_empty (w : World) (g : Nat) (v : Value) (s : JS) (com sec : Bool) (ap fl ct : Int) (a : Option Addr) (c : Nat) (h : Jo w g v s) (h2 : rng ap fl ct = true) :
    Calls Try.prog 16 #[.pointer (some ⟨g, 0, none⟩), .agg #[.bool com, .bool sec, .int .i64 ap, .int .i64 fl, .int .i64 ct, .slice a 0 c]] w fun e w' => e = .returned (.tuple #[.slice none 0 0, .bool false, .int .i64 1]) ∧ Below w.heap.size w w' := by
  have b1 := bel_new w (.cells #[.bool com, .bool sec, .int .i64 ap, .int .i64 fl, .int .i64 ct, .slice a 0 c] 24)
  have k1 := Cel.new w 24 #[.bool com, .bool sec, .int .i64 ap, .int .i64 fl, .int .i64 ct, .slice a 0 c]
  have h1 := h.below b1
  have c0 := h1.c.cell 0
  simp [Jv] at c0
  have hw := works_any _ g c0
  have hr := inRange_any com sec ap fl ct a 0 c (w.alloc (.cells #[.bool com, .bool sec, .int .i64 ap, .int .i64 fl, .int .i64 ct, .slice a 0 c] 24))
  rw [h2] at hr
  clear h h1 h2 c0
  go_enter Try.func16, Try.ntmps16
  go_wp2_with fail
  refine hw.mono ?_
  rintro e w2 ⟨rfl, rfl⟩
  go_wp2_with fail
  refine hr.mono ?_
  rintro e w2 ⟨rfl, b2⟩
  have k5 := (Cel.later k1 b2).cell 5
  simp at k5
  clear k1
  go_wp2
  go_ret3
  exact ⟨rfl, b1.trans (b2.mono b1.size)⟩

set_option maxHeartbeats 2000000 in
theorem take_err (w : World) (g : Nat) (v : Value) (s : JS) (com sec : Bool) (ap fl ct : Int) (d : List Byte) (a : Option Addr) (n c : Nat) (E : Int) (h : Jo w g v s) (h2 : rng ap fl ct = true) (h0 : 0 < n) (hd : Dt w w.heap.size d a c) (hE : E ≠ 0)
    (hJ : ∀ W, Jo W g v s → Dt W W.heap.size d a c → Calls Try.prog 25 #[.pointer (some ⟨g, 0, none⟩), .agg #[.bool com, .bool sec, .int .i64 ap, .int .i64 fl, .int .i64 ct, .slice a n c]] W fun e w' => e = .returned (.tuple #[.slice none 0 0, .int .i64 E]) ∧ Below W.heap.size W w') :
    Calls Try.prog 16 #[.pointer (some ⟨g, 0, none⟩), .agg #[.bool com, .bool sec, .int .i64 ap, .int .i64 fl, .int .i64 ct, .slice a n c]] w fun e w' => e = .returned (.tuple #[.slice none 0 0, .bool false, .int .i64 E]) ∧ Jo w' g (.slice none 0 0) { s with msg := [] } ∧ Only (blk g v) w w' := by
  have b1 := bel_new w (.cells #[.bool com, .bool sec, .int .i64 ap, .int .i64 fl, .int .i64 ct, .slice a n c] 24)
  have k1 := Cel.new w 24 #[.bool com, .bool sec, .int .i64 ap, .int .i64 fl, .int .i64 ct, .slice a n c]
  have h1 := h.below b1
  have c0 := h1.c.cell 0
  simp [Jv] at c0
  have hw := works_any _ g c0
  have hr := inRange_any com sec ap fl ct a n c (w.alloc (.cells #[.bool com, .bool sec, .int .i64 ap, .int .i64 fl, .int .i64 ct, .slice a n c] 24))
  rw [h2] at hr
  have t1 : ((n : Int) == 0) = false := by simp; omega
  have t2 : (n == 0) = false := by simp; omega
  have t3 : (E != 0) = true := by simpa using hE
  clear h h2 c0 hE h0
  go_enter Try.func16, Try.ntmps16
  go_wp2_with fail
  refine hw.mono ?_
  rintro e w2 ⟨rfl, rfl⟩
  go_wp2_with fail
  refine hr.mono ?_
  rintro e w2 ⟨rfl, b2⟩
  have k2 := Cel.later k1 b2
  have k5 := k2.cell 5
  have e0 := k2.cell 0
  have e1 := k2.cell 1
  have e2 := k2.cell 2
  have e3 := k2.cell 3
  have e4 := k2.cell 4
  simp at k5 e0 e1 e2 e3 e4
  have hj := hJ w2 (h1.below b2) (hd.later (b1.trans (b2.mono b1.size)))
  have h2 := h1.below b2
  have b3 := b1.trans (b2.mono b1.size)
  clear k1 h1 hJ hr hw b1 b2 hd
  go_wp2_with fail
  refine hj.mono ?_
  rintro e w3 ⟨rfl, b4⟩
  have h3 := h2.below b4
  have f2 := h3.c.free 2
  have c2 := h3.c.cell 2
  simp [Jv] at c2
  have b5 := b3.trans (b4.mono b3.size)
  clear hj h2 b3 b4 e0 e1 e2 e3 e4 k5 k2
  go_wp2
  go_ret3
  exact ⟨rfl, h3.drop_, (Only.of_below b5).put (.inl (by simp [blk])) _⟩

/-- what a join that succeeds leaves -/
def JnOk (W : World) (v : Value) (M : List Byte) (e : Ending) (w' : World) : Prop :=
  ∃ v', e = .returned (.tuple #[v', .int .i64 0]) ∧ Ow w' 0 5 v' M ∧ Only v.ownBlock.toList W w' ∧ (∀ i, v'.ownBlock = some i → v.ownBlock = some i ∨ W.heap.size ≤ i)

set_option maxHeartbeats 4000000 in
theorem take_done (w : World) (g : Nat) (v : Value) (s : JS) (com sec : Bool) (ap fl ct : Int) (d M : List Byte) (a : Option Addr) (n c : Nat) (h : Jo w g v s) (h2 : rng ap fl ct = true) (h0 : 0 < n) (hd : Dt w w.heap.size d a c) (hf : fl = 2 ∨ fl = 3)
    (hJ : ∀ W, Jo W g v s → Dt W W.heap.size d a c → Calls Try.prog 25 #[.pointer (some ⟨g, 0, none⟩), .agg #[.bool com, .bool sec, .int .i64 ap, .int .i64 fl, .int .i64 ct, .slice a n c]] W (JnOk W v M)) :
    Calls Try.prog 16 #[.pointer (some ⟨g, 0, none⟩), .agg #[.bool com, .bool sec, .int .i64 ap, .int .i64 fl, .int .i64 ct, .slice a n c]] w fun e w' => ∃ m, e = .returned (.tuple #[m, .bool true, .int .i64 0]) ∧ Ow w' 0 5 m M ∧ Jo w' g (.slice none 0 0) { s with msg := [] } ∧ Only (blk g v) w w' := by
  have b1 := bel_new w (.cells #[.bool com, .bool sec, .int .i64 ap, .int .i64 fl, .int .i64 ct, .slice a n c] 24)
  have k1 := Cel.new w 24 #[.bool com, .bool sec, .int .i64 ap, .int .i64 fl, .int .i64 ct, .slice a n c]
  have h1 := h.below b1
  have c0 := h1.c.cell 0
  simp [Jv] at c0
  have hw := works_any _ g c0
  have hr := inRange_any com sec ap fl ct a n c (w.alloc (.cells #[.bool com, .bool sec, .int .i64 ap, .int .i64 fl, .int .i64 ct, .slice a n c] 24))
  rw [h2] at hr
  have t1 : ((n : Int) == 0) = false := by simp; omega
  have t2 : (n == 0) = false := by simp; omega
  have hne := h.ne
  have hlt := h.lt
  have hgt : g < w.heap.size := h.c.lt
  clear h h2 c0 h0
  rcases hf with rfl | rfl
  all_goals
    go_enter Try.func16, Try.ntmps16
    go_wp2_with fail
    refine hw.mono ?_
    rintro e w2 ⟨rfl, rfl⟩
    go_wp2_with fail
    refine hr.mono ?_
    rintro e w2 ⟨rfl, b2⟩
    have k2 := Cel.later k1 b2
    have k5 := k2.cell 5
    have e0 := k2.cell 0
    have e1 := k2.cell 1
    have e2 := k2.cell 2
    have e3 := k2.cell 3
    have e4 := k2.cell 4
    simp at k5 e0 e1 e2 e3 e4
    have hj := hJ w2 (h1.below b2) (hd.later (b1.trans (b2.mono b1.size)))
    have h2 := h1.below b2
    have b3 := b1.trans (b2.mono b1.size)
    clear k1 h1 hJ hr hw b1 b2 hd
    go_wp2_with fail
    refine hj.mono ?_
    rintro e w3 ⟨v', rfl, o3, q3, r3⟩
    have hk2 : w.heap.size ∉ v.ownBlock.toList := fun hm => by
      have := hlt w.heap.size (by simp only [blk, List.mem_cons]; exact .inr hm)
      omega
    have k3 := k2.only q3 hk2
    have d3 := k3.cell 3
    simp at d3
    have g3 := h2.c.only q3 (fun hm => hne (by simpa using hm))
    have f2 := g3.free 2
    have c2 := g3.cell 2
    simp [Jv] at c2
    have hgn : g ≠ w.heap.size := by omega
    have q4 : Only (blk g v) w w3 := (Only.of_below (S := blk g v) b3).trans q3 (fun x hx => .inl (by simp only [blk, List.mem_cons]; exact .inr hx))
    have q5 : Only [g] w3 (w3.setCell ⟨g, 2, none⟩ (.slice none 0 0)) := (Only.refl _ _).put (.inl (by simp)) _
    have o5 := o3.only q5 (fun i hi hm => o3.apart g3 (by decide) (by rw [hi, List.mem_singleton.1 hm]))
    have x3 : Cel (w3.setCell ⟨g, 2, none⟩ (.slice none 0 0)) w.heap.size 24 _ := k3.only q5 (by simp; omega)
    have x33 := x3.cell 3
    simp at x33
    have h5 : Jo (w3.setCell ⟨g, 2, none⟩ (.slice none 0 0)) g (.slice none 0 0) { s with msg := [] } :=
      ⟨by have := g3.put 2 (.slice none 0 0); simpa [Jv] using this, Ow_nil _ _ _, h2.m, h2.n⟩
    obtain ⟨A', c', rfl, _⟩ := o3.reads
    clear hj h2 b3 e0 e1 e2 e3 e4 k5 k2 k3 x3 d3
    go_wp2
    go_ret3
    exact ⟨_, rfl, o5, h5, q4.put (.inl (by simp [blk])) _⟩
end Go.Proofs.Ytfjmlgclgmcjcaa.Par
