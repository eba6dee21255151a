/-
  Package parts' Split: where the arguments are refused; where a packet is made of each piece.
-/
import Derived.Test.YtfjmlgclgmcjcaaParIter
namespace Go.Proofs.Ytfjmlgclgmcjcaa.Par
open Go.RowKit Go.Proofs.Ytfjmlgclgmcjcaa.Row
open Pac (Pk bel_new Cel.later Cel.within)

attribute [local go_sem] Oper.semAt_some

/-- the cells of a packet -/
def pkc (com sec : Bool) (ap fl ct : Int) (dv : Value) : Array Value := #[.bool com, .bool sec, .int .i64 ap, .int .i64 fl, .int .i64 ct, dv]

set_option maxHeartbeats 1000000 in
theorem split_no (com sec : Bool) (ap fl ct : Int) (a0 : Option Addr) (n0 c0 : Nat) (A : Option Addr) (L cap : Nat) (most : Int) (w : World) (h : (rng ap 0 ct && decide (1 ≤ most ∧ most ≤ 4090 ∧ 0 < L)) = false) :
    Calls Try.prog 10 #[.agg #[.bool com, .bool sec, .int .i64 ap, .int .i64 fl, .int .i64 ct, .slice a0 n0 c0], .slice A L cap, .int .i64 most] w fun e w' => e = .returned (.tuple #[.slice none 0 0, .int .i64 1]) ∧ Below w.heap.size w w' := by
  have k1 := Cel.new w 24 #[.bool com, .bool sec, .int .i64 ap, .int .i64 0, .int .i64 ct, .slice a0 n0 c0]
  have b1 := bel_new w (.cells #[.bool com, .bool sec, .int .i64 ap, .int .i64 0, .int .i64 ct, .slice a0 n0 c0] 24)
  have hr := inRange_any com sec ap 0 ct a0 n0 c0 (w.alloc (.cells #[.bool com, .bool sec, .int .i64 ap, .int .i64 0, .int .i64 ct, .slice a0 n0 c0] 24))
  cases hR : rng ap 0 ct with
  | false =>
    rw [hR] at hr
    clear h k1 hR
    go_enter Try.func10, Try.ntmps10
    go_wp2_with fail
    refine hr.mono ?_
    rintro e w2 ⟨rfl, b2⟩
    go_wp2
    go_ret2
    exact ⟨rfl, b1.trans (b2.mono b1.size)⟩
  | true =>
    rw [hR] at hr h
    have h2 : ¬ (1 ≤ most ∧ most ≤ 4090 ∧ 0 < L) := by simpa using h
    clear h hR k1
    by_cases g1 : most < 1
    · have t1 : decide (most < 1) = true := by simpa using g1
      clear h2 g1
      go_enter Try.func10, Try.ntmps10
      go_wp2_with fail
      refine hr.mono ?_
      rintro e w2 ⟨rfl, b2⟩
      go_wp2
      go_ret2
      exact ⟨rfl, b1.trans (b2.mono b1.size)⟩
    · have t1 : decide (most < 1) = false := by simpa using g1
      by_cases g2 : 4090 < most
      · have t2 : decide (4090 < most) = true := by simpa using g2
        clear h2 g1 g2
        go_enter Try.func10, Try.ntmps10
        go_wp2_with fail
        refine hr.mono ?_
        rintro e w2 ⟨rfl, b2⟩
        go_wp2
        go_ret2
        exact ⟨rfl, b1.trans (b2.mono b1.size)⟩
      · have t2 : decide (4090 < most) = false := by simpa using g2
        obtain rfl : L = 0 := by omega
        clear h2 g1 g2
        go_enter Try.func10, Try.ntmps10
        go_wp2_with fail
        refine hr.mono ?_
        rintro e w2 ⟨rfl, b2⟩
        go_wp2
        go_ret2
        exact ⟨rfl, b1.trans (b2.mono b1.size)⟩

/-! ### where the arguments are taken -/
theorem is_packets : IsRows Try.prog 26 24 (.agg #[.bool false, .bool false, .int .i64 0, .int .i64 0, .int .i64 0, .slice none 0 0]) 6 56 :=
  IsRows.of Try.underlying26 rfl (by kernel_rfl)

theorem cell_new6 (W : World) (g : Nat) (hg : W.heap.size = g) (x0 x1 x2 x3 x4 x5 : Value) (e : TypeId) : ∀ (j : Nat) (u : Value), [x0, x1, x2, x3, x4, x5][j]? = some u → (W.alloc (.cells #[x0, x1, x2, x3, x4, x5] e)).cell? ((⟨g, 0, none⟩ : Addr).add j) = some u := by
  subst hg
  intro j u hu
  rw [add_zero_cell, cell_of_row _ _ j _ e (0, 0) (heap_alloc_new W _)]
  simpa using hu

/-- the blocks that a fenced loop's book-keeping turns hold no cells -/
theorem only_own {X Y : World} {row : Option Nat} (hg : X.grownBy Y row) : Only row.toList X Y := Only.of_grown hg
section
variable {X Y : World} {row : Option Nat} {g base size n : Nat} {t : TypeId} {cs : Array Value} {v : Value} {xs : List Value}
theorem cel_not_row (h : Cel X g t cs) (hrow : ∀ r, row = some r → ∃ o : Obj, X.heap[r]? = some o ∧ o.isCells = false) : g ∉ row.toList := fun hm => by
  obtain ⟨o, ho, hc⟩ := hrow g (by simpa using hm)
  rw [show X.heap[g]? = _ from h] at ho
  cases ho; cases hc
theorem own_not_row (h : X.ownsRow base t size v n xs) (hrow : ∀ r, row = some r → ∃ o : Obj, X.heap[r]? = some o ∧ o.isCells = false) : ∀ i, v.ownBlock = some i → i ∉ row.toList := fun i hi hm => by
  obtain ⟨o, ho, hc⟩ := hrow i (by simpa using hm)
  rcases h.2 with ⟨rfl, _⟩ | ⟨g, cap, cur, rfl, _, hg, _⟩
  · cases hi
  · injection hi with hi
    have : g = i := hi
    subst this
    rw [hg] at ho
    cases ho; cases hc
/-- where only blocks of cells turned, all others are as they were -/
theorem keeps_only {S : List Nat} (h : Only S X Y) (hS : ∀ x ∈ S, ∀ o, X.heap[x]? = some o → o.isCells = true) : KeepsOthers X Y :=
  ⟨h.size, fun k o hk ho => by
    have hlt : k < X.heap.size := lt_of_block hk
    rw [h.block k hlt (fun hm => by rw [hS k hm o hk] at ho; cases ho)]
    exact hk⟩
end

/-- what stands behind the packets made so far -/
structure SI (w : World) (g3 g8 n₁ : Nat) (p : Pk) (d : List Byte) (m : Nat) (pre : List Nat) (W : World) : Prop where
  c : ∃ dv, Cel W g3 24 (pkc p.com p.sec p.ap 0 ((p.ct + (pre.length : Int)) % 16384) dv)
  r : ∃ v qs, Cel W g8 26 #[v] ∧ Row.Os enc 6 W n₁ 24 v qs ∧ qs.map (·.p) = mids p d m pre ∧ ∀ q ∈ qs, Ow W n₁ 5 (.slice q.a q.p.d.length q.c) q.p.d
  k : Below w.heap.size w W
theorem SI.own (w : World) (g3 g8 n₁ N : Nat) (p : Pk) (d : List Byte) (m B : Nat) (hB : w.heap.size ≤ B) : OwnFrom B (fun (pre : List (Fin N)) W => SI w g3 g8 n₁ p d m (pre.map Fin.val) W) := by
  rintro pre X Y row ⟨⟨dv, hc⟩, ⟨v, qs, hb, hr, he, ho⟩, hk⟩ hg hrow
  have hrow' : ∀ r, row = some r → ∃ o : Obj, X.heap[r]? = some o ∧ o.isCells = false := fun r e => (hrow r e).2
  have q := only_own hg
  exact ⟨⟨dv, hc.only q (cel_not_row hc hrow')⟩, ⟨v, qs, hb.only q (cel_not_row hb hrow'), hr.only q (own_not_row hr hrow'), he, fun x hx => (ho x hx).only q (own_not_row (ho x hx) hrow')⟩,
    hk.trans (q.below hk.size (fun x hx => by have := (hrow x (by simpa using hx)).1; omega))⟩
end Go.Proofs.Ytfjmlgclgmcjcaa.Par
