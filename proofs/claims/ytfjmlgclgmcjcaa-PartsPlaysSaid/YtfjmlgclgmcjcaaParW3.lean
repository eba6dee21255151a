/-
  The walk of package parts' Take, where a message goes on.
-/
import Derived.Test.YtfjmlgclgmcjcaaParW2
namespace Go.Proofs.Ytfjmlgclgmcjcaa.Par
open Go.RowKit Go.Proofs.Ytfjmlgclgmcjcaa.Row
open Pac (Pk bel_new Cel.later Cel.within)

set_option maxHeartbeats 4000000 in
theorem take_more (w : World) (g : Nat) (v : Value) (s : JS) (com sec : Bool) (ap fl ct : Int) (d M : List Byte) (a : Option Addr) (n c : Nat) (h : Jo w g v s) (h2 : rng ap fl ct = true) (h0 : 0 < n) (hd : Dt w w.heap.size d a c) (hf : fl = 0 ∨ fl = 1)
    (hJ : ∀ W, Jo W g v s → Dt W W.heap.size d a c → Calls Try.prog 25 #[.pointer (some ⟨g, 0, none⟩), .agg #[.bool com, .bool sec, .int .i64 ap, .int .i64 fl, .int .i64 ct, .slice a n c]] W (JnOk W v M)) :
    Calls Try.prog 16 #[.pointer (some ⟨g, 0, none⟩), .agg #[.bool com, .bool sec, .int .i64 ap, .int .i64 fl, .int .i64 ct, .slice a n c]] w fun e w' => ∃ v', e = .returned (.tuple #[.slice none 0 0, .bool false, .int .i64 0]) ∧ Jo w' g v' ⟨s.most, M, ap, ct⟩ ∧ Only (blk g v) w w' ∧ (∀ i, v'.ownBlock = some i → v.ownBlock = some i ∨ w.heap.size ≤ i) := by
  have hct : 0 ≤ ct ∧ ct ≤ 16383 := by have := rng_iff.1 h2; omega
  have b1 := bel_new w (.cells #[.bool com, .bool sec, .int .i64 ap, .int .i64 fl, .int .i64 ct, .slice a n c] 24)
  have k1 := Cel.new w 24 #[.bool com, .bool sec, .int .i64 ap, .int .i64 fl, .int .i64 ct, .slice a n c]
  have h1 := h.below b1
  have c0 := h1.c.cell 0
  simp [Jv] at c0
  have hw := works_any _ g c0
  have hr := inRange_any com sec ap fl ct a n c (w.alloc (.cells #[.bool com, .bool sec, .int .i64 ap, .int .i64 fl, .int .i64 ct, .slice a n c] 24))
  rw [h2] at hr
  have t1 : ((n : Int) == 0) = false := by simp; omega
  have t2 : (n == 0) = false := by simp; omega
  have hne := h.ne
  have hlt := h.lt
  have hgt : g < w.heap.size := h.c.lt
  clear h h2 c0 h0
  rcases hf with rfl | rfl
  all_goals
    go_enter Try.func16, Try.ntmps16
    go_wp2_with fail
    refine hw.mono ?_
    rintro e w2 ⟨rfl, rfl⟩
    go_wp2_with fail
    refine hr.mono ?_
    rintro e w2 ⟨rfl, b2⟩
    have k2 := Cel.later k1 b2
    have k5 := k2.cell 5
    have e0 := k2.cell 0
    have e1 := k2.cell 1
    have e2 := k2.cell 2
    have e3 := k2.cell 3
    have e4 := k2.cell 4
    simp at k5 e0 e1 e2 e3 e4
    have hj := hJ w2 (h1.below b2) (hd.later (b1.trans (b2.mono b1.size)))
    have h2 := h1.below b2
    have b3 := b1.trans (b2.mono b1.size)
    clear k1 h1 hJ hr hw b1 b2 hd
    go_wp2_with fail
    refine hj.mono ?_
    rintro e w3 ⟨v', rfl, o3, q3, r3⟩
    have hk2 : w.heap.size ∉ v.ownBlock.toList := fun hm => by
      have := hlt w.heap.size (by simp only [blk, List.mem_cons]; exact .inr hm)
      omega
    have k3 := k2.only q3 hk2
    have d3 := k3.cell 3
    simp at d3
    have g3 := h2.c.only q3 (fun hm => hne (by simpa using hm))
    have f2 := g3.free 2
    have c2 := g3.cell 2
    simp [Jv] at c2
    have hgn : g ≠ w.heap.size := by omega
    have q4 : Only (blk g v) w w3 := (Only.of_below (S := blk g v) b3).trans q3 (fun x hx => .inl (by simp only [blk, List.mem_cons]; exact .inr hx))
    have q5 : Only [g] w3 (w3.setCell ⟨g, 2, none⟩ (.slice none 0 0)) := (Only.refl _ _).put (.inl (by simp)) _
    have o5 := o3.only q5 (fun i hi hm => o3.apart g3 (by decide) (by rw [hi, List.mem_singleton.1 hm]))
    have x3 : Cel (w3.setCell ⟨g, 2, none⟩ (.slice none 0 0)) w.heap.size 24 _ := k3.only q5 (by simp; omega)
    have x33 := x3.cell 3
    have x32 := x3.cell 2
    have x34 := x3.cell 4
    simp at x33 x32 x34
    have hz3 : w.heap.size ≤ w2.heap.size := b3.size
    have h5 : Cel (w3.setCell ⟨g, 2, none⟩ (.slice none 0 0)) g 48 (Jv s (.slice none 0 0)) := by have := g3.put 2 (.slice none 0 0); simpa [Jv] using this
    have hm2 := h2.m
    obtain ⟨A', c', rfl, _⟩ := o3.reads
    have y2 := h5.cell 2
    have y3 := h5.cell 3
    have y4 := h5.cell 4
    simp [Jv] at y2 y3 y4
    have z2 := h5.free 2
    have z3 := h5.free 3
    have z4 := h5.free 4
    have q6 := q4.trans q5 (fun x hx => .inl (by rw [List.mem_singleton.1 hx]; simp [blk]))
    clear hj h2 b3 e0 e1 e2 e3 e4 k5 k2 k3 x3 d3 q4 q5 o3 q3
    go_wp2_with fail
    go_region
    have j1 := ((h5.put 2 (.slice A' M.length c')).put 3 (.int .i64 ap)).put 4 (.int .i64 ct)
    have q7 : Only [g] (w3.setCell ⟨g, 2, none⟩ (.slice none 0 0)) ((((w3.setCell ⟨g, 2, none⟩ (.slice none 0 0)).setCell ⟨g, 2, none⟩ (.slice A' M.length c')).setCell ⟨g, 3, none⟩ (.int .i64 ap)).setCell ⟨g, 4, none⟩ (.int .i64 ct)) :=
      (((Only.refl [g] _).put (.inl (by simp)) _).put (.inl (by simp)) _).put (.inl (by simp)) _
    have o7 := o5.only q7 (fun i hi hm => o5.apart h5 (by decide) (by rw [hi, List.mem_singleton.1 hm]))
    have q8 := q6.trans q7 (fun x hx => .inl (by rw [List.mem_singleton.1 hx]; simp [blk]))
    clear y2 y3 y4 z2 z3 z4 x33 x32 x34
    go_wp2
    go_ret3
    simp [Jv] at j1
    refine ⟨_, rfl, ⟨j1, o7.drew, hm2, hct⟩, q8.drew, fun i hi => ?_⟩
    rcases r3 i hi with e | e
    · exact .inl e
    · exact .inr (by omega)

/-- what Take leaves of a Joiner -/
def TkPost (w : World) (g : Nat) (v : Value) (s : JS) (p : Pk) (e : Ending) (w' : World) : Prop :=
  ∃ m v', e = .returned (.tuple #[m, .bool (tkB s p), .int .i64 (tkE s p)]) ∧ Ow w' 0 5 m (tkM s p) ∧ Jo w' g v' (tkS s p) ∧ Only (blk g v) w w' ∧ (∀ x ∈ blk g v', x ∈ blk g v ∨ w.heap.size ≤ x)
theorem blk_nil {w : World} {g : Nat} {v : Value} : ∀ x ∈ blk g (.slice none 0 0), x ∈ blk g v ∨ w.heap.size ≤ x := by
  intro x hx
  simp [blk, Value.ownBlock] at hx
  subst hx
  exact .inl (by simp [blk])

theorem take_any (w : World) (g : Nat) (v : Value) (s : JS) (p : Pk) (a : Option Addr) (c : Nat) (h : Jo w g v s) (hd : Dt w w.heap.size p.d a c) (h47 : s.msg.length + p.d.length ≤ 1000000) :
    Calls Try.prog 16 #[.pointer (some ⟨g, 0, none⟩), .agg #[.bool p.com, .bool p.sec, .int .i64 p.ap, .int .i64 p.fl, .int .i64 p.ct, .slice a p.d.length c]] w (TkPost w g v s p) := by
  obtain ⟨com, sec, ap, fl, ct, d⟩ := p
  simp only at hd h47 ⊢
  cases hr : rng ap fl ct with
  | false =>
    obtain ⟨e1, e2, e3, e4⟩ := tk_bad (s := s) (p := ⟨com, sec, ap, fl, ct, d⟩) (by unfold tok; simp [hr])
    refine (take_rng w g v s com sec ap fl ct a d.length c h hr).mono ?_
    rintro e w' ⟨rfl, b⟩
    unfold TkPost
    rw [e1, e2, e3, e4]
    exact ⟨_, v, rfl, Ow_nil _ _ _, h.below b, Only.of_below b, fun x hx => .inl hx⟩
  | true =>
    by_cases h0 : 0 < d.length
    · have ht : tok ⟨com, sec, ap, fl, ct, d⟩ = true := by unfold tok; simp [hr, h0]
      obtain ⟨n, hn⟩ : ∃ n, d.length = n := ⟨_, rfl⟩
      have hn' := Lib.hid hn
      have hfl := rng_iff.1 hr
      by_cases hc : cnt ⟨com, sec, ap, fl, ct, d⟩ = true
      · have hf : fl = 0 ∨ fl = 2 := by simpa [cnt] using hc
        cases ha : awt s ⟨com, sec, ap, fl, ct, d⟩ with
        | false =>
          obtain ⟨j1, j2⟩ := jn_form hc ha
          obtain ⟨e1, e2, e3, e4⟩ := tk_err ht (s := s) (by rw [j1]; decide)
          refine (take_err w g v s com sec ap fl ct d a d.length c 4 h hr h0 hd (by decide) (fun W hW _ => join_form W g v s com sec ap fl ct d a d.length c hW hf ha)).mono ?_
          rintro e w' ⟨rfl, hj, ho⟩
          unfold TkPost
          rw [e1, e2, e3, e4, j1]
          exact ⟨_, _, rfl, Ow_nil _ _ _, hj, ho, blk_nil⟩
        | true =>
          by_cases hl : s.most - (s.msg.length : Int) < (d.length : Int)
          · obtain ⟨j1, j2⟩ := jn_cont_long hc ha hl
            obtain ⟨e1, e2, e3, e4⟩ := tk_err ht (s := s) (by rw [j1]; decide)
            refine (take_err w g v s com sec ap fl ct d a d.length c 6 h hr h0 hd (by decide) (fun W hW _ => join_cont_long W g v s com sec ap fl ct d a d.length c hW hf ha hl (by omega))).mono ?_
            rintro e w' ⟨rfl, hj, ho⟩
            unfold TkPost
            rw [e1, e2, e3, e4, j1]
            exact ⟨_, _, rfl, Ow_nil _ _ _, hj, ho, blk_nil⟩
          · obtain ⟨j1, j2⟩ := jn_cont hc ha hl
            have hb : bef s ⟨com, sec, ap, fl, ct, d⟩ = s.msg := by unfold bef; rw [if_pos hc]
            have hJ : ∀ W, Jo W g v s → Dt W W.heap.size d a c → Calls Try.prog 25 #[.pointer (some ⟨g, 0, none⟩), .agg #[.bool com, .bool sec, .int .i64 ap, .int .i64 fl, .int .i64 ct, .slice a d.length c]] W (JnOk W v (s.msg ++ d)) :=
              fun W hW hD => (join_cont W g v s com sec ap fl ct d a d.length c hW hf ha hl (Lib.hid rfl) hD (by omega)).mono fun e w' hh => hh
            rcases hf with rfl | rfl
            · obtain ⟨e1, e2, e3, e4⟩ := tk_more ht j1 (by simp [lst])
              refine (take_more w g v s com sec ap 0 ct d _ a d.length c h hr h0 hd (.inl rfl) hJ).mono ?_
              rintro e w' ⟨v', rfl, hj, ho, hb'⟩
              unfold TkPost
              rw [e1, e2, e3, e4, hb]
              refine ⟨_, v', rfl, Ow_nil _ _ _, hj, ho, fun x hx => ?_⟩
              rcases List.mem_cons.1 hx with rfl | hx
              · exact .inl (by simp [blk])
              · rcases hb' x (by simpa using hx) with k | k
                · exact .inl (by simp [blk, k])
                · exact .inr k
            · obtain ⟨e1, e2, e3, e4⟩ := tk_done ht j1 (by simp [lst])
              refine (take_done w g v s com sec ap 2 ct d _ a d.length c h hr h0 hd (.inl rfl) hJ).mono ?_
              rintro e w' ⟨m, rfl, hm, hj, ho⟩
              unfold TkPost
              rw [e1, e2, e3, e4, hb]
              exact ⟨m, _, rfl, hm, hj, ho, blk_nil⟩
      · have hf : fl = 1 ∨ fl = 3 := by simp [cnt] at hc; omega
        have hc' : cnt ⟨com, sec, ap, fl, ct, d⟩ = false := by simpa using hc
        by_cases hl : s.most < (d.length : Int)
        · obtain ⟨j1, j2⟩ := jn_new_long (s := s) hc' hl
          obtain ⟨e1, e2, e3, e4⟩ := tk_err ht (s := s) (by rw [j1]; decide)
          refine (take_err w g v s com sec ap fl ct d a d.length c 6 h hr h0 hd (by decide) (fun W hW _ => join_new_long W g v s com sec ap fl ct a d.length c hW hf hl)).mono ?_
          rintro e w' ⟨rfl, hj, ho⟩
          unfold TkPost
          rw [e1, e2, e3, e4, j1]
          exact ⟨_, _, rfl, Ow_nil _ _ _, hj, ho, blk_nil⟩
        · obtain ⟨j1, j2⟩ := jn_new (s := s) hc' hl
          have hb : bef s ⟨com, sec, ap, fl, ct, d⟩ = [] := by unfold bef; rw [hc']; rfl
          have hJ : ∀ W, Jo W g v s → Dt W W.heap.size d a c → Calls Try.prog 25 #[.pointer (some ⟨g, 0, none⟩), .agg #[.bool com, .bool sec, .int .i64 ap, .int .i64 fl, .int .i64 ct, .slice a d.length c]] W (JnOk W v d) :=
            fun W hW hD => (join_new W g v s com sec ap fl ct d a d.length c hW hf hl (Lib.hid rfl) hD (by omega)).mono fun e w' ⟨v', h1, h2, h3, h4⟩ => ⟨v', h1, h2, Only.of_below h3, fun i hi => .inr (h4 i hi)⟩
          rcases hf with rfl | rfl
          · obtain ⟨e1, e2, e3, e4⟩ := tk_more ht j1 (by simp [lst])
            refine (take_more w g v s com sec ap 1 ct d _ a d.length c h hr h0 hd (.inr rfl) hJ).mono ?_
            rintro e w' ⟨v', rfl, hj, ho, hb'⟩
            unfold TkPost
            rw [e1, e2, e3, e4, hb]
            refine ⟨_, v', rfl, Ow_nil _ _ _, hj, ho, fun x hx => ?_⟩
            rcases List.mem_cons.1 hx with rfl | hx
            · exact .inl (by simp [blk])
            · rcases hb' x (by simpa using hx) with k | k
              · exact .inl (by simp [blk, k])
              · exact .inr k
          · obtain ⟨e1, e2, e3, e4⟩ := tk_done ht j1 (by simp [lst])
            refine (take_done w g v s com sec ap 3 ct d _ a d.length c h hr h0 hd (.inr rfl) hJ).mono ?_
            rintro e w' ⟨m, rfl, hm, hj, ho⟩
            unfold TkPost
            rw [e1, e2, e3, e4, hb]
            exact ⟨m, _, rfl, hm, hj, ho, blk_nil⟩
    · have h0' : d = [] := List.eq_nil_of_length_eq_zero (by omega)
      subst h0'
      obtain ⟨e1, e2, e3, e4⟩ := tk_bad (s := s) (p := ⟨com, sec, ap, fl, ct, []⟩) (by unfold tok; simp)
      refine (take_empty w g v s com sec ap fl ct a c h hr).mono ?_
      rintro e w' ⟨rfl, b⟩
      unfold TkPost
      rw [e1, e2, e3, e4]
      exact ⟨_, v, rfl, Ow_nil _ _ _, h.below b, Only.of_below b, fun x hx => .inl hx⟩
end Go.Proofs.Ytfjmlgclgmcjcaa.Par
