/-
  Package parts: inRange; what it is to be a Joiner; NewJoiner, works, Pending, awaits.
-/
import Derived.Test.YtfjmlgclgmcjcaaParH
import Derived.Test.YtfjmlgclgmcjcaaSerW
import Derived.Test.YtfjmlgclgmcjcaaPacW1
import Derived.Test.YtfjmlgclgmcjcaaClone
import Derived.BigQuiet
namespace Go.Proofs.Ytfjmlgclgmcjcaa.Par
open Go.RowKit Go.Proofs.Ytfjmlgclgmcjcaa.Row
open Pac (Pk bel_new Cel.later Cel.within)

set_option maxHeartbeats 1000000 in
theorem inRange_any (com sec : Bool) (ap fl ct : Int) (a : Option Addr) (n c : Nat) (w : World) :
    Calls Try.prog 19 #[.agg #[.bool com, .bool sec, .int .i64 ap, .int .i64 fl, .int .i64 ct, .slice a n c]] w fun e w' => e = .returned (.bool (rng ap fl ct)) ∧ Below w.heap.size w w' := by
  obtain ⟨w1, hw1⟩ : ∃ w1, w1 = w.alloc (.cells #[.bool com, .bool sec, .int .i64 ap, .int .i64 fl, .int .i64 ct, .slice (some ⟨w.heap.size + 1, 0, none⟩) 1 1] 24) := ⟨_, rfl⟩
  have b1 : Below w.heap.size w w1 := by rw [hw1]; exact bel_new _ _
  have hs1 : w1.heap.size = w.heap.size + 1 := by rw [hw1]; simp
  obtain ⟨w2, hw2⟩ : ∃ w2, w2 = w1.alloc (.cells #[.int .u8 0] 5) := ⟨_, rfl⟩
  have b2 : Below w1.heap.size w1 w2 := by rw [hw2]; exact bel_new _ _
  have d2 := Bs_new1 w1 5 0#8 0 rfl
  rw [← hw2, hs1] at d2
  have hs2 : w2.heap.size = w.heap.size + 2 := by rw [hw2]; simp; omega
  have hv := Pac.valid_any com sec ap fl ct (some ⟨w.heap.size + 1, 0, none⟩) [0#8] 1 1 w2 (Lib.hid rfl) (d2.more (by omega)) (by decide)
  have b3 : Below w.heap.size w w2 := b1.trans (b2.mono b1.size)
  have HS := Lib.hid (And.intro hs1 hs2)
  clear hs1 hs2 b1 b2 d2
  by_cases h : ap = 2047
  · subst h
    rw [rng_idle]
    clear hv
    go_enter Try.func19, Try.ntmps19
    go_wp2
    rw [← hw1, ← hw2]
    go_ret
    exact ⟨rfl, b3⟩
  · rw [rng_ok h] at hv
    have h10 : (ap != 2047) = true := by simpa using h
    obtain ⟨R, hR⟩ : ∃ R, R = rng ap fl ct := ⟨_, rfl⟩
    rw [← hR] at hv ⊢
    clear hR h
    go_enter Try.func19, Try.ntmps19
    go_wp2_with fail
    rw [← hw1, ← hw2]
    refine hv.mono ?_
    rintro e w' ⟨rfl, hb⟩
    go_wp2
    go_ret
    exact ⟨ret_bool (by simp), b3.trans (hb.mono (by have := HS.out; omega))⟩

/-! ### a Joiner -/
def Jv (s : JS) (v : Value) : Array Value := #[.bool true, .int .i64 s.most, v, .int .i64 s.ap, .int .i64 s.ct]
/-- block g is a Joiner of NewJoiner in state s, whose message is v -/
structure Jo (w : World) (g : Nat) (v : Value) (s : JS) : Prop where
  c : Cel w g 48 (Jv s v)
  o : Ow w 0 5 v s.msg
  m : 0 ≤ s.most ∧ s.most ≤ 9223372036854775807
  n : 0 ≤ s.ct ∧ s.ct ≤ 16383
/-- the blocks of a Joiner -/
def blk (g : Nat) (v : Value) : List Nat := g :: v.ownBlock.toList
section
variable {w w' : World} {g : Nat} {v : Value} {s : JS} {S : List Nat}
theorem Jo.only (h : Jo w g v s) (k : Only S w w') (hd : ∀ x ∈ blk g v, x ∉ S) : Jo w' g v s :=
  ⟨h.c.only k (hd g (by simp [blk])), h.o.only k (fun i hi => hd i (by simp [blk, hi])), h.m, h.n⟩
theorem Jo.below (h : Jo w g v s) (k : Below w.heap.size w w') : Jo w' g v s := h.only (Only.of_below (S := []) k) (by simp)
theorem Jo.lt (h : Jo w g v s) : ∀ x ∈ blk g v, x < w.heap.size := by
  intro x hx
  rcases List.mem_cons.1 hx with rfl | hx
  · exact h.c.lt
  · exact (h.o.lt x (by simpa using hx)).2
theorem Jo.ne (h : Jo w g v s) : v.ownBlock ≠ some g := h.o.apart h.c (by decide)
end

set_option maxHeartbeats 400000 in
theorem works_any (w : World) (g : Nat) (h : w.cell? ⟨g, 0, none⟩ = some (.bool true)) :
    Calls Try.prog 24 #[.pointer (some ⟨g, 0, none⟩)] w fun e w' => e = .returned (.bool true) ∧ w = w' := by
  go_enter Try.func24, Try.ntmps24
  go_wp2
  go_ret
  exact ⟨rfl, rfl⟩
set_option maxHeartbeats 400000 in
theorem works_nil (w : World) : Calls Try.prog 24 #[.pointer none] w fun e w' => e = .returned (.bool false) ∧ w = w' := by
  go_enter Try.func24, Try.ntmps24
  go_wp2
  go_ret
  exact ⟨rfl, rfl⟩
set_option maxHeartbeats 400000 in
theorem works_zero (w : World) (g : Nat) (h : w.cell? ⟨g, 0, none⟩ = some (.bool false)) :
    Calls Try.prog 24 #[.pointer (some ⟨g, 0, none⟩)] w fun e w' => e = .returned (.bool false) ∧ w = w' := by
  go_enter Try.func24, Try.ntmps24
  go_wp2
  go_ret
  exact ⟨rfl, rfl⟩

set_option maxHeartbeats 400000 in
theorem pending_any (w : World) (g : Nat) (v : Value) (s : JS) (h : Jo w g v s) :
    Calls Try.prog 18 #[.pointer (some ⟨g, 0, none⟩)] w fun e w' => e = .returned (.int .i64 ((s.msg.length : Nat) : Int)) ∧ w = w' := by
  obtain ⟨hc, ho, _, _⟩ := h
  obtain ⟨A, c, rfl, _⟩ := ho.reads
  have c0 := hc.cell 0
  have c2 := hc.cell 2
  simp [Jv] at c0 c2
  have hw := works_any w g c0
  obtain ⟨n, hn⟩ : ∃ n, n = s.msg.length := ⟨_, rfl⟩
  rw [← hn] at c2 ⊢
  clear hc ho hn
  go_enter Try.func18, Try.ntmps18
  go_wp2_with (go_at_call 24; refine hw.mono ?_; rintro e w1 ⟨rfl, rfl⟩)
  go_ret
  exact ⟨rfl, rfl⟩
set_option maxHeartbeats 1000000 in
theorem newJoiner_any (n : Int) (w : World) :
    Calls Try.prog 13 #[.int .i64 n] w fun e w' => e = .returned (.pointer (some ⟨w.heap.size, 0, none⟩)) ∧ w' = w.alloc (.cells (Jv ⟨max n 0, [], 0, 0⟩ (.slice none 0 0)) 48) := by
  obtain ⟨M, hM⟩ : ∃ M, M = max n 0 := ⟨_, rfl⟩
  have hm0 : max n 0 = M := hM.symm
  have hm1 : (if n < 0 then (0 : Int) else n) = M := by split <;> omega
  rw [← hM]
  clear hM
  go_enter Try.func13, Try.ntmps13
  go_wp2
  go_ret
  exact ⟨rfl, rfl⟩
theorem Jo_new (n : Int) (w : World) (hn : n ≤ 9223372036854775807) : Jo (w.alloc (.cells (Jv ⟨max n 0, [], 0, 0⟩ (.slice none 0 0)) 48)) w.heap.size (.slice none 0 0) ⟨max n 0, [], 0, 0⟩ :=
  ⟨Cel.new _ _ _, World.ownsRow_nil _ _ _ _, ⟨by simp only; omega, by simp only; omega⟩, ⟨by simp, by simp⟩⟩

theorem quiet_same {P : Program} {f : FuncId} {args : Array Value} {w : World} {n : Nat} {v : Value} (h : Calls P f args (w.drewN n) fun e w' => e = .returned v ∧ w.drewN n = w') :
    Calls P f args (w.drewN n) fun e w'' => e = .returned v ∧ ∃ m, w'' = w.drewN m := h.mono fun _ _ ⟨he, hm⟩ => ⟨he, n, hm.symm⟩

set_option maxHeartbeats 1000000 in
theorem awaits_any (w : World) (g : Nat) (v : Value) (s : JS) (p : Pk) (a : Option Addr) (n c : Nat) (h : Jo w g v s) :
    Calls Try.prog 30 #[.pointer (some ⟨g, 0, none⟩), .agg #[.bool p.com, .bool p.sec, .int .i64 p.ap, .int .i64 p.fl, .int .i64 p.ct, .slice a n c]] w fun e w' => e = .returned (.bool (awt s p)) ∧ Below w.heap.size w w' := by
  obtain ⟨w1, hw1⟩ : ∃ w1, w1 = w.alloc (.cells #[.bool p.com, .bool p.sec, .int .i64 p.ap, .int .i64 p.fl, .int .i64 p.ct, .slice a n c] 24) := ⟨_, rfl⟩
  have b1 : Below w.heap.size w w1 := by rw [hw1]; exact bel_new _ _
  have h1 := h.below b1
  have k1 : Cel w1 w.heap.size 24 #[.bool p.com, .bool p.sec, .int .i64 p.ap, .int .i64 p.fl, .int .i64 p.ct, .slice a n c] := by rw [hw1]; exact Cel.new _ _ _
  have hp := fun W (h : Jo W g v s) => pending_any W g v s h
  have ha := fun W => add_any s.ct 1 14 W
  have e1 : awt s p = (decide (0 < (s.msg.length : Int)) && (decide (p.ap = s.ap) && decide (p.ct = sadd s.ct 1 14))) := by
    unfold awt
    rw [sadd_next h.n.1 h.n.2, Bool.decide_and, Bool.decide_and]
    simp
  rw [e1]
  have q0 := h1.c.cell 0
  have q3 := h1.c.cell 3
  have q4 := h1.c.cell 4
  simp [Jv] at q0 q3 q4
  have k2 := k1.cell 2
  have k4 := k1.cell 4
  simp at k2 k4
  have hd := fun m => (Jo.below h1 (drewN_below w1 m))
  obtain ⟨K, hK⟩ : ∃ K, K = s.msg.length := ⟨_, rfl⟩
  obtain ⟨N, hN⟩ : ∃ N, N = sadd s.ct 1 14 := ⟨_, rfl⟩
  simp only [← hK] at hp ⊢
  simp only [← hN] at ha ⊢
  obtain ⟨A, hA⟩ : ∃ A, A = p.ap := ⟨_, rfl⟩
  obtain ⟨C, hC⟩ : ∃ C, C = p.ct := ⟨_, rfl⟩
  obtain ⟨A', hA'⟩ : ∃ A, A = s.ap := ⟨_, rfl⟩
  obtain ⟨C', hC'⟩ : ∃ C, C = s.ct := ⟨_, rfl⟩
  rw [← hA] at k2 hw1 ⊢
  rw [← hC] at k4 hw1 ⊢
  rw [← hA'] at q3 ⊢
  simp only [← hC'] at q4 ha
  have HD := Lib.hid hd
  clear hd hA hA' hC hC' hK hN e1 h h1 k1
  by_cases t1 : 0 < K
  · have t1' : decide ((0 : Int) < (K : Int)) = true := by simp; omega
    have t1'' : decide (0 < K) = true := by simpa using t1
    rw [t1']
    clear t1
    by_cases t2 : A = A'
    · have t2' : (A == A') = true := by simpa using t2
      rw [decide_eq_true t2]
      clear t2
      go_enter Try.func30, Try.ntmps30
      go_wp2_with fail
      rw [← hw1]
      clear hw1
      go_quiet ((first
        | (go_at_call 18; exact quiet_same (hp _ (HD.out _)))
        | (go_at_call 22; exact quiet_same (ha _))))
      go_wp2
      go_ret
      exact ⟨ret_bool (by rw [Bool.true_and, Bool.true_and]; rfl), b1.trans ((drewN_below w1 _).mono b1.size)⟩
    · have t2' : (A == A') = false := by simpa using t2
      rw [decide_eq_false t2]
      clear t2
      go_enter Try.func30, Try.ntmps30
      go_wp2_with fail
      rw [← hw1]
      clear hw1
      go_quiet ((first
        | (go_at_call 18; exact quiet_same (hp _ (HD.out _)))))
      go_wp2
      go_ret
      exact ⟨rfl, b1.trans ((drewN_below w1 _).mono b1.size)⟩
  · have t1' : decide ((0 : Int) < (K : Int)) = false := by simp; omega
    have t1'' : decide (0 < K) = false := by simpa using t1
    rw [t1']
    clear t1
    go_enter Try.func30, Try.ntmps30
    go_wp2_with fail
    rw [← hw1]
    clear hw1
    go_quiet ((first
      | (go_at_call 18; exact quiet_same (hp _ (HD.out _)))))
    go_wp2
    go_ret
    exact ⟨rfl, b1.trans ((drewN_below w1 _).mono b1.size)⟩
end Go.Proofs.Ytfjmlgclgmcjcaa.Par
