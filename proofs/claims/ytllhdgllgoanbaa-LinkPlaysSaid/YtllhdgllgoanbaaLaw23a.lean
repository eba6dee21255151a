/-
  The laws of layer 23: a Link in play (PL), what it hands back, and the example of the chapter.
-/
import Derived.Test.YtllhdgllgoanbaaLnkW6
import Derived.Test.YtllhdgllgoanbaaRef23e
namespace Go.Proofs.Ytllhdgllgoanbaa.Lnk
open Go.RowKit Go.Proofs.Ytllhdgllgoanbaa.Row
open Rng (R)
open Lst (Qb)

/-- a Link of New in play, its blocks F: what lies below w0's blocks is as it was -/
structure PL (w0 w : World) (g : Nat) (F : List Nat) (c : Cf) (s : LS) (N : Nat) : Prop where
  l : ∃ r, LW w w0.heap.size g r c s ∧ F = g :: r.toList
  ge : w0.heap.size ≤ g
  ok : s.Ok N
  m : c.ot.length ≤ 1000000 ∧ c.lo.length ≤ 1000000 ∧ c.fl.length ≤ 1000000
  b : Below w0.heap.size w0 w
section
variable {w0 w w' : World} {g : Nat} {F F' S : List Nat} {c : Cf} {s s' : LS} {N : Nat}
theorem PL.lo (h : PL w0 w g F c s N) : ∀ x ∈ F, w0.heap.size ≤ x ∧ x < w.heap.size := by
  obtain ⟨⟨r, hl, rfl⟩, h1, _⟩ := h
  intro x hx
  rcases List.mem_cons.1 hx with rfl | hx
  · exact ⟨h1, hl.lt⟩
  · have := hl.row x (by simpa using hx)
    exact ⟨this.1, this.2.1⟩
theorem PL.kq (h : PL w0 w g F c s N) (k : Only F w w') : Kq w w' := by
  obtain ⟨⟨r, hl, rfl⟩, _⟩ := h
  exact hl.kq k
theorem PL.only (h : PL w0 w g F c s N) (k : Only S w w') (q : Kq w w') (hS : ∀ x ∈ S, x ∉ F ∧ w0.heap.size ≤ x) : PL w0 w' g F c s N := by
  obtain ⟨⟨r, hl, rfl⟩, h1, h2, h3, h4⟩ := h
  refine ⟨⟨r, hl.keep k q (fun hm => (hS g hm).1 (by simp)) (fun i hi hm => (hS i hm).1 (by simp [hi])), rfl⟩, h1, h2, h3, h4.trans (k.below h4.size (fun x hx => (hS x hx).2))⟩
theorem PL.below (h : PL w0 w g F c s N) (k : Below w.heap.size w w') : PL w0 w' g F c s N := h.only (S := []) (Only.of_below k) (.of_below k) (fun _ hx => nomatch hx)
theorem PL.bo (h : PL w0 w g F c s N) {a : Option Addr} {k : Nat} {b : List Byte} (d : Dq w b a k) : Bo w g a b := by
  obtain ⟨⟨r, ⟨v, ts, Ao, no, co, Al, nl, cl, Af, nf, cf, hc, _⟩, rfl⟩, _⟩ := h
  exact Bo_dq d hc.cel (by decide)
theorem PL.bo_low (h : PL w0 w g F c s N) {a : Option Addr} {b : List Byte} (hb : Bs w0 w0.heap.size a b) : Bo w g a b := Bo_low (hb.below h.b) h.b.size h.ge
theorem PL.new {c : Cf} {Ao Al Af : Option Addr} {no co nl cl nf cf : Nat} (w0 : World) (hb : Below w0.heap.size w0 w) (h : Cg w c Ao no co Al nl cl Af nf cf) (m1 : no ≤ 1000000) (m2 : nl ≤ 1000000) (m3 : nf ≤ 1000000) (hk : c.ok = true) :
    Calls Try.prog 9 #[.agg #[I c.dl, .slice Ao no co, .slice Al nl cl, .slice Af nf cf]] w fun e w' => ∃ g F, e = .returned (.tuple #[.pointer (some ⟨g, 0, none⟩), .int .i64 0]) ∧ PL w0 w' g F c s0 0 ∧ Below w.heap.size w w' ∧ ∀ x ∈ F, w.heap.size ≤ x := by
  refine (new_ok h m1 m2 m3 hk).mono ?_
  rintro e w' ⟨g, rfl, hg, hl, hb'⟩
  have hl2 : LW w' w0.heap.size g none c s0 := by
    obtain ⟨v, ts, Ao, no, co, Al, nl, cl, Af, nf, cf, hc, hr⟩ := hl
    exact ⟨v, ts, Ao, no, co, Al, nl, cl, Af, nf, cf, ⟨hc.cel, hc.ch, hc.os.more hb.size, hc.tp, hc.dq, hc.ok⟩, hr⟩
  exact ⟨g, [g], rfl, ⟨⟨none, hl2, rfl⟩, Nat.le_trans hb.size hg, s0_ok, ⟨by rw [h.o.len]; exact m1, by rw [h.l.len]; exact m2, by rw [h.f.len]; exact m3⟩, hb.trans (hb'.mono hb.size)⟩, hb', by simpa using hg⟩
theorem PL.send (h : PL w0 w g F c s N) (hN : N < 100000) {now : Int} {a : Option Addr} {b : List Byte} {n k : Nat} (hl : b.length = n) (hb : Bo w g a b) (hn : a = none → k = 0) (hm : n ≤ 1000000) (hs : snd c now b s = s') :
    Calls Try.prog 11 #[.pointer (some ⟨g, 0, none⟩), I now, .slice a n k] w fun e w' => e = .returned (.int .i64 0) ∧ ∃ F', PL w0 w' g F' c s' (N + 1) ∧ Only F w w' ∧ ∀ x ∈ F', x ∈ F ∨ w.heap.size ≤ x := by
  subst hs
  obtain ⟨⟨r, ⟨v, ts, Ao, no, co, Al, nl, cl, Af, nf, cf, hc, rfl⟩, rfl⟩, h1, h2, h3, h4⟩ := h
  have e1 := hc.ch.o.len
  have e2 := hc.ch.l.len
  have e3 := hc.ch.f.len
  refine (send_c hc h2 (by omega) (by omega) (by omega) (by omega) h4.size now a b n k (Lib.hid hl) hb hn hm).mono ?_
  rintro e w' ⟨rfl, v', ts', hc', k', hv⟩
  refine ⟨rfl, g :: v'.ownBlock.toList, ⟨⟨_, ⟨v', ts', Ao, no, co, Al, nl, cl, Af, nf, cf, hc', rfl⟩, rfl⟩, h1, h2.snd c now b (by omega), h3, h4.trans (k'.below h4.size (fun x hx => ?_))⟩, k', fun x hx => ?_⟩
  · rcases List.mem_cons.1 hx with rfl | hx
    · exact h1
    · exact (hc.os.lt x (by simpa using hx)).1
  · rcases List.mem_cons.1 hx with rfl | hx
    · exact .inl (by simp)
    · have hx : v'.ownBlock = some x := by simpa using hx
      rcases hv with e | ⟨i, e, hi⟩
      · exact .inl (by rw [e] at hx; simp [hx])
      · rw [hx] at e
        injection e with e
        exact .inr (by omega)
theorem PL.recv (h : PL w0 w g F c s N) (hN : N ≤ 100000) {now : Int} {ls : List (List Byte)} (hs : rcS now s = s') (ho : rcO now s = ls) :
    Calls Try.prog 13 #[.pointer (some ⟨g, 0, none⟩), I now] w fun e w' => ∃ v, e = .returned v ∧ Ls w' w.heap.size v ls ∧ PL w0 w' g F c s' N ∧ Only F w w' := by
  subst hs ho
  obtain ⟨⟨r, ⟨v, ts, Ao, no, co, Al, nl, cl, Af, nf, cf, hc, rfl⟩, rfl⟩, h1, h2, h3, h4⟩ := h
  refine (recv_c hc h2 hN now).mono ?_
  rintro e w' ⟨vr, rfl, hls, v', ts', hc', k', hv⟩
  refine ⟨vr, rfl, hls, ⟨⟨_, ⟨v', ts', Ao, no, co, Al, nl, cl, Af, nf, cf, hc', rfl⟩, by rw [hv]⟩, h1, h2.rcv now, h3, h4.trans (k'.below h4.size (fun x hx => ?_))⟩, k'⟩
  rcases List.mem_cons.1 hx with rfl | hx
  · exact h1
  · exact (hc.os.lt x (by simpa using hx)).1
theorem PL.clone (h : PL w0 w g F c s N) (hN : N ≤ 100000) :
    Calls Try.prog 16 #[.pointer (some ⟨g, 0, none⟩)] w fun e w' => ∃ g' F', e = .returned (.pointer (some ⟨g', 0, none⟩)) ∧ PL w0 w' g' F' c s N ∧ Below w.heap.size w w' ∧ ∀ x ∈ F', w.heap.size ≤ x := by
  obtain ⟨⟨r, ⟨v, ts, Ao, no, co, Al, nl, cl, Af, nf, cf, hc, rfl⟩, rfl⟩, h1, h2, h3, h4⟩ := h
  refine (clone_c hc h2 hN).mono ?_
  rintro e w' ⟨g', rfl, hg, ⟨r', hl⟩, hb⟩
  have hrow := hl.row
  refine ⟨g', g' :: r'.toList, rfl, ⟨⟨r', ?_, rfl⟩, Nat.le_trans h4.size hg, h2, h3, h4.trans (hb.mono h4.size)⟩, hb, fun x hx => ?_⟩
  · obtain ⟨v, ts, Ao, no, co, Al, nl, cl, Af, nf, cf, hc, hr⟩ := hl
    exact ⟨v, ts, Ao, no, co, Al, nl, cl, Af, nf, cf, ⟨hc.cel, hc.ch, hc.os.more h4.size, hc.tp, hc.dq, hc.ok⟩, hr⟩
  · rcases List.mem_cons.1 hx with rfl | hx
    · exact hg
    · exact (hrow x (by simpa using hx)).1
theorem PL.sent (h : PL w0 w g F c s N) {n : Nat} (hn : s.sn = n) : Calls Try.prog 17 #[.pointer (some ⟨g, 0, none⟩)] w fun e w' => e = .returned (I (n : Int)) ∧ w = w' := by
  subst hn
  obtain ⟨⟨r, hl, _⟩, _⟩ := h
  exact sent_any hl
theorem PL.pend (h : PL w0 w g F c s N) {n : Nat} (hn : s.wt.length = n) : Calls Try.prog 18 #[.pointer (some ⟨g, 0, none⟩)] w fun e w' => e = .returned (I (n : Int)) ∧ w = w' := by
  obtain ⟨⟨r, hl, _⟩, _⟩ := h
  exact pend_any hl hn
theorem Ls.lt {base : Nat} {v : Value} {ls : List (List Byte)} (h : Ls w base v ls) : ∀ i, v.ownBlock = some i → base ≤ i ∧ i < w.heap.size := by
  obtain ⟨qs, _, h2, _⟩ := h
  exact h2.lt
/-- a list that the Link has handed back stays -/
theorem Ls.past {base : Nat} {v : Value} {ls : List (List Byte)} (h : Ls w base v ls) (ho : ∀ i, v.ownBlock = some i → i ∉ F) (p : PL w0 w g F c s N) (k : Only F w w') (hF : ∀ x ∈ F', x ∈ F ∨ w.heap.size ≤ x) : Ls w' base v ls ∧ ∀ i, v.ownBlock = some i → i ∉ F' :=
  ⟨h.only k (p.kq k) ho, fun i hi hm => (hF i hm).elim (ho i hi) (fun e => by have := (h.lt i hi).2; omega)⟩
theorem Ls.off {v : Value} {ls : List (List Byte)} (h : Ls w' w.heap.size v ls) (p : PL w0 w g F c s N) : ∀ i, v.ownBlock = some i → i ∉ F := fun i hi hm => by
  have := (h.lt i hi).1
  have := (p.lo i hm).2
  omega
end

theorem Dq_new1 (w : World) (x : Byte) (m : Int) (hm : m = (x.toNat : Int)) : Dq (w.alloc (.cells #[.int .u8 m] 5)) [x] (some ⟨w.heap.size, 0, none⟩) 1 :=
  ⟨fun _ => ⟨w.heap.size, 0, rfl, ⟨_, _, Cel.new _ _ _, by decide⟩, fun i y hy => by
    match i, hy with
    | 0, hy => cases hy; subst hm; rw [Nat.zero_add, (Cel.new w 5 #[.int .u8 (x.toNat : Int)]).cell]; rfl⟩, (fun h => nomatch h), by simp, by decide⟩
theorem LS_new1 (w : World) (x : Byte) (m : Int) (hm : m = (x.toNat : Int)) (W : World) (hW : W = (w.alloc (.cells #[.int .u8 m] 5)).alloc (.cells #[.slice (some ⟨w.heap.size, 0, none⟩) 1 1] 39)) : Lst.LS W W.heap.size (some ⟨w.heap.size + 1, 0, none⟩) [[x]] := by
  have d := (Dq_new1 w x m hm).keep (Kq.of_below (bel_new _ (.cells #[.slice (some ⟨w.heap.size, 0, none⟩) 1 1] 39)))
  subst hW
  refine ⟨[⟨[x], some ⟨w.heap.size, 0, none⟩, 1⟩], rfl, ?_, fun q hq => by rw [List.mem_singleton.1 hq]; exact d.dt⟩
  have := Row.Rs_new1 Lst.enc_ok (w.alloc (.cells #[.int .u8 m] 5)) 39 (⟨[x], some ⟨w.heap.size, 0, none⟩, 1⟩ : Qb) #[.slice (some ⟨w.heap.size, 0, none⟩) 1 1] rfl
  simpa using this
/-- the chapter's configuration -/
def exC : Cf := ⟨5, [(10, 20)], [1], [(2, 0)]⟩
theorem Sl_new1 {α : Type} {enc : α → List Value} {k : Nat} (hE : Enc enc k) (w : World) (e : TypeId) (x : α) (C : Array Value) (hC : C = (enc x).toArray) (g : Nat) (hg : w.heap.size = g) : Sl enc k (w.alloc (.cells C e)) (some ⟨g, 0, none⟩) 1 1 [x] := by
  subst hg
  exact ⟨(Row.Rs_new1 hE w e x C hC).more (by simp), rfl, (fun h => nomatch h), Nat.le_refl _, by decide⟩
theorem Sl_nil {α : Type} {enc : α → List Value} {k : Nat} (w : World) : Sl enc k w none 0 0 ([] : List α) := ⟨fun h => absurd h (by simp), rfl, fun _ => rfl, Nat.le_refl _, by decide⟩
set_option maxHeartbeats 8000000 in
set_option maxRecDepth 100000 in
theorem alive_any (w : World) : Calls Try.prog 8 #[] w fun e w' => e = .returned (.bool true) ∧ Below w.heap.size w w' := by
  have l1 := Sl_new1 encR_ok w 53 (10, 20) #[.int .i64 10, .int .i64 20] rfl _ rfl
  obtain ⟨w1, hw1⟩ : ∃ w1, w1 = w.alloc (.cells #[.int .i64 10, .int .i64 20] 53) := ⟨_, rfl⟩
  have s1 : w1.heap.size = w.heap.size + 1 := by rw [hw1]; simp
  have b1 : Below w.heap.size w w1 := by rw [hw1]; exact bel_new _ _
  have l2 := Sl_new1 encI_ok w1 3 (1 : Int) #[.int .i64 1] rfl _ s1
  rw [← hw1] at l1
  have c1 := bel_new w1 (.cells #[.int .i64 1] 3)
  obtain ⟨w2, hw2⟩ : ∃ w2, w2 = w1.alloc (.cells #[.int .i64 1] 3) := ⟨_, rfl⟩
  have s2 : w2.heap.size = w.heap.size + 1 + 1 := by rw [hw2]; simp [s1]
  have l3 := Sl_new1 encR_ok w2 57 (2, 0) #[.int .i64 2, .int .i64 0] rfl _ s2
  rw [← hw2] at l2 c1
  have c2 := bel_new w2 (.cells #[.int .i64 2, .int .i64 0] 57)
  obtain ⟨w3, hw3⟩ : ∃ w3, w3 = w2.alloc (.cells #[.int .i64 2, .int .i64 0] 57) := ⟨_, rfl⟩
  rw [← hw3] at l3 c2
  have b3 := (b1.trans (c1.mono b1.size)).trans (c2.mono (b1.trans (c1.mono b1.size)).size)
  have hcg : Cg w3 exC (some ⟨w.heap.size, 0, none⟩) 1 1 (some ⟨w.heap.size + 1, 0, none⟩) 1 1 (some ⟨w.heap.size + 1 + 1, 0, none⟩) 1 1 := ⟨(l1.below c1).below c2, l2.below c2, l3⟩
  have hnew := PL.new w b3 hcg (by decide) (by decide) (by decide) (by decide)
  rw [hw1] at hw2
  rw [hw2] at hw3
  have HW := Lib.hid hw3
  clear l1 l2 l3 s1 s2 b1 c1 c2 hcg hw1 hw2 hw3 b3
  go_enter Try.func8, Try.ntmps8
  go_wp2_with fail
  rw [← HW.out]
  refine hnew.mono ?_
  rintro e W0 ⟨g, F0, rfl, p0, _, _⟩
  clear hnew HW
  go_wp2_with fail
  refine (PL.send (p0.below (bel_new W0 (.cells #[.int .u8 1] 5))) (by decide) rfl (PL.bo (p0.below (bel_new W0 (.cells #[.int .u8 1] 5))) (Dq_new1 W0 1#8 1 rfl)) (fun h => nomatch h) (by decide) (now := 0) (s' := ⟨0, 1, [(5, [1#8])]⟩) (by decide)).mono ?_
  rintro e W1 ⟨rfl, F1, p1, k1, h1⟩
  clear p0 k1 h1
  go_wp2_with fail
  refine (PL.send (p1.below (bel_new W1 (.cells #[.int .u8 1] 5))) (by decide) rfl (PL.bo (p1.below (bel_new W1 (.cells #[.int .u8 1] 5))) (Dq_new1 W1 1#8 1 rfl)) (fun h => nomatch h) (by decide) (now := 1) (s' := ⟨1, 2, [(5, [1#8])]⟩) (by decide)).mono ?_
  rintro e W2 ⟨rfl, F2, p2, k2, h2⟩
  clear p1 k2 h2
  go_wp2_with fail
  refine (PL.send (p2.below (bel_new W2 (.cells #[.int .u8 1] 5))) (by decide) rfl (PL.bo (p2.below (bel_new W2 (.cells #[.int .u8 1] 5))) (Dq_new1 W2 1#8 1 rfl)) (fun h => nomatch h) (by decide) (now := 2) (s' := ⟨2, 3, [(5, [1#8]), (7, [129#8])]⟩) (by decide)).mono ?_
  rintro e W3 ⟨rfl, F3, p3, k3, h3⟩
  clear p2 k3 h3
  go_wp2_with fail
  refine (PL.recv p3 (by decide) (now := 4) (s' := ⟨4, 3, [(5, [1#8]), (7, [129#8])]⟩) (ls := []) (by decide) (by decide)).mono ?_
  rintro e W4 ⟨v4, rfl, l4, p4, k4⟩
  obtain ⟨A4, c4, rfl, _⟩ := l4.len (n := 0) rfl
  clear p3 k4 l4
  go_wp2_with fail
  refine (PL.recv p4 (by decide) (now := 6) (s' := ⟨6, 3, [(7, [129#8])]⟩) (ls := [[1#8]]) (by decide) (by decide)).mono ?_
  rintro e W5 ⟨v5, rfl, l5, p5, k5⟩
  obtain ⟨A5, c5, rfl, _⟩ := l5.len (n := 1) rfl
  have HB : Ls W5 W4.heap.size (.slice A5 1 c5) [[1#8]] ∧ ∀ i, (Value.slice A5 1 c5).ownBlock = some i → i ∉ F3 := ⟨l5, l5.off p4⟩
  clear p4 k5 l5
  go_wp2_with fail
  refine (p5.pend (n := 1) rfl).mono ?_
  rintro e _ ⟨rfl, rfl⟩
  go_wp2_with fail
  refine (PL.recv p5 (by decide) (now := 7) (s' := ⟨7, 3, []⟩) (ls := [[129#8]]) (by decide) (by decide)).mono ?_
  rintro e W6 ⟨v6, rfl, l6, p6, k6⟩
  obtain ⟨A6, c6, rfl, _⟩ := l6.len (n := 1) rfl
  have HB' := HB.1.past HB.2 p5 k6 (F' := F3) (fun x hx => .inl hx)
  clear HB
  have HB := HB'
  clear HB'
  have HC : Ls W6 W5.heap.size (.slice A6 1 c6) [[129#8]] ∧ ∀ i, (Value.slice A6 1 c6).ownBlock = some i → i ∉ F3 := ⟨l6, l6.off p5⟩
  clear p5 k6 l6
  go_wp2_with fail
  refine (PL.send (p6.below (bel_new W6 (.cells #[.int .u8 1] 5))) (by decide) rfl (PL.bo (p6.below (bel_new W6 (.cells #[.int .u8 1] 5))) (Dq_new1 W6 1#8 1 rfl)) (fun h => nomatch h) (by decide) (now := 12) (s' := ⟨12, 4, []⟩) (by decide)).mono ?_
  rintro e W7 ⟨rfl, F7, p7, k7, h7⟩
  have HB' := (HB.1.below (bel_new W6 (.cells #[.int .u8 1] 5))).past HB.2 (p6.below (bel_new W6 (.cells #[.int .u8 1] 5))) k7 h7
  clear HB
  have HB := HB'
  clear HB'
  have HC' := (HC.1.below (bel_new W6 (.cells #[.int .u8 1] 5))).past HC.2 (p6.below (bel_new W6 (.cells #[.int .u8 1] 5))) k7 h7
  clear HC
  have HC := HC'
  clear HC'
  clear p6 k7 h7
  go_wp2_with fail
  refine (PL.recv p7 (by decide) (now := 99) (s' := ⟨99, 4, []⟩) (ls := []) (by decide) (by decide)).mono ?_
  rintro e W8 ⟨v8, rfl, l8, p8, k8⟩
  obtain ⟨A8, c8, rfl, _⟩ := l8.len (n := 0) rfl
  have HB' := HB.1.past HB.2 p7 k8 (F' := F7) (fun x hx => .inl hx)
  clear HB
  have HB := HB'
  clear HB'
  have HC' := HC.1.past HC.2 p7 k8 (F' := F7) (fun x hx => .inl hx)
  clear HC
  have HC := HC'
  clear HC'
  clear p7 k8 l8
  have nb := new_bad (c := ⟨-1, [], [], []⟩) (w := W8) ⟨Sl_nil W8, Sl_nil W8, Sl_nil W8⟩ (by decide) (by decide) (by decide)
  go_wp2_with fail
  refine nb.mono ?_
  rintro e X1 ⟨rfl, b1⟩
  have q1 := p8.below b1
  have hb := HB.1.below b1
  have hc := HC.1.below b1
  obtain ⟨_, _, e1, hb1, _⟩ := hb.len (n := 1) rfl
  injection e1 with e1 _ e2
  subst e1 e2
  obtain ⟨_, _, e3, hc1, _⟩ := hc.len (n := 1) rfl
  injection e3 with e3 _ e4
  subst e3 e4
  have n1 := LS_new1 X1 1#8 1 rfl _ rfl
  have d1 : Below X1.heap.size X1 ((X1.alloc (.cells #[.int .u8 1] 5)).alloc (.cells #[.slice (some ⟨X1.heap.size, 0, none⟩) 1 1] 39)) := (bel_new X1 _).alloc (bel_new X1 _).size _
  have y1 := same_eq [[1#8]] 1 c5 1 _ _ _ (Lib.hid rfl) ((hb1.below d1).more d1.size) n1 (by decide)
  have q2 := q1.below d1
  have hc2 := (hc1.below d1).more d1.size
  clear nb HB HC hb hc hb1 hc1 n1
  go_wp2_with fail
  refine y1.mono ?_
  rintro e X2 ⟨rfl, b2⟩
  have q3 := q2.below b2
  have hc3 := (hc2.below b2).more b2.size
  have n2 := LS_new1 X2 129#8 129 rfl _ rfl
  have d2 : Below X2.heap.size X2 ((X2.alloc (.cells #[.int .u8 129] 5)).alloc (.cells #[.slice (some ⟨X2.heap.size, 0, none⟩) 1 1] 39)) := (bel_new X2 _).alloc (bel_new X2 _).size _
  have y2 := same_eq [[129#8]] 1 c6 1 _ _ _ (Lib.hid rfl) ((hc3.below d2).more d2.size) n2 (by decide)
  have q4 := q3.below d2
  clear y1 q1 q2 q3 hc2 hc3 n2
  go_wp2_with fail
  refine y2.mono ?_
  rintro e X3 ⟨rfl, b3⟩
  have q5 := q4.below b3
  clear y2 q4
  go_wp2_with fail
  refine (q5.sent (n := 4) rfl).mono ?_
  rintro e _ ⟨rfl, rfl⟩
  go_wp2_with fail
  refine (q5.pend (n := 0) rfl).mono ?_
  rintro e _ ⟨rfl, rfl⟩
  go_wp2
  go_ret
  exact ⟨rfl, q5.b⟩
end Go.Proofs.Ytllhdgllgoanbaa.Lnk
