/-
  The walk of the reference's Split (layer 11).
-/
import Derived.Test.YtfjmlgclgmcjcaaRef11a
import Derived.Test.YtfjmlgclgmcjcaaParSr
import Derived.Deep.Cut
namespace Go.Proofs.Ytfjmlgclgmcjcaa.Par
open Go.RowKit Go.Proofs.Ytfjmlgclgmcjcaa.Row
open Pac (Pk bel_new Cel.later Cel.within)

set_option maxHeartbeats 1000000 in
theorem xsplit_no (com sec : Bool) (ap fl ct : Int) (a0 : Option Addr) (n0 c0 : Nat) (A : Option Addr) (L cap : Nat) (most : Int) (w : World) (h : (rng ap 0 ct && decide (1 ≤ most ∧ most ≤ 4090 ∧ 0 < L)) = false) :
    Calls Try.prog 11 #[.agg #[.bool com, .bool sec, .int .i64 ap, .int .i64 fl, .int .i64 ct, .slice a0 n0 c0], .slice A L cap, .int .i64 most] w fun e w' => e = .returned (.tuple #[.slice none 0 0, .int .i64 1]) ∧ Below w.heap.size w w' := by
  have b1 := bel_new w (.cells #[.bool com, .bool sec, .int .i64 ap, .int .i64 fl, .int .i64 ct, .slice a0 n0 c0] 24)
  have hr := xheader_any com sec ap fl ct (.slice a0 n0 c0) (w.alloc (.cells #[.bool com, .bool sec, .int .i64 ap, .int .i64 fl, .int .i64 ct, .slice a0 n0 c0] 24))
  cases hR : rng ap 0 ct with
  | false =>
    rw [hR] at hr
    clear h hR
    go_enter Try.func11, Try.ntmps11
    go_wp2_with fail
    refine hr.mono ?_
    rintro e w2 ⟨rfl, b2⟩
    go_wp2
    go_ret2
    exact ⟨rfl, b1.trans (b2.mono b1.size)⟩
  | true =>
    rw [hR] at hr h
    have h2 : ¬ (1 ≤ most ∧ most ≤ 4090 ∧ 0 < L) := by simpa using h
    have hcase : (decide (most < 1) = true) ∨ (decide (most < 1) = false ∧ decide (4090 < most) = true) ∨ (decide (most < 1) = false ∧ decide (4090 < most) = false ∧ L = 0) := by
      simp only [decide_eq_true_eq, decide_eq_false_iff_not]; omega
    clear h hR h2
    rcases hcase with t1 | ⟨t1, t2⟩ | ⟨t1, t2, rfl⟩
    all_goals
      go_enter Try.func11, Try.ntmps11
      go_wp2_with fail
      refine hr.mono ?_
      rintro e w2 ⟨rfl, b2⟩
      go_wp2
      go_ret2
      exact ⟨rfl, b1.trans (b2.mono b1.size)⟩

/-- the packets made so far -/
def fins (p : Pk) (d : List Byte) (m k : Nat) : List Pk := (List.range k).map (fin p d m)
theorem fins_next (p : Pk) (d : List Byte) (m k : Nat) : fins p d m (k + 1) = fins p d m k ++ [fin p d m k] := by
  unfold fins
  rw [List.range_succ, List.map_append]; rfl

/-- one packet more -/
theorem xstep {wr W4 W5 W6 : World} {B k E c5 c8 : Nat} {A5 A8 : Option Addr} {qs : List Qp} {qn : Qp} {x : Pk} (hO : Row.Os enc 6 wr B 24 (.slice A8 k c8) qs) (hD : ∀ q ∈ qs, Ow wr B 5 (.slice q.a q.p.d.length q.c) q.p.d) (hql : qs.length = k)
    (b4 : Below wr.heap.size wr W4) (o5 : Ow W5 W4.heap.size 5 (.slice A5 E c5) x.d) (b5 : Below W4.heap.size W4 W5) (p6 : Only [wr.heap.size] W5 W6) (hE : E = x.d.length) (hq : qn = ⟨x, A5, c5⟩) (hBz : B ≤ wr.heap.size) (hz : wr.heap.size < W4.heap.size) :
    Row.Os enc 6 W6 B 24 (.slice A8 k c8) qs ∧ Below wr.heap.size wr W6 ∧ ∀ (o : Obj) (v8 : Value) (W8 : World), Row.Os enc 6 W8 B 24 v8 (qs ++ [qn]) → (W6.alloc o).grownBy W8 (Value.slice A8 k c8).ownBlock →
      (∀ q ∈ qs ++ [qn], Ow W8 B 5 (.slice q.a q.p.d.length q.c) q.p.d) ∧ (∀ C, C ≤ B → (∀ i, (Value.slice A8 k c8).ownBlock = some i → C ≤ i) → Below C wr W8) := by
  have b45 := b4.trans (b5.mono b4.size)
  have b6 := b45.trans (p6.below b45.size (fun x hx => by obtain rfl := List.mem_singleton.1 hx; omega))
  have hO6 := hO.below b6
  refine ⟨hO6, b6, fun o v8 W8 o8 g8 => ?_⟩
  have hO8 : Only (Value.slice A8 k c8).ownBlock.toList W6 W8 := ((Only.refl _ W6).alloc o).trans (Only.of_grown g8) (fun x hx => .inl hx)
  refine ⟨fun q hqm => ?_, fun C hC hCi => (b6.mono (by omega)).trans (hO8.below (by have := b6.size; omega) (fun x hx => hCi x (by simpa using hx)))⟩
  rcases List.mem_append.1 hqm with hqm | hqm
  · have h6 := (hD q hqm).below b6
    refine h6.only hO8 fun i hi hm => ?_
    obtain ⟨cs, hcs⟩ := own_cel hO6 (i := i) (by simpa using hm)
    exact h6.apart hcs (by decide) hi
  · obtain rfl := List.mem_singleton.1 hqm
    subst hq hE
    have h6 : Ow W6 B 5 (.slice A5 x.d.length c5) x.d := (o5.only p6 (fun i hi hm => by have := (o5.lt i hi).1; rw [List.mem_singleton.1 hm] at this; omega)).more (by omega)
    refine h6.only hO8 fun i hi hm => ?_
    obtain ⟨cs, hcs⟩ := own_cel hO6 (i := i) (by simpa using hm)
    exact h6.apart hcs (by decide) hi

theorem xpiece_cut {d : List Byte} {b off L m k I E : Nat} {w : World} (hL : Hid (d.length = L)) (hI : I = k * m) (hE : E = min (I + m) L) (hd : Bs w w.heap.size (some ⟨b, off, none⟩) d) :
    (piece d m k).length = E - I ∧ Bs w w.heap.size (some ⟨b, off + I, none⟩) (piece d m k) := by
  have hl := hL.out
  subst hI
  exact ⟨by rw [piece_len]; omega, Bs_cut hd k⟩

set_option maxRecDepth 100000 in
set_option maxHeartbeats 1000000 in
theorem xsplit_ok (p : Pk) (a0 : Option Addr) (n0 c0 : Nat) (d : List Byte) (b off L cap m N : Nat) (w : World) (hL : Hid (d.length = L)) (hN : Hid (N = num L m)) (h0 : 0 < L) (h1 : 0 < m) (h2 : m ≤ 4090) (h3 : L ≤ 1000000) (hcap : L ≤ cap)
    (hr : rng p.ap 0 p.ct = true) (hd : Bs w w.heap.size (some ⟨b, off, none⟩) d) :
    Calls Try.prog 11 #[.agg #[.bool p.com, .bool p.sec, .int .i64 p.ap, .int .i64 p.fl, .int .i64 p.ct, .slice a0 n0 c0], .slice (some ⟨b, off, none⟩) L cap, .int .i64 (m : Int)] w fun e w' =>
      ∃ A c, e = .returned (.tuple #[.slice A N c, .int .i64 0]) ∧ PS w' w'.heap.size A (spl p d m) ∧ Below w.heap.size w w' := by
  have k1 := Cel.new w 24 #[.bool p.com, .bool p.sec, .int .i64 p.ap, .int .i64 p.fl, .int .i64 p.ct, .slice a0 n0 c0]
  have b1 := bel_new w (.cells #[.bool p.com, .bool p.sec, .int .i64 p.ap, .int .i64 p.fl, .int .i64 p.ct, .slice a0 n0 c0] 24)
  have hrg := xheader_any p.com p.sec p.ap p.fl p.ct (.slice a0 n0 c0) (w.alloc (.cells #[.bool p.com, .bool p.sec, .int .i64 p.ap, .int .i64 p.fl, .int .i64 p.ct, .slice a0 n0 c0] 24))
  rw [hr] at hrg
  have t1 : decide ((m : Int) < 1) = false := by simp; omega
  have t2 : decide ((4090 : Int) < (m : Int)) = false := by simp; omega
  have t2' : decide (4090 < m) = false := by simp; omega
  have t3 : ((L : Int) == 0) = false := by simp; omega
  have t3' : (L == 0) = false := by simp; omega
  go_enter Try.func11, Try.ntmps11
  go_wp2_with fail
  refine hrg.mono ?_
  rintro e w2 ⟨rfl, b2⟩
  have k2 := Cel.later k1 b2
  have b03 := b1.trans (b2.mono b1.size)
  clear k1 b1 b2 hrg
  have hNL : N ≤ L := by rw [hN.out]; exact num_le h1
  go_wp2
  go_loopw [8, 9] (fun o i wr => ∃ k : Nat, k ≤ N ∧ i = .int .i64 ((k * m : Nat) : Int) ∧ ∃ qs : List Qp, Hid (qs.map (·.p) = fins p d m k) ∧ qs.length = k ∧ Row.Os enc 6 wr w2.heap.size 24 o qs ∧ (∀ q ∈ qs, Ow wr w2.heap.size 5 (.slice q.a q.p.d.length q.c) q.p.d) ∧ Below w2.heap.size w2 wr)
    (fun _ i _ => L + m - (intOf i).toNat)
  case atStart => exact ⟨0, Nat.zero_le _, by simp, [], Lib.hid rfl, rfl, Row.Os.nil_ _ _ _, (fun q hq => nomatch hq), Below.refl _ _⟩
  case round =>
    obtain ⟨k, hk, rfl, qs, hq, hql, hO, hD, hB⟩ := hrel
    have hlt := num_lt (L := L) (k := k) h1
    rw [← hN.out] at hlt
    obtain ⟨I, hI⟩ : ∃ I, I = k * m := ⟨_, rfl⟩
    have hI2 : I + m = (k + 1) * m := by rw [hI, Nat.succ_mul]
    rw [← hI] at hlt ⊢
    by_cases hIL : I < L
    · have hkN := hlt.2 hIL
      have k3 := Cel.later k2 hB
      have q0 := k3.cell 0
      have q1 := k3.cell 1
      have q2 := k3.cell 2
      have q3 := k3.cell 3
      have q4 := k3.cell 4
      have q5 := k3.cell 5
      simp at q0 q1 q2 q3 q4 q5
      obtain ⟨E, hE⟩ : ∃ E, E = min (I + m) L := ⟨_, rfl⟩
      have e1 : min ((I : Int) + (m : Int)) (L : Int) = (E : Int) := by omega
      have e2 : (if (L : Int) < (I : Int) + (m : Int) then (L : Int) else (I : Int) + (m : Int)) = (E : Int) := by split <;> omega
      have hkl := num_lt (L := L) (k := k + 1) h1
      rw [← hN.out, ← hI2] at hkl
      obtain ⟨C, hC⟩ : ∃ C, C = (p.ct + (k : Int)) % 16384 := ⟨_, rfl⟩
      have hct := rng_iff.1 hr
      have e3 : (p.ct + (k : Int)).tmod 16384 = C := by rw [hC]; exact Int.tmod_eq_emod_of_nonneg (by omega)
      have hcb : 0 ≤ p.ct ∧ p.ct ≤ 16383 := by omega
      obtain ⟨A8, c8, rfl, _⟩ := hO.reads_len enc_ok hql
      by_cases hk0 : k = 0
      · skip
        have g1 : ((I : Int) == 0) = true := by rw [hI, hk0]; simp
        have g1' : (I == 0) = true := by rw [hI, hk0]; simp
        by_cases hkl0 : k + 1 = N
        · skip
          have g2 : ((E : Int) == (L : Int)) = true := by simp; omega
          have g2' : (E == L) = true := by simp; omega
          have hF : flg k N = 3 := by unfold flg; rw [if_pos hk0, if_pos hkl0]; rfl
          have HI := Lib.hid (And.intro hI (And.intro hI2 (And.intro hF (And.intro hE (And.intro hC hql)))))
          clear hI hI2 hk0 hkl hkl0 hE hlt hql hC hct hF
          obtain ⟨W3, hW3⟩ : ∃ W3, W3 = wr.alloc (.cells #[.bool p.com, .bool p.sec, .int .i64 p.ap, .int .i64 3, .int .i64 p.ct, .slice a0 n0 c0] 24) := ⟨_, rfl⟩
          have y3 := Cel.new wr 24 #[.bool p.com, .bool p.sec, .int .i64 p.ap, .int .i64 3, .int .i64 p.ct, .slice a0 n0 c0]
          have b3 := bel_new wr (.cells #[.bool p.com, .bool p.sec, .int .i64 p.ap, .int .i64 3, .int .i64 p.ct, .slice a0 n0 c0] 24)
          rw [← hW3] at y3 b3
          go_upto_region 14 with fail
          rw [← hW3]
          clear hW3 q0 q1 q2 q3 q4 q5
          have z3 := Cel.later k3 b3
          have s4 := z3.cell 4
          have y4 := y3.cell 4
          have f4 := y3.free 4
          simp at s4 y4
          go_upto_region 15 with fail
          obtain ⟨W4, hW4⟩ : ∃ W4, W4 = W3.setCell ⟨wr.heap.size, 4, none⟩ (.int .i64 C) := ⟨_, rfl⟩
          have z4 := y3.put 4 (.int .i64 C)
          have b4 := b3.trans ((put_only W3 wr.heap.size 4 (.int .i64 C)).below b3.size (fun x hx => by obtain rfl := List.mem_singleton.1 hx; omega))
          rw [← hW4] at z4 b4
          simp at z4
          rw [← hW4]
          clear hW4 y3 b3 z3 s4 y4 f4
          have hIE : I ≤ E := by obtain ⟨_, _, _, h, _⟩ := HI.out; omega
          have hEc : E ≤ cap := by obtain ⟨_, _, _, h, _⟩ := HI.out; omega
          have hcI : ¬ cap = I := by omega
          obtain ⟨hpl, hps⟩ := xpiece_cut hL HI.out.1 HI.out.2.2.2.1 hd
          have oo1 := Ow_empty W4 W4.heap.size 5 (Nat.le_refl _)
          have bb1 := b4.trans ((bel_new W4 (.cells #[] 5)).mono b4.size)
          have bw1 := b03.trans (hB.mono b03.size) |>.trans (bb1.mono (b03.trans (hB.mono b03.size)).size)
          have hfit : ([] : List Byte).length + (piece d m k).length ≤ 140737488355328 := by rw [hpl]; simp; omega
          go_upto_region 16 with (first
            | (at_builtin; refine wpList_app _ is_bytes rfl (.tmp 64) (.tmp 68) rfl (m := []) rfl oo1 (l := piece d m k) (A := some ⟨b, off + I, none⟩) (c := cap - I) (by rw [hpl]; simp [Act.eval]) (hps.below bw1) (fun e => nomatch e) hfit (by simp) ?_; intro v5 W5 o5 g5; rw [List.nil_append] at o5; have bb2 := (bel_new W4 (.cells #[] 5)).grown g5 (by simp) (fun i hi => oo1.base_le i hi); obtain ⟨A5, c5', rfl, _⟩ := o5.reads_len (n := E - I) hpl; have y5 := Cel.later z4 bb2; have f5 := y5.free 5; have c5 := y5.cell 5; simp at c5))
          obtain ⟨W6, hW6⟩ : ∃ W6, W6 = W5.setCell ⟨wr.heap.size, 5, none⟩ (.slice A5 (E - I) c5') := ⟨_, rfl⟩
          have y6 := y5.put 5 (.slice A5 (E - I) c5')
          have p6 := put_only W5 wr.heap.size 5 (.slice A5 (E - I) c5')
          rw [← hW6] at y6 p6 ⊢
          have hz4 := z4.lt
          clear hW6 f5 c5 z4 y5
          have u0 := y6.cell 0
          have u1 := y6.cell 1
          have u2 := y6.cell 2
          have u3 := y6.cell 3
          have u4 := y6.cell 4
          have u5 := y6.cell 5
          simp at u0 u1 u2 u3 u4 u5
          obtain ⟨qn, hqn⟩ : ∃ qn : Qp, qn = ⟨fin p d m k, A5, c5'⟩ := ⟨_, rfl⟩
          have hen : enc qn = [.bool p.com, .bool p.sec, .int .i64 p.ap, .int .i64 3, .int .i64 C, .slice A5 (E - I) c5'] := by rw [hqn]; unfold enc fin; rw [hL.out, ← hN.out, HI.out.2.2.1, HI.out.2.2.2.2.1, ← hpl]
          have hrel := xstep hO hD HI.out.2.2.2.2.2 b4 o5 bb2 p6 hpl.symm hqn hB.size hz4
          go_wp2_with (first
            | (at_builtin; refine wpList_row _ enc_ok is_packets (by decide) rfl (.tmp 71) (.tmp 73) rfl (base := w2.heap.size) (v := .slice A8 k c8) (m := qs) rfl (hrel.1.alloc _) (l := [qn]) rfl (n := 1) (A := some ⟨W6.heap.size, 0, none⟩) (c := 1) rfl (Row.Rs_new1 enc_ok W6 24 qn _ (by rw [hen])) (fun e => nomatch e) (by simp only [List.length_cons, List.length_nil]; have := HI.out.2.2.2.2.2; omega) (by have := hB.size; have := hrel.2.1.size; simp; omega) ?_; intro v8 W8 o8 g8 _; have hfin := hrel.2.2 _ _ _ o8 g8))
          go_round
          case measure => simp only [intOf]; omega
          case rel => exact ⟨k + 1, hkN, by rw [← HI.out.2.1]; rfl, qs ++ [qn], Lib.hid (by rw [List.map_append, hq.out, fins_next, hqn]; rfl), by rw [List.length_append, HI.out.2.2.2.2.2]; rfl, o8, hfin.1, hB.trans (hfin.2 _ (Nat.le_refl _) (fun i hi => hO.base_le i hi))⟩
        · skip
          have g2 : ((E : Int) == (L : Int)) = false := by simp; omega
          have g2' : (E == L) = false := by simp; omega
          have hF : flg k N = 1 := by unfold flg; rw [if_pos hk0, if_neg hkl0]; rfl
          have HI := Lib.hid (And.intro hI (And.intro hI2 (And.intro hF (And.intro hE (And.intro hC hql)))))
          clear hI hI2 hk0 hkl hkl0 hE hlt hql hC hct hF
          obtain ⟨W3, hW3⟩ : ∃ W3, W3 = wr.alloc (.cells #[.bool p.com, .bool p.sec, .int .i64 p.ap, .int .i64 1, .int .i64 p.ct, .slice a0 n0 c0] 24) := ⟨_, rfl⟩
          have y3 := Cel.new wr 24 #[.bool p.com, .bool p.sec, .int .i64 p.ap, .int .i64 1, .int .i64 p.ct, .slice a0 n0 c0]
          have b3 := bel_new wr (.cells #[.bool p.com, .bool p.sec, .int .i64 p.ap, .int .i64 1, .int .i64 p.ct, .slice a0 n0 c0] 24)
          rw [← hW3] at y3 b3
          go_upto_region 14 with fail
          rw [← hW3]
          clear hW3 q0 q1 q2 q3 q4 q5
          have z3 := Cel.later k3 b3
          have s4 := z3.cell 4
          have y4 := y3.cell 4
          have f4 := y3.free 4
          simp at s4 y4
          go_upto_region 15 with fail
          obtain ⟨W4, hW4⟩ : ∃ W4, W4 = W3.setCell ⟨wr.heap.size, 4, none⟩ (.int .i64 C) := ⟨_, rfl⟩
          have z4 := y3.put 4 (.int .i64 C)
          have b4 := b3.trans ((put_only W3 wr.heap.size 4 (.int .i64 C)).below b3.size (fun x hx => by obtain rfl := List.mem_singleton.1 hx; omega))
          rw [← hW4] at z4 b4
          simp at z4
          rw [← hW4]
          clear hW4 y3 b3 z3 s4 y4 f4
          have hIE : I ≤ E := by obtain ⟨_, _, _, h, _⟩ := HI.out; omega
          have hEc : E ≤ cap := by obtain ⟨_, _, _, h, _⟩ := HI.out; omega
          have hcI : ¬ cap = I := by omega
          obtain ⟨hpl, hps⟩ := xpiece_cut hL HI.out.1 HI.out.2.2.2.1 hd
          have oo1 := Ow_empty W4 W4.heap.size 5 (Nat.le_refl _)
          have bb1 := b4.trans ((bel_new W4 (.cells #[] 5)).mono b4.size)
          have bw1 := b03.trans (hB.mono b03.size) |>.trans (bb1.mono (b03.trans (hB.mono b03.size)).size)
          have hfit : ([] : List Byte).length + (piece d m k).length ≤ 140737488355328 := by rw [hpl]; simp; omega
          go_upto_region 16 with (first
            | (at_builtin; refine wpList_app _ is_bytes rfl (.tmp 64) (.tmp 68) rfl (m := []) rfl oo1 (l := piece d m k) (A := some ⟨b, off + I, none⟩) (c := cap - I) (by rw [hpl]; simp [Act.eval]) (hps.below bw1) (fun e => nomatch e) hfit (by simp) ?_; intro v5 W5 o5 g5; rw [List.nil_append] at o5; have bb2 := (bel_new W4 (.cells #[] 5)).grown g5 (by simp) (fun i hi => oo1.base_le i hi); obtain ⟨A5, c5', rfl, _⟩ := o5.reads_len (n := E - I) hpl; have y5 := Cel.later z4 bb2; have f5 := y5.free 5; have c5 := y5.cell 5; simp at c5))
          obtain ⟨W6, hW6⟩ : ∃ W6, W6 = W5.setCell ⟨wr.heap.size, 5, none⟩ (.slice A5 (E - I) c5') := ⟨_, rfl⟩
          have y6 := y5.put 5 (.slice A5 (E - I) c5')
          have p6 := put_only W5 wr.heap.size 5 (.slice A5 (E - I) c5')
          rw [← hW6] at y6 p6 ⊢
          have hz4 := z4.lt
          clear hW6 f5 c5 z4 y5
          have u0 := y6.cell 0
          have u1 := y6.cell 1
          have u2 := y6.cell 2
          have u3 := y6.cell 3
          have u4 := y6.cell 4
          have u5 := y6.cell 5
          simp at u0 u1 u2 u3 u4 u5
          obtain ⟨qn, hqn⟩ : ∃ qn : Qp, qn = ⟨fin p d m k, A5, c5'⟩ := ⟨_, rfl⟩
          have hen : enc qn = [.bool p.com, .bool p.sec, .int .i64 p.ap, .int .i64 1, .int .i64 C, .slice A5 (E - I) c5'] := by rw [hqn]; unfold enc fin; rw [hL.out, ← hN.out, HI.out.2.2.1, HI.out.2.2.2.2.1, ← hpl]
          have hrel := xstep hO hD HI.out.2.2.2.2.2 b4 o5 bb2 p6 hpl.symm hqn hB.size hz4
          go_wp2_with (first
            | (at_builtin; refine wpList_row _ enc_ok is_packets (by decide) rfl (.tmp 71) (.tmp 73) rfl (base := w2.heap.size) (v := .slice A8 k c8) (m := qs) rfl (hrel.1.alloc _) (l := [qn]) rfl (n := 1) (A := some ⟨W6.heap.size, 0, none⟩) (c := 1) rfl (Row.Rs_new1 enc_ok W6 24 qn _ (by rw [hen])) (fun e => nomatch e) (by simp only [List.length_cons, List.length_nil]; have := HI.out.2.2.2.2.2; omega) (by have := hB.size; have := hrel.2.1.size; simp; omega) ?_; intro v8 W8 o8 g8 _; have hfin := hrel.2.2 _ _ _ o8 g8))
          go_round
          case measure => simp only [intOf]; omega
          case rel => exact ⟨k + 1, hkN, by rw [← HI.out.2.1]; rfl, qs ++ [qn], Lib.hid (by rw [List.map_append, hq.out, fins_next, hqn]; rfl), by rw [List.length_append, HI.out.2.2.2.2.2]; rfl, o8, hfin.1, hB.trans (hfin.2 _ (Nat.le_refl _) (fun i hi => hO.base_le i hi))⟩
      · skip
        have g1 : ((I : Int) == 0) = false := by simp; rw [hI]; exact Nat.ne_of_gt (Nat.mul_pos (by omega) h1)
        have g1' : (I == 0) = false := by simp; rw [hI]; exact Nat.ne_of_gt (Nat.mul_pos (by omega) h1)
        by_cases hkl0 : k + 1 = N
        · skip
          have g2 : ((E : Int) == (L : Int)) = true := by simp; omega
          have g2' : (E == L) = true := by simp; omega
          have hF : flg k N = 2 := by unfold flg; rw [if_neg hk0, if_pos hkl0]; rfl
          have HI := Lib.hid (And.intro hI (And.intro hI2 (And.intro hF (And.intro hE (And.intro hC hql)))))
          clear hI hI2 hk0 hkl hkl0 hE hlt hql hC hct hF
          obtain ⟨W3, hW3⟩ : ∃ W3, W3 = wr.alloc (.cells #[.bool p.com, .bool p.sec, .int .i64 p.ap, .int .i64 2, .int .i64 p.ct, .slice a0 n0 c0] 24) := ⟨_, rfl⟩
          have y3 := Cel.new wr 24 #[.bool p.com, .bool p.sec, .int .i64 p.ap, .int .i64 2, .int .i64 p.ct, .slice a0 n0 c0]
          have b3 := bel_new wr (.cells #[.bool p.com, .bool p.sec, .int .i64 p.ap, .int .i64 2, .int .i64 p.ct, .slice a0 n0 c0] 24)
          rw [← hW3] at y3 b3
          go_upto_region 14 with fail
          rw [← hW3]
          clear hW3 q0 q1 q2 q3 q4 q5
          have z3 := Cel.later k3 b3
          have s4 := z3.cell 4
          have y4 := y3.cell 4
          have f4 := y3.free 4
          simp at s4 y4
          go_upto_region 15 with fail
          obtain ⟨W4, hW4⟩ : ∃ W4, W4 = W3.setCell ⟨wr.heap.size, 4, none⟩ (.int .i64 C) := ⟨_, rfl⟩
          have z4 := y3.put 4 (.int .i64 C)
          have b4 := b3.trans ((put_only W3 wr.heap.size 4 (.int .i64 C)).below b3.size (fun x hx => by obtain rfl := List.mem_singleton.1 hx; omega))
          rw [← hW4] at z4 b4
          simp at z4
          rw [← hW4]
          clear hW4 y3 b3 z3 s4 y4 f4
          have hIE : I ≤ E := by obtain ⟨_, _, _, h, _⟩ := HI.out; omega
          have hEc : E ≤ cap := by obtain ⟨_, _, _, h, _⟩ := HI.out; omega
          have hcI : ¬ cap = I := by omega
          obtain ⟨hpl, hps⟩ := xpiece_cut hL HI.out.1 HI.out.2.2.2.1 hd
          have oo1 := Ow_empty W4 W4.heap.size 5 (Nat.le_refl _)
          have bb1 := b4.trans ((bel_new W4 (.cells #[] 5)).mono b4.size)
          have bw1 := b03.trans (hB.mono b03.size) |>.trans (bb1.mono (b03.trans (hB.mono b03.size)).size)
          have hfit : ([] : List Byte).length + (piece d m k).length ≤ 140737488355328 := by rw [hpl]; simp; omega
          go_upto_region 16 with (first
            | (at_builtin; refine wpList_app _ is_bytes rfl (.tmp 64) (.tmp 68) rfl (m := []) rfl oo1 (l := piece d m k) (A := some ⟨b, off + I, none⟩) (c := cap - I) (by rw [hpl]; simp [Act.eval]) (hps.below bw1) (fun e => nomatch e) hfit (by simp) ?_; intro v5 W5 o5 g5; rw [List.nil_append] at o5; have bb2 := (bel_new W4 (.cells #[] 5)).grown g5 (by simp) (fun i hi => oo1.base_le i hi); obtain ⟨A5, c5', rfl, _⟩ := o5.reads_len (n := E - I) hpl; have y5 := Cel.later z4 bb2; have f5 := y5.free 5; have c5 := y5.cell 5; simp at c5))
          obtain ⟨W6, hW6⟩ : ∃ W6, W6 = W5.setCell ⟨wr.heap.size, 5, none⟩ (.slice A5 (E - I) c5') := ⟨_, rfl⟩
          have y6 := y5.put 5 (.slice A5 (E - I) c5')
          have p6 := put_only W5 wr.heap.size 5 (.slice A5 (E - I) c5')
          rw [← hW6] at y6 p6 ⊢
          have hz4 := z4.lt
          clear hW6 f5 c5 z4 y5
          have u0 := y6.cell 0
          have u1 := y6.cell 1
          have u2 := y6.cell 2
          have u3 := y6.cell 3
          have u4 := y6.cell 4
          have u5 := y6.cell 5
          simp at u0 u1 u2 u3 u4 u5
          obtain ⟨qn, hqn⟩ : ∃ qn : Qp, qn = ⟨fin p d m k, A5, c5'⟩ := ⟨_, rfl⟩
          have hen : enc qn = [.bool p.com, .bool p.sec, .int .i64 p.ap, .int .i64 2, .int .i64 C, .slice A5 (E - I) c5'] := by rw [hqn]; unfold enc fin; rw [hL.out, ← hN.out, HI.out.2.2.1, HI.out.2.2.2.2.1, ← hpl]
          have hrel := xstep hO hD HI.out.2.2.2.2.2 b4 o5 bb2 p6 hpl.symm hqn hB.size hz4
          go_wp2_with (first
            | (at_builtin; refine wpList_row _ enc_ok is_packets (by decide) rfl (.tmp 71) (.tmp 73) rfl (base := w2.heap.size) (v := .slice A8 k c8) (m := qs) rfl (hrel.1.alloc _) (l := [qn]) rfl (n := 1) (A := some ⟨W6.heap.size, 0, none⟩) (c := 1) rfl (Row.Rs_new1 enc_ok W6 24 qn _ (by rw [hen])) (fun e => nomatch e) (by simp only [List.length_cons, List.length_nil]; have := HI.out.2.2.2.2.2; omega) (by have := hB.size; have := hrel.2.1.size; simp; omega) ?_; intro v8 W8 o8 g8 _; have hfin := hrel.2.2 _ _ _ o8 g8))
          go_round
          case measure => simp only [intOf]; omega
          case rel => exact ⟨k + 1, hkN, by rw [← HI.out.2.1]; rfl, qs ++ [qn], Lib.hid (by rw [List.map_append, hq.out, fins_next, hqn]; rfl), by rw [List.length_append, HI.out.2.2.2.2.2]; rfl, o8, hfin.1, hB.trans (hfin.2 _ (Nat.le_refl _) (fun i hi => hO.base_le i hi))⟩
        · skip
          have g2 : ((E : Int) == (L : Int)) = false := by simp; omega
          have g2' : (E == L) = false := by simp; omega
          have hF : flg k N = 0 := by unfold flg; rw [if_neg hk0, if_neg hkl0]; rfl
          have HI := Lib.hid (And.intro hI (And.intro hI2 (And.intro hF (And.intro hE (And.intro hC hql)))))
          clear hI hI2 hk0 hkl hkl0 hE hlt hql hC hct hF
          obtain ⟨W3, hW3⟩ : ∃ W3, W3 = wr.alloc (.cells #[.bool p.com, .bool p.sec, .int .i64 p.ap, .int .i64 0, .int .i64 p.ct, .slice a0 n0 c0] 24) := ⟨_, rfl⟩
          have y3 := Cel.new wr 24 #[.bool p.com, .bool p.sec, .int .i64 p.ap, .int .i64 0, .int .i64 p.ct, .slice a0 n0 c0]
          have b3 := bel_new wr (.cells #[.bool p.com, .bool p.sec, .int .i64 p.ap, .int .i64 0, .int .i64 p.ct, .slice a0 n0 c0] 24)
          rw [← hW3] at y3 b3
          go_upto_region 14 with fail
          rw [← hW3]
          clear hW3 q0 q1 q2 q3 q4 q5
          have z3 := Cel.later k3 b3
          have s4 := z3.cell 4
          have y4 := y3.cell 4
          have f4 := y3.free 4
          simp at s4 y4
          go_upto_region 15 with fail
          obtain ⟨W4, hW4⟩ : ∃ W4, W4 = W3.setCell ⟨wr.heap.size, 4, none⟩ (.int .i64 C) := ⟨_, rfl⟩
          have z4 := y3.put 4 (.int .i64 C)
          have b4 := b3.trans ((put_only W3 wr.heap.size 4 (.int .i64 C)).below b3.size (fun x hx => by obtain rfl := List.mem_singleton.1 hx; omega))
          rw [← hW4] at z4 b4
          simp at z4
          rw [← hW4]
          clear hW4 y3 b3 z3 s4 y4 f4
          have hIE : I ≤ E := by obtain ⟨_, _, _, h, _⟩ := HI.out; omega
          have hEc : E ≤ cap := by obtain ⟨_, _, _, h, _⟩ := HI.out; omega
          have hcI : ¬ cap = I := by omega
          obtain ⟨hpl, hps⟩ := xpiece_cut hL HI.out.1 HI.out.2.2.2.1 hd
          have oo1 := Ow_empty W4 W4.heap.size 5 (Nat.le_refl _)
          have bb1 := b4.trans ((bel_new W4 (.cells #[] 5)).mono b4.size)
          have bw1 := b03.trans (hB.mono b03.size) |>.trans (bb1.mono (b03.trans (hB.mono b03.size)).size)
          have hfit : ([] : List Byte).length + (piece d m k).length ≤ 140737488355328 := by rw [hpl]; simp; omega
          go_upto_region 16 with (first
            | (at_builtin; refine wpList_app _ is_bytes rfl (.tmp 64) (.tmp 68) rfl (m := []) rfl oo1 (l := piece d m k) (A := some ⟨b, off + I, none⟩) (c := cap - I) (by rw [hpl]; simp [Act.eval]) (hps.below bw1) (fun e => nomatch e) hfit (by simp) ?_; intro v5 W5 o5 g5; rw [List.nil_append] at o5; have bb2 := (bel_new W4 (.cells #[] 5)).grown g5 (by simp) (fun i hi => oo1.base_le i hi); obtain ⟨A5, c5', rfl, _⟩ := o5.reads_len (n := E - I) hpl; have y5 := Cel.later z4 bb2; have f5 := y5.free 5; have c5 := y5.cell 5; simp at c5))
          obtain ⟨W6, hW6⟩ : ∃ W6, W6 = W5.setCell ⟨wr.heap.size, 5, none⟩ (.slice A5 (E - I) c5') := ⟨_, rfl⟩
          have y6 := y5.put 5 (.slice A5 (E - I) c5')
          have p6 := put_only W5 wr.heap.size 5 (.slice A5 (E - I) c5')
          rw [← hW6] at y6 p6 ⊢
          have hz4 := z4.lt
          clear hW6 f5 c5 z4 y5
          have u0 := y6.cell 0
          have u1 := y6.cell 1
          have u2 := y6.cell 2
          have u3 := y6.cell 3
          have u4 := y6.cell 4
          have u5 := y6.cell 5
          simp at u0 u1 u2 u3 u4 u5
          obtain ⟨qn, hqn⟩ : ∃ qn : Qp, qn = ⟨fin p d m k, A5, c5'⟩ := ⟨_, rfl⟩
          have hen : enc qn = [.bool p.com, .bool p.sec, .int .i64 p.ap, .int .i64 0, .int .i64 C, .slice A5 (E - I) c5'] := by rw [hqn]; unfold enc fin; rw [hL.out, ← hN.out, HI.out.2.2.1, HI.out.2.2.2.2.1, ← hpl]
          have hrel := xstep hO hD HI.out.2.2.2.2.2 b4 o5 bb2 p6 hpl.symm hqn hB.size hz4
          go_wp2_with (first
            | (at_builtin; refine wpList_row _ enc_ok is_packets (by decide) rfl (.tmp 71) (.tmp 73) rfl (base := w2.heap.size) (v := .slice A8 k c8) (m := qs) rfl (hrel.1.alloc _) (l := [qn]) rfl (n := 1) (A := some ⟨W6.heap.size, 0, none⟩) (c := 1) rfl (Row.Rs_new1 enc_ok W6 24 qn _ (by rw [hen])) (fun e => nomatch e) (by simp only [List.length_cons, List.length_nil]; have := HI.out.2.2.2.2.2; omega) (by have := hB.size; have := hrel.2.1.size; simp; omega) ?_; intro v8 W8 o8 g8 _; have hfin := hrel.2.2 _ _ _ o8 g8))
          go_round
          case measure => simp only [intOf]; omega
          case rel => exact ⟨k + 1, hkN, by rw [← HI.out.2.1]; rfl, qs ++ [qn], Lib.hid (by rw [List.map_append, hq.out, fins_next, hqn]; rfl), by rw [List.length_append, HI.out.2.2.2.2.2]; rfl, o8, hfin.1, hB.trans (hfin.2 _ (Nat.le_refl _) (fun i hi => hO.base_le i hi))⟩
    · have hkN : k = N := by have := num_end (L := L) h1 (by rw [← hN.out]; exact hk) (by rw [← hI]; exact hIL); rw [this, ← hN.out]
      obtain ⟨A8, c8, rfl, _⟩ := hO.reads_len enc_ok (hql.trans hkN)
      have hps := PS_of (l := spl p d m) hO (by rw [hq.out]; unfold spl fins; rw [hL.out, ← hN.out, hkN]) hD
      have HK := Lib.hid hkN
      clear hI hI2 hlt hkN
      go_wp2
      go_ret2
      exact ⟨A8, c8, rfl, hps, b03.trans (hB.mono b03.size)⟩
theorem xsplit_any (p : Pk) (a0 : Option Addr) (n0 c0 : Nat) (d : List Byte) (A : Option Addr) (cap : Nat) (most : Int) (w : World) (hd : Dt w w.heap.size d A cap) (h3 : d.length ≤ 1000000) :
    Calls Try.prog 11 #[.agg #[.bool p.com, .bool p.sec, .int .i64 p.ap, .int .i64 p.fl, .int .i64 p.ct, .slice a0 n0 c0], .slice A d.length cap, .int .i64 most] w fun e w' =>
      ∃ A' c, e = .returned (.tuple #[.slice A' (spP p d most).length c, .int .i64 (spE p d.length most)]) ∧ PS w' w'.heap.size A' (spP p d most) ∧ Below w.heap.size w w' := by
  unfold spP spE
  cases h : spOk p d.length most with
  | false =>
    refine (xsplit_no p.com p.sec p.ap p.fl p.ct a0 n0 c0 A d.length cap most w h).mono ?_
    rintro e w' ⟨rfl, hb⟩
    exact ⟨none, 0, rfl, PS.nil_, hb⟩
  | true =>
    obtain ⟨hp, hm1, hm2, h0⟩ := spOk_iff.1 h
    obtain ⟨m, rfl⟩ : ∃ m : Nat, most = (m : Int) := ⟨most.toNat, by omega⟩
    obtain ⟨b, off, rfl, _, _⟩ := hd.b h0
    rw [if_pos rfl, if_pos rfl, spl_len]
    refine (xsplit_ok p a0 n0 c0 d b off d.length cap m _ w (Lib.hid rfl) (Lib.hid rfl) h0 (by omega) (by omega) h3 hd.l (rng_iff.2 (by omega)) hd.b).mono ?_
    rintro e w' ⟨A', c, rfl, hps, hb⟩
    exact ⟨A', c, rfl, hps, hb⟩
end Go.Proofs.Ytfjmlgclgmcjcaa.Par
