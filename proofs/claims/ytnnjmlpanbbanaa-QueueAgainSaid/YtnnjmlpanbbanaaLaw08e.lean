/-
  Layer 8's law QueueAgain.
-/
import Derived.Test.YtnnjmlpanbbanaaLaw08a
import Derived.Test.YtnnjmlpanbbanaaQueMath2
namespace Go.Proofs.Ytnnjmlpanbbanaa.Rng.Que
open Go.RowKit Go.Shelf Ints

theorem getD_at2 {l : List Int} {k : Nat} (h : k < l.length) : l.getD k 0 = l[k] := by simp [h]
theorem On_grown {w w' : World} {base : Nat} {e : TypeId} {v : Value} {l : List Int} {o : Obj} {row : Option Nat} (h : On w base e v l) (k : (w.alloc o).grownBy w' row) (hne : ∀ i, v.ownBlock = some i → row ≠ some i) : On w' base e v l :=
  (h.alloc o).only (Only.of_grown k) (fun i hi hm => hne i hi (by simpa using hm))

theorem dis_a {w : World} {B N : Nat} {e : TypeId} {va vb v2 : Value} {l : List Int} (h : ∀ i, va.ownBlock = some i → vb.ownBlock ≠ some i) (o : On w B e vb l) (h2 : v2.ownBlock = va.ownBlock ∨ v2.ownBlock = some N) (hN : w.heap.size ≤ N) :
    ∀ i, v2.ownBlock = some i → vb.ownBlock ≠ some i := fun i hi e => by
  rcases h2 with h3 | h3
  · exact h i (by rw [← h3]; exact hi) e
  · have := (o.lt i e).2
    rw [h3] at hi
    injection hi with hi
    omega
theorem dis_b {w : World} {B N : Nat} {e : TypeId} {va vb v2 : Value} {l : List Int} (h : ∀ i, va.ownBlock = some i → vb.ownBlock ≠ some i) (o : On w B e va l) (h2 : v2.ownBlock = vb.ownBlock ∨ v2.ownBlock = some N) (hN : w.heap.size ≤ N) :
    ∀ i, va.ownBlock = some i → v2.ownBlock ≠ some i := fun i hi e => by
  rcases h2 with h3 | h3
  · exact h i hi (by rw [← h3]; exact e)
  · have := (o.lt i hi).2
    rw [h3] at e
    injection e with e
    omega

set_option maxHeartbeats 4000000 in
set_option maxRecDepth 100000 in
theorem queueAgain_walk (at_ : BitVec 8) (l : List Int) (w : World) (A : Option Addr) (c : Nat) (hl : Ns w w.heap.size A l) :
    Calls Try.prog 6 #[.slice A l.length c, .int .u8 at_.toNat] w fun e w' => e = .returned (.bool true) ∧ Below w.heap.size w w' := by
  obtain ⟨n, hn⟩ : ∃ n, n = l.length := ⟨_, rfl⟩
  rw [← hn]
  obtain ⟨a, ha⟩ : ∃ a, a = at_.toNat := ⟨_, rfl⟩
  have ha2 : a < 256 := by rw [ha]; exact at_.isLt
  rw [← ha]
  clear ha
  by_cases hbig : 100 < n
  · have hal := alive_any w
    have t1 : decide ((100 : Int) < (n : Int)) = true := by simp; omega
    have t2 : decide (100 < n) = true := by simpa using hbig
    clear hl hn hbig
    go_enter Try.func6, Try.ntmps6
    go_wp2_with (go_at_call 8; refine hal.mono ?_; rintro e w3 ⟨rfl, b3⟩)
    go_ret
    exact ⟨rfl, b3⟩
  by_cases hzero : n = 0
  · have hal := alive_any w
    subst hzero
    clear hl hn hbig
    go_enter Try.func6, Try.ntmps6
    go_wp2_with (go_at_call 8; refine hal.mono ?_; rintro e w3 ⟨rfl, b3⟩)
    go_ret
    exact ⟨rfl, b3⟩
  have t1 : decide ((100 : Int) < (n : Int)) = false := by simp; omega
  have t2 : decide (100 < n) = false := by simpa using hbig
  have t3 : ((n : Int) == 0) = false := by simp; omega
  have t4 : ¬ (n : Int) = 0 := by omega
  have hn1 : n ≤ 100 := by omega
  have hnew := At.new 100 w
  rw [show capOf 100 = 100 by decide] at hnew
  obtain ⟨g, hg⟩ : ∃ g, g = w.heap.size := ⟨_, rfl⟩
  have HN := Lib.hid hn
  rw [← hg] at hnew hl ⊢
  obtain ⟨x, hx0⟩ : ∃ x, x = a % n := ⟨_, rfl⟩
  have hxn : x < n := by rw [hx0]; exact Nat.mod_lt _ (by omega)
  have hxm : (a : Int).tmod (n : Int) = (x : Int) := by rw [Int.tmod_eq_emod_of_nonneg (by omega), hx0]; omega
  clear hg hn hbig hx0
  go_enter Try.func6, Try.ntmps6
  go_wp2_with fail
  refine hnew.mono ?_
  rintro e w1 ⟨rfl, q1⟩
  clear hnew
  go_wp2_with fail
  go_loopw [6] (fun i wr => ∃ k : Nat, k ≤ n ∧ i = .int .i64 k ∧ At w wr g g 100 (stk l k)) (fun i _ => n - (intOf i).toNat)
  case atStart => exact ⟨0, Nat.zero_le _, rfl, q1⟩
  case round =>
    obtain ⟨k, hk, rfl, q⟩ := hrel
    by_cases hlt : k < n
    · have hkl : k < l.length := by have := HN.out; omega
      obtain ⟨b, off, rfl, hbw, hc1⟩ := (hl.below q.b).at_ hkl
      have hp := push_next (cap := 100) (getD_at2 hkl) (by omega)
      have hpush := q.push l[k] k hp.1 hp.2
      generalize l[k] = p at hc1 hpush
      clear hp hkl q1 q hl
      go_wp2_with fail
      refine hpush.mono ?_
      rintro e w2 ⟨rfl, q2, _⟩
      go_wp2_with fail
      go_roundw
      case rel => exact ⟨k + 1, hlt, by simp, q2⟩
      case measure => simp [intOf]; omega
    · obtain rfl : k = n := by omega
      have hitems := q.items (I' := itm (stk l k)) (n := k) rfl (by rw [itm_length, stk_length])
      have hxl : x < l.length := by have := HN.out; omega
      obtain ⟨S1, hS1⟩ : ∃ S1, S1 = rm (x : Int) (stk l k) := ⟨_, rfl⟩
      obtain ⟨S2, hS2⟩ : ∃ S2, S2 = ins (l.getD x 0, (x : Int)) (rm (x : Int) (stk l k)) := ⟨_, rfl⟩
      have m1 : hasI (x : Int) (stk l k) = true := stk_has hxn
      have m2 : hasI (x : Int) S1 = false := by rw [hS1]; exact rm_nod_has (stk_nod l k)
      have m3 : S1.length + 1 = k := by rw [hS1, rm_length m1, stk_length]
      have m4 : pushE 100 (l.getD x 0, (x : Int)) S1 = 0 := by
        have : ¬ 100 ≤ S1.length := by omega
        simp only [pushE, m2]; simp [this]
      have m5 : pushed 100 (l.getD x 0, (x : Int)) S1 = S2 := by
        have : ¬ 100 ≤ S1.length := by omega
        simp only [pushed, m2]
        rw [if_neg (by simp), if_neg this, hS1, hS2]
      have m6 : (itm S2).length = k := by rw [itm_length, hS2, ins_length, rm_length m1, stk_length]
      have e1 : Hid ((itm S2).filter (fun a => a != (x : Int)) = (itm (stk l k)).filter (fun a => a != (x : Int))) := Lib.hid (by rw [hS2]; exact again_eq)
      have e2 : Hid (∀ (i : Nat) (y : R), S2[i]? = some y → ∃ j, j < k ∧ y = (l.getD j 0, (j : Int))) := Lib.hid fun i y h => by rw [hS2] at h; exact again_at hxn h
      have e3 : Hid (∀ (i : Nat) (y : R), S2[i]? = some y → (x : Int) ∈ (itm S2).take i → l.getD x 0 < y.1) := Lib.hid fun i y h h2 => by rw [hS2] at h h2; exact again_behind h h2
      have e4 : Hid ((x : Int) ∈ itm S2) := Lib.hid (by rw [hS2]; exact again_in)
      have hM1 := Lib.hid m1
      have hS1' := Lib.hid hS1.symm
      have hk1 : (itm (stk l k)).length = k := by rw [itm_length, stk_length]
      clear hlt hk q1 m1 m2 m3 hS1 hS2
      go_wp2_with fail
      refine hitems.mono ?_
      rintro e w2 ⟨A5, c5, rfl, i5, n5, q2, _⟩
      clear hitems q
      have p1 := q2.remove (x : Int) hM1.out hS1'.out
      go_wp2_with fail
      refine p1.mono ?_
      rintro e w3 ⟨rfl, q3, k3⟩
      have i5b := On_kp i5 k3
      have hlw := hl.below q3.b
      obtain ⟨b, off, rfl, hbw, hc1⟩ := hlw.at_ hxl
      rw [← getD_at2 hxl] at hc1
      have p2 := q3.push (l.getD x 0) (x : Int) m4 m5
      obtain ⟨lx, hlx⟩ : ∃ lx, lx = l.getD x 0 := ⟨_, rfl⟩
      rw [← hlx] at p2 hc1
      have HLX := Lib.hid hlx
      clear p1 q2 i5 n5 m4 m5 hlx
      go_wp2_with fail
      refine p2.mono ?_
      rintro e w4 ⟨rfl, q4, k4⟩
      have i5c := On_kp i5b k4
      clear p2 q3 k3 i5b hlw hc1
      go_wp2_with fail
      refine (q4.items (I' := itm S2) (n := k) rfl m6).mono ?_
      rintro e w5 ⟨A6, c6, rfl, i6, n6, q5, k5⟩
      have hbef : Ns w5 w5.heap.size A5 (itm (stk l k)) := On_ns (i5c.below k5)
      have haft : Ns w5 w5.heap.size A6 (itm S2) := On_ns i6
      have hlw : Ns w5 w5.heap.size (some ⟨b, off, none⟩) l := (hl.below q5.b).more q5.s
      have hb5 := q5.b
      have hs5 := q5.s
      have hz : ((k : Int) != (k : Int)) = false := by simp
      clear i5c i6 n6 q4 k4 k5 hl q5
      obtain ⟨B2, hB2⟩ : ∃ B2, B2 = w5.heap.size := ⟨_, rfl⟩
      have HB2 := Lib.hid hB2
      rw [← hB2] at hbef haft hlw hs5
      clear hB2
      go_wp2_with fail
      go_loopw [10, 11, 12, 13, 14] (fun va vb bh ok i wr => ∃ k' : Nat, k' ≤ k ∧ i = .int .i64 k' ∧ ok = .bool true ∧ Below B2 w5 wr ∧ B2 ≤ wr.heap.size ∧ (∃ d : Bool, bh = .bool d ∧ Hid (d = decide ((x : Int) ∈ (itm S2).take k'))) ∧
        (∃ la : List Int, la.length ≤ k' ∧ On wr B2 3 va la ∧ Hid (la = ((itm (stk l k)).take k').filter (fun a => a != (x : Int)))) ∧ (∃ lb : List Int, lb.length ≤ k' ∧ On wr B2 3 vb lb ∧ Hid (lb = ((itm S2).take k').filter (fun a => a != (x : Int)))) ∧
        (∀ i, va.ownBlock = some i → vb.ownBlock ≠ some i)) (fun _ _ _ _ i _ => k - (intOf i).toNat)
      case atStart => exact ⟨0, Nat.zero_le _, rfl, rfl, Below.refl _ _, by rw [HB2.out]; exact Nat.le_refl _, ⟨false, rfl, Lib.hid (by simp)⟩, ⟨[], by simp, On.nil_ _ _ _, Lib.hid (by simp)⟩, ⟨[], by simp, On.nil_ _ _ _, Lib.hid (by simp)⟩, fun i h => by simp [Value.ownBlock] at h⟩
      case round =>
        obtain ⟨k', hk', rfl, rfl, hbel, hsB, ⟨d, rfl, hd⟩, ⟨la, hla, oa, ela⟩, ⟨lb, hlb, ob, elb⟩, hdis⟩ := hrel
        by_cases hlt : k' < k
        · have hka : k' < (itm (stk l k)).length := by omega
          have hkb : k' < (itm S2).length := by omega
          obtain ⟨b5, o5, rfl, hbb5, hc5⟩ := (hbef.below hbel).at_ hka
          obtain ⟨b6, o6, rfl, hbb6, hc6⟩ := (haft.below hbel).at_ hkb
          have g5 : Hid ((itm (stk l k))[k']? = some (itm (stk l k))[k']) := Lib.hid (List.getElem?_eq_getElem hka)
          have hkS : k' < S2.length := by rw [← itm_length]; exact hkb
          obtain ⟨j, hj, hy⟩ := e2.out k' S2[k'] (List.getElem?_eq_getElem hkS)
          have hy2 : S2[k']? = some (l.getD j 0, (j : Int)) := by rw [List.getElem?_eq_getElem hkS, hy]
          have hbe := e3.out k' _ hy2
          have g6' : (itm S2)[k']? = some (j : Int) := itm_at hy2
          have g6 : Hid ((itm S2)[k']? = some (j : Int)) := Lib.hid g6'
          rw [List.getElem?_eq_getElem hkb] at g6'
          rw [Option.some.inj g6'] at hc6
          generalize (itm (stk l k))[k'] = p at hc5 g5
          have hjl : j < l.length := by have := HN.out; omega
          obtain ⟨b7, o7, he7, hbb7, hc7⟩ := (hlw.below hbel).at_ hjl
          cases he7
          obtain ⟨b8, o8, he8, hbb8, hc8⟩ := (hlw.below hbel).at_ hxl
          cases he8
          rw [← getD_at2 hjl] at hc7
          rw [← getD_at2 hxl, ← HLX.out] at hc8
          rw [← HLX.out] at hbe
          generalize hlj : l.getD j 0 = lj at hc7 hbe
          have hst : Hid (decide ((x : Int) ∈ (itm S2).take (k' + 1)) = (d || decide ((x : Int) = (j : Int)))) := Lib.hid (by
            rw [hd.out, List.take_add_one, g6.out]
            simp [Bool.decide_or])
          have hbe2 : Hid (d = true → lx < lj) := Lib.hid fun h => hbe (by rw [hd.out] at h; exact of_decide_eq_true h)
          have sa := filter_step (fun a => a != (x : Int)) g5.out
          have sb := filter_step (fun a => a != (x : Int)) g6.out
          rw [← ela.out] at sa
          rw [← elb.out] at sb
          clear hka hkb hkS hy hy2 hbe g6' hlj hjl g5 g6 ela elb hd
          have hla2 : la.length ≤ 100 := by omega
          have hlb2 : lb.length ≤ 100 := by omega
          by_cases hpx : p = (x : Int)
          · subst hpx
            have hzp : ((x : Int) != (x : Int)) = false := by simp
            by_cases hjx : (j : Int) = (x : Int)
            · obtain rfl : j = x := by omega
              have hzj : ((j : Int) != (j : Int)) = false := by simp
              go_wp2_with fail
              go_roundw
              case rel => exact ⟨k' + 1, hlt, by simp, rfl, hbel, hsB, ⟨true, rfl, Lib.hid (by rw [hst.out]; simp)⟩, ⟨la, by omega, oa, Lib.hid (by rw [sa]; simp)⟩, ⟨lb, by omega, ob, Lib.hid (by rw [sb]; simp)⟩, hdis⟩
              case measure => simp [intOf]; omega
            · have hzj : ((j : Int) != (x : Int)) = true := by simpa using hjx
              have hf1 : decide ((0 : Int) ≤ (j : Int)) = true := by simp
              have hf2 : decide ((j : Int) < (k : Int)) = true := by simp; omega
              have hf3 : decide (j < k) = true := by simp; omega
              cases d with
              | false =>
                go_wp2_with (first
                  | (at_builtin; refine wpList_iapp _ is_ints rfl (.tmp 98) (.tmp 103) rfl rfl (ob.alloc _) (l := [(j : Int)]) rfl rfl (Ns_new1 _ _ _) (by simp) (by simp; omega) (by simp; omega) ?_; intro vb2 w7 ob2 gb hvb; have bel7 : Below B2 w5 w7 := (hbel.alloc hsB _).grown gb (by simp; omega) (fun i hi => by have := ob.base_le i hi; omega); have sz7 := gb.size; simp at sz7; have oa7 := On_grown oa gb (fun i hi e => hdis i hi e); have hdis7 := dis_b hdis oa hvb (by simp); have hc6c : w7.cell? ⟨b6, o6 + k', none⟩ = some (Ints.I j) := (bel7.cell (p := ⟨b6, o6 + k', none⟩) hbb6).trans ((hbel.cell (p := ⟨b6, o6 + k', none⟩) hbb6).symm.trans hc6); have hc7c : w7.cell? ⟨b, off + j, none⟩ = some (Ints.I lj) := (bel7.cell (p := ⟨b, off + j, none⟩) hbb7).trans ((hbel.cell (p := ⟨b, off + j, none⟩) hbb7).symm.trans hc7); have hc8c : w7.cell? ⟨b, off + x, none⟩ = some (Ints.I lx) := (bel7.cell (p := ⟨b, off + x, none⟩) hbb7).trans ((hbel.cell (p := ⟨b, off + x, none⟩) hbb7).symm.trans hc8)))
                go_quiet (fail)
                clear hf1 hf2 hf3
                go_wp2_with fail
                go_roundw
                case rel => exact ⟨k' + 1, hlt, by simp, (by first | rfl | simp), bel_draws bel7 _, (by show B2 ≤ w7.heap.size; omega), ⟨false, rfl, Lib.hid (by rw [hst.out]; simp; try omega)⟩, ⟨la, by omega, On.draws oa7 _, Lib.hid (by rw [sa]; simp)⟩, ⟨lb ++ [(j : Int)], by simp; omega, On.draws ob2 _, Lib.hid (by rw [sb]; simp [hjx])⟩, hdis7⟩
                case measure => simp [intOf]; omega
              | true =>
                have hf4 : decide (lx < lj) = true := by simpa using hbe2.out rfl
                go_wp2_with (first
                  | (at_builtin; refine wpList_iapp _ is_ints rfl (.tmp 98) (.tmp 103) rfl rfl (ob.alloc _) (l := [(j : Int)]) rfl rfl (Ns_new1 _ _ _) (by simp) (by simp; omega) (by simp; omega) ?_; intro vb2 w7 ob2 gb hvb; have bel7 : Below B2 w5 w7 := (hbel.alloc hsB _).grown gb (by simp; omega) (fun i hi => by have := ob.base_le i hi; omega); have sz7 := gb.size; simp at sz7; have oa7 := On_grown oa gb (fun i hi e => hdis i hi e); have hdis7 := dis_b hdis oa hvb (by simp); have hc6c : w7.cell? ⟨b6, o6 + k', none⟩ = some (Ints.I j) := (bel7.cell (p := ⟨b6, o6 + k', none⟩) hbb6).trans ((hbel.cell (p := ⟨b6, o6 + k', none⟩) hbb6).symm.trans hc6); have hc7c : w7.cell? ⟨b, off + j, none⟩ = some (Ints.I lj) := (bel7.cell (p := ⟨b, off + j, none⟩) hbb7).trans ((hbel.cell (p := ⟨b, off + j, none⟩) hbb7).symm.trans hc7); have hc8c : w7.cell? ⟨b, off + x, none⟩ = some (Ints.I lx) := (bel7.cell (p := ⟨b, off + x, none⟩) hbb7).trans ((hbel.cell (p := ⟨b, off + x, none⟩) hbb7).symm.trans hc8)))
                go_quiet (fail)
                clear hf1 hf2 hf3 hf4
                go_wp2_with fail
                go_roundw
                case rel => exact ⟨k' + 1, hlt, by simp, (by first | rfl | simp), bel_draws bel7 _, (by show B2 ≤ w7.heap.size; omega), ⟨true, rfl, Lib.hid (by rw [hst.out]; simp; try omega)⟩, ⟨la, by omega, On.draws oa7 _, Lib.hid (by rw [sa]; simp)⟩, ⟨lb ++ [(j : Int)], by simp; omega, On.draws ob2 _, Lib.hid (by rw [sb]; simp [hjx])⟩, hdis7⟩
                case measure => simp [intOf]; omega
          · have hzp : (p != (x : Int)) = true := by simpa using hpx
            by_cases hjx : (j : Int) = (x : Int)
            · obtain rfl : j = x := by omega
              have hzj : ((j : Int) != (j : Int)) = false := by simp
              go_wp2_with (first
                | (at_builtin; refine wpList_iapp _ is_ints rfl (.tmp 85) (.tmp 90) rfl rfl (oa.alloc _) (l := [p]) rfl rfl (Ns_new1 _ _ _) (by simp) (by simp; omega) (by simp; omega) ?_; intro va2 w6 oa2 ga hva; have bel6 : Below B2 w5 w6 := (hbel.alloc hsB _).grown ga (by simp; omega) (fun i hi => by have := oa.base_le i hi; omega); have sz6 := ga.size; simp at sz6; have ob6 := On_grown ob ga (fun i hi e => hdis i e hi); have hdis6 := dis_a hdis ob hva (by simp); have hc6b : w6.cell? ⟨b6, o6 + k', none⟩ = some (Ints.I j) := (bel6.cell (p := ⟨b6, o6 + k', none⟩) hbb6).trans ((hbel.cell (p := ⟨b6, o6 + k', none⟩) hbb6).symm.trans hc6); have hc7b : w6.cell? ⟨b, off + j, none⟩ = some (Ints.I lj) := (bel6.cell (p := ⟨b, off + j, none⟩) hbb7).trans ((hbel.cell (p := ⟨b, off + j, none⟩) hbb7).symm.trans hc7); have hc8b : w6.cell? ⟨b, off + j, none⟩ = some (Ints.I lx) := (bel6.cell (p := ⟨b, off + j, none⟩) hbb7).trans ((hbel.cell (p := ⟨b, off + j, none⟩) hbb7).symm.trans hc8)))
              go_roundw
              case rel => exact ⟨k' + 1, hlt, by simp, rfl, bel6, (by omega), ⟨true, rfl, Lib.hid (by rw [hst.out]; simp)⟩, ⟨la ++ [p], by simp; omega, oa2, Lib.hid (by rw [sa]; simp [hpx])⟩, ⟨lb, by omega, ob6, Lib.hid (by rw [sb]; simp)⟩, hdis6⟩
              case measure => simp [intOf]; omega
            · have hzj : ((j : Int) != (x : Int)) = true := by simpa using hjx
              have hf1 : decide ((0 : Int) ≤ (j : Int)) = true := by simp
              have hf2 : decide ((j : Int) < (k : Int)) = true := by simp; omega
              have hf3 : decide (j < k) = true := by simp; omega
              cases d with
              | false =>
                go_wp2_with (first
                  | (at_builtin; refine wpList_iapp _ is_ints rfl (.tmp 85) (.tmp 90) rfl rfl (oa.alloc _) (l := [p]) rfl rfl (Ns_new1 _ _ _) (by simp) (by simp; omega) (by simp; omega) ?_; intro va2 w6 oa2 ga hva; have bel6 : Below B2 w5 w6 := (hbel.alloc hsB _).grown ga (by simp; omega) (fun i hi => by have := oa.base_le i hi; omega); have sz6 := ga.size; simp at sz6; have ob6 := On_grown ob ga (fun i hi e => hdis i e hi); have hdis6 := dis_a hdis ob hva (by simp); have hc6b : w6.cell? ⟨b6, o6 + k', none⟩ = some (Ints.I j) := (bel6.cell (p := ⟨b6, o6 + k', none⟩) hbb6).trans ((hbel.cell (p := ⟨b6, o6 + k', none⟩) hbb6).symm.trans hc6); have hc7b : w6.cell? ⟨b, off + j, none⟩ = some (Ints.I lj) := (bel6.cell (p := ⟨b, off + j, none⟩) hbb7).trans ((hbel.cell (p := ⟨b, off + j, none⟩) hbb7).symm.trans hc7); have hc8b : w6.cell? ⟨b, off + x, none⟩ = some (Ints.I lx) := (bel6.cell (p := ⟨b, off + x, none⟩) hbb7).trans ((hbel.cell (p := ⟨b, off + x, none⟩) hbb7).symm.trans hc8))
                  | (at_builtin; refine wpList_iapp _ is_ints rfl (.tmp 98) (.tmp 103) rfl rfl (ob6.alloc _) (l := [(j : Int)]) rfl rfl (Ns_new1 _ _ _) (by simp) (by simp; omega) (by simp; omega) ?_; intro vb2 w7 ob2 gb hvb; have bel7 : Below B2 w5 w7 := (bel6.alloc (Nat.le_trans hsB (Nat.le_of_succ_le sz6)) _).grown gb (by simp; omega) (fun i hi => by have := ob6.base_le i hi; omega); have sz7 := gb.size; simp at sz7; have oa7 := On_grown oa2 gb (fun i hi e => hdis6 i hi e); have hdis7 := dis_b hdis6 oa2 hvb (by simp); have hc6c : w7.cell? ⟨b6, o6 + k', none⟩ = some (Ints.I j) := (bel7.cell (p := ⟨b6, o6 + k', none⟩) hbb6).trans ((hbel.cell (p := ⟨b6, o6 + k', none⟩) hbb6).symm.trans hc6); have hc7c : w7.cell? ⟨b, off + j, none⟩ = some (Ints.I lj) := (bel7.cell (p := ⟨b, off + j, none⟩) hbb7).trans ((hbel.cell (p := ⟨b, off + j, none⟩) hbb7).symm.trans hc7); have hc8c : w7.cell? ⟨b, off + x, none⟩ = some (Ints.I lx) := (bel7.cell (p := ⟨b, off + x, none⟩) hbb7).trans ((hbel.cell (p := ⟨b, off + x, none⟩) hbb7).symm.trans hc8)))
                go_quiet (fail)
                clear hf1 hf2 hf3
                go_wp2_with fail
                go_roundw
                case rel => exact ⟨k' + 1, hlt, by simp, (by first | rfl | simp), bel_draws bel7 _, (by show B2 ≤ w7.heap.size; omega), ⟨false, rfl, Lib.hid (by rw [hst.out]; simp; try omega)⟩, ⟨la ++ [p], by simp; omega, On.draws oa7 _, Lib.hid (by rw [sa]; simp [hpx])⟩, ⟨lb ++ [(j : Int)], by simp; omega, On.draws ob2 _, Lib.hid (by rw [sb]; simp [hjx])⟩, hdis7⟩
                case measure => simp [intOf]; omega
              | true =>
                have hf4 : decide (lx < lj) = true := by simpa using hbe2.out rfl
                go_wp2_with (first
                  | (at_builtin; refine wpList_iapp _ is_ints rfl (.tmp 85) (.tmp 90) rfl rfl (oa.alloc _) (l := [p]) rfl rfl (Ns_new1 _ _ _) (by simp) (by simp; omega) (by simp; omega) ?_; intro va2 w6 oa2 ga hva; have bel6 : Below B2 w5 w6 := (hbel.alloc hsB _).grown ga (by simp; omega) (fun i hi => by have := oa.base_le i hi; omega); have sz6 := ga.size; simp at sz6; have ob6 := On_grown ob ga (fun i hi e => hdis i e hi); have hdis6 := dis_a hdis ob hva (by simp); have hc6b : w6.cell? ⟨b6, o6 + k', none⟩ = some (Ints.I j) := (bel6.cell (p := ⟨b6, o6 + k', none⟩) hbb6).trans ((hbel.cell (p := ⟨b6, o6 + k', none⟩) hbb6).symm.trans hc6); have hc7b : w6.cell? ⟨b, off + j, none⟩ = some (Ints.I lj) := (bel6.cell (p := ⟨b, off + j, none⟩) hbb7).trans ((hbel.cell (p := ⟨b, off + j, none⟩) hbb7).symm.trans hc7); have hc8b : w6.cell? ⟨b, off + x, none⟩ = some (Ints.I lx) := (bel6.cell (p := ⟨b, off + x, none⟩) hbb7).trans ((hbel.cell (p := ⟨b, off + x, none⟩) hbb7).symm.trans hc8))
                  | (at_builtin; refine wpList_iapp _ is_ints rfl (.tmp 98) (.tmp 103) rfl rfl (ob6.alloc _) (l := [(j : Int)]) rfl rfl (Ns_new1 _ _ _) (by simp) (by simp; omega) (by simp; omega) ?_; intro vb2 w7 ob2 gb hvb; have bel7 : Below B2 w5 w7 := (bel6.alloc (Nat.le_trans hsB (Nat.le_of_succ_le sz6)) _).grown gb (by simp; omega) (fun i hi => by have := ob6.base_le i hi; omega); have sz7 := gb.size; simp at sz7; have oa7 := On_grown oa2 gb (fun i hi e => hdis6 i hi e); have hdis7 := dis_b hdis6 oa2 hvb (by simp); have hc6c : w7.cell? ⟨b6, o6 + k', none⟩ = some (Ints.I j) := (bel7.cell (p := ⟨b6, o6 + k', none⟩) hbb6).trans ((hbel.cell (p := ⟨b6, o6 + k', none⟩) hbb6).symm.trans hc6); have hc7c : w7.cell? ⟨b, off + j, none⟩ = some (Ints.I lj) := (bel7.cell (p := ⟨b, off + j, none⟩) hbb7).trans ((hbel.cell (p := ⟨b, off + j, none⟩) hbb7).symm.trans hc7); have hc8c : w7.cell? ⟨b, off + x, none⟩ = some (Ints.I lx) := (bel7.cell (p := ⟨b, off + x, none⟩) hbb7).trans ((hbel.cell (p := ⟨b, off + x, none⟩) hbb7).symm.trans hc8)))
                go_quiet (fail)
                clear hf1 hf2 hf3 hf4
                go_wp2_with fail
                go_roundw
                case rel => exact ⟨k' + 1, hlt, by simp, (by first | rfl | simp), bel_draws bel7 _, (by show B2 ≤ w7.heap.size; omega), ⟨true, rfl, Lib.hid (by rw [hst.out]; simp; try omega)⟩, ⟨la ++ [p], by simp; omega, On.draws oa7 _, Lib.hid (by rw [sa]; simp [hpx])⟩, ⟨lb ++ [(j : Int)], by simp; omega, On.draws ob2 _, Lib.hid (by rw [sb]; simp [hjx])⟩, hdis7⟩
                case measure => simp [intOf]; omega
        · obtain rfl : k' = k := by omega
          rw [List.take_of_length_le (by omega)] at hd ela elb
          have hd2 : d = true := by rw [hd.out]; exact decide_eq_true e4.out
          have hlab : lb = la := by rw [ela.out, elb.out]; exact e1.out
          subst hd2 hlab
          obtain ⟨Aa, ca, rfl, na, _, _, _⟩ := oa.reads
          obtain ⟨Ab, cb, rfl, nb, _, _, _⟩ := ob.reads
          have hints := rints_any _ _ wr Aa Ab ca cb na nb (by omega)
          rw [decide_eq_true rfl] at hints
          clear hd ela elb hdis na nb oa ob hlt
          go_wp2_with fail
          refine hints.mono ?_
          rintro e w8 ⟨rfl, b8⟩
          go_wp2_with fail
          refine (alive_any _).mono ?_
          rintro e w9 ⟨rfl, b9⟩
          go_wp2_with fail
          go_ret
          exact ⟨rfl, hb5.trans ((hbel.trans ((b8.mono hsB).trans (b9.mono (Nat.le_trans hsB b8.size)))).mono hs5)⟩
end Go.Proofs.Ytnnjmlpanbbanaa.Rng.Que
