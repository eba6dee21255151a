/-
  Package source, the laws: SourceOrder.
-/
import Derived.Test.YtaaikmncdgfkmaaLaw27c
import Derived.Deep.CutRange
namespace Go.Proofs.Ytaaikmncdgfkmaa.Src
open Go.RowKit
open Go.Proofs.Ytaaikmncdgfkmaa.Pdu (Pd Gx Bx Px)
open Go.Proofs.Ytaaikmncdgfkmaa.Fsm (ps)

/-- metadata sent, po bytes sent -/
def sP (po : Nat) : SS := ⟨1, false, 0, true, po, false, [], false, false, 0, 0, 0⟩
/-- the Eof sent -/
def sE (K : Kc) (po : Nat) : SS := if K.cl = 1 then ⟨5, false, 0, true, po, false, [], false, false, 0, 0, 0⟩ else ⟨2, false, 0, true, po, false, [], false, false, 0, 0, 0⟩
section
variable {K : Kc} {po : Nat}
theorem ord_m : nxO K (adv 0 ss0) = (K.mta, true) ∧ nxS K (adv 0 ss0) = sP 0 := by
  simp [adv, ss0, nxO, nxS, SS.opn, prP, prS, sP]
theorem ord_p (h : po < K.da.length) : nxO K (adv 0 (sP po)) = (K.pce po (nxe K (sP po)), true) ∧ nxS K (adv 0 (sP po)) = sP (nxe K (sP po)) := by
  have e : adv 0 (sP po) = sP po := by simp [adv, sP]
  rw [e]
  have h' : (sP po).po < K.da.length := h
  constructor
  · simp [nxO, sP, SS.opn, prP, h]
  · simp [nxS, sP, SS.opn, prS, h]
theorem ord_e (h : ¬ po < K.da.length) : nxO K (adv 0 (sP po)) = (K.eof 0, true) ∧ nxS K (adv 0 (sP po)) = sE K po := by
  have e : adv 0 (sP po) = sP po := by simp [adv, sP]
  rw [e]
  constructor
  · simp [nxO, sP, SS.opn, prP, h]
  · unfold sE
    split
    · rename_i hc
      simp [nxS, sP, SS.opn, prS, h, hc]
    · rename_i hc
      simp [nxS, sP, SS.opn, prS, h, hc]
theorem ord_n (hK : K.Ok) : nxO K (adv 0 (sE K po)) = (Pd.none, false) ∧ nxS K (adv 0 (sE K po)) = sE K po := by
  have h1 := hK.t0
  have h2 : (0 : Int) < K.tt := by omega
  unfold sE
  split
  · simp [adv, nxO, nxS, SS.opn]
  · simp [adv, nxO, nxS, SS.opn, rpO, rpS, h2]
theorem sta_E : sta (sE K po) = if K.cl = 1 then 4 else 2 := by
  unfold sE
  split <;> rfl
end
/-- data of an argument, part of it -/
theorem Bx.sub {w : World} {b off : Nat} {l : List Byte} {n c : Nat} (h : Bx w (some ⟨b, off, none⟩) l n c) (f m : Nat) (_hf : f ≤ n) : Bx w (some ⟨b, off + f, none⟩) ((l.drop f).take m) (min m (n - f)) (c - f) := by
  obtain ⟨hl, hb, hn, hle, hm⟩ := h
  refine ⟨by rw [List.length_take, List.length_drop, hl], fun hp => ?_, (fun h => nomatch h), by omega, by omega⟩
  obtain ⟨b', o', e, hlt, hc⟩ := hb (by rw [List.length_take, List.length_drop] at hp; omega)
  injection e with e
  injection e with e1 e2
  subst e1 e2
  refine ⟨b, off + f, rfl, hlt, fun i x hx => ?_⟩
  rw [List.getElem?_take] at hx
  split at hx
  · rw [List.getElem?_drop] at hx
    rw [Nat.add_assoc]
    exact hc _ _ hx
  · cases hx
theorem Sts.more {w : World} {B B' : Nat} {A : Option Addr} {l : List St27} (h : Sts w B A l) (hB : B ≤ B') : Sts w B' A l := fun k o ho => by
  obtain ⟨b, off, aA, nA, cA, aG, nG, cG, q⟩ := h k o ho
  exact ⟨b, off, aA, nA, cA, aG, nG, cG, ⟨q.e, Nat.lt_of_lt_of_le q.hb hB, q.c0, q.c1, q.c2, q.c3, q.c4, q.c5, q.c6, q.c7, q.c8, q.c9, q.c10, q.c11, q.c12, q.kb, q.sb, q.lA, q.rA.more hB, q.zA, q.mA, q.xA, q.lG, q.rG.more hB, q.zG, q.mG, q.xG⟩⟩
theorem Bx.part {w : World} {A : Option Addr} {l : List Byte} {n c : Nat} (h : Bx w A l n c) (f m : Nat) (hm : f + m ≤ n) (h0 : 0 < m) : Bx w (if c = f then A else Option.map (fun x => x.add f) A) ((l.drop f).take m) m (c - f) := by
  have hle := h.le
  rw [if_neg (by omega)]
  have hl := h.len
  obtain ⟨b, off, rfl, _, _⟩ := h.bs (by omega)
  have q := Bx.sub h f m (by omega)
  rw [Nat.min_eq_left (by omega)] at q
  have e : (⟨b, off, none⟩ : Addr).add f = ⟨b, off + f, none⟩ := add_plain'' b off f
  rw [Option.map_some, e]
  exact q
theorem wraps3 {E R' : Nat} (h : E ≤ 100000) (h' : R' ≤ 100000) : IntKind.i64.wrap (E : Int) = (E : Int) ∧ IntKind.i64.wrap (R' : Int) = (R' : Int) ∧ True := ⟨i64_in (by omega) (by omega), i64_in (by omega) (by omega), trivial⟩
theorem wrap_n {E : Nat} (h : E ≤ 100000) : wrap64 (E : Int) = (E : Int) := wr64 (by omega) (by omega)
theorem meas_lt {n k E : Nat} (h1 : k < E) (h2 : E ≤ n) (h3 : E ≤ 100000) : n - (intOf (.int .i64 (wrap64 (E : Int)))).toNat < n - (intOf (.int .i64 (k : Int))).toNat := by
  rw [wrap_n h3]
  simp only [intOf, Int.toNat_natCast]
  omega
theorem wr_i {x : Int} (h0 : 0 ≤ x) (h1 : x < 1000000) : IntKind.i64.wrap x = x := i64_in (by omega) (by omega)
set_option maxRecDepth 100000 in
set_option maxHeartbeats 8000000 in
theorem order_walk (sr nm cl : Int) (na da : List Byte) (ch tt rt : Int) (l : List St27) (A : Option Addr) (n a : Nat) (Sp : Option Addr) (L c : Nat) (w : World) (hd : Bx w A da n a) (hl : l.length = L) (hs : Sts w w.heap.size Sp l) :
    Calls Try.prog 4 #[.agg #[.int .i64 sr, .int .i64 nm, .int .i64 cl, .string (str na), .slice A n a, .int .i64 ch, .int .i64 tt, .int .i64 rt, .slice Sp L c]] w fun e w' => e = .returned (.bool true) ∧ Below w.heap.size w w' := by
  obtain ⟨W, hW, hq, hb, hsz⟩ := askbox w sr nm cl na A n a ch tt rt Sp L c
  have c0 := hq.c0
  have c1 := hq.c1
  have c2 := hq.c2
  have c3 := hq.c3
  have c4 := hq.c4
  have c5 := hq.c5
  have c6 := hq.c6
  have c7 := hq.c7
  have c8 := hq.c8
  have hsm := small_any sr nm cl na ch tt rt l A n a Sp L c W hl ((hs.below hb).more hb.size)
  have HH := Lib.hid (And.intro hd (And.intro hb (And.intro hq hsz)))
  clear hd hl hs hq hb hsz
  go_enter Try.func4, Try.ntmps4
  go_upto_region 1 with fail
  rw [← hW]
  clear hW
  go_wp2_with fail
  refine hsm.mono ?_
  rintro e w1 ⟨⟨b, rfl⟩, b1⟩
  clear hsm c0 c1 c2 c3 c4 c5 c6 c7 c8
  obtain ⟨hd, hb, hq, hsz⟩ := HH.out
  have B1 := hb.trans (b1.mono hb.size)
  have q1 := hq.below b1
  have d1 := hd.later B1
  have HD := Lib.hid hd
  clear HH hd hb hq b1
  cases b with
  | false =>
    have HB := Lib.hid B1
    clear B1 q1 d1
    go_wp2_with fail
    refine (lives_any _).mono ?_
    rintro e w2 ⟨rfl, b2⟩
    have HE := Lib.hid (HB.out.trans (b2.mono HB.out.size))
    clear b2
    go_wp2
    go_ret
    exact ⟨rfl, HE.out⟩
  | true =>
    have c0 := q1.c0
    have c1 := q1.c1
    have c2 := q1.c2
    have c3 := q1.c3
    have c4 := q1.c4
    have c5 := q1.c5
    have c6 := q1.c6
    have c7 := q1.c7
    cases hacc : Kc.acc (⟨sr, nm, cl, na, da, ch, tt, rt⟩ : Kc) with
    | false =>
      have hnw := snew_no sr nm cl na da ch tt rt A n a w1 d1 hacc
      have HB := Lib.hid B1
      clear B1 q1 d1 hacc
      go_wp2_with fail
      refine hnw.mono ?_
      rintro e w2 ⟨rfl, b2⟩
      clear hnw c0 c1 c2 c3 c4 c5 c6 c7
      go_wp2_with fail
      refine (lives_any _).mono ?_
      rintro e w3 ⟨rfl, b3⟩
      have b23 := b2.trans (b3.mono b2.size)
      have HE := Lib.hid (HB.out.trans (b23.mono HB.out.size))
      clear b2 b3 b23
      go_wp2
      go_ret
      exact ⟨rfl, HE.out⟩
    | true =>
      have hnw := snew_ok sr nm cl na da ch tt rt A n a w1 d1 hacc
      have hK := Kc.acc_ok hacc
      have HB := Lib.hid B1
      clear hacc
      go_wp2_with fail
      refine hnw.mono ?_
      rintro e w2 ⟨⟨g, rfl, hg, f2⟩, b2⟩
      clear hnw c0 c1 c2 c3 c4 c5 c6 c7
      have P : PO w2 g (⟨sr, nm, cl, na, da, ch, tt, rt⟩ : Kc) ss0 := ⟨f2, hK, ss0_ok hK⟩
      have B2 := HB.out.trans (b2.mono HB.out.size)
      have hgw : w.heap.size ≤ g := Nat.le_trans HB.out.size hg
      have q2 := q1.below b2
      have hln := d1.len
      have hqg : w.heap.size ≠ g := by have := q1.cel.lt; omega
      have hnx := P.next 0 1 sr nm cl na (da.length : Int) 0 [] 0 0 0 true (ord_m (K := (⟨sr, nm, cl, na, da, ch, tt, rt⟩ : Kc))).1 (ord_m (K := (⟨sr, nm, cl, na, da, ch, tt, rt⟩ : Kc))).2 rfl
      clear B1 q1 d1 HB f2 b2 hg
      rw [hln] at hnx
      go_wp2_with fail
      refine hnx.mono ?_
      rintro e w3 ⟨A1, a1, rfl, y3, P3, o3⟩
      clear hnx
      have B3 := only_bel B2 o3 hgw
      have q3 : QB w3 w.heap.size sr nm cl na A n a ch tt rt Sp L c := ⟨q2.cel.only o3 (by simpa using hqg)⟩
      obtain ⟨W4, hW4⟩ : ∃ W4, W4 = w3.alloc (.cells #[.int .i64 1, .int .i64 sr, .int .i64 nm, .int .i64 cl, .string (str na), .int .i64 (n : Int), .int .i64 0, .slice A1 0 a1, .int .u32 0, .int .i64 0, .slice none 0 0] 45) := ⟨_, rfl⟩
      have b4 : Below w3.heap.size w3 W4 := by rw [hW4]; exact bel_new _ _
      have u4 : Cel W4 w3.heap.size 45 #[.int .i64 1, .int .i64 sr, .int .i64 nm, .int .i64 cl, .string (str na), .int .i64 (n : Int), .int .i64 0, .slice A1 0 a1, .int .u32 0, .int .i64 0, .slice none 0 0] := by rw [hW4]; exact Cel.new _ _ _
      have P4 := P3.below b4
      have q4 := q3.below b4
      have B4 := B3.trans (b4.mono B3.size)
      have c0 := q4.c0
      have c1 := q4.c1
      have c2 := q4.c2
      have c3 := q4.c3
      have c4 := q4.c4
      have e0 := u4.cell 0
      have e1 := u4.cell 1
      have e2 := u4.cell 2
      have e3 := u4.cell 3
      have e4 := u4.cell 4
      have e5 := u4.cell 5
      have z1 : (sr == sr) = true := by simp
      have z2 : (nm == nm) = true := by simp
      have z3 : (cl != cl) = false := by simp
      have z4 : ((n : Int) != (n : Int)) = false := by simp
      have z5 : ((str na).toList == (str na).toList) = true := by simp
      have HP := Lib.hid (And.intro P4 (And.intro q4 (And.intro B4 (And.intro hK (And.intro hln (And.intro hgw hqg))))))
      clear P P3 P4 q2 q3 q4 B2 B3 B4 b4 u4 y3 o3 hK hln hgw hqg
      go_upto_region 7 with fail
      rw [← hW4]
      clear hW4
      go_wp2_with fail
      clear z1 z2 z3 z4 z5 e0 e1 e2 e3 e4 e5 c0 c1 c2 c3
      go_loopw [7] (fun i wr => ∃ k : Nat, k ≤ n ∧ i = .int .i64 k ∧ PO wr g (⟨sr, nm, cl, na, da, ch, tt, rt⟩ : Kc) (sP k) ∧ QB wr w.heap.size sr nm cl na A n a ch tt rt Sp L c ∧ Below w.heap.size w wr)
        (fun i _ => n - (intOf i).toNat)
      case atStart => exact ⟨0, Nat.zero_le _, rfl, HP.out.1, HP.out.2.1, HP.out.2.2.1⟩
      case round =>
        obtain ⟨k, hk, rfl, P5, q5, B5⟩ := hrel
        obtain ⟨_, _, _, hK, hln, hgw, hqg⟩ := HP.out
        have HI := Lib.hid (And.intro hK (And.intro hln (And.intro hgw hqg)))
        clear c4
        have c4 := q5.c4
        by_cases hlt : k < n
        · have hor := ord_p (K := (⟨sr, nm, cl, na, da, ch, tt, rt⟩ : Kc)) (po := k) (by show k < da.length; omega)
          obtain ⟨E, hE⟩ : ∃ E, nxe (⟨sr, nm, cl, na, da, ch, tt, rt⟩ : Kc) (sP k) = E := ⟨_, rfl⟩
          rw [hE] at hor
          have hEv : E = min (k + ch.toNat) n := by rw [← hE, ← hln]; rfl
          have hc0 := hK.h0
          have hc1 := hK.h1
          have hD := hK.d
          dsimp only at hc0 hc1 hD
          obtain ⟨m, hm⟩ : ∃ m, E - k = m := ⟨_, rfl⟩
          have hkE : k < E := by omega
          have hEn : E ≤ n := by omega
          have hm0 : 0 < m := by omega
          obtain ⟨T, hT⟩ : ∃ T, (da.drop k).take m = T := ⟨_, rfl⟩
          have hTl : T.length = m := by rw [← hT, List.length_take_of_le (by rw [List.length_drop]; omega)]
          have hO : nxO (⟨sr, nm, cl, na, da, ch, tt, rt⟩ : Kc) (adv 0 (sP k)) = (⟨2, sr, nm, 0, [], 0, (k : Int), T, 0, 0, []⟩, true) := by rw [hor.1, ← hT, ← hm]; rfl
          have hnx := P5.next 0 2 sr nm 0 [] 0 (k : Int) T 0 0 m true hO hor.2 hTl
          have d5 := HD.out.later B5
          have hda := d5.le
          have hpt := Bx.part d5 k m (by omega) hm0
          rw [hT] at hpt
          obtain ⟨A3, hA3⟩ : ∃ A3, (if a = k then A else Option.map (fun x => x.add k) A) = A3 := ⟨_, rfl⟩
          obtain ⟨cc, hcc⟩ : ∃ cc, a - k = cc := ⟨_, rfl⟩
          rw [hA3, hcc] at hpt
          have HT := Lib.hid (And.intro hT (And.intro hA3 hcc))
          have hlt' : (k : Int) < (n : Int) := by omega
          have HB := Lib.hid (And.intro B5 (And.intro q5 hpt))
          have HN := Lib.hid (And.intro hm (And.intro hkE (And.intro hEn (And.intro hm0 (And.intro hEv (And.intro hc0 (And.intro hc1 (And.intro hD (And.intro hda hlt)))))))))
          clear P5 q5 B5 d5 hda hpt hEv hor hE hK hln hgw hqg hO hT hA3 hcc hTl hm hkE hEn hm0 hc0 hc1 hD hlt
          go_wp2_with fail
          refine hnx.mono ?_
          rintro e w6 ⟨A6, a6, rfl, y6, P6, o6⟩
          clear hnx c4 hlt'
          obtain ⟨hK, hln, hgw, hqg⟩ := HI.out
          obtain ⟨B5, q5, hpt⟩ := HB.out
          have B6 := only_bel B5 o6 hgw
          have q6 : QB w6 w.heap.size sr nm cl na A n a ch tt rt Sp L c := ⟨q5.cel.only o6 (by simpa using hqg)⟩
          obtain ⟨W7, hW7⟩ : ∃ W7, W7 = w6.alloc (.cells #[.int .i64 2, .int .i64 sr, .int .i64 nm, .int .i64 0, .string (str []), .int .i64 0, .int .i64 (k : Int), .slice A6 m a6, .int .u32 0, .int .i64 0, .slice none 0 0] 45) := ⟨_, rfl⟩
          have b7 : Below w6.heap.size w6 W7 := by rw [hW7]; exact bel_new _ _
          have u7 : Cel W7 w6.heap.size 45 #[.int .i64 2, .int .i64 sr, .int .i64 nm, .int .i64 0, .string (str []), .int .i64 0, .int .i64 (k : Int), .slice A6 m a6, .int .u32 0, .int .i64 0, .slice none 0 0] := by rw [hW7]; exact Cel.new _ _ _
          have P7 := P6.below b7
          have q7 := q6.below b7
          have B7 := B6.trans (b7.mono B6.size)
          have y7 := y6.below b7
          have d7 := HD.out.later B7
          have hT' := HT.out.1
          have hA3' := HT.out.2.1
          have hcc' := HT.out.2.2
          obtain ⟨hm, hkE, hEn, hm0, hEv, hc0, hc1, hD, hda, hlt⟩ := HN.out
          have hpt7 := Bx.part d7 k m (by omega) hm0
          have hul := u7.lt
          have hql := q7.cel.lt
          have r0 : ∀ p : Later W7, p.W.cell? ⟨w6.heap.size, 0, none⟩ = some (.int .i64 2) := later_cell (u7.cell 0) hul
          have r6 : ∀ p : Later W7, p.W.cell? ⟨w6.heap.size, 6, none⟩ = some (.int .i64 (k : Int)) := later_cell (u7.cell 6) hul
          have r7 : ∀ p : Later W7, p.W.cell? ⟨w6.heap.size, 7, none⟩ = some (.slice A6 m a6) := later_cell (u7.cell 7) hul
          have s4 : ∀ p : Later W7, p.W.cell? ⟨w.heap.size, 4, none⟩ = some (.slice A n a) := later_cell q7.c4 hql
          have s5 : ∀ p : Later W7, p.W.cell? ⟨w.heap.size, 5, none⟩ = some (.int .i64 ch) := later_cell q7.c5 hql
          rw [hT', hA3', hcc'] at hpt7
          have v1 : ∀ p : Later W7, (convert 24 9 (.slice A6 m a6)).run Try.prog p.W = .ok (.string (str T)) p.W := fun p => y7.bx.conv p.h
          have v2 : ∀ p : Later W7, (convert 24 9 (.slice A3 m cc)).run Try.prog p.W = .ok (.string (str T)) p.W := fun p => hpt7.conv p.h
          obtain ⟨R', hR⟩ : ∃ R', n - k = R' := ⟨_, rfl⟩
          have t0 : (n : Int) - (k : Int) = (R' : Int) := by omega
          have t1 : min ch (R' : Int) = (m : Int) := by omega
          have t1' : (if (R' : Int) < ch then (R' : Int) else ch) = (m : Int) := by split <;> omega
          have t2 : (k : Int) + (m : Int) = (E : Int) := by omega
          have t3 : E - k = m := hm
          have t4 : ((k : Int) != (k : Int)) = false := by simp
          have t5 : ((m : Int) != (m : Int)) = false := by simp
          have t6 : ((str T).toList == (str T).toList) = true := by simp
          have t7 : ((m : Int) == 0) = false := by simp; omega
          have t8 : E ≤ a := by omega
          have hA4 : Option.map (fun x => x.add k) A = A3 := by rw [← hA3', if_neg (by omega)]
          have t9 : k ≤ E := by omega
          have HKE := Lib.hid hkE
          have hEn' : Hid (E ≤ n ∧ E ≤ 100000 ∧ R' ≤ 100000) := Lib.hid ⟨hEn, by omega, by omega⟩
          have HB7 := Lib.hid (And.intro P7 (And.intro q7 (And.intro B7 (And.intro u7 y7))))
          clear P6 y6 o6 P7 q7 B7 u7 y7 d7 hpt7 hpt hK hln hgw hqg B5 q5 B6 q6 b7 hul hql hm hkE hEn hm0 hEv hc0 hc1 hD hda HI HB HN hR
          have m1 : ¬ m = 0 := by simpa using t7
          obtain ⟨w1', w2', w3'⟩ := wraps3 hEn'.out.2.1 hEn'.out.2.2
          go_upto_region 12 with fail
          rw [← hW7]
          clear hW7
          refine wp_region_later (by kernel_rfl) (by kernel_rfl) ?_
          repeat (go_big_quiet_step (fail))
          refine wpQuiet_nil ?_
          rintro _ ⟨⟨w8, b8⟩, rfl⟩
          obtain ⟨P7, q7, B7, u7, y7⟩ := HB7.out
          have P8 := P7.below b8
          have q8 := q7.below b8
          have B8 := B7.trans (b8.mono B7.size)
          have u8 := Cel.on u7 b8
          have d7 := u8.cell 7
          have HR := Lib.hid (And.intro P8 (And.intro q8 B8))
          clear r0 r6 r7 s4 s5 v1 v2 t0 t1 t1' t3 t4 t5 t6 t7 t8 t9 hA4 hA3' hcc' hT' m1 w1' w2' w3' P7 q7 B7 u7 y7 P8 q8 B8 u8 b8 HB7 HT
          go_wp2
          go_roundw
          case rel => exact ⟨E, hEn'.out.1, by rw [wrap_n hEn'.out.2.1], HR.out.1, HR.out.2.1, HR.out.2.2⟩
          case measure => exact meas_lt HKE.out hEn'.out.1 hEn'.out.2.1
        · have hkn : k = n := by omega
          subst hkn
          have hor := ord_e (K := (⟨sr, nm, cl, na, da, ch, tt, rt⟩ : Kc)) (po := k) (by show ¬ k < da.length; omega)
          have hon := ord_n (K := (⟨sr, nm, cl, na, da, ch, tt, rt⟩ : Kc)) (po := k) hK
          obtain ⟨P, hP⟩ : ∃ P, P = (ps 0 da).toNat := ⟨_, rfl⟩
          have hO : nxO (⟨sr, nm, cl, na, da, ch, tt, rt⟩ : Kc) (adv 0 (sP k)) = (⟨3, sr, nm, cl, [], (k : Int), 0, [], P, 0, []⟩, true) := by rw [hor.1, hP, ← hln]; rfl
          have hnx := P5.next 0 3 sr nm cl [] (k : Int) 0 [] P 0 0 true hO hor.2 rfl
          have hDl := hK.d
          have HB := Lib.hid (And.intro B5 (And.intro q5 (And.intro hon (And.intro hP hDl))))
          have hlt' : ¬ (k : Int) < (k : Int) := by omega
          clear P5 q5 B5 hor hon hO hP hK hln hgw hqg hk hlt hDl
          go_wp2_with fail
          refine hnx.mono ?_
          rintro e w6 ⟨A6, a6, rfl, y6, P6, o6⟩
          clear hnx c4 hlt'
          obtain ⟨hK, hln, hgw, hqg⟩ := HI.out
          obtain ⟨B5, q5, hon, hP, hDl⟩ := HB.out
          have B6 := only_bel B5 o6 hgw
          have q6 : QB w6 w.heap.size sr nm cl na A k a ch tt rt Sp L c := ⟨q5.cel.only o6 (by simpa using hqg)⟩
          obtain ⟨W7, hW7⟩ : ∃ W7, W7 = w6.alloc (.cells #[.int .i64 3, .int .i64 sr, .int .i64 nm, .int .i64 cl, .string (str []), .int .i64 (k : Int), .int .i64 0, .slice A6 0 a6, .int .u32 (P : Int), .int .i64 0, .slice none 0 0] 45) := ⟨_, rfl⟩
          have b7 : Below w6.heap.size w6 W7 := by rw [hW7]; exact bel_new _ _
          have u7 : Cel W7 w6.heap.size 45 #[.int .i64 3, .int .i64 sr, .int .i64 nm, .int .i64 cl, .string (str []), .int .i64 (k : Int), .int .i64 0, .slice A6 0 a6, .int .u32 (P : Int), .int .i64 0, .slice none 0 0] := by rw [hW7]; exact Cel.new _ _ _
          have P7 := P6.below b7
          have q7 := q6.below b7
          have B7 := B6.trans (b7.mono B6.size)
          have d7 := HD.out.later B7
          have hul := u7.lt
          have hql := q7.cel.lt
          have r0 : ∀ p : Later W7, p.W.cell? ⟨w6.heap.size, 0, none⟩ = some (.int .i64 3) := later_cell (u7.cell 0) hul
          have r3 : ∀ p : Later W7, p.W.cell? ⟨w6.heap.size, 3, none⟩ = some (.int .i64 cl) := later_cell (u7.cell 3) hul
          have r5 : ∀ p : Later W7, p.W.cell? ⟨w6.heap.size, 5, none⟩ = some (.int .i64 (k : Int)) := later_cell (u7.cell 5) hul
          have r8 : ∀ p : Later W7, p.W.cell? ⟨w6.heap.size, 8, none⟩ = some (.int .u32 (P : Int)) := later_cell (u7.cell 8) hul
          have r9 : ∀ p : Later W7, p.W.cell? ⟨w6.heap.size, 9, none⟩ = some (.int .i64 0) := later_cell (u7.cell 9) hul
          have s4 : ∀ p : Later W7, p.W.cell? ⟨w.heap.size, 4, none⟩ = some (.slice A k a) := later_cell q7.c4 hql
          have s2 : ∀ p : Later W7, p.W.cell? ⟨w.heap.size, 2, none⟩ = some (.int .i64 cl) := later_cell q7.c2 hql
          have hsum : ∀ p : Later W7, Calls Try.prog 14 #[.slice A k a] p.W fun e w' => e = .returned (.int .u32 (P : Int)) ∧ p.W = w' := fun p => by
            rw [hP]
            exact Fsm.sum_any A da k a p.W.heap.size p.W (Lib.hid hln) ((d7.later p.h).bs) (by rw [← hln]; exact Nat.le_trans hDl (by decide))
          have t4 : ((k : Int) != (k : Int)) = false := by simp
          have t5 : (cl != cl) = false := by simp
          have t6 : ((P : Int) != (P : Int)) = false := by simp
          have HB7 := Lib.hid (And.intro P7 (And.intro q7 (And.intro B7 (And.intro hon hK))))
          clear P6 y6 o6 P7 q7 B7 u7 d7 hK hln hgw B5 q5 hon hP B6 q6 b7 hul hql HB hDl
          go_upto_region 16 with fail
          rw [← hW7]
          clear hW7
          refine wp_region_later (by kernel_rfl) (by kernel_rfl) ?_
          repeat (go_big_quiet_step ((go_at_call 14; exact later_same (hsum _))))
          refine wpQuiet_nil ?_
          rintro _ ⟨⟨w8, b8⟩, rfl⟩
          obtain ⟨P7, q7, B7, hon, hK⟩ := HB7.out
          have P8 := P7.below b8
          have q8 := q7.below b8
          have B8 := B7.trans (b8.mono B7.size)
          have hnx := P8.next 0 0 0 0 0 [] 0 0 [] 0 0 0 false hon.1 hon.2 rfl
          have HR := Lib.hid (And.intro q8 (And.intro B8 (And.intro hK hqg)))
          clear r0 r3 r5 r8 r9 s4 s2 hsum t4 t5 t6 P7 q7 B7 P8 q8 B8 b8 HB7 hon hK hqg
          go_wp2_with fail
          refine hnx.mono ?_
          rintro e w9 ⟨A9, a9, rfl, y9, P9, o9⟩
          clear hnx
          obtain ⟨q8, B8, hK, hqg⟩ := HR.out
          have B9 := only_bel B8 o9 HI.out.2.2.1
          have q9 : QB w9 w.heap.size sr nm cl na A k a ch tt rt Sp L c := ⟨q8.cel.only o9 (by simpa using hqg)⟩
          obtain ⟨Wa, hWa⟩ : ∃ Wa, Wa = w9.alloc (.cells #[.int .i64 0, .int .i64 0, .int .i64 0, .int .i64 0, .string (str []), .int .i64 0, .int .i64 0, .slice A9 0 a9, .int .u32 0, .int .i64 0, .slice none 0 0] 45) := ⟨_, rfl⟩
          have ba : Below w9.heap.size w9 Wa := by rw [hWa]; exact bel_new _ _
          have Pa := P9.below ba
          have qa := q9.below ba
          have Ba := B9.trans (ba.mono B9.size)
          have hqla := qa.cel.lt
          have s2 : ∀ p : Later Wa, p.W.cell? ⟨w.heap.size, 2, none⟩ = some (.int .i64 cl) := later_cell qa.c2 hqla
          obtain ⟨V, hV⟩ : ∃ V, sta (sE (⟨sr, nm, cl, na, da, ch, tt, rt⟩ : Kc) k) = V := ⟨_, rfl⟩
          have hcl : cl = 1 ∨ cl = 2 := hK.c
          have hVe := hV
          rw [sta_E] at hVe
          have t1 : ((V == 4) == (cl == 1)) = true := by
            rcases hcl with h | h <;> subst h <;> rw [← hVe] <;> rfl
          have t2 : ((V == 2) == (cl == 2)) = true := by
            rcases hcl with h | h <;> subst h <;> rw [← hVe] <;> rfl
          have hst : ∀ p : Later Wa, Calls Try.prog 10 #[.pointer (some ⟨g, 0, none⟩)] p.W fun e w' => e = .returned (.int .i64 V) ∧ p.W = w' := fun p => by
            rw [← hV]
            exact sstate_any (Pa.f.below p.h) Pa.o.p1
          have HZ := Lib.hid Ba
          clear q8 B8 hK hqg B9 q9 ba Pa qa Ba P9 y9 o9 hqla hV hVe hcl HR
          go_upto_region 19 with fail
          rw [← hWa]
          clear hWa
          refine wp_region_later (by kernel_rfl) (by kernel_rfl) ?_
          repeat (go_big_quiet_step ((first
            | (go_at_call 10; exact later_same (hst _))
            | (go_at_call 7; exact later_of (lives_any _)))))
          refine wpQuiet_nil ?_
          rintro _ ⟨⟨wz, bz⟩, rfl⟩
          have HY := Lib.hid (HZ.out.trans (bz.mono HZ.out.size))
          clear bz s2 hst t1 t2
          go_wp2
          go_ret
          exact ⟨rfl, HY.out⟩
end Go.Proofs.Ytaaikmncdgfkmaa.Src
