/-
  The reference of layer 26: Put.
-/
import Derived.Test.YtbeekfbcflmemaaRef26b
namespace Go.Proofs.Ytbeekfbcflmemaa.Fil
open Go.RowKit Go.Proofs.Ytbeekfbcflmemaa.Row
open Lst (Qb Dt)

theorem deS_l {s : St} (h : s.Ok) (x : Nm) : (deS s x).l = del x s.l := by
  unfold deS
  split
  · rfl
  · rename_i h0
    unfold geE at h0
    cases h1 : okN x with
    | false => exact (del_same (get_names h h1)).symm
    | true =>
      rw [h1] at h0
      cases h2 : get x s.l with
      | none => exact (del_same h2).symm
      | some d => rw [h2] at h0; simp at h0
/-- what Put leaves where it fails, and where it does not -/
theorem puS_no {s : St} {x : Nm} {d : List Byte} {E : Nat} (h : puE s x d = E) (hE : E ≠ 0) : puS s x d = s := by unfold puS; rw [h, if_neg hE]
theorem puS_ok {s : St} {x : Nm} {d : List Byte} (h : puE s x d = 0) : (puS s x d).l = put x d s.l := by unfold puS; rw [if_pos h]

/-- the box of s, the box of the result: behind whatever call -/
structure Bx2 (w W : World) (a b c : Value) : Prop where
  x : Cel W w.heap.size 28 #[a, b, c]
  y : Cel W (w.heap.size + 1) 28 #[I 0, I 0, .slice none 0 0]
  b : Below w.heap.size w W
theorem Bx2.new (w : World) (a b c : Value) : Bx2 w ((w.alloc (.cells #[a, b, c] 28)).alloc (.cells #[I 0, I 0, .slice none 0 0] 28)) a b c :=
  ⟨Cel.on (Cel.new w _ _) (bel_new _ _), by
    have := Cel.new (w.alloc (.cells #[a, b, c] 28)) 28 #[I 0, I 0, .slice none 0 0]
    simpa using this, (bel_new _ _).alloc (by simp) _⟩
theorem Bx2.later {w W W' : World} {a b c : Value} (h : Bx2 w W a b c) (k : Below W.heap.size W W') : Bx2 w W' a b c := ⟨Cel.on h.x k, Cel.on h.y k, h.b.trans (k.mono h.b.size)⟩
theorem Bx2.sz {w W : World} {a b c : Value} (h : Bx2 w W a b c) : w.heap.size + 2 ≤ W.heap.size := h.y.lt
/-- the argument handed back -/
theorem Bx2.back {w W : World} {a b : Value} {A : Option Addr} {n c : Nat} {L : List F} (h : Bx2 w W a b (.slice A n c)) (H : RX w A n c L) :
    Cel (put3 W (w.heap.size + 1) a b (.slice A n c)) (w.heap.size + 1) 28 #[a, b, .slice A n c] ∧ RX (put3 W (w.heap.size + 1) a b (.slice A n c)) A n c L ∧ Below w.heap.size w (put3 W (w.heap.size + 1) a b (.slice A n c)) := by
  have hon := put3_only W (w.heap.size + 1) a b (.slice A n c)
  exact ⟨put3_cel h.y _ _ _, (H.later h.b).keep (box_kq h.y hon), h.b.trans (hon.below h.b.size (by simp))⟩

theorem Ow.past {w w' : World} {base base2 k : Nat} {e e2 : TypeId} {v v2 : Value} {l : List Byte} {α : Type} {enc : α → List Value} {L2 : List α} (h : Ow w base e v l) (h2 : Row.Os enc k w base2 e2 v2 L2) (he : e ≠ e2) (g : w.grownBy w' v2.ownBlock) : Ow w' base e v l :=
  h.only (Only.of_grown g) (fun i hi hm => by
    obtain ⟨cs, hc⟩ := own_cel h hi
    obtain ⟨cs2, hc2⟩ := Lst.own_cel h2 (i := i) (by simpa using hm)
    exact hc.apart hc2 he rfl)
theorem put_lst {FA FB : List T} {x : Nm} {d : List Byte} {DA : Option Addr} {dc : Nat} {DL : List F} (h : lst (FA ++ [(x, ⟨d, DA, dc⟩)] ++ FB) = DL) (A : Option Addr) (c : Nat) : lst ([] ++ FA ++ [(x, ⟨d, A, c⟩)] ++ FB) = DL := by
  rw [← h]; simp [lst]
theorem put_len {FA FB : List T} {k q : Nat} (h1 : FA.length = k) (h2 : FB.length = q) (p : T) : ([] ++ FA ++ [p] ++ FB).length = k + 1 + q := by simp; omega
theorem put_dq {w7 w11 : World} {Q FA FB : List T} {k : Nat} {p : T} (h : ∀ p ∈ Q, Dq w7 p.2.l p.2.a p.2.c) (h1 : FA = Q.take k) (h2 : FB = Q.drop k) (b : Below w7.heap.size w7 w11) (hp : Dq w11 p.2.l p.2.a p.2.c) : ∀ r ∈ [] ++ FA ++ [p] ++ FB, Dq w11 r.2.l r.2.a r.2.c := fun r hr => by
  simp only [List.nil_append, List.append_assoc, List.mem_append, List.mem_cons, List.not_mem_nil, or_false] at hr
  rcases hr with hr | rfl | hr
  · exact (h r (List.mem_of_mem_take (by rw [← h1]; exact hr))).later b
  · exact hp
  · exact (h r (List.mem_of_mem_drop (by rw [← h2]; exact hr))).later b
/-- the box of t: its slice is stored, it is stored whole into the result -/
theorem put_fin {w W : World} {a b c t0 t1 t2 : Value} {tb : Nat} {A6 : Option Addr} {n6 c6 : Nat} {L : List F} (h : RX W A6 n6 c6 L) (q : Bx2 w W a b c) (ht : w.heap.size + 2 ≤ tb) (z : Cel W tb 28 #[t0, t1, t2]) :
    Cel (put3 (W.setCell ⟨tb, 2, none⟩ (.slice A6 n6 c6)) (w.heap.size + 1) t0 t1 (.slice A6 n6 c6)) (w.heap.size + 1) 28 #[t0, t1, .slice A6 n6 c6] ∧ RX (put3 (W.setCell ⟨tb, 2, none⟩ (.slice A6 n6 c6)) (w.heap.size + 1) t0 t1 (.slice A6 n6 c6)) A6 n6 c6 L ∧
    Below w.heap.size w (put3 (W.setCell ⟨tb, 2, none⟩ (.slice A6 n6 c6)) (w.heap.size + 1) t0 t1 (.slice A6 n6 c6)) := by
  have h1 := set_only W tb 2 (.slice A6 n6 c6)
  have y7 := q.y.only h1 (by simp; omega)
  have h2 := put3_only (W.setCell ⟨tb, 2, none⟩ (.slice A6 n6 c6)) (w.heap.size + 1) t0 t1 (.slice A6 n6 c6)
  have hb7 := q.b.trans (h1.below q.b.size (by simp; omega))
  exact ⟨put3_cel y7 _ _ _, (h.keep (box_kq z h1)).keep (box_kq y7 h2), hb7.trans (h2.below hb7.size (by simp))⟩

set_option maxHeartbeats 2000000 in
theorem rput_any (w : World) (A : Option Addr) (n c : Nat) (s : St) (h : RX w A n c s.l) (hok : s.Ok) (x : Nm) (d : List Byte) (m : Nat) (DA : Option Addr) (dc : Nat) (hl : Hid (d.length = m)) (hd : Dt w w.heap.size d DA dc) (hm : m ≤ 1000000) :
    Calls Try.prog 11 #[.agg #[I (s.most : Int), I (s.room : Int), .slice A n c], .string (nm x), .slice DA m dc] w fun e w' => ∃ A2 n2 c2, e = .returned (.tuple #[.agg #[I (s.most : Int), I (s.room : Int), .slice A2 n2 c2], I (puE s x d : Int)]) ∧ RX w' A2 n2 c2 (puS s x d).l ∧ Below w.heap.size w w' := by
  have hn : n ≤ 256 := by rw [← h.len]; have := hok.cnt; have := hok.m; omega
  have hna := fun W => rname_any x x.length W (Lib.hid rfl)
  have hde := fun W (hb : Below w.heap.size w W) => rdele_any W (s.most : Int) (s.room : Int) A n c s (h.later hb) hok.srt x (by omega)
  have hbx := Bx2.new w (I (s.most : Int)) (I (s.room : Int)) (.slice A n c)
  obtain ⟨w2, hw2⟩ : ∃ w2, w2 = ((w.alloc (.cells #[I (s.most : Int), I (s.room : Int), .slice A n c] 28)).alloc (.cells #[I 0, I 0, .slice none 0 0] 28)) := ⟨_, rfl⟩
  rw [← hw2] at hbx
  have hbk := fun W (q : Bx2 w W (I (s.most : Int)) (I (s.room : Int)) (.slice A n c)) => q.back h
  obtain ⟨M, hM⟩ : ∃ M, M = s.most := ⟨_, rfl⟩
  obtain ⟨rm, hrm⟩ : ∃ rm, rm = s.room := ⟨_, rfl⟩
  have hM2 := hok.m
  have hrm2 := hok.r
  rw [← hM] at hde hbx hw2 hbk hM2 ⊢
  rw [← hrm] at hde hbx hw2 hbk hrm2 ⊢
  have HM := Lib.hid hM
  have Hrm := Lib.hid hrm
  clear hM hrm
  cases h0 : okN x with
  | false =>
    have k0 : puE s x d = 1 := by unfold puE; rw [h0]; rfl
    rw [puS_no k0 (by decide), k0]
    rw [h0] at hna
    have hfin := hbk w2 hbx
    have d0 := Cel_c0 hbx.x
    have d1 := Cel_c1 hbx.x
    have d2 := Cel_c2 hbx.x
    have e0 := Cel_c0 hbx.y
    have e1 := Cel_c1 hbx.y
    have e2 := Cel_c2 hbx.y
    have f0 := hbx.y.free 0
    have f1 := hbx.y.free 1
    have f2 := hbx.y.free 2
    clear h0 k0 hde hd hl hbx hbk h
    go_enter Try.func11, Try.ntmps11
    go_wp2_with fail
    rw [← hw2]
    refine (hna _).mono ?_
    rintro e w3 ⟨rfl, rfl⟩
    clear hw2
    go_wp2
    exact bodyPost_ret (two_results rfl rfl rfl hfin.1) rfl ⟨A, n, c, rfl, hfin.2.1, hfin.2.2⟩
  | true =>
  rw [h0] at hna
  by_cases h5 : 65536 < m
  · have k0 : puE s x d = 6 := by unfold puE; rw [h0, if_pos rfl, if_pos (by rw [hl.out]; exact h5)]
    rw [puS_no k0 (by decide), k0]
    have q1 : decide ((65536 : Int) < (m : Int)) = true := decide_eq_true (by omega)
    have q2 : decide (65536 < m) = true := decide_eq_true h5
    have hfin := hbk w2 hbx
    have d0 := Cel_c0 hbx.x
    have d1 := Cel_c1 hbx.x
    have d2 := Cel_c2 hbx.x
    have e0 := Cel_c0 hbx.y
    have e1 := Cel_c1 hbx.y
    have e2 := Cel_c2 hbx.y
    have f0 := hbx.y.free 0
    have f1 := hbx.y.free 1
    have f2 := hbx.y.free 2
    clear h0 k0 hde hd hl hbx hbk h h5
    go_enter Try.func11, Try.ntmps11
    go_wp2_with fail
    rw [← hw2]
    refine (hna _).mono ?_
    rintro e w3 ⟨rfl, rfl⟩
    clear hw2
    go_wp2
    exact bodyPost_ret (two_results rfl rfl rfl hfin.1) rfl ⟨A, n, c, rfl, hfin.2.1, hfin.2.2⟩
  have q1 : decide ((65536 : Int) < (m : Int)) = false := decide_eq_false (by omega)
  have q2 : decide (65536 < m) = false := decide_eq_false h5
  -- the store without the file
  have hdl := deS_l hok x
  obtain ⟨L1, hL1⟩ : ∃ L1, L1 = del x s.l := ⟨_, rfl⟩
  rw [← hL1] at hdl
  rw [hdl] at hde
  have hsr1 : Srt L1 := by rw [hL1]; exact hok.srt.del x
  have hsz1 : sz L1 ≤ rm := by
    have h7 := sz_del (n := x) hok.srt
    have h8 := hok.sum
    rw [hL1, Hrm.out]; omega
  have hln1 : L1.length ≤ 256 := by
    have h7 := del_len (n := x) hok.srt
    have h8 := hok.cnt
    have h9 := hok.m
    rw [hL1]; omega
  have hfit : fits s x m = (!decide (M ≤ L1.length) && decide (sz L1 + m ≤ rm)) := by rw [fits_ref hok, ← hL1, HM.out, Hrm.out]
  obtain ⟨G, hG⟩ : ∃ G, G = geE s x := ⟨_, rfl⟩
  rw [← hG] at hde
  clear hG hdl
  by_cases h6 : M ≤ L1.length
  · have k0 : puE s x d = 7 := by unfold puE; rw [h0, if_pos rfl, if_neg (by rw [hl.out]; exact h5), hl.out, hfit, decide_eq_true h6]; rfl
    rw [puS_no k0 (by decide), k0]
    have d0 := Cel_c0 hbx.x
    have d1 := Cel_c1 hbx.x
    have d2 := Cel_c2 hbx.x
    have HL1 := Lib.hid hL1
    clear h0 k0 hd hl h h5 hfit hL1
    go_enter Try.func11, Try.ntmps11
    go_wp2_with fail
    rw [← hw2]
    refine (hna _).mono ?_
    rintro e w3 ⟨rfl, rfl⟩
    clear hw2
    go_wp2_with fail
    refine (hde _ hbx.b).mono ?_
    rintro e w4 ⟨A4, n4, c4, rfl, hrx4, hb4⟩
    have hbx4 := hbx.later hb4
    have hn4 := hrx4.len
    have q3 : decide ((M : Int) ≤ (n4 : Int)) = true := decide_eq_true (by omega)
    have q4 : decide (M ≤ n4) = true := decide_eq_true (by omega)
    have hbx5 := hbx4.later (bel_new w4 (.cells #[I (M : Int), I (rm : Int), .slice A4 n4 c4] 28))
    have hfin := hbk _ hbx5
    have d0 := Cel_c0 hbx5.x
    have d1 := Cel_c1 hbx5.x
    have d2 := Cel_c2 hbx5.x
    have e0 := Cel_c0 hbx5.y
    have e1 := Cel_c1 hbx5.y
    have e2 := Cel_c2 hbx5.y
    have f0 := hbx5.y.free 0
    have f1 := hbx5.y.free 1
    have f2 := hbx5.y.free 2
    clear hrx4 hbk hn4 h6
    go_wp2
    exact bodyPost_ret (two_results rfl rfl rfl hfin.1) rfl ⟨A, n, c, rfl, hfin.2.1, hfin.2.2⟩
  obtain ⟨Z, hZ⟩ : ∃ Z, Z = sz L1 := ⟨_, rfl⟩
  rw [← hZ] at hfit hsz1
  obtain ⟨R1, hR1⟩ : ∃ R1 : Nat, (rm : Int) - (Z : Int) = (R1 : Int) := ⟨rm - Z, by omega⟩
  have hfr := fun W A4 n4 c4 (hx : RX W A4 n4 c4 L1) => rfree_any W (M : Int) rm A4 n4 c4 L1 hx (by rw [← hx.len]; omega) hrm2 (by rw [← hZ]; exact hsz1)
  rw [← hZ, hR1] at hfr
  by_cases h7 : R1 < m
  · have k0 : puE s x d = 7 := by
      unfold puE
      rw [h0, if_pos rfl, if_neg (by rw [hl.out]; exact h5), hl.out, hfit, decide_eq_false (show ¬ Z + m ≤ rm by omega), Bool.and_false]
      rfl
    rw [puS_no k0 (by decide), k0]
    have d0 := Cel_c0 hbx.x
    have d1 := Cel_c1 hbx.x
    have d2 := Cel_c2 hbx.x
    have HL1 := Lib.hid hL1
    have t5 : decide ((R1 : Int) < (m : Int)) = true := decide_eq_true (by omega)
    have t6 : decide (R1 < m) = true := decide_eq_true h7
    clear h0 k0 hd hl h h5 hfit hL1 hR1 hZ
    go_enter Try.func11, Try.ntmps11
    go_wp2_with fail
    rw [← hw2]
    refine (hna _).mono ?_
    rintro e w3 ⟨rfl, rfl⟩
    clear hw2
    go_wp2_with fail
    refine (hde _ hbx.b).mono ?_
    rintro e w4 ⟨A4, n4, c4, rfl, hrx4, hb4⟩
    have hbx4 := hbx.later hb4
    have hn4 := hrx4.len
    have q3 : decide ((M : Int) ≤ (n4 : Int)) = false := decide_eq_false (by omega)
    have q4 : decide (M ≤ n4) = false := decide_eq_false (by omega)
    have hbe5 := bel_new w4 (.cells #[I (M : Int), I (rm : Int), .slice A4 n4 c4] 28)
    have hbx5 := hbx4.later hbe5
    have hfr5 := hfr _ A4 n4 c4 (hrx4.later hbe5)
    clear hrx4 hn4 h6 hfr d0 d1 d2
    go_wp2_with fail
    refine hfr5.mono ?_
    rintro e w6 ⟨rfl, hb6⟩
    have hbx6 := hbx5.later hb6
    have hfin := hbk _ hbx6
    have d0 := Cel_c0 hbx6.x
    have d1 := Cel_c1 hbx6.x
    have d2 := Cel_c2 hbx6.x
    have e0 := Cel_c0 hbx6.y
    have e1 := Cel_c1 hbx6.y
    have e2 := Cel_c2 hbx6.y
    have f0 := hbx6.y.free 0
    have f1 := hbx6.y.free 1
    have f2 := hbx6.y.free 2
    clear hfr5 hbk
    go_wp2
    exact bodyPost_ret (two_results rfl rfl rfl hfin.1) rfl ⟨A, n, c, rfl, hfin.2.1, hfin.2.2⟩
  have k0 : puE s x d = 0 := by
    unfold puE
    rw [h0, if_pos rfl, if_neg (by rw [hl.out]; exact h5), hl.out, hfit, decide_eq_false h6, decide_eq_true (show Z + m ≤ rm by omega)]
    rfl
  obtain ⟨DL, hDL⟩ : ∃ DL, DL = (puS s x d).l := ⟨_, rfl⟩
  rw [k0, ← hDL]
  rw [puS_ok k0] at hDL
  have hmid : L1.take (fnd x L1) ++ [(x, d)] ++ L1.drop (fnd x L1) = DL := by
    rw [hDL]
    unfold put
    rw [← hL1]
    exact hsr1.mid (fun p hp => by rw [hL1] at hp; exact (mem_del.1 hp).2)
  have hfd := fun W A4 n4 c4 (hx : RX W A4 n4 c4 L1) => find_any W (M : Int) (rm : Int) A4 n4 c4 L1 hx hsr1 x (by rw [← hx.len]; omega)
  obtain ⟨k, hk⟩ : ∃ k, k = fnd x L1 := ⟨_, rfl⟩
  have hkl : k ≤ L1.length := by rw [hk]; exact fnd_le _ _
  rw [← hk] at hfd hmid
  obtain ⟨V, hV⟩ : ∃ V, V = fdB x L1 := ⟨_, rfl⟩
  rw [← hV] at hfd
  have HD := Lib.hid hmid
  have d0 := Cel_c0 hbx.x
  have d1 := Cel_c1 hbx.x
  have d2 := Cel_c2 hbx.x
  have t5 : decide ((R1 : Int) < (m : Int)) = false := decide_eq_false (by omega)
  have t6 : decide (R1 < m) = false := decide_eq_false h7
  clear h0 k0 h h5 hfit hL1 hR1 hZ hbk hV hk hDL hmid h7
  go_enter Try.func11, Try.ntmps11
  go_wp2_with fail
  rw [← hw2]
  refine (hna _).mono ?_
  rintro e w3 ⟨rfl, rfl⟩
  clear hw2
  go_wp2_with fail
  refine (hde _ hbx.b).mono ?_
  rintro e w4 ⟨A4, n4, c4, rfl, hrx4, hb4⟩
  have hbx4 := hbx.later hb4
  have hn4 := hrx4.len
  have q3 : decide ((M : Int) ≤ (n4 : Int)) = false := decide_eq_false (by omega)
  have q4 : decide (M ≤ n4) = false := decide_eq_false (by omega)
  have hbe5 := bel_new w4 (.cells #[I (M : Int), I (rm : Int), .slice A4 n4 c4] 28)
  have hbx5 := hbx4.later hbe5
  have hz5 : Cel (w4.alloc (.cells #[I (M : Int), I (rm : Int), .slice A4 n4 c4] 28)) w4.heap.size 28 #[I (M : Int), I (rm : Int), .slice A4 n4 c4] := Cel.new _ _ _
  have hrx5 := hrx4.later hbe5
  have hfr5 := hfr _ A4 n4 c4 hrx5
  obtain ⟨tb, htb⟩ : ∃ tb, tb = w4.heap.size := ⟨_, rfl⟩
  have htl : w.heap.size + 2 ≤ tb := by rw [htb]; exact hbx4.sz
  clear hrx4 hfr d0 d1 d2 h6 hbx4
  go_wp2_with fail
  refine hfr5.mono ?_
  rintro e w6 ⟨rfl, hb6⟩
  rw [← htb] at hz5 ⊢
  have hbx6 := hbx5.later hb6
  have hrx6 := hrx5.later hb6
  have hz6 := Cel.on hz5 hb6
  have z0 := Cel_c0 hz6
  have z1 := Cel_c1 hz6
  have z2 := Cel_c2 hz6
  have hfd6 := hfd _ A4 n4 c4 hrx6
  clear hfr5 hfd hbx5 hrx5 hz5 hb6 hbe5 htb hb4 hde
  go_wp2_with fail
  refine hfd6.mono ?_
  rintro e w7 ⟨rfl, hb7⟩
  have hbx7 := hbx6.later hb7
  have hrx7 := hrx6.later hb7
  have hz7 := Cel.on hz6 hb7
  clear hfd6 hbx6 hrx6 hz6 z0 z1 z2
  have z0 := Cel_c0 hz7
  have z1 := Cel_c1 hz7
  have z2 := Cel_c2 hz7
  obtain ⟨Q, h1, h2, h3⟩ := hrx7
  have hQn := h2.len
  obtain ⟨q, hq⟩ : ∃ q, n4 - k = q := ⟨_, rfl⟩
  have hdn : (Q.drop k).length = q := by rw [List.length_drop]; omega
  have htn : (Q.take k).length = k := by rw [List.length_take]; omega
  have HRA : Hid (Rs enF 2 w7 w7.heap.size A4 (Q.take k)) := Lib.hid (h2.r.rs.take k)
  obtain ⟨AD, hAD, HRB, hADn⟩ : ∃ AD : Option Addr, (if c4 = k then A4 else Option.map (fun x => x.add (k * 2)) A4) = AD ∧ Hid (Rs enF 2 w7 w7.heap.size AD (Q.drop k)) ∧ (AD = none → c4 - k = 0) := by
    refine ⟨_, rfl, Lib.hid ?_, fun h => ?_⟩
    · by_cases hc : c4 = k
      · have hle := h2.le
        have h0 : Q.drop k = [] := List.drop_eq_nil_of_le (by omega)
        rw [h0]; exact Rs.nil_
      · rw [if_neg hc]
        by_cases h0 : 0 < Q.length
        · obtain ⟨b1, o1, rfl, _⟩ := h2.r.rs h0
          have := h2.r.rs.drop k
          have e : (⟨b1, o1, none⟩ : Addr).add (k * 2) = ⟨b1, o1 + k * 2, none⟩ := by
            rcases Nat.eq_zero_or_pos (k * 2) with h9 | h9
            · rw [h9]; rfl
            · have hne : k * 2 ≠ 0 := by omega
              simp only [Addr.add, if_neg hne]
          simp only [Option.map_some, e]
          exact this
        · have h0 : Q.drop k = [] := List.drop_eq_nil_of_le (by omega)
          rw [h0]; exact Rs.nil_
    · by_cases hc : c4 = k
      · omega
      · rw [if_neg hc] at h
        have : A4 = none := by cases A4 <;> simp_all
        have := h2.nil this
        omega
  have hnil4 := h2.nil
  have hcle := h2.le
  have hkn : k ≤ n4 := by omega
  have hkc : k ≤ c4 := by omega
  have hn256 : n4 ≤ 256 := by omega
  have HDL : Hid (lst (Q.take k ++ [(x, ⟨d, DA, dc⟩)] ++ Q.drop k) = DL) := Lib.hid (by
    rw [← HD.out, ← h1]
    simp [lst])
  have HQD : Hid (∀ p ∈ Q, Dq w7 p.2.l p.2.a p.2.c) := Lib.hid h3
  have hd7 : Dt w7 w7.heap.size d DA dc := hd.later hbx7.b
  obtain ⟨FA, hFA⟩ : ∃ FA, FA = Q.take k := ⟨_, rfl⟩
  obtain ⟨FB, hFB⟩ : ∃ FB, FB = Q.drop k := ⟨_, rfl⟩
  rw [← hFA] at htn HRA HDL
  rw [← hFB] at hdn HRB HDL
  have HFA := Lib.hid hFA
  have HFB := Lib.hid hFB
  have hown0 : Row.Os enF 2 (w7.alloc (.cells #[] 63)) w7.heap.size 63 (.slice (some ⟨w7.heap.size, 0, none⟩) 0 0) [] := Row.Os.empty w7 _ _ (Nat.le_refl _)
  have bA := bel_new w7 (.cells #[] 63)
  have hk0 : ¬ ((k : Int) < 0) := by omega
  have z2A := Cel_c2 (Cel.on hz7 bA)
  clear h1 h2 h3 HD hd hQn hFA hFB hn4 hln1 hkl hna q1 q2 q3 q4 t5 t6 hb7 hsr1
  go_wp2_with (first
    | (at_builtin; refine wpList_row _ enF_ok is_files (by decide) rfl (.tmp 47) (.tmp 51) rfl rfl hown0 (l := FA) htn rfl (HRA.out.below bA) hnil4 (by simp only [List.length_nil, htn]; omega) (by simp) ?_; intro v8 w8 hown8 hg8 hv8; have b8 : Below w7.heap.size w7 w8 := bA.grown hg8 (by simp) (fun j hj => by have := hown0.base_le j hj; omega); have hE8 := Ow_empty w8 w8.heap.size 5 (Nat.le_refl _); have bE := bel_new w8 (.cells #[] 5); have d8 := (hd7.later b8).b.below bE)
    | (at_builtin; refine wpList_app _ is_bytes rfl (.tmp 54) (.tmp 55) rfl (m := []) rfl hE8 (l := d) (A := DA) (c := dc) (by rw [hl.out]; rfl) d8 hd7.n (by rw [hl.out]; simp; omega) bE.size ?_; intro v9 w9 hown9 hg9; have ho9 : Ow w9 w8.heap.size 5 v9 d := hown9; obtain ⟨A9, c9, rfl, hd9⟩ := Dq.of ho9 hl.out; have b9 : Below w8.heap.size w8 w9 := bE.grown hg9 bE.size (Ow.base_le (l := []) hE8); have b79 : Below w7.heap.size w7 w9 := b8.trans (b9.mono b8.size); have hown9r := hown8.below b9; have hr9 := Row.Rs_new1 enF_ok w9 63 (x, ⟨d, A9, c9⟩) #[.string (nm x), .slice A9 m c9] (by simp [enF, hl.out]); have b9a : Below w7.heap.size w7 (w9.alloc (.cells #[.string (nm x), .slice A9 m c9] 63)) := b79.alloc b79.size _)
    | (at_builtin; refine wpList_row _ enF_ok is_files (by decide) rfl (.tmp 52) (.tmp 58) rfl rfl (hown9r.alloc _) (l := [(x, ⟨d, A9, c9⟩)]) rfl rfl hr9 (by simp) (by simp only [List.nil_append, List.length_cons, List.length_nil, htn]; omega) b9a.size ?_; intro v10 w10 hown10 hg10 hv10; have b10 : Below w7.heap.size w7 w10 := b9a.grown hg10 b9a.size (fun j hj => (hown8.lt j hj).1); have z2B := Cel_c2 (Cel.on hz7 b10); have ho10 := Ow.past (ho9.below (bel_new w9 (.cells #[.string (nm x), .slice A9 m c9] 63))) (hown9r.alloc _) (by decide) hg10)
    | (at_builtin; refine wpList_row _ enF_ok is_files (by decide) rfl (.tmp 60) (.tmp 64) rfl rfl hown10 (l := FB) hdn rfl (HRB.out.below b10) hADn (by simp only [List.nil_append, List.length_append, List.length_cons, List.length_nil, htn, hdn]; omega) b10.size ?_; intro v11 w11 hown11 hg11 hv11; have b11 : Below w7.heap.size w7 w11 := b10.grown hg11 b10.size (fun j hj => (hown10.lt j hj).1); have ho11 := Ow.past ho10 hown10 (by decide) hg11; obtain ⟨A11, c11, rfl, hrx11⟩ := RX.of (n := k + 1 + q) hown11 (put_lst HDL.out A9 c9) (put_len htn hdn _) (put_dq HQD.out HFA.out HFB.out (p := (x, ⟨d, A9, c9⟩)) b11 (Dq.own ho11)); have hbx11 := hbx7.later b11; have hz11 := Cel.on hz7 b11; have hfin := put_fin hrx11 hbx11 htl hz11; have z3 := Cel_c0 hz11; have z4 := Cel_c1 hz11; have z5 := Cel_c2 hz11; have z6 := hz11.free 2; have y0 := Cel_c0 hbx11.y; have y1 := Cel_c1 hbx11.y; have y2 := Cel_c2 hbx11.y; have y3 := hbx11.y.free 0; have y4 := hbx11.y.free 1; have y5 := hbx11.y.free 2))
  exact bodyPost_ret (two_results rfl rfl rfl hfin.1) rfl ⟨A11, _, c11, rfl, hfin.2.1, hfin.2.2⟩
end Go.Proofs.Ytbeekfbcflmemaa.Fil
