/-
  The laws of layer 22: a Mux beside the reference's variable; MuxSelects.
-/
import Derived.Test.YtpfhbojodapomaaLaw22b
import Derived.Test.YtpfhbojodapomaaLaw22c
namespace Go.Proofs.Ytpfhbojodapomaa.Mux
open Go.RowKit Go.Proofs.Ytpfhbojodapomaa.Row Ints

/-- one of the lists of an argument -/
structure Qi where
  l : List Int
  a : Option Addr
  c : Nat
instance : Inhabited Qi := ⟨⟨[], none, 0⟩⟩
def encQ (q : Qi) : List Value := [.slice q.a q.l.length q.c]
/-- 'A' leads to slices of ints -/
def LI (w : World) (B : Nat) (A : Option Addr) (qs : List Qi) : Prop := Rs encQ 1 w B A qs ∧ ∀ q ∈ qs, Ns w B q.a q.l ∧ q.l.length ≤ maxLen
theorem q_at {w : World} {B : Nat} {A : Option Addr} {qs : List Qi} {i : Nat} (h : Rs encQ 1 w B A qs) (hi : i < qs.length) : ∃ b off, A = some ⟨b, off, none⟩ ∧ b < B ∧ w.cell? ⟨b, off + i, none⟩ = some (.slice qs[i].a qs[i].l.length qs[i].c) := by
  obtain ⟨b, off, e, hb, hc⟩ := h.at_ hi
  refine ⟨b, off, e, hb, ?_⟩
  have := hc 0 _ rfl
  rwa [Nat.mul_one, Nat.add_zero] at this

section
variable {w0 w w' : World} {B g gx T : Nat} {r : Option Nat} {F : List Nat} {R : List Ch}
theorem RX.more (h : RX w B gx F R) {b' : Nat} (hb : b' ≤ B) : RX w b' gx F R := by
  obtain ⟨v1, v2, v3, hc, h1⟩ := h
  exact ⟨v1, v2, v3, hc, h1.more hb⟩
/-- the Mux's calls leave the reference's variable alone -/
theorem RX.beside (h : RX w B gx F R) {R2 : List Ch} (p : PM w0 w B g r R2 T) (k : Only r.toList w w') : RX w' B gx F R := by
  obtain ⟨v1, v2, v3, hc, o1, o2, o3, hF, hn⟩ := h
  have hcx := p.ne hc (by decide)
  obtain ⟨L, ⟨v, _, ho, rfl⟩, _⟩ := p.f
  refine ⟨v1, v2, v3, hc.only k hcx, RZ.only ⟨o1, o2, o3, hF, hn⟩ k (fun i hi hm => os_ne o1 ho (by decide) i (by simpa using hm) hi) fun i hi hm => ?_⟩
  rw [hF] at hi
  rcases List.mem_append.1 hi with hi | hi
  · exact os_ne o2 ho (by decide) i (by simpa using hm) (by simpa using hi)
  · exact os_ne o3 ho (by decide) i (by simpa using hm) (by simpa using hi)
/-- the reference's calls leave the Mux alone -/
theorem PM.beside (p : PM w0 w B g r R T) {R2 : List Ch} (h : RX w B gx F R2) (k : Only F w w') : PM w0 w' B g r R T := by
  obtain ⟨v1, v2, v3, hc, hz⟩ := h
  have hFB := hz.ints
  obtain ⟨L, hm, h1⟩ := p.f
  obtain ⟨v, hcm, ho, rfl⟩ := hm
  have hgF := hz.notint hcm (by decide)
  obtain ⟨_, o2, o3, hF, _⟩ := hz
  refine p.other k (fun x hx => (hFB x hx).1) hgF fun i hi hm => ?_
  rw [hF] at hm
  rcases List.mem_append.1 hm with hm | hm
  · exact os_ne o2 ho (by decide) i hi (by simpa using hm)
  · exact os_ne o3 ho (by decide) i hi (by simpa using hm)
/-- another Mux's calls leave the Mux alone -/
theorem PM.apart (p : PM w0 w B g r R T) {g2 T2 : Nat} {r2 : Option Nat} {R2 : List Ch} (p2 : PM w0 w B g2 r2 R2 T2) (hr : ∀ i, r = some i → r2 ≠ some i) (k : Only r2.toList w w') : PM w0 w' B g r R T := by
  obtain ⟨L, hm, h1⟩ := p.f
  obtain ⟨v, hcm, ho, hv⟩ := hm
  exact p.other k p2.rows (p2.ne hcm (by decide)) fun i hi hm => hr i hi (by simpa using hm)
/-- the reference's call beside a Mux that the program's has left in the same state -/
theorem RX.next (h : RX w B gx F R) (hG : Good R) (hd : Bd T R) (rd : List Int) (A2 : Option Addr) (n2 c2 : Nat) (hn2 : rd.length = n2) (hrd : Ns w B A2 rd) (hB : B ≤ w.heap.size) (hr2 : n2 ≤ 1000000) (hT : T ≤ 1000000000000) {res : Option Int} {R' : List Ch} (hX : nxf rd R = (res, R')) :
    Calls Try.prog 13 #[.pointer (some ⟨gx, 0, none⟩), .slice A2 n2 c2] w fun e w' => ∃ z : Int, e = .returned (.int .i64 z) ∧ Hid ((res = none ∧ z = -1) ∨ ∃ k : Nat, z = k ∧ ∃ hk : k < R.length, res = some R[k].id) ∧ RX w' B gx F R' ∧ Only F w w' := by
  refine (xnext_any w B gx F R rd T A2 n2 c2 h hG hd hT hn2 hrd hB hr2).mono ?_
  rintro e w' ⟨z, res', L', rfl, hN, hz, hx, hk⟩
  obtain ⟨e1, e2⟩ := hN.out.is hG
  rw [hX] at e1 e2
  subst e1 e2
  exact ⟨z, rfl, hz, hx, hk⟩
end

set_option maxRecDepth 100000 in
set_option maxHeartbeats 8000000 in
theorem muxSelects_walk (l : List Ch) (qs : List Qi) (w : World) (A : Option Addr) (n c : Nat) (hln : l.length = n) (hr : Rs encA 3 w w.heap.size A l) (hnn : A = none → c = 0) (hl : n ≤ maxLen) (hz : Hid (∀ x ∈ l, x.cr = 0 ∧ x.sn = 0))
    (A2 : Option Addr) (n2 c2 : Nat) (hn2 : qs.length = n2) (hq : LI w w.heap.size A2 qs) (hl2 : n2 ≤ maxLen) :
    Calls Try.prog 4 #[.slice A n c, .slice A2 n2 c2] w fun e w' => e = .returned (.bool true) ∧ Below w.heap.size w w' := by
  have hlv := fun W => alive_any W
  have hmx : n ≤ 9223372036854775807 := by unfold maxLen at hl; omega
  have hmx2 : n2 ≤ 9223372036854775807 := by unfold maxLen at hl2; omega
  by_cases h30 : 30 < n
  · have t0 : decide ((30 : Int) < (n : Int)) = true := decide_eq_true (by omega)
    have t1 : decide (30 < n) = true := decide_eq_true h30
    clear hr hln hz hq hn2
    go_enter Try.func4, Try.ntmps4
    go_wp2_with (go_at_call 7; refine (hlv _).mono ?_; rintro e w1 ⟨rfl, hb1⟩)
    go_ret
    exact ⟨rfl, hb1⟩
  have t0 : decide ((30 : Int) < (n : Int)) = false := decide_eq_false (by omega)
  have t1 : decide (30 < n) = false := decide_eq_false h30
  by_cases h100 : 100 < n2
  · have t2 : decide ((100 : Int) < (n2 : Int)) = true := decide_eq_true (by omega)
    have t3 : decide (100 < n2) = true := decide_eq_true h100
    clear hr hln hz hq hn2
    go_enter Try.func4, Try.ntmps4
    go_wp2_with (go_at_call 7; refine (hlv _).mono ?_; rintro e w1 ⟨rfl, hb1⟩)
    go_ret
    exact ⟨rfl, hb1⟩
  have t2 : decide ((100 : Int) < (n2 : Int)) = false := decide_eq_false (by omega)
  have t3 : decide (100 < n2) = false := decide_eq_false h100
  have h31 : n ≤ 1000000 := by omega
  have n100 : n2 ≤ 100 := by omega
  have x2 := fun W (hb : Below w.heap.size w W) => (hr.below hb).more hb.size
  by_cases h0 : chk [] l = 0
  · have hG : Good l := by have := chk_good (l := l) (s := []) ⟨by simp, by simp [ids]⟩ h0; simpa using this
    have x1 := new_ok l w A n c hln hr h31 hz h0
    have x3 := fun W (hb : Below w.heap.size w W) => xnew_ok l W A n c hln (x2 W hb) hnn h31 hz h0
    have HN2 := Lib.hid hn2
    have HQ := Lib.hid hq
    have hn30 : n ≤ 30 := by omega
    clear hr hln hz h0 hq hn2 x2 h30 h100 hl hl2 hG
    go_enter Try.func4, Try.ntmps4
    go_wp2_with fail
    refine x1.mono ?_
    rintro e w1 ⟨g, r, rfl, p1⟩
    clear x1
    obtain ⟨B, hB⟩ : ∃ B, B = w.heap.size := ⟨_, rfl⟩
    have hsB : w.heap.size ≤ B := by omega
    have hBs : B ≤ w.heap.size := by omega
    have HQB : Hid (LI w B A2 qs) := Lib.hid (by rw [hB]; exact HQ.out)
    rw [← hB] at p1
    have b1 : Below B w w1 := p1.b
    go_wp2_with fail
    refine (x3 w1 (by rw [← hB]; exact b1)).mono ?_
    rintro e w2 ⟨A1, c1, A3, c3, A4, c4, F, rfl, hz2, b2⟩
    clear x3 hB HQ
    have p2 := p1.below b2
    have hzB := hz2.more p1.s
    obtain ⟨W, hW⟩ : ∃ W, W = w2.alloc (.cells #[.slice A1 n c1, .slice A3 n c3, .slice A4 n c4] 30) := ⟨_, rfl⟩
    have p3 : PM w W B g r l 0 := by rw [hW]; exact p2.alloc _
    have hx3 : RX W B w2.heap.size F l := by rw [hW]; exact ⟨_, _, _, Cel.new _ _ _, hzB.below (bel_new _ _)⟩
    clear p1 p2 hz2 hzB
    go_wp2_with fail
    rw [← hW]
    clear hW
    go_loopw [5, 11, 12, 13, 14, 15] (fun mv i _ _ _ _ wr => ∃ (k g : Nat) (r : Option Nat) (R : List Ch), mv = .pointer (some ⟨g, 0, none⟩) ∧ i = .int .i64 k ∧ k ≤ n2 ∧ PM w wr B g r R k ∧ RX wr B w2.heap.size F R) (fun _ i _ _ _ _ _ => n2 - (intOf i).toNat)
    case atStart => exact ⟨0, g, r, l, rfl, rfl, Nat.zero_le _, p3, hx3⟩
    case round =>
      obtain ⟨k, g, r, R, rfl, rfl, hk, p4, hx4⟩ := hrel
      obtain ⟨V, hV⟩ : ∃ V, V = wr := ⟨_, rfl⟩
      subst hV
      have hb4 := p4.b
      have hs4 := p4.s
      by_cases hlt : k < n2
      · have hkq : k < qs.length := by rw [HN2.out]; exact hlt
        obtain ⟨b, off, rfl, hbB, d0⟩ := q_at HQB.out.1 hkq
        have hql := HQB.out.2 qs[k] (List.getElem_mem hkq)
        generalize qs[k] = q at d0 hql
        obtain ⟨ql, qa, qc⟩ := q
        dsimp only at d0 hql
        obtain ⟨hqn, hqm⟩ := hql
        obtain ⟨N, hN⟩ : ∃ N, N = ql.length := ⟨_, rfl⟩
        rw [← hN] at d0 hqm
        have HN := Lib.hid hN.symm
        have hNm : N ≤ 9223372036854775807 := by unfold maxLen at hqm; omega
        have d1 : ∀ W', Below B w W' → W'.cell? ⟨b, off + k, none⟩ = some (.slice qa N qc) := fun W' h' => (h'.cell (p := ⟨b, off + k, none⟩) hbB).trans d0
        have e4 := d1 V hb4
        clear hN hqm d0 hkq
        by_cases h50 : 50 < N
        · have u0 : decide ((50 : Int) < (N : Int)) = true := decide_eq_true (by omega)
          have u1 : decide (50 < N) = true := decide_eq_true h50
          clear hqn d1
          go_wp2_with fail
          refine (hlv _).mono ?_
          rintro e w5 ⟨rfl, hb5⟩
          go_wp2_with fail
          go_ret
          exact ⟨rfl, (hb4.mono hsB).trans (hb5.mono (by omega))⟩
        · have u0 : decide ((50 : Int) < (N : Int)) = false := decide_eq_false (by omega)
          have u1 : decide (50 < N) = false := decide_eq_false h50
          rcases hX : nxf ql R with ⟨res, R'⟩
          have y1 := p4.next ql qa N qc HN.out ((hqn.below hb4).more hs4) (by omega) (by omega) hX
          have hG4 := p4.G
          have hd4 := p4.d
          go_wp2_with fail
          refine y1.mono ?_
          rintro e w5 ⟨rfl, p5, k5⟩
          have hx5 := hx4.beside p4 k5
          have e5 := d1 w5 p5.b
          have y2 := hx5.next hG4 hd4 ql qa N qc HN.out (hqn.below p5.b) p5.s (by omega) (by omega) hX
          clear y1 hx4 p4
          go_wp2_with fail
          refine y2.mono ?_
          rintro e w6 ⟨z, rfl, hzz, hx6, k6⟩
          have p6 := p5.beside hx5 k6
          clear y2 hx5 p5 e4 e5
          cases res with
          | none =>
            obtain rfl : z = -1 := by
              rcases hzz.out with ⟨_, h⟩ | ⟨kk, _, hkk, h⟩
              · exact h
              · cases h
            clear hzz
            by_cases h7 : (k : Int).tmod 7 = 3
            · have u7 : ((k : Int).tmod 7 == 3) = true := by simpa using h7
              obtain ⟨r7, hr7⟩ : ∃ r7, (k : Int).tmod 7 = r7 := ⟨_, rfl⟩
              rw [hr7] at u7
              have r7in : -7 < r7 ∧ r7 < 7 := by
                rw [← hr7]
                exact ⟨Int.lt_tmod_of_pos _ (by decide), Int.tmod_lt_of_pos _ (by decide)⟩
              clear h7
              go_wp2_with fail
              refine p6.clone.mono ?_
              rintro e w7 ⟨g7, r7', rfl, q7, p7, b7, hr7', hg7⟩
              have hx7 := hx6.below b7
              obtain ⟨W8, hW8⟩ : ∃ W8, W8 = w7.alloc (.cells #[I 0, I 1, I 2, I 3, I 4, I 5, I 6, I 7] 3) := ⟨_, rfl⟩
              have q8 : PM w W8 B g7 r7' R' (k + 1) := by rw [hW8]; exact q7.alloc _
              have p8 : PM w W8 B g r R' (k + 1) := by rw [hW8]; exact p7.alloc _
              have hx8 : RX W8 B w2.heap.size F R' := by rw [hW8]; exact hx7.below (bel_new _ _)
              have hrd : Ns W8 W8.heap.size (some ⟨w7.heap.size, 0, none⟩) [0, 1, 2, 3, 4, 5, 6, 7] := by rw [hW8]; exact Ns_new w7 _ [0, 1, 2, 3, 4, 5, 6, 7] _ rfl _ (by simp)
              have hne : ∀ i, r7' = some i → r ≠ some i := fun i hi hi2 => by
                have h1 := hr7' i hi
                have h2 := (p6.row i hi2).2.1
                omega
              rcases hY : nxf [0, 1, 2, 3, 4, 5, 6, 7] R' with ⟨res2, R2⟩
              have y3 := p8.next [0, 1, 2, 3, 4, 5, 6, 7] _ 8 8 rfl hrd (by omega) (by omega) hY
              clear p7 q7 hx7 hrd hX hY hG4 hd4 p6 hx6
              go_wp2_with fail
              rw [← hW8]
              clear hW8
              refine y3.mono ?_
              rintro e w9 ⟨rfl, p9, k9⟩
              have q9 := q8.apart p8 hne k9
              have hx9 := hx8.beside p8 k9
              clear y3 hx8 q8 p8
              go_wp2_with fail
              go_roundw
              case rel => exact ⟨k + 1, g7, r7', R', rfl, by simp, hlt, q9, hx9⟩
              case measure => simp [intOf]; omega
            · have u7 : ((k : Int).tmod 7 == 3) = false := by simpa using h7
              obtain ⟨r7, hr7⟩ : ∃ r7, (k : Int).tmod 7 = r7 := ⟨_, rfl⟩
              rw [hr7] at u7
              have r7in : -7 < r7 ∧ r7 < 7 := by
                rw [← hr7]
                exact ⟨Int.lt_tmod_of_pos _ (by decide), Int.tmod_lt_of_pos _ (by decide)⟩
              clear h7 hX hG4 hd4
              go_wp2_with fail
              go_roundw
              case rel => exact ⟨k + 1, g, r, R', rfl, by simp, hlt, p6, hx6⟩
              case measure => simp [intOf]; omega
          | some X =>
            obtain ⟨kk, rfl, hkk, hkX⟩ : ∃ kk : Nat, z = kk ∧ ∃ hk : kk < R.length, X = R[kk].id := by
              rcases hzz.out with ⟨h, _⟩ | ⟨kk, h1, hkk, h⟩
              · cases h
              · exact ⟨kk, h1, hkk, Option.some.inj h⟩
            have hidR : ids R' = ids R := by
              have h1 := nxf_ok (rd := ql) hG4
              rw [hX] at h1
              exact h1.ids
            have hlR : R'.length = R.length := by have := congrArg List.length hidR; simpa [ids] using this
            have hkk' : kk < R'.length := by omega
            have hX' : R'[kk].id = X := by
              have h1 : (ids R')[kk]? = (ids R)[kk]? := by rw [hidR]
              unfold ids at h1
              rw [List.getElem?_map, List.getElem?_map, List.getElem?_eq_getElem hkk, List.getElem?_eq_getElem hkk'] at h1
              rw [hkX]
              exact Option.some.inj h1
            obtain ⟨v1, v2, v3, hcx, o1, _⟩ := hx6
            have hx6 : RX w6 B w2.heap.size F R' := ⟨v1, v2, v3, hcx, o1, by assumption⟩
            obtain ⟨A6, c6, rfl, r6, _⟩ := o1.reads_len encA_ok rfl
            obtain ⟨b6, off6, rfl, _, e6, _, _⟩ := a_at r6 hkk'
            rw [hX'] at e6
            have e0 : w6.cell? ⟨w2.heap.size, 0, none⟩ = some (.slice (some ⟨b6, off6, none⟩) R'.length c6) := hcx.cell 0
            obtain ⟨NR, hNR⟩ : ∃ NR, NR = R'.length := ⟨_, rfl⟩
            rw [← hNR] at e0 hkk'
            have hNR8 : NR ≤ 8 := by
              have h1 := hG4.len
              omega
            have t6 : decide (0 ≤ (kk : Int)) = true := decide_eq_true (by omega)
            have t7 : (X != X) = false := by simp
            clear hidR hlR hX' hkX hkk hzz hcx o1 r6 hNR
            by_cases h7 : (k : Int).tmod 7 = 3
            · have u7 : ((k : Int).tmod 7 == 3) = true := by simpa using h7
              obtain ⟨r7, hr7⟩ : ∃ r7, (k : Int).tmod 7 = r7 := ⟨_, rfl⟩
              rw [hr7] at u7
              have r7in : -7 < r7 ∧ r7 < 7 := by
                rw [← hr7]
                exact ⟨Int.lt_tmod_of_pos _ (by decide), Int.tmod_lt_of_pos _ (by decide)⟩
              clear h7
              go_wp2_with fail
              refine p6.clone.mono ?_
              rintro e w7 ⟨g7, r7', rfl, q7, p7, b7, hr7', hg7⟩
              have hx7 := hx6.below b7
              obtain ⟨W8, hW8⟩ : ∃ W8, W8 = w7.alloc (.cells #[I 0, I 1, I 2, I 3, I 4, I 5, I 6, I 7] 3) := ⟨_, rfl⟩
              have q8 : PM w W8 B g7 r7' R' (k + 1) := by rw [hW8]; exact q7.alloc _
              have p8 : PM w W8 B g r R' (k + 1) := by rw [hW8]; exact p7.alloc _
              have hx8 : RX W8 B w2.heap.size F R' := by rw [hW8]; exact hx7.below (bel_new _ _)
              have hrd : Ns W8 W8.heap.size (some ⟨w7.heap.size, 0, none⟩) [0, 1, 2, 3, 4, 5, 6, 7] := by rw [hW8]; exact Ns_new w7 _ [0, 1, 2, 3, 4, 5, 6, 7] _ rfl _ (by simp)
              have hne : ∀ i, r7' = some i → r ≠ some i := fun i hi hi2 => by
                have h1 := hr7' i hi
                have h2 := (p6.row i hi2).2.1
                omega
              rcases hY : nxf [0, 1, 2, 3, 4, 5, 6, 7] R' with ⟨res2, R2⟩
              have y3 := p8.next [0, 1, 2, 3, 4, 5, 6, 7] _ 8 8 rfl hrd (by omega) (by omega) hY
              clear p7 q7 hx7 hrd hX hY hG4 hd4 p6 hx6
              go_wp2_with fail
              rw [← hW8]
              clear hW8
              refine y3.mono ?_
              rintro e w9 ⟨rfl, p9, k9⟩
              have q9 := q8.apart p8 hne k9
              have hx9 := hx8.beside p8 k9
              clear y3 hx8 q8 p8
              go_wp2_with fail
              go_roundw
              case rel => exact ⟨k + 1, g7, r7', R', rfl, by simp, hlt, q9, hx9⟩
              case measure => simp [intOf]; omega
            · have u7 : ((k : Int).tmod 7 == 3) = false := by simpa using h7
              obtain ⟨r7, hr7⟩ : ∃ r7, (k : Int).tmod 7 = r7 := ⟨_, rfl⟩
              rw [hr7] at u7
              have r7in : -7 < r7 ∧ r7 < 7 := by
                rw [← hr7]
                exact ⟨Int.lt_tmod_of_pos _ (by decide), Int.tmod_lt_of_pos _ (by decide)⟩
              clear h7 hX hG4 hd4
              go_wp2_with fail
              go_roundw
              case rel => exact ⟨k + 1, g, r, R', rfl, by simp, hlt, p6, hx6⟩
              case measure => simp [intOf]; omega
      · obtain rfl : k = n2 := by omega
        have hG4 := p4.G
        have h8 := hG4.len
        obtain ⟨v1, v2, v3, hcx, hzx⟩ := hx4
        obtain ⟨NR, hNR⟩ : ∃ NR, R.length = NR := ⟨_, rfl⟩
        obtain ⟨A6, c6, A7, c7, A8, c8, rfl, rfl, rfl⟩ := hzx.forms hNR
        have hgx := hcx.lt
        have z0 : V.cell? ⟨w2.heap.size, 0, none⟩ = some (.slice A6 NR c6) := hcx.cell 0
        have z1 : V.cell? ⟨w2.heap.size, 1, none⟩ = some (.slice A7 NR c7) := hcx.cell 1
        have z2 : V.cell? ⟨w2.heap.size, 2, none⟩ = some (.slice A8 NR c8) := hcx.cell 2
        clear hcx HQB HN2 hlt
        go_wp2_with fail
        go_loopw [16] (fun i wr => ∃ D : Int, i = .int .i64 D ∧ -1 ≤ D ∧ D ≤ 9 ∧ Below V.heap.size V wr) (fun i _ => (9 - intOf i).toNat)
        case atStart => exact ⟨-1, rfl, by omega, by omega, Below.refl _ _⟩
        case round =>
          obtain ⟨D, rfl, hD0, hD9, hb5⟩ := hrel
          by_cases hD : D < 9
          · have e0 : ∀ q : Later wr, q.W.cell? ⟨w2.heap.size, 0, none⟩ = some (.slice A6 NR c6) := later_cell ((hb5.cell (p := ⟨w2.heap.size, 0, none⟩) hgx).trans z0) (Nat.lt_of_lt_of_le hgx hb5.size)
            have e1 : ∀ q : Later wr, q.W.cell? ⟨w2.heap.size, 1, none⟩ = some (.slice A7 NR c7) := later_cell ((hb5.cell (p := ⟨w2.heap.size, 1, none⟩) hgx).trans z1) (Nat.lt_of_lt_of_le hgx hb5.size)
            have e2 : ∀ q : Later wr, q.W.cell? ⟨w2.heap.size, 2, none⟩ = some (.slice A8 NR c8) := later_cell ((hb5.cell (p := ⟨w2.heap.size, 2, none⟩) hgx).trans z2) (Nat.lt_of_lt_of_le hgx hb5.size)
            obtain ⟨Z, hZ⟩ : ∃ Z, snt R D = Z := ⟨_, rfl⟩
            have y1 := fun (q : Later wr) => ((p4.below hb5).below q.h).sent D hZ
            have y2 := fun (q : Later wr) => xsent_any q.W B _ _ _ F R D ((hzx.below hb5).below q.h) hG4
            rw [hZ] at y2
            have t5 : (Z != Z) = false := by simp
            obtain ⟨D2, hD2⟩ : ∃ D2, D2 = D + 1 := ⟨_, rfl⟩
            have u1 : wrap64 (D + 1) = D2 := by unfold wrap64; omega
            have u2 : IntKind.i64.wrap (D + 1) = D2 := by rw [IntKind.wrap_i64]; omega
            have HD2 := Lib.hid hD2
            clear hZ hD2 z0 z1 z2
            go_wp2_with fail
            refine wp_region_later (by kernel_rfl) (by kernel_rfl) ?_
            repeat (go_big_quiet_step ((first | (go_at_call 11; exact later_of (y1 _)) | (go_at_call 14; exact later_of (y2 _)))))
            refine wpQuiet_nil ?_
            rintro _ ⟨⟨w6, hb6⟩, rfl⟩
            go_wp2_with fail
            go_roundw
            case rel => exact ⟨D2, rfl, by rw [HD2.out]; omega, by rw [HD2.out]; omega, hb5.trans (hb6.mono hb5.size)⟩
            case measure => have := HD2.out; simp [intOf]; omega
          · have hDe : decide (D < 9) = false := decide_eq_false hD
            clear z0 z1 z2
            go_wp2_with fail
            refine (hlv _).mono ?_
            rintro e w6 ⟨rfl, hb6⟩
            go_wp2_with fail
            go_ret
            have h6 := (hb4.mono hsB).trans (hb5.mono (by omega))
            exact ⟨rfl, h6.trans (hb6.mono h6.size)⟩
  · have x1 := new_bad l w A n c hln hr h31 hz h0
    have x3 := fun W (hb : Below w.heap.size w W) => xnew_bad l W A n c hln (x2 W hb) hnn h31 hz h0
    obtain ⟨E, hE⟩ : ∃ E, E = chk [] l := ⟨_, rfl⟩
    rw [← hE] at x1 x3 h0
    have t4 : (E != 0) = true := by simpa using h0
    have t5 : (E == E) = true := by simp
    clear hr hln hz h0 hE hq hn2 x2
    go_enter Try.func4, Try.ntmps4
    go_wp2_with fail
    refine x1.mono ?_
    rintro e w1 ⟨rfl, b1⟩
    clear x1
    go_wp2_with fail
    refine (x3 w1 b1).mono ?_
    rintro e w2 ⟨rfl, b2⟩
    have b3 := b1.trans (b2.mono b1.size)
    clear x3
    go_wp2_with fail
    refine (mnext_nil _ _ _ _).mono ?_
    rintro e w3 ⟨rfl, rfl⟩
    go_wp2_with fail
    refine (msent_nil _ _).mono ?_
    rintro e w4 ⟨rfl, rfl⟩
    go_wp2_with fail
    refine (mclone_nil _).mono ?_
    rintro e w5 ⟨rfl, rfl⟩
    go_wp2_with fail
    refine (hlv _).mono ?_
    rintro e w6 ⟨rfl, hb6⟩
    go_wp2_with fail
    go_ret
    have b4 := (b3.alloc b3.size (.cells #[.slice none 0 0, .slice none 0 0, .slice none 0 0] 30))
    have b5 := b4.alloc b4.size (.cells #[.int .i64 0] 3)
    exact ⟨rfl, b5.trans (hb6.mono b5.size)⟩
end Go.Proofs.Ytpfhbojodapomaa.Mux
