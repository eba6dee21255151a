/-
  The walk of the law LinkDelivers.
-/
import Derived.Test.YtllhdgllgoanbaaLaw23d
import Derived.Deep.Cut
import Derived.Deep.CutBlock
namespace Go.Proofs.Ytllhdgllgoanbaa.Lnk
open Go.RowKit Go.Proofs.Ytllhdgllgoanbaa.Row
open Rng (R)
open Lst (Qb)

theorem own_form {w : World} {base : Nat} {e : TypeId} {v : Value} {l : List Qb} (h : Row.Os Lst.enc 1 w base e v l) : ∃ A n c, v = .slice A n c := by
  obtain ⟨A, c, e, _⟩ := h.reads Lst.enc_ok
  exact ⟨A, _, c, e⟩
theorem or_step {O p : Bool} {x t : Int} (h : p = (x == t)) : ((O || p) = (O || decide (x = t))) := by subst h; rw [Bool.eq_iff_iff]; simp
theorem mem_step {ms : List Int} {i : Nat} {x t : Int} (h : ms[i]? = some x) : decide (t ∈ ms.take (i + 1)) = (decide (t ∈ ms.take i) || (x == t)) := by
  rw [List.take_add_one, h, Bool.eq_iff_iff]
  simp only [Option.toList_some, List.mem_append, List.mem_singleton, decide_eq_true_eq, Bool.or_eq_true, beq_iff_eq]
  constructor
  · rintro (h | h)
    · exact .inl h
    · exact .inr h.symm
  · rintro (h | h)
    · exact .inl h
    · exact .inr h.symm
set_option maxHeartbeats 8000000 in
set_option maxRecDepth 100000 in
theorem linkDelivers_walk (D : Nat) (f0 f1 : Int) (a2 : Option Addr) (ms : List Int) (n2 k2 : Nat) (a3 : Option Addr) (l : List (List Byte)) (n k3 : Nat) (w : World) (hD : D < 256) (h2 : Sl encI 1 w a2 n2 k2 ms) (hl3 : Hid (l.length = n)) (h3 : Lst.LS w w.heap.size a3 l) (hn3 : a3 = none → k3 = 0) :
    Calls Try.prog 4 #[.int .u8 (D : Int), .agg #[I f0, I f1], .slice a2 n2 k2, .slice a3 n k3] w fun e w' => e = .returned (.bool true) ∧ Below w.heap.size w w' := by
  have hn2 : n2 ≤ 9223372036854775807 := by have := h2.le; have := h2.max; unfold maxLen at this; omega
  have b1 := bel_new w (.cells #[I f0, I f1] 53)
  have X1 := Cel.new w 53 #[I f0, I f1]
  obtain ⟨w1, hw1⟩ : ∃ w1, w1 = w.alloc (.cells #[I f0, I f1] 53) := ⟨_, rfl⟩
  by_cases h60 : 60 < n
  · have t1 : decide ((60 : Int) < (n : Int)) = true := by simp; omega
    have t1' : decide (60 < n) = true := by simpa using h60
    rw [← hw1] at b1
    clear h60 X1 h3 h2
    go_enter Try.func4, Try.ntmps4
    go_wp2_with fail
    rw [← hw1]
    clear hw1
    refine (alive_any _).mono ?_
    rintro e w2 ⟨rfl, b2⟩
    go_wp2
    go_ret
    exact ⟨rfl, b1.trans (b2.mono b1.size)⟩
  have t1 : decide ((60 : Int) < (n : Int)) = false := by simp; omega
  have t1' : decide (60 < n) = false := by simpa using h60
  by_cases h61 : 60 < n2
  · have t2 : decide ((60 : Int) < (n2 : Int)) = true := by simp; omega
    have t2' : decide (60 < n2) = true := by simpa using h61
    rw [← hw1] at b1
    clear h60 h61 X1 h3 h2
    go_enter Try.func4, Try.ntmps4
    go_wp2_with fail
    rw [← hw1]
    clear hw1
    refine (alive_any _).mono ?_
    rintro e w2 ⟨rfl, b2⟩
    go_wp2
    go_ret
    exact ⟨rfl, b1.trans (b2.mono b1.size)⟩
  have t2 : decide ((60 : Int) < (n2 : Int)) = false := by simp; omega
  have t2' : decide (60 < n2) = false := by simpa using h61
  have hn60 : n ≤ 60 := by omega
  have hn260 : n2 ≤ 60 := by omega
  have h2' := h2.below b1
  have h3' := (h3.below b1).more b1.size
  rw [← hw1] at b1 X1 h2' h3'
  have c0 := X1.cell 0
  have c1 := X1.cell 1
  simp at c0 c1
  have HB1 := Lib.hid b1
  have HX1 := Lib.hid X1
  have HL2 := Lib.hid h2'.len
  have hr2 := h2'.r
  have HS2 := Lib.hid h2'
  have H3 := Lib.hid h3'
  clear h60 h61 h2 h3 h2' h3' b1 X1
  go_enter Try.func4, Try.ntmps4
  go_wp2_with fail
  rw [← hw1]
  clear hw1
  go_loop [9] (fun iv => ∃ i : Nat, iv = .int .i64 (i : Int) ∧ i ≤ n2 ∧ Hid (loN (ms.take i) = false)) (fun iv => n2 - (intOf iv).toNat)
  case atStart => exact ⟨0, rfl, Nat.zero_le _, Lib.hid rfl⟩
  case round =>
    obtain ⟨i, rfl, hi, hno⟩ := hrel
    by_cases hin : i < n2
    · obtain ⟨x, hx⟩ : ∃ x, ms[i]? = some x := ⟨_, List.getElem?_eq_getElem (by rw [HL2.out]; exact hin)⟩
      obtain ⟨ba, off, rfl, hba, hcc⟩ := hr2 (by rw [HL2.out]; omega)
      have e0 : w1.cell? ⟨ba, off + i, none⟩ = some (I x) := by simpa using hcc i x hx 0 _ rfl
      have HST : Hid (loN (ms.take (i + 1)) = (loN (ms.take i) || decide (x < 0))) := Lib.hid (any_step hx)
      clear hcc hx
      by_cases hx0 : x < 0
      · have t3 := decide_eq_true hx0
        clear hx0 hr2
        go_wp2_with fail
        refine (alive_any _).mono ?_
        rintro e w2 ⟨rfl, b2⟩
        go_wp2
        go_ret
        exact ⟨rfl, HB1.out.trans (b2.mono HB1.out.size)⟩
      · have t3 := decide_eq_false hx0
        have HST2 : Hid (loN (ms.take (i + 1)) = false) := Lib.hid (by rw [HST.out, hno.out, t3]; rfl)
        clear hx0 hr2
        go_wp2
        go_round
        case rel => exact ⟨i + 1, by go_num, hin, HST2⟩
        case measure => simp [intOf]; omega
    · obtain rfl : i = n2 := by omega
      have hlo : loN ms = false := by
        have := hno.out
        rwa [List.take_of_length_le (Nat.le_of_eq HL2.out)] at this
      have hok : (dC D f0 f1 ms).ok = true := by
        have e1 : decide ((0 : Int) ≤ (D : Int)) = true := by simp
        have e2 : decide ((D : Int) ≤ 1099511627776) = true := by simp; omega
        show (((decide ((0 : Int) ≤ (D : Int)) && decide ((D : Int) ≤ 1099511627776)) && !loN ms) && !flN []) = true
        rw [e1, e2, hlo]
        rfl
      have l1 := Sl_new1 encR_ok w1 53 (f0, f1) #[I f0, I f1] rfl _ rfl
      have bb := bel_new w1 (.cells #[I f0, I f1] 53)
      have hnew := PL.new (c := dC D f0 f1 ms) w1 bb ⟨l1, HS2.out.below bb, Sl_nil _⟩ (by decide) (by omega) (by decide) hok
      clear hno hlo hok l1 bb hr2
      have hD0 : (0 : Int) ≤ (D : Int) := by omega
      have hD1 : (D : Int) < 256 := by omega
      go_wp2_with fail
      refine hnew.mono ?_
      rintro e W2 ⟨g, F0, rfl, p2, _, _⟩
      have hst : Hid (DL w1 W2 g F0 (dC D f0 f1 ms) (dS D f0 f1 ms l 0) 0 (.slice none 0 0) (dB D f0 f1 ms l 0 (min 0 n)) (.slice none 0 0) (dB D f0 f1 ms l 0 (dM D l 0))) := Lib.hid (by
        rw [dS_0, dB_nil (show min 0 n ≤ 0 by omega), dB_nil (show dM D l 0 ≤ 0 by unfold dM; omega)]
        exact ⟨p2, ⟨[], rfl, Row.Os.nil_ _ _ _, (fun q hq => nomatch hq)⟩, ⟨[], rfl, Row.Os.nil_ _ _ _, (fun q hq => nomatch hq)⟩, (fun j hj => nomatch hj), (fun j hj => nomatch hj), (fun j hj => nomatch hj)⟩)
      obtain ⟨T, hT⟩ : ∃ T, T = n + D := ⟨_, rfl⟩
      have hT1 : (n : Int) + (D : Int) = (T : Int) := by omega
      have hT2 : T ≤ 400 := by omega
      have hTw : wrap64 (T : Int) = (T : Int) := IntWalk.wrap64_in _ (by omega)
      have HT := Lib.hid hT
      clear hT
      clear hnew p2 c0 c1
      go_wp2_with fail
      go_loopw [12, 13, 14, 15, 16, 17] (fun wv gv tv _ _ _ wr => ∃ (t : Nat) (F : List Nat) (Aw : Option Addr) (nw cw : Nat) (Ag : Option Addr) (ng cg : Nat), wv = .slice Aw nw cw ∧ gv = .slice Ag ng cg ∧ tv = .int .i64 (t : Int) ∧ t ≤ T + 1 ∧ Hid (DL w1 wr g F (dC D f0 f1 ms) (dS D f0 f1 ms l t) t (.slice Aw nw cw) (dB D f0 f1 ms l 0 (min t n)) (.slice Ag ng cg) (dB D f0 f1 ms l 0 (dM D l t)))) (fun _ _ tv _ _ _ _ => T + 1 - (intOf tv).toNat)
      case atStart => exact ⟨0, F0, none, 0, 0, none, 0, 0, rfl, rfl, rfl, Nat.zero_le _, hst⟩
      case round =>
        obtain ⟨t, F, Aw, nw, cw, Ag, ng, cg, rfl, rfl, rfl, ht, HD⟩ := hrel
        clear hst
        by_cases htT : t ≤ T
        · have q1 : decide ((t : Int) ≤ (T : Int)) = true := by simp; omega
          have q1' : decide (t ≤ T) = true := by simpa using htT
          have hN1 : t < 100000 := by omega
          have HtT := Lib.hid htT
          obtain ⟨tb, htb⟩ : ∃ tb, decide ((t : Int) < (n : Int)) = tb := ⟨_, rfl⟩
          have htb2 : decide (t < n) = tb := by rw [← htb]; simp
          clear htT ht
          go_upto_if 63 with fail
          go_cut [12, 15, 16] from 64 to 111 (fun wv _ _ wx => ∃ (F' : List Nat) (s' : LS) (Aw' : Option Addr) (nw' cw' : Nat), wv = .slice Aw' nw' cw' ∧ Hid (DL w1 wx g F' (dC D f0 f1 ms) s' (t + 1) (.slice Aw' nw' cw') (dB D f0 f1 ms l 0 (min (t + 1) n)) (.slice Ag ng cg) (dB D f0 f1 ms l 0 (dM D l t))) ∧ Hid (rcS (t : Int) s' = dS D f0 f1 ms l (t + 1) ∧ rcO (t : Int) s' = dB D f0 f1 ms l (dM D l t) (dM D l (t + 1))))
          case first =>
            cases tb with
            | false =>
              have htn : n ≤ t := by simpa using htb2
              have HM := Lib.hid (show DL w1 wr g F (dC D f0 f1 ms) (dS D f0 f1 ms l t) (t + 1) (.slice Aw nw cw) (dB D f0 f1 ms l 0 (min (t + 1) n)) (.slice Ag ng cg) (dB D f0 f1 ms l 0 (dM D l t)) from by
                have := HD.out.up (Nat.le_succ t)
                rwa [show min t n = min (t + 1) n by omega] at this)
              have HR := Lib.hid (dS_rcv (D := D) (f0 := f0) (f1 := f1) (ms := ms) (l := l) (t := t) (by rw [hl3.out]; exact htn) (by omega))
              clear htb htb2 htn HD
              go_wp2
              go_meet
              case rel => exact ⟨F, _, Aw, nw, cw, rfl, HM, HR⟩
            | true =>
              have htn : t < n := by simpa using htb2
              have hx : l[t]? = some (dL l t) := by
                unfold dL
                rw [List.getD_eq_getElem?_getD, List.getElem?_eq_getElem (by rw [hl3.out]; exact htn)]
                rfl
              obtain ⟨x, hxx⟩ : ∃ x, x = dL l t := ⟨_, rfl⟩
              have HX := Lib.hid hxx
              rw [← hxx] at hx
              obtain ⟨bl, ol, al, cl, rfl, hbl, ul, dl⟩ := H3.out.at_ hx
              obtain ⟨M, hM⟩ : ∃ M, x.length = M := ⟨_, rfl⟩
              rw [hM] at ul
              have HML := Lib.hid hM
              have hMm : M ≤ 9223372036854775807 := by have := dl.l; have := dl.m; unfold maxLen at this; omega
              have ul' := (HD.out.p.b.cell (p := ⟨bl, ol + t, none⟩) hbl).trans ul
              have htn0 : (t : Int) < (n : Int) := by omega
              clear htb htb2 hx hxx hM
              by_cases hM20 : 20 < M
              · have t3 : decide ((20 : Int) < (M : Int)) = true := by simp; omega
                have t3' : decide (20 < M) = true := by simpa using hM20
                have HB3 : Hid (Below w.heap.size w wr) := Lib.hid (HB1.out.trans (HD.out.p.b.mono HB1.out.size))
                clear hM20 ul hMm
                go_wp2_with fail
                refine (alive_any _).mono ?_
                rintro e w2 ⟨rfl, b2⟩
                go_wp2
                go_ret
                exact ⟨rfl, HB3.out.trans (b2.mono HB3.out.size)⟩
              · have t3 : decide ((20 : Int) < (M : Int)) = false := by simp; omega
                have t3' : decide (20 < M) = false := by simpa using hM20
                have hsend := HD.out.send (by omega) HML.out dl.b dl.n (by omega) (now := (t : Int)) (s' := dS1 D f0 f1 ms l t) (by rw [HX.out]; exact dS_snd (by rw [hl3.out]; exact htn) (by omega))
                have hdl := Lib.hid dl
                clear hM20 dl
                go_wp2_with fail
                refine hsend.mono ?_
                rintro e W3 ⟨rfl, F', d3⟩
                have X3 : Cel W3 w.heap.size 53 #[I f0, I f1] := (d3.p.b.block _ HX1.out.lt).trans HX1.out
                have c0 := X3.cell 0
                have c1 := X3.cell 1
                simp at c0 c1
                have ul3 := (d3.p.b.cell (p := ⟨bl, ol + t, none⟩) hbl).trans ul
                have HD3 := Lib.hid d3
                have HR := Lib.hid (dS1_rcv (D := D) (f0 := f0) (f1 := f1) (ms := ms) (l := l) (t := t) (by rw [hl3.out]; exact htn))
                have HMN : Hid (min t n = t ∧ min (t + 1) n = t + 1) := Lib.hid (by omega)
                have hr3 := (HS2.out.r.below d3.p.b).more d3.p.b.size
                clear hsend d3 X3 ul ul' HD
                by_cases hf0 : f0 ≤ (t : Int)
                · have t4 := decide_eq_true hf0
                  obtain ⟨b0, hb0⟩ : ∃ b0, decide ((t : Int) < f1) = b0 := ⟨_, rfl⟩
                  have HB0 : Hid (b0 = Rng.has [(f0, f1)] (t : Int)) := Lib.hid (by simp [Rng.has, t4, hb0])
                  clear hf0
                  go_wp2_with fail
                  go_loop [15, 16] (fun ov iv => ∃ (j : Nat) (b : Bool), ov = .bool b ∧ iv = .int .i64 (j : Int) ∧ j ≤ i ∧ Hid (b = (b0 || decide ((t : Int) ∈ ms.take j)))) (fun _ iv => i - (intOf iv).toNat)
                  case atStart => exact ⟨0, b0, by first | rfl | rw [hb0], rfl, Nat.zero_le _, Lib.hid (by simp)⟩
                  case round =>
                    obtain ⟨j, b, rfl, rfl, hj, hb⟩ := hrel
                    by_cases hji : j < i
                    · obtain ⟨y, hy⟩ : ∃ y, ms[j]? = some y := ⟨_, List.getElem?_eq_getElem (by rw [HL2.out]; exact hji)⟩
                      obtain ⟨ba, off, rfl, hba, hcc⟩ := hr3 (by rw [HL2.out]; omega)
                      have e0 : W3.cell? ⟨ba, off + j, none⟩ = some (I y) := by simpa using hcc j y hy 0 _ rfl
                      have HST := Lib.hid (mem_step (t := (t : Int)) hy)
                      clear hcc hy
                      cases b with
                      | true =>
                        have HN : Hid (true = (b0 || decide ((t : Int) ∈ ms.take (j + 1)))) := Lib.hid (by rw [HST.out, ← Bool.or_assoc, ← hb.out]; rfl)
                        clear hr3
                        go_wp2
                        go_round
                        case rel => exact ⟨j + 1, true, rfl, by go_num, hji, HN⟩
                        case measure => simp [intOf]; omega
                      | false =>
                        have HN : Hid ((y == (t : Int)) = (b0 || decide ((t : Int) ∈ ms.take (j + 1)))) := Lib.hid (by rw [HST.out, ← Bool.or_assoc, ← hb.out, Bool.false_or])
                        clear hr3
                        go_wp2
                        go_round
                        case rel => exact ⟨j + 1, _, rfl, by go_num, hji, HN⟩
                        case measure => simp [intOf]; omega
                    · obtain rfl : j = i := by omega
                      have hgo : b = gone (dC D f0 f1 ms) (t : Int) t := by
                        have := hb.out
                        rw [List.take_of_length_le (Nat.le_of_eq HL2.out), HB0.out] at this
                        exact this
                      have hdo : dOk D f0 f1 ms t = !b := by rw [hgo]; rfl
                      clear hr3 hgo hb
                      cases b with
                      | true =>
                        have HM : Hid (DL w1 W3 g F' (dC D f0 f1 ms) (dS1 D f0 f1 ms l t) (t + 1) (.slice Aw nw cw) (dB D f0 f1 ms l 0 (min (t + 1) n)) (.slice Ag ng cg) (dB D f0 f1 ms l 0 (dM D l t))) := Lib.hid (by
                          have := HD3.out
                          rw [HMN.out.1] at this
                          rw [HMN.out.2, d_want, hdo, if_neg (by decide), List.append_nil]
                          exact this)
                        clear hdo
                        go_wp2
                        go_meet
                        case rel => exact ⟨F', _, Aw, nw, cw, rfl, HM, HR⟩
                      | false =>
                        have HW := Lib.hid (show dB D f0 f1 ms l 0 (min (t + 1) n) = dB D f0 f1 ms l 0 (min t n) ++ [x] from by rw [HMN.out.1, HMN.out.2, d_want, hdo, if_pos (by decide), HX.out])
                        have d4 := HD3.out.below (bel_new W3 (.cells #[.slice al M cl] 39))
                        have HD4 := Lib.hid d4
                        obtain ⟨qs, e1, e2, e3⟩ := d4.want
                        have hql : qs.length ≤ 500 := by
                          rw [← List.length_map (f := (·.l)), e1]
                          have := dB_len (D := D) (f0 := f0) (f1 := f1) (ms := ms) (l := l) 0 (min t n)
                          omega
                        have hsz := d4.p.b.size
                        have hd : Lst.Dt (W3.alloc (.cells #[.slice al M cl] 39)) w1.heap.size x al cl := hdl.out.below d4.p.b
                        have rs : Row.Rs Lst.enc 1 (W3.alloc (.cells #[.slice al M cl] 39)) (W3.heap.size + 1) (some ⟨W3.heap.size, 0, none⟩) [(⟨x, al, cl⟩ : Qb)] := Row.Rs_new1 Lst.enc_ok W3 _ _ _ (by unfold Lst.enc; rw [HML.out])
                        clear hdo d4
                        go_wp2_with (at_builtin; refine Row.wpList_row _ Lst.enc_ok is_lists (by decide) rfl (.tmp 105) (.tmp 110) rfl (v := Value.slice Aw nw cw) rfl e2 (l := [(⟨x, al, cl⟩ : Qb)]) (n := 1) (A := some ⟨W3.heap.size, 0, none⟩) (c := 1) rfl rfl rs (fun h => nomatch h) (by simp; omega) hsz ?_; intro v5 W5 own5 gr5 hv5; have d5 := HD4.out.addw e1 e3 hd rfl gr5 own5 hv5; obtain ⟨A5, n5, c5, rfl⟩ := own_form own5)
                        go_meet
                        case rel => exact ⟨F', _, A5, n5, c5, rfl, Lib.hid (by rw [HW.out]; exact d5), HR⟩
                · have t4 := decide_eq_false hf0
                  obtain ⟨b0, hb0⟩ : ∃ b0, b0 = false := ⟨_, rfl⟩
                  have HB0 : Hid (b0 = Rng.has [(f0, f1)] (t : Int)) := Lib.hid (by rw [hb0]; simp [Rng.has, t4])
                  clear hf0
                  go_wp2_with fail
                  go_loop [15, 16] (fun ov iv => ∃ (j : Nat) (b : Bool), ov = .bool b ∧ iv = .int .i64 (j : Int) ∧ j ≤ i ∧ Hid (b = (b0 || decide ((t : Int) ∈ ms.take j)))) (fun _ iv => i - (intOf iv).toNat)
                  case atStart => exact ⟨0, b0, by first | rfl | rw [hb0], rfl, Nat.zero_le _, Lib.hid (by simp)⟩
                  case round =>
                    obtain ⟨j, b, rfl, rfl, hj, hb⟩ := hrel
                    by_cases hji : j < i
                    · obtain ⟨y, hy⟩ : ∃ y, ms[j]? = some y := ⟨_, List.getElem?_eq_getElem (by rw [HL2.out]; exact hji)⟩
                      obtain ⟨ba, off, rfl, hba, hcc⟩ := hr3 (by rw [HL2.out]; omega)
                      have e0 : W3.cell? ⟨ba, off + j, none⟩ = some (I y) := by simpa using hcc j y hy 0 _ rfl
                      have HST := Lib.hid (mem_step (t := (t : Int)) hy)
                      clear hcc hy
                      cases b with
                      | true =>
                        have HN : Hid (true = (b0 || decide ((t : Int) ∈ ms.take (j + 1)))) := Lib.hid (by rw [HST.out, ← Bool.or_assoc, ← hb.out]; rfl)
                        clear hr3
                        go_wp2
                        go_round
                        case rel => exact ⟨j + 1, true, rfl, by go_num, hji, HN⟩
                        case measure => simp [intOf]; omega
                      | false =>
                        have HN : Hid ((y == (t : Int)) = (b0 || decide ((t : Int) ∈ ms.take (j + 1)))) := Lib.hid (by rw [HST.out, ← Bool.or_assoc, ← hb.out, Bool.false_or])
                        clear hr3
                        go_wp2
                        go_round
                        case rel => exact ⟨j + 1, _, rfl, by go_num, hji, HN⟩
                        case measure => simp [intOf]; omega
                    · obtain rfl : j = i := by omega
                      have hgo : b = gone (dC D f0 f1 ms) (t : Int) t := by
                        have := hb.out
                        rw [List.take_of_length_le (Nat.le_of_eq HL2.out), HB0.out] at this
                        exact this
                      have hdo : dOk D f0 f1 ms t = !b := by rw [hgo]; rfl
                      clear hr3 hgo hb
                      cases b with
                      | true =>
                        have HM : Hid (DL w1 W3 g F' (dC D f0 f1 ms) (dS1 D f0 f1 ms l t) (t + 1) (.slice Aw nw cw) (dB D f0 f1 ms l 0 (min (t + 1) n)) (.slice Ag ng cg) (dB D f0 f1 ms l 0 (dM D l t))) := Lib.hid (by
                          have := HD3.out
                          rw [HMN.out.1] at this
                          rw [HMN.out.2, d_want, hdo, if_neg (by decide), List.append_nil]
                          exact this)
                        clear hdo
                        go_wp2
                        go_meet
                        case rel => exact ⟨F', _, Aw, nw, cw, rfl, HM, HR⟩
                      | false =>
                        have HW := Lib.hid (show dB D f0 f1 ms l 0 (min (t + 1) n) = dB D f0 f1 ms l 0 (min t n) ++ [x] from by rw [HMN.out.1, HMN.out.2, d_want, hdo, if_pos (by decide), HX.out])
                        have d4 := HD3.out.below (bel_new W3 (.cells #[.slice al M cl] 39))
                        have HD4 := Lib.hid d4
                        obtain ⟨qs, e1, e2, e3⟩ := d4.want
                        have hql : qs.length ≤ 500 := by
                          rw [← List.length_map (f := (·.l)), e1]
                          have := dB_len (D := D) (f0 := f0) (f1 := f1) (ms := ms) (l := l) 0 (min t n)
                          omega
                        have hsz := d4.p.b.size
                        have hd : Lst.Dt (W3.alloc (.cells #[.slice al M cl] 39)) w1.heap.size x al cl := hdl.out.below d4.p.b
                        have rs : Row.Rs Lst.enc 1 (W3.alloc (.cells #[.slice al M cl] 39)) (W3.heap.size + 1) (some ⟨W3.heap.size, 0, none⟩) [(⟨x, al, cl⟩ : Qb)] := Row.Rs_new1 Lst.enc_ok W3 _ _ _ (by unfold Lst.enc; rw [HML.out])
                        clear hdo d4
                        go_wp2_with (at_builtin; refine Row.wpList_row _ Lst.enc_ok is_lists (by decide) rfl (.tmp 105) (.tmp 110) rfl (v := Value.slice Aw nw cw) rfl e2 (l := [(⟨x, al, cl⟩ : Qb)]) (n := 1) (A := some ⟨W3.heap.size, 0, none⟩) (c := 1) rfl rfl rs (fun h => nomatch h) (by simp; omega) hsz ?_; intro v5 W5 own5 gr5 hv5; have d5 := HD4.out.addw e1 e3 hd rfl gr5 own5 hv5; obtain ⟨A5, n5, c5, rfl⟩ := own_form own5)
                        go_meet
                        case rel => exact ⟨F', _, A5, n5, c5, rfl, Lib.hid (by rw [HW.out]; exact d5), HR⟩
          case rest =>
            obtain ⟨F', s', Aw', nw', cw', rfl, HD2, HR⟩ := hcut
            rename World => wx
            clear htb htb2 HD
            have hrecv := HD2.out.recv (by omega) (now := (t : Int)) HR.out.1 HR.out.2
            rcases d_out (D := D) (f0 := f0) (f1 := f1) (ms := ms) (l := l) t with ho | ⟨ho, htD, hJn⟩
            · rw [ho] at hrecv
              have HG := Lib.hid (show dB D f0 f1 ms l 0 (dM D l (t + 1)) = dB D f0 f1 ms l 0 (dM D l t) ++ [] from by rw [d_got, ho])
              clear ho HD2
              go_wp2_with fail
              refine hrecv.mono ?_
              rintro e W5 ⟨vr, rfl, lr, d5⟩
              obtain ⟨Am, km, rfl, hsm, hnm, _⟩ := lr.len (n := 0) rfl
              have HD5 := Lib.hid d5
              clear hrecv lr hsm d5
              go_wp2_with fail
              go_quiet (fail)
              obtain ⟨W6, hW6⟩ : ∃ W6, W6 = W5.drewN nq := ⟨_, rfl⟩
              have d6 : Hid (DL w1 W6 g F' (dC D f0 f1 ms) (dS D f0 f1 ms l (t + 1)) (t + 1) (.slice Aw' nw' cw') (dB D f0 f1 ms l 0 (min (t + 1) n)) (.slice Ag ng cg) (dB D f0 f1 ms l 0 (dM D l t))) := Lib.hid (by rw [hW6]; exact HD5.out.below (drewN_below _ _))
              rw [← hW6]
              clear hW6
              obtain ⟨qs, e1, e2, e3⟩ := d6.out.got
              have hql : qs.length ≤ 500 := by
                rw [← List.length_map (f := (·.l)), e1]
                have := dB_len (D := D) (f0 := f0) (f1 := f1) (ms := ms) (l := l) 0 (dM D l t)
                have h5 : dM D l t ≤ l.length := by unfold dM; omega
                have := hl3.out
                omega
              have hsz := d6.out.p.b.size
              go_wp2_with (at_builtin; refine Row.wpList_row _ Lst.enc_ok is_lists (by decide) rfl (.tmp 147) (.tmp 148) rfl (v := Value.slice Ag ng cg) rfl e2 (l := ([] : List Qb)) (n := 0) (B := 0) (A := Am) (c := km) rfl rfl Row.Rs.nil_ hnm (by simp; omega) hsz ?_; intro v7 W7 own7 gr7 hv7; have d7 := d6.out.addg e1 e3 (ms := []) (fun q hq => nomatch hq) rfl gr7 own7 hv7; obtain ⟨A7, n7, c7, rfl⟩ := own_form own7)
              go_roundw
              case rel => exact ⟨t + 1, F', Aw', nw', cw', A7, n7, c7, rfl, rfl, by go_num, by have := HtT.out; omega, Lib.hid (by rw [HG.out]; exact d7)⟩
              case measure => simp [intOf]; have := HtT.out; omega
            · rw [ho] at hrecv
              have HG := Lib.hid (show dB D f0 f1 ms l 0 (dM D l (t + 1)) = dB D f0 f1 ms l 0 (dM D l t) ++ [dL l (t - D)] from by rw [d_got, ho])
              obtain ⟨J, hJ⟩ : ∃ J, J = t - D := ⟨_, rfl⟩
              rw [← hJ] at hrecv HG hJn
              have hx : l[J]? = some (dL l J) := by
                unfold dL
                rw [List.getD_eq_getElem?_getD, List.getElem?_eq_getElem hJn]
                rfl
              obtain ⟨x, hxx⟩ : ∃ x, x = dL l J := ⟨_, rfl⟩
              rw [← hxx] at hx hrecv HG
              obtain ⟨bl, ol, al, cl, rfl, hbl, ul, dl⟩ := H3.out.at_ hx
              have hJ1 : (t : Int) - (D : Int) = (J : Int) := by omega
              have hJ2 : (J : Int) < (n : Int) := by have := hl3.out; omega
              have hJ0 : (0 : Int) ≤ (J : Int) := by omega
              have g1 : decide ((t : Int) < (D : Int)) = false := by simp; omega
              have g1' : decide (t < D) = false := by simpa using htD
              obtain ⟨M, hM⟩ : ∃ M, x.length = M := ⟨_, rfl⟩
              rw [hM] at ul
              have HML := Lib.hid hM
              have hJL := Lib.hid hJ
              clear ho HD2 hx hxx hM htD hJn hJ
              go_wp2_with fail
              refine hrecv.mono ?_
              rintro e W5 ⟨vr, rfl, lr, d5⟩
              obtain ⟨Am, km, rfl, hsm, hnm, _⟩ := lr.len (n := 1) rfl
              obtain ⟨bm, om, am, cm, rfl, hbm, um, dm⟩ := hsm.at_ (i := 0) rfl
              rw [HML.out, Nat.add_zero] at um
              have ul5 := (d5.p.b.cell (p := ⟨bl, ol + J, none⟩) hbl).trans ul
              have dl5 := ((dl.below d5.p.b).more d5.p.b.size)
              have hb5 := Nat.lt_of_lt_of_le hbl d5.p.b.size
              obtain ⟨rs, r1, r2, r3⟩ := lr
              have HD5 := Lib.hid (And.intro d5 (And.intro r2 (And.intro r3 r1)))
              clear hrecv hsm d5 r1 r2 r3 ul dl
              have e1 : ((str x).toList != (str x).toList) = false := by simp
              have w1' : ∀ p : Later W5, p.W.cell? ⟨bm, om, none⟩ = some (.slice am M cm) := later_cell um hbm
              have w2' : ∀ p : Later W5, p.W.cell? ⟨bl, ol + J, none⟩ = some (.slice al M cl) := later_cell ul5 hb5
              have w3' : ∀ p : Later W5, (convert 39 9 (.slice am M cm)).run Try.prog p.W = .ok (.string (str x)) p.W := conv_later HML.out dm.b dm.n
              have w4' : ∀ p : Later W5, (convert 39 9 (.slice al M cl)).run Try.prog p.W = .ok (.string (str x)) p.W := conv_later HML.out dl5.b dl5.n
              go_wp2_with fail
              refine wp_region_later (by kernel_rfl) (by kernel_rfl) ?_
              repeat (go_big_quiet_step (fail))
              refine wpQuiet_nil ?_
              rintro W6 ⟨p6, hp6⟩
              have b6 : Below W5.heap.size W5 W6 := by rw [hp6]; exact p6.h
              obtain ⟨d5, r2, r3, r1⟩ := HD5.out
              have d6 := Lib.hid (d5.below b6)
              have r2' := r2.below b6
              have r3' : ∀ q ∈ rs, Dq W6 q.l q.a q.c := fun q hq => (r3 q hq).keep (Kq.of_below b6)
              have hrl : rs.length = 1 := by rw [← List.length_map (f := (·.l)), r1]; rfl
              have HR1 := Lib.hid (And.intro r1 r3')
              have rsm := r2'.rs Lst.enc_ok
              clear p6 hp6 b6 w1' w2' w3' w4' um ul5 dl5 dm d5 r2 r3 r1 r2' r3' HD5 e1 g1 g1'
              obtain ⟨qs, e1, e2, e3⟩ := d6.out.got
              have hql : qs.length ≤ 500 := by
                rw [← List.length_map (f := (·.l)), e1]
                have := dB_len (D := D) (f0 := f0) (f1 := f1) (ms := ms) (l := l) 0 (dM D l t)
                have h5 : dM D l t ≤ l.length := by unfold dM; omega
                have := hl3.out
                omega
              have hsz := d6.out.p.b.size
              go_wp2_with (at_builtin; refine Row.wpList_row _ Lst.enc_ok is_lists (by decide) rfl (.tmp 147) (.tmp 148) rfl (v := Value.slice Ag ng cg) rfl e2 (l := rs) (n := 1) (B := W6.heap.size) (A := some ⟨bm, om, none⟩) (c := km) hrl rfl rsm (fun h => nomatch h) (by rw [hrl]; simp; omega) hsz ?_; intro v7 W7 own7 gr7 hv7; have d7 := d6.out.addg e1 e3 (ms := rs) HR1.out.2 rfl gr7 own7 hv7; obtain ⟨A7, n7, c7, rfl⟩ := own_form own7)
              go_roundw
              case rel => exact ⟨t + 1, F', Aw', nw', cw', A7, n7, c7, rfl, rfl, by go_num, by have := HtT.out; omega, Lib.hid (by rw [HG.out, ← HR1.out.1]; exact d7)⟩
              case measure => simp [intOf]; have := HtT.out; omega
        · have hte : t = n + D + 1 := by have := HT.out; omega
          have hte2 : t = l.length + D + 1 := by rw [hl3.out]; exact hte
          have q1 : decide ((t : Int) ≤ (T : Int)) = false := by simp; omega
          have q1' : decide (t ≤ T) = false := by simpa using htT
          have hde := d_end (D := D) (f0 := f0) (f1 := f1) (ms := ms) (l := l)
          rw [← hte2] at hde
          have hmn : min t n = n := by omega
          obtain ⟨d, hw, hg⟩ : DL w1 wr g F (dC D f0 f1 ms) (dS D f0 f1 ms l t) t (.slice Aw nw cw) (dB D f0 f1 ms l 0 n) (.slice Ag ng cg) (dB D f0 f1 ms l 0 n) ∧ (dS D f0 f1 ms l t).wt.length = 0 ∧ (dS D f0 f1 ms l t).sn = n := by
            have := HD.out
            rw [hde.1, hmn, hl3.out] at this
            exact ⟨this, by rw [hde.2]; rfl, by show min t l.length = n; rw [hl3.out]; exact hmn⟩
          obtain ⟨K, hK⟩ : ∃ K, (dB D f0 f1 ms l 0 n).length = K := ⟨_, rfl⟩
          have hK60 : K ≤ 60 := by rw [← hK]; have := dB_len (D := D) (f0 := f0) (f1 := f1) (ms := ms) (l := l) 0 n; omega
          obtain ⟨_, _, e1, s1, _⟩ := d.want.len d.p.b.size hK
          injection e1 with e1 e2 e3
          subst e1 e2 e3
          obtain ⟨_, _, e1, s2, _⟩ := d.got.len hK
          injection e1 with e1 e2 e3
          subst e1 e2 e3
          have hsame := same_eq (dB D f0 f1 ms l 0 n) ng cg cw Ag Aw wr (Lib.hid hK) s2 s1 (by omega)
          have hpd := fun W (b : Below wr.heap.size wr W) => (d.p.below b).pend hw
          have hst := fun W (b : Below wr.heap.size wr W) => (d.p.below b).sent hg
          have HB5 : Hid (Below w.heap.size w wr) := Lib.hid (HB1.out.trans (d.p.b.mono HB1.out.size))
          clear htT ht HD hde hte hte2 hmn d hw hg hK s1 s2
          go_wp2_with fail
          refine hsame.mono ?_
          rintro e W5 ⟨rfl, b5⟩
          go_wp2_with fail
          refine (hpd _ b5).mono ?_
          rintro e _ ⟨rfl, rfl⟩
          go_wp2_with fail
          refine (hst _ b5).mono ?_
          rintro e _ ⟨rfl, rfl⟩
          go_wp2_with fail
          refine (alive_any _).mono ?_
          rintro e W6 ⟨rfl, b6⟩
          go_wp2
          go_ret
          exact ⟨rfl, HB5.out.trans ((b5.trans (b6.mono b5.size)).mono HB5.out.size)⟩
end Go.Proofs.Ytllhdgllgoanbaa.Lnk
