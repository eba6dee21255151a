/-
  Package packer: permitted, Push.
-/
import Derived.Test.YtjjjlgaidklokaaPkrW1
namespace Go.Proofs.Ytjjjlgaidklokaa.Pkr
open Go.RowKit
open Pac (bel_new deE deN deP decode_any)

set_option maxHeartbeats 1000000 in
theorem permitted_any (a : Option Addr) (l : List Byte) (n c : Nat) (w : World) (h : Rd w a l n c) :
    Calls Try.prog 25 #[.slice a n c] w fun e w' => e = .returned (.bool (decide (Pkt l))) ∧ Below w.heap.size w w' := by
  have hd := decode_any a l n c w (Lib.hid h.len) h.bs h.nil h.le h.max
  have hln := h.len
  obtain ⟨N, hN⟩ : ∃ N, deN l = N := ⟨_, rfl⟩
  obtain ⟨E, hE⟩ : ∃ E, deE l = E := ⟨_, rfl⟩
  obtain ⟨P, hP⟩ : ∃ P, deP l = P := ⟨_, rfl⟩
  obtain ⟨com, sec, ap, fl, ct, d⟩ := P
  rw [hN, hE, hP] at hd
  by_cases h1 : E = 0
  · by_cases h2 : N = n
    · by_cases h3 : ap = 2047
      · rw [decide_eq_false (fun k : Pkt l => k.a (by rw [hP]; exact h3))]
        have t1 : (E == 0) = true := by simpa using h1
        have t2 : ((N : Int) == (n : Int)) = true := by simp; omega
        have t3 : (ap != 2047) = false := by simpa using h3
        clear h hN hE hP h1 h2 h3 hln
        go_enter Try.func25, Try.ntmps25
        go_wp2_with fail
        refine hd.mono ?_
        rintro e w2 ⟨v, rfl, o2, b2⟩
        obtain ⟨A2, c2, rfl, _⟩ := o2.reads
        have HB := Lib.hid (b2.alloc b2.size (.cells #[.bool com, .bool sec, .int .i64 ap, .int .i64 fl, .int .i64 ct, .slice A2 d.length c2] 60))
        clear o2 b2 hd
        go_wp2
        go_ret
        exact ⟨rfl, HB.out⟩
      · rw [decide_eq_true (⟨by rw [hE]; exact h1, by rw [hN, h2, hln], by rw [hP]; exact h3⟩ : Pkt l)]
        have t1 : (E == 0) = true := by simpa using h1
        have t2 : ((N : Int) == (n : Int)) = true := by simp; omega
        have t3 : (ap != 2047) = true := by simpa using h3
        clear h hN hE hP h1 h2 h3 hln
        go_enter Try.func25, Try.ntmps25
        go_wp2_with fail
        refine hd.mono ?_
        rintro e w2 ⟨v, rfl, o2, b2⟩
        obtain ⟨A2, c2, rfl, _⟩ := o2.reads
        have HB := Lib.hid (b2.alloc b2.size (.cells #[.bool com, .bool sec, .int .i64 ap, .int .i64 fl, .int .i64 ct, .slice A2 d.length c2] 60))
        clear o2 b2 hd
        go_wp2
        go_ret
        exact ⟨rfl, HB.out⟩
    · rw [decide_eq_false (fun k : Pkt l => h2 (by rw [← hN, k.n, hln]))]
      have t1 : (E == 0) = true := by simpa using h1
      have t2 : ((N : Int) == (n : Int)) = false := by simp; omega
      clear h hN hE hP h1 h2 hln
      go_enter Try.func25, Try.ntmps25
      go_wp2_with fail
      refine hd.mono ?_
      rintro e w2 ⟨v, rfl, o2, b2⟩
      obtain ⟨A2, c2, rfl, _⟩ := o2.reads
      have HB := Lib.hid (b2.alloc b2.size (.cells #[.bool com, .bool sec, .int .i64 ap, .int .i64 fl, .int .i64 ct, .slice A2 d.length c2] 60))
      clear o2 b2 hd
      go_wp2
      go_ret
      exact ⟨rfl, HB.out⟩
  · rw [decide_eq_false (fun k : Pkt l => h1 (by rw [← hE, k.e]))]
    have t1 : (E == 0) = false := by simpa using h1
    clear h hN hE hP h1 hln
    go_enter Try.func25, Try.ntmps25
    go_wp2_with fail
    refine hd.mono ?_
    rintro e w2 ⟨v, rfl, o2, b2⟩
    obtain ⟨A2, c2, rfl, _⟩ := o2.reads
    have HB := Lib.hid (b2.alloc b2.size (.cells #[.bool com, .bool sec, .int .i64 ap, .int .i64 fl, .int .i64 ct, .slice A2 d.length c2] 60))
    clear o2 b2 hd
    go_wp2
    go_ret
    exact ⟨rfl, HB.out⟩

section
variable {w w' : World} {g Z R nr cr nw cw : Nat} {s : PS} {Ar Aw : Option Addr} {F S : List Nat}
/-- what waits has grown -/
theorem PC.grow (h : PC w g Z R s Ar nr cr Aw nw cw) {l : List Byte} {A' : Option Addr} {n' c' : Nat} (hm : Md w' 0 5 A' n' c' (s.wt ++ l)) (k : Only (blkA Aw) w w') (hn : ∀ x ∈ blkA A', x ∈ blkA Aw ∨ w.heap.size ≤ x) :
    Cel w' g 56 #[.int .i64 (Z : Int), .int .i64 (R : Int), .slice Ar nr cr, .slice Aw nw cw, .int .i64 (s.fb.length : Int)] ∧ PC (w'.setCell ⟨g, 3, none⟩ (.slice A' n' c')) g Z R { s with ls := s.ls ++ [l] } Ar nr cr A' n' c' := by
  have hc := h.c.only k h.gw
  have hr := h.mr.only k (fun x hx hm => h.ap x hm hx)
  have k2 := set_only w' g 3 (.slice A' n' c')
  have hg := Md.off hm hc (by decide)
  refine ⟨hc, hc.put 3 _, hr.only k2 (fun x hx hm => h.gr (List.mem_singleton.1 hm ▸ hx)), ?_, fun x hx hm => ?_⟩
  · rw [push_wt]
    exact hm.only k2 (fun x hx hm => hg (List.mem_singleton.1 hm ▸ hx))
  · rcases hn x hx with h1 | h1
    · exact h.ap x h1 hm
    · have := (h.mr.lt x hm).2; omega

set_option maxHeartbeats 2000000 in
theorem ppush_any (h : PW w g F Z R s) {a : Option Addr} {l : List Byte} {n c : Nat} (hl : Rd w a l n c) :
    Calls Try.prog 9 #[.pointer (some ⟨g, 0, none⟩), .slice a n c] w fun e w' => e = .returned (.int .i64 (psE R l s)) ∧ ∃ F', PW w' g F' Z R (psS R l s) ∧ Only F w w' ∧ ∀ x ∈ F', x ∈ F ∨ w.heap.size ≤ x := by
  have h0 := h
  obtain ⟨⟨Ar, nr, cr, Aw, nw, cw, hc, rfl⟩, hZ1, hZ2, hR, hs⟩ := h
  have hwk := pworks_pc hc hZ1
  have hpm := permitted_any a l n c w hl
  have hlw := hc.mw.1
  have hws := hs.w
  by_cases hp : Pkt l
  · rw [decide_eq_true hp] at hpm
    have h7 := hp.seven
    have h8 := hp.most
    have hln := hl.len
    obtain ⟨M, hM⟩ : ∃ M, nw + n = M := ⟨_, rfl⟩
    have hM' : (nw : Int) + (n : Int) = (M : Int) := by omega
    have hM2 : wrap64 (M : Int) = (M : Int) := by unfold wrap64; omega
    by_cases hf : R < M
    · obtain ⟨e1, e2⟩ := ps_full (R := R) (s := s) hp (by omega)
      rw [e1, e2]
      have t1 : decide ((R : Int) < (M : Int)) = true := by simpa using hf
      have t1' : decide (R < M) = true := by simpa using hf
      have HH := Lib.hid (And.intro h0 hc)
      clear hs hp hl hln hlw hf e1 e2 h7 h8 h0 hc
      go_enter Try.func9, Try.ntmps9
      go_wp2_with fail
      refine hwk.mono ?_
      rintro e w1 ⟨rfl, rfl⟩
      go_wp2_with fail
      refine hpm.mono ?_
      rintro e w2 ⟨rfl, b2⟩
      have h2 := HH.out.2.below b2
      have c1 := h2.c.cell 1
      have c3 := h2.c.cell 3
      simp at c1 c3
      have HB := Lib.hid b2
      clear h2 b2
      go_wp2
      go_quiet (fail)
      go_wp2
      go_ret
      have b := HB.out.trans ((drewN_below w2 nq).mono HB.out.size)
      exact ⟨rfl, _, HH.out.1.below b, Only.of_below b, fun x hx => .inl hx⟩
    · obtain ⟨e1, e2⟩ := ps_yes (R := R) (s := s) hp (by omega)
      have hok := hs.push hp (by omega)
      rw [e1, e2]
      have t1 : decide ((R : Int) < (M : Int)) = false := by simpa using hf
      have t1' : decide (R < M) = false := by simpa using hf
      have hn47 : nw + n ≤ 140737488355328 := by omega
      have hn0 : 0 < n := by omega
      have HH := Lib.hid (And.intro h0 (And.intro hc (And.intro hl (And.intro hok hM))))
      have HN := Lib.hid (And.intro hn47 hn0)
      clear hs hp hl hln hlw hf e1 e2 h7 h8 h0 hc hok hn47 hn0
      go_enter Try.func9, Try.ntmps9
      go_wp2_with fail
      refine hwk.mono ?_
      rintro e w1 ⟨rfl, rfl⟩
      go_wp2_with fail
      refine hpm.mono ?_
      rintro e w2 ⟨rfl, b2⟩
      have h2 := HH.out.2.1.below b2
      have c1 := h2.c.cell 1
      have c3 := h2.c.cell 3
      simp at c1 c3
      have HB := Lib.hid b2
      clear h2 b2
      go_wp2
      go_quiet (fail)
      obtain ⟨w3, hw3⟩ : ∃ w3, w3 = w2.drewN nq := ⟨_, rfl⟩
      have b3 : Below w.heap.size w w3 := by rw [hw3]; exact HB.out.trans ((drewN_below w2 nq).mono HB.out.size)
      have h3 := HH.out.2.1.below b3
      obtain ⟨A', c', w4, hrun, hmd, hon, hnew⟩ := run_mid (P := Try.prog) (ty := 28) (c2 := c) w3 is_bytes h3.mw HH.out.2.2.1.len (HH.out.2.2.1.later b3).bs HN.out.2 HN.out.1 (Nat.zero_le _)
      rw [hM] at hrun hmd
      obtain ⟨hc4, hp4⟩ := h3.grow hmd hon hnew
      have d3 := hc4.cell 3
      have f3 := hc4.free 3
      simp at d3
      have e3 := h3.c.cell 3
      simp at e3
      have HF := Lib.hid (And.intro hp4 (And.intro hon (And.intro hnew b3)))
      clear hmd hon hnew hc4 hp4 c1 c3 h3
      rw [← hw3]
      clear hw3
      go_wp2_with (at_builtin; refine Row.wpList_appendK _ rfl (.tmp 28) (.tmp 29) 28 28 rfl (.slice Aw nw cw) (.slice a n c) rfl rfl hrun ?_)
      go_ret
      obtain ⟨p1, p2, p3, p4⟩ := HF.out
      refine ⟨rfl, _, ⟨⟨_, _, _, _, _, _, p1, rfl⟩, hZ1, hZ2, hR, HH.out.2.2.2.1⟩, ?_, fun x hx => ?_⟩
      · refine ((Only.of_below p4).trans (p2.more (T := fam g Ar Aw) (fun x hx => .inl (by simp [fam, hx]))) (fun x hx => .inl hx)).put (p := ⟨g, 3, none⟩) (.inl (by simp [fam])) _
      · rcases List.mem_cons.1 hx with rfl | hx
        · exact .inl (by simp [fam])
        · rcases List.mem_append.1 hx with hx | hx
          · rcases p3 x hx with h1 | h1
            · exact .inl (by simp [fam, h1])
            · exact .inr (Nat.le_trans p4.size h1)
          · exact .inl (by simp [fam, hx])
  · obtain ⟨e1, e2⟩ := ps_no (R := R) (s := s) hp
    rw [e1, e2]
    rw [decide_eq_false hp] at hpm
    have HH := Lib.hid h0
    clear hs hp hl hlw e1 e2 h0 hc
    go_enter Try.func9, Try.ntmps9
    go_wp2_with fail
    refine hwk.mono ?_
    rintro e w1 ⟨rfl, rfl⟩
    go_wp2_with fail
    refine hpm.mono ?_
    rintro e w2 ⟨rfl, b2⟩
    go_wp2
    go_ret
    exact ⟨rfl, _, HH.out.below b2, Only.of_below b2, fun x hx => .inl hx⟩
end
end Go.Proofs.Ytjjjlgaidklokaa.Pkr
