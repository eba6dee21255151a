/-
  The walk of the law PacketBack.
-/
import Derived.Test.YtjchalphnbokaaaLaw10b
namespace Go.Proofs.Ytjchalphnbokaaa.Pac
open Go.RowKit

set_option maxRecDepth 100000 in
set_option maxHeartbeats 4000000 in
theorem packetBack_walk (com sec : Bool) (ap fl ct : Int) (a : Option Addr) (l : List Byte) (n c : Nat) (a' : Option Addr) (l' : List Byte) (n' c' : Nat) (w : World) (hl : Hid (l.length = n)) (hb : Bs w w.heap.size a l) (hn : a = none → c = 0) (hm : n ≤ maxLen)
    (hl' : Hid (l'.length = n')) (hb' : Bs w w.heap.size a' l') (hn' : a' = none → c' = 0) (hnc' : n' ≤ c') (hcm' : c' ≤ maxLen) :
    Calls Try.prog 6 #[.agg #[.bool com, .bool sec, .int .i64 ap, .int .i64 fl, .int .i64 ct, .slice a n c], .slice a' n' c'] w fun e w' => e = .returned (.bool true) ∧ Below w.heap.size w w' := by
  have b0 := bel_new w (.cells #[.bool com, .bool sec, .int .i64 ap, .int .i64 fl, .int .i64 ct, .slice a n c] 24)
  by_cases hbig : 5000 < n'
  · have g1 : decide ((5000 : Int) < (n' : Int)) = true := by simp; omega
    have g2 : decide (5000 < n') = true := by simp; omega
    clear hl hb hn hm hl' hb' hn' hnc' hcm' hbig
    go_enter Try.func6, Try.ntmps6
    go_wp2_with fail
    refine (alive10_any _).mono ?_
    rintro e w1 ⟨rfl, h1⟩
    go_wp2
    go_ret
    exact ⟨rfl, b0.trans (h1.mono b0.size)⟩
  have g1 : decide ((5000 : Int) < (n' : Int)) = false := by simp; omega
  have g2 : decide (5000 < n') = false := by simp; omega
  have x1 := fun W hB => encode_any com sec ap fl ct a l n c W hl hB hn hm
  have xD := fun W hB => decode_any a' l' n' c' W hl' hB hn' hnc' hcm'
  obtain ⟨P, hP⟩ : ∃ P, P = deP l' := ⟨_, rfl⟩
  obtain ⟨com', sec', ap', fl', ct', d'⟩ := P
  have hED := enc_dec (l := l')
  obtain ⟨M, hM⟩ : ∃ M, M = deN l' := ⟨_, rfl⟩
  obtain ⟨G, hG⟩ : ∃ G, G = deE l' := ⟨_, rfl⟩
  simp only [← hP, ← hM, ← hG] at xD hED
  have xE := fun W A cc hB hN hS => encode_any com' sec' ap' fl' ct' A d' d'.length cc W (Lib.hid rfl) hB hN hS
  have HED := Lib.hid hED
  have hbb : n' ≤ 5000 := by omega
  have p0 := Cel.new w 24 #[.bool com, .bool sec, .int .i64 ap, .int .i64 fl, .int .i64 ct, .slice a n c]
  have hb0 := (hb.below b0).more b0.size
  clear hP hM hG hED hbig
  cases hok : Pk.ok ⟨com, sec, ap, fl, ct, l⟩ with
  | false =>
    simp only [Pk.enc_no hok, Pk.err_no hok] at x1
    clear hok hl hn hm p0 hb
    go_enter Try.func6, Try.ntmps6
    go_wp2_with fail
    refine (x1 _ hb0).mono ?_
    rintro e w1 ⟨v1, rfl, o1, h1⟩
    obtain ⟨A1, c1, rfl, _, _, _⟩ := o1.reads_len (n := 0) rfl
    have bel1 := b0.trans (h1.mono b0.size)
    clear x1 h1 hb0 b0 o1
    have hbT := (hb'.below bel1).more bel1.size
    go_wp2_with fail
    refine (xD _ hbT).mono ?_
    rintro e wD ⟨vD, rfl, oD, hD⟩
    obtain ⟨AD, cD, rfl, hAD, hnD, hlD, hmD⟩ := oD.reads
    have belD := bel1.trans (hD.mono bel1.size)
    have kD := bel_new wD (.cells #[.bool com', .bool sec', .int .i64 ap', .int .i64 fl', .int .i64 ct', .slice AD d'.length cD] 24)
    have belD' := belD.trans (kD.mono belD.size)
    have hAD' := (hAD.below kD).more kD.size
    clear xD hbT hD oD hAD
    by_cases hG0 : G = 0
    · obtain ⟨k1, k2, k3⟩ := HED.out hG0
      subst hG0
      have xE' := xE _ AD cD hAD' hnD (by omega)
      rw [k2, Pk.err_yes k1] at xE'
      have hmc : (M : Int) ≤ (c' : Int) := by have := hl'.out; omega
      have y1 : decide ((M : Int) < 0) = false := by simp
      have y2 : decide ((n' : Int) < (M : Int)) = false := by have := hl'.out; simp; omega
      have y3 : decide (n' < M) = false := by have := hl'.out; simp; omega
      have hTl : (l'.take M).length = M := by have := hl'.out; rw [List.length_take]; omega
      obtain ⟨E', hE'⟩ : ∃ E', E' = l'.take M := ⟨_, rfl⟩
      have hbE := hb'.take M
      rw [← hE'] at xE' hTl hbE
      have y4 : ((str E').toList != (str E').toList) = false := by simp
      clear k1 k2 k3 xE hAD' hnD hE'
      go_wp2_with fail
      refine xE'.mono ?_
      rintro e wE ⟨vE, rfl, oE, hE⟩
      obtain ⟨AE, cE, rfl, hAE, hnE, _⟩ := oE.reads_len (n := M) hTl
      have belE := belD'.trans (hE.mono belD'.size)
      have hbE2 := (hbE.below belE).more belE.size
      clear xE' hE oE hbE
      go_wp2_with fail
      refine wp_region_later (by kernel_rfl) (by kernel_rfl) ?_
      have q1 : ∀ p : Later wE, (convert 22 9 (.slice AE M cE)).run Try.prog p.W = .ok (.string (str E')) p.W := conv_later hTl hAE hnE
      have q2 : ∀ p : Later wE, (convert 22 9 (.slice a' M c')).run Try.prog p.W = .ok (.string (str E')) p.W := conv_later hTl hbE2 hn'
      clear hbE2 hAE hnE hTl
      repeat (go_big_quiet_step (fail))
      refine wpQuiet_nil ?_
      rintro _ ⟨⟨wF, belF⟩, rfl⟩
      have belF' := belE.trans (belF.mono belE.size)
      go_wp2_with fail
      refine (alive10_any _).mono ?_
      rintro e wG ⟨rfl, hG'⟩
      go_wp2
      go_ret
      exact ⟨rfl, belF'.trans (hG'.mono belF'.size)⟩
    · have y0 : (G == 0) = false := by simpa using hG0
      clear hG0 HED xE hAD'
      go_wp2_with fail
      refine (alive10_any _).mono ?_
      rintro e wG ⟨rfl, hG'⟩
      go_wp2
      go_ret
      exact ⟨rfl, belD'.trans (hG'.mono belD'.size)⟩
  | true =>
    have hDE := dec_enc hok l'
    simp only [Pk.err_yes hok] at x1
    have hEl : Pk.enc ⟨com, sec, ap, fl, ct, l⟩ = [] ∨ (Pk.enc ⟨com, sec, ap, fl, ct, l⟩).length ≤ 4096 := .inr (by have := (Pk.ok_fits hok).2.2.2.2.2.2.2; rw [Pk.enc_yes hok, List.length_append]; simp only [Pk.head, hdr_len]; simp only at this; omega)
    obtain ⟨E, hE⟩ : ∃ E, E = Pk.enc ⟨com, sec, ap, fl, ct, l⟩ := ⟨_, rfl⟩
    rw [← hE] at hDE hEl
    simp only [← hE] at x1
    have hEl' : E.length ≤ 4096 := by rcases hEl with h | h; (rw [h]; simp); exact h
    obtain ⟨d1, d2, d3⟩ := hDE
    obtain ⟨R, hR⟩ : ∃ R, R = E ++ l' := ⟨_, rfl⟩
    have hRl : R.length = E.length + n' := by rw [hR, List.length_append, hl'.out]
    have xR := fun A cc W hB hN hS hC => decode_any A R (E.length + n') cc W (Lib.hid hRl) hB hN hS hC
    rw [← hR] at d1 d2 d3
    simp only [d1, d2, d3] at xR
    have HR := Lib.hid hR
    have HEL := Lib.hid hEl'
    have z1 : ((E.length : Int) != (E.length : Int)) = false := by simp
    have hln := hl.out
    clear hok hEl hE hEl' d1 d2 d3 hR hRl hm
    go_enter Try.func6, Try.ntmps6
    go_wp2_with fail
    refine (x1 _ hb0).mono ?_
    rintro e w1 ⟨v1, rfl, o1, h1⟩
    obtain ⟨A1, c1, rfl, hA1, hn1, hlc1, hmc1⟩ := o1.reads
    have bel1 := b0.trans (h1.mono b0.size)
    have p1 := Cel.later p0 h1
    clear x1 h1 hb0 b0 p0
    have belE := (bel_new w1 (.cells #[] 5))
    have belE' := bel1.trans (belE.mono bel1.size)
    have pE := Cel.later p1 belE
    have oE := Ow_empty w1 w1.heap.size 5 (Nat.le_refl _)
    have hAE := hA1.below belE
    go_wp2_with (first
      | (at_builtin; refine wpList_app _ is_bytes rfl (.tmp 27) (.tmp 28) rfl (m := []) rfl oE (l := E) (A := A1) (c := c1) rfl hAE hn1 (by have := HEL.out; simp; omega) belE.size ?_; intro v2 w2 o2 g2; have bel2 := (Below.refl w1.heap.size (w1.alloc (.cells #[] 5))).grown g2 belE.size oE.base_le)
      | (at_builtin; refine wpList_app _ is_bytes rfl (.tmp 29) (.tmp 30) rfl (m := [] ++ E) rfl o2 (l := l') (A := a') (c := c') (by rw [hl'.out]; rfl) (hb'.below (belE'.trans (bel2.mono bel1.size))) hn' (by have := HEL.out; have := hl'.out; simp; omega) (Nat.le_trans belE.size bel2.size) ?_; intro v3 w3 o3 g3; obtain ⟨A3, c3, rfl, hA3, hn3, hlc3, hmc3⟩ := o3.reads_len (n := E.length + n') (by rw [List.nil_append, List.length_append, hl'.out])))
    rw [List.nil_append, ← HR.out] at hA3 o3
    have bel3 := bel2.grown g3 (Nat.le_trans belE.size bel2.size) o2.base_le
    have k13 := belE.trans bel3
    have bel13 := bel1.trans (k13.mono bel1.size)
    have p3 := Cel.later p1 k13
    refine (xR A3 c3 _ hA3 hn3 hlc3 hmc3).mono ?_
    rintro e w4 ⟨v4, rfl, o4, h4⟩
    obtain ⟨A4, c4, rfl, hA4, hn4, _, _⟩ := o4.reads_len (n := n) hln
    have bel4 := bel13.trans (h4.mono bel13.size)
    have p4 := Cel.later p3 h4
    have k4 := bel_new w4 (.cells #[.bool com, .bool sec, .int .i64 ap, .int .i64 fl, .int .i64 ct, .slice A4 n c4] 24)
    have r4 := Cel.new w4 24 #[.bool com, .bool sec, .int .i64 ap, .int .i64 fl, .int .i64 ct, .slice A4 n c4]
    have p4' := Cel.later p4 k4
    have bel4' := bel4.trans (k4.mono bel4.size)
    have hA4' := (hA4.below k4).more k4.size
    have hb4 := (hb.below bel4').more bel4'.size
    have xS := xsame_any com sec ap fl ct a A4 l n c c4 _ hl hb4 hA4' hn hn4
    have m0 := p4'.cell 0
    have m1 := p4'.cell 1
    have m2 := p4'.cell 2
    have m3 := p4'.cell 3
    have m4 := p4'.cell 4
    have m5 := p4'.cell 5
    simp at m0 m1 m2 m3 m4 m5
    clear xR hA3 hn3 hlc3 hmc3 o3 g3 o2 g2 bel2 bel3 k13 bel13 p3 h4 o4 bel4 p4 k4 p4' r4 hA4 hA4' hb4 hb oE hAE belE belE' pE p1 hA1 bel1 o1 hn4 HR hl hn hln
    go_wp2_with fail
    refine xS.mono ?_
    rintro e w5 ⟨rfl, h5⟩
    have bel5 := bel4'.trans (h5.mono bel4'.size)
    clear xS h5 bel4' m0 m1 m2 m3 m4 m5
    have hbT := (hb'.below bel5).more bel5.size
    go_wp2_with fail
    refine (xD _ hbT).mono ?_
    rintro e wD ⟨vD, rfl, oD, hD⟩
    obtain ⟨AD, cD, rfl, hAD, hnD, hlD, hmD⟩ := oD.reads
    have belD := bel5.trans (hD.mono bel5.size)
    have kD := bel_new wD (.cells #[.bool com', .bool sec', .int .i64 ap', .int .i64 fl', .int .i64 ct', .slice AD d'.length cD] 24)
    have belD' := belD.trans (kD.mono belD.size)
    have hAD' := (hAD.below kD).more kD.size
    clear xD hbT hD oD hAD
    by_cases hG0 : G = 0
    · obtain ⟨k1, k2, k3⟩ := HED.out hG0
      subst hG0
      have xE' := xE _ AD cD hAD' hnD (by omega)
      rw [k2, Pk.err_yes k1] at xE'
      have hmc : (M : Int) ≤ (c' : Int) := by have := hl'.out; omega
      have y1 : decide ((M : Int) < 0) = false := by simp
      have y2 : decide ((n' : Int) < (M : Int)) = false := by have := hl'.out; simp; omega
      have y3 : decide (n' < M) = false := by have := hl'.out; simp; omega
      have hTl : (l'.take M).length = M := by have := hl'.out; rw [List.length_take]; omega
      obtain ⟨E', hE'⟩ : ∃ E', E' = l'.take M := ⟨_, rfl⟩
      have hbE := hb'.take M
      rw [← hE'] at xE' hTl hbE
      have y4 : ((str E').toList != (str E').toList) = false := by simp
      clear k1 k2 k3 xE hAD' hnD hE'
      go_wp2_with fail
      refine xE'.mono ?_
      rintro e wE ⟨vE, rfl, oE, hE⟩
      obtain ⟨AE, cE, rfl, hAE, hnE, _⟩ := oE.reads_len (n := M) hTl
      have belE := belD'.trans (hE.mono belD'.size)
      have hbE2 := (hbE.below belE).more belE.size
      clear xE' hE oE hbE
      go_wp2_with fail
      refine wp_region_later (by kernel_rfl) (by kernel_rfl) ?_
      have q1 : ∀ p : Later wE, (convert 22 9 (.slice AE M cE)).run Try.prog p.W = .ok (.string (str E')) p.W := conv_later hTl hAE hnE
      have q2 : ∀ p : Later wE, (convert 22 9 (.slice a' M c')).run Try.prog p.W = .ok (.string (str E')) p.W := conv_later hTl hbE2 hn'
      clear hbE2 hAE hnE hTl
      repeat (go_big_quiet_step (fail))
      refine wpQuiet_nil ?_
      rintro _ ⟨⟨wF, belF⟩, rfl⟩
      have belF' := belE.trans (belF.mono belE.size)
      go_wp2_with fail
      refine (alive10_any _).mono ?_
      rintro e wG ⟨rfl, hG'⟩
      go_wp2
      go_ret
      exact ⟨rfl, belF'.trans (hG'.mono belF'.size)⟩
    · have y0 : (G == 0) = false := by simpa using hG0
      clear hG0 HED xE hAD'
      go_wp2_with fail
      refine (alive10_any _).mono ?_
      rintro e wG ⟨rfl, hG'⟩
      go_wp2
      go_ret
      exact ⟨rfl, belD'.trans (hG'.mono belD'.size)⟩
end Go.Proofs.Ytjchalphnbokaaa.Pac
