/-
  The reference of layer 8: Remove, Pop.
-/
import Derived.Test.YtnnjmlpanbbanaaRef08c
namespace Go.Proofs.Ytnnjmlpanbbanaa.Rng.Que
open Go.RowKit Go.Shelf Ints

theorem rremove_results {tmps : Array Value} {W : World} {g : Nat} {x y e : Value} (h4 : tmps.getD 4 undef = .pointer (some ⟨g, 0, none⟩)) (h5 : tmps.getD 5 undef = e) (c0 : W.cell? ⟨g, 0, none⟩ = some x) (c1 : W.cell? ⟨g, 1, none⟩ = some y) :
    (results Try.f16 tmps).run Try.prog W = .ok (.tuple #[.agg #[x, y], e]) W := by
  simp only [Array.getD_eq_getD_getElem?] at h4 h5
  simp [results, Try.results16, go_sem, h4, h5, c0, c1]
theorem rpop_results {tmps : Array Value} {W : World} {g : Nat} {x y e f : Value} (h2 : tmps.getD 2 undef = .pointer (some ⟨g, 0, none⟩)) (h3 : tmps.getD 3 undef = e) (h4 : tmps.getD 4 undef = f) (c0 : W.cell? ⟨g, 0, none⟩ = some x) (c1 : W.cell? ⟨g, 1, none⟩ = some y) :
    (results Try.f14 tmps).run Try.prog W = .ok (.tuple #[.agg #[x, y], e, f]) W := by
  simp only [Array.getD_eq_getD_getElem?] at h2 h3 h4
  simp [results, Try.results14, go_sem, h2, h3, h4, c0, c1]

set_option maxHeartbeats 4000000 in
theorem rremove_any (i : Int) (L : List R) (cap : Nat) (w : World) (base : Nat) (v : Value) (h : Os w base 65 v L) (hb : base ≤ w.heap.size) (hlo : L.length ≤ 256) :
    Calls Try.prog 16 #[.agg #[I cap, v], I i] w fun e w' => ∃ v', e = .returned (.tuple #[.agg #[I cap, v'], .bool (hasI i L)]) ∧ Os w' base 65 v' (rm i L) ∧ Below w.heap.size w w' := by
  have hA0 := fun A n c (e : v = .slice A n c) => Os_addr (e ▸ h)
  obtain ⟨A, c, rfl, hr, hn, hc1, hc2⟩ := h.reads
  have hA0 := hA0 _ _ _ rfl
  obtain ⟨n, hnl⟩ : ∃ n, n = L.length := ⟨_, rfl⟩
  have b1 : Below w.heap.size w (w.alloc (.cells #[I cap, .slice A n c] 28)) := (Below.refl _ w).alloc (Nat.le_refl _) _
  have b2 : Below w.heap.size w ((w.alloc (.cells #[I cap, .slice A n c] 28)).alloc (.cells #[I 0, .slice none 0 0] 28)) := b1.alloc (by simp) _
  have x0 : Cel ((w.alloc (.cells #[I cap, .slice A n c] 28)).alloc (.cells #[I 0, .slice none 0 0] 28)) w.heap.size 28 #[I cap, .slice A n c] :=
    (Cel.new w _ _).only ((Only.refl [] _).alloc _) (by simp)
  have y0 : Cel ((w.alloc (.cells #[I cap, .slice A n c] 28)).alloc (.cells #[I 0, .slice none 0 0] 28)) (w.heap.size + 1) 28 #[I 0, .slice none 0 0] := by
    have := Cel.new (w.alloc (.cells #[I cap, .slice A n c] 28)) 28 #[I 0, .slice none 0 0]
    simpa using this
  obtain ⟨w2, hw2⟩ : ∃ w2, w2 = (w.alloc (.cells #[I cap, .slice A n c] 28)).alloc (.cells #[I 0, .slice none 0 0] 28) := ⟨_, rfl⟩
  rw [← hw2] at b2 x0 y0
  have hcon := rfind_any L cap i w2 A c ((hr.below b2).more b2.size) (by omega)
  have xc0 := Cel_c0 x0
  have xc1 := Cel_c1 x0
  have ho2 := h.below b2
  rw [← hnl] at hcon hc1 ho2 hlo ⊢
  have HN := Lib.hid hnl
  obtain ⟨E, hE⟩ : ∃ E, E = hasI i L := ⟨_, rfl⟩
  obtain ⟨F, hF⟩ : ∃ F, F = rm i L := ⟨_, rfl⟩
  rw [← hE, ← hF]
  have HE := Lib.hid hE
  have HF := Lib.hid hF
  have hs2 : w2.heap.size = w.heap.size + 2 := by rw [hw2]; simp
  have HS := Lib.hid hs2
  have HR := Lib.hid hr
  clear hE hF b1 h hr hnl hs2
  go_enter Try.func16, Try.ntmps16
  go_wp2_with fail
  rw [← hw2]
  refine hcon.mono ?_
  rintro e w3 ⟨q, rfl, hf, hb3⟩
  have b3 : Below w.heap.size w w3 := b2.trans (hb3.mono b2.size)
  have hsz3 : w.heap.size + 2 ≤ w3.heap.size := by have := hb3.size; have := HS.out; omega
  have x3 : Cel w3 w.heap.size 28 #[I cap, .slice A n c] := (hb3.block _ x0.lt).trans x0
  have y3 : Cel w3 (w.heap.size + 1) 28 #[I 0, .slice none 0 0] := (hb3.block _ y0.lt).trans y0
  have ho3 := ho2.below hb3
  have d0 := Cel_c0 x3
  have d1 := Cel_c1 x3
  have e0 := Cel_c0 y3
  have e1 := Cel_c1 y3
  have f0 : w3.frozen? ⟨w.heap.size + 1, 0, none⟩ = false := y3.free 0
  have f1 : w3.frozen? ⟨w.heap.size + 1, 1, none⟩ = false := y3.free 1
  clear hcon hw2 x0 y0 ho2 xc0 xc1 b2
  rcases fnd_has hf.out with ⟨rfl, hno⟩ | ⟨FA, z, FB, hsp, rfl, hhas, hrm⟩
  · have hE2 : E = false := by rw [HE.out]; exact hno
    have hF2 : F = L := by rw [HF.out]; exact rm_none hno
    have hquit := rq_put y3 b3 (by omega) (I cap) (.slice A n c)
    have hoq : Os ((w3.setCell ⟨w.heap.size + 1, 0, none⟩ (I cap)).setCell ⟨w.heap.size + 1, 1, none⟩ (.slice A n c)) base 65 (.slice A n c) L := ho3.only hquit.2.2.2 (fun j hj => by
      have := (own_apart ho3 y3 (by decide))
      intro e
      simp at e
      exact this (by rw [hj, e]))
    subst hE2
    subst hF2
    clear hno HE HF hf
    go_wp2
    refine bodyPost_ret (rremove_results rfl rfl hquit.1 hquit.2.1) rfl ⟨_, rfl, hoq, hquit.2.2.1⟩
  · have hE2 : E = true := by rw [HE.out]; exact hhas
    have hF2 : Hid (F = FA ++ FB) := Lib.hid (by rw [HF.out]; exact hrm)
    subst hE2
    obtain ⟨k, hk⟩ : ∃ k, k = FA.length := ⟨_, rfl⟩
    obtain ⟨m, hm⟩ : ∃ m, m = FB.length := ⟨_, rfl⟩
    have hn1 : n = k + 1 + m := by have := HN.out; rw [hsp] at this; simp at this; omega
    obtain ⟨N, hN1⟩ : ∃ N, N = k + m := ⟨_, rfl⟩
    have hFl : Hid (F.length = N) := Lib.hid (by rw [hF2.out, hN1, hk, hm]; simp)
    rcases hA0 with ⟨rfl, rfl⟩ | ⟨g, rfl⟩
    · omega
    have hkl : FA.length = k := hk.symm
    have hdl : FB.length = m := hm.symm
    have HRA : Hid (Rs w w.heap.size (some ⟨g, 0, none⟩) FA) := Lib.hid (by
      have := Rs_take HR.out k
      rwa [hsp, hk, List.take_left] at this)
    obtain ⟨AD, hAD, HRB⟩ : ∃ AD : Addr, (if c = k + 1 then (some (⟨g, 0, none⟩ : Addr)) else some ⟨g, (k + 1) * 2, none⟩) = some AD ∧ Hid (Rs w w.heap.size (some AD) FB) := by
      by_cases hc : c = k + 1
      · refine ⟨⟨g, 0, none⟩, by simp [hc], Lib.hid ?_⟩
        have h0 : FB = [] := List.eq_nil_of_length_eq_zero (by omega)
        rw [h0]; exact Rs.nil_
      · refine ⟨⟨g, (k + 1) * 2, none⟩, by simp [hc], Lib.hid ?_⟩
        have := HR.out.drop (k + 1)
        rw [Nat.zero_add, hsp, hk] at this
        rw [hk]
        simpa using this
    have hown0 : Os (w3.alloc (.cells #[] 65)).drew w3.heap.size 65 (.slice (some ⟨w3.heap.size, 0, none⟩) 0 0) [] :=
      ⟨rfl, .inr ⟨w3.heap.size, 0, #[], rfl, Nat.le_refl _, heap_alloc_new w3.drew _, Nat.le_refl _, by simp, rfl, rfl⟩⟩
    have b3d : Below w.heap.size w w3.drew := bel_drew b3
    have x3d : Cel w3.drew w.heap.size 28 #[I cap, .slice (some ⟨g, 0, none⟩) n c] := x3.draws 1
    have y3d : Cel w3.drew (w.heap.size + 1) 28 #[I 0, .slice none 0 0] := y3.draws 1
    have d1a : (w3.alloc (.cells #[] 65)).drew.cell? ⟨w.heap.size, 1, none⟩ = some (.slice (some ⟨g, 0, none⟩) n c) := Lib.cell?_alloc_some _ (Cel_c1 x3d)
    have hszd : w.heap.size ≤ w3.drew.heap.size := b3.size
    have hbA : Below w.heap.size w (w3.alloc (.cells #[] 65)).drew := bel_drew (b3.alloc b3.size _)
    have hsA : w3.heap.size ≤ (w3.alloc (.cells #[] 65)).drew.heap.size := by show w3.heap.size ≤ (w3.heap.push _).size; simp
    have h1 : k ≤ c := by omega
    have h2 : (k : Int) + 1 ≤ (n : Int) := by omega
    have h3 : ((k : Int) + 1).toNat = k + 1 := by omega
    have h4 : n - (k + 1) = m := by omega
    have h5 : (0 : Int) ≤ (k : Int) + 1 := by omega
    have h6 : IntKind.i64.wrap ((k : Int) + 1) = (k : Int) + 1 := by rw [IntKind.wrap_i64]; omega
    have h7 : k + 1 ≤ n := by omega
    have h8 : k ≤ 256 := by omega
    have h9 : m ≤ 256 := by omega
    rw [← hk]
    have hq0 : ¬ ((k : Int) < 0) := by omega
    clear hhas hrm HE HF hf hsp hk hm hn1 hN1 HR hn
    go_wp2_with fail
    have mixed : Try.prog.follows Departure.mixedOrders = true := by kernel_rfl
    go_region_law (first
      | (refine step_rapp_n _ is_rentries rfl (.tmp 13) (.tmp 17) rfl (by simp [Act.eval, Act.put]) hown0 hkl (c := c) (by simp [Act.eval, Act.put]) (HRA.out.below hbA) (by simp) (by simp only [List.length_nil, hkl]; omega) hsA ?_; intro v4 w4 hown4 hg4 hv4; have hg4' : (w3.drew.alloc (.cells #[] 65)).grownBy w4 (Value.slice (some ⟨w3.heap.size, 0, none⟩) 0 0).ownBlock := hg4; have hb4 : Below w.heap.size w w4 := hbA.grown hg4 (Nat.le_trans hszd hsA) (fun j hj => by have := hown0.base_le j hj; omega); have x4 := x3d.grown hg4' (fun e => by have := hown0.base_le _ e; omega); have y4 := y3d.grown hg4' (fun e => by have := hown0.base_le _ e; omega); have hs4 := Nat.le_trans hsA hg4.size; have dd4 := Cel_c1 x4)
      | (refine step_rapp_n _ is_rentries rfl (.tmp 18) (.tmp 23) rfl (by simp [Act.eval, Act.put]) hown4 hdl (c := c - (k + 1)) (by simp [Act.eval, Act.put]) (HRB.out.below hb4) (by simp) (by simp only [List.length_append, List.length_nil, hkl, hdl]; omega) (by omega) ?_; intro v6 w6 hown6 hg6 hv6; have hb6 : Below w.heap.size w w6 := hb4.grown hg6 (by omega) (fun j hj => by have := hown4.base_le j hj; omega); have x6 := x4.only (Only.of_grown hg6) (by simp; intro e; have := hown4.base_le _ e; omega); have y6 := y4.only (Only.of_grown hg6) (by simp; intro e; have := hown4.base_le _ e; omega); have hown6' : Os w6 w3.heap.size 65 v6 F := (by rw [hF2.out]; exact hown6); obtain ⟨A6, c6, rfl, _, _, _, _⟩ := hown6'.reads_len hFl.out; have q0 := Cel_c0 x6; have q1 := Cel_c1 x6; have q2 : w6.frozen? ⟨w.heap.size, 1, none⟩ = false := x6.free 1; have r0 := Cel_c0 y6; have r1 := Cel_c1 y6; have s0 : w6.frozen? ⟨w.heap.size + 1, 0, none⟩ = false := y6.free 0; have s1 : w6.frozen? ⟨w.heap.size + 1, 1, none⟩ = false := y6.free 1; have hfin6 := rpush_fin hown6' hb6 (by have := b3.size; omega : base ≤ w3.heap.size) x6 y6 (I cap)))
    all_goals go_wp2
    all_goals exact bodyPost_ret (rremove_results rfl rfl hfin6.1 hfin6.2.1) rfl ⟨_, rfl, hfin6.2.2.1, hfin6.2.2.2⟩

set_option maxHeartbeats 4000000 in
theorem rpop_any (L : List R) (cap : Nat) (w : World) (base : Nat) (v : Value) (h : Os w base 65 v L) (hb : base ≤ w.heap.size) (hlo : L.length ≤ 256) :
    Calls Try.prog 14 #[.agg #[I cap, v]] w fun e w' => ∃ v', e = .returned (.tuple #[.agg #[I cap, v'], I (hdI L), .bool (okI L)]) ∧ Os w' base 65 v' L.tail ∧ Below w.heap.size w w' := by
  obtain ⟨A, c, rfl, hr, hn, hc1, hc2⟩ := h.reads
  obtain ⟨n, hnl⟩ : ∃ n, n = L.length := ⟨_, rfl⟩
  have b1 : Below w.heap.size w (w.alloc (.cells #[I cap, .slice A n c] 28)) := (Below.refl _ w).alloc (Nat.le_refl _) _
  have b2 : Below w.heap.size w ((w.alloc (.cells #[I cap, .slice A n c] 28)).alloc (.cells #[I 0, .slice none 0 0] 28)) := b1.alloc (by simp) _
  have x0 : Cel ((w.alloc (.cells #[I cap, .slice A n c] 28)).alloc (.cells #[I 0, .slice none 0 0] 28)) w.heap.size 28 #[I cap, .slice A n c] :=
    (Cel.new w _ _).only ((Only.refl [] _).alloc _) (by simp)
  have y0 : Cel ((w.alloc (.cells #[I cap, .slice A n c] 28)).alloc (.cells #[I 0, .slice none 0 0] 28)) (w.heap.size + 1) 28 #[I 0, .slice none 0 0] := by
    have := Cel.new (w.alloc (.cells #[I cap, .slice A n c] 28)) 28 #[I 0, .slice none 0 0]
    simpa using this
  obtain ⟨w2, hw2⟩ : ∃ w2, w2 = (w.alloc (.cells #[I cap, .slice A n c] 28)).alloc (.cells #[I 0, .slice none 0 0] 28) := ⟨_, rfl⟩
  rw [← hw2] at b2 x0 y0
  have hcon := rpeek_any L cap w2 A c ((hr.below b2).more b2.size)
  have xc0 := Cel_c0 x0
  have xc1 := Cel_c1 x0
  have ho2 := h.below b2
  rw [← hnl] at hcon hc1 ho2 hlo ⊢
  have HN := Lib.hid hnl
  have hs2 : w2.heap.size = w.heap.size + 2 := by rw [hw2]; simp
  have HS := Lib.hid hs2
  obtain ⟨H, hH⟩ : ∃ H, H = hdI L := ⟨_, rfl⟩
  obtain ⟨K, hK⟩ : ∃ K, K = okI L := ⟨_, rfl⟩
  rw [← hH, ← hK] at hcon ⊢
  clear b1 h hr hnl hs2
  go_enter Try.func14, Try.ntmps14
  go_wp2_with fail
  rw [← hw2]
  refine hcon.mono ?_
  rintro e w3 ⟨rfl, hb3⟩
  have b3 : Below w.heap.size w w3 := b2.trans (hb3.mono b2.size)
  have hsz3 : w.heap.size + 2 ≤ w3.heap.size := by have := hb3.size; have := HS.out; omega
  have x3 : Cel w3 w.heap.size 28 #[I cap, .slice A n c] := (hb3.block _ x0.lt).trans x0
  have y3 : Cel w3 (w.heap.size + 1) 28 #[I 0, .slice none 0 0] := (hb3.block _ y0.lt).trans y0
  have ho3 := ho2.below hb3
  have d0 := Cel_c0 x3
  have d1 := Cel_c1 x3
  have e0 := Cel_c0 y3
  have e1 := Cel_c1 y3
  have f0 : w3.frozen? ⟨w.heap.size + 1, 0, none⟩ = false := y3.free 0
  have f1 : w3.frozen? ⟨w.heap.size + 1, 1, none⟩ = false := y3.free 1
  clear hcon hw2 x0 y0 ho2 xc0 xc1 b2
  cases L with
  | nil =>
    have hk : K = false := by rw [hK]; rfl
    subst hk
    have hquit := rq_put y3 b3 (by omega) (I cap) (.slice A n c)
    have hoq : Os ((w3.setCell ⟨w.heap.size + 1, 0, none⟩ (I cap)).setCell ⟨w.heap.size + 1, 1, none⟩ (.slice A n c)) base 65 (.slice A n c) [] := ho3.only hquit.2.2.2 (fun j hj => by
      have := (own_apart ho3 y3 (by decide))
      intro e
      simp at e
      exact this (by rw [hj, e]))
    clear hH hK
    go_wp2
    exact bodyPost_ret (rpop_results rfl rfl rfl hquit.1 hquit.2.1) rfl ⟨_, rfl, hoq, hquit.2.2.1⟩
  | cons y L =>
    have hk : K = true := by rw [hK]; simp [okI]
    have hh : H = y.2 := by rw [hH]; rfl
    subst hk
    have hcall := rremove_any H (y :: L) cap w3 base (.slice A n c) ho3 (Nat.le_trans hb b3.size) (by have := HN.out; omega)
    rw [hh, rm_head, ← hh] at hcall
    clear hH hK hh
    go_wp2_with fail
    refine hcall.mono ?_
    rintro e w4 ⟨v4, rfl, ho4, hb4⟩
    have b4 : Below w.heap.size w w4 := b3.trans (hb4.mono b3.size)
    have x4 : Cel w4 w.heap.size 28 #[I cap, .slice A n c] := (hb4.block _ x3.lt).trans x3
    have y4 : Cel w4 (w.heap.size + 1) 28 #[I 0, .slice none 0 0] := (hb4.block _ y3.lt).trans y3
    have n0 := own_apart ho4 x4 (by decide)
    have n1 := own_apart ho4 y4 (by decide)
    obtain ⟨N, hN⟩ : ∃ N, N = L.length := ⟨_, rfl⟩
    obtain ⟨A4, c4, rfl, _, _, _, _⟩ := ho4.reads_len hN.symm
    have p1 := rq_put x4 b4 (Nat.le_refl _) (I cap) (.slice A4 N c4)
    have y5 := y4.only p1.2.2.2 (by simp)
    have p2 := rq_put y5 p1.2.2.1 (Nat.le_succ _) (I cap) (.slice A4 N c4)
    have hfin : Os _ base 65 (.slice A4 N c4) L := (ho4.only p1.2.2.2 (fun j hj => by simp; intro e; exact n0 (by rw [hj, e]))).only p2.2.2.2 (fun j hj => by simp; intro e; exact n1 (by rw [hj, e]))
    have g0 := Cel_c0 x4
    have g1 := Cel_c1 x4
    have g2 : w4.frozen? ⟨w.heap.size, 0, none⟩ = false := x4.free 0
    have g3 : w4.frozen? ⟨w.heap.size, 1, none⟩ = false := x4.free 1
    have k0 := Cel_c0 y4
    have k1 := Cel_c1 y4
    have k2 : w4.frozen? ⟨w.heap.size + 1, 0, none⟩ = false := y4.free 0
    have k3 : w4.frozen? ⟨w.heap.size + 1, 1, none⟩ = false := y4.free 1
    clear hN hcall
    go_wp2
    exact bodyPost_ret (rpop_results rfl rfl rfl p2.1 p2.2.1) rfl ⟨_, rfl, hfin, p2.2.2.1⟩
end Go.Proofs.Ytnnjmlpanbbanaa.Rng.Que
