/-
  The reference of layer 26: New, Delete.
-/
import Derived.Test.YtbeekfbcflmemaaRef26a
import Derived.Deep.RegionLaw
namespace Go.Proofs.Ytbeekfbcflmemaa.Fil
open Go.RowKit Go.Proofs.Ytbeekfbcflmemaa.Row
open Lst (Qb Dt)

/-- a struct of three cells stored whole -/
def put3 (w : World) (g : Nat) (v0 v1 v2 : Value) : World := ((w.setCell ⟨g, 0, none⟩ v0).setCell ⟨g, 1, none⟩ v1).setCell ⟨g, 2, none⟩ v2
theorem put3_cel {w : World} {g : Nat} {t : TypeId} {x0 x1 x2 : Value} (h : Cel w g t #[x0, x1, x2]) (v0 v1 v2 : Value) : Cel (put3 w g v0 v1 v2) g t #[v0, v1, v2] := ((h.put 0 v0).put 1 v1).put 2 v2
theorem put3_only (w : World) (g : Nat) (v0 v1 v2 : Value) : Only [g] w (put3 w g v0 v1 v2) :=
  (((Only.refl [g] w).put (p := ⟨g, 0, none⟩) (.inl (by simp)) _).put (p := ⟨g, 1, none⟩) (.inl (by simp)) _).put (p := ⟨g, 2, none⟩) (.inl (by simp)) _
theorem set_only (w : World) (g i : Nat) (v : Value) : Only [g] w (w.setCell ⟨g, i, none⟩ v) := (Only.refl [g] w).put (p := ⟨g, i, none⟩) (.inl (by simp)) _
theorem box_kq {w w' : World} {g : Nat} {cs : Array Value} (h : Cel w g 28 cs) (k : Only [g] w w') : Kq w w' := .of_only k fun x hx => by
  rw [List.mem_singleton] at hx
  subst hx
  exact not_fx h (by decide)
theorem RX.of {w : World} {base n : Nat} {v : Value} {Q : List T} {L : List F} (h : Row.Os enF 2 w base 63 v Q) (hQ : lst Q = L) (hn : Q.length = n) (hd : ∀ p ∈ Q, Dq w p.2.l p.2.a p.2.c) : ∃ A c, v = .slice A n c ∧ RX w A n c L := by
  obtain ⟨A, c, rfl, h2⟩ := Sq.own enF_ok h (by decide) hn
  exact ⟨A, c, rfl, Q, hQ, h2, hd⟩
theorem two_results {f : Func} {i j : Nat} {tmps : Array Value} {W : World} {g : Nat} {x y z e : Value} (hf : f.results = #[.cell i 28, .tmp j]) (h4 : tmps.getD i undef = .pointer (some ⟨g, 0, none⟩)) (h5 : tmps.getD j undef = e) (h : Cel W g 28 #[x, y, z]) :
    (results f tmps).run Try.prog W = .ok (.tuple #[.agg #[x, y, z], e]) W := by
  have c0 := h.cell 0; simp at c0
  have c1 := h.cell 1; simp at c1
  have c2 := h.cell 2; simp at c2
  simp only [Array.getD_eq_getD_getElem?] at h4 h5
  simp [results, hf, go_sem, h4, h5, c0, c1, c2]

theorem one_result {f : Func} {i : Nat} {tmps : Array Value} {W : World} {g : Nat} {x y z : Value} (hf : f.results = #[.cell i 28]) (h4 : tmps.getD i undef = .pointer (some ⟨g, 0, none⟩)) (h : Cel W g 28 #[x, y, z]) :
    (results f tmps).run Try.prog W = .ok (.agg #[x, y, z]) W := by
  have c0 := h.cell 0; simp at c0
  have c1 := h.cell 1; simp at c1
  have c2 := h.cell 2; simp at c2
  simp only [Array.getD_eq_getD_getElem?] at h4
  simp [results, hf, go_sem, h4, c0, c1, c2]

theorem Cel_c0 {w : World} {g : Nat} {t : TypeId} {x y z : Value} (h : Cel w g t #[x, y, z]) : w.cell? ⟨g, 0, none⟩ = some x := h.cell 0
theorem Cel_c1 {w : World} {g : Nat} {t : TypeId} {x y z : Value} (h : Cel w g t #[x, y, z]) : w.cell? ⟨g, 1, none⟩ = some y := h.cell 1
theorem Cel_c2 {w : World} {g : Nat} {t : TypeId} {x y z : Value} (h : Cel w g t #[x, y, z]) : w.cell? ⟨g, 2, none⟩ = some z := h.cell 2
/-- the box's slice is stored, the box is stored whole into the result -/
theorem dele_fin {w w6 : World} {A6 : Option Addr} {n6 c6 : Nat} {L : List F} {a0 a1 a2 b0 b1 b2 : Value} (h : RX w6 A6 n6 c6 L) (hb : Below w.heap.size w w6) (x6 : Cel w6 w.heap.size 28 #[a0, a1, a2]) (y6 : Cel w6 (w.heap.size + 1) 28 #[b0, b1, b2]) (u0 u1 : Value) :
    Cel (put3 (w6.setCell ⟨w.heap.size, 2, none⟩ (.slice A6 n6 c6)) (w.heap.size + 1) u0 u1 (.slice A6 n6 c6)) (w.heap.size + 1) 28 #[u0, u1, .slice A6 n6 c6] ∧ RX (put3 (w6.setCell ⟨w.heap.size, 2, none⟩ (.slice A6 n6 c6)) (w.heap.size + 1) u0 u1 (.slice A6 n6 c6)) A6 n6 c6 L ∧
    Below w.heap.size w (put3 (w6.setCell ⟨w.heap.size, 2, none⟩ (.slice A6 n6 c6)) (w.heap.size + 1) u0 u1 (.slice A6 n6 c6)) := by
  have h1 := set_only w6 w.heap.size 2 (.slice A6 n6 c6)
  have y7 := y6.only h1 (by simp)
  have h2 := put3_only (w6.setCell ⟨w.heap.size, 2, none⟩ (.slice A6 n6 c6)) (w.heap.size + 1) u0 u1 (.slice A6 n6 c6)
  have hb7 := hb.trans (h1.below hb.size (by simp))
  exact ⟨put3_cel y7 _ _ _, (h.keep (box_kq x6 h1)).keep (box_kq y7 h2), hb7.trans (h2.below hb7.size (by simp))⟩

set_option maxHeartbeats 1000000 in
theorem rnew_any (most room : Int) (w : World) :
    Calls Try.prog 9 #[I most, I room] w fun e w' => e = .returned (.agg #[I ((s0 most room).most : Int), I ((s0 most room).room : Int), .slice none 0 0]) ∧ Below w.heap.size w w' := by
  go_enter Try.func9, Try.ntmps9
  go_wp2
  have e1 : (min (max most 0) 256) = ((s0 most room).most : Int) := by show _ = ((clp most 256 : Nat) : Int); unfold clp; omega
  have e2 : (min (max room 0) 2147483648) = ((s0 most room).room : Int) := by show _ = ((clp room 2147483648 : Nat) : Int); unfold clp; omega
  rw [e1, e2]
  exact bodyPost_ret (one_result rfl rfl (Cel.new w _ _)) rfl ⟨rfl, bel_new _ _⟩

set_option maxHeartbeats 2000000 in
theorem rdele_any (w : World) (M rm : Int) (A : Option Addr) (n c : Nat) (s : St) (h : RX w A n c s.l) (hs : Srt s.l) (x : Nm) (hm : n ≤ 1000) :
    Calls Try.prog 13 #[.agg #[I M, I rm, .slice A n c], .string (nm x)] w fun e w' => ∃ A2 n2 c2, e = .returned (.tuple #[.agg #[I M, I rm, .slice A2 n2 c2], I (geE s x : Int)]) ∧ RX w' A2 n2 c2 (deS s x).l ∧ Below w.heap.size w w' := by
  have hb1 := bel_new w (.cells #[I M, I rm, .slice A n c] 28)
  have hb2 : Below w.heap.size w ((w.alloc (.cells #[I M, I rm, .slice A n c] 28)).alloc (.cells #[I 0, I 0, .slice none 0 0] 28)) := hb1.alloc (by simp) _
  have x0 : Cel ((w.alloc (.cells #[I M, I rm, .slice A n c] 28)).alloc (.cells #[I 0, I 0, .slice none 0 0] 28)) w.heap.size 28 #[I M, I rm, .slice A n c] :=
    Cel.on (Cel.new w _ _) (bel_new _ _)
  have y0 : Cel ((w.alloc (.cells #[I M, I rm, .slice A n c] 28)).alloc (.cells #[I 0, I 0, .slice none 0 0] 28)) (w.heap.size + 1) 28 #[I 0, I 0, .slice none 0 0] := by
    have := Cel.new (w.alloc (.cells #[I M, I rm, .slice A n c] 28)) 28 #[I 0, I 0, .slice none 0 0]
    simpa using this
  obtain ⟨w2, hw2⟩ : ∃ w2, w2 = ((w.alloc (.cells #[I M, I rm, .slice A n c] 28)).alloc (.cells #[I 0, I 0, .slice none 0 0] 28)) := ⟨_, rfl⟩
  rw [← hw2] at hb2 x0 y0
  have h2 := h.later hb2
  have hge := rget_any w2 M rm A n c s h2 hs x (by omega)
  have hfd := fun W (hb : Below w.heap.size w W) => find_any W M rm A n c s.l (h.later hb) hs x (by omega)
  have H := h
  clear h2 h hb1
  obtain ⟨E, hE⟩ : ∃ E : Nat, E = geE s x := ⟨_, rfl⟩
  obtain ⟨DL, hDL⟩ : ∃ DL, DL = (deS s x).l := ⟨_, rfl⟩
  obtain ⟨G, hG⟩ : ∃ G, G = geD s x := ⟨_, rfl⟩
  rw [← hE, ← hDL]
  rw [← hE, ← hG] at hge
  clear hG
  by_cases hz : E = 0
  · have k1 : deS s x = ⟨s.most, s.room, del x s.l⟩ := by unfold deS; rw [← hE, if_pos hz]
    have k2 : (get x s.l).isSome = true := by
      unfold geE at hE
      rw [hz] at hE
      cases a1 : okN x <;> cases a2 : (get x s.l).isSome <;> rw [a1, a2] at hE <;> simp at hE ⊢
    obtain ⟨d, hd⟩ := Option.isSome_iff_exists.1 k2
    have hcut := hs.cut hd
    have hat := (hs.at_ (n := x) d).1 hd
    have hDL2 : DL = del x s.l := by rw [hDL, k1]
    subst hz
    obtain ⟨k, hK⟩ : ∃ k, k = fnd x s.l := ⟨_, rfl⟩
    rw [← hK] at hcut hat hfd
    have hKn : k < n := by rw [← H.len]; exact (List.getElem?_eq_some_iff.1 hat).1
    obtain ⟨V, hV⟩ : ∃ V, V = fdB x s.l := ⟨_, rfl⟩
    rw [← hV] at hfd
    obtain ⟨Q, h1, h2, h3⟩ := H
    obtain ⟨FA, hFA⟩ : ∃ FA, FA = Q.take k := ⟨_, rfl⟩
    obtain ⟨FB, hFB⟩ : ∃ FB, FB = Q.drop (k + 1) := ⟨_, rfl⟩
    have hF2 : Hid (lst (FA ++ FB) = DL) := Lib.hid (by
      rw [hDL2, ← hcut, ← h1, hFA, hFB]
      simp [lst])
    obtain ⟨m, hm1⟩ : ∃ m, m = FB.length := ⟨_, rfl⟩
    have hQn := h2.len
    have hkl : FA.length = k := by rw [hFA, List.length_take]; omega
    have hdl : FB.length = m := hm1.symm
    have hn1 : n = k + 1 + m := by rw [hm1, hFB, List.length_drop]; omega
    have hmem : Hid (∀ p ∈ FA ++ FB, Dq w p.2.l p.2.a p.2.c) := Lib.hid fun p hp => by
      rcases List.mem_append.1 hp with hp | hp
      · exact h3 p (List.mem_of_mem_take (by rw [← hFA]; exact hp))
      · exact h3 p (List.mem_of_mem_drop (by rw [← hFB]; exact hp))
    obtain ⟨gb, go, rfl, hgb, hright⟩ := h2.r.rs.at_ (i := k) (by rw [hQn]; exact hKn)
    have hrs := h2.r.rs
    have HRA : Hid (Rs enF 2 w w.heap.size (some ⟨gb, go, none⟩) FA) := Lib.hid (by rw [hFA]; exact hrs.take k)
    obtain ⟨AD, hAD, HRB⟩ : ∃ AD : Addr, (if c = k + 1 then (some (⟨gb, go, none⟩ : Addr)) else some ⟨gb, go + (k + 1) * 2, none⟩) = some AD ∧ Hid (Rs enF 2 w w.heap.size (some AD) FB) := by
      by_cases hc : c = k + 1
      · refine ⟨⟨gb, go, none⟩, by simp [hc], Lib.hid ?_⟩
        have h0 : FB = [] := List.eq_nil_of_length_eq_zero (by have := h2.le; omega)
        rw [h0]; exact Rs.nil_
      · refine ⟨⟨gb, go + (k + 1) * 2, none⟩, by simp [hc], Lib.hid ?_⟩
        rw [hFB]
        exact hrs.drop (k + 1)
    have hcle := h2.le
    obtain ⟨N, hN1⟩ : ∃ N, N = k + m := ⟨_, rfl⟩
    have hFl : Hid ((FA ++ FB).length = N) := Lib.hid (by rw [hN1, List.length_append, hkl, hdl])
    have HN1 := Lib.hid hn1
    clear hright hn1 hN1
    clear hrs hFA hFB hK hV h1 h2 h3 hcut hat hDL2 hd k2 k1 hE hDL hQn hm1 hs
    go_enter Try.func13, Try.ntmps13
    go_wp2_with fail
    rw [← hw2]
    refine hge.mono ?_
    rintro e w2b ⟨A3, c3, rfl, hdq3, hb2b⟩
    have x2 := Cel.on x0 hb2b
    have y2 := Cel.on y0 hb2b
    have b2b : Below w.heap.size w w2b := hb2.trans (hb2b.mono hb2.size)
    have d0 := x2.cell 0; simp at d0
    have d1 := x2.cell 1; simp at d1
    have d2 := x2.cell 2; simp at d2
    clear hge hw2 x0 y0 hb2 hdq3
    go_wp2_with fail
    refine (hfd _ b2b).mono ?_
    rintro e w3 ⟨rfl, hb3⟩
    have x3 := Cel.on x2 hb3
    have y3 := Cel.on y2 hb3
    have b3 : Below w.heap.size w w3 := b2b.trans (hb3.mono b2b.size)
    clear d0 d1 d2 x2 y2 hb2b b2b hfd hb3
    have d0 := x3.cell 0; simp at d0
    have d1 := x3.cell 1; simp at d1
    have d2 := x3.cell 2; simp at d2
    have hown0 : Row.Os enF 2 (w3.alloc (.cells #[] 63)).drew w3.heap.size 63 (.slice (some ⟨w3.heap.size, 0, none⟩) 0 0) [] :=
      Row.Os.drew (Row.Os.empty w3 _ _ (Nat.le_refl _))
    have b3d : Below w.heap.size w w3.drew := b3.drew
    have x3d : Cel w3.drew w.heap.size 28 #[I M, I rm, .slice (some ⟨gb, go, none⟩) n c] := x3.draws 1
    have y3d : Cel w3.drew (w.heap.size + 1) 28 #[I 0, I 0, .slice none 0 0] := y3.draws 1
    have d1a : (w3.alloc (.cells #[] 63)).drew.cell? ⟨w.heap.size, 2, none⟩ = some (.slice (some ⟨gb, go, none⟩) n c) := Lib.cell?_alloc_some _ (by have := x3d.cell 2; simpa using this)
    have hszd : w.heap.size ≤ w3.drew.heap.size := b3.size
    have hbA : Below w.heap.size w (w3.alloc (.cells #[] 63)).drew := (b3.alloc b3.size _).drew
    have hsA : w3.heap.size ≤ (w3.alloc (.cells #[] 63)).drew.heap.size := by show w3.heap.size ≤ (w3.heap.push _).size; simp
    have hn1 := HN1.out
    have hsz4 : w.heap.size + 2 ≤ w3.heap.size := y3.lt
    have h1 : k ≤ c := by omega
    have h2 : (k : Int) + 1 ≤ (n : Int) := by omega
    have h3 : ((k : Int) + 1).toNat = k + 1 := by omega
    have h4 : n - (k + 1) = m := by omega
    have h5 : (0 : Int) ≤ (k : Int) + 1 := by omega
    have h6 : IntKind.i64.wrap ((k : Int) + 1) = (k : Int) + 1 := by rw [IntKind.wrap_i64]; omega
    have h7 : k + 1 ≤ n := by omega
    have h8 : k ≤ 1000 := by omega
    have h9 : m ≤ 1000 := by omega
    have hq0 : ¬ ((k : Int) < 0) := by omega
    clear hn1
    go_wp2_with fail
    have mixed : Try.prog.follows Departure.mixedOrders = true := by kernel_rfl
    go_region_law (first
      | (refine step_row _ enF_ok is_files (by decide) rfl (.tmp 26) (.tmp 30) rfl (v := .slice (some ⟨w3.heap.size, 0, none⟩) 0 0) (by simp [Act.eval, Act.put]) hown0 hkl (A := some ⟨gb, go, none⟩) (c := c) (by simp [Act.eval, Act.put]) (HRA.out.below hbA) (by simp) (by simp only [List.length_nil, hkl]; omega) hsA ?_; intro v4 w4 hown4 hg4 hv4; have hg4' : (w3.drew.alloc (.cells #[] 63)).grownBy w4 (Value.slice (some ⟨w3.heap.size, 0, none⟩) 0 0).ownBlock := hg4; have hb4 : Below w.heap.size w w4 := hbA.grown hg4 (Nat.le_trans hszd hsA) (fun j hj => by have := hown0.base_le j hj; omega); have x4 := x3d.grown hg4' (fun e => by have := hown0.base_le _ e; omega); have y4 := y3d.grown hg4' (fun e => by have := hown0.base_le _ e; omega); have hs4 := Nat.le_trans hsA hg4.size; have dd4 := Cel_c2 x4)
      | (refine step_row _ enF_ok is_files (by decide) rfl (.tmp 31) (.tmp 36) rfl (v := v4) (by simp [Act.eval, Act.put]) hown4 hdl (A := some AD) (c := c - (k + 1)) (by simp [Act.eval, Act.put]) (HRB.out.below hb4) (by simp) (by simp only [List.length_append, List.length_nil, hkl, hdl]; omega) (by omega) ?_; intro v6 w6 hown6 hg6 hv6; have hb6 : Below w.heap.size w w6 := hb4.grown hg6 (by omega) (fun j hj => by have := hown4.base_le j hj; omega); have x6 := x4.only (Only.of_grown hg6) (by simp; intro e; have := hown4.base_le _ e; omega); have y6 := y4.only (Only.of_grown hg6) (by simp; intro e; have := hown4.base_le _ e; omega); obtain ⟨A6, c6, rfl, hrx6⟩ := RX.of hown6 hF2.out hFl.out (fun p hp => (hmem.out p hp).later hb6); have q0 := Cel_c0 x6; have q1 := Cel_c1 x6; have q3 := Cel_c2 x6; have q2 : w6.frozen? ⟨w.heap.size, 2, none⟩ = false := x6.free 2; have r0 := Cel_c0 y6; have r1 := Cel_c1 y6; have r2 := Cel_c2 y6; have s0 : w6.frozen? ⟨w.heap.size + 1, 0, none⟩ = false := y6.free 0; have s1 : w6.frozen? ⟨w.heap.size + 1, 1, none⟩ = false := y6.free 1; have s2 : w6.frozen? ⟨w.heap.size + 1, 2, none⟩ = false := y6.free 2; have hfin6 := dele_fin hrx6 hb6 x6 y6 (I M) (I rm)))
    all_goals go_wp2
    all_goals exact bodyPost_ret (two_results rfl rfl rfl hfin6.1) rfl ⟨A6, N, c6, rfl, hfin6.2.1, hfin6.2.2⟩
  · have k1 : deS s x = s := by unfold deS; rw [← hE, if_neg hz]
    have hbE : ((E : Int) != 0) = true := by simpa using hz
    have hbE2 : ((E : Int) == 0) = false := by simpa using hz
    rw [k1] at hDL
    subst hDL
    clear hE hz k1 hfd
    go_enter Try.func13, Try.ntmps13
    go_wp2_with fail
    rw [← hw2]
    refine hge.mono ?_
    rintro e w3 ⟨A3, c3, rfl, hdq3, hb3⟩
    have x3 := Cel.on x0 hb3
    have y3 := Cel.on y0 hb3
    have b3 : Below w.heap.size w w3 := hb2.trans (hb3.mono hb2.size)
    have d0 := x3.cell 0; simp at d0
    have d1 := x3.cell 1; simp at d1
    have d2 := x3.cell 2; simp at d2
    have e0 := y3.cell 0; simp at e0
    have e1 := y3.cell 1; simp at e1
    have e2 := y3.cell 2; simp at e2
    have f0 := y3.free 0
    have f1 := y3.free 1
    have f2 := y3.free 2
    have hcel := put3_cel y3 (I M) (I rm) (.slice A n c)
    have hon := put3_only w3 (w.heap.size + 1) (I M) (I rm) (.slice A n c)
    have hrx := (H.later b3).keep (box_kq y3 hon)
    have hbf : Below w.heap.size w (put3 w3 (w.heap.size + 1) (I M) (I rm) (.slice A n c)) := b3.trans (hon.below b3.size (by simp))
    clear hge hw2 x0 y0 hb2 hb3 hdq3
    go_wp2
    exact bodyPost_ret (two_results rfl rfl rfl hcel) rfl ⟨A, n, c, rfl, hrx, hbf⟩
end Go.Proofs.Ytbeekfbcflmemaa.Fil
