/-
  The reference of layer 8: Push's walk.
-/
import Derived.Test.YtnnjmlpanbbanaaRef08b
namespace Go.Proofs.Ytnnjmlpanbbanaa.Rng.Que
open Go.RowKit Go.Shelf Ints

theorem Os_addr {w : World} {base n c : Nat} {e : TypeId} {A : Option Addr} {l : List R} (h : Os w base e (.slice A n c) l) : (A = none ∧ c = 0) ∨ ∃ g, A = some ⟨g, 0, none⟩ := by
  rcases h.2 with ⟨he, _⟩ | ⟨g, cap, cur, he, _⟩
  · cases he; exact .inl ⟨rfl, rfl⟩
  · cases he; exact .inr ⟨g, rfl⟩

theorem Cel_c0 {w : World} {g : Nat} {t : TypeId} {a b : Value} (h : Cel w g t #[a, b]) : w.cell? ⟨g, 0, none⟩ = some a := h.cell 0
theorem Cel_c1 {w : World} {g : Nat} {t : TypeId} {a b : Value} (h : Cel w g t #[a, b]) : w.cell? ⟨g, 1, none⟩ = some b := h.cell 1
theorem rpush_fin {w w6 : World} {base base1 n6 c6 : Nat} {A6 : Option Addr} {F : List R} {a0 a1 b0 b1 : Value} (ho : Os w6 base1 65 (.slice A6 n6 c6) F) (hb6 : Below w.heap.size w w6) (hbase : base ≤ base1)
    (x6 : Cel w6 w.heap.size 28 #[a0, a1]) (y6 : Cel w6 (w.heap.size + 1) 28 #[b0, b1]) (u : Value) :
    (((w6.setCell ⟨w.heap.size, 1, none⟩ (.slice A6 n6 c6)).setCell ⟨w.heap.size + 1, 0, none⟩ u).setCell ⟨w.heap.size + 1, 1, none⟩ (.slice A6 n6 c6)).cell? ⟨w.heap.size + 1, 0, none⟩ = some u ∧
    (((w6.setCell ⟨w.heap.size, 1, none⟩ (.slice A6 n6 c6)).setCell ⟨w.heap.size + 1, 0, none⟩ u).setCell ⟨w.heap.size + 1, 1, none⟩ (.slice A6 n6 c6)).cell? ⟨w.heap.size + 1, 1, none⟩ = some (.slice A6 n6 c6) ∧
    Os (((w6.setCell ⟨w.heap.size, 1, none⟩ (.slice A6 n6 c6)).setCell ⟨w.heap.size + 1, 0, none⟩ u).setCell ⟨w.heap.size + 1, 1, none⟩ (.slice A6 n6 c6)) base 65 (.slice A6 n6 c6) F ∧
    Below w.heap.size w (((w6.setCell ⟨w.heap.size, 1, none⟩ (.slice A6 n6 c6)).setCell ⟨w.heap.size + 1, 0, none⟩ u).setCell ⟨w.heap.size + 1, 1, none⟩ (.slice A6 n6 c6)) := by
  have n0 := own_apart ho x6 (by decide)
  have n1 := own_apart ho y6 (by decide)
  have hO : Only [w.heap.size] w6 (w6.setCell ⟨w.heap.size, 1, none⟩ (.slice A6 n6 c6)) := (Only.refl [w.heap.size] w6).put (p := ⟨w.heap.size, 1, none⟩) (.inl (by simp)) _
  have y7 := y6.only hO (by simp)
  have b7 : Below w.heap.size w (w6.setCell ⟨w.heap.size, 1, none⟩ (.slice A6 n6 c6)) := hb6.setCell (p := ⟨w.heap.size, 1, none⟩) (Nat.le_refl _) _
  have hq := rq_put y7 b7 (Nat.le_succ _) u (.slice A6 n6 c6)
  refine ⟨hq.1, hq.2.1, ?_, hq.2.2.1⟩
  exact ((ho.only hO (fun j hj => by simp; intro e; exact n0 (by rw [hj, e]))).only hq.2.2.2 (fun j hj => by simp; intro e; exact n1 (by rw [hj, e]))).more hbase

set_option maxHeartbeats 8000000 in
theorem rpush_any (p i : Int) (L : List R) (cap : Nat) (w : World) (base : Nat) (v : Value) (h : Os w base 65 v L) (hb : base ≤ w.heap.size) (hl : L.length ≤ cap) (hcap : cap ≤ 256) :
    Calls Try.prog 12 #[.agg #[I cap, v], I p, I i] w fun e w' => ∃ v', e = .returned (.tuple #[.agg #[I cap, v'], I (pushE cap (p, i) L)]) ∧ Os w' base 65 v' (pushed cap (p, i) L) ∧ Below w.heap.size w w' := by
  have hA0 := fun A n c (e : v = .slice A n c) => Os_addr (e ▸ h)
  obtain ⟨A, c, rfl, hr, hn, hc1, hc2⟩ := h.reads
  have hA0 := hA0 _ _ _ rfl
  obtain ⟨n, hnl⟩ : ∃ n, n = L.length := ⟨_, rfl⟩
  have b1 : Below w.heap.size w (w.alloc (.cells #[I cap, .slice A n c] 28)) := (Below.refl _ w).alloc (Nat.le_refl _) _
  have b2 : Below w.heap.size w ((w.alloc (.cells #[I cap, .slice A n c] 28)).alloc (.cells #[I 0, .slice none 0 0] 28)) := b1.alloc (by simp) _
  have x0 : Cel ((w.alloc (.cells #[I cap, .slice A n c] 28)).alloc (.cells #[I 0, .slice none 0 0] 28)) w.heap.size 28 #[I cap, .slice A n c] :=
    (Cel.new w _ _).only ((Only.refl [] _).alloc _) (by simp)
  have y0 : Cel ((w.alloc (.cells #[I cap, .slice A n c] 28)).alloc (.cells #[I 0, .slice none 0 0] 28)) (w.heap.size + 1) 28 #[I 0, .slice none 0 0] := by
    have := Cel.new (w.alloc (.cells #[I cap, .slice A n c] 28)) 28 #[I 0, .slice none 0 0]
    simpa using this
  obtain ⟨w2, hw2⟩ : ∃ w2, w2 = (w.alloc (.cells #[I cap, .slice A n c] 28)).alloc (.cells #[I 0, .slice none 0 0] 28) := ⟨_, rfl⟩
  rw [← hw2] at b2 x0 y0
  have hcon := rfind_any L cap i w2 A c ((hr.below b2).more b2.size) (by omega)
  have xc0 : w2.cell? ⟨w.heap.size, 0, none⟩ = some (I cap) := x0.cell 0
  have xc1 : w2.cell? ⟨w.heap.size, 1, none⟩ = some (.slice A n c) := x0.cell 1
  have ho2 := h.below b2
  have hlo : L.length ≤ 256 := by omega
  rw [← hnl] at hcon hc1 hl ho2 hlo ⊢
  have HN := Lib.hid hnl
  obtain ⟨E, hE⟩ : ∃ E, E = pushE cap (p, i) L := ⟨_, rfl⟩
  obtain ⟨F, hF⟩ : ∃ F, F = pushed cap (p, i) L := ⟨_, rfl⟩
  rw [← hE, ← hF]
  unfold pushE at hE
  unfold pushed at hF
  dsimp only at hE hF
  rw [← hnl] at hE hF
  have HE := Lib.hid hE
  have HF := Lib.hid hF
  have hs2 : w2.heap.size = w.heap.size + 2 := by rw [hw2]; simp
  have HS := Lib.hid hs2
  have HR := Lib.hid hr
  clear hE hF b1 h hr hnl hs2
  go_enter Try.func12, Try.ntmps12
  go_wp2_with fail
  rw [← hw2]
  refine hcon.mono ?_
  rintro e w3 ⟨q, rfl, hf, hb3⟩
  have b3 : Below w.heap.size w w3 := b2.trans (hb3.mono b2.size)
  have hsz3 : w.heap.size + 2 ≤ w3.heap.size := by have := hb3.size; have := HS.out; omega
  have x3 : Cel w3 w.heap.size 28 #[I cap, .slice A n c] := (hb3.block _ x0.lt).trans x0
  have y3 : Cel w3 (w.heap.size + 1) 28 #[I 0, .slice none 0 0] := (hb3.block _ y0.lt).trans y0
  have ho3 := ho2.below hb3
  have d0 : w3.cell? ⟨w.heap.size, 0, none⟩ = some (I cap) := x3.cell 0
  have d1 : w3.cell? ⟨w.heap.size, 1, none⟩ = some (.slice A n c) := x3.cell 1
  have e0 : w3.cell? ⟨w.heap.size + 1, 0, none⟩ = some (I 0) := y3.cell 0
  have e1 : w3.cell? ⟨w.heap.size + 1, 1, none⟩ = some (.slice none 0 0) := y3.cell 1
  have f0 : w3.frozen? ⟨w.heap.size + 1, 0, none⟩ = false := y3.free 0
  have f1 : w3.frozen? ⟨w.heap.size + 1, 1, none⟩ = false := y3.free 1
  clear hcon hw2 x0 y0 ho2 xc0 xc1 b2
  have hquit := rq_put y3 b3 (by omega) (I cap) (.slice A n c)
  have hoq : Os ((w3.setCell ⟨w.heap.size + 1, 0, none⟩ (I cap)).setCell ⟨w.heap.size + 1, 1, none⟩ (.slice A n c)) base 65 (.slice A n c) L := ho3.only hquit.2.2.2 (fun j hj => by
    have := (own_apart ho3 y3 (by decide))
    intro e
    simp at e
    exact this (by rw [hj, e]))
  rcases fnd_has hf.out with ⟨rfl, hno⟩ | ⟨FA, z, FB, hsp, rfl, hhas, _⟩
  · rw [hno] at HE HF
    by_cases hfull : cap ≤ n
    · have hE2 : E = 7 := by rw [HE.out]; simp [hfull]
      have hF2 : F = L := by rw [HF.out]; simp [hfull]
      subst hE2
      subst hF2
      have t1 : decide ((cap : Int) ≤ (n : Int)) = true := by simpa using hfull
      have t2 : decide (cap ≤ n) = true := by simpa using hfull
      clear hno HE HF hf hfull
      go_wp2
      refine bodyPost_ret (rpush_results rfl rfl hquit.1 hquit.2.1) rfl ⟨_, rfl, hoq, hquit.2.2.1⟩
    · have hE2 : E = 0 := by rw [HE.out]; simp [hfull]
      have hF2 : F = ins (p, i) L := by rw [HF.out]; simp [hfull]
      subst hE2
      have HF2 := Lib.hid hF2
      obtain ⟨N, hN1⟩ : ∃ N, N = n + 1 := ⟨_, rfl⟩
      have hFl : Hid (F.length = N) := Lib.hid (by rw [hF2, ins_length, hN1, HN.out])
      clear hN1
      have t1 : decide ((cap : Int) ≤ (n : Int)) = false := by simpa using hfull
      have t2 : decide (cap ≤ n) = false := by simpa using hfull
      clear hno HE HF hf hF2 hfull hquit hoq
      go_wp2
      go_loopw [8] (fun a wr => ∃ k : Nat, k ≤ n ∧ a = .int .i64 k ∧ w3 = wr ∧ Hid (∀ y ∈ L.take k, ¬ p < y.1)) (fun a _ => n - (intOf a).toNat)
      case atStart => exact ⟨0, Nat.zero_le _, rfl, rfl, Lib.hid (by simp)⟩
      case round =>
        obtain ⟨k, hk, rfl, rfl, hle⟩ := hrel
        by_cases hgo : k < n ∧ ∀ h : k < L.length, ¬ p < L[k].1
        · obtain ⟨hlt, h2⟩ := hgo
          have hlt' : k < L.length := by have := HN.out; omega
          have h2 := h2 hlt'
          obtain ⟨A', c', he, hr3, _, _, _⟩ := ho3.reads_len HN.out.symm
          cases he
          obtain ⟨b, off, rfl, hbw, hc1', hc2'⟩ := hr3.at_ hlt'
          have htk : Hid (L.take (k + 1) = L.take k ++ [L[k]]) := Lib.hid (by rw [List.take_add_one, List.getElem?_eq_getElem hlt']; rfl)
          generalize L[k] = y at hc1' hc2' htk h2
          clear hr3 hlt'
          obtain ⟨a1, a2⟩ := y
          dsimp only at hc1' hc2' h2
          have t3 : decide (a1 ≤ p) = true := by simp; omega
          have H2 := Lib.hid h2
          clear h2
          go_wp2
          go_roundw
          case rel =>
            refine ⟨k + 1, hlt, by simp, trivial, Lib.hid ?_⟩
            intro y hy
            rw [htk.out] at hy
            rcases List.mem_append.1 hy with hy | hy
            · exact hle.out y hy
            · rw [List.mem_singleton.1 hy]; exact H2.out
          case measure => simp [intOf]; omega
        · have hfin : Hid (F = L.take k ++ [(p, i)] ++ L.drop k) := Lib.hid (by
            rw [HF2.out]
            refine push_split (by have := HN.out; omega) hle.out fun hkl => ?_
            rcases Decidable.em (p < L[k].1) with hp | hp
            · exact hp
            · exact absurd ⟨by have := HN.out; omega, fun _ => hp⟩ hgo)
          have hkn : k ≤ n := hk
          have hexit : k = n ∨ (k < n ∧ ∀ h : k < L.length, p < L[k].1) := by
            rcases Nat.lt_or_ge k n with h | h
            · refine .inr ⟨h, fun hkl => ?_⟩
              rcases Decidable.em (p < L[k].1) with hp | hp
              · exact hp
              · exact absurd ⟨h, fun _ => hp⟩ hgo
            · exact .inl (by omega)
          clear hgo HF2 hle
          have d1a : (w3.alloc (.cells #[] 65)).cell? ⟨w.heap.size, 1, none⟩ = some (.slice A n c) := Lib.cell?_alloc_some _ d1
          have hown0 : Os (w3.alloc (.cells #[] 65)) w3.heap.size 65 (.slice (some ⟨w3.heap.size, 0, none⟩) 0 0) [] :=
            ⟨rfl, .inr ⟨w3.heap.size, 0, #[], rfl, Nat.le_refl _, heap_alloc_new w3 _, Nat.le_refl _, by simp, rfl, rfl⟩⟩
          have hkl : (L.take k).length = k := by rw [List.length_take]; have := HN.out; omega
          have hdl : (L.drop k).length = n - k := by rw [List.length_drop]; have := HN.out; omega
          rcases hA0 with ⟨rfl, rfl⟩ | ⟨g, rfl⟩
          · obtain rfl : n = 0 := by omega
            obtain rfl : k = 0 := by omega
            obtain rfl : L = [] := List.eq_nil_of_length_eq_zero HN.out.symm
            clear hexit hkl hdl
            go_wp2_with (first
              | (at_builtin; refine wpList_rapp_n _ is_rentries rfl (.tmp 39) (.tmp 43) rfl rfl hown0 (l := []) (n := 0) rfl rfl ((Rs.nil_ : Rs w w.heap.size none []).below (b3.alloc (by omega) _)) (fun _ => rfl) (by simp) (by simp) ?_; intro v4 w4 hown4 hg4 hv4; have hb4 : Below w.heap.size w w4 := (b3.alloc (by omega) _).grown hg4 (by simp <;> omega) (fun j hj => by have := hown0.base_le j hj; omega); have x4 := x3.grown hg4 (fun e => by have := hown0.base_le _ e; omega); have y4 := y3.grown hg4 (fun e => by have := hown0.base_le _ e; omega); have dd4 := Cel_c1 x4; have hs4 := hg4.size; simp at hs4)
              | (at_builtin; refine wpList_rapp_n _ is_rentries rfl (.tmp 45) (.tmp 49) rfl rfl (hown4.alloc _) (l := [(p, i)]) (n := 1) rfl rfl (Rs_new1 _ _ _ _) (by simp) (by simp) (by simp <;> omega) ?_; intro v5 w5 hown5 hg5 hv5; have hb5 : Below w.heap.size w w5 := (hb4.alloc (by omega) _).grown hg5 (by simp <;> omega) (fun j hj => by have := hown4.base_le j hj; omega); have x5 := x4.grown hg5 (fun e => by have := hown4.base_le _ e; omega); have y5 := y4.grown hg5 (fun e => by have := hown4.base_le _ e; omega); have dd5 := Cel_c1 x5; have hs5 := hg5.size; simp at hs5)
              | (at_builtin; refine wpList_rapp_n _ is_rentries rfl (.tmp 51) (.tmp 55) rfl rfl hown5 (l := []) (n := 0) rfl rfl (Rs.nil_ (B := 0)) (fun _ => rfl) (by simp) (by omega) ?_; intro v6 w6 hown6 hg6 hv6; have hb6 : Below w.heap.size w w6 := hb5.grown hg6 (by omega) (fun j hj => by have := hown5.base_le j hj; omega); have x6 := x5.only (Only.of_grown hg6) (by simp; intro e; have := hown5.base_le _ e; omega); have y6 := y5.only (Only.of_grown hg6) (by simp; intro e; have := hown5.base_le _ e; omega); have hown6' : Os w6 w3.heap.size 65 v6 F := (by rw [hfin.out]; simpa using hown6); obtain ⟨A6, c6, rfl, _, _, _, _⟩ := hown6'.reads_len hFl.out; have q0 := Cel_c0 x6; have q1 := Cel_c1 x6; have q2 : w6.frozen? ⟨w.heap.size, 1, none⟩ = false := x6.free 1; have r0 := Cel_c0 y6; have r1 := Cel_c1 y6; have s0 : w6.frozen? ⟨w.heap.size + 1, 0, none⟩ = false := y6.free 0; have s1 : w6.frozen? ⟨w.heap.size + 1, 1, none⟩ = false := y6.free 1; have hfin6 := rpush_fin hown6' hb6 (by omega : base ≤ w3.heap.size) x6 y6 (I cap)))
            refine bodyPost_ret (rpush_results rfl rfl hfin6.1 hfin6.2.1) rfl ⟨_, rfl, hfin6.2.2.1, hfin6.2.2.2⟩
          · rcases hexit with rfl | ⟨hlt, h2⟩
            · have hnil : L.drop k = [] := List.drop_eq_nil_of_le (by have := HN.out; omega)
              have hfin2 : Hid (F = L.take k ++ [(p, i)]) := Lib.hid (by rw [hfin.out, hnil]; simp)
              clear hdl hnil
              rcases Nat.eq_or_lt_of_le hc1 with hcc | hcc
              · subst hcc
                go_wp2_with (first
                  | (at_builtin; refine wpList_rapp_n _ is_rentries rfl (.tmp 39) (.tmp 43) rfl rfl hown0 hkl rfl ((Rs_take HR.out k).below (b3.alloc (by omega) _)) (by simp) (by simp only [List.length_nil, hkl]; omega) (by simp) ?_; intro v4 w4 hown4 hg4 hv4; have hb4 : Below w.heap.size w w4 := (b3.alloc (by omega) _).grown hg4 (by simp <;> omega) (fun j hj => by have := hown0.base_le j hj; omega); have x4 := x3.grown hg4 (fun e => by have := hown0.base_le _ e; omega); have y4 := y3.grown hg4 (fun e => by have := hown0.base_le _ e; omega); have dd4 := Cel_c1 x4; have hs4 := hg4.size; simp at hs4)
                  | (at_builtin; refine wpList_rapp_n _ is_rentries rfl (.tmp 45) (.tmp 49) rfl rfl (hown4.alloc _) (l := [(p, i)]) (n := 1) rfl rfl (Rs_new1 _ _ _ _) (by simp) (by simp only [List.length_append, List.length_nil, List.length_cons, hkl]; omega) (by simp <;> omega) ?_; intro v5 w5 hown5 hg5 hv5; have hb5 : Below w.heap.size w w5 := (hb4.alloc (by omega) _).grown hg5 (by simp <;> omega) (fun j hj => by have := hown4.base_le j hj; omega); have x5 := x4.grown hg5 (fun e => by have := hown4.base_le _ e; omega); have y5 := y4.grown hg5 (fun e => by have := hown4.base_le _ e; omega); have dd5 := Cel_c1 x5; have hs5 := hg5.size; simp at hs5)
                  | (at_builtin; refine wpList_rapp_n _ is_rentries rfl (.tmp 51) (.tmp 55) rfl rfl hown5 (l := []) (n := 0) rfl rfl (Rs.nil_ (B := 0)) (by simp) (by simp only [List.length_append, List.length_nil, List.length_cons, hkl]; omega) (by omega) ?_; intro v6 w6 hown6 hg6 hv6; have hb6 : Below w.heap.size w w6 := hb5.grown hg6 (by omega) (fun j hj => by have := hown5.base_le j hj; omega); have x6 := x5.only (Only.of_grown hg6) (by simp; intro e; have := hown5.base_le _ e; omega); have y6 := y5.only (Only.of_grown hg6) (by simp; intro e; have := hown5.base_le _ e; omega); have hown6' : Os w6 w3.heap.size 65 v6 F := (by rw [hfin2.out]; simpa using hown6); obtain ⟨A6, c6, rfl, _, _, _, _⟩ := hown6'.reads_len hFl.out; have q0 := Cel_c0 x6; have q1 := Cel_c1 x6; have q2 : w6.frozen? ⟨w.heap.size, 1, none⟩ = false := x6.free 1; have r0 := Cel_c0 y6; have r1 := Cel_c1 y6; have s0 : w6.frozen? ⟨w.heap.size + 1, 0, none⟩ = false := y6.free 0; have s1 : w6.frozen? ⟨w.heap.size + 1, 1, none⟩ = false := y6.free 1; have hfin6 := rpush_fin hown6' hb6 (by omega : base ≤ w3.heap.size) x6 y6 (I cap)))
                refine bodyPost_ret (rpush_results rfl rfl hfin6.1 hfin6.2.1) rfl ⟨_, rfl, hfin6.2.2.1, hfin6.2.2.2⟩
              · have hck : c ≠ k := by omega
                go_wp2_with (first
                  | (at_builtin; refine wpList_rapp_n _ is_rentries rfl (.tmp 39) (.tmp 43) rfl rfl hown0 hkl rfl ((Rs_take HR.out k).below (b3.alloc (by omega) _)) (by simp) (by simp only [List.length_nil, hkl]; omega) (by simp) ?_; intro v4 w4 hown4 hg4 hv4; have hb4 : Below w.heap.size w w4 := (b3.alloc (by omega) _).grown hg4 (by simp <;> omega) (fun j hj => by have := hown0.base_le j hj; omega); have x4 := x3.grown hg4 (fun e => by have := hown0.base_le _ e; omega); have y4 := y3.grown hg4 (fun e => by have := hown0.base_le _ e; omega); have dd4 := Cel_c1 x4; have hs4 := hg4.size; simp at hs4)
                  | (at_builtin; refine wpList_rapp_n _ is_rentries rfl (.tmp 45) (.tmp 49) rfl rfl (hown4.alloc _) (l := [(p, i)]) (n := 1) rfl rfl (Rs_new1 _ _ _ _) (by simp) (by simp only [List.length_append, List.length_nil, List.length_cons, hkl]; omega) (by simp <;> omega) ?_; intro v5 w5 hown5 hg5 hv5; have hb5 : Below w.heap.size w w5 := (hb4.alloc (by omega) _).grown hg5 (by simp <;> omega) (fun j hj => by have := hown4.base_le j hj; omega); have x5 := x4.grown hg5 (fun e => by have := hown4.base_le _ e; omega); have y5 := y4.grown hg5 (fun e => by have := hown4.base_le _ e; omega); have dd5 := Cel_c1 x5; have hs5 := hg5.size; simp at hs5)
                  | (at_builtin; refine wpList_rapp_n _ is_rentries rfl (.tmp 51) (.tmp 55) rfl rfl hown5 (l := []) (n := 0) rfl rfl (Rs.nil_ (B := 0)) (by simp) (by simp only [List.length_append, List.length_nil, List.length_cons, hkl]; omega) (by omega) ?_; intro v6 w6 hown6 hg6 hv6; have hb6 : Below w.heap.size w w6 := hb5.grown hg6 (by omega) (fun j hj => by have := hown5.base_le j hj; omega); have x6 := x5.only (Only.of_grown hg6) (by simp; intro e; have := hown5.base_le _ e; omega); have y6 := y5.only (Only.of_grown hg6) (by simp; intro e; have := hown5.base_le _ e; omega); have hown6' : Os w6 w3.heap.size 65 v6 F := (by rw [hfin2.out]; simpa using hown6); obtain ⟨A6, c6, rfl, _, _, _, _⟩ := hown6'.reads_len hFl.out; have q0 := Cel_c0 x6; have q1 := Cel_c1 x6; have q2 : w6.frozen? ⟨w.heap.size, 1, none⟩ = false := x6.free 1; have r0 := Cel_c0 y6; have r1 := Cel_c1 y6; have s0 : w6.frozen? ⟨w.heap.size + 1, 0, none⟩ = false := y6.free 0; have s1 : w6.frozen? ⟨w.heap.size + 1, 1, none⟩ = false := y6.free 1; have hfin6 := rpush_fin hown6' hb6 (by omega : base ≤ w3.heap.size) x6 y6 (I cap)))
                refine bodyPost_ret (rpush_results rfl rfl hfin6.1 hfin6.2.1) rfl ⟨_, rfl, hfin6.2.2.1, hfin6.2.2.2⟩
            · have hlt' : k < L.length := by have := HN.out; omega
              have h2 := h2 hlt'
              have HRd : Hid (Rs w w.heap.size (some ⟨g, k * 2, none⟩) (L.drop k)) := Lib.hid (by have := HR.out.drop k; rwa [Nat.zero_add] at this)
              obtain ⟨b, off, he, hbw, hc1', hc2'⟩ := (HR.out.below b3).at_ hlt'
              cases he
              generalize L[k] = y at hc1' hc2' h2
              clear hlt'
              obtain ⟨a1, a2⟩ := y
              dsimp only at hc1' hc2' h2
              rw [Nat.zero_add] at hc1' hc2'
              have t3 : decide (a1 ≤ p) = false := by simp; omega
              have hck : c ≠ k := by omega
              have hkc : k ≤ c := by omega
              clear h2
              go_wp2_with (first
                | (at_builtin; refine wpList_rapp_n _ is_rentries rfl (.tmp 39) (.tmp 43) rfl rfl hown0 hkl rfl ((Rs_take HR.out k).below (b3.alloc (by omega) _)) (by simp) (by simp only [List.length_nil, hkl]; omega) (by simp) ?_; intro v4 w4 hown4 hg4 hv4; have hb4 : Below w.heap.size w w4 := (b3.alloc (by omega) _).grown hg4 (by simp <;> omega) (fun j hj => by have := hown0.base_le j hj; omega); have x4 := x3.grown hg4 (fun e => by have := hown0.base_le _ e; omega); have y4 := y3.grown hg4 (fun e => by have := hown0.base_le _ e; omega); have dd4 := Cel_c1 x4; have hs4 := hg4.size; simp at hs4)
                | (at_builtin; refine wpList_rapp_n _ is_rentries rfl (.tmp 45) (.tmp 49) rfl rfl (hown4.alloc _) (l := [(p, i)]) (n := 1) rfl rfl (Rs_new1 _ _ _ _) (by simp) (by simp only [List.length_append, List.length_nil, List.length_cons, hkl]; omega) (by simp <;> omega) ?_; intro v5 w5 hown5 hg5 hv5; have hb5 : Below w.heap.size w w5 := (hb4.alloc (by omega) _).grown hg5 (by simp <;> omega) (fun j hj => by have := hown4.base_le j hj; omega); have x5 := x4.grown hg5 (fun e => by have := hown4.base_le _ e; omega); have y5 := y4.grown hg5 (fun e => by have := hown4.base_le _ e; omega); have dd5 := Cel_c1 x5; have hs5 := hg5.size; simp at hs5)
                | (at_builtin; refine wpList_rapp_n _ is_rentries rfl (.tmp 51) (.tmp 55) rfl rfl hown5 hdl rfl (HRd.out.below hb5) (by simp) (by simp only [List.length_append, List.length_nil, List.length_cons, hkl, hdl]; omega) (by omega) ?_; intro v6 w6 hown6 hg6 hv6; have hb6 : Below w.heap.size w w6 := hb5.grown hg6 (by omega) (fun j hj => by have := hown5.base_le j hj; omega); have x6 := x5.only (Only.of_grown hg6) (by simp; intro e; have := hown5.base_le _ e; omega); have y6 := y5.only (Only.of_grown hg6) (by simp; intro e; have := hown5.base_le _ e; omega); have hown6' : Os w6 w3.heap.size 65 v6 F := (by rw [hfin.out]; exact hown6); obtain ⟨A6, c6, rfl, _, _, _, _⟩ := hown6'.reads_len hFl.out; have q0 := Cel_c0 x6; have q1 := Cel_c1 x6; have q2 : w6.frozen? ⟨w.heap.size, 1, none⟩ = false := x6.free 1; have r0 := Cel_c0 y6; have r1 := Cel_c1 y6; have s0 : w6.frozen? ⟨w.heap.size + 1, 0, none⟩ = false := y6.free 0; have s1 : w6.frozen? ⟨w.heap.size + 1, 1, none⟩ = false := y6.free 1; have hfin6 := rpush_fin hown6' hb6 (by omega : base ≤ w3.heap.size) x6 y6 (I cap)))
              refine bodyPost_ret (rpush_results rfl rfl hfin6.1 hfin6.2.1) rfl ⟨_, rfl, hfin6.2.2.1, hfin6.2.2.2⟩
  · rw [hhas] at HE HF
    have hE2 : E = 9 := by rw [HE.out]; simp
    have hF2 : F = L := by rw [HF.out]; simp
    subst hE2
    subst hF2
    obtain ⟨K, hK⟩ : ∃ K, K = FA.length := ⟨_, rfl⟩
    rw [← hK]
    clear hhas HE HF hf hsp hK
    go_wp2
    refine bodyPost_ret (rpush_results rfl rfl hquit.1 hquit.2.1) rfl ⟨_, rfl, hoq, hquit.2.2.1⟩
end Go.Proofs.Ytnnjmlpanbbanaa.Rng.Que
