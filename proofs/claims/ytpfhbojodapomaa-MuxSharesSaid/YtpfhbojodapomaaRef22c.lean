/-
  The reference of layer 22: Next.
-/
import Derived.Test.YtpfhbojodapomaaRef22a
import Derived.Test.YtpfhbojodapomaaMuxMath3
namespace Go.Proofs.Ytpfhbojodapomaa.Mux
open Go.RowKit Go.Shelf Go.Proofs.Ytpfhbojodapomaa.Row Ints

theorem os_ne {α β : Type} {enc1 : α → List Value} {enc2 : β → List Value} {a b : Nat} {w : World} {b1 b2 : Nat} {e1 e2 : TypeId} {v1 v2 : Value} {l1 : List α} {l2 : List β} (h1 : Row.Os enc1 a w b1 e1 v1 l1) (h2 : Row.Os enc2 b w b2 e2 v2 l2) (he : e1 ≠ e2) :
    ∀ i, v2.ownBlock = some i → v1.ownBlock ≠ some i := by
  intro i hi
  rcases h2.2 with ⟨rfl, _⟩ | ⟨g, cap, cur, rfl, _, hh, _⟩
  · cases hi
  · cases hi
    exact Row.Os.apart h1 (show Cel w g e2 cur from hh) he
theorem flat_same {L : List Ch} {g : Ch → Ch} (hg : ∀ x, encA (g x) = encA x) : flat encA (L.map g) = flat encA L := by
  unfold flat
  rw [List.flatMap_map]
  simp only [hg]
theorem os_same {w : World} {base : Nat} {e : TypeId} {v : Value} {L : List Ch} {g : Ch → Ch} (h : Row.Os encA 3 w base e v L) (hg : ∀ x, encA (g x) = encA x) : Row.Os encA 3 w base e v (L.map g) := by
  unfold Row.Os at h ⊢
  rw [flat_same hg, List.length_map]
  exact h
theorem os_free1 {α : Type} {enc : α → List Value} {k : Nat} {w : World} {base g n cap : Nat} {e : TypeId} {l : List α} (h : Row.Os enc k w base e (.slice (some ⟨g, 0, none⟩) n cap) l) (i : Nat) : w.frozen? ⟨g, i, none⟩ = false := by
  rcases h.2 with ⟨he, _⟩ | ⟨g', cap', cur, he, _, hh, _⟩
  · cases he
  · cases he; exact Cel.free (t := e) hh i
/-- one number of a row of ints, written in place -/
theorem os_int {w : World} {base g n cap i : Nat} {l : List Int} (h : Row.Os encI 1 w base 3 (.slice (some ⟨g, 0, none⟩) n cap) l) (hi : i < l.length) (c : Int) :
    Row.Os encI 1 (w.setCell ⟨g, i, none⟩ (.int .i64 c)) base 3 (.slice (some ⟨g, 0, none⟩) n cap) (l.set i c) := by
  have := h.set_ encI_ok (gr := g) (i := i) (j := 0) (x' := c) (u := .int .i64 c) rfl (List.getElem?_eq_getElem hi) rfl (by decide)
  rwa [Nat.mul_one, Nat.add_zero] at this
theorem map_cr_set {l : List Ch} {i : Nat} {y : Ch} : (l.set i y).map Ch.cr = (l.map Ch.cr).set i y.cr := List.map_set
theorem bump_cr {f : Ch → Bool} {x : Ch} (h : f x = true) : (bmp f x).cr = x.cr + x.wt := by unfold bmp; rw [if_pos h]; rfl
theorem bmp_sn (f : Ch → Bool) (x : Ch) : (bmp f x).sn = x.sn := by unfold bmp; split <;> rfl
theorem sn_modify {f : Ch → Bool} {L : List Ch} {j : Nat} {s : Int} (hj : j < L.length) : ((L.map (bmp f)).modify j (fin s)).map Ch.sn = (L.map Ch.sn).set j (L[j].sn + 1) := by
  rw [modify_set (by simpa using hj), List.map_set]
  have e : (L.map (bmp f)).map Ch.sn = L.map Ch.sn := by rw [List.map_map]; exact List.map_congr_left fun x _ => bmp_sn f x
  rw [e]
  simp [fin, bmp_sn]
theorem cr_modify {f : Ch → Bool} {L : List Ch} {j : Nat} {s : Int} (hj : j < L.length) (hf : f L[j] = true) : ((L.map (bmp f)).modify j (fin s)).map Ch.cr = ((L.map (bmp f)).map Ch.cr).set j (L[j].cr + L[j].wt - s) := by
  rw [modify_set (by simpa using hj), List.map_set]
  simp [fin, bump_cr hf]

set_option maxHeartbeats 8000000 in
set_option maxRecDepth 100000 in
theorem xnext_any (w : World) (base g : Nat) (F : List Nat) (L : List Ch) (rd : List Int) (T : Nat) (A5 : Option Addr) (n5 c5 : Nat) (h : RX w base g F L) (hG : Good L) (hB : Bd T L) (hT : T ≤ 1000000000000)
    (hn5 : rd.length = n5) (hrd : Ns w base A5 rd) (hbs : base ≤ w.heap.size) (hr5 : n5 ≤ 1000000) :
    Calls Try.prog 13 #[.pointer (some ⟨g, 0, none⟩), .slice A5 n5 c5] w fun e w' => ∃ (r : Int) (res : Option Int) (L' : List Ch), e = .returned (.int .i64 r) ∧ Hid (Nx rd L res L') ∧ Hid ((res = none ∧ r = -1) ∨ ∃ k : Nat, r = k ∧ ∃ hk : k < L.length, res = some L[k].id) ∧ RX w' base g F L' ∧ Only F w w' := by
  have hlen := hG.len
  have hg := h.lt
  obtain ⟨v1, v2, v3, hc, o1, o2, o3, hF, hFn⟩ := h
  obtain ⟨n, hn⟩ : ∃ n, n = L.length := ⟨_, rfl⟩
  have hn8 : n ≤ 8 := by omega
  have HN := Lib.hid hn
  have hnG : g ∉ F := RZ.notint ⟨o1, o2, o3, hF, hFn⟩ hc (by decide)
  have ne12 := os_ne o1 o2 (by decide)
  have ne13 := os_ne o1 o3 (by decide)
  obtain ⟨gc, hgc⟩ : ∃ gc, n ≠ 0 → ∃ c, v2 = .slice (some ⟨gc, 0, none⟩) n c := by
    rcases Nat.eq_zero_or_pos n with h0 | h0
    · exact ⟨0, fun e => absurd h0 e⟩
    · obtain ⟨gr, c, e, _⟩ := o2.row (by simpa [← hn] using h0)
      exact ⟨gr, fun _ => ⟨c, by rw [e]; simp [hn]⟩⟩
  obtain ⟨gs, hgs⟩ : ∃ gs, n ≠ 0 → ∃ c, v3 = .slice (some ⟨gs, 0, none⟩) n c := by
    rcases Nat.eq_zero_or_pos n with h0 | h0
    · exact ⟨0, fun e => absurd h0 e⟩
    · obtain ⟨gr, c, e, _⟩ := o3.row (by simpa [← hn] using h0)
      exact ⟨gr, fun _ => ⟨c, by rw [e]; simp [hn]⟩⟩
  obtain ⟨A1, c1, rfl, r1, _, _, _⟩ := o1.reads_len encA_ok (n := n) hn.symm
  obtain ⟨A2, c2, rfl, _⟩ := o2.reads_len encI_ok (n := n) (by simp [hn])
  obtain ⟨A3, c3, rfl, _⟩ := o3.reads_len encI_ok (n := n) (by simp [hn])
  have hA2 : n ≠ 0 → A2 = some ⟨gc, 0, none⟩ := fun e => by obtain ⟨_, e2⟩ := hgc e; cases e2; rfl
  have hA3 : n ≠ 0 → A3 = some ⟨gs, 0, none⟩ := fun e => by obtain ⟨_, e2⟩ := hgs e; cases e2; rfl
  have k0 : w.cell? ⟨g, 0, none⟩ = some (.slice A1 n c1) := hc.cell 0
  have hhas := fun (x : Int) (W : World) (hb : Below base w W) => has_any x rd W A5 n5 c5 hn5 ((hrd.below hb).more (Nat.le_trans hbs hb.size)) hr5
  have hFB := RZ.ints ⟨o1, o2, o3, hF, hFn⟩
  obtain ⟨P, hP⟩ : ∃ P, P = mnp rd L := ⟨_, rfl⟩
  have HP := Lib.hid hP
  have hPin : -1000000 ≤ P ∧ P ≤ 16 := by
    refine ⟨?_, by rw [hP]; exact mnp_le16 rd L⟩
    rcases mnp_at (rd := rd) hG.ok with h1 | ⟨x, hx, _, h2⟩
    · have key : ∀ l : List Ch, (∀ x ∈ l, x.id ∉ rd) → mnp rd l = 16 := by
        intro l
        induction l with
        | nil => intro _; rfl
        | cons z l ih => intro hl; unfold mnp; rw [if_neg (hl z (by simp))]; exact ih fun x hx => hl x (by simp [hx])
      rw [hP, key L h1]; omega
    · have := (hG.ok x hx).2.2.1
      rw [hP]; omega
  have HG := Lib.hid hG
  have HB := Lib.hid hB
  clear hP hG hB hgc hgs hn hlen hn5
  go_enter Try.func13, Try.ntmps13
  go_wp2
  go_loop [5, 6] (fun m i => ∃ k : Nat, i = .int .i64 k ∧ k ≤ n ∧ ∃ M : Int, m = .int .i64 M ∧ Hid (M = mnp rd (L.take k))) (fun _ i => n - (intOf i).toNat)
  case atStart => exact ⟨0, rfl, Nat.zero_le _, 16, rfl, Lib.hid (by simp [mnp])⟩
  case round =>
    obtain ⟨k, rfl, hk, M, rfl, hM⟩ := hrel
    by_cases hlt : k < n
    · have hkl : k < L.length := by rw [← HN.out]; exact hlt
      obtain ⟨b, off, rfl, _, d0, d1, _⟩ := a_at r1 hkl
      have htk : Hid (mnp rd (L.take (k + 1)) = if L[k].id ∈ rd then min (mnp rd (L.take k)) L[k].pr else mnp rd (L.take k)) := Lib.hid (by rw [take_at hkl, mnp_snoc])
      have hh := hhas L[k].id w (Below.refl _ _)
      clear r1 hhas
      by_cases hin : L[k].id ∈ rd
      · rw [decide_eq_true hin] at hh
        have htk2 : Hid (min M L[k].pr = mnp rd (L.take (k + 1))) := Lib.hid (by rw [htk.out, if_pos hin, hM.out])
        clear hin htk
        generalize L[k].id = x0 at d0 hh
        generalize L[k].pr = x1 at d1 htk2
        obtain ⟨V, hV⟩ : ∃ V, V = min M x1 := ⟨_, rfl⟩
        have m1 : min M x1 = V := hV.symm
        have m2 : (if x1 < M then x1 else M) = V := by split <;> omega
        have m3 : (if M < x1 then M else x1) = V := by split <;> omega
        have htk3 : Hid (V = mnp rd (L.take (k + 1))) := Lib.hid (by rw [← htk2.out]; exact hV)
        clear hV htk2
        go_wp2_with (go_at_call 27; refine hh.mono ?_; rintro e w1 ⟨rfl, rfl⟩)
        go_round
        case rel => exact ⟨k + 1, by simp, hlt, V, rfl, htk3⟩
        case measure => simp [intOf]; omega
      · rw [decide_eq_false hin] at hh
        have htk3 : Hid (M = mnp rd (L.take (k + 1))) := Lib.hid (by rw [htk.out, if_neg hin, hM.out])
        clear hin htk
        generalize L[k].id = x0 at d0 hh
        go_wp2_with (go_at_call 27; refine hh.mono ?_; rintro e w1 ⟨rfl, rfl⟩)
        go_round
        case rel => exact ⟨k + 1, by simp, hlt, M, rfl, htk3⟩
        case measure => simp [intOf]; omega
    · obtain rfl : k = n := by omega
      obtain rfl : M = P := by rw [hM.out, HP.out, HN.out, List.take_length]
      clear hM
      clear r1
      go_wp2
      go_loopw [7, 8, 9] (fun b s i wr => ∃ (kk : Nat) (Z S : Int), b = .int .i64 Z ∧ s = .int .i64 S ∧ i = .int .i64 kk ∧ kk ≤ k ∧ Row.Os encI 1 wr base 3 (.slice A2 k c2) ((Lb (el rd M) kk L).map Ch.cr) ∧ Only (Value.ownBlock (.slice A2 k c2)).toList w wr ∧ Hid (wsf (el rd M) (L.take kk) = S) ∧ Hid (BI (el rd M) L kk Z)) (fun _ _ i _ => k - (intOf i).toNat)
      case atStart => exact ⟨0, -1, 0, rfl, rfl, rfl, Nat.zero_le _, by rw [Lb_zero]; exact o2, Only.refl _ _, Lib.hid rfl, Lib.hid BI.zero⟩
      case round =>
        obtain ⟨k2, Z, S, rfl, rfl, rfl, hk2, hot, hon, hS, hbi⟩ := hrel
        have hsub : ∀ x ∈ (Value.ownBlock (.slice A2 k c2)).toList, x ∈ F := fun x hx => by rw [hF]; exact List.mem_append_left _ hx
        have hbw : Below base w wr := hon.below hbs fun x hx => (hFB x (hsub x hx)).1
        have hcw := hc.only hon fun hx => hnG (hsub g hx)
        have o1w := o1.only hon fun i hi hm => ne12 i (by simpa using hm) hi
        have z0 : wr.cell? ⟨g, 0, none⟩ = some (.slice A1 k c1) := hcw.cell 0
        have z1 : wr.cell? ⟨g, 1, none⟩ = some (.slice A2 k c2) := hcw.cell 1
        have z2 : wr.cell? ⟨g, 2, none⟩ = some (.slice A3 k c3) := hcw.cell 2
        have hls : Hid (0 ≤ S ∧ S ≤ 800) := Lib.hid (by
          have h1 := wsf_in (f := el rd M) (A := L.take k2) fun x hx => HG.out.ok x (List.mem_of_mem_take hx)
          rw [hS.out] at h1
          have h2 : (L.take k2).length ≤ 8 := by rw [List.length_take]; omega
          omega)
        by_cases hlt2 : k2 < k
        · have hkl : k2 < L.length := by rw [← HN.out]; exact hlt2
          obtain rfl := hA2 (by omega)
          obtain rfl := hA3 (by omega)
          obtain ⟨b, off, rfl, _, d0, d1, d2⟩ := a_at (o1w.rs encA_ok) hkl
          have hh := hhas L[k2].id wr hbw
          by_cases hp : L[k2].pr = M
          · have hpb : (L[k2].pr != M) = false := by simpa using hp
            by_cases hin : L[k2].id ∈ rd
            · have hel : el rd M L[k2] = true := el_iff.2 ⟨hin, hp⟩
              rw [decide_eq_true hin] at hh
              have htS : Hid (wsf (el rd M) (L.take (k2 + 1)) = S + L[k2].wt) := Lib.hid (by rw [wsf_take hkl, hel, hS.out]; simp)
              have hLn : Hid (((Lb (el rd M) k2 L).map Ch.cr).set k2 (L[k2].cr + L[k2].wt) = (Lb (el rd M) (k2 + 1) L).map Ch.cr) := Lib.hid (by rw [Lb_next hkl, map_cr_set, bump_cr hel])
              have hlk : k2 < ((Lb (el rd M) k2 L).map Ch.cr).length := by rw [List.length_map, Lb_len]; exact hkl
              obtain ⟨_, _, e5, _, d3⟩ := i_at (hot.rs encI_ok) hlk
              cases e5
              have hv3 : ((Lb (el rd M) k2 L).map Ch.cr)[k2] = L[k2].cr := by rw [List.getElem_map, Lb_get hkl, if_neg (Nat.lt_irrefl _)]
              rw [hv3, Nat.zero_add] at d3
              have hfr := os_free1 hot k2
              have hot2 := (os_int hot hlk (L[k2].cr + L[k2].wt)).drew
              rw [hLn.out] at hot2
              have hwt := (HG.out.ok L[k2] (List.getElem_mem hkl)).2.2.2.2
              have hcr := HB.out L[k2] (List.getElem_mem hkl)
              have hls2 := hls.out
              have hbi2 := hbi
              have HE := Lib.hid hel
              have hXX : Hid (∀ SS UU, SS = L[k2].cr + L[k2].wt → UU = L[k2].id → ∀ j : Nat, Z = j → j < k2 → (hj : j < L.length) → (L[j].cr + L[j].wt < SS ∨ (SS = L[j].cr + L[j].wt ∧ UU < L[j].id) → BI (el rd M) L (k2 + 1) k2) ∧ (¬ (L[j].cr + L[j].wt < SS ∨ (SS = L[j].cr + L[j].wt ∧ UU < L[j].id)) → BI (el rd M) L (k2 + 1) j)) := Lib.hid (by
                rintro SS UU rfl rfl j rfl hjk hj
                exact ⟨fun h => hbi.out.better hkl hj HE.out h, fun h => hbi.out.worse hkl hj h⟩)
              have hXF : Hid (Z = -1 → BI (el rd M) L (k2 + 1) k2) := Lib.hid (by rintro rfl; exact hbi.out.first hkl HE.out)
              clear hv3 hLn hlk hel hin hp hS hhas hls
              obtain ⟨x0, hx0⟩ : ∃ x, x = L[k2].id := ⟨_, rfl⟩
              obtain ⟨SS, hSS⟩ : ∃ x, x = L[k2].cr + L[k2].wt := ⟨_, rfl⟩
              obtain ⟨UU, hUU⟩ : ∃ x, x = S + L[k2].wt := ⟨_, rfl⟩
              have hX := Lib.hid (hXX.out SS x0 hSS hx0)
              rw [← hx0] at d0 hh
              rw [← hSS] at hot2
              rw [← hUU] at htS
              clear hXX
              have HSS := Lib.hid hSS
              obtain ⟨W2, hW2⟩ : ∃ W2, W2 = (wr.setCell ⟨gc, k2, none⟩ (.int .i64 SS)).drew := ⟨_, rfl⟩
              have hon2 : Only [gc] w W2 := by
                have h1 := hon.trans (put1 wr gc k2 (.int .i64 SS)) (fun x hx => .inl hx)
                rw [hW2]; exact ⟨h1.1, h1.2, h1.3, h1.4, h1.5⟩
              rw [← hW2] at hot2
              have hc2 := hc.only hon2 fun hx => hnG (hsub g hx)
              have o12 := o1.only hon2 fun i hi hm => ne12 i (by have e : i = gc := (by simpa using hm); rw [e]; rfl) hi
              have q0 : W2.cell? ⟨g, 0, none⟩ = some (.slice (some ⟨b, off, none⟩) k c1) := hc2.cell 0
              have q1 : W2.cell? ⟨g, 1, none⟩ = some (.slice (some ⟨gc, 0, none⟩) k c2) := hc2.cell 1
              obtain ⟨_, _, e5, _, p0, p1, p2⟩ := a_at (o12.rs encA_ok) hkl
              cases e5
              have hlk2 : k2 < ((Lb (el rd M) (k2 + 1) L).map Ch.cr).length := by rw [List.length_map, Lb_len]; exact hkl
              obtain ⟨_, _, e5, _, p3⟩ := i_at (hot2.rs encI_ok) hlk2
              cases e5
              have p3e : W2.cell? ⟨gc, k2, none⟩ = some (.int .i64 SS) := by
                have e9 : ((Lb (el rd M) (k2 + 1) L).map Ch.cr)[k2] = SS := by
                  rw [List.getElem_map, Lb_get hkl, if_pos (by omega), bump_cr HE.out]; exact HSS.out.symm
                rw [e9, Nat.zero_add] at p3; exact p3
              clear p3 HSS
              rw [← hx0] at p0
              generalize L[k2].pr = x1 at d1 hpb p1
              generalize L[k2].wt = x2 at d2 hwt hSS hUU p2
              generalize L[k2].cr = x3 at d3 hcr hSS
              have w1e : wrap64 (x3 + x2) = SS := by unfold wrap64; omega
              have w2e : IntKind.i64.wrap (x3 + x2) = SS := by rw [IntKind.wrap_i64]; omega
              have w3e : wrap64 (S + x2) = UU := by unfold wrap64; omega
              have w4e : IntKind.i64.wrap (S + x2) = UU := by rw [IntKind.wrap_i64]; omega
              have HW2 := Lib.hid hW2
              clear hW2 hSS hUU hx0 hlk2 hot hon hwt hcr hls2
              go_wp2_with (go_at_call 27; refine hh.mono ?_; rintro e w1 ⟨rfl, rfl⟩)
              go_region
              rw [← HW2.out]
              clear HW2 hh z0 z1 z2 d0 d1 d2 d3 hfr
              go_wp2_with fail
              rcases hbi2.out.at_ with hZ | ⟨j, hZ, hjk, hjl, hfj⟩
              · have HBI := Lib.hid (hXF.out hZ)
                subst hZ
                clear hX hXF
                go_quiet (fail)
                go_wp2_with fail
                go_roundw
                case rel => exact ⟨k2 + 1, (k2 : Int), UU, rfl, rfl, by simp, hlt2, hot2.draws _, hon2.trans (Only.of_below (S := []) (drewN_below W2 _)) (fun _ h => nomatch h), htS, HBI⟩
                case measure => simp [intOf]; omega
              · have hBj := hX.out j hZ hjk hjl
                subst hZ
                have t0 : decide ((j : Int) < 0) = false := decide_eq_false (by omega)
                have hjc : j < ((Lb (el rd M) (k2 + 1) L).map Ch.cr).length := by rw [List.length_map, Lb_len]; exact hjl
                obtain ⟨_, _, e5, _, pj⟩ := i_at (hot2.rs encI_ok) hjc
                cases e5
                have e9 : ((Lb (el rd M) (k2 + 1) L).map Ch.cr)[j] = L[j].cr + L[j].wt := by
                  rw [List.getElem_map, Lb_get hjl, if_pos (by omega), bump_cr hfj]
                rw [e9, Nat.zero_add] at pj
                obtain ⟨_, _, e5, _, pi, _, _⟩ := a_at (o12.rs encA_ok) hjl
                cases e5
                have hjk1 : j < k := by omega
                clear e9 hjc hfj hX hXF
                generalize L[j].cr + L[j].wt = CJ at hBj pj
                generalize L[j].id = y0 at hBj pi
                have HBJ := Lib.hid hBj
                clear hBj
                by_cases hlt3 : CJ < SS
                · have t1 : decide (CJ < SS) = true := decide_eq_true hlt3
                  have HBI := Lib.hid (HBJ.out.1 (.inl hlt3))
                  clear hlt3 HBJ
                  go_quiet (fail)
                  go_wp2_with fail
                  go_roundw
                  case rel => exact ⟨k2 + 1, (k2 : Int), UU, rfl, rfl, by simp, hlt2, hot2.draws _, hon2.trans (Only.of_below (S := []) (drewN_below W2 _)) (fun _ h => nomatch h), htS, HBI⟩
                  case measure => simp [intOf]; omega
                · have t1 : decide (CJ < SS) = false := decide_eq_false hlt3
                  by_cases heq : SS = CJ
                  · have t2 : (SS == CJ) = true := by simpa using heq
                    by_cases hid : x0 < y0
                    · have t3 : decide (x0 < y0) = true := decide_eq_true hid
                      have HBI := Lib.hid (HBJ.out.1 (.inr ⟨heq, hid⟩))
                      clear hlt3 HBJ heq hid
                      go_quiet (fail)
                      go_wp2_with fail
                      go_roundw
                      case rel => exact ⟨k2 + 1, (k2 : Int), UU, rfl, rfl, by simp, hlt2, hot2.draws _, hon2.trans (Only.of_below (S := []) (drewN_below W2 _)) (fun _ h => nomatch h), htS, HBI⟩
                      case measure => simp [intOf]; omega
                    · have t3 : decide (x0 < y0) = false := decide_eq_false hid
                      have HBI := Lib.hid (HBJ.out.2 (fun h => h.elim hlt3 fun h => hid h.2))
                      clear hlt3 HBJ heq hid
                      go_quiet (fail)
                      go_wp2_with fail
                      go_roundw
                      case rel => exact ⟨k2 + 1, (j : Int), UU, rfl, rfl, by simp, hlt2, hot2.draws _, hon2.trans (Only.of_below (S := []) (drewN_below W2 _)) (fun _ h => nomatch h), htS, HBI⟩
                      case measure => simp [intOf]; omega
                  · have t2 : (SS == CJ) = false := by simpa using heq
                    have HBI := Lib.hid (HBJ.out.2 (fun h => h.elim hlt3 fun h => heq h.1))
                    clear hlt3 HBJ heq
                    go_quiet (fail)
                    go_wp2_with fail
                    go_roundw
                    case rel => exact ⟨k2 + 1, (j : Int), UU, rfl, rfl, by simp, hlt2, hot2.draws _, hon2.trans (Only.of_below (S := []) (drewN_below W2 _)) (fun _ h => nomatch h), htS, HBI⟩
                    case measure => simp [intOf]; omega
            · have hel : el rd M L[k2] = false := by simp [el, hin]
              rw [decide_eq_false hin] at hh
              have e1 : Hid (wsf (el rd M) (L.take (k2 + 1)) = S) := Lib.hid (by rw [wsf_take hkl, hel, hS.out]; simp)
              have e2 := Lib.hid (hbi.out.skip hkl hel)
              have e3 : Lb (el rd M) (k2 + 1) L = Lb (el rd M) k2 L := Lb_same hkl hel
              rw [← e3] at hot
              clear hel hS hbi e3
              clear hhas hin hp d2
              generalize L[k2].id = x0 at d0 hh
              generalize L[k2].pr = x1 at d1 hpb
              go_wp2_with (go_at_call 27; refine hh.mono ?_; rintro e w1 ⟨rfl, rfl⟩)
              go_roundw
              case rel => exact ⟨k2 + 1, Z, S, rfl, rfl, by simp, hlt2, hot, hon, e1, e2⟩
              case measure => simp [intOf]; omega
          · have hpb : (L[k2].pr != M) = true := by simpa using hp
            have hel : el rd M L[k2] = false := by simp [el, hp]
            have e1 : Hid (wsf (el rd M) (L.take (k2 + 1)) = S) := Lib.hid (by rw [wsf_take hkl, hel, hS.out]; simp)
            have e2 := Lib.hid (hbi.out.skip hkl hel)
            have e3 : Lb (el rd M) (k2 + 1) L = Lb (el rd M) k2 L := Lb_same hkl hel
            rw [← e3] at hot
            clear hel hS hbi e3
            clear hhas hp d2 hh d0
            generalize L[k2].pr = x1 at d1 hpb
            go_wp2_with fail
            go_roundw
            case rel => exact ⟨k2 + 1, Z, S, rfl, rfl, by simp, hlt2, hot, hon, e1, e2⟩
            case measure => simp [intOf]; omega
        · obtain rfl : k2 = k := by omega
          have hkL : Lb (el rd M) k2 L = L.map (bmp (el rd M)) := by rw [HN.out, Lb_all]
          have hws : Hid (ws rd M L = S) := Lib.hid (by have h1 := hS.out; rw [HN.out, List.take_length, wsf_el] at h1; exact h1)
          have hbN : BI (el rd M) L L.length Z := by have h1 := hbi.out; rw [HN.out] at h1; exact h1
          have o3w : Row.Os encI 1 wr base 3 (.slice A3 k2 c3) (L.map Ch.sn) := o3.only hon fun i hi hm => by
            rw [hF, List.nodup_append] at hFn
            exact hFn.2.2 i hm i (by simpa using hi) rfl
          rw [hkL] at hot
          have honF : Only F w wr := hon.more fun x hx => .inl (hsub x hx)
          rcases hbi.out.at_ with hZ | ⟨j, hZ, hjk, hjl, hfj⟩
          · subst hZ
            rw [map_none hbN] at hot
            have HX : Hid (RX wr base g F L) := Lib.hid ⟨_, _, _, hcw, o1w, hot, o3w, hF, hFn⟩
            have HNx : Hid (Nx rd L none L) := Lib.hid (by rw [HP.out] at hbN; exact ref_none HG.out hbN)
            clear hot o3w o1w hcw hbN hbi hS hkL hon hsub hhas hnG ne12 ne13
            go_wp2_with fail
            go_ret
            exact ⟨-1, none, L, rfl, HNx, Lib.hid (.inl ⟨rfl, rfl⟩), HX.out, honF⟩
          · subst hZ
            obtain rfl := hA2 (by omega)
            obtain rfl := hA3 (by omega)
            have hgF : gc ∈ F ∧ gs ∈ F ∧ gc ≠ gs := by
              rw [hF] at hFn ⊢
              refine ⟨by simp [Value.ownBlock], by simp [Value.ownBlock], fun e => ?_⟩
              rw [List.nodup_append] at hFn
              exact hFn.2.2 gc (by simp [Value.ownBlock]) gs (by simp [Value.ownBlock]) e
            obtain ⟨hgc, hgs, hcs⟩ := hgF
            have HNx : Hid (Nx rd L (some L[j].id) ((L.map (bmp (el rd M))).modify j (fin S))) := Lib.hid (by
              rw [HP.out] at hbN ⊢
              have h1 := ref_some HG.out hbN hjl
              rw [← HP.out] at h1 ⊢
              rw [hws.out] at h1
              exact h1)
            have hjc : j < ((L.map (bmp (el rd M))).map Ch.cr).length := by simpa using hjl
            have hjs : j < (L.map Ch.sn).length := by simpa using hjl
            obtain ⟨_, _, e5, _, p1⟩ := i_at (hot.rs encI_ok) hjc
            cases e5
            have e9 : ((L.map (bmp (el rd M))).map Ch.cr)[j] = L[j].cr + L[j].wt := by rw [List.getElem_map, List.getElem_map, bump_cr hfj]
            rw [e9, Nat.zero_add] at p1
            have hfr := os_free1 hot j
            have hcr := HB.out L[j] (List.getElem_mem hjl)
            have hwt := (HG.out.ok L[j] (List.getElem_mem hjl)).2.2.2.2
            have hls2 := hls.out
            obtain ⟨CC, hCC⟩ : ∃ x, x = L[j].cr + L[j].wt - S := ⟨_, rfl⟩
            obtain ⟨UU, hUU⟩ : ∃ x, x = L[j].sn + 1 := ⟨_, rfl⟩
            have hot2 := (os_int hot hjc CC).drew
            rw [hCC, ← cr_modify (s := S) hjl hfj, ← hCC] at hot2
            obtain ⟨W3, hW3⟩ : ∃ W3, W3 = (wr.setCell ⟨gc, j, none⟩ (.int .i64 CC)).drew := ⟨_, rfl⟩
            rw [← hW3] at hot2
            have hk3 : Only [gc] wr W3 := by
              have h1 := put1 wr gc j (.int .i64 CC)
              rw [hW3]; exact ⟨h1.1, h1.2, h1.3, h1.4, h1.5⟩
            have hcw3 := hcw.only hk3 (by simp; rintro rfl; exact hnG hgc)
            have o13 := o1w.only hk3 fun i hi hm => os_ne o1w hot (by decide) i (by have e : i = gc := (by simpa using hm); rw [e]; rfl) hi
            have o33 := o3w.only hk3 fun i hi hm => by
              cases hi
              have e : gs = gc := by simpa using hm
              exact hcs e.symm
            have y2 : W3.cell? ⟨g, 2, none⟩ = some (.slice (some ⟨gs, 0, none⟩) k2 c3) := hcw3.cell 2
            obtain ⟨_, _, e5, _, p2⟩ := i_at (o33.rs encI_ok) hjs
            cases e5
            rw [List.getElem_map, Nat.zero_add] at p2
            have hfr2 := os_free1 o33 j
            have hot3 := (os_int o33 hjs UU).drew
            rw [hUU, ← sn_modify (f := el rd M) (s := S) hjl, ← hUU] at hot3
            obtain ⟨W4, hW4⟩ : ∃ W4, W4 = (W3.setCell ⟨gs, j, none⟩ (.int .i64 UU)).drew := ⟨_, rfl⟩
            rw [← hW4] at hot3
            have hk4 : Only [gs] W3 W4 := by
              have h1 := put1 W3 gs j (.int .i64 UU)
              rw [hW4]; exact ⟨h1.1, h1.2, h1.3, h1.4, h1.5⟩
            have hcw4 := hcw3.only hk4 (by simp; rintro rfl; exact hnG hgs)
            have o14 := o13.only hk4 fun i hi hm => os_ne o13 o33 (by decide) i (by have e : i = gs := (by simpa using hm); rw [e]; rfl) hi
            have o24 := hot2.only hk4 fun i hi hm => by
              cases hi
              have e : gc = gs := by simpa using hm
              exact hcs e
            have o15 := os_same (g := up rd M L[j].id S) o14 fun x => by unfold encA; rw [up_id, up_pr, up_wt]
            rw [← up_eq HG.out hjl hfj] at o15
            have HX : Hid (RX W4 base g F ((L.map (bmp (el rd M))).modify j (fin S))) := Lib.hid ⟨_, _, _, hcw4, o15, o24, hot3, hF, hFn⟩
            have HO : Hid (Only F w W4) := Lib.hid ((honF.trans (hk3.more (T := F) fun x hx => .inl (by have e : x = gc := (by simpa using hx); rw [e]; exact hgc)) (fun _ h => .inl h)).trans (hk4.more (T := F) fun x hx => .inl (by have e : x = gs := (by simpa using hx); rw [e]; exact hgs)) (fun _ h => .inl h))
            have hj1 : j < k2 := hjk
            have HK : Hid (((some L[j].id : Option Int) = none ∧ (j : Int) = -1) ∨ ∃ kk : Nat, (j : Int) = kk ∧ ∃ hk : kk < L.length, some L[j].id = some L[kk].id) := Lib.hid (.inr ⟨j, rfl, hjl, rfl⟩)
            have t0 : decide (0 ≤ (j : Int)) = true := decide_eq_true (by omega)
            generalize L[j].id = x0 at HNx HK HX HO
            generalize L[j].cr = x3 at p1 hcr hCC
            generalize L[j].wt = x2 at p1 hwt hCC
            generalize L[j].sn = x4 at p2 hcr hUU
            have w1e : wrap64 (x3 + x2 - S) = CC := by unfold wrap64; omega
            have w2e : IntKind.i64.wrap (x3 + x2 - S) = CC := by rw [IntKind.wrap_i64]; omega
            have w3e : wrap64 (x4 + 1) = UU := by unfold wrap64; omega
            have w4e : IntKind.i64.wrap (x4 + 1) = UU := by rw [IntKind.wrap_i64]; omega
            have HW3 := Lib.hid hW3
            have HW4 := Lib.hid hW4
            clear hW3 hW4 hCC hUU hot hot2 hot3 o3w o1w o13 o33 o14 o24 o15 hcw hcw3 hcw4 hk3 hk4 hbN hbi hS hkL hon hsub hhas hnG ne12 ne13 hcr hwt hls2 hls honF hfj e9
            go_wp2_with fail
            go_region
            rw [← HW3.out]
            clear HW3
            go_wp2_with fail
            go_region
            rw [← HW4.out]
            clear HW4
            go_wp2_with fail
            go_ret
            exact ⟨j, some x0, _, rfl, HNx, HK, HX.out, HO.out⟩
end Go.Proofs.Ytpfhbojodapomaa.Mux
