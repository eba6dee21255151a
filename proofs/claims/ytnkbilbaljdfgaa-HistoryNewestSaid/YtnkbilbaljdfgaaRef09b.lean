/-
  The reference of layer 9: Add.
-/
import Derived.Test.YtnkbilbaljdfgaaRef09a
namespace Go.Proofs.Ytnkbilbaljdfgaa.His
open Go.RowKit Go.Shelf Ints

/-- what the reference's Add leaves: its History with the ints L, in a block that is new; of the old blocks its own alone may have turned -/
def XPut (w : World) (base g cap : Nat) (L : List Int) (D : Int) (wr : World) : Prop :=
  ∃ r', XW wr base g r' cap L D ∧ (∀ i, r' = some i → w.heap.size ≤ i) ∧ Only [g] w wr

theorem xset {w w2 : World} {base b2 g : Nat} {a d v v2 : Value} {L : List Int} (hc : Cel w g 27 #[a, d, v]) (hk : Below w.heap.size w w2)
    (ho2 : On w2 b2 3 v2 L) (hb : base ≤ b2) :
    Cel (w2.setCell ⟨g, 2, none⟩ v2) g 27 #[a, d, v2] ∧ On (w2.setCell ⟨g, 2, none⟩ v2) base 3 v2 L ∧ Only [g] w (w2.setCell ⟨g, 2, none⟩ v2) ∧
    w2.cell? ⟨g, 2, none⟩ = some v ∧ w2.frozen? ⟨g, 2, none⟩ = false := by
  have hc2 : Cel w2 g 27 #[a, d, v] := hc.only (S := []) (Only.of_below hk) (by simp)
  have hne2 : v2.ownBlock ≠ some g := own_apart ho2 hc2 (by decide)
  refine ⟨?_, ownsRow_setCell_other (ho2.more hb) (a := ⟨g, 2, none⟩) hne2 _, ?_, hc2.cell 2, hc2.free 2⟩
  · have := hc2.put 2 v2
    simpa using this
  · exact (Only.of_below (S := [g]) hk).put (p := ⟨g, 2, none⟩) (.inl (by simp)) _
theorem xset1 {w : World} {base g : Nat} {a d v : Value} {L : List Int} (hc : Cel w g 27 #[a, d, v]) (ho : On w base 3 v L) (d2 : Value) :
    Cel (w.setCell ⟨g, 1, none⟩ d2) g 27 #[a, d2, v] ∧ On (w.setCell ⟨g, 1, none⟩ d2) base 3 v L ∧ Only [g] w (w.setCell ⟨g, 1, none⟩ d2) := by
  have hne := own_apart ho hc (by decide)
  refine ⟨?_, ownsRow_setCell_other ho (a := ⟨g, 1, none⟩) hne _, (Only.refl [g] w).put (p := ⟨g, 1, none⟩) (.inl (by simp)) _⟩
  have := hc.put 1 d2
  simpa using this

set_option maxHeartbeats 2000000 in
theorem radd_any (x : Int) (w : World) (base g cap : Nat) (D : Int) (r : Option Nat) (L : List Int) (h : XW w base g r cap L D) (hb : base ≤ w.heap.size) (hlen : L.length ≤ cap) (hcap : cap ≤ 256) :
    Calls Try.prog 13 #[.pointer (some ⟨g, 0, none⟩), I x] w fun e w' => e = .returned (.tuple #[I (outV cap x L), .bool (outB cap L)]) ∧ XPut w base g cap (kept cap x L) (lost cap L D) w' := by
  obtain ⟨v, hc, ho, hvr⟩ := h
  obtain ⟨A, c, rfl, hr, _, _, _⟩ := ho.reads
  have hcop := rcopy_any L w A c hr (by omega)
  have c2 : w.cell? ⟨g, 2, none⟩ = some (.slice A L.length c) := hc.cell 2
  have hlt := hc.lt
  obtain ⟨V, hV⟩ : ∃ V, V = outV cap x L := ⟨_, rfl⟩
  obtain ⟨E, hE⟩ : ∃ E, E = outB cap L := ⟨_, rfl⟩
  obtain ⟨F, hF⟩ : ∃ F, F = kept cap x L := ⟨_, rfl⟩
  obtain ⟨G, hG⟩ : ∃ G, G = lost cap L D := ⟨_, rfl⟩
  rw [← hV, ← hE, ← hF, ← hG]
  clear ho
  obtain ⟨M, hM⟩ : ∃ M, M = L ++ [x] := ⟨_, rfl⟩
  obtain ⟨N, hN⟩ : ∃ N, N = M.length := ⟨_, rfl⟩
  have hN1 : N = L.length + 1 := by rw [hN, hM]; simp
  have HM := Lib.hid hM
  have HN := Lib.hid hN
  have hL1 : L.length ≤ 256 := by omega
  have hN0 : 0 < N := by omega
  have hN2 : N ≤ 257 := by omega
  go_enter Try.func13, Try.ntmps13
  go_wp2_with fail
  refine hcop.mono ?_
  rintro e w1 ⟨v1, rfl, ho1, hb1⟩
  have hsz := hb1.size
  by_cases hfull : L.length < cap
  · have hE2 : E = false := by rw [hE]; exact outB_lt hfull
    have hV2 : V = 0 := by rw [hV]; simp [outV, hfull]
    have hF2 : F = M := by rw [hF, hM]; simp [kept, hfull]
    have hG2 : G = D := by rw [hG]; simp [lost, hfull]
    subst hE2 hV2 hG2 hF2
    have t1 : decide ((N : Int) ≤ (cap : Int)) = true := by simp; omega
    have t2 : decide (N ≤ cap) = true := by simp; omega
    clear hE hV hF hG hM hN hN1 hcop hr
    go_wp2_with (at_builtin; refine wpList_iapp _ is_ints rfl (.tmp 12) (.tmp 14) rfl rfl (ho1.alloc _) (l := [x]) (n := 1) rfl rfl (Ns_new1 _ _ x) (by simp) (by simp; omega) (by simp; omega) ?_; intro v2 w2 hown2 hg2 hv2; rw [← HM.out] at hown2; have hb2 : Below w.heap.size w w2 := (hb1.alloc hsz _).grown hg2 (by simp; omega) (fun i hi => by have := ho1.base_le i hi; omega); have hs := xset hc hb2 hown2 hb; have q2 := hs.2.2.2.1; have q3 := hs.2.2.2.2; have hnew := hown2.lt; obtain ⟨A2, c2', rfl, _, _, _, _⟩ := hown2.reads_len HN.out.symm; have k1 := hs.1.cell 0; have k2 := hs.1.cell 2; simp at k1 k2)
    go_quiet (fail)
    go_wp2_with fail
    go_ret2
    exact ⟨rfl, _, ⟨_, hs.1.draws _, hs.2.1.draws _, rfl⟩, fun i hi => (hnew i hi).1, hs.2.2.1.draws _⟩
  · have hE2 : E = true := by rw [hE]; exact outB_ge hfull
    obtain ⟨y, T, hyT⟩ : ∃ y T, M = y :: T := by
      rw [hM]
      cases L with
      | nil => exact ⟨x, [], rfl⟩
      | cons y T => exact ⟨y, T ++ [x], rfl⟩
    have hV2 : V = y := by rw [hV]; simp [outV, hfull, ← hM, hyT]
    have hF2 : F = T := by rw [hF]; simp [kept, hfull, ← hM, hyT]
    have hG2 : G = wrap64 (D + 1) := by rw [hG]; simp [lost, hfull]
    subst hE2 hV2 hF2 hG2
    have hFN : N = F.length + 1 := by rw [hN, hyT]; simp
    have t1 : decide ((N : Int) ≤ (cap : Int)) = false := by simp; omega
    have t2 : decide (N ≤ cap) = false := by simp; omega
    have HyT := Lib.hid hyT
    have HFN := Lib.hid hFN
    clear hE hV hF hG hM hN hN1 hcop hr hyT hFN
    go_wp2_with (at_builtin; refine wpList_iapp _ is_ints rfl (.tmp 12) (.tmp 14) rfl rfl (ho1.alloc _) (l := [x]) (n := 1) rfl rfl (Ns_new1 _ _ x) (by simp) (by simp; omega) (by simp; omega) ?_; intro v2 w2 hown2 hg2 hv2; rw [← HM.out, HyT.out] at hown2; have hb2 : Below w.heap.size w w2 := (hb1.alloc hsz _).grown hg2 (by simp; omega) (fun i hi => by have := ho1.base_le i hi; omega); have hs := xset hc hb2 hown2 hb; have q2 := hs.2.2.2.1; have q3 := hs.2.2.2.2; obtain ⟨A2, c2', rfl, hr3, _, hn3, hm3⟩ := hs.2.1.reads_len HFN.out.symm; obtain ⟨b, off, rfl, hb3, hc0⟩ := hr3.at_ (k := 0) (by simp); have k1 := hs.1.cell 0; have k2 := hs.1.cell 2; simp at k1 k2 hc0)
    go_quiet (fail)
    obtain ⟨a3, hA3, hr4⟩ : ∃ a3 : Addr, (if c2' = 1 then (some (⟨b, off, none⟩ : Addr)) else some ⟨b, off + 1, none⟩) = some a3 ∧ Hid (Ns (w2.setCell ⟨g, 2, none⟩ (.slice (some ⟨b, off, none⟩) N c2')) (w2.setCell ⟨g, 2, none⟩ (.slice (some ⟨b, off, none⟩) N c2')).heap.size (some a3) F) := by
      by_cases h1 : c2' = 1
      · refine ⟨_, if_pos h1, Lib.hid ?_⟩
        have : F = [] := List.eq_nil_of_length_eq_zero (by have := HFN.out; omega)
        rw [this]; exact Ns.nil_
      · exact ⟨_, if_neg h1, Lib.hid (hr3.drop 1)⟩
    go_wp2_with fail
    have hcop2 := rcopy_any F ((w2.setCell ⟨g, 2, none⟩ (.slice (some ⟨b, off, none⟩) N c2')).drewN nq) (some a3) (c2' - 1) hr4.out (by have := HFN.out; omega)
    rw [show F.length = N - 1 by have := HFN.out; omega] at hcop2
    refine hcop2.mono ?_
    rintro e w4 ⟨v4, rfl, ho4, hb4⟩
    have hsz4 : w.heap.size ≤ (w2.setCell ⟨g, 2, none⟩ (.slice (some ⟨b, off, none⟩) N c2')).heap.size := hs.2.2.1.size
    have hs4 := xset (hs.1.draws nq) hb4 ho4 (by exact Nat.le_trans hb hsz4 : base ≤ _)
    have hnew := ho4.lt
    obtain ⟨A4, c4, rfl, _, _, _, _⟩ := ho4.reads
    have p2 := hs4.2.2.2.1
    have p3 := hs4.2.2.2.2
    have p4 := hs4.1.cell 1
    have p5 := hs4.1.free 1
    simp at p4
    have hs5 := xset1 hs4.1 hs4.2.1 (I (wrap64 (D + 1)))
    have hfin : XPut w base g cap F (wrap64 (D + 1)) _ := ⟨_, ⟨_, hs5.1, hs5.2.1, rfl⟩, fun i hi => Nat.le_trans hsz4 (hnew i hi).1, (((hs.2.2.1.draws nq).trans (hs4.2.2.1.trans hs5.2.2 (by simp)) (by simp)))⟩
    go_wp2_with fail
    go_ret2
    exact ⟨rfl, hfin⟩
end Go.Proofs.Ytnkbilbaljdfgaa.His
