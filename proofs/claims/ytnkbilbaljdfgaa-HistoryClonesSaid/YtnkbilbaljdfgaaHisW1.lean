/-
  Package history: Add.
-/
import Derived.Deep.QuietTactic
import Derived.BigQuiet
import Derived.BigRegion
import Derived.Test.YtnkbilbaljdfgaaHisW0
namespace Go.Proofs.Ytnkbilbaljdfgaa.His
open Go.RowKit Go.Shelf Ints

/-- what Add leaves: the History with the ints L; of the old blocks the History's own alone may have turned -/
def HPut (w : World) (base g : Nat) (r : Option Nat) (cap : Nat) (L : List Int) (D : Int) (wr : World) : Prop :=
  ∃ r', HW wr base g r' cap L D ∧ (r' = r ∨ ∃ i, r' = some i ∧ w.heap.size ≤ i) ∧ Only (g :: r.toList) w wr

/-- a History's block whose values are laid anew -/
theorem hset {w w2 : World} {base g : Nat} {a b d v v2 : Value} {L0 L : List Int} (hc : Cel w g 44 #[a, b, v, d]) (ho1 : On w base 3 v L0)
    (ho2 : On w2 base 3 v2 L) (hk : Only v.ownBlock.toList w w2) :
    Cel (w2.setCell ⟨g, 2, none⟩ v2) g 44 #[a, b, v2, d] ∧ On (w2.setCell ⟨g, 2, none⟩ v2) base 3 v2 L ∧ Only (g :: v.ownBlock.toList) w (w2.setCell ⟨g, 2, none⟩ v2) ∧
    w2.cell? ⟨g, 2, none⟩ = some v ∧ w2.frozen? ⟨g, 2, none⟩ = false := by
  have hne := own_apart ho1 hc (by decide)
  have hc2 : Cel w2 g 44 #[a, b, v, d] := hc.only hk (by simpa using hne)
  have hne2 : v2.ownBlock ≠ some g := own_apart ho2 hc2 (by decide)
  refine ⟨?_, ownsRow_setCell_other ho2 (a := ⟨g, 2, none⟩) hne2 _, ?_, hc2.cell 2, hc2.free 2⟩
  · have := hc2.put 2 v2
    simpa using this
  · exact (hk.more (fun x hx => .inl (List.mem_cons_of_mem _ hx))).put (p := ⟨g, 2, none⟩) (.inl (by simp)) _

theorem hset3 {w : World} {base g : Nat} {a b d v : Value} {L : List Int} (hc : Cel w g 44 #[a, b, v, d]) (ho : On w base 3 v L) (d2 : Value) :
    Cel (w.setCell ⟨g, 3, none⟩ d2) g 44 #[a, b, v, d2] ∧ On (w.setCell ⟨g, 3, none⟩ d2) base 3 v L ∧ Only [g] w (w.setCell ⟨g, 3, none⟩ d2) := by
  have hne := own_apart ho hc (by decide)
  refine ⟨?_, ownsRow_setCell_other ho (a := ⟨g, 3, none⟩) hne _, (Only.refl [g] w).put (p := ⟨g, 3, none⟩) (.inl (by simp)) _⟩
  have := hc.put 3 d2
  simpa using this
theorem hput_of {w w1 w3 : World} {base g cap : Nat} {D : Int} {r : Option Nat} {L : List Int} {v v2 : Value} (hO1 : Only [] w w1) (hvr : v.ownBlock = r) (hs : Only (g :: v.ownBlock.toList) w1 w3)
    (hc : Cel w3 g 44 #[.bool true, I cap, v2, I D]) (ho : On w3 base 3 v2 L) (hv2 : v2.ownBlock = v.ownBlock ∨ v2.ownBlock = some w1.heap.size) (hl : L.length ≤ cap) (hcap : cap ≤ 256) :
    HPut w base g r cap L D w3 := by
  refine ⟨v2.ownBlock, ⟨v2, hc, ho, rfl, hl, hcap⟩, ?_, ?_⟩
  · rcases hv2 with h | h
    · rw [h]; exact .inl hvr
    · exact .inr ⟨_, h, hO1.size⟩
  · rw [hvr] at hs
    exact (hO1.more (T := g :: r.toList) (by simp)).trans hs (fun x hx => .inl hx)

set_option maxHeartbeats 2000000 in
theorem hadd_any (x : Int) (w : World) (base g cap : Nat) (D : Int) (r : Option Nat) (L : List Int) (h : HW w base g r cap L D) (hb : base ≤ w.heap.size) :
    Calls Try.prog 12 #[.pointer (some ⟨g, 0, none⟩), I x] w fun e w' => e = .returned (.tuple #[I (outV cap x L), .bool (outB cap L)]) ∧ HPut w base g r cap (kept cap x L) (lost cap L D) w' := by
  have hw := hOk w base g cap D r L h
  have hlen := h.len
  obtain ⟨v, hc, ho, hvr, _⟩ := h
  have b1 : Below w.heap.size w (w.alloc (.cells #[I x] 3)) := (Below.refl _ w).alloc (Nat.le_refl _) _
  have hO1 : Only [] w (w.alloc (.cells #[I x] 3)) := Only.of_below b1
  have hc1 := hc.only hO1 (by simp)
  have ho1 := ho.alloc (.cells #[I x] 3)
  have hnx : Ns (w.alloc (.cells #[I x] 3)) (w.heap.size + 1) (some ⟨w.heap.size, 0, none⟩) [x] := Ns_new1 w _ x
  have c2 : (w.alloc (.cells #[I x] 3)).cell? ⟨g, 2, none⟩ = some v := hc1.cell 2
  have c20 : w.cell? ⟨g, 2, none⟩ = some v := hc.cell 2
  obtain ⟨A, c, rfl, _, _, _, _⟩ := ho.reads
  obtain ⟨V, hV⟩ : ∃ V, V = outV cap x L := ⟨_, rfl⟩
  obtain ⟨E, hE⟩ : ∃ E, E = outB cap L := ⟨_, rfl⟩
  obtain ⟨F, hF⟩ : ∃ F, F = kept cap x L := ⟨_, rfl⟩
  obtain ⟨G, hG⟩ : ∃ G, G = lost cap L D := ⟨_, rfl⟩
  rw [← hV, ← hE, ← hF, ← hG]
  have hcb : g < w.heap.size := hc.lt
  go_enter Try.func12, Try.ntmps12
  go_wp2_with fail
  refine hw.mono ?_
  rintro e w1 ⟨rfl, rfl⟩
  clear hw
  by_cases hfull : L.length < cap
  · have hE2 : E = false := by rw [hE]; exact outB_lt hfull
    have hV2 : V = 0 := by rw [hV]; simp [outV, hfull]
    have hF2 : F = L ++ [x] := by rw [hF]; simp [kept, hfull]
    have hG2 : G = D := by rw [hG]; simp [lost, hfull]
    subst hE2 hV2 hG2
    have HF2 := Lib.hid hF2
    have hFl : F.length ≤ cap := by rw [hF2]; simp; omega
    have hLF : L.length + 1 = F.length := by rw [hF2]; simp
    have t1 : decide ((F.length : Int) ≤ (cap : Int)) = true := by simpa using hFl
    have t2 : decide (F.length ≤ cap) = true := by simpa using hFl
    have hL1 : L.length ≤ 256 := by omega
    have hcap := hlen.2
    clear hE hV hF hG hF2 hlen
    go_wp2_with (at_builtin; refine wpList_iapp _ is_ints rfl (.tmp 14) (.tmp 16) rfl rfl ho1 (l := [x]) (n := 1) rfl rfl hnx (by simp) (by simp; omega) (by simp; omega) ?_; intro v2 w2 hown2 hg2 hv2; rw [← HF2.out] at hown2; have hs := hset hc1 ho1 hown2 (Only.of_grown hg2); have q2 := hs.2.2.2.1; have q3 := hs.2.2.2.2; obtain ⟨A2, c2', rfl, _, _, _, _⟩ := hown2.reads; have k1 := hs.1.cell 1; have k2 := hs.1.cell 2; simp at k1 k2)
    go_quiet (fail)
    go_wp2_with fail
    go_ret2
    exact ⟨rfl, hput_of hO1 hvr (hs.2.2.1.draws _) (hs.1.draws _) (hs.2.1.draws _) hv2 hFl hcap⟩
  · have hE2 : E = true := by rw [hE]; exact outB_ge hfull
    obtain ⟨y, T, hyT⟩ : ∃ y T, L ++ [x] = y :: T := by
      cases L with
      | nil => exact ⟨x, [], rfl⟩
      | cons y T => exact ⟨y, T ++ [x], rfl⟩
    have hV2 : V = y := by rw [hV]; simp [outV, hfull, hyT]
    have hF2 : F = T := by rw [hF]; simp [kept, hfull, hyT]
    have hG2 : G = wrap64 (D + 1) := by rw [hG]; simp [lost, hfull]
    subst hE2 hV2 hF2 hG2
    have hLF : F.length = L.length := by have := congrArg List.length hyT; simp at this; omega
    obtain ⟨N, hN⟩ : ∃ N, N = (V :: F).length := ⟨_, rfl⟩
    have hN1 : N = L.length + 1 := by rw [hN]; simp; omega
    have hFl : F.length ≤ cap := by omega
    have t1 : decide ((N : Int) ≤ (cap : Int)) = false := by simp; omega
    have t2 : decide (N ≤ cap) = false := by simp; omega
    have hN0 : 0 < N := by omega
    have hN256 : N ≤ 257 := by omega
    have hF256 : F.length ≤ 256 := by omega
    have hL1 : L.length ≤ 256 := by omega
    have HyT := Lib.hid hyT
    have HN := Lib.hid hN
    have hcap := hlen.2
    clear hE hV hF hG hyT hN hN1 hLF hlen hfull
    go_wp2_with (at_builtin; refine wpList_iapp _ is_ints rfl (.tmp 14) (.tmp 16) rfl rfl ho1 (l := [x]) (n := 1) rfl rfl hnx (by simp) (by simp; omega) (by simp; omega) ?_; intro v2 w2 hown2 hg2 hv2; rw [HyT.out] at hown2; have hs := hset hc1 ho1 hown2 (Only.of_grown hg2); have q2 := hs.2.2.2.1; have q3 := hs.2.2.2.2; obtain ⟨A2, c2', rfl, hr3, _, _, _⟩ := hs.2.1.reads_len HN.out.symm; obtain ⟨b, off, rfl, hb3, hc0⟩ := hr3.at_ (k := 0) (by simp); have k1 := hs.1.cell 1; have k2 := hs.1.cell 2; simp at k1 k2 hc0)
    go_quiet (fail)
    go_wp2_with fail
    refine (idelete_any [] V F _ base _ 0 1 rfl rfl (hs.2.1.draws _) (by simp; omega)).mono ?_
    rintro e w4 ⟨v4, rfl, ho4, hv4, hO4⟩
    replace ho4 : On w4 base 3 v4 F := ho4
    have hs4 := hset (hs.1.draws _) (hs.2.1.draws _) ho4 hO4
    obtain ⟨A4, c4, rfl, _, _, _, _⟩ := ho4.reads
    have p2 := hs4.2.2.2.1
    have p3 := hs4.2.2.2.2
    have p4 := hs4.1.cell 3
    have p5 := hs4.1.free 3
    simp at p4
    have hs5 := hset3 hs4.1 hs4.2.1 (I (wrap64 (D + 1)))
    have hfin := hput_of hO1 hvr ((hs.2.2.1.draws _).trans (hs4.2.2.1.trans hs5.2.2 (by simp)) (fun z hz => by
      simp only [List.mem_cons, Option.mem_toList] at hz ⊢
      rcases hz with rfl | hz
      · exact .inl (.inl rfl)
      · rcases hv2 with h | h
        · exact .inl (.inr (h.symm.trans hz))
        · exact .inr (Nat.le_of_eq (Option.some.inj (h.symm.trans hz))))) hs5.1 hs5.2.1 (by rw [hv4]; exact hv2) hFl hcap
    go_wp2_with fail
    go_ret2
    exact ⟨rfl, hfin⟩
end Go.Proofs.Ytnkbilbaljdfgaa.His
