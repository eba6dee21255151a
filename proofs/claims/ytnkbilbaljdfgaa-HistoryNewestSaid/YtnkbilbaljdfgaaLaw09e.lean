/-
  Layer 9's law HistoryClones.
-/
import Derived.Test.YtnkbilbaljdfgaaLaw09c
namespace Go.Proofs.Ytnkbilbaljdfgaa.His
open Go.RowKit Go.Shelf Ints

/-- two Histories at g, q and two of the reference at P, Y, apart from each other -/
structure H4 (w0 w : World) (B g P q Y C : Nat) (L1 L2 L3 L4 : List Int) (D1 D2 D3 D4 : Int) : Prop where
  o : ∃ F1 R1 F2 R2, HO w B g C L1 D1 F1 ∧ XO w B P C L2 D2 R1 ∧ HO w B q C L3 D3 F2 ∧ XO w B Y C L4 D4 R2 ∧ Dis F1 R1 ∧ Dis F1 F2 ∧ Dis F1 R2 ∧ Dis F2 R1 ∧ Dis F2 R2 ∧ P ∉ R2 ∧ Y ∉ R1
  b : Below B w0 w
  s : B ≤ w.heap.size
section
variable {w0 w w' : World} {B g P q Y C : Nat} {L1 L2 L3 L4 L' : List Int} {D1 D2 D3 D4 D' : Int} {V : Int} {E : Bool}
theorem H4.below (h : H4 w0 w B g P q Y C L1 L2 L3 L4 D1 D2 D3 D4) (k : Below w.heap.size w w') : H4 w0 w' B g P q Y C L1 L2 L3 L4 D1 D2 D3 D4 := by
  obtain ⟨⟨F1, R1, F2, R2, h1, x1, h2, x2, hd⟩, b, s⟩ := h
  exact ⟨⟨F1, R1, F2, R2, h1.below k, x1.below k, h2.below k, x2.below k, hd⟩, b.trans (k.mono s), Nat.le_trans s k.size⟩
theorem H4.swap (h : H4 w0 w B g P q Y C L1 L2 L3 L4 D1 D2 D3 D4) : H4 w0 w B q Y g P C L3 L4 L1 L2 D3 D4 D1 D2 := by
  obtain ⟨⟨F1, R1, F2, R2, h1, x1, h2, x2, d1, d2, d3, d4, d5, d6, d7⟩, b, s⟩ := h
  exact ⟨⟨F2, R2, F1, R1, h2, x2, h1, x1, d5, d2.symm, d4, d3, d1, d7, d6⟩, b, s⟩
theorem H4.add (h : H4 w0 w B g P q Y C L1 L2 L3 L4 D1 D2 D3 D4) (x : Int) (hV : outV C x L1 = V) (hE : outB C L1 = E) (hL : kept C x L1 = L') (hD' : lost C L1 D1 = D') :
    Calls Try.prog 12 #[.pointer (some ⟨g, 0, none⟩), I x] w fun e w' => e = .returned (.tuple #[I V, .bool E]) ∧ H4 w0 w' B g P q Y C L' L2 L3 L4 D' D2 D3 D4 := by
  obtain ⟨⟨F1, R1, F2, R2, h1, x1, h2, x2, d1, d2, d3, d4, d5, d6, d7⟩, b, s⟩ := h
  refine (h1.add s x hV hE hL hD').mono ?_
  rintro e w' ⟨rfl, F', h', hO, hF⟩
  exact ⟨rfl, ⟨F', R1, F2, R2, h', x1.only hO d1.symm, h2.only hO d2.symm, x2.only hO d3.symm, d1.next hF (fun i hi => (x1.lt i hi).2), d2.next hF (fun i hi => (h2.lt i hi).2), d3.next hF (fun i hi => (x2.lt i hi).2), d4, d5, d6, d7⟩,
    b.trans (hO.below s (fun i hi => (h1.lt i hi).1)), Nat.le_trans s hO.size⟩
theorem H4.xadd (h : H4 w0 w B g P q Y C L1 L2 L3 L4 D1 D2 D3 D4) (x : Int) (hV : outV C x L2 = V) (hE : outB C L2 = E) (hL : kept C x L2 = L') (hD' : lost C L2 D2 = D') :
    Calls Try.prog 13 #[.pointer (some ⟨P, 0, none⟩), I x] w fun e w' => e = .returned (.tuple #[I V, .bool E]) ∧ H4 w0 w' B g P q Y C L1 L' L3 L4 D1 D' D3 D4 := by
  obtain ⟨⟨F1, R1, F2, R2, h1, x1, h2, x2, d1, d2, d3, d4, d5, d6, d7⟩, b, s⟩ := h
  refine (x1.add s x hV hE hL hD').mono ?_
  rintro e w' ⟨rfl, R', x', hO, hF⟩
  have one : ∀ {F : List Nat}, P ∉ F → Dis F [P] := fun hp i hi hi2 => by
    rw [List.mem_singleton.1 hi2] at hi
    exact hp hi
  refine ⟨rfl, ⟨F1, R', F2, R2, h1.only hO (one (fun h => d1 P h x1.mem)), x', h2.only hO (one (fun h => d4 P h x1.mem)), x2.only hO (one d6), d1.next2 hF (fun i hi => (h1.lt i hi).2), d2, d3, d4.next2 hF (fun i hi => (h2.lt i hi).2), d5, d6, fun hy => ?_⟩,
    b.trans (hO.below s (fun i hi => by rw [List.mem_singleton.1 hi]; exact (x1.lt P x1.mem).1)), Nat.le_trans s hO.size⟩
  rcases hF Y hy with h3 | h3
  · exact d7 h3
  · have := (x2.lt Y x2.mem).2; omega
/-- the reference's cells, and agrees at them -/
theorem H4.agrees (h : H4 w0 w B g P q Y C L1 L1 L3 L4 D1 D1 D3 D4) : ∃ A n c, w.cell? ⟨P, 0, none⟩ = some (I C) ∧ w.cell? ⟨P, 1, none⟩ = some (I D1) ∧ w.cell? ⟨P, 2, none⟩ = some (.slice A n c) ∧
    Calls Try.prog 14 #[.pointer (some ⟨g, 0, none⟩), .agg #[I C, I D1, .slice A n c]] w fun e w' => e = .returned (.bool true) ∧ H4 w0 w' B g P q Y C L1 L1 L3 L4 D1 D1 D3 D4 := by
  have h0 := h
  obtain ⟨⟨F1, R1, F2, R2, h1, x1, h2, x2, hd⟩, b, s⟩ := h
  obtain ⟨A, c, c0, c1, c2, hr⟩ := x1.cells rfl
  exact ⟨A, _, c, c0, c1, c2, (agrees_any w B g C D1 _ c L1 F1 A h1 rfl hr).mono fun _ _ ⟨p, q⟩ => ⟨p, h0.below q⟩⟩
/-- behind Clone: the reference's cells; a copy of them is the clone's -/
theorem HX.clone (h : HX w0 w B g P C L1 L1 D1 D1) :
    Calls Try.prog 18 #[.pointer (some ⟨g, 0, none⟩)] w fun e w' => ∃ q A n c, e = .returned (.pointer (some ⟨q, 0, none⟩)) ∧ w'.cell? ⟨P, 0, none⟩ = some (I C) ∧ w'.cell? ⟨P, 1, none⟩ = some (I D1) ∧ w'.cell? ⟨P, 2, none⟩ = some (.slice A n c) ∧
      H4 w0 (w'.alloc (.cells #[I C, I D1, .slice A n c] 27)) B g P q w'.heap.size C L1 L1 L1 L1 D1 D1 D1 D1 := by
  obtain ⟨⟨F, R, h1, x1, hd⟩, b, s⟩ := h
  refine (h1.clone s).mono ?_
  rintro e w' ⟨q, F', rfl, h2, hb, hF⟩
  have hs := hb.size
  have bA : ∀ o : Obj, Below w'.heap.size w' (w'.alloc o) := fun o => (Below.refl _ w').alloc (Nat.le_refl _) _
  have x1b := x1.below hb
  have hlt1 := h1.lt
  have hltx := x1.lt
  have hlt2 := h2.lt
  obtain ⟨r, ⟨v, hc, ho, rfl⟩, rfl, hP, hl, hC⟩ := x1b
  obtain ⟨A, c, rfl, _, _, _, _⟩ := ho.reads
  refine ⟨q, A, _, c, rfl, hc.cell 0, hc.cell 1, hc.cell 2, ⟨⟨F, _, F', w'.heap.size :: (Value.slice A L1.length c).ownBlock.toList, (h1.below hb).below (bA _), ⟨_, ⟨_, hc.only (Only.of_below (S := []) (bA _)) (by simp), ho.alloc _, rfl⟩, rfl, hP, hl, hC⟩, h2.below (bA _),
    ⟨_, ⟨_, Cel.new w' _ _, ho.alloc _, rfl⟩, rfl, by omega, hl, hC⟩, hd, ?_, ?_, ?_, ?_, ?_, ?_⟩, (b.trans (hb.mono s)).trans ((bA _).mono (by omega)), by simp; omega⟩⟩
  · intro i hi hi2
    have := hF i hi2
    have := (hlt1 i hi).2
    omega
  · intro i hi hi2
    have h3 := (hlt1 i hi).2
    rcases List.mem_cons.1 hi2 with rfl | hi2
    · omega
    · exact hd i hi (List.mem_cons_of_mem _ hi2)
  · intro i hi hi2
    have := hF i hi
    have := (hltx i hi2).2
    omega
  · intro i hi hi2
    have h3 := hF i hi
    have h4 := (hlt2 i hi).2
    rcases List.mem_cons.1 hi2 with rfl | hi2
    · omega
    · have := (hltx i (List.mem_cons_of_mem _ hi2)).2
      omega
  · intro hi
    have h3 := (hltx P (by simp)).2
    rcases List.mem_cons.1 hi with h4 | h4
    · omega
    · have := own_apart ho hc (by decide)
      exact this (by simpa using h4)
  · intro hi
    have := (hltx _ hi).2
    omega
end

set_option maxHeartbeats 4000000 in
set_option maxRecDepth 100000 in
theorem historyClones_walk (m : Int) (a b : List Int) (w : World) (A B : Option Addr) (c d : Nat) (ha : Ns w w.heap.size A a) (hb : Ns w w.heap.size B b) (hac : a.length ≤ maxLen) (hbc : b.length ≤ maxLen) :
    Calls Try.prog 5 #[I m, .slice A a.length c, .slice B b.length d] w fun e w' => e = .returned (.bool true) ∧ Below w.heap.size w w' := by
  obtain ⟨na, hna⟩ : ∃ n, n = a.length := ⟨_, rfl⟩
  obtain ⟨nb, hnb⟩ : ∃ n, n = b.length := ⟨_, rfl⟩
  rw [← hna] at hac ⊢
  rw [← hnb] at hbc ⊢
  have hac' : na ≤ 9223372036854775807 := by simpa [maxLen] using hac
  have hbc' : nb ≤ 9223372036854775807 := by simpa [maxLen] using hbc
  have hnew := HO.new (B := w.heap.size) m w (Nat.le_refl _)
  have hC0 := hcap_le m
  obtain ⟨C, hCC⟩ : ∃ C, C = hcap m := ⟨_, rfl⟩
  rw [← hCC] at hnew hC0
  have HCC := Lib.hid hCC
  obtain ⟨g, hg⟩ : ∃ g, g = w.heap.size := ⟨_, rfl⟩
  have HNA := Lib.hid hna
  have HNB := Lib.hid hnb
  rw [← hg] at hnew ha hb ⊢
  clear hg hna hnb hCC hac hbc
  go_enter Try.func5, Try.ntmps5
  go_wp2_with fail
  refine hnew.mono ?_
  rintro e w1 ⟨rfl, h1, bw1, s1⟩
  have hrn := rnew_any m w1
  rw [← HCC.out] at hrn
  clear hnew
  go_wp2_with fail
  refine hrn.mono ?_
  rintro e w2 ⟨rfl, b2⟩
  have b3 : Below w2.heap.size w2 (w2.alloc (.cells #[I C, I 0, .slice none 0 0] 27)) := (Below.refl _ w2).alloc (Nat.le_refl _) _
  have hs2 : w1.heap.size ≤ w2.heap.size := b2.size
  have hx : HX w (w2.alloc (.cells #[I C, I 0, .slice none 0 0] 27)) g g w2.heap.size C [] [] 0 0 := by
    refine ⟨⟨[g], [w2.heap.size], (h1.below b2).below b3, ⟨none, ⟨_, Cel.new w2 _ _, On.nil_ _ _ _, rfl⟩, rfl, by omega, by simp, hC0⟩, fun i hi hi2 => by simp at hi hi2; omega⟩, (bw1.trans (b2.mono (by omega))).trans (b3.mono (by omega)), by simp; omega⟩
  obtain ⟨P, hP0⟩ : ∃ P, P = w2.heap.size := ⟨_, rfl⟩
  have sx : g ≤ w2.heap.size := by omega
  have bx : Below g w (w2.alloc (.cells #[I C, I 0, .slice none 0 0] 27)) := hx.b
  clear hrn h1 b2 b3
  by_cases hbig : 600 < wrap64 ((na : Int) + (nb : Int))
  · have t1 : decide ((600 : Int) < wrap64 ((na : Int) + (nb : Int))) = true := by simpa using hbig
    clear ha hb hbig
    go_wp2_with fail
    refine (lives_any _).mono ?_
    rintro e w4 ⟨rfl, b4⟩
    go_wp2_with fail
    go_ret
    exact ⟨rfl, bx.trans (b4.mono hx.s)⟩
  · have t1 : decide ((600 : Int) < wrap64 ((na : Int) + (nb : Int))) = false := by simpa using hbig
    clear hbig
    go_wp2_with fail
    rw [← hP0] at hx ⊢
    clear hP0 bx
    go_loopw [9] (fun i wr => ∃ k : Nat, k ≤ na ∧ i = .int .i64 k ∧ ∃ (L : List Int) (D : Int), HX w wr g g P C L L D D) (fun i _ => na - (intOf i).toNat)
    case atStart => exact ⟨0, Nat.zero_le _, rfl, [], 0, hx⟩
    case round =>
      obtain ⟨k, hk, rfl, L, D, q⟩ := hrel
      clear hx
      by_cases hlt : k < na
      · have hkl : k < a.length := by have := HNA.out; omega
        obtain ⟨bb, off, rfl, hbw, p1⟩ := ha.at_ hkl
        generalize a[k] = v at p1
        have hc1 := (q.b.cell (p := ⟨bb, off + k, none⟩) hbw).trans p1
        have P1 := Lib.hid p1
        clear p1 ha hkl
        obtain ⟨V, hV⟩ : ∃ V, V = outV C v L := ⟨_, rfl⟩
        obtain ⟨E, hE⟩ : ∃ E, E = outB C L := ⟨_, rfl⟩
        obtain ⟨L', hL'⟩ : ∃ L', L' = kept C v L := ⟨_, rfl⟩
        obtain ⟨D', hD'⟩ : ∃ D', D' = lost C L D := ⟨_, rfl⟩
        have hadd := q.add v hV.symm hE.symm hL'.symm hD'.symm
        have hxadd := fun (W : World) (hq : HX w W g g P C L' L D' D) => hq.xadd v hV.symm hE.symm hL'.symm hD'.symm
        clear hV hE hL' hD'
        go_wp2_with fail
        refine hadd.mono ?_
        rintro e w3 ⟨rfl, q3⟩
        have e2 := (q3.b.cell (p := ⟨bb, off + k, none⟩) hbw).trans P1.out
        clear hadd q
        go_wp2_with fail
        refine (hxadd _ q3).mono ?_
        rintro e w4 ⟨rfl, q4⟩
        clear hxadd q3
        go_wp2_with fail
        go_roundw
        case rel => exact ⟨k + 1, hlt, by simp, L', D', q4⟩
        case measure => simp [intOf]; omega
      · obtain rfl : k = na := by omega
        have hcl := q.clone
        clear q ha hlt hk
        go_wp2_with fail
        refine hcl.mono ?_
        rintro e w3 ⟨q, Aq, nq, cq, rfl, x0, x1, x2, h4⟩
        obtain ⟨Y, hY⟩ : ∃ Y, Y = w3.heap.size := ⟨_, rfl⟩
        clear hcl
        go_wp2_with fail
        rw [← hY] at h4 ⊢
        clear hY x0 x1 x2
        go_loopw [12] (fun i wr => ∃ k : Nat, k ≤ nb ∧ i = .int .i64 k ∧ ∃ (L1 L2 : List Int) (D1 D2 : Int), H4 w wr g g P q Y C L1 L1 L2 L2 D1 D1 D2 D2) (fun i _ => nb - (intOf i).toNat)
        case atStart => exact ⟨0, Nat.zero_le _, rfl, L, L, D, D, h4⟩
        case round =>
          obtain ⟨j, hj, rfl, L1, L2, D1, D2, q0⟩ := hrel
          clear h4
          by_cases hlt : j < nb
          · have hkl : j < b.length := by have := HNB.out; omega
            obtain ⟨bb, off, rfl, hbw, p1⟩ := hb.at_ hkl
            generalize b[j] = v at p1
            have hc1 := (q0.b.cell (p := ⟨bb, off + j, none⟩) hbw).trans p1
            have P1 := Lib.hid p1
            obtain ⟨V, hV⟩ : ∃ V, V = outV C v L2 := ⟨_, rfl⟩
            obtain ⟨E, hE⟩ : ∃ E, E = outB C L2 := ⟨_, rfl⟩
            obtain ⟨L2', hL2⟩ : ∃ L', L' = kept C v L2 := ⟨_, rfl⟩
            obtain ⟨D2', hD2⟩ : ∃ D', D' = lost C L2 D2 := ⟨_, rfl⟩
            obtain ⟨V', hV'⟩ : ∃ V, V = outV C (wrap64 (-v)) L1 := ⟨_, rfl⟩
            obtain ⟨E', hE'⟩ : ∃ E, E = outB C L1 := ⟨_, rfl⟩
            obtain ⟨L1', hL1⟩ : ∃ L', L' = kept C (wrap64 (-v)) L1 := ⟨_, rfl⟩
            obtain ⟨D1', hD1⟩ : ∃ D', D' = lost C L1 D1 := ⟨_, rfl⟩
            have a1 := q0.swap.add v hV.symm hE.symm hL2.symm hD2.symm
            have a2 := fun (W : World) (hq : H4 w W g q Y g P C L2' L2 L1 L1 D2' D2 D1 D1) => hq.xadd v hV.symm hE.symm hL2.symm hD2.symm
            have a3 := fun (W : World) (hq : H4 w W g q Y g P C L2' L2' L1 L1 D2' D2' D1 D1) => hq.swap.add (wrap64 (-v)) hV'.symm hE'.symm hL1.symm hD1.symm
            have a4 := fun (W : World) (hq : H4 w W g g P q Y C L1' L1 L2' L2' D1' D1 D2' D2') => hq.xadd (wrap64 (-v)) hV'.symm hE'.symm hL1.symm hD1.symm
            clear p1 hb hkl q0 hV hE hL2 hD2 hV' hE' hL1 hD1
            go_wp2_with fail
            refine a1.mono ?_
            rintro e w4 ⟨rfl, q1⟩
            have e1 := (q1.b.cell (p := ⟨bb, off + j, none⟩) hbw).trans P1.out
            clear a1
            go_wp2_with fail
            refine (a2 _ q1).mono ?_
            rintro e w5 ⟨rfl, q2⟩
            have e2 := (q2.b.cell (p := ⟨bb, off + j, none⟩) hbw).trans P1.out
            clear a2 q1
            go_wp2_with fail
            refine (a3 _ q2).mono ?_
            rintro e w6 ⟨rfl, q3⟩
            have e3 := (q3.b.cell (p := ⟨bb, off + j, none⟩) hbw).trans P1.out
            clear a3 q2
            go_wp2_with fail
            refine (a4 _ q3).mono ?_
            rintro e w7 ⟨rfl, q4⟩
            clear a4 q3
            go_wp2_with fail
            go_roundw
            case rel => exact ⟨j + 1, hlt, by simp, L1', L2', D1', D2', q4⟩
            case measure => simp [intOf]; omega
          · obtain rfl : j = nb := by omega
            obtain ⟨A4, n4, c4, x0, x1, x2, hag⟩ := q0.agrees
            clear hb hlt hj q0
            go_wp2_with fail
            refine hag.mono ?_
            rintro e w5 ⟨rfl, q5⟩
            obtain ⟨A5, n5, c5, y0, y1, y2, hag2⟩ := q5.swap.agrees
            clear hag x0 x1 x2 q5
            go_wp2_with fail
            refine hag2.mono ?_
            rintro e w6 ⟨rfl, q6⟩
            clear hag2 y0 y1 y2
            go_wp2_with fail
            refine (lives_any _).mono ?_
            rintro e w7 ⟨rfl, b7⟩
            go_wp2_with fail
            go_ret
            exact ⟨rfl, q6.b.trans (b7.mono q6.s)⟩
end Go.Proofs.Ytnkbilbaljdfgaa.His
