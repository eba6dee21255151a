/-
  Layer 9's law HistoryNewest.
-/
import Derived.Test.YtnkbilbaljdfgaaLaw09b
namespace Go.Proofs.Ytnkbilbaljdfgaa.His
open Go.RowKit Go.Shelf Ints

/-- the play's state: the History at g, the list out of what was dropped -/
structure HL (w0 w : World) (B g C : Nat) (L : List Int) (D : Int) (o : Value) (X : List Int) : Prop where
  o : ∃ F, HO w B g C L D F ∧ On w B 3 o X ∧ ∀ i, o.ownBlock = some i → i ∉ F
  b : Below B w0 w
  s : B ≤ w.heap.size
section
variable {w0 w w' : World} {B g C : Nat} {D D' : Int} {L L' X : List Int} {V x : Int} {E : Bool} {o : Value}
theorem HL.below (h : HL w0 w B g C L D o X) (k : Below w.heap.size w w') : HL w0 w' B g C L D o X := by
  obtain ⟨⟨F, h1, h2, hd⟩, b, s⟩ := h
  exact ⟨⟨F, h1.below k, h2.below k, hd⟩, b.trans (k.mono s), Nat.le_trans s k.size⟩
theorem HL.draws (h : HL w0 w B g C L D o X) (n : Nat) : HL w0 (w.drewN n) B g C L D o X := h.below (drewN_below w n)
theorem HL.add (h : HL w0 w B g C L D o X) (x : Int) (hV : outV C x L = V) (hE : outB C L = E) (hL : kept C x L = L') (hD' : lost C L D = D') :
    Calls Try.prog 12 #[.pointer (some ⟨g, 0, none⟩), I x] w fun e w' => e = .returned (.tuple #[I V, .bool E]) ∧ HL w0 w' B g C L' D' o X := by
  obtain ⟨⟨F, h1, h2, hd⟩, b, s⟩ := h
  refine (h1.add s x hV hE hL hD').mono ?_
  rintro e w' ⟨rfl, F', h', hO, hF⟩
  refine ⟨rfl, ⟨F', h', h2.only hO hd, fun i hi hi2 => ?_⟩, b.trans (hO.below s (fun i hi => (h1.lt i hi).1)), Nat.le_trans s hO.size⟩
  rcases hF i hi2 with h3 | h3
  · exact hd i hi h3
  · have := (h2.lt i hi).2; omega
theorem HL.own (h : HL w0 w B g C L D o X) : On w B 3 o X := by
  obtain ⟨⟨F, h1, h2, hd⟩, b, s⟩ := h
  exact h2
theorem HL.items (h : HL w0 w B g C L D o X) {n : Nat} (hn : L.length = n := by rfl) :
    Calls Try.prog 16 #[.pointer (some ⟨g, 0, none⟩)] w fun e w' => ∃ A c, e = .returned (.slice A n c) ∧ On w' w.heap.size 3 (.slice A n c) L ∧ HL w0 w' B g C L D o X ∧ Below w.heap.size w w' := by
  have h0 := h
  obtain ⟨⟨F, h1, h2, hd⟩, b, s⟩ := h
  exact (h1.items hn).mono fun _ _ ⟨A, c, p1, p2, p3⟩ => ⟨A, c, p1, p2, h0.below p3, p3⟩
theorem HL.dropped (h : HL w0 w B g C L D o X) :
    Calls Try.prog 17 #[.pointer (some ⟨g, 0, none⟩)] w fun e w' => e = .returned (I D) ∧ w = w' := by
  obtain ⟨⟨F, h1, h2, hd⟩, b, s⟩ := h
  exact h1.dropped
/-- the list has grown by one -/
theorem HL.app {o2 : Value} (h : HL w0 w B g C L D o X) (hown : On w' B 3 o2 (X ++ [x])) (hg : (w.alloc (.cells #[I x] 3)).grownBy w' o.ownBlock) (ho : o2.ownBlock = o.ownBlock ∨ o2.ownBlock = some (w.alloc (.cells #[I x] 3)).heap.size) :
    HL w0 w' B g C L D o2 (X ++ [x]) := by
  obtain ⟨⟨F, h1, h2, hd⟩, b, s⟩ := h
  have b1 : Below w.heap.size w (w.alloc (.cells #[I x] 3)) := (Below.refl _ w).alloc (Nat.le_refl _) _
  have h3 := h1.below b1
  have hO : Only o.ownBlock.toList (w.alloc (.cells #[I x] 3)) w' := Only.of_grown hg
  refine ⟨⟨F, h3.only hO (fun i hi hi2 => hd i (by simpa using hi2) hi), hown, fun i hi hi2 => ?_⟩, ?_, ?_⟩
  · rcases ho with ho | ho
    · exact hd i (ho ▸ hi) hi2
    · rw [ho] at hi
      injection hi with hi
      have := (h3.lt i hi2).2
      omega
  · refine (b.trans (b1.mono s)).trans (hO.below (Nat.le_trans s b1.size) (fun i hi => ?_))
    exact (h2.lt i (by simpa using hi)).1
  · exact Nat.le_trans (Nat.le_trans s b1.size) hO.size
end

set_option maxHeartbeats 4000000 in
set_option maxRecDepth 100000 in
theorem historyNewest_walk (m : Int) (l : List Int) (w : World) (A : Option Addr) (c : Nat) (hl : Ns w w.heap.size A l) (hnc : A = none → c = 0) (hlc : l.length ≤ c) :
    Calls Try.prog 4 #[I m, .slice A l.length c] w fun e w' => e = .returned (.bool true) ∧ Below w.heap.size w w' := by
  obtain ⟨n, hn⟩ : ∃ n, n = l.length := ⟨_, rfl⟩
  rw [← hn] at hlc ⊢
  have hnew := HO.new (B := w.heap.size) m w (Nat.le_refl _)
  have hC0 := hcap_le m
  obtain ⟨C, hCC⟩ : ∃ C, C = hcap m := ⟨_, rfl⟩
  rw [← hCC] at hnew hC0
  obtain ⟨M, hM⟩ : ∃ M : Nat, M = (max m 0).toNat := ⟨_, rfl⟩
  have hm0 : max m 0 = (M : Int) := by omega
  have hm0' : (if m < 0 then (0 : Int) else m) = (M : Int) := by split <;> omega
  have hC : hcap m = min M 256 := by unfold hcap; omega
  rw [← hCC] at hC
  have hm1 : min (M : Int) 256 = (C : Int) := by omega
  have hm1' : (if (256 : Int) < (M : Int) then (256 : Int) else (M : Int)) = (C : Int) := by split <;> omega
  have hm1'' : (if 256 < M then (256 : Int) else (M : Int)) = (C : Int) := by split <;> omega
  obtain ⟨g, hg⟩ : ∃ g, g = w.heap.size := ⟨_, rfl⟩
  have HN := Lib.hid hn
  rw [← hg] at hnew hl ⊢
  have HG := Lib.hid hg
  clear hg hn hCC hM hC
  go_enter Try.func4, Try.ntmps4
  go_wp2_with fail
  refine hnew.mono ?_
  rintro e w1 ⟨rfl, h1, bw1, s1⟩
  clear hnew
  by_cases hbig : 600 < n
  · have t1 : decide ((600 : Int) < (n : Int)) = true := by simp; omega
    have t2 : decide (600 < n) = true := by simpa using hbig
    clear hl hbig
    go_wp2_with fail
    refine (lives_any _).mono ?_
    rintro e w4 ⟨rfl, b4⟩
    go_wp2_with fail
    go_ret
    exact ⟨rfl, bw1.trans (b4.mono (by omega))⟩
  · have t1 : decide ((600 : Int) < (n : Int)) = false := by simp; omega
    have t2 : decide (600 < n) = false := by simpa using hbig
    have hn1 : n ≤ 600 := by omega
    clear hbig
    have hmk := run_make_ints is_ints n (by omega)
    have hmo := On_made w1 3 g n (by omega) (by omega)
    have hq0 : HL w (w1.alloc (.cells (madeCells #[I 0] n) 3)) g g C (newest C l 0) ((0 - C : Nat) : Int) (.slice (some ⟨w1.heap.size, 0, none⟩) 0 n) (l.take (0 - C)) := by
      rw [newest_zero, Nat.zero_sub, List.take_zero]
      exact ⟨⟨_, h1.below ((Below.refl _ w1).alloc (Nat.le_refl _) _), hmo, fun i hi hi2 => by have hi : w1.heap.size = i := Option.some.inj hi; simp at hi2; omega⟩, bw1.trans (((Below.refl _ w1).alloc (Nat.le_refl _) _).mono (by omega)), by simp; omega⟩
    obtain ⟨MC, hMC⟩ : ∃ MC, MC = madeCells #[I 0] n := ⟨_, rfl⟩
    rw [← hMC] at hmk hq0
    obtain ⟨K, hK⟩ : ∃ K, K = n - C := ⟨_, rfl⟩
    have hK1 : max (0 : Int) ((n : Int) - (C : Int)) = (K : Int) := by omega
    have hK2 : (if (0 : Int) < (n : Int) - (C : Int) then (n : Int) - (C : Int) else (0 : Int)) = (K : Int) := by split <;> omega
    have hK3 : (if (n : Int) - (C : Int) < (0 : Int) then (0 : Int) else (n : Int) - (C : Int)) = (K : Int) := by split <;> omega
    have HK := Lib.hid hK
    have hKn : K ≤ n := by omega
    clear hMC hmo h1 hK
    go_wp2_with fail
    go_loopw [7, 8, 9, 10] (fun o i _ _ wr => ∃ k : Nat, k ≤ n ∧ i = .int .i64 k ∧ HL w wr g g C (newest C l k) ((k - C : Nat) : Int) o (l.take (k - C))) (fun _ i _ _ _ => n - (intOf i).toNat)
    case atStart => exact ⟨0, Nat.zero_le _, rfl, hq0⟩
    case round =>
      obtain ⟨k, hk, rfl, q⟩ := hrel
      clear hq0
      by_cases hlt : k < n
      · clear hK1 hK2 hK3
        have hkl : k < l.length := by have := HN.out; omega
        obtain ⟨b, off, rfl, hbw, hc1⟩ := (hl.below q.b).at_ hkl
        obtain ⟨V, hV⟩ : ∃ V, V = outV C l[k] (newest C l k) := ⟨_, rfl⟩
        have hnx := newest_next (cap := C) hkl
        have hlx := lost_next (cap := C) hkl (by omega)
        have hox := out_next (cap := C) hkl
        rw [← hV] at hox
        have hlen : Hid ((l.take (k - C)).length ≤ 600) := Lib.hid (by simp; omega)
        clear hl
        rcases hox with ⟨hE, hX⟩ | ⟨hE, hX⟩
        · have hadd := q.add l[k] hV.symm hE hnx hlx
          generalize l[k] = v at hc1 hadd
          rw [← hX] at hadd
          clear hV hnx hlx hE hX q
          go_wp2_with fail
          refine hadd.mono ?_
          rintro e w2 ⟨rfl, q2⟩
          go_wp2_with fail
          go_roundw
          case rel => exact ⟨k + 1, hlt, by simp, q2⟩
          case measure => simp [intOf]; omega
        · have hadd := q.add l[k] hV.symm hE hnx hlx
          generalize l[k] = v at hc1 hadd
          have HX := Lib.hid hX
          clear hV hnx hlx hE hX q
          go_wp2_with fail
          refine hadd.mono ?_
          rintro e w2 ⟨rfl, q2⟩
          have ho := q2.own
          have hs2 := q2.s
          go_wp2_with (at_builtin; refine wpList_iapp _ is_ints rfl (.tmp 48) (.tmp 50) rfl rfl (ho.alloc _) (l := [V]) (n := 1) rfl rfl (Ns_new1 _ _ V) (by simp) (by have := hlen.out; simp only [List.length_cons, List.length_nil]; omega) (by simp; omega) ?_; intro v2 w3 hown2 hg2 hv2; have q3 := q2.app hown2 hg2 hv2)
          go_roundw
          case rel => exact ⟨k + 1, hlt, by simp, by rw [HX.out]; exact q3⟩
          case measure => simp [intOf]; omega
      · obtain rfl : k = n := by omega
        have hKk : k - C = K := HK.out.symm
        have hnl : newest C l k = l.drop K := by rw [HN.out, newest_all, ← HN.out, hKk]
        rw [hKk, hnl] at q
        have hT : Hid ((l.take K).length = K) := Lib.hid (by have := HN.out; simp; omega)
        have hDl : Hid ((l.drop K).length = k - K) := Lib.hid (by have := HN.out; simp; omega)
        have hz : ((K : Int) == (K : Int)) = true := by simp
        have hgw : g ≤ wr.heap.size := q.s
        obtain ⟨Ao, co, rfl, _, _, _, _⟩ := q.own.reads_len hT.out
        have hsame1 := rsame_any (l.take K) (l.take K) wr.drew Ao A co c (On_ns q.own.drew) (((hl.take K).below (show Below g w wr.drew from q.b.trans ⟨rfl, rfl, rfl, Nat.le_refl _, fun _ _ => rfl⟩)).more hgw) (by have := hT.out; omega)
        rw [decide_eq_true (rfl : l.take K = l.take K), hT.out] at hsame1
        have hNs : Hid (Ns w g (if c = K then A else Option.map (fun x => x.add K) A) (l.drop K)) := Lib.hid (by
          by_cases h : c = K
          · have : l.drop K = [] := List.drop_eq_nil_of_le (by have := HN.out; omega)
            rw [this]; exact Ns.nil_
          · rw [if_neg h]
            intro hpos
            obtain ⟨b, off, rfl, _⟩ := hl (by simp at hpos; omega)
            have := hl.drop K hpos
            rw [Option.map_some, Addr.add_lit]
            exact this)
        have hsame2 : ∀ (W : World) (A4 : Option Addr) (c4 base : Nat), On W base 3 (.slice A4 (k - K) c4) (l.drop K) → Below g w W → g ≤ W.heap.size →
            Calls Try.prog 15 #[.slice A4 (k - K) c4, .slice (if c = K then A else Option.map (fun x => x.add K) A) (k - K) (c - K)] W fun e w' => e = .returned (.bool true) ∧ Below W.heap.size W w' := fun W A4 c4 base o hB hs => by
          have := rsame_any (l.drop K) (l.drop K) W A4 _ c4 (c - K) (On_ns o) ((hNs.out.below hB).more hs) (by have := hDl.out; omega)
          rw [decide_eq_true (rfl : l.drop K = l.drop K), hDl.out] at this
          exact this
        have hq := q
        have bdrew : Below wr.heap.size wr wr.drew := ⟨rfl, rfl, rfl, Nat.le_refl _, fun _ _ => rfl⟩
        have hKc : (K : Int) ≤ (c : Int) := by omega
        have hK0 : (0 : Int) ≤ (K : Int) := by omega
        clear hlt hk q hl hnl
        go_wp2_with fail
        refine wp_region_held_drew (S := (fun _ => True)) (by kernel_rfl) (trivial) (fun hHeld => ?_)
        refine wpAnyH_here 0 (v := ?_) rfl (by kernel_rfl) (by kernel_rfl) (by kernel_rfl) (fun _ _ _ h => h) (Or.inl ⟨by rfl, ?_⟩) hHeld ?_
        rotate_left
        · intro w hSw; (try dsimp only at hSw); go_simp; all_goals (with_reducible rfl)
        try simp only [Act.put, List.setIfInBounds_toArray, List.set_cons_zero, List.set_cons_succ]
        refine wpAnyH_here 1 (v := ?_) rfl (by kernel_rfl) (by kernel_rfl) (by kernel_rfl) (fun _ _ _ h => h) (Or.inl ⟨by rfl, ?_⟩) hHeld ?_
        rotate_left
        · intro w hSw; (try dsimp only at hSw); go_simp; all_goals (with_reducible rfl)
        try simp only [Act.put, List.setIfInBounds_toArray, List.set_cons_zero, List.set_cons_succ]
        refine wpAnyH_here 2 (v := ?_) rfl (by kernel_rfl) (by kernel_rfl) (by kernel_rfl) (fun _ _ _ h => h) (Or.inl ⟨by rfl, ?_⟩) hHeld ?_
        rotate_left
        · intro w hSw; (try dsimp only at hSw); go_simp; all_goals (with_reducible rfl)
        try simp only [Act.put, List.setIfInBounds_toArray, List.set_cons_zero, List.set_cons_succ]
        refine wpAnyH_here 3 (v := ?_) rfl (by kernel_rfl) (by kernel_rfl) (by kernel_rfl) (fun _ _ _ h => h) (Or.inl ⟨by rfl, ?_⟩) hHeld ?_
        rotate_left
        · intro w hSw; (try dsimp only at hSw); go_simp; all_goals (with_reducible rfl)
        try simp only [Act.put, List.setIfInBounds_toArray, List.set_cons_zero, List.set_cons_succ]
        refine wpAnyH_alone 4 rfl (by kernel_rfl) (fun K hK => ?_)
        go_simp
        (go_at_call 15; refine hsame1.mono ?_; rintro e w3 ⟨rfl, b3⟩; have q3 := hq.below (bdrew.trans b3))
        refine hK.out _ _ (trivial) (fun hHeld => ?_)
        clear hK K
        try simp only [Act.put, List.setIfInBounds_toArray, List.set_cons_zero, List.set_cons_succ]
        refine wpAnyH_here 5 (v := ?_) rfl (by kernel_rfl) (by kernel_rfl) (by kernel_rfl) (fun _ _ _ h => h) (Or.inl ⟨by rfl, ?_⟩) hHeld ?_
        rotate_left
        · intro w hSw; (try dsimp only at hSw); go_simp; all_goals (with_reducible rfl)
        try simp only [Act.put, List.setIfInBounds_toArray, List.set_cons_zero, List.set_cons_succ]
        refine wpAnyH_here 6 (v := ?_) rfl (by kernel_rfl) (by kernel_rfl) (by kernel_rfl) (fun _ _ _ h => h) (Or.inl ⟨by rfl, ?_⟩) hHeld ?_
        rotate_left
        · intro w hSw; (try dsimp only at hSw); go_simp; all_goals (with_reducible rfl)
        try simp only [Act.put, List.setIfInBounds_toArray, List.set_cons_zero, List.set_cons_succ]
        refine wpAnyH_here 8 (v := ?_) rfl (by kernel_rfl) (by kernel_rfl) (by kernel_rfl) (fun _ _ _ h => h) (Or.inl ⟨by rfl, ?_⟩) hHeld ?_
        rotate_left
        · intro w hSw; (try dsimp only at hSw); go_simp; all_goals (with_reducible rfl)
        try simp only [Act.put, List.setIfInBounds_toArray, List.set_cons_zero, List.set_cons_succ]
        refine wpAnyH_here 9 (v := ?_) rfl (by kernel_rfl) (by kernel_rfl) (by kernel_rfl) (fun _ _ _ h => h) (Or.inl ⟨by rfl, ?_⟩) hHeld ?_
        rotate_left
        · intro w hSw; (try dsimp only at hSw); go_simp; all_goals (with_reducible rfl)
        try simp only [Act.put, List.setIfInBounds_toArray, List.set_cons_zero, List.set_cons_succ]
        refine wpAnyH_here 10 (v := ?_) rfl (by kernel_rfl) (by kernel_rfl) (by kernel_rfl) (fun _ _ _ h => h) (Or.inl ⟨by rfl, ?_⟩) hHeld ?_
        rotate_left
        · intro w hSw; (try dsimp only at hSw); go_simp; all_goals (with_reducible rfl)
        try simp only [Act.put, List.setIfInBounds_toArray, List.set_cons_zero, List.set_cons_succ]
        refine wpAnyH_alone 7 rfl (by kernel_rfl) (fun K hK => ?_)
        go_simp
        (go_at_call 16; refine (q3.items hDl.out).mono ?_; rintro e w4 ⟨A4, c4, rfl, o4, q4, b4⟩; have hsame2 := hsame2 w4 A4 c4 _ o4 q4.b q4.s)
        refine hK.out _ _ (trivial) (fun hHeld => ?_)
        clear hK K
        try simp only [Act.put, List.setIfInBounds_toArray, List.set_cons_zero, List.set_cons_succ]
        refine wpAnyH_alone 11 rfl (by kernel_rfl) (fun K hK => ?_)
        go_simp
        (go_at_call 15; refine hsame2.mono ?_; rintro e w5 ⟨rfl, b5⟩; have q5 := q4.below b5)
        refine hK.out _ _ (trivial) (fun hHeld => ?_)
        clear hK K
        try simp only [Act.put, List.setIfInBounds_toArray, List.set_cons_zero, List.set_cons_succ]
        refine wpAnyH_here 12 (v := ?_) rfl (by kernel_rfl) (by kernel_rfl) (by kernel_rfl) (fun _ _ _ h => h) (Or.inl ⟨by rfl, ?_⟩) hHeld ?_
        rotate_left
        · intro w hSw; (try dsimp only at hSw); go_simp; all_goals (with_reducible rfl)
        try simp only [Act.put, List.setIfInBounds_toArray, List.set_cons_zero, List.set_cons_succ]
        refine wpAnyH_here 13 (v := ?_) rfl (by kernel_rfl) (by kernel_rfl) (by kernel_rfl) (fun _ _ _ h => h) (Or.inl ⟨by rfl, ?_⟩) hHeld ?_
        rotate_left
        · intro w hSw; (try dsimp only at hSw); go_simp; all_goals (with_reducible rfl)
        try simp only [Act.put, List.setIfInBounds_toArray, List.set_cons_zero, List.set_cons_succ]
        refine wpAnyH_here 14 (v := ?_) rfl (by kernel_rfl) (by kernel_rfl) (by kernel_rfl) (fun _ _ _ h => h) (Or.inl ⟨by rfl, ?_⟩) hHeld ?_
        rotate_left
        · intro w hSw; (try dsimp only at hSw); go_simp; all_goals (with_reducible rfl)
        try simp only [Act.put, List.setIfInBounds_toArray, List.set_cons_zero, List.set_cons_succ]
        refine wpAnyH_here 16 (v := ?_) rfl (by kernel_rfl) (by kernel_rfl) (by kernel_rfl) (fun _ _ _ h => h) (Or.inl ⟨by rfl, ?_⟩) hHeld ?_
        rotate_left
        · intro w hSw; (try dsimp only at hSw); go_simp; all_goals (with_reducible rfl)
        try simp only [Act.put, List.setIfInBounds_toArray, List.set_cons_zero, List.set_cons_succ]
        refine wpAnyH_alone 15 rfl (by kernel_rfl) (fun K hK => ?_)
        go_simp
        (go_at_call 17; refine q5.dropped.mono ?_; rintro e w6 ⟨rfl, rfl⟩)
        refine hK.out _ _ (trivial) (fun hHeld => ?_)
        clear hK K
        try simp only [Act.put, List.setIfInBounds_toArray, List.set_cons_zero, List.set_cons_succ]
        refine wpAnyH_here 17 (v := ?_) rfl (by kernel_rfl) (by kernel_rfl) (by kernel_rfl) (fun _ _ _ h => h) (Or.inl ⟨by rfl, ?_⟩) hHeld ?_
        rotate_left
        · intro w hSw; (try dsimp only at hSw); go_simp; all_goals (with_reducible rfl)
        try simp only [Act.put, List.setIfInBounds_toArray, List.set_cons_zero, List.set_cons_succ]
        refine wpAnyH_here 18 (v := ?_) rfl (by kernel_rfl) (by kernel_rfl) (by kernel_rfl) (fun _ _ _ h => h) (Or.inl ⟨by rfl, ?_⟩) hHeld ?_
        rotate_left
        · intro w hSw; (try dsimp only at hSw); go_simp; all_goals (with_reducible rfl)
        try simp only [Act.put, List.setIfInBounds_toArray, List.set_cons_zero, List.set_cons_succ]
        refine wpAnyH_here 19 (v := ?_) rfl (by kernel_rfl) (by kernel_rfl) (by kernel_rfl) (fun _ _ _ h => h) (Or.inl ⟨by rfl, ?_⟩) hHeld ?_
        rotate_left
        · intro w hSw; (try dsimp only at hSw); go_simp; all_goals (with_reducible rfl)
        try simp only [Act.put, List.setIfInBounds_toArray, List.set_cons_zero, List.set_cons_succ]
        refine wpAnyH_alone 20 rfl (by kernel_rfl) (fun K hK => ?_)
        go_simp
        (go_at_call 9; refine (lives_any _).mono ?_; rintro e w7 ⟨rfl, b7⟩)
        refine hK.out _ _ (trivial) (fun hHeld => ?_)
        clear hK K
        try simp only [Act.put, List.setIfInBounds_toArray, List.set_cons_zero, List.set_cons_succ]
        refine wpAnyH_here 21 (v := ?_) rfl (by kernel_rfl) (by kernel_rfl) (by kernel_rfl) (fun _ _ _ h => h) (Or.inl ⟨by rfl, ?_⟩) hHeld ?_
        rotate_left
        · intro w hSw; (try dsimp only at hSw); go_simp; all_goals (with_reducible rfl)
        try simp only [Act.put, List.setIfInBounds_toArray, List.set_cons_zero, List.set_cons_succ]
        refine wpAnyH_here 22 (v := ?_) rfl (by kernel_rfl) (by kernel_rfl) (by kernel_rfl) (fun _ _ _ h => h) (Or.inl ⟨by rfl, ?_⟩) hHeld ?_
        rotate_left
        · intro w hSw; (try dsimp only at hSw); go_simp; all_goals (with_reducible rfl)
        try simp only [Act.put, List.setIfInBounds_toArray, List.set_cons_zero, List.set_cons_succ]
        refine wpAnyH_done (by kernel_rfl) ?_ _
        go_wp2
        all_goals
          go_ret
          exact ⟨rfl, q5.b.trans (b7.mono q5.s)⟩
end Go.Proofs.Ytnkbilbaljdfgaa.His
