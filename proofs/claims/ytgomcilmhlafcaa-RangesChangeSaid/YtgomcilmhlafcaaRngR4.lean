/-
  The reference of layer 7: Head.
-/
import Derived.Test.YtgomcilmhlafcaaRngR3
import Derived.Deep.RegionLaw
namespace Go.Proofs.Ytgomcilmhlafcaa.Rng
open Go.RowKit

theorem Rs.drew {w : World} {B : Nat} {a : Option Addr} {l : List R} (h : Rs w B a l) : Rs w.drew B a l := h
theorem hd_zero (s : List R) : hd s 0 = [] := by cases s <;> simp [hd]
theorem hd_stop {s : List R} {k N : Nat} (h : k < s.length) (h0 : N ≠ 0) (hN : N < len s[k]) : hd (s.drop k) N = [(s[k].1, s[k].1 + N)] := by
  rw [List.drop_eq_getElem_cons h, hd, if_neg h0, if_pos hN]
theorem hd_go {s : List R} {k N : Nat} (h : k < s.length) (h0 : N ≠ 0) (hN : ¬ N < len s[k]) : hd (s.drop k) N = s[k] :: hd (s.drop (k + 1)) (N - len s[k]) := by
  rw [List.drop_eq_getElem_cons h, hd, if_neg h0, if_neg hN]

set_option maxHeartbeats 1000000 in
theorem rhead_any (l : List R) (n : Int) (w : World) (A : Option Addr) (c : Nat) (h : Rs w w.heap.size A l) (hl : l.length ≤ 100000000000) (hi : In64 l) (hn1 : -9223372036854775808 ≤ n) (hn2 : n < 9223372036854775808) :
    Calls Try.prog 24 #[.slice A l.length c, I n] w fun e w' => ∃ v, e = .returned v ∧ Os w' w.heap.size 24 v (hd (nrm l) n.toNat) ∧ Below w.heap.size w w' := by
  have hcon := of_any l w A c h (by omega)
  have hnl := nrm_length l
  have hcn := nrm_canon l
  have hin := nrm_in hi
  obtain ⟨s, hs⟩ : ∃ s, s = nrm l := ⟨_, rfl⟩
  rw [← hs] at hcon hnl hcn hin ⊢
  obtain ⟨E, hE⟩ : ∃ E, E = hd s n.toNat := ⟨_, rfl⟩
  rw [← hE]
  have HE := Lib.hid hE
  clear hs hE h
  go_enter Try.func24, Try.ntmps24
  go_wp2_with fail
  refine hcon.mono ?_
  rintro e w2 ⟨v, rfl, ho2, hb2⟩
  obtain ⟨A2, c2, rfl, hr2, _, _, _⟩ := ho2.reads
  have hsz2 := hb2.size
  clear hcon ho2
  go_wp2_with fail
  go_loopw [1, 6, 7] (fun nn o i wr => ∃ (k : Nat) (N : Int), k ≤ s.length ∧ i = .int .i64 k ∧ nn = I N ∧ -9223372036854775808 ≤ N ∧ N < 9223372036854775808 ∧ ∃ m : List R, m.length ≤ k ∧ Hid (E = m ++ hd (s.drop k) N.toNat) ∧ Os wr w2.heap.size 24 o m ∧ Below w2.heap.size w2 wr)
    (fun _ _ i _ => s.length - (intOf i).toNat)
  case atStart => exact ⟨0, n, Nat.zero_le _, rfl, rfl, hn1, hn2, [], Nat.zero_le _, Lib.hid (by simpa using HE.out), Os.nil_ _ _ _, Below.refl _ _⟩
  case round =>
    obtain ⟨k, N, hk, rfl, rfl, hN1, hN2, m, hml, hg, ho, hbel⟩ := hrel
    have hsz := hbel.size
    by_cases hN0 : 0 < N
    · have hd0 : decide ((0 : Int) < N) = true := by simpa using hN0
      by_cases hlt : k < s.length
      · obtain ⟨b, off, rfl, hbw, hc1, hc2⟩ := (hr2.below hbel).at_ hlt
        have hpq := hin s[k] (List.getElem_mem hlt)
        have hpq2 : s[k].1 < s[k].2 := by obtain ⟨lo, hcn⟩ := hcn; exact (hcn.low _ (List.getElem_mem hlt)).2
        have hst := fun h2 => hd_stop (s := s) (N := N.toNat) hlt (by omega) h2
        have hgo := fun h2 => hd_go (s := s) (N := N.toNat) hlt (by omega) h2
        obtain ⟨⟨p, q⟩, hx⟩ : ∃ z, z = s[k] := ⟨_, rfl⟩
        rw [← hx] at hc1 hc2 hpq hpq2 hst hgo
        clear hx
        dsimp only at hc1 hc2 hpq hpq2
        have hlen := len_of (x := (p, q)) hpq2 hpq.1 hpq.2.2.2
        dsimp only at hlen
        have hlw := len_wrap p q
        obtain ⟨L, hL⟩ : ∃ L, L = len (p, q) := ⟨_, rfl⟩
        rw [← hL] at hlen hlw hst hgo
        clear hL
        have hwN : IntKind.u64.wrap N = N := by rw [IntKind.wrap_u64]; omega
        by_cases hbig : N < (L : Int)
        · have hdb : decide (N < (L : Int)) = true := by simpa using hbig
          have hE2 : E = m ++ [(p, p + N)] := by
            rw [hg.out, hst (by omega)]; simp; omega
          have HE2 := Lib.hid hE2
          have hwp : wrap64 (p + N) = p + N := by unfold wrap64; omega
          have hwp' : IntKind.i64.wrap (p + N) = p + N := by rw [IntKind.wrap_i64]; omega
          clear hst hgo hE2 hg HE hlen hpq hpq2
          go_wp2_with fail
          go_quiet (fail)
          go_wp2_with fail
          have ho1 := ho.draws nq
          obtain ⟨w4, hw4⟩ : ∃ w4, w4 = wr.drewN nq := ⟨_, rfl⟩
          have hb4 : Below w2.heap.size w2 w4 := by rw [hw4]; exact bel_draws hbel _
          have hc14 : w4.cell? ⟨b, off + k * 2, none⟩ = some (I p) := by rw [hw4]; exact hc1
          have hc24 : w4.cell? ⟨b, off + k * 2 + 1, none⟩ = some (I q) := by rw [hw4]; exact hc2
          rw [← hw4] at ho1 ⊢
          clear hw4 hc1 hc2 ho hbel
          have hs4 := hb4.size
          go_region_law (refine step_rapp _ is_ranges rfl (.tmp 38) (.tmp 52) rfl rfl (ho1.alloc _).drew (l := [(p, p + N)]) rfl (Rs_new1 w4 24 p (p + N)).drew (by simp) (by simp; omega) (by simp; omega) ?_; intro v7 w7 ho7 hg7 hv7)
          all_goals (try go_wp2_with fail)
          all_goals
            have hb7 := (bel_drew (hb4.alloc hs4 (.cells #[I p, I (p + N)] 24))).grown hg7 (Nat.le_trans hs4 (by show w4.heap.size ≤ (w4.alloc _).heap.size; simp)) (fun i hi => ho1.base_le i hi)
            go_ret
            exact ⟨_, rfl, by rw [HE2.out]; exact ho7.more hsz2, hb2.trans (hb7.mono hsz2)⟩
        · have hdb : decide (N < (L : Int)) = false := by simpa using hbig
          have hE2 : E = (m ++ [(p, q)]) ++ hd (s.drop (k + 1)) (N - (L : Int)).toNat := by
            rw [hg.out, hgo (by omega), show N.toNat - L = (N - (L : Int)).toNat by omega]; simp
          have HE2 := Lib.hid hE2
          have hwL : IntKind.i64.wrap (L : Int) = (L : Int) := by rw [IntKind.wrap_i64]; omega
          have hws : wrap64 (N - (L : Int)) = N - (L : Int) := by unfold wrap64; omega
          have hws' : IntKind.i64.wrap (N - (L : Int)) = N - (L : Int) := by rw [IntKind.wrap_i64]; omega
          have hb1 : -9223372036854775808 ≤ N - (L : Int) := by omega
          have hb2' : N - (L : Int) < 9223372036854775808 := by omega
          clear hst hgo hE2 hg HE hlen hpq hpq2
          go_wp2_with fail
          go_quiet (fail)
          go_wp2_with (at_builtin; refine wpList_rapp _ is_ranges rfl (.tmp 54) (.tmp 59) rfl rfl ((ho.draws _).alloc _) (l := [(p, q)]) rfl (Rs_new1 _ _ _ _) (by simp) (by simp; omega) (by simp; omega) ?_; intro v7 w7 ho7 hg7 hv7)
          go_roundw
          case rel => exact ⟨k + 1, N - (L : Int), hlt, by simp, rfl, hb1, hb2', _, by simp; omega, HE2, ho7, app_below (bel_draws hbel _) (by simp; omega) (Nat.le_refl _) (ho.draws _) hg7⟩
          case measure => simp [intOf]; omega
      · obtain rfl : k = s.length := by omega
        have hE2 : E = m := by rw [hg.out, List.drop_length]; simp [hd]
        have HE2 := Lib.hid hE2
        have hfin : Below w.heap.size w wr := hb2.trans (hbel.mono (by omega))
        clear hE2 hg HE
        go_wp2_with fail
        go_ret
        exact ⟨_, rfl, by rw [HE2.out]; exact ho.more (by omega), hfin⟩
    · have hd0 : decide ((0 : Int) < N) = false := by simpa using hN0
      have hE2 : E = m := by rw [hg.out, show N.toNat = 0 by omega, hd_zero]; simp
      have HE2 := Lib.hid hE2
      have hfin : Below w.heap.size w wr := hb2.trans (hbel.mono (by omega))
      clear hE2 hg HE
      rcases Nat.lt_or_ge k s.length with hlt | hlt
      · have hd1 : decide ((k : Int) < (s.length : Int)) = true := by simpa using hlt
        go_wp2_with fail
        go_ret
        exact ⟨_, rfl, by rw [HE2.out]; exact ho.more (by omega), hfin⟩
      · have hd1 : decide (k < s.length) = false := by simpa using hlt
        go_wp2_with fail
        go_ret
        exact ⟨_, rfl, by rw [HE2.out]; exact ho.more (by omega), hfin⟩
end Go.Proofs.Ytgomcilmhlafcaa.Rng
