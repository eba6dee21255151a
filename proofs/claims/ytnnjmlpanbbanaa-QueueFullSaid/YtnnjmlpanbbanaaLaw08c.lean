/-
  Layer 8's law QueueStable.
-/
import Derived.Test.YtnnjmlpanbbanaaLaw08a
import Derived.Test.YtnnjmlpanbbanaaQueMath2
namespace Go.Proofs.Ytnnjmlpanbbanaa.Rng.Que
open Go.RowKit Go.Shelf Ints

theorem getD_at {l : List Int} {k : Nat} (h : k < l.length) : l.getD k 0 = l[k] := by simp [h]
theorem capOf_nat {n : Nat} (h : n ≤ 256) : capOf (n : Int) = n := by unfold capOf; omega

theorem At.drews {w0 w : World} {B g cap : Nat} {L : List R} (h : At w0 w B g cap L) (n : Nat) : At w0 (w.drewN n) B g cap L := h.below (drewN_below w n)
set_option maxHeartbeats 2000000 in
set_option maxRecDepth 100000 in
theorem queueStable_walk (l : List Int) (w : World) (A : Option Addr) (c : Nat) (hl : Ns w w.heap.size A l) :
    Calls Try.prog 4 #[.slice A l.length c] w fun e w' => e = .returned (.bool true) ∧ Below w.heap.size w w' := by
  obtain ⟨n, hn⟩ : ∃ n, n = l.length := ⟨_, rfl⟩
  rw [← hn]
  by_cases hbig : 100 < n
  · have hal := alive_any w
    have t1 : decide ((100 : Int) < (n : Int)) = true := by simp; omega
    have t2 : decide (100 < n) = true := by simpa using hbig
    clear hl hn hbig
    go_enter Try.func4, Try.ntmps4
    go_wp2_with (go_at_call 8; refine hal.mono ?_; rintro e w3 ⟨rfl, b3⟩)
    go_ret
    exact ⟨rfl, b3⟩
  · have t1 : decide ((100 : Int) < (n : Int)) = false := by simp; omega
    have t2 : decide (100 < n) = false := by simpa using hbig
    have hn1 : n ≤ 100 := by omega
    have hnew := At.new 100 w
    rw [show capOf 100 = 100 by decide] at hnew
    obtain ⟨g, hg⟩ : ∃ g, g = w.heap.size := ⟨_, rfl⟩
    have HG := Lib.hid hg
    have HN := Lib.hid hn
    rw [← hg] at hnew hl ⊢
    clear hg hn hbig
    go_enter Try.func4, Try.ntmps4
    go_wp2_with fail
    refine hnew.mono ?_
    rintro e w1 ⟨rfl, q1⟩
    clear hnew
    go_wp2_with fail
    go_loopw [4] (fun i wr => ∃ k : Nat, k ≤ n ∧ i = .int .i64 k ∧ At w wr g g 100 (stk l k)) (fun i _ => n - (intOf i).toNat)
    case atStart => exact ⟨0, Nat.zero_le _, rfl, q1⟩
    case round =>
      obtain ⟨k, hk, rfl, q⟩ := hrel
      by_cases hlt : k < n
      · have hkl : k < l.length := by have := HN.out; omega
        obtain ⟨b, off, rfl, hbw, hc1⟩ := (hl.below q.b).at_ hkl
        have hp := push_next (cap := 100) (getD_at hkl) (by omega)
        have hpush := q.push l[k] k hp.1 hp.2
        generalize l[k] = p at hc1 hpush
        clear hp hkl q1 q hl
        go_wp2_with fail
        refine hpush.mono ?_
        rintro e w2 ⟨rfl, q2, _⟩
        go_wp2_with fail
        go_roundw
        case rel => exact ⟨k + 1, hlt, by simp, q2⟩
        case measure => simp [intOf]; omega
      · obtain rfl : k = n := by omega
        have hitems := q.items (I' := itm (stk l k)) (n := k) rfl (by rw [itm_length, stk_length])
        clear hlt hk q1
        go_wp2_with fail
        refine hitems.mono ?_
        rintro e w2 ⟨A5, c5, rfl, i5, n5, q2, _⟩
        have hz : ((k : Int) != (k : Int)) = false := by simp
        clear hitems q
        go_wp2_with fail
        have o0 : On w2 0 3 (.slice A5 k c5) (itm (stk l k)) := i5.more (Nat.zero_le _)
        obtain ⟨S, hS⟩ : ∃ S, S = stk l k := ⟨_, rfl⟩
        have hat : Hid (∀ k', k' < k → ∃ j, j < k ∧ S[k']? = some (l.getD j 0, (j : Int))) := Lib.hid fun k' h => by rw [hS]; exact stk_at h
        have hasc : Hid (∀ (k' : Nat) (a b : R), S[k']? = some a → S[k' + 1]? = some b → a.1 < b.1 ∨ (a.1 = b.1 ∧ a.2 < b.2)) := Lib.hid fun k' a b ha hb => by rw [hS] at ha hb; exact stk_asc ha hb
        have hSl : Hid (S.length = k) := Lib.hid (by rw [hS, stk_length])
        rw [← hS] at q2 o0
        clear i5 n5 hS
        go_loopw [6, 7, 8, 9] (fun last i _ _ wr => ∃ k' : Nat, k' ≤ k ∧ i = .int .i64 k' ∧ At w wr g g 100 (S.drop k') ∧ On wr 0 3 (.slice A5 k c5) (itm S) ∧
          ((k' = 0 ∧ last = .int .i64 (-1)) ∨ ∃ j' : Nat, 0 < k' ∧ j' < k ∧ Hid (S[k' - 1]? = some (l.getD j' 0, (j' : Int))) ∧ last = .int .i64 j')) (fun _ i _ _ _ => k - (intOf i).toNat)
        case atStart => exact ⟨0, Nat.zero_le _, rfl, q2, o0, .inl ⟨rfl, rfl⟩⟩
        case round =>
          obtain ⟨k', hk', rfl, q, o, hlast⟩ := hrel
          by_cases hlt : k' < k
          · obtain ⟨j, hj, hSj⟩ := hat.out k' hlt
            have hjl : j < l.length := by have := HN.out; omega
            have hkS : k' < (itm S).length := by rw [itm_length, hSl.out]; exact hlt
            have hik : (itm S)[k'] = (j : Int) := by
              have := itm_at hSj
              rw [List.getElem?_eq_getElem hkS] at this
              exact Option.some.inj this
            have hdr := drop_at hSj
            have hpop := q.pop (x := (j : Int)) (E := true) (L' := S.drop (k' + 1)) (by rw [hdr]; rfl) (by rw [hdr]; simp [okI]) (by rw [hdr]; rfl)
            have HSj := Lib.hid hSj
            clear q hdr hSj
            rcases hlast with ⟨rfl, rfl⟩ | ⟨j', h0, hj', hS', rfl⟩
            · have hd1 : decide ((k : Int) ≤ (j : Int)) = false := by simp; omega
              have hd2 : decide (k ≤ j) = false := by simp; omega
              go_wp2_with fail
              refine hpop.mono ?_
              rintro e w4 ⟨rfl, q4, k4⟩
              have o4 := On_kp o k4
              obtain ⟨b5, o5, rfl, hb5, hc5⟩ := (On_ns o4).at_ hkS
              rw [hik] at hc5
              rw [Nat.add_zero] at hc5
              have hz1 : ((j : Int) != (j : Int)) = false := by simp
              have hd0 : decide ((j : Int) < 0) = false := by simp
              have hm1 : decide ((0 : Int) ≤ -1) = false := by decide
              clear hpop hik hkS o
              go_wp2_with fail
              go_quiet (fail)
              clear hz1 hd0 hm1 hd1 hd2
              go_wp2_with fail
              go_roundw
              case rel => exact ⟨1, hlt, by simp, q4.drews _, On.draws o4 _, .inr ⟨j, by omega, hj, HSj, rfl⟩⟩
              case measure => simp [intOf]; omega
            · have hd1 : decide ((k : Int) ≤ (j : Int)) = false := by simp; omega
              have hd2 : decide (k ≤ j) = false := by simp; omega
              have hz1 : ((j : Int) != (j : Int)) = false := by simp
              have hd0 : decide ((j : Int) < 0) = false := by simp
              have hm1 : decide ((0 : Int) ≤ (j' : Int)) = true := by simp
              have hord := hasc.out (k' - 1) _ _ hS'.out (by rw [show k' - 1 + 1 = k' by omega]; exact HSj.out)
              dsimp only at hord
              have hjl' : j' < l.length := by have := HN.out; omega
              go_wp2_with fail
              refine hpop.mono ?_
              rintro e w4 ⟨rfl, q4, k4⟩
              have o4 := On_kp o k4
              obtain ⟨b5, o5, rfl, hb5, hc5⟩ := (On_ns o4).at_ hkS
              rw [hik] at hc5
              obtain ⟨b, off, rfl, hbw, hc1⟩ := (hl.below q4.b).at_ hjl
              obtain ⟨b', off', he, hbw', hc1'⟩ := (hl.below q4.b).at_ hjl'
              cases he
              rw [← getD_at hjl] at hc1
              rw [← getD_at hjl'] at hc1'
              have HSX := HSj
              generalize hp0 : l.getD j 0 = p at hc1 hord
              generalize hp1 : l.getD j' 0 = pl at hc1' hord
              clear hp0 hp1 hS'
              clear hpop hik hkS o hjl hjl' hl
              rcases hord with hord | ⟨hord, hjj⟩
              · have he1 : decide (p < pl) = false := by simp; omega
                have he2 : (pl == p) = false := by simp; omega
                go_wp2_with fail
                go_quiet (fail)
                clear hz1 hd0 hm1 hd1 hd2 he1 he2
                go_wp2_with fail
                go_roundw
                case rel => exact ⟨k' + 1, hlt, by simp, q4.drews _, On.draws o4 _, .inr ⟨j, by omega, hj, HSX, rfl⟩⟩
                case measure => simp [intOf]; omega
              · subst hord
                have he1 : decide (pl < pl) = false := by simp
                have he2 : (pl == pl) = true := by simp
                have he3 : decide ((j : Int) ≤ (j' : Int)) = false := by simp; omega
                have he4 : decide (j ≤ j') = false := by simp; omega
                go_wp2_with fail
                go_quiet (fail)
                clear hz1 hd0 hm1 hd1 hd2 he1 he2 he3 he4
                go_wp2_with fail
                go_roundw
                case rel => exact ⟨k' + 1, hlt, by simp, q4.drews _, On.draws o4 _, .inr ⟨j, by omega, hj, HSX, rfl⟩⟩
                case measure => simp [intOf]; omega
          · obtain rfl : k' = k := by omega
            have hnil : S.drop k' = [] := List.drop_eq_nil_of_le (by have := hSl.out; omega)
            rw [hnil] at q
            have hpop := q.pop (x := 0) (E := false) (L' := []) rfl rfl rfl
            clear hlast hlt hnil o
            go_wp2_with fail
            refine hpop.mono ?_
            rintro e w4 ⟨rfl, q4, k4⟩
            clear hpop q
            go_wp2_with fail
            refine (q4.len (n := 0) rfl).mono ?_
            rintro e w5 ⟨rfl, rfl⟩
            go_wp2_with fail
            refine (alive_any _).mono ?_
            rintro e w6 ⟨rfl, b6⟩
            go_wp2_with fail
            go_ret
            exact ⟨rfl, q4.b.trans (b6.mono q4.s)⟩
end Go.Proofs.Ytnnjmlpanbbanaa.Rng.Que
