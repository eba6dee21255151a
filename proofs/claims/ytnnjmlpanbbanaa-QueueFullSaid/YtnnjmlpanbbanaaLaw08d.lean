/-
  Layer 8's law QueueFull.
-/
import Derived.Test.YtnnjmlpanbbanaaLaw08a
import Derived.Test.YtnnjmlpanbbanaaQueMath2
namespace Go.Proofs.Ytnnjmlpanbbanaa.Rng.Que
open Go.RowKit Go.Shelf Ints

theorem getD_at_ {l : List Int} {k : Nat} (h : k < l.length) : l.getD k 0 = l[k] := by simp [h]

set_option maxHeartbeats 2000000 in
set_option maxRecDepth 100000 in
theorem queueFull_walk (m : Int) (l : List Int) (w : World) (A : Option Addr) (c : Nat) (hl : Ns w w.heap.size A l) :
    Calls Try.prog 5 #[I m, .slice A l.length c] w fun e w' => e = .returned (.bool true) ∧ Below w.heap.size w w' := by
  obtain ⟨n, hn⟩ : ∃ n, n = l.length := ⟨_, rfl⟩
  rw [← hn]
  by_cases hbig : 300 < n
  · have hal := alive_any w
    have t1 : decide ((300 : Int) < (n : Int)) = true := by simp; omega
    have t2 : decide (300 < n) = true := by simpa using hbig
    clear hl hn hbig
    go_enter Try.func5, Try.ntmps5
    go_wp2_with (go_at_call 8; refine hal.mono ?_; rintro e w3 ⟨rfl, b3⟩)
    go_ret
    exact ⟨rfl, b3⟩
  · have t1 : decide ((300 : Int) < (n : Int)) = false := by simp; omega
    have t2 : decide (300 < n) = false := by simpa using hbig
    have hn1 : n ≤ 300 := by omega
    have hnew := At.new m w
    have hC0 := capOf_le m
    obtain ⟨M, hM⟩ : ∃ M : Nat, M = (max m 0).toNat := ⟨_, rfl⟩
    have hm0 : max m 0 = (M : Int) := by omega
    have hm0' : (if m < 0 then (0 : Int) else m) = (M : Int) := by split <;> omega
    have hC : capOf m = min M 256 := by unfold capOf; omega
    obtain ⟨C, hCC⟩ : ∃ C, C = capOf m := ⟨_, rfl⟩
    rw [← hCC] at hC hnew hC0
    have hm1 : min (M : Int) 256 = (C : Int) := by omega
    have hm1' : (if (256 : Int) < (M : Int) then (256 : Int) else (M : Int)) = (C : Int) := by split <;> omega
    have hm1'' : (if 256 < M then (256 : Int) else (M : Int)) = (C : Int) := by split <;> omega
    clear hM hC hCC
    obtain ⟨g, hg⟩ : ∃ g, g = w.heap.size := ⟨_, rfl⟩
    have HN := Lib.hid hn
    rw [← hg] at hnew hl ⊢
    clear hg hn hbig
    go_enter Try.func5, Try.ntmps5
    go_wp2_with fail
    refine hnew.mono ?_
    rintro e w1 ⟨rfl, q1⟩
    clear hnew hm0 hm0' hm1 hm1' hm1''
    go_wp2_with fail
    go_loopw [7, 8, 9] (fun v i _ wr => ∃ k K : Nat, k ≤ n ∧ i = .int .i64 k ∧ v = .int .i64 K ∧ Hid (K = min k C) ∧ At w wr g g C (stk l K)) (fun _ i _ _ => n - (intOf i).toNat)
    case atStart => exact ⟨0, 0, Nat.zero_le _, rfl, rfl, Lib.hid (by simp), q1⟩
    case round =>
      obtain ⟨k, K, hk, rfl, rfl, hK, q⟩ := hrel
      by_cases hlt : k < n
      · have hkl : k < l.length := by have := HN.out; omega
        obtain ⟨b, off, rfl, hbw, hc1⟩ := (hl.below q.b).at_ hkl
        by_cases hroom : k < C
        · obtain rfl : K = k := by have := hK.out; omega
          have hp := push_next (cap := C) (getD_at_ hkl) hroom
          have hpush := q.push l[K] K hp.1 hp.2
          generalize l[K] = p at hc1 hpush
          have d1 : decide ((K : Int) < (C : Int)) = true := by simp; omega
          have d2 : decide (K < C) = true := by simpa using hroom
          have hz : ((K : Int) + 1 != (K : Int) + 1) = false := by simp
          have hKn : Hid (K + 1 = min (K + 1) C) := Lib.hid (by omega)
          clear hp hkl q1 q hl hK
          go_wp2_with fail
          refine hpush.mono ?_
          rintro e w2 ⟨rfl, q2, _⟩
          go_wp2_with fail
          refine (q2.len (n := K + 1) (stk_length l _)).mono ?_
          rintro e w3 ⟨rfl, rfl⟩
          go_wp2_with fail
          go_roundw
          case rel => exact ⟨K + 1, K + 1, hlt, by simp, by simp, hKn, q2⟩
          case measure => simp [intOf]; omega
        · obtain rfl : K = C := by have := hK.out; omega
          have hp := push_over (l := l) (k := k) (cap := K) (p := l[k]) (by omega)
          have hpush := q.push l[k] k hp.1 hp.2
          generalize l[k] = p at hc1 hpush
          have d1 : decide ((K : Int) < (K : Int)) = false := by simp
          have hz : ((K : Int) != (K : Int)) = false := by simp
          have hKn : Hid (K = min (k + 1) K) := Lib.hid (by omega)
          clear hp hkl q1 q hl hK hroom
          go_wp2_with fail
          refine hpush.mono ?_
          rintro e w2 ⟨rfl, q2, _⟩
          go_wp2_with fail
          refine (q2.len (n := K) (stk_length l _)).mono ?_
          rintro e w3 ⟨rfl, rfl⟩
          go_wp2_with fail
          go_roundw
          case rel => exact ⟨k + 1, K, hlt, by simp, rfl, hKn, q2⟩
          case measure => simp [intOf]; omega
      · obtain rfl : k = n := by omega
        have hKC : K ≤ C := by have := hK.out; omega
        by_cases hK0 : K = 0
        · subst hK0
          have hal := alive_any wr
          clear hlt hk q1 hl hK hKC
          go_wp2_with fail
          refine hal.mono ?_
          rintro e w6 ⟨rfl, b6⟩
          go_wp2_with fail
          go_ret
          exact ⟨rfl, q.b.trans (b6.mono q.s)⟩
        · have h1 : hasI 0 (stk l K) = true := by have := stk_has (l := l) (k := K) (i := 0) (by omega); simpa using this
          have h2 : hasI (-1) (stk l K) = false := stk_not (.inl (by omega))
          have h3 : hasI 0 (rm 0 (stk l K)) = false := rm_nod_has (stk_nod l K)
          have h4 : hasI (-1) (rm 0 (stk l K)) = false := hasI_false.2 fun y hy => hasI_false.1 h2 y (rm_mem_of hy)
          have h5 : (rm 0 (stk l K)).length + 1 = K := by rw [rm_length h1, stk_length]
          have p1 := q.push 0 0 (E := 9) (L' := stk l K) (by simp [pushE, h1]) (by simp [pushed, h1])
          have r2 : rm 0 (rm 0 (stk l K)) = rm 0 (stk l K) := rm_none h3
          have e4 : pushE C (1, -1) (rm 0 (stk l K)) = 0 := by
            have : ¬ C ≤ (rm 0 (stk l K)).length := by omega
            simp only [pushE, h4]; simp [this]
          have e5 : (pushed C (1, -1) (rm 0 (stk l K))).length = K := by
            have : ¬ C ≤ (rm 0 (stk l K)).length := by omega
            simp only [pushed, h4]; simp [this, ins_length]; omega
          have d0 : ¬ (K : Int) = 0 := by omega
          have hz : ((K : Int) == (K : Int)) = true := by simp
          obtain ⟨S1, hS1⟩ : ∃ S1, S1 = rm 0 (stk l K) := ⟨_, rfl⟩
          rw [← hS1] at h3 r2 e4 e5
          have S1h := Lib.hid hS1
          clear hlt hk q1 hl hK hKC h2 h4 h5 q hS1
          go_wp2_with fail
          refine p1.mono ?_
          rintro e w2 ⟨rfl, q2, _⟩
          have p2 := q2.remove 0 h1 S1h.out.symm
          clear p1 q2 h1
          go_wp2_with fail
          refine p2.mono ?_
          rintro e w3 ⟨rfl, q3, _⟩
          have p3 := q3.remove 0 h3 r2
          clear p2 q3 h3 r2
          go_wp2_with fail
          refine p3.mono ?_
          rintro e w4 ⟨rfl, q4, _⟩
          have p4 := q4.push 1 (-1) e4 rfl
          clear p3 q4 e4
          go_wp2_with fail
          refine p4.mono ?_
          rintro e w5 ⟨rfl, q5, _⟩
          have p5 := q5.len e5
          clear p4 e5
          go_wp2_with fail
          refine p5.mono ?_
          rintro e w6 ⟨rfl, rfl⟩
          clear p5
          go_wp2_with fail
          refine (alive_any _).mono ?_
          rintro e w7 ⟨rfl, b7⟩
          go_wp2_with fail
          go_ret
          exact ⟨rfl, q5.b.trans (b7.mono q5.s)⟩
end Go.Proofs.Ytnnjmlpanbbanaa.Rng.Que
