/-
  slices.MaxFunc at the pointers to channels.
-/
import Derived.Test.YtpfhbojodapomaaMuxW2
namespace Go.Proofs.Ytpfhbojodapomaa.Mux
open Go.RowKit Go.Shelf Go.Proofs.Ytpfhbojodapomaa.Row Ints

set_option maxHeartbeats 1000000 in
theorem cmp_creds (gr i j : Nat) (a b : Int) (w : World) (h1 : w.cell? ⟨gr, i * 5 + 3, none⟩ = some (I a)) (h2 : w.cell? ⟨gr, j * 5 + 3, none⟩ = some (I b)) :
    Calls Try.prog 25 #[.pointer (some ⟨gr, i * 5, none⟩), .pointer (some ⟨gr, j * 5, none⟩)] w fun e w' => e = .returned (I (cmpI a b)) ∧ ∃ n, w' = w.drewN n := by
  have hcon := fun W => compare_any a b W
  generalize cmpI a b = V at hcon ⊢
  go_enter Try.func25, Try.ntmps25
  go_wp2_with fail
  go_quiet ((go_at_call 21; exact Calls.quiet_of_same ((hcon _).mono fun _ _ h => ⟨h.1, h.2.symm⟩)))
  go_wp2_with fail
  go_ret
  exact ⟨rfl, _, rfl⟩

theorem cmpI_gt {a b : Int} (h : b < a) : cmpI a b = 1 := by unfold cmpI; rw [if_neg (by omega), if_pos h]
theorem cmpI_le {a b : Int} (h : ¬ b < a) : cmpI a b ≤ 0 := by
  unfold cmpI
  repeat' split
  all_goals omega

set_option maxHeartbeats 4000000 in
theorem maxFunc_any (w : World) (B gr c : Nat) (A : Option Addr) (acc : List Nat) (L : List Ch) (N : Nat) (hN : acc.length = N) (hN0 : 0 < N) (hNm : N ≤ 1000000) (hp : Rs (encP gr) 1 w B A acc) (hr : Rs encC 5 w w.heap.size (some ⟨gr, 0, none⟩) L)
    (hm : Hid (∀ i ∈ acc, i < L.length)) (hup : Hid (acc.Pairwise (· < ·))) :
    Calls Try.prog 24 #[.slice A N c, .func (.func 25) #[] #[]] w fun e w' => ∃ m, e = .returned (.pointer (some ⟨gr, m * 5, none⟩)) ∧ Hid (Mx L acc m ∧ m < L.length) ∧ ∃ n, w' = w.drewN n := by
  have eg : ∀ args w, (callFunc 25 args).run Try.prog w = .ok (.enter 25 args) w := enters_of Try.func25 (by kernel_rfl) rfl
  obtain ⟨b5, off5, rfl, hb5, q0⟩ := p_at hp (i := 0) (by omega)
  rw [Nat.add_zero] at q0
  have hm0 : Hid (Mx L (acc.take 1) acc[0]) := Lib.hid (by
    have : acc.take 1 = [acc[0]] := by
      cases acc with
      | nil => simp at hN; omega
      | cons x l => simp
    rw [this]; exact Mx.one _ _)
  have hml0 : acc[0] < L.length := hm.out _ (List.getElem_mem _)
  generalize acc[0] = m0 at q0 hm0 hml0
  have t0 : decide ((N : Int) < 1) = false := decide_eq_false (by omega)
  have t1 : decide (N < 1) = false := decide_eq_false (by omega)
  have HN := Lib.hid hN
  clear hN
  go_enter Try.func24, Try.ntmps24
  go_wp2
  go_loopw [5, 6] (fun v i wr => ∃ (t m : Nat), v = .pointer (some ⟨gr, m * 5, none⟩) ∧ i = .int .i64 t ∧ 1 ≤ t ∧ t ≤ N ∧ m < L.length ∧ Hid (Mx L (acc.take t) m) ∧ ∃ n, wr = w.drewN n) (fun _ i _ => N - (intOf i).toNat)
  case atStart => exact ⟨1, m0, rfl, rfl, by omega, by omega, hml0, hm0, 0, rfl⟩
  case round =>
    obtain ⟨t, m, rfl, rfl, ht1, htN, hmL, hmx, n, rfl⟩ := hrel
    have hlen := HN.out
    by_cases hlt : t < N
    · have hta : t < acc.length := by omega
      obtain ⟨_, _, e5, _, q1⟩ := p_at hp hta
      cases e5
      have htk : Hid (acc.take (t + 1) = acc.take t ++ [acc[t]]) := Lib.hid (by rw [List.take_add_one, List.getElem?_eq_getElem hta]; rfl)
      have hle : Hid (m ≤ acc[t]) := Lib.hid (by
        have h1 := hmx.out.1
        obtain ⟨j, hj, hj2⟩ := List.getElem_of_mem h1
        rw [List.getElem_take] at hj2
        rw [List.length_take] at hj
        have := List.pairwise_iff_getElem.1 hup.out j t (by omega) hta (by omega)
        omega)
      have hiL : acc[t] < L.length := hm.out _ (List.getElem_mem _)
      generalize acc[t] = i at q1 htk hle hiL
      obtain ⟨_, _, _, _, a3, _⟩ := c_row hr hiL
      obtain ⟨_, _, _, _, b3, _⟩ := c_row hr hmL
      have hcmp := fun q => cmp_creds gr i m L[i].cr L[m].cr (w.drewN q) a3 b3
      have ei : cre L i = L[i].cr := cre_of hiL
      have em : cre L m = L[m].cr := cre_of hmL
      clear hlen hta
      by_cases hgt : L[m].cr < L[i].cr
      · have hmx2 : Hid (Mx L (acc.take (t + 1)) i) := Lib.hid (by rw [htk.out]; exact hmx.out.more (by rw [ei, em]; exact hgt))
        rw [cmpI_gt hgt] at hcmp
        clear hgt ei em hmx htk hle a3 b3 q0
        go_wp2_with (go_at_fn 25; refine (hcmp _).mono ?_; rintro e w' ⟨rfl, nq, rfl⟩)
        go_roundw
        case rel => exact ⟨t + 1, i, rfl, by simp, by omega, hlt, hiL, hmx2, n + nq, rfl⟩
        case measure => simp [intOf]; omega
      · have hmx2 : Hid (Mx L (acc.take (t + 1)) m) := Lib.hid (by rw [htk.out]; exact hmx.out.less (by rw [ei, em]; exact hgt) hle.out)
        have hv := cmpI_le hgt
        generalize cmpI L[i].cr L[m].cr = V at hcmp hv
        have t2 : decide (0 < V) = false := decide_eq_false (by omega)
        clear hgt ei em hmx htk hle a3 b3 q0 hv
        go_wp2_with (go_at_fn 25; refine (hcmp _).mono ?_; rintro e w' ⟨rfl, nq, rfl⟩)
        go_roundw
        case rel => exact ⟨t + 1, m, rfl, by simp, by omega, hlt, hmL, hmx2, n + nq, rfl⟩
        case measure => simp [intOf]; omega
    · obtain rfl : t = N := by omega
      have hfin : Hid (Mx L acc m ∧ m < L.length) := Lib.hid ⟨by have := hmx.out; rwa [← hlen, List.take_length] at this, hmL⟩
      clear hlen
      go_wp2
      go_ret
      exact ⟨m, rfl, hfin, n, rfl⟩
end Go.Proofs.Ytpfhbojodapomaa.Mux
