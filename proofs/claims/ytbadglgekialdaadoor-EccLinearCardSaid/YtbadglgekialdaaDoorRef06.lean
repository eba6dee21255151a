/-
  The walks of the reference of layer 6: bit, check, Syndrome, Parity, Ones, Flip.
-/
import Derived.Test.YtbadglgekialdaaDoorEccW4
namespace Go.Proofs.YtbadglgekialdaaDoor.Ecc
open Go.RowKit

theorem div_pow (n i : Nat) : wrap64 (((n : Int) / 2 ^ i).tmod 2) = ((n / 2 ^ i % 2 : Nat) : Int) := by
  have e : (n : Int) / 2 ^ i = ((n / 2 ^ i : Nat) : Int) := by rw [Int.natCast_ediv, Int.natCast_pow]; rfl
  rw [e]
  generalize n / 2 ^ i = q
  rw [Int.tmod_eq_emod_of_nonneg (Int.natCast_nonneg _)]
  unfold wrap64
  omega
theorem bit_one {n i : Nat} (h : n.testBit i = true) : n / 2 ^ i % 2 = 1 := by rw [← Nat.toNat_testBit, h]; rfl
theorem bit_not {n i : Nat} (h : n.testBit i = false) : n / 2 ^ i % 2 = 0 := by rw [← Nat.toNat_testBit, h]; rfl

set_option maxHeartbeats 400000 in
theorem rbit_any (n i : Nat) (_h : n < 18446744073709551616) (hi : i < 64) (w : World) :
    Calls Tryd.prog 29 #[.int .u64 (n : Int), .int .i64 (i : Int)] w fun e w' => e = .returned (.int .i64 ((n / 2 ^ i % 2 : Nat) : Int)) ∧ w = w' := by
  go_enter Tryd.func29, Tryd.ntmps29
  go_wp2
  go_ret
  exact ⟨ecc_ret (div_pow n i), rfl⟩

set_option maxHeartbeats 800000 in
theorem rcheck_any (i : Nat) (hi : i < 64) (w : World) :
    Calls Tryd.prog 25 #[.int .i64 (i : Int)] w fun e w' => e = .returned (.bool (ck i)) ∧ w = w' := by
  go_enter Tryd.func25, Tryd.ntmps25
  go_wp2
  all_goals
    go_ret
    refine ⟨ecc_bool ?_, rfl⟩
    unfold ck
    rw [Bool.eq_iff_iff]
    first
      | (simp; omega)
      | simp

set_option maxHeartbeats 800000 in
theorem rsyndrome_any (n : Nat) (h : n < 18446744073709551616) (w : World) :
    Calls Tryd.prog 17 #[.int .u64 (n : Int)] w fun e w' => e = .returned (.int .i64 ((syn n : Nat) : Int)) ∧ w = w' := by
  have hx1 : xs (fun i => i) n 1 = 0 := by unfold xs xs; split <;> rfl
  go_enter Tryd.func17, Tryd.ntmps17
  go_wp2
  go_loop [3, 4] (fun s i => ∃ k : Nat, 1 ≤ k ∧ k ≤ 39 ∧ i = .int .i64 k ∧ s = .int .i64 (xs (fun i => i) n k : Nat)) (fun _ i => 39 - (intOf i).toNat)
  case atStart => exact ⟨1, by decide, by decide, rfl, ecc_val (by rw [hx1]; rfl)⟩
  case round =>
    obtain ⟨k, hk1, hk, rfl, rfl⟩ := hrel
    by_cases hlt : k < 39
    · have hb := fun w => rbit_any n k h (by omega) w
      have hl : xs (fun i => i) n k < 64 := xs_lt _ 6 n k (fun i hi => by
        show i < 64
        omega)
      cases ht : n.testBit k with
      | true =>
        rw [bit_one ht] at hb
        have e : xs (fun i => i) n (k + 1) = xs (fun i => i) n k ^^^ k := by
          show (if n.testBit k then xs (fun i => i) n k ^^^ k else xs (fun i => i) n k) = _
          rw [if_pos ht]
        obtain ⟨s, hs⟩ : ∃ s, s = xs (fun i => i) n k := ⟨_, rfl⟩
        rw [← hs] at e hl ⊢
        have k1 := i64_xor_nat s k (by omega) (by omega)
        have HE := Lib.hid e
        have HB := Lib.hid hb
        obtain ⟨x, hx⟩ : ∃ x, x = s ^^^ k := ⟨_, rfl⟩
        have HX := Lib.hid hx
        rw [← hx] at k1
        clear e hb hs hx hx1 ht
        go_wp2_with fail
        refine (HB.out _).mono ?_
        rintro e w' ⟨rfl, rfl⟩
        go_wp2
        go_round
        case rel => exact ⟨k + 1, by omega, by omega, by go_num, ecc_val (by rw [HE.out, HX.out])⟩
        case measure => simp [intOf]; omega
      | false =>
        rw [bit_not ht] at hb
        have e : xs (fun i => i) n (k + 1) = xs (fun i => i) n k := by
          show (if n.testBit k then xs (fun i => i) n k ^^^ k else xs (fun i => i) n k) = _
          rw [if_neg (by rw [ht]; decide)]
        obtain ⟨s, hs⟩ : ∃ s, s = xs (fun i => i) n k := ⟨_, rfl⟩
        rw [← hs] at e hl ⊢
        have HE := Lib.hid e
        have HB := Lib.hid hb
        clear e hb hs hx1 ht
        go_wp2_with fail
        refine (HB.out _).mono ?_
        rintro e w' ⟨rfl, rfl⟩
        go_wp2
        go_round
        case rel => exact ⟨k + 1, by omega, by omega, by go_num, ecc_val (by rw [HE.out])⟩
        case measure => simp [intOf]; omega
    · obtain rfl : k = 39 := by omega
      go_wp2
      go_ret
      exact ⟨rfl, rfl⟩

set_option maxHeartbeats 800000 in
theorem rparity_any (n : Nat) (h : n < 18446744073709551616) (w : World) :
    Calls Tryd.prog 26 #[.int .u64 (n : Int)] w fun e w' => e = .returned (.int .i64 ((par n : Nat) : Int)) ∧ w = w' := by
  go_enter Tryd.func26, Tryd.ntmps26
  go_wp2
  go_loop [3, 4] (fun s i => ∃ k : Nat, k ≤ 39 ∧ i = .int .i64 k ∧ s = .int .i64 (xs (fun _ => 1) n k : Nat)) (fun _ i => 39 - (intOf i).toNat)
  case atStart => exact ⟨0, by decide, rfl, rfl⟩
  case round =>
    obtain ⟨k, hk, rfl, rfl⟩ := hrel
    by_cases hlt : k < 39
    · have hb := fun w => rbit_any n k h (by omega) w
      have hl : xs (fun _ => 1) n k < 2 := xs_lt _ 1 n k (fun _ _ => by decide)
      have hb2 : n / 2 ^ k % 2 < 2 := Nat.mod_lt _ (by decide)
      have e : xs (fun _ => 1) n (k + 1) = xs (fun _ => 1) n k ^^^ (n / 2 ^ k % 2) := by
        show (if n.testBit k then xs (fun _ => 1) n k ^^^ 1 else xs (fun _ => 1) n k) = _
        cases ht : n.testBit k with
        | true => rw [bit_one ht]; rfl
        | false => rw [bit_not ht, Nat.xor_zero]; rfl
      obtain ⟨b, hbb⟩ : ∃ b, b = n / 2 ^ k % 2 := ⟨_, rfl⟩
      rw [← hbb] at e hb hb2
      obtain ⟨s, hs⟩ : ∃ s, s = xs (fun _ => 1) n k := ⟨_, rfl⟩
      rw [← hs] at e hl ⊢
      have k1 := i64_xor_nat s b (by omega) (by omega)
      have HE := Lib.hid e
      have HB := Lib.hid hb
      obtain ⟨x, hx⟩ : ∃ x, x = s ^^^ b := ⟨_, rfl⟩
      have HX := Lib.hid hx
      rw [← hx] at k1
      clear e hb hs hx hbb
      go_wp2_with fail
      refine (HB.out _).mono ?_
      rintro e w' ⟨rfl, rfl⟩
      go_wp2
      go_round
      case rel => exact ⟨k + 1, by omega, by go_num, ecc_val (by rw [HE.out, HX.out])⟩
      case measure => simp [intOf]; omega
    · obtain rfl : k = 39 := by omega
      go_wp2
      go_ret
      exact ⟨rfl, rfl⟩

set_option maxHeartbeats 800000 in
theorem rones_any (n : Nat) (h : n < 18446744073709551616) (w : World) :
    Calls Tryd.prog 20 #[.int .u64 (n : Int)] w fun e w' => e = .returned (.int .i64 ((pop n 64 : Nat) : Int)) ∧ w = w' := by
  go_enter Tryd.func20, Tryd.ntmps20
  go_wp2
  go_loop [3, 4] (fun s i => ∃ k : Nat, k ≤ 64 ∧ i = .int .i64 k ∧ s = .int .i64 (pop n k : Nat)) (fun _ i => 64 - (intOf i).toNat)
  case atStart => exact ⟨0, by decide, rfl, rfl⟩
  case round =>
    obtain ⟨k, hk, rfl, rfl⟩ := hrel
    by_cases hlt : k < 64
    · have hb := fun w => rbit_any n k h (by omega) w
      have hl := pop_le n k
      have hb2 : n / 2 ^ k % 2 < 2 := Nat.mod_lt _ (by decide)
      have e : pop n (k + 1) = pop n k + (n / 2 ^ k % 2) := by
        show pop n k + (n.testBit k).toNat = _
        rw [Nat.toNat_testBit]
      obtain ⟨b, hbb⟩ : ∃ b, b = n / 2 ^ k % 2 := ⟨_, rfl⟩
      rw [← hbb] at e hb hb2
      obtain ⟨s, hs⟩ : ∃ s, s = pop n k := ⟨_, rfl⟩
      rw [← hs] at e hl ⊢
      have HE := Lib.hid e
      have HB := Lib.hid hb
      clear e hb hs hbb
      go_wp2_with fail
      refine (HB.out _).mono ?_
      rintro e w' ⟨rfl, rfl⟩
      go_wp2
      go_round
      case rel => exact ⟨k + 1, by omega, by go_num, ecc_val (by have := HE.out; omega)⟩
      case measure => simp [intOf]; omega
    · obtain rfl : k = 64 := by omega
      go_wp2
      go_ret
      exact ⟨rfl, rfl⟩

theorem shl_one_u (k : Nat) (h : k < 64) : Op.shift .shl .u64 1 .u64 (k : Int) = pure (.int .u64 ((2 ^ k : Nat) : Int)) := by
  have hp : 2 ^ k < 2 ^ 64 := Nat.pow_lt_pow_right (by decide) h
  rw [shift_shl_any _ _ _ _ (Int.natCast_nonneg k), show min (k : Int).toNat IntKind.u64.bits = k from Nat.min_eq_left (by have : IntKind.u64.bits = 64 := rfl; omega)]
  have e : (1 : Int) * 2 ^ k = ((2 ^ k : Nat) : Int) := by rw [Int.one_mul, Int.natCast_pow]; rfl
  have e2 : ((2 ^ k : Nat) : Int) % 18446744073709551616 = ((2 ^ k : Nat) : Int) := by
    clear e
    generalize 2 ^ k = m at hp ⊢
    omega
  rw [e, IntKind.wrap_u64, e2]

set_option maxHeartbeats 400000 in
theorem rflip_any (n : Nat) (b : Int) (h : n < 18446744073709551616) (w : World) :
    Calls Tryd.prog 19 #[.int .u64 (n : Int), .int .i64 b] w fun e w' => e = .returned (.int .u64 ((flp n b : Nat) : Int)) ∧ w = w' := by
  by_cases h0 : 0 ≤ b
  · by_cases h1 : b < 39
    · obtain ⟨k, rfl⟩ := Int.eq_ofNat_of_zero_le h0
      have hk : k < 39 := by omega
      have hs := shl_one_u k (by omega)
      have hp : 2 ^ k < 2 ^ 64 := Nat.pow_lt_pow_right (by decide) (by omega)
      have hx := u64_xor_nat n (2 ^ k) h hp
      rw [flp_in n k hk]
      have hc : IntKind.u64.wrap (k : Int) = (k : Int) := by rw [IntKind.wrap_u64]; omega
      have t1 : decide ((k : Int) < 0) = false := by simp
      have t2 : decide ((38 : Int) < (k : Int)) = false := by simp; omega
      have t3 : decide (38 < k) = false := by simp; omega
      obtain ⟨m, hm⟩ : ∃ m, m = 2 ^ k := ⟨_, rfl⟩
      rw [← hm] at hs hx ⊢
      obtain ⟨x, hxx⟩ : ∃ x, x = n ^^^ m := ⟨_, rfl⟩
      rw [← hxx] at hx ⊢
      clear h0 h1 hk hp hm hxx h
      go_enter Tryd.func19, Tryd.ntmps19
      go_wp2
      go_ret
      exact ⟨rfl, rfl⟩
    · rw [flp_out n b (by omega)]
      have t1 : decide (b < 0) = false := by simp; omega
      have t2 : decide (38 < b) = true := by simp; omega
      clear h0 h1
      go_enter Tryd.func19, Tryd.ntmps19
      go_wp2
      go_ret
      exact ⟨rfl, rfl⟩
  · rw [flp_out n b (by omega)]
    have t1 : decide (b < 0) = true := by simp; omega
    clear h0
    go_enter Tryd.func19, Tryd.ntmps19
    go_wp2
    go_ret
    exact ⟨rfl, rfl⟩
end Go.Proofs.YtbadglgekialdaaDoor.Ecc
