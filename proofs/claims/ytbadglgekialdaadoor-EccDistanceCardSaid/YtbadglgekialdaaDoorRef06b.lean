/-
  The walks of the reference of layer 6: Encode.
-/
import Derived.Test.YtbadglgekialdaaDoorRef06
namespace Go.Proofs.YtbadglgekialdaaDoor.Ecc
open Go.RowKit

theorem shl_bit_u (b k : Nat) (hb : b < 2) (h : k < 40) : Op.shift .shl .u64 (b : Int) .u64 (k : Int) = pure (.int .u64 ((b * 2 ^ k : Nat) : Int)) := by
  have hp : 2 ^ k ≤ 2 ^ 40 := Nat.pow_le_pow_right (by decide) (by omega)
  have hm : b * 2 ^ k ≤ 1 * 2 ^ 40 := Nat.mul_le_mul (by omega) hp
  rw [shift_shl_any _ _ _ _ (Int.natCast_nonneg k), show min (k : Int).toNat IntKind.u64.bits = k from Nat.min_eq_left (by have : IntKind.u64.bits = 64 := rfl; omega)]
  have e : (b : Int) * 2 ^ k = ((b * 2 ^ k : Nat) : Int) := by simp
  have e2 : ((b * 2 ^ k : Nat) : Int) % 18446744073709551616 = ((b * 2 ^ k : Nat) : Int) := by
    clear e
    generalize b * 2 ^ k = m at hm ⊢
    omega
  rw [e, IntKind.wrap_u64, e2]
theorem tmod_pow (n i : Nat) : ((n : Int) / 2 ^ i).tmod 2 = ((n / 2 ^ i % 2 : Nat) : Int) := by
  have e : (n : Int) / 2 ^ i = ((n / 2 ^ i : Nat) : Int) := by rw [Int.natCast_ediv, Int.natCast_pow]; rfl
  rw [e]
  generalize n / 2 ^ i = q
  rw [Int.tmod_eq_emod_of_nonneg (Int.natCast_nonneg _)]
  omega
theorem rsp_lt (d : Nat) {n : Nat} (h : n ≤ 39) : rsp d n < 549755813888 :=
  Nat.lt_of_lt_of_le (rsp_X d n).2 (Nat.pow_le_pow_right (by decide) h)
theorem rsp_skip (d : Nat) {n : Nat} (h : ck n = true) : rsp d (n + 1) = rsp d n ∧ kk (n + 1) = kk n := by
  constructor
  · show (if ck n = true then rsp d n else rsp d n + (d / 2 ^ kk n % 2) * 2 ^ n) = _
    rw [if_pos h]
  · show (if ck n = true then kk n else kk n + 1) = _
    rw [if_pos h]
theorem rsp_take (d : Nat) {n : Nat} (h : ck n = false) : rsp d (n + 1) = rsp d n + (d / 2 ^ kk n % 2) * 2 ^ n ∧ kk (n + 1) = kk n + 1 := by
  constructor
  · show (if ck n = true then rsp d n else rsp d n + (d / 2 ^ kk n % 2) * 2 ^ n) = _
    rw [if_neg (by rw [h]; decide)]
  · show (if ck n = true then kk n else kk n + 1) = _
    rw [if_neg (by rw [h]; decide)]
theorem rck_yes (w s k : Nat) (h : s / 2 ^ k % 2 = 1) : rck w s (k + 1) = rck w s k + 2 ^ (2 ^ k) := by
  show (if s / 2 ^ k % 2 = 1 then rck w s k + 2 ^ (2 ^ k) else rck w s k) = _
  rw [if_pos h]
theorem rck_no (w s k : Nat) (h : ¬ s / 2 ^ k % 2 = 1) : rck w s (k + 1) = rck w s k := by
  show (if s / 2 ^ k % 2 = 1 then rck w s k + 2 ^ (2 ^ k) else rck w s k) = _
  rw [if_neg h]
theorem rck_le (w s B : Nat) : ∀ k, (∀ i, i < k → 2 ^ (2 ^ i) ≤ B) → rck w s k ≤ w + k * B
  | 0, _ => Nat.le_add_right _ _
  | k + 1, h => by
    have ih := rck_le w s B k fun i hi => h i (by omega)
    have h2 : 2 ^ (2 ^ k) ≤ B := h k (by omega)
    rw [Nat.succ_mul]
    by_cases e : s / 2 ^ k % 2 = 1
    · rw [rck_yes w s k e]
      clear e h
      generalize 2 ^ (2 ^ k) = m at h2 ⊢
      generalize k * B = c at ih ⊢
      omega
    · rw [rck_no w s k e]
      clear e h h2
      generalize k * B = c at ih ⊢
      omega

set_option maxHeartbeats 3200000 in
theorem rencode_any (d : Nat) (h : d < 4294967296) (w : World) :
    Calls Tryd.prog 12 #[.int .u32 (d : Int)] w fun e w' => e = .returned (.int .u64 ((enc d : Nat) : Int)) ∧ w = w' := by
  have hsy := fun w => rsyndrome_any (rsp d 39) (by have := rsp_lt d (n := 39) (by decide); omega) w
  have hlt := rsp_lt d (n := 39) (by decide)
  have hck := rck_enc d h
  have hea := encA_lt d h
  have hpa := fun w => rparity_any (encA d) (by omega) w
  have hj := (par_join (encA d) (encA_even d h) (par (encA d)) (par_lt _)).2
  have hpl := par_lt (encA d)
  have hrs := rsp_spr d h
  rw [← hrs] at hck
  obtain ⟨p, hp⟩ : ∃ p, p = rsp d 39 := ⟨_, rfl⟩
  rw [← hp] at hsy hck hlt
  obtain ⟨s, hs⟩ : ∃ s, s = syn p := ⟨_, rfl⟩
  have hs64 : s < 64 := by rw [hs]; exact syn_lt p
  rw [← hs] at hsy hck
  have y0 : s / 1 % 2 = 1 → rck p s 1 = rck p s 0 + 2 := rck_yes p s 0
  have z0 : ¬ s / 1 % 2 = 1 → rck p s 1 = rck p s 0 := rck_no p s 0
  have l0 := rck_le p s 4294967296 0 (by decide +kernel)
  have y1 : s / 2 % 2 = 1 → rck p s 2 = rck p s 1 + 4 := rck_yes p s 1
  have z1 : ¬ s / 2 % 2 = 1 → rck p s 2 = rck p s 1 := rck_no p s 1
  have l1 := rck_le p s 4294967296 1 (by decide +kernel)
  have y2 : s / 4 % 2 = 1 → rck p s 3 = rck p s 2 + 16 := rck_yes p s 2
  have z2 : ¬ s / 4 % 2 = 1 → rck p s 3 = rck p s 2 := rck_no p s 2
  have l2 := rck_le p s 4294967296 2 (by decide +kernel)
  have y3 : s / 8 % 2 = 1 → rck p s 4 = rck p s 3 + 256 := rck_yes p s 3
  have z3 : ¬ s / 8 % 2 = 1 → rck p s 4 = rck p s 3 := rck_no p s 3
  have l3 := rck_le p s 4294967296 3 (by decide +kernel)
  have y4 : s / 16 % 2 = 1 → rck p s 5 = rck p s 4 + 65536 := rck_yes p s 4
  have z4 : ¬ s / 16 % 2 = 1 → rck p s 5 = rck p s 4 := rck_no p s 4
  have l4 := rck_le p s 4294967296 4 (by decide +kernel)
  have y5 : s / 32 % 2 = 1 → rck p s 6 = rck p s 5 + 4294967296 := rck_yes p s 5
  have z5 : ¬ s / 32 % 2 = 1 → rck p s 6 = rck p s 5 := rck_no p s 5
  have l5 := rck_le p s 4294967296 5 (by decide +kernel)
  rw [show rck p s 0 = p from rfl] at y0 z0 l0
  obtain ⟨c1, h1⟩ : ∃ c, c = rck p s 1 := ⟨_, rfl⟩
  obtain ⟨c2, h2⟩ : ∃ c, c = rck p s 2 := ⟨_, rfl⟩
  obtain ⟨c3, h3⟩ : ∃ c, c = rck p s 3 := ⟨_, rfl⟩
  obtain ⟨c4, h4⟩ : ∃ c, c = rck p s 4 := ⟨_, rfl⟩
  obtain ⟨c5, h5⟩ : ∃ c, c = rck p s 5 := ⟨_, rfl⟩
  obtain ⟨c6, h6⟩ : ∃ c, c = rck p s 6 := ⟨_, rfl⟩
  rw [← h1] at y0 z0
  rw [← h2, ← h1] at y1 z1
  rw [← h3, ← h2] at y2 z2
  rw [← h4, ← h3] at y3 z3
  rw [← h5, ← h4] at y4 z4
  rw [← h6, ← h5] at y5 z5
  rw [← h1] at l1
  rw [← h2] at l2
  rw [← h3] at l3
  rw [← h4] at l4
  rw [← h5] at l5
  rw [← h6] at hck
  rw [← hck] at hpa hpl hj hea
  have he : c6 + par c6 = enc d := by
    rw [hj, hck]
    rfl
  obtain ⟨q, hq⟩ : ∃ q, q = par c6 := ⟨_, rfl⟩
  rw [← hq] at hpa hpl he
  obtain ⟨x, hx⟩ : ∃ x, x = enc d := ⟨_, rfl⟩
  rw [← hx] at he ⊢
  have Y0 := Lib.hid y0
  have Z0 := Lib.hid z0
  have Y1 := Lib.hid y1
  have Z1 := Lib.hid z1
  have Y2 := Lib.hid y2
  have Z2 := Lib.hid z2
  have Y3 := Lib.hid y3
  have Z3 := Lib.hid z3
  have Y4 := Lib.hid y4
  have Z4 := Lib.hid z4
  have Y5 := Lib.hid y5
  have Z5 := Lib.hid z5
  have HSY := Lib.hid hsy
  have HPA := Lib.hid hpa
  have HP := Lib.hid hp
  have HE := Lib.hid he
  clear hsy hs hp he hpa hq hx hck hj hrs h1 h2 h3 h4 h5 h6 y0 z0 y1 z1 y2 z2 y3 z3 y4 z4 y5 z5
  go_enter Tryd.func12, Tryd.ntmps12
  go_wp2
  go_loop [3, 4, 5] (fun v k i => ∃ n : Nat, 3 ≤ n ∧ n ≤ 39 ∧ i = .int .i64 n ∧ k = .int .i64 (kk n : Nat) ∧ v = .int .u64 (rsp d n : Nat)) (fun _ _ i => 39 - (intOf i).toNat)
  case atStart => exact ⟨3, by decide, by decide, rfl, rfl, rfl⟩
  case round =>
    obtain ⟨n, hn3, hn, rfl, rfl, rfl⟩ := hrel
    by_cases hlt9 : n < 39
    · have hc := fun w => rcheck_any n (by omega) w
      have hkl : kk n ≤ 32 := kk_le n (by omega)
      cases hck : ck n with
      | true =>
        rw [hck] at hc
        obtain ⟨e1, e2⟩ := rsp_skip d hck
        obtain ⟨v, hv⟩ : ∃ v, v = rsp d n := ⟨_, rfl⟩
        obtain ⟨K, hK⟩ : ∃ K, K = kk n := ⟨_, rfl⟩
        rw [← hv] at e1 ⊢
        rw [← hK] at e2 hkl ⊢
        have HC := Lib.hid hc
        have H1 := Lib.hid e1
        have H2 := Lib.hid e2
        clear hc e1 e2 hv hK hck
        go_wp2_with fail
        refine (HC.out _).mono ?_
        rintro e w' ⟨rfl, rfl⟩
        go_wp2
        go_round
        case rel => exact ⟨n + 1, by omega, by omega, by go_num, ecc_val (by rw [H2.out]), ecc_val (by rw [H1.out])⟩
        case measure => simp [intOf]; omega
      | false =>
        rw [hck] at hc
        obtain ⟨e1, e2⟩ := rsp_take d hck
        have hl1 := rsp_lt d (n := n + 1) (by omega)
        rw [e1] at hl1
        obtain ⟨v, hv⟩ : ∃ v, v = rsp d n := ⟨_, rfl⟩
        obtain ⟨K, hK⟩ : ∃ K, K = kk n := ⟨_, rfl⟩
        rw [← hv] at e1 hl1 ⊢
        rw [← hK] at e1 e2 hkl hl1 ⊢
        have hb2 : d / 2 ^ K % 2 < 2 := Nat.mod_lt _ (by decide)
        have hbm := tmod_pow d K
        obtain ⟨b, hb⟩ : ∃ b, b = d / 2 ^ K % 2 := ⟨_, rfl⟩
        rw [← hb] at e1 hb2 hbm hl1
        obtain ⟨m, hm⟩ : ∃ m, m = b * 2 ^ n := ⟨_, rfl⟩
        rw [← hm] at e1 hl1
        have hsh : IntKind.u64.wrap ((b : Int) * 2 ^ n) = (m : Int) := by
          rw [show (b : Int) * 2 ^ n = (m : Int) by rw [hm]; simp, IntKind.wrap_u64]
          omega
        have hw1 : IntKind.u64.wrap (n : Int) = (n : Int) := by rw [IntKind.wrap_u64]; omega
        have HC := Lib.hid hc
        have H1 := Lib.hid e1
        have H2 := Lib.hid e2
        have HN3 := Lib.hid hn3
        have HN := Lib.hid hlt9
        have HN9 := Lib.hid hn
        have tlt : decide ((n : Int) < 39) = true := by simp; omega
        have tlt2 : decide (n < 39) = true := by simp; omega
        clear hc e1 e2 hv hK hck hb hm
        go_wp2_with fail
        refine (HC.out _).mono ?_
        rintro e w' ⟨rfl, rfl⟩
        go_wp2
        go_round
        case rel => exact ⟨n + 1, by have := HN3.out; omega, by have := HN.out; omega, by go_num, ecc_val (by rw [H2.out]; omega), ecc_val (by rw [H1.out]; first | omega | (rw [IntKind.wrap_u64]; omega))⟩
        case measure =>
          have := HN.out
          simp [intOf]
          omega
    · obtain rfl : n = 39 := by omega
      rw [← HP.out]
      go_wp2_with fail
      refine (HSY.out _).mono ?_
      rintro e w' ⟨rfl, rfl⟩
      go_wp2
      go_loop [3, 7] (fun c i => (i = .int .i64 0 ∧ c = .int .u64 p) ∨ (i = .int .i64 1 ∧ c = .int .u64 c1) ∨ (i = .int .i64 2 ∧ c = .int .u64 c2) ∨ (i = .int .i64 3 ∧ c = .int .u64 c3) ∨ (i = .int .i64 4 ∧ c = .int .u64 c4) ∨ (i = .int .i64 5 ∧ c = .int .u64 c5) ∨ (i = .int .i64 6 ∧ c = .int .u64 c6)) (fun _ i => 6 - (intOf i).toNat)
      case atStart => exact .inl ⟨rfl, rfl⟩
      case round =>
        rcases hrel with ⟨rfl, rfl⟩ | ⟨rfl, rfl⟩ | ⟨rfl, rfl⟩ | ⟨rfl, rfl⟩ | ⟨rfl, rfl⟩ | ⟨rfl, rfl⟩ | ⟨rfl, rfl⟩
        · by_cases hb : s / 1 % 2 = 1
          · have e := Y0.out hb
            go_wp2
            go_round
            case rel => exact .inr (.inl ⟨rfl, ecc_val (by omega)⟩)
            case measure => simp [intOf]
          · have e := Z0.out hb
            go_wp2
            go_round
            case rel => exact .inr (.inl ⟨rfl, ecc_val (by omega)⟩)
            case measure => simp [intOf]
        · by_cases hb : s / 2 % 2 = 1
          · have e := Y1.out hb
            go_wp2
            go_round
            case rel => exact .inr (.inr (.inl ⟨rfl, ecc_val (by omega)⟩))
            case measure => simp [intOf]
          · have e := Z1.out hb
            go_wp2
            go_round
            case rel => exact .inr (.inr (.inl ⟨rfl, ecc_val (by omega)⟩))
            case measure => simp [intOf]
        · by_cases hb : s / 4 % 2 = 1
          · have e := Y2.out hb
            go_wp2
            go_round
            case rel => exact .inr (.inr (.inr (.inl ⟨rfl, ecc_val (by omega)⟩)))
            case measure => simp [intOf]
          · have e := Z2.out hb
            go_wp2
            go_round
            case rel => exact .inr (.inr (.inr (.inl ⟨rfl, ecc_val (by omega)⟩)))
            case measure => simp [intOf]
        · by_cases hb : s / 8 % 2 = 1
          · have e := Y3.out hb
            go_wp2
            go_round
            case rel => exact .inr (.inr (.inr (.inr (.inl ⟨rfl, ecc_val (by omega)⟩))))
            case measure => simp [intOf]
          · have e := Z3.out hb
            go_wp2
            go_round
            case rel => exact .inr (.inr (.inr (.inr (.inl ⟨rfl, ecc_val (by omega)⟩))))
            case measure => simp [intOf]
        · by_cases hb : s / 16 % 2 = 1
          · have e := Y4.out hb
            go_wp2
            go_round
            case rel => exact .inr (.inr (.inr (.inr (.inr (.inl ⟨rfl, ecc_val (by omega)⟩)))))
            case measure => simp [intOf]
          · have e := Z4.out hb
            go_wp2
            go_round
            case rel => exact .inr (.inr (.inr (.inr (.inr (.inl ⟨rfl, ecc_val (by omega)⟩)))))
            case measure => simp [intOf]
        · by_cases hb : s / 32 % 2 = 1
          · have e := Y5.out hb
            go_wp2
            go_round
            case rel => exact .inr (.inr (.inr (.inr (.inr (.inr ⟨rfl, ecc_val (by omega)⟩)))))
            case measure => simp [intOf]
          · have e := Z5.out hb
            go_wp2
            go_round
            case rel => exact .inr (.inr (.inr (.inr (.inr (.inr ⟨rfl, ecc_val (by omega)⟩)))))
            case measure => simp [intOf]
        · go_wp2_with fail
          refine (HPA.out _).mono ?_
          rintro e w' ⟨rfl, rfl⟩
          go_wp2
          go_ret
          exact ⟨ecc_ret (by have := HE.out; omega), rfl⟩
end Go.Proofs.YtbadglgekialdaaDoor.Ecc
