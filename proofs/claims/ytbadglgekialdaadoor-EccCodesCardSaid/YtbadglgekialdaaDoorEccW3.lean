/-
  The walks of package ecc's Encode, Repair and Decode.
-/
import Derived.Test.YtbadglgekialdaaDoorEccW2
import Derived.Deep.Draws
namespace Go.Proofs.YtbadglgekialdaaDoor.Ecc
open Go.RowKit

/-- what a call leaves that only draws -/
def Dn (w w' : World) : Prop := ∃ n, w' = w.drewN n
theorem Dn.refl (w : World) : Dn w w := ⟨0, rfl⟩
theorem Dn.draw {w w' : World} (h : Dn w w') (n : Nat) : Dn w (w'.drewN n) := by
  obtain ⟨m, rfl⟩ := h
  exact ⟨m + n, by rw [World.drewN_drewN]⟩
theorem Dn.tabs {w w' : World} (h : Dn w w') (t : Tabs w) : Tabs w' := by
  obtain ⟨m, rfl⟩ := h
  exact ⟨t.runs, t.tab⟩
theorem Dn.trans {a b c : World} (h : Dn a b) (k : Dn b c) : Dn a c := by
  obtain ⟨m, rfl⟩ := k
  exact h.draw m
theorem Dn.below {w w' : World} (h : Dn w w') (B : Nat) : Below B w w' := by
  obtain ⟨m, rfl⟩ := h
  exact ⟨rfl, rfl, rfl, Nat.le_refl _, fun _ _ => rfl⟩

theorem chk_lt (w s : Nat) (h : w < 18446744073709551616) : ∀ k, k < 7 → chk w s k < 18446744073709551616
  | 0, _ => h
  | k + 1, hk => by
    have ih := chk_lt w s h k (by omega)
    refine Nat.or_lt_two_pow (n := 64) ih ?_
    have h1 : 2 ^ k ≤ 2 ^ 5 := Nat.pow_le_pow_right (by decide) (by omega)
    have h2 : 2 ^ (2 ^ k) ≤ 2 ^ 32 := Nat.pow_le_pow_right (by decide) (by omega)
    have h3 : s / 2 ^ k % 2 * 2 ^ (2 ^ k) ≤ 1 * 2 ^ 32 := Nat.mul_le_mul (by omega) h2
    exact Nat.lt_of_le_of_lt h3 (by decide)
theorem chk_word (w s : Nat) (h : w < 18446744073709551616) (hs : s < 64) (k : Nat) (hk : k < 6) (A Q : Int) (hA : A = ((s / 2 ^ k : Nat) : Int)) (hQ : (IntKind.u64.wrap Q).toNat = 2 ^ k) :
    bits .or .u64 ((chk w s k : Nat) : Int) (IntKind.u64.wrap (IntKind.u64.wrap (bits .and .i64 A 1) * 2 ^ min (IntKind.u64.wrap Q).toNat 64)) = ((chk w s (k + 1) : Nat) : Int) := by
  have h1 : 2 ^ k ≤ 2 ^ 5 := Nat.pow_le_pow_right (by decide) (by omega)
  have h2 : 2 ^ (2 ^ k) ≤ 2 ^ 32 := Nat.pow_le_pow_right (by decide) (by omega)
  have hl : s / 2 ^ k % 2 * 2 ^ (2 ^ k) < 18446744073709551616 := by
    have h3 : s / 2 ^ k % 2 * 2 ^ (2 ^ k) ≤ 1 * 2 ^ 32 := Nat.mul_le_mul (by omega) h2
    exact Nat.lt_of_le_of_lt h3 (by decide)
  have hd : s / 2 ^ k < 64 := Nat.lt_of_le_of_lt (Nat.div_le_self _ _) hs
  have e1 : bits .and .i64 A 1 = ((s / 2 ^ k % 2 : Nat) : Int) := by
    rw [hA, show (1 : Int) = ((1 : Nat) : Int) from rfl, i64_and_nat _ _ (by omega) (by decide), nat_mask1]
  have e2 : IntKind.u64.wrap ((s / 2 ^ k % 2 : Nat) : Int) = ((s / 2 ^ k % 2 : Nat) : Int) := by
    rw [IntKind.wrap_u64]
    omega
  have e3 : ((s / 2 ^ k % 2 : Nat) : Int) * 2 ^ (2 ^ k) = ((s / 2 ^ k % 2 * 2 ^ (2 ^ k) : Nat) : Int) := by simp
  have e4 : IntKind.u64.wrap ((s / 2 ^ k % 2 * 2 ^ (2 ^ k) : Nat) : Int) = ((s / 2 ^ k % 2 * 2 ^ (2 ^ k) : Nat) : Int) := by
    rw [IntKind.wrap_u64]
    generalize s / 2 ^ k % 2 * 2 ^ (2 ^ k) = m at hl ⊢
    omega
  rw [e1, e2, hQ, Nat.min_eq_left (by omega), e3, e4, u64_or_nat _ _ (chk_lt w s h k (by omega)) hl]
  rfl

set_option maxHeartbeats 1600000 in
theorem encode_any (d : Nat) (h : d < 4294967296) (w : World) (hT : Tabs w) :
    Calls Tryd.prog 9 #[.int .u32 (d : Int)] w fun e w' => e = .returned (.int .u64 ((enc d : Nat) : Int)) ∧ Dn w w' := by
  have hsp := fun w hT => spread_any d h w hT
  have hlt : sprL d < 18446744073709551616 := by
    have e := sprL_lt d h
    have : sprL d % 2 ^ 39 < 2 ^ 39 := Nat.mod_lt _ (by decide)
    rw [e] at this
    omega
  have hsy := fun w hT => syndrome_any (sprL d) hlt w hT
  have hck := chk_enc d h
  have hea := encA_lt d h
  have hpa := fun w => parity_any (encA d) (by omega) w
  have hs64 := syn_lt (sprL d)
  have hj := (par_join (encA d) (encA_even d h) (par (encA d)) (par_lt _)).1
  have hpl := par_lt (encA d)
  obtain ⟨p, hp⟩ : ∃ p, p = sprL d := ⟨_, rfl⟩
  rw [← hp] at hsp hsy hck hs64 hlt
  obtain ⟨s, hs⟩ : ∃ s, s = syn p := ⟨_, rfl⟩
  rw [← hs] at hsy hck hs64
  have p0 := fun A hA => chk_word p s hlt hs64 0 (by decide) A 1 hA (by decide +kernel)
  have p1 := fun A hA => chk_word p s hlt hs64 1 (by decide) A 2 hA (by decide +kernel)
  have p2 := fun A hA => chk_word p s hlt hs64 2 (by decide) A 4 hA (by decide +kernel)
  have p3 := fun A hA => chk_word p s hlt hs64 3 (by decide) A 8 hA (by decide +kernel)
  have p4 := fun A hA => chk_word p s hlt hs64 4 (by decide) A 16 hA (by decide +kernel)
  have p5 := fun A hA => chk_word p s hlt hs64 5 (by decide) A 32 hA (by decide +kernel)
  rw [show chk p s 0 = p from rfl] at p0
  obtain ⟨c1, h1⟩ : ∃ c, c = chk p s 1 := ⟨_, rfl⟩
  obtain ⟨c2, h2⟩ : ∃ c, c = chk p s 2 := ⟨_, rfl⟩
  obtain ⟨c3, h3⟩ : ∃ c, c = chk p s 3 := ⟨_, rfl⟩
  obtain ⟨c4, h4⟩ : ∃ c, c = chk p s 4 := ⟨_, rfl⟩
  obtain ⟨c5, h5⟩ : ∃ c, c = chk p s 5 := ⟨_, rfl⟩
  obtain ⟨c6, h6⟩ : ∃ c, c = chk p s 6 := ⟨_, rfl⟩
  simp only [← h1, Nat.reduceAdd] at p0
  simp only [← h2, Nat.reduceAdd, ← h1] at p1
  simp only [← h3, Nat.reduceAdd, ← h2] at p2
  simp only [← h4, Nat.reduceAdd, ← h3] at p3
  simp only [← h5, Nat.reduceAdd, ← h4] at p4
  simp only [← h6, Nat.reduceAdd, ← h5] at p5
  rw [← h6] at hck
  have he : c6 ||| par (encA d) = enc d := by rw [hck]; exact hj
  rw [← hck] at hpa hpl he hea
  obtain ⟨q, hq⟩ : ∃ q, q = par c6 := ⟨_, rfl⟩
  rw [← hq] at hpa hpl he
  have hor : bits .or .u64 (c6 : Int) (q : Int) = ((enc d : Nat) : Int) := by rw [u64_or_nat _ _ (by omega) (by omega), he]
  obtain ⟨x, hx⟩ : ∃ x, x = enc d := ⟨_, rfl⟩
  rw [← hx] at hor ⊢
  have HP0 := Lib.hid p0
  have HP1 := Lib.hid p1
  have HP2 := Lib.hid p2
  have HP3 := Lib.hid p3
  have HP4 := Lib.hid p4
  have HP5 := Lib.hid p5
  have HSP := Lib.hid hsp
  have HSY := Lib.hid hsy
  have HPA := Lib.hid hpa
  have HT := Lib.hid hT
  have HR := Lib.hid hor
  clear hsp hsy hT hs hp p0 p1 p2 p3 p4 p5 h1 h2 h3 h4 h5 h6 he hpa hq hx hck hj hor
  go_enter Tryd.func9, Tryd.ntmps9
  go_wp2_with fail
  refine (HSP.out _ HT.out).mono ?_
  rintro e w' ⟨rfl, rfl⟩
  go_wp2_with fail
  refine (HSY.out _ HT.out).mono ?_
  rintro e w' ⟨rfl, rfl⟩
  go_wp2
  go_loopw [3, 10] (fun c i wr => Hid (Dn w wr) ∧ ((i = .int .i64 0 ∧ c = .int .u64 p) ∨ (i = .int .i64 1 ∧ c = .int .u64 c1) ∨ (i = .int .i64 2 ∧ c = .int .u64 c2) ∨ (i = .int .i64 3 ∧ c = .int .u64 c3) ∨ (i = .int .i64 4 ∧ c = .int .u64 c4) ∨ (i = .int .i64 5 ∧ c = .int .u64 c5) ∨ (i = .int .i64 6 ∧ c = .int .u64 c6))) (fun _ i _ => 6 - (intOf i).toNat)
  case atStart => exact ⟨Lib.hid (Dn.refl _), .inl ⟨rfl, rfl⟩⟩
  case round =>
    obtain ⟨HD, hrel⟩ := hrel
    rcases hrel with ⟨rfl, rfl⟩ | ⟨rfl, rfl⟩ | ⟨rfl, rfl⟩ | ⟨rfl, rfl⟩ | ⟨rfl, rfl⟩ | ⟨rfl, rfl⟩ | ⟨rfl, rfl⟩
    · go_wp2
      go_quiet (fail)
      go_wp2
      go_round
      case rel => exact ⟨Lib.hid (HD.out.draw _), .inr (.inl ⟨rfl, ecc_val (HP0.out _ (by omega))⟩)⟩
      case measure => simp [intOf]
    · go_wp2
      go_quiet (fail)
      go_wp2
      go_round
      case rel => exact ⟨Lib.hid (HD.out.draw _), .inr (.inr (.inl ⟨rfl, ecc_val (HP1.out _ (by omega))⟩))⟩
      case measure => simp [intOf]
    · go_wp2
      go_quiet (fail)
      go_wp2
      go_round
      case rel => exact ⟨Lib.hid (HD.out.draw _), .inr (.inr (.inr (.inl ⟨rfl, ecc_val (HP2.out _ (by omega))⟩)))⟩
      case measure => simp [intOf]
    · go_wp2
      go_quiet (fail)
      go_wp2
      go_round
      case rel => exact ⟨Lib.hid (HD.out.draw _), .inr (.inr (.inr (.inr (.inl ⟨rfl, ecc_val (HP3.out _ (by omega))⟩))))⟩
      case measure => simp [intOf]
    · go_wp2
      go_quiet (fail)
      go_wp2
      go_round
      case rel => exact ⟨Lib.hid (HD.out.draw _), .inr (.inr (.inr (.inr (.inr (.inl ⟨rfl, ecc_val (HP4.out _ (by omega))⟩)))))⟩
      case measure => simp [intOf]
    · go_wp2
      go_quiet (fail)
      go_wp2
      go_round
      case rel => exact ⟨Lib.hid (HD.out.draw _), .inr (.inr (.inr (.inr (.inr (.inr ⟨rfl, ecc_val (HP5.out _ (by omega))⟩)))))⟩
      case measure => simp [intOf]
    · go_wp2_with fail
      refine (HPA.out _).mono ?_
      rintro e w' ⟨rfl, rfl⟩
      go_wp2
      go_ret
      exact ⟨ecc_ret HR.out, HD.out⟩
end Go.Proofs.YtbadglgekialdaaDoor.Ecc
