/-
  The walks of package ecc's spread and gather, which range over the table of runs.
-/
import Derived.Test.YtbadglgekialdaaDoorEccW1
namespace Go.Proofs.YtbadglgekialdaaDoor.Ecc
open Go.RowKit

theorem u64_and_lit {a : Nat} {A M : Int} (m : Nat) (ha : a < 18446744073709551616) (hm : m < 18446744073709551616) (hA : A = (a : Int)) (hM : M = (m : Int)) : bits .and .u64 A M = ((a &&& m : Nat) : Int) := by
  rw [hA, hM]
  exact u64_and_nat a m ha hm
theorem spr_lt (d : Nat) : ∀ k, spr d k < 18446744073709551616
  | 0 => by
    show 0 < 18446744073709551616
    decide
  | k + 1 => by
    have ih := spr_lt d k
    have hm : msk k < 18446744073709551616 := by unfold msk; split <;> decide
    exact Nat.or_lt_two_pow (n := 64) ih (Nat.lt_of_le_of_lt Nat.and_le_right hm)
theorem spr_put (d k : Nat) : bits .or .u64 ((spr d k : Nat) : Int) (((d <<< (k + 3)) &&& msk k : Nat) : Int) = ((spr d (k + 1) : Nat) : Int) := by
  have hm : msk k < 18446744073709551616 := by unfold msk; split <;> decide
  rw [u64_or_nat _ _ (spr_lt d k) (Nat.lt_of_le_of_lt Nat.and_le_right hm)]
  rfl

theorem runs_at0 (w : World) : (Instr.index 42 (.agg #[.int .u64 8, .int .u64 224, .int .u64 65024, .int .u64 4294836224, .int .u64 541165879296]) (.int .i64 0)).run Tryd.prog w = .ok (.int .u64 8) w := by kernel_rfl
theorem runs_at1 (w : World) : (Instr.index 42 (.agg #[.int .u64 8, .int .u64 224, .int .u64 65024, .int .u64 4294836224, .int .u64 541165879296]) (.int .i64 1)).run Tryd.prog w = .ok (.int .u64 224) w := by kernel_rfl
theorem runs_at2 (w : World) : (Instr.index 42 (.agg #[.int .u64 8, .int .u64 224, .int .u64 65024, .int .u64 4294836224, .int .u64 541165879296]) (.int .i64 2)).run Tryd.prog w = .ok (.int .u64 65024) w := by kernel_rfl
theorem runs_at3 (w : World) : (Instr.index 42 (.agg #[.int .u64 8, .int .u64 224, .int .u64 65024, .int .u64 4294836224, .int .u64 541165879296]) (.int .i64 3)).run Tryd.prog w = .ok (.int .u64 4294836224) w := by kernel_rfl
theorem runs_at4 (w : World) : (Instr.index 42 (.agg #[.int .u64 8, .int .u64 224, .int .u64 65024, .int .u64 4294836224, .int .u64 541165879296]) (.int .i64 4)).run Tryd.prog w = .ok (.int .u64 541165879296) w := by kernel_rfl
theorem gat_lt (n : Nat) : ∀ k, gat n k < 18446744073709551616
  | 0 => by
    show 0 < 18446744073709551616
    decide
  | k + 1 => by
    have ih := gat_lt n k
    have hm : msk k < 18446744073709551616 := by unfold msk; split <;> decide
    exact Nat.or_lt_two_pow (n := 64) ih (Nat.lt_of_le_of_lt (Nat.le_trans (Nat.shiftRight_le _ _) Nat.and_le_right) hm)
theorem gat_put (n k : Nat) : bits .or .u64 ((gat n k : Nat) : Int) (((n &&& msk k) >>> (k + 3) : Nat) : Int) = ((gat n (k + 1) : Nat) : Int) := by
  have hm : msk k < 18446744073709551616 := by unfold msk; split <;> decide
  rw [u64_or_nat _ _ (gat_lt n k) (Nat.lt_of_le_of_lt (Nat.le_trans (Nat.shiftRight_le _ _) Nat.and_le_right) hm)]
  rfl

set_option maxHeartbeats 800000 in
theorem spread_any (d : Nat) (h : d < 4294967296) (w : World) (hT : Tabs w) :
    Calls Tryd.prog 21 #[.int .u32 (d : Int)] w fun e w' => e = .returned (.int .u64 ((sprL d : Nat) : Int)) ∧ w = w' := by
  have c0 : w.cell? ⟨0, 0, none⟩ = some (.int .u64 8) := hT.runs 0 (by decide)
  have c1 : w.cell? ⟨0, 1, none⟩ = some (.int .u64 224) := hT.runs 1 (by decide)
  have c2 : w.cell? ⟨0, 2, none⟩ = some (.int .u64 65024) := hT.runs 2 (by decide)
  have c3 : w.cell? ⟨0, 3, none⟩ = some (.int .u64 4294836224) := hT.runs 3 (by decide)
  have c4 : w.cell? ⟨0, 4, none⟩ = some (.int .u64 541165879296) := hT.runs 4 (by decide)
  have i0 := runs_at0
  have i1 := runs_at1
  have i2 := runs_at2
  have i3 := runs_at3
  have i4 := runs_at4
  have r0 := fun w => runShift_any 0 (by decide) w
  have r1 := fun w => runShift_any 1 (by decide) w
  have r2 := fun w => runShift_any 2 (by decide) w
  have r3 := fun w => runShift_any 3 (by decide) w
  have r4 := fun w => runShift_any 4 (by decide) w
  have p0 := spr_put d 0
  have p1 := spr_put d 1
  have p2 := spr_put d 2
  have p3 := spr_put d 3
  have p4 := spr_put d 4
  have l1 := spr_lt d 1
  have l2 := spr_lt d 2
  have l3 := spr_lt d 3
  have l4 := spr_lt d 4
  have a0 : bits .and .u64 ((d : Int) * 8) 8 = _ := u64_and_lit (a := d <<< 3) (msk 0) (by rw [Nat.shiftLeft_eq]; omega) (by decide) (by rw [Nat.shiftLeft_eq]; omega) rfl
  have a1 : bits .and .u64 ((d : Int) * 16) 224 = _ := u64_and_lit (a := d <<< 4) (msk 1) (by rw [Nat.shiftLeft_eq]; omega) (by decide) (by rw [Nat.shiftLeft_eq]; omega) rfl
  have a2 : bits .and .u64 ((d : Int) * 32) 65024 = _ := u64_and_lit (a := d <<< 5) (msk 2) (by rw [Nat.shiftLeft_eq]; omega) (by decide) (by rw [Nat.shiftLeft_eq]; omega) rfl
  have a3 : bits .and .u64 ((d : Int) * 64) 4294836224 = _ := u64_and_lit (a := d <<< 6) (msk 3) (by rw [Nat.shiftLeft_eq]; omega) (by decide) (by rw [Nat.shiftLeft_eq]; omega) rfl
  have a4 : bits .and .u64 ((d : Int) * 128) 541165879296 = _ := u64_and_lit (a := d <<< 7) (msk 4) (by rw [Nat.shiftLeft_eq]; omega) (by decide) (by rw [Nat.shiftLeft_eq]; omega) rfl
  have he := spr_eq d
  obtain ⟨x0, hx0⟩ : ∃ x, x = (d <<< 3) &&& msk 0 := ⟨_, rfl⟩
  obtain ⟨x1, hx1⟩ : ∃ x, x = (d <<< 4) &&& msk 1 := ⟨_, rfl⟩
  obtain ⟨x2, hx2⟩ : ∃ x, x = (d <<< 5) &&& msk 2 := ⟨_, rfl⟩
  obtain ⟨x3, hx3⟩ : ∃ x, x = (d <<< 6) &&& msk 3 := ⟨_, rfl⟩
  obtain ⟨x4, hx4⟩ : ∃ x, x = (d <<< 7) &&& msk 4 := ⟨_, rfl⟩
  rw [← hx0] at a0 p0
  rw [← hx1] at a1 p1
  rw [← hx2] at a2 p2
  rw [← hx3] at a3 p3
  rw [← hx4] at a4 p4
  obtain ⟨s1, hs1⟩ : ∃ s, s = spr d 1 := ⟨_, rfl⟩
  obtain ⟨s2, hs2⟩ : ∃ s, s = spr d 2 := ⟨_, rfl⟩
  obtain ⟨s3, hs3⟩ : ∃ s, s = spr d 3 := ⟨_, rfl⟩
  obtain ⟨s4, hs4⟩ : ∃ s, s = spr d 4 := ⟨_, rfl⟩
  obtain ⟨s5, hs5⟩ : ∃ s, s = spr d 5 := ⟨_, rfl⟩
  rw [show ((spr d 0 : Nat) : Int) = 0 from rfl, ← hs1] at p0
  rw [← hs1, ← hs2] at p1
  rw [← hs2, ← hs3] at p2
  rw [← hs3, ← hs4] at p3
  rw [← hs4, ← hs5] at p4
  rw [← hs5] at he
  rw [← he]
  have n1 : s1 < 18446744073709551616 := by rw [hs1]; exact l1
  have n2 : s2 < 18446744073709551616 := by rw [hs2]; exact l2
  have n3 : s3 < 18446744073709551616 := by rw [hs3]; exact l3
  have n4 : s4 < 18446744073709551616 := by rw [hs4]; exact l4
  clear hx0 hx1 hx2 hx3 hx4 hs1 hs2 hs3 hs4 hs5 he l1 l2 l3 l4 hT
  go_enter Tryd.func21, Tryd.ntmps21
  go_wp2
  go_loop [3, 7] (fun s i => (i = .int .i64 0 ∧ s = .int .u64 0) ∨ (i = .int .i64 1 ∧ s = .int .u64 s1) ∨ (i = .int .i64 2 ∧ s = .int .u64 s2) ∨ (i = .int .i64 3 ∧ s = .int .u64 s3) ∨ (i = .int .i64 4 ∧ s = .int .u64 s4) ∨ (i = .int .i64 5 ∧ s = .int .u64 s5)) (fun _ i => 5 - (intOf i).toNat)
  case atStart => exact .inl ⟨rfl, rfl⟩
  case round =>
    rcases hrel with ⟨rfl, rfl⟩ | ⟨rfl, rfl⟩ | ⟨rfl, rfl⟩ | ⟨rfl, rfl⟩ | ⟨rfl, rfl⟩ | ⟨rfl, rfl⟩
    · go_wp2_with (go_at_call 30; refine (r0 _).mono ?_; rintro e w' ⟨rfl, rfl⟩)
      go_round
      case rel => exact .inr (.inl ⟨rfl, rfl⟩)
      case measure => simp [intOf]
    · go_wp2_with (go_at_call 30; refine (r1 _).mono ?_; rintro e w' ⟨rfl, rfl⟩)
      go_round
      case rel => exact .inr (.inr (.inl ⟨rfl, rfl⟩))
      case measure => simp [intOf]
    · go_wp2_with (go_at_call 30; refine (r2 _).mono ?_; rintro e w' ⟨rfl, rfl⟩)
      go_round
      case rel => exact .inr (.inr (.inr (.inl ⟨rfl, rfl⟩)))
      case measure => simp [intOf]
    · go_wp2_with (go_at_call 30; refine (r3 _).mono ?_; rintro e w' ⟨rfl, rfl⟩)
      go_round
      case rel => exact .inr (.inr (.inr (.inr (.inl ⟨rfl, rfl⟩))))
      case measure => simp [intOf]
    · go_wp2_with (go_at_call 30; refine (r4 _).mono ?_; rintro e w' ⟨rfl, rfl⟩)
      go_round
      case rel => exact .inr (.inr (.inr (.inr (.inr ⟨rfl, rfl⟩))))
      case measure => simp [intOf]
    · go_wp2
      go_ret
      exact ⟨rfl, rfl⟩

set_option maxHeartbeats 800000 in
theorem gather_any (n : Nat) (h : n < 18446744073709551616) (w : World) (hT : Tabs w) :
    Calls Tryd.prog 23 #[.int .u64 (n : Int)] w fun e w' => e = .returned (.int .u32 ((gatL n : Nat) : Int)) ∧ w = w' := by
  have c0 : w.cell? ⟨0, 0, none⟩ = some (.int .u64 8) := hT.runs 0 (by decide)
  have c1 : w.cell? ⟨0, 1, none⟩ = some (.int .u64 224) := hT.runs 1 (by decide)
  have c2 : w.cell? ⟨0, 2, none⟩ = some (.int .u64 65024) := hT.runs 2 (by decide)
  have c3 : w.cell? ⟨0, 3, none⟩ = some (.int .u64 4294836224) := hT.runs 3 (by decide)
  have c4 : w.cell? ⟨0, 4, none⟩ = some (.int .u64 541165879296) := hT.runs 4 (by decide)
  have i0 := runs_at0
  have i1 := runs_at1
  have i2 := runs_at2
  have i3 := runs_at3
  have i4 := runs_at4
  have r0 := fun w => runShift_any 0 (by decide) w
  have r1 := fun w => runShift_any 1 (by decide) w
  have r2 := fun w => runShift_any 2 (by decide) w
  have r3 := fun w => runShift_any 3 (by decide) w
  have r4 := fun w => runShift_any 4 (by decide) w
  have p0 := gat_put n 0
  have p1 := gat_put n 1
  have p2 := gat_put n 2
  have p3 := gat_put n 3
  have p4 := gat_put n 4
  have l1 := gat_lt n 1
  have l2 := gat_lt n 2
  have l3 := gat_lt n 3
  have l4 := gat_lt n 4
  have a0 : bits .and .u64 (n : Int) 8 = _ := u64_and_lit (a := n) (msk 0) h (by decide) rfl rfl
  have a1 : bits .and .u64 (n : Int) 224 = _ := u64_and_lit (a := n) (msk 1) h (by decide) rfl rfl
  have a2 : bits .and .u64 (n : Int) 65024 = _ := u64_and_lit (a := n) (msk 2) h (by decide) rfl rfl
  have a3 : bits .and .u64 (n : Int) 4294836224 = _ := u64_and_lit (a := n) (msk 3) h (by decide) rfl rfl
  have a4 : bits .and .u64 (n : Int) 541165879296 = _ := u64_and_lit (a := n) (msk 4) h (by decide) rfl rfl
  have he := gat_eq n
  have hl := gatL_lt n h
  obtain ⟨y0, hy0⟩ : ∃ y, y = n &&& msk 0 := ⟨_, rfl⟩
  obtain ⟨y1, hy1⟩ : ∃ y, y = n &&& msk 1 := ⟨_, rfl⟩
  obtain ⟨y2, hy2⟩ : ∃ y, y = n &&& msk 2 := ⟨_, rfl⟩
  obtain ⟨y3, hy3⟩ : ∃ y, y = n &&& msk 3 := ⟨_, rfl⟩
  obtain ⟨y4, hy4⟩ : ∃ y, y = n &&& msk 4 := ⟨_, rfl⟩
  rw [← hy0] at a0 p0
  rw [← hy1] at a1 p1
  rw [← hy2] at a2 p2
  rw [← hy3] at a3 p3
  rw [← hy4] at a4 p4
  obtain ⟨x0, hx0⟩ : ∃ x, x = y0 >>> 3 := ⟨_, rfl⟩
  obtain ⟨x1, hx1⟩ : ∃ x, x = y1 >>> 4 := ⟨_, rfl⟩
  obtain ⟨x2, hx2⟩ : ∃ x, x = y2 >>> 5 := ⟨_, rfl⟩
  obtain ⟨x3, hx3⟩ : ∃ x, x = y3 >>> 6 := ⟨_, rfl⟩
  obtain ⟨x4, hx4⟩ : ∃ x, x = y4 >>> 7 := ⟨_, rfl⟩
  rw [← hx0] at p0
  rw [← hx1] at p1
  rw [← hx2] at p2
  rw [← hx3] at p3
  rw [← hx4] at p4
  have q0 : (y0 : Int) / 8 = (x0 : Int) := by rw [hx0, Nat.shiftRight_eq_div_pow]; omega
  have q1 : (y1 : Int) / 16 = (x1 : Int) := by rw [hx1, Nat.shiftRight_eq_div_pow]; omega
  have q2 : (y2 : Int) / 32 = (x2 : Int) := by rw [hx2, Nat.shiftRight_eq_div_pow]; omega
  have q3 : (y3 : Int) / 64 = (x3 : Int) := by rw [hx3, Nat.shiftRight_eq_div_pow]; omega
  have q4 : (y4 : Int) / 128 = (x4 : Int) := by rw [hx4, Nat.shiftRight_eq_div_pow]; omega
  obtain ⟨s1, hs1⟩ : ∃ s, s = gat n 1 := ⟨_, rfl⟩
  obtain ⟨s2, hs2⟩ : ∃ s, s = gat n 2 := ⟨_, rfl⟩
  obtain ⟨s3, hs3⟩ : ∃ s, s = gat n 3 := ⟨_, rfl⟩
  obtain ⟨s4, hs4⟩ : ∃ s, s = gat n 4 := ⟨_, rfl⟩
  obtain ⟨s5, hs5⟩ : ∃ s, s = gat n 5 := ⟨_, rfl⟩
  rw [show ((gat n 0 : Nat) : Int) = 0 from rfl, ← hs1] at p0
  rw [← hs1, ← hs2] at p1
  rw [← hs2, ← hs3] at p2
  rw [← hs3, ← hs4] at p3
  rw [← hs4, ← hs5] at p4
  rw [← hs5] at he
  rw [← he] at hl ⊢
  have n1 : s1 < 18446744073709551616 := by rw [hs1]; exact l1
  have n2 : s2 < 18446744073709551616 := by rw [hs2]; exact l2
  have n3 : s3 < 18446744073709551616 := by rw [hs3]; exact l3
  have n4 : s4 < 18446744073709551616 := by rw [hs4]; exact l4
  clear hx0 hx1 hx2 hx3 hx4 hy0 hy1 hy2 hy3 hy4 hs1 hs2 hs3 hs4 hs5 he l1 l2 l3 l4 hT
  go_enter Tryd.func23, Tryd.ntmps23
  go_wp2
  go_loop [3, 7] (fun s i => (i = .int .i64 0 ∧ s = .int .u64 0) ∨ (i = .int .i64 1 ∧ s = .int .u64 s1) ∨ (i = .int .i64 2 ∧ s = .int .u64 s2) ∨ (i = .int .i64 3 ∧ s = .int .u64 s3) ∨ (i = .int .i64 4 ∧ s = .int .u64 s4) ∨ (i = .int .i64 5 ∧ s = .int .u64 s5)) (fun _ i => 5 - (intOf i).toNat)
  case atStart => exact .inl ⟨rfl, rfl⟩
  case round =>
    rcases hrel with ⟨rfl, rfl⟩ | ⟨rfl, rfl⟩ | ⟨rfl, rfl⟩ | ⟨rfl, rfl⟩ | ⟨rfl, rfl⟩ | ⟨rfl, rfl⟩
    · go_wp2_with (go_at_call 30; refine (r0 _).mono ?_; rintro e w' ⟨rfl, rfl⟩)
      go_round
      case rel => exact .inr (.inl ⟨rfl, rfl⟩)
      case measure => simp [intOf]
    · go_wp2_with (go_at_call 30; refine (r1 _).mono ?_; rintro e w' ⟨rfl, rfl⟩)
      go_round
      case rel => exact .inr (.inr (.inl ⟨rfl, rfl⟩))
      case measure => simp [intOf]
    · go_wp2_with (go_at_call 30; refine (r2 _).mono ?_; rintro e w' ⟨rfl, rfl⟩)
      go_round
      case rel => exact .inr (.inr (.inr (.inl ⟨rfl, rfl⟩)))
      case measure => simp [intOf]
    · go_wp2_with (go_at_call 30; refine (r3 _).mono ?_; rintro e w' ⟨rfl, rfl⟩)
      go_round
      case rel => exact .inr (.inr (.inr (.inr (.inl ⟨rfl, rfl⟩))))
      case measure => simp [intOf]
    · go_wp2_with (go_at_call 30; refine (r4 _).mono ?_; rintro e w' ⟨rfl, rfl⟩)
      go_round
      case rel => exact .inr (.inr (.inr (.inr (.inr ⟨rfl, rfl⟩))))
      case measure => simp [intOf]
    · go_wp2
      go_ret
      exact ⟨ecc_ret (by omega), rfl⟩
end Go.Proofs.YtbadglgekialdaaDoor.Ecc
