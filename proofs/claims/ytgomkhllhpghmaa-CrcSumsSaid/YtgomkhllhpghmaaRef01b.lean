/-
  The walk of the reference's CRC-32C, and the four sums.
-/
import Derived.Test.YtgomkhllhpghmaaRef01a
namespace Go.Proofs.Ytgomkhllhpghmaa
open Go.RowKit

theorem low32 (r : BitVec 32) : (r.toNat : Int) % 2 = bitI (r.getLsbD 0) := by
  have h := testBit_int r.toNat 0
  rw [Nat.pow_zero, Nat.div_one] at h
  exact h
theorem div_bit (x : Byte) (n : Nat) : (x.toNat : Int) / 2 ^ n % 2 = bitI (x.getLsbD n) := by
  have e : (x.toNat : Int) / 2 ^ n = ((x.toNat / 2 ^ n : Nat) : Int) := by rw [Int.natCast_ediv, Int.natCast_pow]; rfl
  rw [e]
  exact testBit_int _ _
theorem div_bound (x : Byte) (n : Nat) : 0 ≤ (x.toNat : Int) / 2 ^ n ∧ (x.toNat : Int) / 2 ^ n ≤ 255 := by
  have e : (x.toNat : Int) / 2 ^ n = ((x.toNat / 2 ^ n : Nat) : Int) := by rw [Int.natCast_ediv, Int.natCast_pow]; rfl
  have := x.isLt
  have h0 := Int.natCast_nonneg (x.toNat / 2 ^ n)
  have h1 : ((x.toNat / 2 ^ n : Nat) : Int) ≤ (x.toNat : Int) := Int.ofNat_le.mpr (Nat.div_le_self _ _)
  rw [e]
  exact ⟨h0, by omega⟩
theorem fd32_test (r : BitVec 32) (x : Byte) (j : Nat) : (((r.toNat : Int) + (x.toNat : Int) / 2 ^ j) % 2 == 1) = (r.getLsbD 0 != x.getLsbD j) := by
  rw [Int.add_emod, low32, div_bit]
  cases r.getLsbD 0 <;> cases x.getLsbD j <;> rfl
theorem fd32_yes (r : BitVec 32) (x : Byte) (j : Nat) (h : (((r.toNat : Int) + (x.toNat : Int) / 2 ^ j) % 2 == 1) = true) : bits .xor .i64 ((r.toNat : Int) / 2) 2197175160 = ((fd32 r (x.getLsbD j)).toNat : Int) := by
  rw [fd32_test] at h
  have hl := (r >>> 1).isLt
  rw [b32_shr1, fd32, if_pos h, show (2197175160 : Int) = ((2197175160 : Nat) : Int) from rfl, i64_xor_nat' _ _ (by omega) (by omega), BitVec.toNat_xor]
  rfl
theorem fd32_no (r : BitVec 32) (x : Byte) (j : Nat) (h : (((r.toNat : Int) + (x.toNat : Int) / 2 ^ j) % 2 == 1) = false) : (r.toNat : Int) / 2 = ((fd32 r (x.getLsbD j)).toNat : Int) := by
  rw [fd32_test] at h
  rw [b32_shr1, fd32, if_neg (by rw [h]; decide)]

set_option maxHeartbeats 400000 in
theorem refUpdate32_any (r : BitVec 32) (a : Option Addr) (l : List Byte) (c B : Nat) (w : World) (hb : Bs w B a l) (hm : l.length ≤ 2000) :
    Calls Try.prog 16 #[.int .u32 (r.toNat : Int), .slice a l.length c] w fun e w' => e = .returned (.int .u32 ((up32 r l).toNat : Int)) ∧ w = w' := by
  go_enter Try.func16, Try.ntmps16
  have HN := Lib.hid (b32_not r)
  have hN0 : 0 ≤ bits .xor .u32 IntKind.u32.max (r.toNat : Int) := by rw [b32_not]; omega
  have hN1 : bits .xor .u32 IntKind.u32.max (r.toNat : Int) ≤ 4294967295 := by have := (~~~ r).isLt; rw [b32_not]; omega
  go_wp2
  go_loop [5, 6] (fun t i => ∃ k : Nat, k ≤ l.length ∧ i = .int .i64 k ∧ t = .int .i64 ((raw32 (~~~ r) (l.take k)).toNat : Int)) (fun _ i => l.length - (intOf i).toNat)
  case atStart => exact ⟨0, Nat.zero_le _, rfl, val_int (by rw [IntWalk.wrap64_in _ (by omega)]; exact HN.out)⟩
  case round =>
    obtain ⟨k, hk, rfl, rfl⟩ := hrel
    by_cases hlt : k < l.length
    · obtain ⟨b, off, rfl, _, hc⟩ := hb.at_ hlt
      have HS : Hid (raw32 (~~~ r) (l.take (k + 1)) = by32 (raw32 (~~~ r) (l.take k)) l[k]) := raw32_take (~~~ r) l k hlt
      go_wp2
      go_loop [5, 7] (fun t i => ∃ j : Nat, j ≤ 8 ∧ i = .int .i64 j ∧ t = .int .i64 ((fb32 (raw32 (~~~ r) (l.take k)) l[k] j).toNat : Int)) (fun _ i => 8 - (intOf i).toNat)
      case atStart => exact ⟨0, Nat.zero_le _, rfl, rfl⟩
      case round =>
        obtain ⟨j, hj, rfl, rfl⟩ := hrel
        by_cases hj8 : j < 8
        · obtain ⟨R, hR⟩ : ∃ R, R = fb32 (raw32 (~~~ r) (l.take k)) l[k] j := ⟨_, rfl⟩
          have HR := Lib.hid hR
          rw [← hR]
          clear hR
          have hRl := R.isLt
          obtain ⟨hx0, hx1⟩ := div_bound l[k] j
          go_wp2
          · have ht : (((R.toNat : Int) + (l[k].toNat : Int) / 2 ^ j) % 2 == 1) = true := by assumption
            go_round
            case rel => exact ⟨j + 1, by omega, by go_num, val_int (by rw [fd32_yes R l[k] j ht, fb32, ← HR.out])⟩
            case measure => simp [intOf]; omega
          · have ht : (((R.toNat : Int) + (l[k].toNat : Int) / 2 ^ j) % 2 == 1) = false := by assumption
            go_round
            case rel => exact ⟨j + 1, by omega, by go_num, val_int (by rw [fd32_no R l[k] j ht, fb32, ← HR.out])⟩
            case measure => simp [intOf]; omega
        · go_wp2
          go_round
          case rel => exact ⟨k + 1, by omega, by go_num, val_int (by rw [HS.out, show j = 8 by omega, fb32_all])⟩
          case measure => simp [intOf]; omega
    · have hRl := (raw32 (~~~ r) (l.take k)).isLt
      go_wp2
      go_ret
      exact ⟨ret_int (by rw [List.take_of_length_le (by omega), b32_not]; rfl), rfl⟩

set_option maxHeartbeats 400000 in
theorem refSum16_any (a : Option Addr) (l : List Byte) (c B : Nat) (w : World) (hb : Bs w B a l) (hm : l.length ≤ 2000) :
    Calls Try.prog 10 #[.slice a l.length c] w fun e w' => e = .returned (.int .u16 ((up16 0xffff#16 l).toNat : Int)) ∧ w = w' := by
  go_enter Try.func10, Try.ntmps10
  go_wp2_with (go_at_call 12; refine (refUpdate16_any 0xffff#16 a l c B _ (by assumption) hm).mono ?_; rintro e w' ⟨rfl, rfl⟩)
  go_ret
  exact ⟨rfl, rfl⟩
set_option maxHeartbeats 400000 in
theorem refSum32_any (a : Option Addr) (l : List Byte) (c B : Nat) (w : World) (hb : Bs w B a l) (hm : l.length ≤ 2000) :
    Calls Try.prog 14 #[.slice a l.length c] w fun e w' => e = .returned (.int .u32 ((up32 0#32 l).toNat : Int)) ∧ w = w' := by
  go_enter Try.func14, Try.ntmps14
  go_wp2_with (go_at_call 16; refine (refUpdate32_any 0#32 a l c B _ (by assumption) hm).mono ?_; rintro e w' ⟨rfl, rfl⟩)
  go_ret
  exact ⟨rfl, rfl⟩

set_option maxHeartbeats 400000 in
theorem refAppend16_any (a : Option Addr) (l : List Byte) (c : Nat) (w : World) (hb : Bs w w.heap.size a l) (hn : a = none → c = 0) (hm : l.length ≤ 2000) :
    Calls Try.prog 18 #[.slice a l.length c] w fun e w' => ∃ v, e = .returned v ∧ Ow w' w.heap.size 5 v (ap16 l) ∧ Below w.heap.size w w' := by
  have bel1 := (Below.refl w.heap.size w).alloc (Nat.le_refl _) (.cells #[] 5)
  have hown1 := Ow_empty w w.heap.size 5 (Nat.le_refl _)
  go_enter Try.func18, Try.ntmps18
  go_wp2_with (first
    | (go_at_call 10; refine (refSum16_any a l c _ _ (by assumption) (by omega)).mono ?_; rintro e w' ⟨rfl, rfl⟩)
    | (at_builtin; refine wpList_app _ is_bytes rfl (.tmp 6) (.tmp 7) rfl (m := []) rfl hown1 rfl (hb.below bel1) hn (by simp; omega) bel1.size ?_; intro v2 w2 hown2 hgrow2; have bel2 := bel1.grown hgrow2 bel1.size (Ow.base_le (l := []) hown1))
    | (at_builtin; refine wpList_app _ is_bytes rfl (.tmp 8) (.tmp 15) rfl (m := l) rfl (hown2.alloc _) (l := crcb (up16 0xffff#16 l)) rfl (Bs_new2 _ _ _ _ _ _ (hi_byte _) (lo_byte _)) (by simp) (by simp [crcb]; omega) (by have := bel2.size; simp; omega) ?_; intro v3 w3 hown3 hgrow3))
  go_ret
  exact ⟨v3, rfl, hown3, (bel2.alloc bel2.size _).grown hgrow3 (by have := bel2.size; simp; omega) (Ow.base_le (l := l) hown2)⟩

end Go.Proofs.Ytgomkhllhpghmaa
