/-
  The walk of the reference's CRC-32C, and the four sums.
-/
import Derived.Test.YtdichdoabhabjaaRef01a
namespace Go.Proofs.Ytdichdoabhabjaa
open Go.RowKit

theorem low32 (r : BitVec 32) : (r.toNat : Int) % 2 = bitI (r.getLsbD 0) := by
  have h := testBit_int r.toNat 0
  rw [Nat.pow_zero, Nat.div_one] at h
  exact h
theorem div_bit (x : Byte) (n : Nat) : (x.toNat : Int) / 2 ^ n % 2 = bitI (x.getLsbD n) := by
  have e : (x.toNat : Int) / 2 ^ n = ((x.toNat / 2 ^ n : Nat) : Int) := by rw [Int.natCast_ediv, Int.natCast_pow]; rfl
  rw [e]
  exact testBit_int _ _
theorem div_bound (x : Byte) (n : Nat) : 0 ≤ (x.toNat : Int) / 2 ^ n ∧ (x.toNat : Int) / 2 ^ n ≤ 255 := by
  have e : (x.toNat : Int) / 2 ^ n = ((x.toNat / 2 ^ n : Nat) : Int) := by rw [Int.natCast_ediv, Int.natCast_pow]; rfl
  have := x.isLt
  have h0 := Int.natCast_nonneg (x.toNat / 2 ^ n)
  have h1 : ((x.toNat / 2 ^ n : Nat) : Int) ≤ (x.toNat : Int) := Int.ofNat_le.mpr (Nat.div_le_self _ _)
  rw [e]
  exact ⟨h0, by omega⟩
theorem fd32_test (r : BitVec 32) (x : Byte) (j : Nat) : (((r.toNat : Int) + (x.toNat : Int) / 2 ^ j) % 2 == 1) = (r.getLsbD 0 != x.getLsbD j) := by
  rw [Int.add_emod, low32, div_bit]
  cases r.getLsbD 0 <;> cases x.getLsbD j <;> rfl
theorem fd32_yes (r : BitVec 32) (x : Byte) (j : Nat) (h : (((r.toNat : Int) + (x.toNat : Int) / 2 ^ j) % 2 == 1) = true) : bits .xor .i64 ((r.toNat : Int) / 2) 2197175160 = ((fd32 r (x.getLsbD j)).toNat : Int) := by
  rw [fd32_test] at h
  have hl := (r >>> 1).isLt
  rw [b32_shr1, fd32, if_pos h, show (2197175160 : Int) = ((2197175160 : Nat) : Int) from rfl, i64_xor_nat' _ _ (by omega) (by omega), BitVec.toNat_xor]
  rfl
theorem fd32_no (r : BitVec 32) (x : Byte) (j : Nat) (h : (((r.toNat : Int) + (x.toNat : Int) / 2 ^ j) % 2 == 1) = false) : (r.toNat : Int) / 2 = ((fd32 r (x.getLsbD j)).toNat : Int) := by
  rw [fd32_test] at h
  rw [b32_shr1, fd32, if_neg (by rw [h]; decide)]

set_option maxHeartbeats 400000 in
theorem refSum16_any (a : Option Addr) (l : List Byte) (c B : Nat) (w : World) (hb : Bs w B a l) (hm : l.length ≤ 2000) :
    Calls Try.prog 35 #[.slice a l.length c] w fun e w' => e = .returned (.int .u16 ((up16 0xffff#16 l).toNat : Int)) ∧ w = w' := by
  go_enter Try.func35, Try.ntmps35
  go_wp2_with (go_at_call 41; refine (refUpdate16_any 0xffff#16 a l c B _ (by assumption) hm).mono ?_; rintro e w' ⟨rfl, rfl⟩)
  go_ret
  exact ⟨rfl, rfl⟩
set_option maxHeartbeats 400000 in
theorem refAppend16_any (a : Option Addr) (l : List Byte) (c : Nat) (w : World) (hb : Bs w w.heap.size a l) (hn : a = none → c = 0) (hm : l.length ≤ 2000) :
    Calls Try.prog 23 #[.slice a l.length c] w fun e w' => ∃ v, e = .returned v ∧ Ow w' w.heap.size 5 v (ap16 l) ∧ Below w.heap.size w w' := by
  have bel1 := (Below.refl w.heap.size w).alloc (Nat.le_refl _) (.cells #[] 5)
  have hown1 := Ow_empty w w.heap.size 5 (Nat.le_refl _)
  go_enter Try.func23, Try.ntmps23
  go_wp2_with (first
    | (go_at_call 35; refine (refSum16_any a l c _ _ (by assumption) (by omega)).mono ?_; rintro e w' ⟨rfl, rfl⟩)
    | (at_builtin; refine wpList_app _ is_bytes rfl (.tmp 6) (.tmp 7) rfl (m := []) rfl hown1 rfl (hb.below bel1) hn (by simp; omega) bel1.size ?_; intro v2 w2 hown2 hgrow2; have bel2 := bel1.grown hgrow2 bel1.size (Ow.base_le (l := []) hown1))
    | (at_builtin; refine wpList_app _ is_bytes rfl (.tmp 8) (.tmp 15) rfl (m := l) rfl (hown2.alloc _) (l := crcb (up16 0xffff#16 l)) rfl (Bs_new2 _ _ _ _ _ _ (hi_byte _) (lo_byte _)) (by simp) (by simp [crcb]; omega) (by have := bel2.size; simp; omega) ?_; intro v3 w3 hown3 hgrow3))
  go_ret
  exact ⟨v3, rfl, hown3, (bel2.alloc bel2.size _).grown hgrow3 (by have := bel2.size; simp; omega) (Ow.base_le (l := l) hown2)⟩

end Go.Proofs.Ytdichdoabhabjaa
