/-
  The walks of the program's sums, of Append16 and of Check16.
-/
import Derived.Test.YtdichdoabhabjaaCrcW2
import Derived.Deep.QuietTactic
import Derived.BigQuiet
namespace Go.Proofs.Ytdichdoabhabjaa
open Go.RowKit

set_option maxHeartbeats 400000 in
theorem sum16_any (a : Option Addr) (l : List Byte) (c B : Nat) (w : World) (hb : Bs w B a l) (hm : l.length ≤ maxLen) :
    Calls Try.prog 37 #[.slice a l.length c] w fun e w' => e = .returned (.int .u16 ((up16 0xffff#16 l).toNat : Int)) ∧ w = w' := by
  go_enter Try.func37, Try.ntmps37
  go_wp2_with (go_at_call 42; refine (update16_any 0xffff#16 a l c B _ (by assumption) hm).mono ?_; rintro e w' ⟨rfl, rfl⟩)
  go_ret
  exact ⟨rfl, rfl⟩
theorem hi_byte (r : BitVec 16) : (r.toNat : Int) / 256 = (((r >>> 8).setWidth 8 : Byte).toNat : Int) := by
  have := r.isLt
  rw [BitVec.toNat_setWidth, BitVec.toNat_ushiftRight, Nat.shiftRight_eq_div_pow]
  omega
theorem lo_byte (r : BitVec 16) : (r.toNat : Int) % 256 = ((r.setWidth 8 : Byte).toNat : Int) := by
  rw [BitVec.toNat_setWidth]
  omega

set_option maxHeartbeats 400000 in
theorem append16_any (a : Option Addr) (l : List Byte) (c : Nat) (w : World) (hb : Bs w w.heap.size a l) (hn : a = none → c = 0) (hm : l.length ≤ 140737488355000) :
    Calls Try.prog 27 #[.slice a l.length c] w fun e w' => ∃ v, e = .returned v ∧ Ow w' w.heap.size 5 v (ap16 l) ∧ Below w.heap.size w w' := by
  obtain ⟨hu, _, i0, hi, hz0, hz1, hz2⟩ := is_bytes
  go_enter Try.func27, Try.ntmps27
  go_wp2_with (first
    | (go_at_call 37; refine (sum16_any a l c _ _ (by assumption) (by unfold maxLen; omega)).mono ?_; rintro e w' ⟨rfl, rfl⟩)
    | (at_make; refine wpList_make_own _ rfl _ _ 22 rfl w.heap.size 5 i0 _ 1 hu hi hz0 hz1 .i64 .i64 _ (l.length + 2) rfl rfl (by omega) (by rw [hz2]; omega) (by unfold maxLen; omega) (Nat.le_refl _) ?_; intro w1 hown1 hgrow1; have bel1 := (Below.refl w.heap.size w).grown hgrow1 (Nat.le_refl _) (by simp))
    | (at_builtin; refine wpList_app _ is_bytes rfl (.tmp 11) (.tmp 12) rfl (m := []) rfl hown1 rfl (hb.below bel1) hn (by simp; omega) bel1.size ?_; intro v2 w2 hown2 hgrow2; have bel2 := bel1.grown hgrow2 bel1.size (Ow.base_le (l := []) hown1))
    | (at_builtin; refine wpList_app _ is_bytes rfl (.tmp 14) (.tmp 20) rfl (m := l) rfl (hown2.alloc _) (l := crcb (up16 0xffff#16 l)) rfl (Bs_new2 _ _ _ _ _ _ (hi_byte _) (lo_byte _)) (by simp) (by simp [crcb]; omega) (by have := bel2.size; simp; omega) ?_; intro v3 w3 hown3 hgrow3))
  go_ret
  exact ⟨v3, rfl, hown3, (bel2.alloc bel2.size _).grown hgrow3 (by have := bel2.size; simp; omega) (Ow.base_le (l := l) hown2)⟩

theorem or_join (x y : Byte) : bits .or .u16 ((x.toNat : Int) * 256) (y.toNat : Int) = (x.toNat : Int) * 256 + (y.toNat : Int) := by
  have hx := x.isLt
  have hy := y.isLt
  have e := u16_or_nat (2 ^ 8 * x.toNat) y.toNat (by omega) (by omega)
  rw [← Nat.two_pow_add_eq_or_of_lt hy] at e
  rw [show (x.toNat : Int) * 256 = ((2 ^ 8 * x.toNat : Nat) : Int) by omega, e]
  omega
theorem crcb_iff (r : BitVec 16) (x y : Byte) : crcb r = [x, y] ↔ (r.toNat : Int) = (x.toNat : Int) * 256 + (y.toNat : Int) := by
  have h1 := hi_byte r
  have h2 := lo_byte r
  have hy := y.isLt
  unfold crcb
  constructor
  · intro h
    injection h with ha hb
    injection hb with hb
    rw [ha] at h1
    rw [hb] at h2
    omega
  · intro h
    have ea : (r >>> 8).setWidth 8 = x := BitVec.eq_of_toNat_eq (by omega)
    have eb : r.setWidth 8 = y := BitVec.eq_of_toNat_eq (by omega)
    rw [ea, eb]
theorem ck_eq (l : List Byte) (n : Nat) (hl : l.length = n + 2) :
    (((up16 0xffff#16 (l.take n)).toNat : Int) == bits .or .u16 ((l[n].toNat : Int) * 256) (l[n + 1].toNat : Int)) = ck16 l := by
  rw [or_join, Bool.eq_iff_iff, beq_iff_eq, ← crcb_iff]
  have hs : l = l.take n ++ [l[n], l[n + 1]] := by
    have h1 := List.take_append_drop n l
    have h2 : l.drop n = [l[n], l[n + 1]] := by
      rw [List.drop_eq_getElem_cons (by omega), List.drop_eq_getElem_cons (by omega), List.drop_of_length_le (by omega)]
    rw [h2] at h1
    exact h1.symm
  unfold ck16 ap16
  rw [decide_eq_true_iff, show l.length - 2 = n by omega]
  constructor
  · intro h; exact ⟨by omega, by rw [h]; exact hs.symm⟩
  · rintro ⟨_, h⟩
    rw [hs] at h
    rw [List.take_left' (by rw [List.length_take]; omega)] at h
    exact List.append_cancel_left h

set_option maxHeartbeats 400000 in
theorem check16_short (a : Option Addr) (l : List Byte) (c : Nat) (w : World) (hm : l.length < 2) :
    Calls Try.prog 30 #[.slice a l.length c] w fun e w' => e = .returned (.bool false) ∧ ∃ n, w' = w.drewN n := by
  go_enter Try.func30, Try.ntmps30
  go_wp2
  go_ret
  exact ⟨rfl, 0, rfl⟩
theorem sum16_len (a : Option Addr) (l : List Byte) (len c B : Nat) (w : World) (hlen : l.length = len) (hb : Bs w B a l) (hm : len ≤ maxLen) :
    Calls Try.prog 37 #[.slice a len c] w fun e w' => e = .returned (.int .u16 ((up16 0xffff#16 l).toNat : Int)) ∧ w' = w := by
  subst hlen
  exact (sum16_any a l c B w hb hm).mono fun _ _ ⟨h1, h2⟩ => ⟨h1, h2.symm⟩

set_option maxHeartbeats 400000 in
theorem check16_long (a : Option Addr) (l : List Byte) (n c B : Nat) (w : World) (hl : Hid (l.length = n + 2)) (hb : Bs w B a l) (hn : n + 2 ≤ c) (hc : c ≤ maxLen) :
    Calls Try.prog 30 #[.slice a ((n + 2 : Nat) : Nat) c] w fun e w' => e = .returned (.bool (ck16 l)) ∧ ∃ n, w' = w.drewN n := by
  unfold maxLen at hc
  obtain ⟨b, off, rfl, _, hc1⟩ := hb.at_ (k := n) (by have := hl.out; omega)
  obtain ⟨_, _, he, _, hc2⟩ := hb.at_ (k := n + 1) (by have := hl.out; omega)
  injection he with he
  injection he with h1 h2
  subst h1 h2
  have hbt := hb.take n
  have hlt : Hid ((l.take n).length = n) := by have := hl.out; exact List.length_take_of_le (by omega)
  go_enter Try.func30, Try.ntmps30
  go_wp2
  go_quiet ((go_at_call 37; exact Calls.quiet_of_same (sum16_len _ (l.take n) _ _ _ _ hlt.out (by assumption) (by unfold maxLen; omega))))
  go_wp2
  go_ret
  exact ⟨ret_bool (ck_eq l n hl.out), nq, rfl⟩

theorem check16_any (a : Option Addr) (l : List Byte) (c B : Nat) (w : World) (hb : Bs w B a l) (hn : l.length ≤ c) (hc : c ≤ maxLen) :
    Calls Try.prog 30 #[.slice a l.length c] w fun e w' => e = .returned (.bool (ck16 l)) ∧ ∃ n, w' = w.drewN n := by
  by_cases h : l.length < 2
  · refine (check16_short a l c w h).mono fun e w' ⟨h1, h2⟩ => ⟨?_, h2⟩
    rw [h1]
    exact ret_bool (by unfold ck16; symm; rw [decide_eq_false_iff_not]; omega)
  · obtain ⟨n, hl⟩ : ∃ n, l.length = n + 2 := ⟨l.length - 2, by omega⟩
    rw [hl]
    exact check16_long a l n c B w hl hb (by omega) hc

end Go.Proofs.Ytdichdoabhabjaa
