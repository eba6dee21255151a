/-
  CrcW3 TmfW1 Ref02 Ref02b Ref02c RefBits Ref15a Ref01a Ref01b Ref18a Put12 TmfW2 ClcW2 ClcW3 TmfW3, one after another.
-/
import Derived.Test.YtmkmojhhfbokdaaTmfs1
import Derived.Deep.QuietTactic
import Derived.BigQuiet

/-
  The walks of the program's sums, of Append16 and of Check16.
-/
namespace Go.Proofs.Ytmkmojhhfbokdaa
open Go.RowKit

set_option maxHeartbeats 400000 in
theorem sum16_any (a : Option Addr) (l : List Byte) (c B : Nat) (w : World) (hb : Bs w B a l) (hm : l.length ≤ maxLen) :
    Calls Try.prog 37 #[.slice a l.length c] w fun e w' => e = .returned (.int .u16 ((up16 0xffff#16 l).toNat : Int)) ∧ w = w' := by
  go_enter Try.func37, Try.ntmps37
  go_wp2_with (go_at_call 45; refine (update16_any 0xffff#16 a l c B _ (by assumption) hm).mono ?_; rintro e w' ⟨rfl, rfl⟩)
  go_ret
  exact ⟨rfl, rfl⟩
theorem hi_byte (r : BitVec 16) : (r.toNat : Int) / 256 = (((r >>> 8).setWidth 8 : Byte).toNat : Int) := by
  have := r.isLt
  rw [BitVec.toNat_setWidth, BitVec.toNat_ushiftRight, Nat.shiftRight_eq_div_pow]
  omega
theorem lo_byte (r : BitVec 16) : (r.toNat : Int) % 256 = ((r.setWidth 8 : Byte).toNat : Int) := by
  rw [BitVec.toNat_setWidth]
  omega

set_option maxHeartbeats 400000 in
theorem append16_any (a : Option Addr) (l : List Byte) (c : Nat) (w : World) (hb : Bs w w.heap.size a l) (hn : a = none → c = 0) (hm : l.length ≤ 140737488355000) :
    Calls Try.prog 18 #[.slice a l.length c] w fun e w' => ∃ v, e = .returned v ∧ Ow w' w.heap.size 5 v (ap16 l) ∧ Below w.heap.size w w' := by
  obtain ⟨hu, _, i0, hi, hz0, hz1, hz2⟩ := is_bytes
  go_enter Try.func18, Try.ntmps18
  go_wp2_with (first
    | (go_at_call 37; refine (sum16_any a l c _ _ (by assumption) (by unfold maxLen; omega)).mono ?_; rintro e w' ⟨rfl, rfl⟩)
    | (at_make; refine wpList_make_own _ rfl _ _ 22 rfl w.heap.size 5 i0 _ 1 hu hi hz0 hz1 .i64 .i64 _ (l.length + 2) rfl rfl (by omega) (by rw [hz2]; omega) (by unfold maxLen; omega) (Nat.le_refl _) ?_; intro w1 hown1 hgrow1; have bel1 := (Below.refl w.heap.size w).grown hgrow1 (Nat.le_refl _) (by simp))
    | (at_builtin; refine wpList_app _ is_bytes rfl (.tmp 11) (.tmp 12) rfl (m := []) rfl hown1 rfl (hb.below bel1) hn (by simp; omega) bel1.size ?_; intro v2 w2 hown2 hgrow2; have bel2 := bel1.grown hgrow2 bel1.size (Ow.base_le (l := []) hown1))
    | (at_builtin; refine wpList_app _ is_bytes rfl (.tmp 14) (.tmp 20) rfl (m := l) rfl (hown2.alloc _) (l := crcb (up16 0xffff#16 l)) rfl (Bs_new2 _ _ _ _ _ _ (hi_byte _) (lo_byte _)) (by simp) (by simp [crcb]; omega) (by have := bel2.size; simp; omega) ?_; intro v3 w3 hown3 hgrow3))
  go_ret
  exact ⟨v3, rfl, hown3, (bel2.alloc bel2.size _).grown hgrow3 (by have := bel2.size; simp; omega) (Ow.base_le (l := l) hown2)⟩

theorem or_join (x y : Byte) : bits .or .u16 ((x.toNat : Int) * 256) (y.toNat : Int) = (x.toNat : Int) * 256 + (y.toNat : Int) := by
  have hx := x.isLt
  have hy := y.isLt
  have e := u16_or_nat (2 ^ 8 * x.toNat) y.toNat (by omega) (by omega)
  rw [← Nat.two_pow_add_eq_or_of_lt hy] at e
  rw [show (x.toNat : Int) * 256 = ((2 ^ 8 * x.toNat : Nat) : Int) by omega, e]
  omega
theorem crcb_iff (r : BitVec 16) (x y : Byte) : crcb r = [x, y] ↔ (r.toNat : Int) = (x.toNat : Int) * 256 + (y.toNat : Int) := by
  have h1 := hi_byte r
  have h2 := lo_byte r
  have hy := y.isLt
  unfold crcb
  constructor
  · intro h
    injection h with ha hb
    injection hb with hb
    rw [ha] at h1
    rw [hb] at h2
    omega
  · intro h
    have ea : (r >>> 8).setWidth 8 = x := BitVec.eq_of_toNat_eq (by omega)
    have eb : r.setWidth 8 = y := BitVec.eq_of_toNat_eq (by omega)
    rw [ea, eb]
theorem ck_eq (l : List Byte) (n : Nat) (hl : l.length = n + 2) :
    (((up16 0xffff#16 (l.take n)).toNat : Int) == bits .or .u16 ((l[n].toNat : Int) * 256) (l[n + 1].toNat : Int)) = ck16 l := by
  rw [or_join, Bool.eq_iff_iff, beq_iff_eq, ← crcb_iff]
  have hs : l = l.take n ++ [l[n], l[n + 1]] := by
    have h1 := List.take_append_drop n l
    have h2 : l.drop n = [l[n], l[n + 1]] := by
      rw [List.drop_eq_getElem_cons (by omega), List.drop_eq_getElem_cons (by omega), List.drop_of_length_le (by omega)]
    rw [h2] at h1
    exact h1.symm
  unfold ck16 ap16
  rw [decide_eq_true_iff, show l.length - 2 = n by omega]
  constructor
  · intro h; exact ⟨by omega, by rw [h]; exact hs.symm⟩
  · rintro ⟨_, h⟩
    rw [hs] at h
    rw [List.take_left' (by rw [List.length_take]; omega)] at h
    exact List.append_cancel_left h

set_option maxHeartbeats 400000 in
theorem check16_short (a : Option Addr) (l : List Byte) (c : Nat) (w : World) (hm : l.length < 2) :
    Calls Try.prog 26 #[.slice a l.length c] w fun e w' => e = .returned (.bool false) ∧ ∃ n, w' = w.drewN n := by
  go_enter Try.func26, Try.ntmps26
  go_wp2
  go_ret
  exact ⟨rfl, 0, rfl⟩
theorem sum16_len (a : Option Addr) (l : List Byte) (len c B : Nat) (w : World) (hlen : l.length = len) (hb : Bs w B a l) (hm : len ≤ maxLen) :
    Calls Try.prog 37 #[.slice a len c] w fun e w' => e = .returned (.int .u16 ((up16 0xffff#16 l).toNat : Int)) ∧ w' = w := by
  subst hlen
  exact (sum16_any a l c B w hb hm).mono fun _ _ ⟨h1, h2⟩ => ⟨h1, h2.symm⟩

set_option maxHeartbeats 400000 in
theorem check16_long (a : Option Addr) (l : List Byte) (n c B : Nat) (w : World) (hl : Hid (l.length = n + 2)) (hb : Bs w B a l) (hn : n + 2 ≤ c) (hc : c ≤ maxLen) :
    Calls Try.prog 26 #[.slice a ((n + 2 : Nat) : Nat) c] w fun e w' => e = .returned (.bool (ck16 l)) ∧ ∃ n, w' = w.drewN n := by
  unfold maxLen at hc
  obtain ⟨b, off, rfl, _, hc1⟩ := hb.at_ (k := n) (by have := hl.out; omega)
  obtain ⟨_, _, he, _, hc2⟩ := hb.at_ (k := n + 1) (by have := hl.out; omega)
  injection he with he
  injection he with h1 h2
  subst h1 h2
  have hbt := hb.take n
  have hlt : Hid ((l.take n).length = n) := by have := hl.out; exact List.length_take_of_le (by omega)
  go_enter Try.func26, Try.ntmps26
  go_wp2
  go_quiet ((go_at_call 37; exact Calls.quiet_of_same (sum16_len _ (l.take n) _ _ _ _ hlt.out (by assumption) (by unfold maxLen; omega))))
  go_wp2
  go_ret
  exact ⟨ret_bool (ck_eq l n hl.out), nq, rfl⟩

theorem check16_any (a : Option Addr) (l : List Byte) (c B : Nat) (w : World) (hb : Bs w B a l) (hn : l.length ≤ c) (hc : c ≤ maxLen) :
    Calls Try.prog 26 #[.slice a l.length c] w fun e w' => e = .returned (.bool (ck16 l)) ∧ ∃ n, w' = w.drewN n := by
  by_cases h : l.length < 2
  · refine (check16_short a l c w h).mono fun e w' ⟨h1, h2⟩ => ⟨?_, h2⟩
    rw [h1]
    exact ret_bool (by unfold ck16; symm; rw [decide_eq_false_iff_not]; omega)
  · obtain ⟨n, hl⟩ : ∃ n, l.length = n + 2 := ⟨l.length - 2, by omega⟩
    rw [hl]
    exact check16_long a l n c B w hl hb (by omega) hc

end Go.Proofs.Ytmkmojhhfbokdaa

/-
  The walks of package tmframe's header and Encode.
-/
namespace Go.Proofs.Ytmkmojhhfbokdaa.Tmf
open Go.RowKit Go.Proofs.Ytmkmojhhfbokdaa.Pac
open Clc (Cw)

theorem mappend16_len (a : Option Addr) (l : List Byte) (n c : Nat) (w : World) (hl : l.length = n) (hb : Bs w w.heap.size a l) (hn : a = none → c = 0) (hm : n ≤ 140737488355000) :
    Calls Try.prog 18 #[.slice a n c] w fun e w' => ∃ v, e = .returned v ∧ Ow w' w.heap.size 5 v (ap16 l) ∧ Below w.heap.size w w' := by
  subst hl
  exact append16_any a l c w hb hn hm

set_option maxHeartbeats 2000000 in
theorem mheader_any (C A M Q F : Nat) (a : Option Addr) (n c : Nat) (wc : Int) (lk wt rt : Bool) (wb wn : Int) (w : World) (hC : C < 1024) (hA : A < 8) (hM : M < 256) (hQ : Q < 256) (hF : F < 2048) :
    Calls Try.prog 17 #[.agg #[.int .i64 (C : Int), .int .i64 (A : Int), .int .i64 (M : Int), .int .i64 (Q : Int), .int .i64 (F : Int), .slice a n c, .int .i64 wc, .bool lk, .bool wt, .bool rt, .int .i64 wb, .int .i64 wn]] w fun e w' => ∃ v, e = .returned v ∧ Ow w' w.heap.size 5 v (hdr6 (hw C A) M Q (sw F)) ∧ Below w.heap.size w w' := by
  obtain ⟨w1, hw1⟩ : ∃ w1, w1 = w.alloc (.cells #[.int .i64 (C : Int), .int .i64 (A : Int), .int .i64 (M : Int), .int .i64 (Q : Int), .int .i64 (F : Int), .slice a n c, .int .i64 wc, .bool lk, .bool wt, .bool rt, .int .i64 wb, .int .i64 wn] 26) := ⟨_, rfl⟩
  have hP : Cel w1 w.heap.size 26 #[.int .i64 (C : Int), .int .i64 (A : Int), .int .i64 (M : Int), .int .i64 (Q : Int), .int .i64 (F : Int), .slice a n c, .int .i64 wc, .bool lk, .bool wt, .bool rt, .int .i64 wb, .int .i64 wn] := by rw [hw1]; exact Cel.new _ _ _
  have bel1 : Below w.heap.size w w1 := by rw [hw1]; exact bel_new _ _
  have hlt := hP.lt
  have c0 := hP.cell 0
  have c1 := hP.cell 1
  have c2 := hP.cell 2
  have c3 := hP.cell 3
  have c4 := hP.cell 4
  simp at c0 c1 c2 c3 c4
  have k0 := to_u64 C (by omega)
  have k1 := to_u64 A (by omega)
  have k2 := to_u64 M (by omega)
  have k3 := to_u64 Q (by omega)
  have k4 := to_u64 F (by omega)
  clear hP
  go_enter Try.func17, Try.ntmps17
  go_wp2_with fail
  rw [← hw1]
  refine (newWriter_any w1).mono ?_
  rintro e W0 ⟨rfl, hW0⟩
  have s0 : WS w1.heap.size w1 w1.heap.size [] W0 := by rw [← hW0]; exact WS.new (Below.refl _ _) (Nat.le_refl _)
  clear hW0 hw1
  go_wp2_with fail
  refine (s0.put (0) (0) rfl 2 2 rfl (by omega) (by omega) (by simp)).mono ?_
  rintro e W1 ⟨rfl, s1⟩
  have HB := s1.2.2
  clear s0
  have d0 := (HB.cell (p := ⟨w.heap.size, 0, none⟩) hlt).trans c0
  have d1 := (HB.cell (p := ⟨w.heap.size, 1, none⟩) hlt).trans c1
  go_wp2_with fail
  refine wp_region_held_drew (S := (fun w' => w'.cell? ⟨w.heap.size, 0, none⟩ = some (.int .i64 (C : Int)) ∧ w'.cell? ⟨w.heap.size, 1, none⟩ = some (.int .i64 (A : Int)))) (by kernel_rfl) (⟨d0, d1⟩) (fun hHeld => ?_)
  refine wpAnyH_here 0 (v := ?_) rfl (by kernel_rfl) (by kernel_rfl) (by kernel_rfl) (fun _ _ _ h => h) (Or.inl ⟨by rfl, ?_⟩) hHeld ?_
  rotate_left
  · intro w hSw; (try dsimp only at hSw); go_simp; all_goals (with_reducible rfl)
  try simp only [Act.put, List.setIfInBounds_toArray, List.set_cons_zero, List.set_cons_succ]
  refine wpAnyH_here 1 (v := ?_) rfl (by kernel_rfl) (by kernel_rfl) (by kernel_rfl) (fun _ _ _ h => h) (Or.inl ⟨by rfl, ?_⟩) hHeld ?_
  rotate_left
  · intro w hSw; (try dsimp only at hSw); go_simp; all_goals (with_reducible rfl)
  try simp only [Act.put, List.setIfInBounds_toArray, List.set_cons_zero, List.set_cons_succ]
  refine wpAnyH_here 2 (v := ?_) rfl (by kernel_rfl) (by kernel_rfl) (by kernel_rfl) (fun _ _ _ h => h) (Or.inl ⟨by rfl, ?_⟩) hHeld ?_
  rotate_left
  · intro w hSw; (try dsimp only at hSw); go_simp; all_goals (with_reducible rfl)
  try simp only [Act.put, List.setIfInBounds_toArray, List.set_cons_zero, List.set_cons_succ]
  refine wpAnyH_here 3 (v := ?_) rfl (by kernel_rfl) (by kernel_rfl) (by kernel_rfl) (fun _ _ _ h => h) (Or.inl ⟨by rfl, ?_⟩) hHeld ?_
  rotate_left
  · intro w hSw; (try dsimp only at hSw); go_simp; all_goals (with_reducible rfl)
  try simp only [Act.put, List.setIfInBounds_toArray, List.set_cons_zero, List.set_cons_succ]
  refine wpAnyH_here 5 (v := ?_) rfl (by kernel_rfl) (by kernel_rfl) (by kernel_rfl) (fun _ _ _ h => h) (Or.inl ⟨by rfl, ?_⟩) hHeld ?_
  rotate_left
  · intro w hSw; (try dsimp only at hSw); go_simp; all_goals (with_reducible rfl)
  try simp only [Act.put, List.setIfInBounds_toArray, List.set_cons_zero, List.set_cons_succ]
  refine wpAnyH_here 6 (v := ?_) rfl (by kernel_rfl) (by kernel_rfl) (by kernel_rfl) (fun _ _ _ h => h) (Or.inl ⟨by rfl, ?_⟩) hHeld ?_
  rotate_left
  · intro w hSw; (try dsimp only at hSw); go_simp; all_goals (with_reducible rfl)
  try simp only [Act.put, List.setIfInBounds_toArray, List.set_cons_zero, List.set_cons_succ]
  refine wpAnyH_here 7 (v := ?_) rfl (by kernel_rfl) (by kernel_rfl) (by kernel_rfl) (fun _ _ _ h => h) (Or.inl ⟨by rfl, ?_⟩) hHeld ?_
  rotate_left
  · intro w hSw; (try dsimp only at hSw); go_simp; all_goals (with_reducible rfl)
  try simp only [Act.put, List.setIfInBounds_toArray, List.set_cons_zero, List.set_cons_succ]
  refine wpAnyH_alone 4 rfl (by kernel_rfl) (fun K hK => ?_)
  go_simp
  (go_at_call 34; refine (s1.draws.put ((C : Int)) (C) rfl 10 10 rfl (by omega) (by omega) (by simp [bitsOf_len])).mono ?_; rintro e W2 ⟨rfl, s2⟩; have HB := s2.2.2)
  refine hK.out _ _ (⟨(HB.cell (p := ⟨w.heap.size, 0, none⟩) hlt).trans c0, (HB.cell (p := ⟨w.heap.size, 1, none⟩) hlt).trans c1⟩) (fun hHeld => ?_)
  clear hK K
  try simp only [Act.put, List.setIfInBounds_toArray, List.set_cons_zero, List.set_cons_succ]
  refine wpAnyH_alone 8 rfl (by kernel_rfl) (fun K hK => ?_)
  go_simp
  (go_at_call 34; refine (s2.put ((A : Int)) (A) rfl 3 3 rfl (by omega) (by omega) (by simp [bitsOf_len])).mono ?_; rintro e W3 ⟨rfl, s3⟩; have HB := s3.2.2)
  refine hK.out _ _ (⟨(HB.cell (p := ⟨w.heap.size, 0, none⟩) hlt).trans c0, (HB.cell (p := ⟨w.heap.size, 1, none⟩) hlt).trans c1⟩) (fun hHeld => ?_)
  clear hK K
  try simp only [Act.put, List.setIfInBounds_toArray, List.set_cons_zero, List.set_cons_succ]
  refine wpAnyH_alone 9 rfl (by kernel_rfl) (fun K hK => ?_)
  go_simp
  (go_at_call 34; refine (s3.put (1) (1) rfl 1 1 rfl (by omega) (by omega) (by simp [bitsOf_len])).mono ?_; rintro e W4 ⟨rfl, s4⟩; have HB := s4.2.2)
  refine hK.out _ _ (⟨(HB.cell (p := ⟨w.heap.size, 0, none⟩) hlt).trans c0, (HB.cell (p := ⟨w.heap.size, 1, none⟩) hlt).trans c1⟩) (fun hHeld => ?_)
  clear hK K
  try simp only [Act.put, List.setIfInBounds_toArray, List.set_cons_zero, List.set_cons_succ]
  refine wpAnyH_done (by kernel_rfl) ?_ _
  clear d0 d1
  have d2 := (HB.cell (p := ⟨w.heap.size, 2, none⟩) hlt).trans c2
  have d3 := (HB.cell (p := ⟨w.heap.size, 3, none⟩) hlt).trans c3
  go_wp2_with fail
  refine wp_region_held_drew (S := (fun w' => w'.cell? ⟨w.heap.size, 2, none⟩ = some (.int .i64 (M : Int)) ∧ w'.cell? ⟨w.heap.size, 3, none⟩ = some (.int .i64 (Q : Int)))) (by kernel_rfl) (⟨d2, d3⟩) (fun hHeld => ?_)
  refine wpAnyH_here 0 (v := ?_) rfl (by kernel_rfl) (by kernel_rfl) (by kernel_rfl) (fun _ _ _ h => h) (Or.inl ⟨by rfl, ?_⟩) hHeld ?_
  rotate_left
  · intro w hSw; (try dsimp only at hSw); go_simp; all_goals (with_reducible rfl)
  try simp only [Act.put, List.setIfInBounds_toArray, List.set_cons_zero, List.set_cons_succ]
  refine wpAnyH_here 1 (v := ?_) rfl (by kernel_rfl) (by kernel_rfl) (by kernel_rfl) (fun _ _ _ h => h) (Or.inl ⟨by rfl, ?_⟩) hHeld ?_
  rotate_left
  · intro w hSw; (try dsimp only at hSw); go_simp; all_goals (with_reducible rfl)
  try simp only [Act.put, List.setIfInBounds_toArray, List.set_cons_zero, List.set_cons_succ]
  refine wpAnyH_here 2 (v := ?_) rfl (by kernel_rfl) (by kernel_rfl) (by kernel_rfl) (fun _ _ _ h => h) (Or.inl ⟨by rfl, ?_⟩) hHeld ?_
  rotate_left
  · intro w hSw; (try dsimp only at hSw); go_simp; all_goals (with_reducible rfl)
  try simp only [Act.put, List.setIfInBounds_toArray, List.set_cons_zero, List.set_cons_succ]
  refine wpAnyH_here 3 (v := ?_) rfl (by kernel_rfl) (by kernel_rfl) (by kernel_rfl) (fun _ _ _ h => h) (Or.inl ⟨by rfl, ?_⟩) hHeld ?_
  rotate_left
  · intro w hSw; (try dsimp only at hSw); go_simp; all_goals (with_reducible rfl)
  try simp only [Act.put, List.setIfInBounds_toArray, List.set_cons_zero, List.set_cons_succ]
  refine wpAnyH_here 5 (v := ?_) rfl (by kernel_rfl) (by kernel_rfl) (by kernel_rfl) (fun _ _ _ h => h) (Or.inl ⟨by rfl, ?_⟩) hHeld ?_
  rotate_left
  · intro w hSw; (try dsimp only at hSw); go_simp; all_goals (with_reducible rfl)
  try simp only [Act.put, List.setIfInBounds_toArray, List.set_cons_zero, List.set_cons_succ]
  refine wpAnyH_here 6 (v := ?_) rfl (by kernel_rfl) (by kernel_rfl) (by kernel_rfl) (fun _ _ _ h => h) (Or.inl ⟨by rfl, ?_⟩) hHeld ?_
  rotate_left
  · intro w hSw; (try dsimp only at hSw); go_simp; all_goals (with_reducible rfl)
  try simp only [Act.put, List.setIfInBounds_toArray, List.set_cons_zero, List.set_cons_succ]
  refine wpAnyH_here 7 (v := ?_) rfl (by kernel_rfl) (by kernel_rfl) (by kernel_rfl) (fun _ _ _ h => h) (Or.inl ⟨by rfl, ?_⟩) hHeld ?_
  rotate_left
  · intro w hSw; (try dsimp only at hSw); go_simp; all_goals (with_reducible rfl)
  try simp only [Act.put, List.setIfInBounds_toArray, List.set_cons_zero, List.set_cons_succ]
  refine wpAnyH_alone 4 rfl (by kernel_rfl) (fun K hK => ?_)
  go_simp
  (go_at_call 34; refine (s4.draws.put ((M : Int)) (M) rfl 8 8 rfl (by omega) (by omega) (by simp [bitsOf_len])).mono ?_; rintro e W5 ⟨rfl, s5⟩; have HB := s5.2.2)
  refine hK.out _ _ (⟨(HB.cell (p := ⟨w.heap.size, 2, none⟩) hlt).trans c2, (HB.cell (p := ⟨w.heap.size, 3, none⟩) hlt).trans c3⟩) (fun hHeld => ?_)
  clear hK K
  try simp only [Act.put, List.setIfInBounds_toArray, List.set_cons_zero, List.set_cons_succ]
  refine wpAnyH_alone 8 rfl (by kernel_rfl) (fun K hK => ?_)
  go_simp
  (go_at_call 34; refine (s5.put ((Q : Int)) (Q) rfl 8 8 rfl (by omega) (by omega) (by simp [bitsOf_len])).mono ?_; rintro e W6 ⟨rfl, s6⟩; have HB := s6.2.2)
  refine hK.out _ _ (⟨(HB.cell (p := ⟨w.heap.size, 2, none⟩) hlt).trans c2, (HB.cell (p := ⟨w.heap.size, 3, none⟩) hlt).trans c3⟩) (fun hHeld => ?_)
  clear hK K
  try simp only [Act.put, List.setIfInBounds_toArray, List.set_cons_zero, List.set_cons_succ]
  refine wpAnyH_done (by kernel_rfl) ?_ _
  clear d2 d3
  have d4 := (HB.cell (p := ⟨w.heap.size, 4, none⟩) hlt).trans c4
  go_wp2_with fail
  refine wp_region_held_drew (S := (fun w' => w'.cell? ⟨w.heap.size, 4, none⟩ = some (.int .i64 (F : Int)))) (by kernel_rfl) (d4) (fun hHeld => ?_)
  refine wpAnyH_here 0 (v := ?_) rfl (by kernel_rfl) (by kernel_rfl) (by kernel_rfl) (fun _ _ _ h => h) (Or.inl ⟨by rfl, ?_⟩) hHeld ?_
  rotate_left
  · intro w hSw; (try dsimp only at hSw); go_simp; all_goals (with_reducible rfl)
  try simp only [Act.put, List.setIfInBounds_toArray, List.set_cons_zero, List.set_cons_succ]
  refine wpAnyH_here 2 (v := ?_) rfl (by kernel_rfl) (by kernel_rfl) (by kernel_rfl) (fun _ _ _ h => h) (Or.inl ⟨by rfl, ?_⟩) hHeld ?_
  rotate_left
  · intro w hSw; (try dsimp only at hSw); go_simp; all_goals (with_reducible rfl)
  try simp only [Act.put, List.setIfInBounds_toArray, List.set_cons_zero, List.set_cons_succ]
  refine wpAnyH_here 3 (v := ?_) rfl (by kernel_rfl) (by kernel_rfl) (by kernel_rfl) (fun _ _ _ h => h) (Or.inl ⟨by rfl, ?_⟩) hHeld ?_
  rotate_left
  · intro w hSw; (try dsimp only at hSw); go_simp; all_goals (with_reducible rfl)
  try simp only [Act.put, List.setIfInBounds_toArray, List.set_cons_zero, List.set_cons_succ]
  refine wpAnyH_here 4 (v := ?_) rfl (by kernel_rfl) (by kernel_rfl) (by kernel_rfl) (fun _ _ _ h => h) (Or.inl ⟨by rfl, ?_⟩) hHeld ?_
  rotate_left
  · intro w hSw; (try dsimp only at hSw); go_simp; all_goals (with_reducible rfl)
  try simp only [Act.put, List.setIfInBounds_toArray, List.set_cons_zero, List.set_cons_succ]
  refine wpAnyH_alone 1 rfl (by kernel_rfl) (fun K hK => ?_)
  go_simp
  (go_at_call 34; refine (s6.draws.put (3) (3) rfl 5 5 rfl (by omega) (by omega) (by simp [bitsOf_len])).mono ?_; rintro e W7 ⟨rfl, s7⟩; have HB := s7.2.2)
  refine hK.out _ _ ((HB.cell (p := ⟨w.heap.size, 4, none⟩) hlt).trans c4) (fun hHeld => ?_)
  clear hK K
  try simp only [Act.put, List.setIfInBounds_toArray, List.set_cons_zero, List.set_cons_succ]
  refine wpAnyH_alone 5 rfl (by kernel_rfl) (fun K hK => ?_)
  go_simp
  (go_at_call 34; refine (s7.put ((F : Int)) (F) rfl 11 11 rfl (by omega) (by omega) (by simp [bitsOf_len])).mono ?_; rintro e W8 ⟨rfl, s8⟩; have HB := s8.2.2)
  refine hK.out _ _ ((HB.cell (p := ⟨w.heap.size, 4, none⟩) hlt).trans c4) (fun hHeld => ?_)
  clear hK K
  try simp only [Act.put, List.setIfInBounds_toArray, List.set_cons_zero, List.set_cons_succ]
  refine wpAnyH_alone 6 rfl (by kernel_rfl) (fun K hK => ?_)
  go_simp
  (go_at_call 36; refine (s8.bytes (by simp [bitsOf_len])).mono ?_; rintro e W9 ⟨v, bs, rfl, hpk, hown, hb9⟩; have HB := HB.trans (hb9.mono (Nat.le_of_lt s8.size)))
  refine hK.out _ _ ((HB.cell (p := ⟨w.heap.size, 4, none⟩) hlt).trans c4) (fun hHeld => ?_)
  clear hK K
  try simp only [Act.put, List.setIfInBounds_toArray, List.set_cons_zero, List.set_cons_succ]
  refine wpAnyH_here 7 (v := ?_) rfl (by kernel_rfl) (by kernel_rfl) (by kernel_rfl) (fun _ _ _ h => h) (Or.inl ⟨by rfl, ?_⟩) hHeld ?_
  rotate_left
  · intro w hSw; (try dsimp only at hSw); go_simp; all_goals (with_reducible rfl)
  try simp only [Act.put, List.setIfInBounds_toArray, List.set_cons_zero, List.set_cons_succ]
  refine wpAnyH_done (by kernel_rfl) ?_ _
  clear d4
  go_wp2
  go_ret
  have hbs := head_of C A M Q F hC hA hF hpk
  subst hbs
  have hz := s8.size
  exact ⟨v, rfl, hown.more (by omega), bel1.trans (HB.mono (by omega))⟩

set_option maxHeartbeats 1000000 in
theorem mencode_no (cr ch ma ct fi : Int) (a : Option Addr) (l : List Byte) (n c : Nat) (wc : Int) (lk wt rt : Bool) (wb wn : Int) (w : World) (hl : Hid (l.length = n)) (hm : n ≤ maxLen) (hok : Fr.ok ⟨cr, ch, ma, ct, fi, l, ⟨wc, lk, wt, rt, wb, wn⟩⟩ = false) :
    Calls Try.prog 9 #[.agg #[.int .i64 cr, .int .i64 ch, .int .i64 ma, .int .i64 ct, .int .i64 fi, .slice a n c, .int .i64 wc, .bool lk, .bool wt, .bool rt, .int .i64 wb, .int .i64 wn]] w fun e w' => e = .returned (.tuple #[.slice none 0 0, .int .i64 1]) ∧ Below w.heap.size w w' := by
  have hv := fun W => mvalid_any cr ch ma ct fi a l n c wc lk wt rt wb wn W hl hm
  rw [hok] at hv
  clear hok hl hm
  go_enter Try.func9, Try.ntmps9
  go_wp2_with fail
  refine (hv _).mono ?_
  rintro e w' ⟨rfl, hbe⟩
  go_wp2
  go_ret2
  exact ⟨rfl, (bel_new _ _).trans (hbe.mono (bel_new _ _).size)⟩

set_option maxHeartbeats 2000000 in
theorem mencode_yes (C A M Q F : Nat) (a : Option Addr) (l : List Byte) (n c : Nat) (wc : Int) (lk wt rt : Bool) (wb wn : Int) (w : World) (hl : Hid (l.length = n)) (hb : Bs w w.heap.size a l) (hn : a = none → c = 0) (hok : Fr.ok ⟨C, A, M, Q, F, l, ⟨wc, lk, wt, rt, wb, wn⟩⟩ = true) (hcw : Cw.ok ⟨wc, lk, wt, rt, wb, wn⟩ = true) (hC : C < 1024) (hA : A < 8) (hM : M < 256) (hQ : Q < 256) (hF : F < 2048) (hN : n ≤ 1012) :
    Calls Try.prog 9 #[.agg #[.int .i64 (C : Int), .int .i64 (A : Int), .int .i64 (M : Int), .int .i64 (Q : Int), .int .i64 (F : Int), .slice a n c, .int .i64 wc, .bool lk, .bool wt, .bool rt, .int .i64 wb, .int .i64 wn]] w fun e w' => ∃ v, e = .returned (.tuple #[v, .int .i64 0]) ∧ Ow w' w.heap.size 5 v (ap16 (hdr6 (hw C A) M Q (sw F) ++ l ++ Cw.word ⟨wc, lk, wt, rt, wb, wn⟩)) ∧ Below w.heap.size w w' := by
  have hv := fun W => mvalid_any (C : Int) (A : Int) (M : Int) (Q : Int) (F : Int) a l n c wc lk wt rt wb wn W hl (by unfold maxLen; omega)
  rw [hok] at hv
  have hce := fun W => Clc.cencode_any wc lk wt rt wb wn W
  rw [Cw.enc_yes hcw, Cw.err_yes hcw] at hce
  obtain ⟨cw, hcwE⟩ : ∃ cw, cw = Cw.word ⟨wc, lk, wt, rt, wb, wn⟩ := ⟨_, rfl⟩
  have hcl : cw.length = 4 := by rw [hcwE]; rfl
  rw [← hcwE] at hce ⊢
  have hhd := fun W => mheader_any C A M Q F a n c wc lk wt rt wb wn W hC hA hM hQ hF
  obtain ⟨hdr, hhdE⟩ : ∃ hdr, hdr = hdr6 (hw C A) M Q (sw F) := ⟨_, rfl⟩
  have hhl : hdr.length = 6 := by rw [hhdE]; rfl
  rw [← hhdE] at hhd ⊢
  have hEl : (hdr ++ l ++ cw).length = n + 10 := by rw [List.length_append, List.length_append, hl.out, hhl, hcl]; omega
  have hE1 : (hdr ++ l).length = n + 6 := by rw [List.length_append, hl.out, hhl]; omega
  have HL := Lib.hid hEl
  have HL1 := Lib.hid hE1
  have HC := Lib.hid hcl
  have HH := Lib.hid hhl
  have hP0 := Cel.new w 26 #[.int .i64 (C : Int), .int .i64 (A : Int), .int .i64 (M : Int), .int .i64 (Q : Int), .int .i64 (F : Int), .slice a n c, .int .i64 wc, .bool lk, .bool wt, .bool rt, .int .i64 wb, .int .i64 wn]
  clear hok hcw hcwE hcl hhdE hhl hEl hE1 hC hA hM hQ hF
  go_enter Try.func9, Try.ntmps9
  go_wp2_with fail
  refine (hv _).mono ?_
  rintro e w1 ⟨rfl, hbe⟩
  have hP := Cel.later hP0 hbe
  have bel1 := (bel_new w (.cells #[.int .i64 (C : Int), .int .i64 (A : Int), .int .i64 (M : Int), .int .i64 (Q : Int), .int .i64 (F : Int), .slice a n c, .int .i64 wc, .bool lk, .bool wt, .bool rt, .int .i64 wb, .int .i64 wn] 26)).trans (hbe.mono (bel_new w _).size)
  have c0 := hP.cell 0
  have c1 := hP.cell 1
  have c2 := hP.cell 2
  have c3 := hP.cell 3
  have c4 := hP.cell 4
  have c5 := hP.cell 5
  have c6 := hP.cell 6
  have c7 := hP.cell 7
  have c8 := hP.cell 8
  have c9 := hP.cell 9
  have c10 := hP.cell 10
  have c11 := hP.cell 11
  simp at c0 c1 c2 c3 c4 c5 c6 c7 c8 c9 c10 c11
  clear hv hP0 hbe
  go_wp2_with fail
  refine (hce _).mono ?_
  rintro e w2 ⟨vc, rfl, hownc, hb2⟩
  obtain ⟨Ac, cc, rfl, hRc⟩ := Rd.of hownc HC.out
  have hP2 := Cel.later hP hb2
  have bel2 := bel1.trans (hb2.mono bel1.size)
  have hlt := hP2.lt
  clear hP hce hownc c0 c1 c2 c3 c4 c5 c6 c7 c8 c9 c10 c11
  have c0 := hP2.cell 0
  have c1 := hP2.cell 1
  have c2 := hP2.cell 2
  have c3 := hP2.cell 3
  have c4 := hP2.cell 4
  have c5 := hP2.cell 5
  have c6 := hP2.cell 6
  have c7 := hP2.cell 7
  have c8 := hP2.cell 8
  have c9 := hP2.cell 9
  have c10 := hP2.cell 10
  have c11 := hP2.cell 11
  simp at c0 c1 c2 c3 c4 c5 c6 c7 c8 c9 c10 c11
  go_wp2_with fail
  refine wp_region_held_drew (S := (fun w' => w'.cell? ⟨w.heap.size, 0, none⟩ = some (.int .i64 (C : Int)) ∧ w'.cell? ⟨w.heap.size, 1, none⟩ = some (.int .i64 (A : Int)) ∧ w'.cell? ⟨w.heap.size, 2, none⟩ = some (.int .i64 (M : Int)) ∧ w'.cell? ⟨w.heap.size, 3, none⟩ = some (.int .i64 (Q : Int)) ∧ w'.cell? ⟨w.heap.size, 4, none⟩ = some (.int .i64 (F : Int)) ∧ w'.cell? ⟨w.heap.size, 5, none⟩ = some (.slice a n c) ∧ w'.cell? ⟨w.heap.size, 6, none⟩ = some (.int .i64 wc) ∧ w'.cell? ⟨w.heap.size, 7, none⟩ = some (.bool lk) ∧ w'.cell? ⟨w.heap.size, 8, none⟩ = some (.bool wt) ∧ w'.cell? ⟨w.heap.size, 9, none⟩ = some (.bool rt) ∧ w'.cell? ⟨w.heap.size, 10, none⟩ = some (.int .i64 wb) ∧ w'.cell? ⟨w.heap.size, 11, none⟩ = some (.int .i64 wn))) (by kernel_rfl) (⟨c0, c1, c2, c3, c4, c5, c6, c7, c8, c9, c10, c11⟩) (fun hHeld => ?_)
  refine wpAnyH_here 0 (v := ?_) rfl (by kernel_rfl) (by kernel_rfl) (by kernel_rfl) (fun _ _ _ h => h) (Or.inl ⟨by rfl, ?_⟩) hHeld ?_
  rotate_left
  · intro w hSw; (try dsimp only at hSw); go_simp; all_goals (with_reducible rfl)
  try simp only [Act.put, List.setIfInBounds_toArray, List.set_cons_zero, List.set_cons_succ]
  refine wpAnyH_here 2 (v := ?_) rfl (by kernel_rfl) (by kernel_rfl) (by kernel_rfl) (fun _ _ _ h => h) (Or.inl ⟨by rfl, ?_⟩) hHeld ?_
  rotate_left
  · intro w hSw; (try dsimp only at hSw); go_simp; all_goals (with_reducible rfl)
  try simp only [Act.put, List.setIfInBounds_toArray, List.set_cons_zero, List.set_cons_succ]
  refine wpAnyH_here 3 (v := ?_) rfl (by kernel_rfl) (by kernel_rfl) (by kernel_rfl) (fun _ _ _ h => h) (Or.inl ⟨by rfl, ?_⟩) hHeld ?_
  rotate_left
  · intro w hSw; (try dsimp only at hSw); go_simp; all_goals (with_reducible rfl)
  try simp only [Act.put, List.setIfInBounds_toArray, List.set_cons_zero, List.set_cons_succ]
  refine wpAnyH_alone 1 rfl (by kernel_rfl) (fun K hK => ?_)
  go_simp
  (go_at_call 17; refine (hhd _).mono ?_; rintro e w3 ⟨vh, rfl, hownh, hb3⟩; obtain ⟨q1, q2, rfl, _⟩ := hownh.reads_len HH.out; have HB := (Below.refl w2.heap.size w2).drew.trans (hb3.mono (Nat.le_refl _)))
  refine hK.out _ _ (⟨(HB.cell (p := ⟨w.heap.size, 0, none⟩) hlt).trans c0, (HB.cell (p := ⟨w.heap.size, 1, none⟩) hlt).trans c1, (HB.cell (p := ⟨w.heap.size, 2, none⟩) hlt).trans c2, (HB.cell (p := ⟨w.heap.size, 3, none⟩) hlt).trans c3, (HB.cell (p := ⟨w.heap.size, 4, none⟩) hlt).trans c4, (HB.cell (p := ⟨w.heap.size, 5, none⟩) hlt).trans c5, (HB.cell (p := ⟨w.heap.size, 6, none⟩) hlt).trans c6, (HB.cell (p := ⟨w.heap.size, 7, none⟩) hlt).trans c7, (HB.cell (p := ⟨w.heap.size, 8, none⟩) hlt).trans c8, (HB.cell (p := ⟨w.heap.size, 9, none⟩) hlt).trans c9, (HB.cell (p := ⟨w.heap.size, 10, none⟩) hlt).trans c10, (HB.cell (p := ⟨w.heap.size, 11, none⟩) hlt).trans c11⟩) (fun hHeld => ?_)
  clear hK K
  try simp only [Act.put, List.setIfInBounds_toArray, List.set_cons_zero, List.set_cons_succ]
  have hbl : Bs w3 w.heap.size a l := hb.below (bel2.trans (HB.mono (Nat.le_of_lt hlt)))
  have hz2 : w.heap.size ≤ w2.heap.size := Nat.le_of_lt hlt
  have hz3 : w2.heap.size ≤ w3.heap.size := HB.size
  refine wpAnyH_alone 4 rfl (by kernel_rfl) (fun K' hK' => ?_)
  refine step_app _ is_bytes rfl (.tmp 17) (.tmp 19) rfl (m := hdr) rfl (hownh.more (b' := w2.heap.size) (Nat.le_refl _)) (l := l) (A := a) (c := c) (by rw [hl.out]; rfl) hbl hn (by rw [HH.out, hl.out]; omega) hz3 ?_
  intro v4 w4 hown4 hgr
  have HB4 := HB.grown hgr hz3 (fun i hi => hownh.base_le i hi)
  obtain ⟨A4, c4', rfl, _⟩ := hown4.reads_len HL1.out
  refine hK'.out _ _ (⟨(HB4.cell (p := ⟨w.heap.size, 0, none⟩) hlt).trans c0, (HB4.cell (p := ⟨w.heap.size, 1, none⟩) hlt).trans c1, (HB4.cell (p := ⟨w.heap.size, 2, none⟩) hlt).trans c2, (HB4.cell (p := ⟨w.heap.size, 3, none⟩) hlt).trans c3, (HB4.cell (p := ⟨w.heap.size, 4, none⟩) hlt).trans c4, (HB4.cell (p := ⟨w.heap.size, 5, none⟩) hlt).trans c5, (HB4.cell (p := ⟨w.heap.size, 6, none⟩) hlt).trans c6, (HB4.cell (p := ⟨w.heap.size, 7, none⟩) hlt).trans c7, (HB4.cell (p := ⟨w.heap.size, 8, none⟩) hlt).trans c8, (HB4.cell (p := ⟨w.heap.size, 9, none⟩) hlt).trans c9, (HB4.cell (p := ⟨w.heap.size, 10, none⟩) hlt).trans c10, (HB4.cell (p := ⟨w.heap.size, 11, none⟩) hlt).trans c11⟩) (fun hHeld => ?_)
  clear hK' K'
  try simp only [Act.put, List.setIfInBounds_toArray, List.set_cons_zero, List.set_cons_succ]
  refine wpAnyH_here 5 (v := ?_) rfl (by kernel_rfl) (by kernel_rfl) (by kernel_rfl) (fun _ _ _ h => h) (Or.inl ⟨by rfl, ?_⟩) hHeld ?_
  rotate_left
  · intro w hSw; (try dsimp only at hSw); go_simp; all_goals (with_reducible rfl)
  try simp only [Act.put, List.setIfInBounds_toArray, List.set_cons_zero, List.set_cons_succ]
  refine wpAnyH_done (by kernel_rfl) ?_ _
  clear hP2 c0 c1 c2 c3 c4 c5 c6 c7 c8 c9 c10 c11
  have hRc4 := hRc.later HB4
  have hz4 : w2.heap.size ≤ w4.heap.size := HB4.size
  go_wp2_with (at_builtin; refine wpList_app _ is_bytes rfl (.tmp 21) (.tmp 22) rfl (m := hdr ++ l) rfl hown4 (l := cw) (A := Ac) (c := cc) (by rw [HC.out]; rfl) hRc4.bs hRc4.nil (by rw [HL1.out, HC.out]; omega) hz4 ?_; intro v5 w5 hown5 hgr5; have HB5 := HB4.grown hgr5 hz4 hown4.base_le; obtain ⟨A5, c5', rfl, hA5, hn5, _, _⟩ := hown5.reads_len HL.out)
  refine (mappend16_len A5 (hdr ++ l ++ cw) (n + 10) c5' _ HL.out hA5 hn5 (by omega)).mono ?_
  rintro e w6 ⟨v6, rfl, hown6, hb6⟩
  go_wp2
  go_ret2
  exact ⟨v6, rfl, hown6.more (Nat.le_trans hz2 HB5.size), bel2.trans ((HB5.mono hz2).trans (hb6.mono (Nat.le_trans hz2 HB5.size)))⟩

theorem mencode_any (cr ch ma ct fi : Int) (a : Option Addr) (l : List Byte) (n c : Nat) (wc : Int) (lk wt rt : Bool) (wb wn : Int) (w : World) (hl : Hid (l.length = n)) (hb : Bs w w.heap.size a l) (hn : a = none → c = 0) (hm : n ≤ maxLen) :
    Calls Try.prog 9 #[.agg #[.int .i64 cr, .int .i64 ch, .int .i64 ma, .int .i64 ct, .int .i64 fi, .slice a n c, .int .i64 wc, .bool lk, .bool wt, .bool rt, .int .i64 wb, .int .i64 wn]] w fun e w' => ∃ v, e = .returned (.tuple #[v, .int .i64 (Fr.err ⟨cr, ch, ma, ct, fi, l, ⟨wc, lk, wt, rt, wb, wn⟩⟩)]) ∧ Ow w' w.heap.size 5 v (Fr.enc ⟨cr, ch, ma, ct, fi, l, ⟨wc, lk, wt, rt, wb, wn⟩⟩) ∧ Below w.heap.size w w' := by
  cases hok : Fr.ok ⟨cr, ch, ma, ct, fi, l, ⟨wc, lk, wt, rt, wb, wn⟩⟩ with
  | false =>
    rw [Fr.enc_no hok, Fr.err_no hok]
    exact (mencode_no cr ch ma ct fi a l n c wc lk wt rt wb wn w hl hm hok).mono fun e w' ⟨h1, h2⟩ => ⟨_, h1, Ow_nil _ _, h2⟩
  | true =>
    rw [Fr.enc_yes hok, Fr.err_yes hok]
    obtain ⟨⟨h1, h2, h3, h4⟩, ⟨h5, h6, h7, h8, h9, h10⟩, ⟨h11, h12⟩, h13⟩ := Fr.ok_fits hok
    simp only at h1 h2 h3 h4 h5 h6 h7 h8 h9 h10 h11 h12 h13
    have hln := hl.out
    obtain ⟨C, rfl⟩ := Int.eq_ofNat_of_zero_le h1
    obtain ⟨A, rfl⟩ := Int.eq_ofNat_of_zero_le h3
    obtain ⟨M, rfl⟩ := Int.eq_ofNat_of_zero_le h5
    obtain ⟨Q, rfl⟩ := Int.eq_ofNat_of_zero_le h7
    obtain ⟨F, rfl⟩ := Int.eq_ofNat_of_zero_le h9
    exact mencode_yes C A M Q F a l n c wc lk wt rt wb wn w hl hb hn hok (Cw.ok_yes h13) (by omega) (by omega) (by omega) (by omega) (by omega) (by omega)
end Go.Proofs.Ytmkmojhhfbokdaa.Tmf

/-
  The walks of the reference of chapter 2: its Writer and its Reader, which go bit by bit; two byte strings compared; the low bits of a number.
-/
namespace Go.Proofs.Ytmkmojhhfbokdaa
open Go.RowKit

def bit8 (b : Bool) : Byte := if b then 1#8 else 0#8

/-- block g is a reference Writer that holds the bits L; they lie in block r -/
def XAt (w : World) (base g : Nat) (r : Option Nat) (L : List Bool) : Prop :=
  ∃ v, Cel w g 42 #[v] ∧ Ow w base 5 v (L.map bit8) ∧ v.ownBlock = r
section
variable {w w' : World} {base g : Nat} {r : Option Nat} {L : List Bool} {S : List Nat}
theorem XAt.lt (h : XAt w base g r L) : g < w.heap.size := by
  obtain ⟨v, hc, _⟩ := h
  exact hc.lt
theorem XAt.row (h : XAt w base g r L) : ∀ i, r = some i → base ≤ i ∧ i < w.heap.size ∧ i ≠ g := by
  obtain ⟨v, hc, ho, rfl⟩ := h
  intro i hi
  have := ho.lt i hi
  exact ⟨this.1, this.2, fun e => ho.apart hc (by decide) (by rw [hi, e])⟩
theorem XAt.only (h : XAt w base g r L) (k : Only S w w') (hg : g ∉ S) (hr : ∀ i, r = some i → i ∉ S) : XAt w' base g r L := by
  obtain ⟨v, hc, ho, rfl⟩ := h
  exact ⟨v, hc.only k hg, ho.only k hr, rfl⟩
theorem XAt.draws (h : XAt w base g r L) (n : Nat) : XAt (w.drewN n) base g r L := h
end

/-- what the reference's Put leaves -/
def XPut (w : World) (base g : Nat) (r : Option Nat) (L : List Bool) (wr : World) : Prop :=
  ∃ r', XAt wr base g r' L ∧ (r' = r ∨ ∃ i, r' = some i ∧ w.heap.size ≤ i) ∧ Only (g :: r.toList) w wr

theorem bitsOf_one (n : Nat) : bitsOf n 1 = [n.testBit 0] := rfl
theorem bit8_nat (n : BitVec 64) (i : Nat) : ((n.toNat : Int) / 2 ^ i).tmod 2 % 256 = ((bit8 (n.toNat.testBit i)).toNat : Int) := by
  have t := Nat.toNat_testBit n.toNat i
  have e : (bit8 (n.toNat.testBit i)).toNat = (n.toNat.testBit i).toNat := by cases n.toNat.testBit i <;> rfl
  rw [e, t, div_nat, Int.tmod_eq_emod_of_nonneg (Int.natCast_nonneg _)]
  omega

theorem xput_step {w wr w2 : World} {base g i k N : Nat} {r : Option Nat} {L : List Bool} {v v2 : Value} {o : Obj} (hc : Cel wr g 42 #[v])
    (ho : Ow wr base 5 v ((L ++ bitsOf (N / 2 ^ (i + 1)) (k - (i + 1))).map bit8)) (hv : v.ownBlock = r ∨ ∃ i, v.ownBlock = some i ∧ w.heap.size ≤ i) (hO : Only (g :: r.toList) w wr)
    (ho2 : Ow w2 base 5 v2 ((L ++ bitsOf (N / 2 ^ (i + 1)) (k - (i + 1))).map bit8 ++ [bit8 (N.testBit i)])) (hg : (wr.alloc o).grownBy w2 v.ownBlock) (hv2 : v2.ownBlock = v.ownBlock ∨ v2.ownBlock = some (wr.alloc o).heap.size) (hik : i + 1 ≤ k) :
    XPut w base g r (L ++ bitsOf (N / 2 ^ i) (k - i)) (w2.setCell ⟨g, 0, none⟩ v2) := by
  have hne := ho.apart hc (by decide)
  have hcw := hc.grown hg hne
  have hne2 := ho2.apart hcw (by decide)
  have hb := bitsOf_add (N / 2 ^ i) (k - (i + 1)) 1
  rw [Nat.div_div_eq_div_mul, ← Nat.pow_add, show k - (i + 1) + 1 = k - i by omega, bitsOf_one, Nat.testBit_div_two_pow, Nat.zero_add] at hb
  refine ⟨v2.ownBlock, ⟨v2, ?_, ?_, rfl⟩, ?_, ?_⟩
  · have := hcw.put 0 v2
    unfold Cel
    simpa [Cel] using this
  · rw [hb, ← List.append_assoc, List.map_append]
    exact ownsRow_setCell_other ho2 (a := ⟨g, 0, none⟩) hne2 _
  · rcases hv2 with h | h
    · rw [h]; exact hv
    · exact .inr ⟨_, h, by have := hO.size; simp; omega⟩
  · refine ((hO.alloc o).trans (Only.of_grown hg) ?_).put (p := ⟨g, 0, none⟩) (.inl (by simp)) _
    intro x hx
    rcases hv with h | ⟨i, h, hi⟩
    · rw [h] at hx; exact .inl (List.mem_cons_of_mem _ hx)
    · rw [h] at hx; simp at hx; subst hx; exact .inr hi

set_option maxHeartbeats 1000000 in
theorem xput_bad (g : Nat) (n : BitVec 64) (k : Int) (w : World) (hk : k < 0 ∨ 64 < k) :
    Calls Try.prog 19 #[.pointer (some ⟨g, 0, none⟩), .int .u64 (n.toNat : Int), .int .i64 k] w fun e w' => e = .returned (.tuple #[]) ∧ w = w' := by
  by_cases h0 : k < 0
  · clear hk
    go_enter Try.func19, Try.ntmps19
    go_wp2
    refine bodyPost_ret (results_none rfl _ _ _) rfl ?_
    exact ⟨rfl, rfl⟩
  · have h1 : 64 < k := by omega
    clear hk
    go_enter Try.func19, Try.ntmps19
    go_wp2
    refine bodyPost_ret (results_none rfl _ _ _) rfl ?_
    exact ⟨rfl, rfl⟩

set_option maxHeartbeats 1000000 in
theorem xput_any (w : World) (base g : Nat) (r : Option Nat) (L : List Bool) (n : BitVec 64) (k : Nat) (h : XAt w base g r L) (hk : k ≤ 64) (hL : L.length < 1000000) (hbase : base ≤ w.heap.size) :
    Calls Try.prog 19 #[.pointer (some ⟨g, 0, none⟩), .int .u64 (n.toNat : Int), .int .i64 (k : Int)] w fun e w' => e = .returned (.tuple #[]) ∧ XPut w base g r (L ++ bitsOf n.toNat k) w' := by
  go_enter Try.func19, Try.ntmps19
  go_wp2
  go_loopg [6] k (fun j i wr => j ≤ k ∧ i = .int .i64 ((j : Int) - 1) ∧ XPut w base g r (L ++ bitsOf (n.toNat / 2 ^ j) (k - j)) wr)
  case atStart => exact ⟨Nat.le_refl _, rfl, r, by rw [Nat.sub_self]; simpa [bitsOf] using h, .inl rfl, Only.refl _ _⟩
  case round =>
    obtain ⟨hj, rfl, hP⟩ := hrel
    by_cases hj0 : gk = 0
    · subst hj0
      rw [show ((0 : Nat) : Int) - 1 = -1 from rfl]
      go_wp2
      go_end0
      exact ⟨rfl, by simpa using hP⟩
    · obtain ⟨i, rfl⟩ : ∃ i, gk = i + 1 := ⟨gk - 1, by omega⟩
      rw [show ((i + 1 : Nat) : Int) - 1 = (i : Int) by omega]
      obtain ⟨r', ⟨v, hc, ho, rfl⟩, hr', hO⟩ := hP
      obtain ⟨A, c, rfl, _⟩ := ho.reads_len (n := L.length + (k - (i + 1))) (by simp [bitsOf_len])
      have c0 := hc.cell 0
      have f0 := hc.free 0
      simp at c0
      have HB := Lib.hid (bit8_nat n i)
      have hwr : base ≤ wr.heap.size := Nat.le_trans hbase hO.size
      have hne := ho.apart hc (by decide)
      have hi64 : i < 64 := by omega
      go_wp2_with (first
        | (at_builtin; refine wpList_appAt _ is_bytes rfl (.tmp 23) (.tmp 30) rfl (v := Value.slice A (L.length + (k - (i + 1))) c) (m := (L ++ bitsOf (n.toNat / 2 ^ (i + 1)) (k - (i + 1))).map bit8) rfl (ho.alloc _) (l := [bit8 (n.toNat.testBit i)]) rfl (Bs_new1 _ _ _ _ HB.out) (by simp) (by simp [bitsOf_len]; omega) (by simp; omega) ?_; intro v2 w2 hown2 hgrow2 hat2; obtain ⟨A2, c2', rfl, _⟩ := hown2.reads_len (n := L.length + (k - (i + 1)) + 1) (by simp only [List.length_append, List.length_map, bitsOf_len, List.length_cons, List.length_nil]); have hcw := hc.grown hgrow2 hne; have e1 := hcw.cell 0; have e3 := hcw.free 0; simp at e1))
      go_roundg i
      case measure => omega
      case rel => exact ⟨by omega, by go_num, xput_step hc ho hr' hO hown2 hgrow2 hat2 (by omega)⟩
end Go.Proofs.Ytmkmojhhfbokdaa

/-
  The walks of the reference of chapter 2: the bytes of a list of bits; two byte strings compared; the low bits of a number.
-/
namespace Go.Proofs.Ytmkmojhhfbokdaa
open Go.RowKit

theorem Room.one {bs : List Byte} {L : List Bool} {fr : Nat} (h : Room bs L fr) (hf : 0 < fr) (x : Byte) (hx : bs[bs.length - 1]? = some x) : Room (bs.set (bs.length - 1) (x ||| (1#8 <<< (fr - 1)))) (L ++ [true]) (fr - 1) := by
  have := h.put (size := 1) (m := 1) (by omega) hf x 1#8 hx (fun i => by
    cases i with
    | zero => rfl
    | succ i =>
      have h1 : ¬ (i + 1 < 1) := by omega
      rw [decide_eq_false h1, Bool.false_and]
      have : (1#8).getLsbD (i + 1) = Nat.testBit 1 (i + 1) := rfl
      rw [this, Nat.testBit_succ]
      simp)
  exact this
theorem Room.none_ {bs : List Byte} {L : List Bool} {fr : Nat} (h : Room bs L fr) (hf : 0 < fr) : Room bs (L ++ [false]) (fr - 1) := by
  refine ⟨by have := h.len; simp; omega, by have := h.le; omega, fun k => ?_⟩
  rw [h.bit, getD_app]
  split
  · rfl
  · rename_i hk
    rw [List.getD_eq_getElem?_getD, List.getElem?_eq_none (by omega)]
    cases hj : k - L.length <;> simp
theorem Room.free_bit {bs : List Byte} {L : List Bool} {fr : Nat} (h : Room bs L fr) (hf : 0 < fr) (x : Byte) (hx : bs[bs.length - 1]? = some x) (i : Nat) (hi : i < fr) : x.getLsbD i = false := by
  have hl := h.len
  have h8 := h.le
  have hb := h.bit (8 * (bs.length - 1) + (7 - i))
  unfold bitAt at hb
  rw [show (8 * (bs.length - 1) + (7 - i)) / 8 = bs.length - 1 by omega, show 7 - (8 * (bs.length - 1) + (7 - i)) % 8 = i by omega, List.getD_eq_getElem?_getD, hx, Option.getD_some] at hb
  rw [hb, List.getD_eq_getElem?_getD, List.getElem?_eq_none (by omega)]
  rfl
/-- where a bit is free, adding it is setting it -/
theorem add_or (x : Byte) (i : Nat) (hi : i < 8) (h : x.getLsbD i = false) : IntKind.u8.wrap ((x.toNat : Int) + 2 ^ i) = ((x ||| (1#8 <<< i)).toNat : Int) := by
  have hz : x &&& (1#8 <<< i) = 0#8 := by
    refine BitVec.eq_of_getLsbD_eq fun j hj => ?_
    rw [BitVec.getLsbD_and, BitVec.getLsbD_shiftLeft]
    by_cases hji : j = i
    · subst hji; simp [h]
    · by_cases hlt : j < i
      · simp [hlt]
      · have : (1#8).getLsbD (j - i) = false := by
          have e : (1#8).getLsbD (j - i) = Nat.testBit 1 (j - i) := rfl
          obtain ⟨m, hm⟩ : ∃ m, j - i = m + 1 := ⟨j - i - 1, by omega⟩
          rw [e, hm, Nat.testBit_succ]
          simp
        simp [this]
  rw [← BitVec.add_eq_or_of_and_eq_zero _ _ hz, BitVec.toNat_add, IntKind.wrap_u8, BitVec.toNat_shiftLeft, Nat.shiftLeft_eq]
  have hp : 2 ^ i ≤ 2 ^ 7 := Nat.pow_le_pow_right (by decide) (by omega)
  have e : ((2 : Int) ^ i) = ((2 ^ i : Nat) : Int) := by rw [Int.natCast_pow]; rfl
  rw [e]
  generalize 2 ^ i = q at *
  have h1 : (1#8).toNat * q % 2 ^ 8 = q := by
    have : (1#8).toNat = 1 := rfl
    rw [this]; omega
  rw [h1]
  omega
theorem half_of (i : Nat) (hi : i < 8) : (128 : Int) / 2 ^ i = 2 ^ (7 - i) := by
  match i, hi with
  | 0, _ | 1, _ | 2, _ | 3, _ | 4, _ | 5, _ | 6, _ | 7, _ => decide

/-- the bytes of the first j bits, in a slice of the call's own -/
def BMid (w : World) (L : List Bool) (j : Nat) (v : Value) (wr : World) : Prop :=
  ∃ bs fr, Ow wr w.heap.size 5 v bs ∧ Room bs (L.take j) fr ∧ fr < 8 ∧ Below w.heap.size w wr
/-- the same with room for one more -/
def BTop (w : World) (L : List Bool) (j : Nat) (v : Value) (wr : World) : Prop :=
  ∃ bs fr, Ow wr w.heap.size 5 v bs ∧ Room bs (L.take j) fr ∧ 0 < fr ∧ Below w.heap.size w wr

set_option maxHeartbeats 1000000 in
theorem xbytes_any (w : World) (base g : Nat) (r : Option Nat) (L : List Bool) (h : XAt w base g r L) (hL : L.length < 1000000) :
    Calls Try.prog 21 #[.pointer (some ⟨g, 0, none⟩)] w fun e w' => ∃ v bs, e = .returned v ∧ Packs bs L ∧ Ow w' w.heap.size 5 v bs ∧ Below w.heap.size w w' := by
  have hg := h.lt
  obtain ⟨v, hc, ho, _⟩ := h
  obtain ⟨A, c, rfl, hr, _⟩ := ho.reads_len (n := L.length) (by simp)
  have c0 := hc.cell 0
  simp at c0
  clear hc ho
  go_enter Try.func21, Try.ntmps21
  go_wp2
  go_loopg [3, 4] L.length (fun gk s i wr => ∃ j : Nat, j + gk = L.length ∧ i = .int .i64 (j : Int) ∧ BMid w L j s wr)
  case atStart => exact ⟨0, by omega, rfl, [], 0, World.ownsRow_nil _ _ _ _, room_nil, by omega, Below.refl _ _⟩
  case round =>
    obtain ⟨j, hj, rfl, hM⟩ := hrel
    have hbel : Below w.heap.size w wr := by obtain ⟨_, _, _, _, _, hb⟩ := hM; exact hb
    have c1 : wr.cell? ⟨g, 0, none⟩ = some (.slice A L.length c) := (hbel.cell (p := ⟨g, 0, none⟩) hg).trans c0
    by_cases hlt : j < L.length
    · have hlen : (L.take j).length = j := by rw [List.length_take]; omega
      go_upto_if 16 with (fail)
      go_cut [3] (fun s3 wx => BTop w L j s3 wx)
      case first =>
        obtain ⟨bs, fr, ho, hR, hf, _⟩ := hM
        have h8 := hR.len
        rw [hlen] at h8
        have hs := hbel.size
        by_cases h0 : j % 8 = 0
        · have t : ((j : Int) % 8 == 0) = true := by rw [beq_iff_eq]; omega
          obtain rfl : fr = 0 := by omega
          have hb47 : bs.length ≤ 2000000 := by omega
          clear h8 hlen h0
          go_wp2_with (first
            | (at_builtin; refine wpList_app _ is_bytes rfl (.tmp 17) (.tmp 18) rfl (m := bs) rfl (ho.alloc _) (l := [0#8]) rfl (Bs_new1 _ _ _ _ rfl) (by simp) (by simp; omega) (by simp; omega) ?_; intro v2 w2 hown2 hgrow2))
          go_meet
          case rel => exact ⟨_, 8, hown2, hR.grow, by omega, (hbel.alloc hs _).grown hgrow2 (by simp; omega) (Ow.base_le (l := bs) ho)⟩
        · have t : ((j : Int) % 8 == 0) = false := by rw [beq_eq_false_iff_ne]; omega
          have hfr : 0 < fr := by omega
          clear h8 hlen h0
          go_wp2
          go_meet
          case rel => exact ⟨bs, fr, ho, hR, hfr, hbel⟩
      case rest =>
        clear hM
        obtain ⟨bs, fr, ho, hR, hf, hbel2⟩ := hcut
        have h8 := hR.len
        rw [hlen] at h8
        have hle := hR.le
        have c2 : wc.cell? ⟨g, 0, none⟩ = some (.slice A L.length c) := (hbel2.cell (p := ⟨g, 0, none⟩) hg).trans c0
        have hr1 := hr.below hbel2
        obtain ⟨b, off, rfl, _, hcell⟩ := hr1.at_ (k := j) (by simpa using hlt)
        rw [List.getElem_map] at hcell
        have hj0 : (0 : Int) ≤ (j : Int) := Int.natCast_nonneg _
        obtain ⟨m, hm⟩ : ∃ m, bs.length = m + 1 := ⟨bs.length - 1, by omega⟩
        obtain ⟨x, hx⟩ : ∃ x, bs[m]? = some x := ⟨_, List.getElem?_eq_getElem (by omega)⟩
        obtain ⟨gr, c3, rfl, hgb, hgl, hmc, hcm, hcells, hfree⟩ := ho.form_len hm
        have d1 := hcells m x hx
        have d2 := hfree m
        have htk : L.take (j + 1) = L.take j ++ [L[j]] := List.take_succ_eq_append_getElem hlt
        have HK := Lib.hid (And.intro htk (And.intro hm (And.intro hx (And.intro h8 hlen))))
        have hm0 : (0 : Int) ≤ (m : Int) := Int.natCast_nonneg _
        have hm2 : m < 1000000 := by omega
        unfold maxLen at hcm
        clear htk hm hx h8 hcells hfree hlen c1
        by_cases hbit : L[j] = true
        · have e1 : ((B8 (bit8 L[j])) = .int .u8 1) := by rw [hbit]; rfl
          rw [e1] at hcell
          have HBIT := Lib.hid hbit
          clear e1 hbit
          go_wp2
          go_roundg (gk - 1)
          case measure => omega
          case rel =>
            obtain ⟨htk, hm, hx, h8, hlen⟩ := HK.out
            have hbt : L[j] = true := HBIT.out
            have hml : m = bs.length - 1 := by omega
            have hfb := hR.free_bit hf x (by rw [← hml]; exact hx) (fr - 1) (by omega)
            have hval := add_or x (fr - 1) (by omega) hfb
            rw [show fr - 1 = 7 - j % 8 by omega, ← half_of (j % 8) (by omega), IntKind.wrap_u8] at hval
            have hnew := hR.one hf x (by rw [← hml]; exact hx)
            rw [← hml] at hnew
            refine ⟨j + 1, by omega, by go_num, _, fr - 1, ?_, by rw [htk, hbt]; exact hnew, by omega, hbel2.setCell (p := ⟨gr, m, none⟩) hgb _⟩
            rw [hval, show 7 - j % 8 = fr - 1 by omega]
            exact ho.set_ rfl _
        · have e1 : ((B8 (bit8 L[j])) = .int .u8 0) := by
            have : L[j] = false := by simpa using hbit
            rw [this]; rfl
          rw [e1] at hcell
          have HBIT := Lib.hid hbit
          clear e1 hbit
          go_wp2
          go_roundg (gk - 1)
          case measure => omega
          case rel =>
            obtain ⟨htk, hm, hx, h8, hlen⟩ := HK.out
            have hbf : L[j] = false := by simpa using HBIT.out
            refine ⟨j + 1, by omega, by go_num, bs, fr - 1, ho, ?_, by omega, hbel2⟩
            rw [htk, hbf]
            exact hR.none_ hf
    · have hjl : j = L.length := by omega
      obtain ⟨bs, fr, ho, hR, hf, _⟩ := hM
      rw [hjl, List.take_length] at hR
      obtain ⟨A2, c2, rfl, _⟩ := ho.reads
      clear hjl
      go_wp2
      go_ret
      exact ⟨_, bs, rfl, hR.packs hf, ho, hbel⟩

end Go.Proofs.Ytmkmojhhfbokdaa

/-
  The walks of the reference of chapter 2: its Reader.
-/
namespace Go.Proofs.Ytmkmojhhfbokdaa
open Go.RowKit

/-- block g is a reference Reader over the bytes bs, which came in at A -/
def YAt (w : World) (g : Nat) (A : Option Addr) (c : Nat) (bs : List Byte) (p : Nat) (bad : Bool) : Prop :=
  Cel w g 55 #[.slice A bs.length c, .int .i64 (p : Int), .bool bad] ∧ p ≤ 8 * bs.length
section
variable {w w' : World} {g : Nat} {A : Option Addr} {c : Nat} {bs : List Byte} {p : Nat} {bad : Bool} {S : List Nat}
theorem YAt.only (h : YAt w g A c bs p bad) (k : Only S w w') (hg : g ∉ S) : YAt w' g A c bs p bad := ⟨h.1.only k hg, h.2⟩
theorem YAt.draws (h : YAt w g A c bs p bad) (n : Nat) : YAt (w.drewN n) g A c bs p bad := h
theorem YAt.moved (h : YAt w g A c bs p bad) (q : Nat) (hq : q ≤ 8 * bs.length) : YAt (w.setCell ⟨g, 1, none⟩ (.int .i64 (q : Int))) g A c bs q bad := by
  have := h.1.put 1 (.int .i64 (q : Int))
  refine ⟨?_, hq⟩
  unfold Cel
  simpa [Cel] using this
theorem YAt.failed (h : YAt w g A c bs p bad) : YAt (w.setCell ⟨g, 2, none⟩ (.bool true)) g A c bs p true := by
  have := h.1.put 2 (.bool true)
  refine ⟨?_, h.2⟩
  unfold Cel
  simpa [Cel] using this
end

set_option maxHeartbeats 400000 in
theorem xleft_any (w : World) (g : Nat) (A : Option Addr) (c : Nat) (bs : List Byte) (p : Nat) (bad : Bool) (h : YAt w g A c bs p bad) (hL : bs.length < 1000000) :
    Calls Try.prog 43 #[.pointer (some ⟨g, 0, none⟩)] w fun e w' => e = .returned (.int .i64 (leftR bs p bad : Int)) ∧ ∃ n, w' = w.drewN n := by
  obtain ⟨hc, hp⟩ := h
  have c0 := hc.cell 0
  have c1 := hc.cell 1
  have c2 := hc.cell 2
  simp at c0 c1 c2
  clear hc
  cases bad with
  | true =>
    go_enter Try.func43, Try.ntmps43
    go_wp2
    go_ret
    exact ⟨rfl, 0, rfl⟩
  | false =>
    go_enter Try.func43, Try.ntmps43
    go_wp2
    go_quiet (fail)
    go_wp2
    go_ret
    exact ⟨ret_int (by unfold leftR; simp; omega), nq, rfl⟩

set_option maxHeartbeats 1000000 in
theorem xskip_any (w : World) (g : Nat) (A : Option Addr) (c : Nat) (bs : List Byte) (p : Nat) (bad : Bool) (k : Int) (h : YAt w g A c bs p bad) (hL : bs.length < 1000000) (hk : (Lit.int .i64 k).wf = true) :
    Calls Try.prog 30 #[.pointer (some ⟨g, 0, none⟩), .int .i64 k] w fun e w' => e = .returned (.tuple #[]) ∧ YAt w' g A c bs (skipP bs p bad k) (skipB bs p bad k) ∧ Only [g] w w' := by
  have hl := xleft_any w g A c bs p bad h hL
  have hb := i64_bounds hk
  have hp := h.2
  have c1 := h.1.cell 1
  have c2 := h.1.cell 2
  have f1 := h.1.free 1
  have f2 := h.1.free 2
  simp at c1 c2
  have hlt : 8 * bs.length < 8000000 := by omega
  by_cases hgood : bad = true ∨ k < 0 ∨ (leftR bs p bad : Int) < k
  · have hs : skipP bs p bad k = p ∧ skipB bs p bad k = true := by simp only [skipP, skipB, hgood, if_true, decide_true, and_self]
    rw [hs.1, hs.2]
    clear hs
    by_cases h0 : k < 0
    · clear hgood hl
      go_enter Try.func30, Try.ntmps30
      go_wp2
      go_end0
      exact ⟨rfl, h.failed, (Only.refl _ _).put (.inl (by simp)) _⟩
    · obtain ⟨q, hq⟩ : ∃ q, q = leftR bs p bad := ⟨_, rfl⟩
      rw [← hq] at hl hgood
      by_cases h1 : (q : Int) < k
      · clear hgood hq
        go_enter Try.func30, Try.ntmps30
        go_wp2_with (go_at_call 43; refine hl.mono ?_; rintro e w' ⟨rfl, a, rfl⟩)
        go_end0
        exact ⟨rfl, (h.draws a).failed, ((Only.refl _ _).draws a).put (.inl (by simp)) _⟩
      · have hbad : bad = true := by
          rcases hgood with h | h | h
          · exact h
          · exact absurd h h0
          · exact absurd h h1
        subst hbad
        clear hgood hq
        go_enter Try.func30, Try.ntmps30
        go_wp2_with (go_at_call 43; refine hl.mono ?_; rintro e w' ⟨rfl, a, rfl⟩)
        go_end0
        exact ⟨rfl, h.draws a, (Only.refl _ _).draws a⟩
  · have hs : skipP bs p bad k = p + k.toNat ∧ skipB bs p bad k = false := by simp only [skipP, skipB, hgood, if_false, decide_false, and_self]
    rw [hs.1, hs.2]
    clear hs
    have hbad : bad = false := by cases bad <;> simp at hgood ⊢
    subst hbad
    have hl2 : leftR bs p false = 8 * bs.length - p := rfl
    obtain ⟨q, hq⟩ : ∃ q, q = leftR bs p false := ⟨_, rfl⟩
    rw [← hq] at hl hgood
    have h0 : ¬ k < 0 := fun e => hgood (.inr (.inl e))
    have h1 : ¬ (q : Int) < k := fun e => hgood (.inr (.inr e))
    obtain ⟨K, rfl⟩ := Int.eq_ofNat_of_zero_le (Int.not_lt.1 h0)
    rw [Int.toNat_natCast]
    have hpk : p + K ≤ 8 * bs.length := by omega
    clear hgood hq hl2 h0
    go_enter Try.func30, Try.ntmps30
    go_wp2_with (go_at_call 43; refine hl.mono ?_; rintro e w' ⟨rfl, a, rfl⟩)
    go_end0
    exact ⟨rfl, (h.draws a).moved (p + K) hpk, ((Only.refl _ _).draws a).put (.inl (by simp)) _⟩

theorem num_step (bs : List Byte) (p j d : Nat) (x : Byte) (hd : d = (p + j) % 8) (hx : bs[(p + j) / 8]? = some x) :
    ((x.toNat : Int) / 2 ^ (7 - d)).tmod 2 = ((bitAt bs (p + j)).toNat : Int) := by
  subst hd
  have h1 := bitAt_byte bs (p + j) x hx
  have h2 : (x.toNat : Int) / 2 ^ (7 - (p + j) % 8) = ((x.toNat / 2 ^ (7 - (p + j) % 8) : Nat) : Int) := by
    rw [Int.natCast_ediv, Int.natCast_pow]; rfl
  rw [h2, Int.tmod_eq_emod_of_nonneg (Int.natCast_nonneg _)]
  omega

set_option maxHeartbeats 1000000 in
theorem xget_ok (w : World) (g : Nat) (A : Option Addr) (c : Nat) (bs : List Byte) (p k : Nat) (h : YAt w g A c bs p false) (hL : bs.length < 1000000) (hk : k ≤ 64) (hpk : p + k ≤ 8 * bs.length) (hbs : Bs w g A bs) :
    Calls Try.prog 31 #[.pointer (some ⟨g, 0, none⟩), .int .i64 (k : Int)] w fun e w' => e = .returned (.int .u64 (numAt bs p k : Int)) ∧ YAt w' g A c bs (p + k) false ∧ Only [g] w w' := by
  have hl := xleft_any w g A c bs p false h hL
  have hl2 : leftR bs p false = 8 * bs.length - p := rfl
  obtain ⟨q, hq⟩ : ∃ q, q = leftR bs p false := ⟨_, rfl⟩
  rw [← hq] at hl
  have hkq : k ≤ q := by omega
  have c2 := h.1.cell 2
  simp at c2
  have hg := h.1.lt
  clear hq hl2
  go_enter Try.func31, Try.ntmps31
  go_wp2_with (go_at_call 43; refine hl.mono ?_; rintro e w' ⟨rfl, a, rfl⟩)
  clear hl
  go_loopg [5, 6] k (fun j t i wr => ∃ m : Nat, m + j = k ∧ i = .int .i64 (m : Int) ∧ t = .int .u64 (numAt bs p m : Int) ∧ YAt wr g A c bs (p + m) false ∧ Only [g] w wr)
  case atStart => exact ⟨0, by omega, rfl, rfl, h.draws a, (Only.refl _ _).draws a⟩
  case round =>
    obtain ⟨m, hm, rfl, rfl, hY, hO⟩ := hrel
    by_cases hlt : m < k
    · obtain ⟨P, hP⟩ : ∃ P, P = p + m := ⟨_, rfl⟩
      rw [← hP] at hY
      have d0 := hY.1.cell 0
      have d1 := hY.1.cell 1
      have f1 := hY.1.free 1
      simp at d0 d1
      obtain ⟨E, hE⟩ : ∃ E, E = P / 8 := ⟨_, rfl⟩
      obtain ⟨d, hd⟩ : ∃ d, d = P % 8 := ⟨_, rfl⟩
      obtain ⟨b, off, rfl, hbg, hcell⟩ := (hbs.only hO (Nat.le_of_lt hg) (by simp)).at_ (k := E) (by omega)
      obtain ⟨x, hx⟩ : ∃ x, x = bs[E]'(by omega) := ⟨_, rfl⟩
      rw [← hx] at hcell
      have hx2 : bs[E]? = some x := by rw [hx]; exact List.getElem?_eq_getElem (by omega)
      have hd8 : d < 8 := by omega
      have hEm : (E : Int) < (bs.length : Int) := by omega
      have hE0 : (0 : Int) ≤ (E : Int) := Int.natCast_nonneg _
      have hPb : P < 8000000 := by omega
      have hdI : (P : Int) % 8 = (d : Int) := by omega
      have hEI : (P : Int) / 8 = (E : Int) := by omega
      have hnl := numAt_lt bs p (m + 1)
      have hpw : 2 ^ (m + 1) ≤ 2 ^ 64 := Nat.pow_le_pow_right (by decide) (by omega)
      have hns : numAt bs p (m + 1) = 2 * numAt bs p m + (bitAt bs (p + m)).toNat := rfl
      have hst := num_step bs p m d x (by rw [← hP]; exact hd) (by rw [← hP, ← hE]; exact hx2)
      obtain ⟨N, hN⟩ : ∃ N, N = numAt bs p m := ⟨_, rfl⟩
      rw [← hN] at hns
      rw [← hN]
      obtain ⟨y, hy⟩ : ∃ y, y = (bitAt bs (p + m)).toNat := ⟨_, rfl⟩
      rw [← hy] at hns hst
      have hy1 : y ≤ 1 := by rw [hy]; exact Bool.toNat_le _
      have hN2 : 2 * N + y < 18446744073709551616 := by omega
      have HB := Lib.hid (And.intro hP (And.intro hN (And.intro hy hns)))
      clear hP hE hd hx hx2 hN hy hns hnl hpw
      go_wp2
      go_quiet (fail)
      go_wp2
      go_roundg (gk - 1)
      case measure => omega
      case rel =>
        obtain ⟨hP, hN, hy, hns⟩ := HB.out
        have e1 : ((P : Int) + 1) = ((p + (m + 1) : Nat) : Int) := by omega
        have e2 : (2 * (N : Int) + (y : Int)) = ((numAt bs p (m + 1) : Nat) : Int) := by omega
        rw [e1, e2]
        exact ⟨m + 1, by omega, by go_num, rfl, (hY.draws nq).moved _ (by omega), (hO.draws nq).put (.inl (by simp)) _⟩
    · have hmk : m = k := by omega
      rw [hmk] at hY
      have HM := Lib.hid hmk
      clear hmk
      go_wp2
      go_ret
      exact ⟨ret_int (by rw [HM.out]), hY, hO⟩

set_option maxHeartbeats 1000000 in
theorem xget_any (w : World) (g : Nat) (A : Option Addr) (c : Nat) (bs : List Byte) (p : Nat) (bad : Bool) (k : Int) (h : YAt w g A c bs p bad) (hL : bs.length < 1000000) (hk : (Lit.int .i64 k).wf = true) (hbs : Bs w g A bs) :
    Calls Try.prog 31 #[.pointer (some ⟨g, 0, none⟩), .int .i64 k] w fun e w' => e = .returned (.int .u64 (getV bs p bad k : Int)) ∧ YAt w' g A c bs (getP bs p bad k) (getB bs p bad k) ∧ Only [g] w w' := by
  have hl := xleft_any w g A c bs p bad h hL
  have hb := i64_bounds hk
  have c2 := h.1.cell 2
  have f2 := h.1.free 2
  simp at c2
  by_cases hgood : getBad bs p bad k
  · have hs : getP bs p bad k = p ∧ getB bs p bad k = true ∧ getV bs p bad k = 0 := by simp [getP, getB, getV, hgood]
    rw [hs.1, hs.2.1, hs.2.2]
    clear hs
    unfold getBad at hgood
    by_cases h0 : k < 0
    · clear hgood hl
      go_enter Try.func31, Try.ntmps31
      go_wp2
      go_ret
      exact ⟨rfl, h.failed, (Only.refl _ _).put (.inl (by simp)) _⟩
    by_cases h6 : 64 < k
    · clear hgood hl
      go_enter Try.func31, Try.ntmps31
      go_wp2
      go_ret
      exact ⟨rfl, h.failed, (Only.refl _ _).put (.inl (by simp)) _⟩
    obtain ⟨q, hq⟩ : ∃ q, q = leftR bs p bad := ⟨_, rfl⟩
    rw [← hq] at hl hgood
    by_cases h1 : (q : Int) < k
    · clear hgood hq
      go_enter Try.func31, Try.ntmps31
      go_wp2_with (go_at_call 43; refine hl.mono ?_; rintro e w' ⟨rfl, a, rfl⟩)
      go_ret
      exact ⟨rfl, (h.draws a).failed, ((Only.refl _ _).draws a).put (.inl (by simp)) _⟩
    · have hbad : bad = true := by
        rcases hgood with h | h | h | h
        · exact h
        · exact absurd h h0
        · exact absurd h h6
        · exact absurd h h1
      subst hbad
      clear hgood hq
      go_enter Try.func31, Try.ntmps31
      go_wp2_with (go_at_call 43; refine hl.mono ?_; rintro e w' ⟨rfl, a, rfl⟩)
      go_ret
      exact ⟨rfl, h.draws a, (Only.refl _ _).draws a⟩
  · have hs : getP bs p bad k = p + k.toNat ∧ getB bs p bad k = false ∧ getV bs p bad k = numAt bs p k.toNat := by simp [getP, getB, getV, hgood]
    rw [hs.1, hs.2.1, hs.2.2]
    unfold getBad at hgood
    have hbad : bad = false := by cases bad <;> simp at hgood ⊢
    subst hbad
    have hl2 : leftR bs p false = 8 * bs.length - p := rfl
    have hp := h.2
    rw [hl2] at hgood
    simp at hgood
    obtain ⟨K, rfl⟩ := Int.eq_ofNat_of_zero_le hgood.1
    rw [Int.toNat_natCast]
    exact xget_ok w g A c bs p K h hL (by omega) (by omega) hbs
end Go.Proofs.Ytmkmojhhfbokdaa

/-
  The reference's Writer and its Reader of chapter 2, each as one state: what has been put, how far it has been read; beside the Reader a struct's block.
-/
namespace Go.Proofs.Ytmkmojhhfbokdaa
open Go.RowKit

/-- block g is a reference Writer with the bits L, made behind w0; the blocks below B are as w0 had them -/
def XS (B : Nat) (w0 : World) (g : Nat) (L : List Bool) (w : World) : Prop := (∃ r, XAt w B g r L) ∧ B ≤ g ∧ Below B w0 w
theorem XS.new {B : Nat} {w0 w : World} (h : Below B w0 w) (hB : B ≤ w.heap.size) : XS B w0 w.heap.size [] (w.alloc (.cells #[.slice none 0 0] 42)) :=
  ⟨⟨_, _, Cel.new _ _ _, Pac.Ow_nil _ _, rfl⟩, hB, h.alloc hB _⟩
theorem XS.draws {B : Nat} {w0 w : World} {g : Nat} {L : List Bool} (h : XS B w0 g L w) : XS B w0 g L w.drew := by
  obtain ⟨⟨r, h1⟩, h2, h3⟩ := h
  exact ⟨⟨r, h1⟩, h2, h3.drew⟩
theorem XS.size {B : Nat} {w0 w : World} {g : Nat} {L : List Bool} (h : XS B w0 g L w) : B < w.heap.size := by
  obtain ⟨⟨r, h1⟩, h2, _⟩ := h
  have := h1.lt
  omega
theorem XS.later {B : Nat} {w0 w w' : World} {g : Nat} {L : List Bool} (h : XS B w0 g L w) (hb : Below w.heap.size w w') : XS B w0 g L w' := by
  have hs := h.size
  obtain ⟨⟨r, h1⟩, h2, h3⟩ := h
  exact ⟨⟨r, h1.only (Only.of_below (S := []) hb) (by simp) (fun _ _ => by simp)⟩, h2, h3.trans (hb.mono (Nat.le_of_lt hs))⟩
theorem XS.put {B : Nat} {w0 w : World} {g : Nat} {L : List Bool} (h : XS B w0 g L w) (x : Int) (X : Nat) (hx : x = (X : Int)) (y : Int) (k : Nat) (hy : y = (k : Int)) (hX : X < 18446744073709551616) (hk : k ≤ 64) (hL : L.length < 1000000) :
    Calls Try.prog 19 #[.pointer (some ⟨g, 0, none⟩), .int .u64 x, .int .i64 y] w fun e w' => e = .returned (.tuple #[]) ∧ XS B w0 g (L ++ bitsOf X k) w' := by
  obtain ⟨⟨r, h1⟩, h2, h3⟩ := h
  subst hx hy
  have hlt := h1.lt
  have e : (BitVec.ofNat 64 X).toNat = X := by rw [BitVec.toNat_ofNat, Nat.mod_eq_of_lt (by omega)]
  have hp := xput_any w B g r L (BitVec.ofNat 64 X) k h1 hk hL (by omega)
  rw [e] at hp
  refine hp.mono ?_
  rintro e w' ⟨rfl, r', h4, _, h5⟩
  refine ⟨rfl, ⟨r', h4⟩, h2, h3.trans (h5.below (by omega) fun x hx => ?_)⟩
  rcases List.mem_cons.1 hx with rfl | hx
  · exact h2
  · exact (h1.row x (by simpa using hx)).1
theorem XS.bytes {B : Nat} {w0 w : World} {g : Nat} {L : List Bool} (h : XS B w0 g L w) (hL : L.length < 1000000) :
    Calls Try.prog 21 #[.pointer (some ⟨g, 0, none⟩)] w fun e w' => ∃ v bs, e = .returned v ∧ Packs bs L ∧ Ow w' w.heap.size 5 v bs ∧ Below w.heap.size w w' := by
  obtain ⟨⟨r, h1⟩, _⟩ := h
  exact xbytes_any w B g r L h1 hL

/-- block g is a reference Reader over the bytes bs, p bits passed; a struct of type T lies in block f; both lie behind w0's first B blocks, which are as w0 had them -/
structure YS (T : TypeId) (B : Nat) (w0 : World) (g f : Nat) (a : Option Addr) (c : Nat) (bs : List Byte) (p : Nat) (cs : Array Value) (w : World) : Prop where
  y : YAt w g a c bs p false
  cel : Cel w f T cs
  bel : Below B w0 w
  hg : B ≤ g
  hf : B ≤ f
  ne : f ≠ g
section
variable {T : TypeId} {B : Nat} {w0 w : World} {g f : Nat} {a : Option Addr} {c : Nat} {bs : List Byte} {p : Nat} {cs : Array Value}
theorem YS.get (h : YS T B w0 g f a c bs p cs w) (hb : Bs w0 B a bs) (y : Int) (k N : Nat) (hy : y = (k : Int)) (hN : numAt bs p k = N) (hL : bs.length < 1000000) (hk : k ≤ 64) (hp : p + k ≤ 8 * bs.length) :
    Calls Try.prog 31 #[.pointer (some ⟨g, 0, none⟩), .int .i64 y] w fun e w' => e = .returned (.int .u64 (N : Int)) ∧ YS T B w0 g f a c bs (p + k) cs w' := by
  obtain ⟨h1, h2, h3, h4, h5, h6⟩ := h
  subst hy hN
  have hlt := h1.1.lt
  refine (xget_ok w g a c bs p k h1 hL hk hp ((hb.below h3).more h4)).mono ?_
  rintro e w' ⟨rfl, k1, k2⟩
  exact ⟨rfl, k1, h2.only k2 (by simpa using h6), h3.trans (k2.below (by omega) (by simp; omega)), h4, h5, h6⟩
theorem YS.skip (h : YS T B w0 g f a c bs p cs w) (y : Int) (k : Nat) (hy : y = (k : Int)) (hL : bs.length < 1000000) (hp : p + k ≤ 8 * bs.length) :
    Calls Try.prog 30 #[.pointer (some ⟨g, 0, none⟩), .int .i64 y] w fun e w' => e = .returned (.tuple #[]) ∧ YS T B w0 g f a c bs (p + k) cs w' := by
  obtain ⟨h1, h2, h3, h4, h5, h6⟩ := h
  subst hy
  have hlt := h1.1.lt
  have e0 : leftR bs p false = 8 * bs.length - p := rfl
  have hn : ¬ (false = true ∨ (k : Int) < 0 ∨ (leftR bs p false : Int) < (k : Int)) := by
    rintro (e | e | e)
    · cases e
    · omega
    · rw [e0] at e
      omega
  have e1 : skipP bs p false (k : Int) = p + k := by unfold skipP; rw [if_neg hn]; rfl
  have e2 : skipB bs p false (k : Int) = false := decide_eq_false hn
  have hs := xskip_any w g a c bs p false (k : Int) h1 hL (by simp [Lit.wf, IntKind.min, IntKind.max, IntKind.bits, IntKind.signed]; omega)
  rw [e1, e2] at hs
  refine hs.mono ?_
  rintro e w' ⟨rfl, k1, k2⟩
  exact ⟨rfl, k1, h2.only k2 (by simpa using h6), h3.trans (k2.below (by omega) (by simp; omega)), h4, h5, h6⟩
theorem YS.put (h : YS T B w0 g f a c bs p cs w) (i : Nat) (v : Value) : YS T B w0 g f a c bs p (cs.setIfInBounds i v) (w.setCell ⟨f, i, none⟩ v) := by
  obtain ⟨h1, h2, h3, h4, h5, h6⟩ := h
  have hO : Only [f] w (w.setCell ⟨f, i, none⟩ v) := (Only.refl _ _).put (.inl (by simp)) _
  exact ⟨h1.only hO (by simp; omega), h2.put i v, h3.trans (hO.below (by have := h1.1.lt; omega) (by simp; omega)), h4, h5, h6⟩
end
end Go.Proofs.Ytmkmojhhfbokdaa

/-
  The walks of the reference's Encode of layer 15.
-/
namespace Go.Proofs.Ytmkmojhhfbokdaa.Clc
open Go.RowKit Go.Proofs.Ytmkmojhhfbokdaa.Pac

set_option maxHeartbeats 1000000 in
theorem zencode_no (ch : Int) (lk wt rt : Bool) (bp nx : Int) (w : World) (hok : Cw.ok ⟨ch, lk, wt, rt, bp, nx⟩ = false) :
    Calls Try.prog 20 #[.agg #[.int .i64 ch, .bool lk, .bool wt, .bool rt, .int .i64 bp, .int .i64 nx]] w fun e w' => e = .returned (.tuple #[.slice none 0 0, .int .i64 1]) ∧ Below w.heap.size w w' := by
  have hv := fun W => zvalid_any ch lk wt rt bp nx W
  rw [hok] at hv
  clear hok
  go_enter Try.func20, Try.ntmps20
  go_wp2_with fail
  refine (hv _).mono ?_
  rintro e w' ⟨rfl, hbe⟩
  go_wp2
  go_ret2
  exact ⟨rfl, (bel_new _ _).trans (hbe.mono (bel_new _ _).size)⟩

theorem i64_in {x : Int} (h : -1000000 ≤ x) (h2 : x ≤ 1000000) : IntKind.i64.wrap x = x := by
  simp [IntKind.wrap, IntKind.bits, IntKind.signed]
  omega
theorem u8_in {x : Int} (h : 0 ≤ x) (h2 : x < 256) : IntKind.u8.wrap x = x := by
  simp [IntKind.wrap, IntKind.bits, IntKind.signed]
  omega
theorem wd4_cells {C F Q : Nat} {y1 y2 y3 : Int} (h1 : y1 = ((4 * C % 256 : Nat) : Int)) (h2 : y2 = ((F % 256 : Nat) : Int)) (h3 : y3 = ((Q % 256 : Nat) : Int)) :
    #[Value.int .u8 1, .int .u8 y1, .int .u8 y2, .int .u8 y3] = ((wd4 C F Q).map B8).toArray := by
  subst h1 h2 h3
  simp [wd4]
theorem flg_of (lk wt rt : Bool) (B : Nat) : flg lk 32 + flg wt 16 + flg rt 8 + 2 * (B : Int) = ((fl3 lk wt rt B : Nat) : Int) := by
  unfold flg fl3
  cases lk <;> cases wt <;> cases rt <;> simp
set_option maxHeartbeats 2000000 in
theorem zencode_yes (C B Q : Nat) (lk wt rt : Bool) (w : World) (hok : Cw.ok ⟨C, lk, wt, rt, B, Q⟩ = true) (hC : C < 8) (hB : B < 4) (hQ : Q < 256) :
    Calls Try.prog 20 #[.agg #[.int .i64 (C : Int), .bool lk, .bool wt, .bool rt, .int .i64 (B : Int), .int .i64 (Q : Int)]] w fun e w' => ∃ v, e = .returned (.tuple #[v, .int .i64 0]) ∧ Ow w' w.heap.size 5 v (wd4 C (fl3 lk wt rt B) Q) ∧ Below w.heap.size w w' := by
  have hv := fun W => zvalid_any (C : Int) lk wt rt (B : Int) (Q : Int) W
  rw [hok] at hv
  have hP0 := Cel.new w 24 #[.int .i64 (C : Int), .bool lk, .bool wt, .bool rt, .int .i64 (B : Int), .int .i64 (Q : Int)]
  obtain ⟨F1, hF1⟩ : ∃ F, F = flg lk 32 := ⟨_, rfl⟩
  obtain ⟨F2, hF2⟩ : ∃ F, F = flg wt 16 := ⟨_, rfl⟩
  obtain ⟨F3, hF3⟩ : ∃ F, F = flg rt 8 := ⟨_, rfl⟩
  have r1 : 0 ≤ F1 ∧ F1 ≤ 32 := by rw [hF1]; unfold flg; cases lk <;> simp
  have r2 : 0 ≤ F2 ∧ F2 ≤ 16 := by rw [hF2]; unfold flg; cases wt <;> simp
  have r3 : 0 ≤ F3 ∧ F3 ≤ 8 := by rw [hF3]; unfold flg; cases rt <;> simp
  have x1 := fun W => zflag_any lk 32 W
  have x2 := fun W => zflag_any wt 16 W
  have x3 := fun W => zflag_any rt 8 W
  rw [← hF1] at x1
  rw [← hF2] at x2
  rw [← hF3] at x3
  have hsum := flg_of lk wt rt B
  rw [← hF1, ← hF2, ← hF3] at hsum
  have hlt3 := fl3_lt lk wt rt B hB
  obtain ⟨G, hG⟩ : ∃ G, G = fl3 lk wt rt B := ⟨_, rfl⟩
  rw [← hG] at hsum hlt3 ⊢
  obtain ⟨M1, hM1⟩ : ∃ M, M = 4 * C := ⟨_, rfl⟩
  obtain ⟨T1, hT1⟩ : ∃ T, T = F1 + F2 := ⟨_, rfl⟩
  obtain ⟨T2, hT2⟩ : ∃ T, T = T1 + F3 := ⟨_, rfl⟩
  obtain ⟨T3, hT3⟩ : ∃ T, T = 2 * (B : Int) := ⟨_, rfl⟩
  have k1 : IntKind.i64.wrap (4 * (C : Int)) = (M1 : Int) := by rw [hM1, i64_in (by omega) (by omega)]; omega
  have k2 : IntKind.u8.wrap (M1 : Int) = (M1 : Int) := u8_in (by omega) (by omega)
  have k3 : IntKind.i64.wrap (F1 + F2) = T1 := by rw [hT1]; exact i64_in (by omega) (by omega)
  have k4 : IntKind.i64.wrap (T1 + F3) = T2 := by rw [hT2]; exact i64_in (by omega) (by omega)
  have k5 : IntKind.i64.wrap (2 * (B : Int)) = T3 := by rw [hT3]; exact i64_in (by omega) (by omega)
  have k6 : IntKind.i64.wrap (T2 + T3) = (G : Int) := by rw [i64_in (by omega) (by omega), ← hsum]; omega
  have k7 : IntKind.u8.wrap (G : Int) = (G : Int) := u8_in (by omega) (by omega)
  have k8 : IntKind.u8.wrap (Q : Int) = (Q : Int) := u8_in (by omega) (by omega)
  have hrow := wd4_cells (C := C) (F := G) (Q := Q) (y1 := (M1 : Int)) (y2 := (G : Int)) (y3 := (Q : Int)) (by omega) (by omega) (by omega)
  have HR := Lib.hid hrow
  clear hok hF1 hF2 hF3 hG hsum hT1 hT2 hT3 hM1 hrow r1 r2 r3
  go_enter Try.func20, Try.ntmps20
  go_wp2_with fail
  refine (hv _).mono ?_
  rintro e w1 ⟨rfl, hbe⟩
  have hP := Cel.later hP0 hbe
  have bel1 := (bel_new w (.cells #[.int .i64 (C : Int), .bool lk, .bool wt, .bool rt, .int .i64 (B : Int), .int .i64 (Q : Int)] 24)).trans (hbe.mono (bel_new w _).size)
  have hlt := hP.lt
  have c0 := hP.cell 0
  have c1 := hP.cell 1
  have c2 := hP.cell 2
  have c3 := hP.cell 3
  have c4 := hP.cell 4
  have c5 := hP.cell 5
  simp at c0 c1 c2 c3 c4 c5
  clear hv hP0 hP hbe
  go_wp2_with fail
  refine wp_region_held_drew (S := (fun w' => w'.cell? ⟨w.heap.size, 0, none⟩ = some (.int .i64 (C : Int)) ∧ w'.cell? ⟨w.heap.size, 1, none⟩ = some (.bool lk) ∧ w'.cell? ⟨w.heap.size, 2, none⟩ = some (.bool wt) ∧ w'.cell? ⟨w.heap.size, 3, none⟩ = some (.bool rt) ∧ w'.cell? ⟨w.heap.size, 4, none⟩ = some (.int .i64 (B : Int)) ∧ w'.cell? ⟨w.heap.size, 5, none⟩ = some (.int .i64 (Q : Int)))) (by kernel_rfl) (⟨c0, c1, c2, c3, c4, c5⟩) (fun hHeld => ?_)
  refine wpAnyH_here 0 (v := ?_) rfl (by kernel_rfl) (by kernel_rfl) (by kernel_rfl) (fun _ _ _ h => h) (Or.inl ⟨by rfl, ?_⟩) hHeld ?_
  rotate_left
  · intro w hSw; (try dsimp only at hSw); go_simp; all_goals (with_reducible rfl)
  try simp only [Act.put, List.setIfInBounds_toArray, List.set_cons_zero, List.set_cons_succ]
  refine wpAnyH_here 1 (v := ?_) rfl (by kernel_rfl) (by kernel_rfl) (by kernel_rfl) (fun _ _ _ h => h) (Or.inl ⟨by rfl, ?_⟩) hHeld ?_
  rotate_left
  · intro w hSw; (try dsimp only at hSw); go_simp; all_goals (with_reducible rfl)
  try simp only [Act.put, List.setIfInBounds_toArray, List.set_cons_zero, List.set_cons_succ]
  refine wpAnyH_here 2 (v := ?_) rfl (by kernel_rfl) (by kernel_rfl) (by kernel_rfl) (fun _ _ _ h => h) (Or.inl ⟨by rfl, ?_⟩) hHeld ?_
  rotate_left
  · intro w hSw; (try dsimp only at hSw); go_simp; all_goals (with_reducible rfl)
  try simp only [Act.put, List.setIfInBounds_toArray, List.set_cons_zero, List.set_cons_succ]
  refine wpAnyH_here 3 (v := ?_) rfl (by kernel_rfl) (by kernel_rfl) (by kernel_rfl) (fun _ _ _ h => h) (Or.inl ⟨by rfl, ?_⟩) hHeld ?_
  rotate_left
  · intro w hSw; (try dsimp only at hSw); go_simp; all_goals (with_reducible rfl)
  try simp only [Act.put, List.setIfInBounds_toArray, List.set_cons_zero, List.set_cons_succ]
  refine wpAnyH_here 4 (v := ?_) rfl (by kernel_rfl) (by kernel_rfl) (by kernel_rfl) (fun _ _ _ h => h) (Or.inl ⟨by rfl, ?_⟩) hHeld ?_
  rotate_left
  · intro w hSw; (try dsimp only at hSw); go_simp; all_goals (with_reducible rfl)
  try simp only [Act.put, List.setIfInBounds_toArray, List.set_cons_zero, List.set_cons_succ]
  refine wpAnyH_here 5 (v := ?_) rfl (by kernel_rfl) (by kernel_rfl) (by kernel_rfl) (fun _ _ _ h => h) (Or.inl ⟨by rfl, ?_⟩) hHeld ?_
  rotate_left
  · intro w hSw; (try dsimp only at hSw); go_simp; all_goals (with_reducible rfl)
  try simp only [Act.put, List.setIfInBounds_toArray, List.set_cons_zero, List.set_cons_succ]
  refine wpAnyH_here 7 (v := ?_) rfl (by kernel_rfl) (by kernel_rfl) (by kernel_rfl) (fun _ _ _ h => h) (Or.inl ⟨by rfl, ?_⟩) hHeld ?_
  rotate_left
  · intro w hSw; (try dsimp only at hSw); go_simp; all_goals (with_reducible rfl)
  try simp only [Act.put, List.setIfInBounds_toArray, List.set_cons_zero, List.set_cons_succ]
  refine wpAnyH_here 8 (v := ?_) rfl (by kernel_rfl) (by kernel_rfl) (by kernel_rfl) (fun _ _ _ h => h) (Or.inl ⟨by rfl, ?_⟩) hHeld ?_
  rotate_left
  · intro w hSw; (try dsimp only at hSw); go_simp; all_goals (with_reducible rfl)
  try simp only [Act.put, List.setIfInBounds_toArray, List.set_cons_zero, List.set_cons_succ]
  refine wpAnyH_here 11 (v := ?_) rfl (by kernel_rfl) (by kernel_rfl) (by kernel_rfl) (fun _ _ _ h => h) (Or.inl ⟨by rfl, ?_⟩) hHeld ?_
  rotate_left
  · intro w hSw; (try dsimp only at hSw); go_simp; all_goals (with_reducible rfl)
  try simp only [Act.put, List.setIfInBounds_toArray, List.set_cons_zero, List.set_cons_succ]
  refine wpAnyH_here 12 (v := ?_) rfl (by kernel_rfl) (by kernel_rfl) (by kernel_rfl) (fun _ _ _ h => h) (Or.inl ⟨by rfl, ?_⟩) hHeld ?_
  rotate_left
  · intro w hSw; (try dsimp only at hSw); go_simp; all_goals (with_reducible rfl)
  try simp only [Act.put, List.setIfInBounds_toArray, List.set_cons_zero, List.set_cons_succ]
  refine wpAnyH_here 15 (v := ?_) rfl (by kernel_rfl) (by kernel_rfl) (by kernel_rfl) (fun _ _ _ h => h) (Or.inl ⟨by rfl, ?_⟩) hHeld ?_
  rotate_left
  · intro w hSw; (try dsimp only at hSw); go_simp; all_goals (with_reducible rfl)
  try simp only [Act.put, List.setIfInBounds_toArray, List.set_cons_zero, List.set_cons_succ]
  refine wpAnyH_here 16 (v := ?_) rfl (by kernel_rfl) (by kernel_rfl) (by kernel_rfl) (fun _ _ _ h => h) (Or.inl ⟨by rfl, ?_⟩) hHeld ?_
  rotate_left
  · intro w hSw; (try dsimp only at hSw); go_simp; all_goals (with_reducible rfl)
  try simp only [Act.put, List.setIfInBounds_toArray, List.set_cons_zero, List.set_cons_succ]
  refine wpAnyH_here 17 (v := ?_) rfl (by kernel_rfl) (by kernel_rfl) (by kernel_rfl) (fun _ _ _ h => h) (Or.inl ⟨by rfl, ?_⟩) hHeld ?_
  rotate_left
  · intro w hSw; (try dsimp only at hSw); go_simp; all_goals (with_reducible rfl)
  try simp only [Act.put, List.setIfInBounds_toArray, List.set_cons_zero, List.set_cons_succ]
  refine wpAnyH_here 20 (v := ?_) rfl (by kernel_rfl) (by kernel_rfl) (by kernel_rfl) (fun _ _ _ h => h) (Or.inl ⟨by rfl, ?_⟩) hHeld ?_
  rotate_left
  · intro w hSw; (try dsimp only at hSw); go_simp; all_goals (with_reducible rfl)
  try simp only [Act.put, List.setIfInBounds_toArray, List.set_cons_zero, List.set_cons_succ]
  refine wpAnyH_here 21 (v := ?_) rfl (by kernel_rfl) (by kernel_rfl) (by kernel_rfl) (fun _ _ _ h => h) (Or.inl ⟨by rfl, ?_⟩) hHeld ?_
  rotate_left
  · intro w hSw; (try dsimp only at hSw); go_simp; all_goals (with_reducible rfl)
  try simp only [Act.put, List.setIfInBounds_toArray, List.set_cons_zero, List.set_cons_succ]
  refine wpAnyH_here 22 (v := ?_) rfl (by kernel_rfl) (by kernel_rfl) (by kernel_rfl) (fun _ _ _ h => h) (Or.inl ⟨by rfl, ?_⟩) hHeld ?_
  rotate_left
  · intro w hSw; (try dsimp only at hSw); go_simp; all_goals (with_reducible rfl)
  try simp only [Act.put, List.setIfInBounds_toArray, List.set_cons_zero, List.set_cons_succ]
  refine wpAnyH_alone 6 rfl (by kernel_rfl) (fun K hK => ?_)
  go_simp
  (go_at_call 38; refine (x1 _).mono ?_; rintro e V0 ⟨rfl, rfl⟩)
  refine hK.out _ _ (⟨c0, c1, c2, c3, c4, c5⟩) (fun hHeld => ?_)
  clear hK K
  try simp only [Act.put, List.setIfInBounds_toArray, List.set_cons_zero, List.set_cons_succ]
  refine wpAnyH_alone 9 rfl (by kernel_rfl) (fun K hK => ?_)
  go_simp
  (go_at_call 38; refine (x2 _).mono ?_; rintro e V1 ⟨rfl, rfl⟩)
  refine hK.out _ _ (⟨c0, c1, c2, c3, c4, c5⟩) (fun hHeld => ?_)
  clear hK K
  try simp only [Act.put, List.setIfInBounds_toArray, List.set_cons_zero, List.set_cons_succ]
  refine wpAnyH_here 10 (v := ?_) rfl (by kernel_rfl) (by kernel_rfl) (by kernel_rfl) (fun _ _ _ h => h) (Or.inl ⟨by rfl, ?_⟩) hHeld ?_
  rotate_left
  · intro w hSw; (try dsimp only at hSw); go_simp; all_goals (with_reducible rfl)
  try simp only [Act.put, List.setIfInBounds_toArray, List.set_cons_zero, List.set_cons_succ]
  refine wpAnyH_alone 13 rfl (by kernel_rfl) (fun K hK => ?_)
  go_simp
  (go_at_call 38; refine (x3 _).mono ?_; rintro e V2 ⟨rfl, rfl⟩)
  refine hK.out _ _ (⟨c0, c1, c2, c3, c4, c5⟩) (fun hHeld => ?_)
  clear hK K
  try simp only [Act.put, List.setIfInBounds_toArray, List.set_cons_zero, List.set_cons_succ]
  refine wpAnyH_here 14 (v := ?_) rfl (by kernel_rfl) (by kernel_rfl) (by kernel_rfl) (fun _ _ _ h => h) (Or.inl ⟨by rfl, ?_⟩) hHeld ?_
  rotate_left
  · intro w hSw; (try dsimp only at hSw); go_simp; all_goals (with_reducible rfl)
  try simp only [Act.put, List.setIfInBounds_toArray, List.set_cons_zero, List.set_cons_succ]
  refine wpAnyH_here 18 (v := ?_) rfl (by kernel_rfl) (by kernel_rfl) (by kernel_rfl) (fun _ _ _ h => h) (Or.inl ⟨by rfl, ?_⟩) hHeld ?_
  rotate_left
  · intro w hSw; (try dsimp only at hSw); go_simp; all_goals (with_reducible rfl)
  try simp only [Act.put, List.setIfInBounds_toArray, List.set_cons_zero, List.set_cons_succ]
  refine wpAnyH_here 19 (v := ?_) rfl (by kernel_rfl) (by kernel_rfl) (by kernel_rfl) (fun _ _ _ h => h) (Or.inl ⟨by rfl, ?_⟩) hHeld ?_
  rotate_left
  · intro w hSw; (try dsimp only at hSw); go_simp; all_goals (with_reducible rfl)
  try simp only [Act.put, List.setIfInBounds_toArray, List.set_cons_zero, List.set_cons_succ]
  have HB : Below w1.heap.size w1 (w1.alloc (.cells #[.int .u8 1, .int .u8 (M1 : Int), .int .u8 (G : Int), .int .u8 (Q : Int)] 5)).drew := (bel_new _ _).drew
  refine wpAnyH_alone 23 rfl (by kernel_rfl) (fun K hK => ?_)
  go_simp
  skip
  refine hK.out _ _ (⟨(HB.cell (p := ⟨w.heap.size, 0, none⟩) hlt).trans c0, (HB.cell (p := ⟨w.heap.size, 1, none⟩) hlt).trans c1, (HB.cell (p := ⟨w.heap.size, 2, none⟩) hlt).trans c2, (HB.cell (p := ⟨w.heap.size, 3, none⟩) hlt).trans c3, (HB.cell (p := ⟨w.heap.size, 4, none⟩) hlt).trans c4, (HB.cell (p := ⟨w.heap.size, 5, none⟩) hlt).trans c5⟩) (fun hHeld => ?_)
  clear hK K
  try simp only [Act.put, List.setIfInBounds_toArray, List.set_cons_zero, List.set_cons_succ]
  refine wpAnyH_here 24 (v := ?_) rfl (by kernel_rfl) (by kernel_rfl) (by kernel_rfl) (fun _ _ _ h => h) (Or.inl ⟨by rfl, ?_⟩) hHeld ?_
  rotate_left
  · intro w hSw; (try dsimp only at hSw); go_simp; all_goals (with_reducible rfl)
  try simp only [Act.put, List.setIfInBounds_toArray, List.set_cons_zero, List.set_cons_succ]
  refine wpAnyH_here 25 (v := ?_) rfl (by kernel_rfl) (by kernel_rfl) (by kernel_rfl) (fun _ _ _ h => h) (Or.inl ⟨by rfl, ?_⟩) hHeld ?_
  rotate_left
  · intro w hSw; (try dsimp only at hSw); go_simp; all_goals (with_reducible rfl)
  try simp only [Act.put, List.setIfInBounds_toArray, List.set_cons_zero, List.set_cons_succ]
  refine wpAnyH_done (by kernel_rfl) ?_ _
  go_wp2
  go_ret2
  have hsz : w.heap.size ≤ w1.heap.size := bel1.size
  exact ⟨_, rfl, (Ow_new w1 w.heap.size 5 (wd4 C G Q) 4 _ rfl HR.out hsz (by decide) _ rfl).drew, bel1.trans (HB.mono hsz)⟩

theorem zencode_any (ch : Int) (lk wt rt : Bool) (bp nx : Int) (w : World) :
    Calls Try.prog 20 #[.agg #[.int .i64 ch, .bool lk, .bool wt, .bool rt, .int .i64 bp, .int .i64 nx]] w fun e w' => ∃ v, e = .returned (.tuple #[v, .int .i64 (Cw.err ⟨ch, lk, wt, rt, bp, nx⟩)]) ∧ Ow w' w.heap.size 5 v (Cw.enc ⟨ch, lk, wt, rt, bp, nx⟩) ∧ Below w.heap.size w w' := by
  cases hok : Cw.ok ⟨ch, lk, wt, rt, bp, nx⟩ with
  | false =>
    rw [Cw.enc_no hok, Cw.err_no hok]
    exact (zencode_no ch lk wt rt bp nx w hok).mono fun e w' ⟨h1, h2⟩ => ⟨_, h1, Ow_nil _ _, h2⟩
  | true =>
    rw [Cw.enc_yes hok, Cw.err_yes hok]
    obtain ⟨h1, h2, h3, h4, h5, h6⟩ := Cw.ok_fits hok
    simp only at h1 h2 h3 h4 h5 h6
    obtain ⟨C, rfl⟩ := Int.eq_ofNat_of_zero_le h1
    obtain ⟨B, rfl⟩ := Int.eq_ofNat_of_zero_le h3
    obtain ⟨Q, rfl⟩ := Int.eq_ofNat_of_zero_le h5
    exact zencode_yes C B Q lk wt rt w hok (by omega) (by omega) (by omega)
end Go.Proofs.Ytmkmojhhfbokdaa.Clc

/-
  The walks of the reference's checksums.
-/
namespace Go.Proofs.Ytmkmojhhfbokdaa
open Go.RowKit

def bitI (b : Bool) : Int := if b then 1 else 0

theorem testBit_int (m n : Nat) : ((m / 2 ^ n : Nat) : Int) % 2 = bitI (m.testBit n) := by
  have t := Nat.toNat_testBit m n
  unfold bitI
  generalize m / 2 ^ n = q at *
  cases h : m.testBit n <;> rw [h] at t <;> simp at t <;> simp <;> omega
theorem bit_tmod (x : Byte) (n : Nat) : ((x.toNat : Int) / 2 ^ n).tmod 2 = bitI (x.getLsbD n) := by
  have e : (x.toNat : Int) / 2 ^ n = ((x.toNat / 2 ^ n : Nat) : Int) := by rw [Int.natCast_ediv, Int.natCast_pow]; rfl
  rw [e, Int.tmod_eq_emod_of_nonneg (Int.natCast_nonneg _)]
  exact testBit_int _ _

theorem i64_ofInt (a : Nat) (ha : a < 9223372036854775808) : (BitVec.ofInt 64 (a : Int)).toNat = a := by
  rw [BitVec.ofInt_natCast, BitVec.toNat_ofNat]; exact Nat.mod_eq_of_lt (by omega)
theorem i64_xor_nat' (a b : Nat) (ha : a < 9223372036854775808) (hb : b < 9223372036854775808) : bits .xor .i64 (a : Int) (b : Int) = ((a ^^^ b : Nat) : Int) := by
  have hx : a ^^^ b < 2 ^ 63 := Nat.xor_lt_two_pow (by omega) (by omega)
  show IntKind.i64.wrap ((BitVec.ofInt 64 (a : Int) ^^^ BitVec.ofInt 64 (b : Int)).toNat : Int) = _
  rw [BitVec.toNat_xor, i64_ofInt a ha, i64_ofInt b hb, IntKind.wrap_i64]
  omega

theorem top16 (r : BitVec 16) : (r.toNat : Int) / 32768 = bitI (r.getLsbD 15) := by
  have h := testBit_int r.toNat 15
  have := r.isLt
  have e : ((r.toNat / 2 ^ 15 : Nat) : Int) = (r.toNat : Int) / 32768 := by omega
  have e2 : (r.toNat : Int) / 32768 % 2 = (r.toNat : Int) / 32768 := by omega
  rw [e, e2] at h
  exact h
theorem fd_test (r : BitVec 16) (b : Bool) : (((r.toNat : Int) / 32768 + bitI b) % 2 == 1) = (r.getLsbD 15 != b) := by
  rw [top16]
  cases r.getLsbD 15 <;> cases b <;> rfl
theorem shl_mod (r : BitVec 16) : (r.toNat : Int) * (2 : Int) % (65536 : Int) = ((r <<< 1).toNat : Int) := by
  rw [← b16_shl1, IntKind.wrap_u16]
theorem fd_yes (r : BitVec 16) (b : Bool) (h : (((r.toNat : Int) / 32768 + bitI b) % 2 == 1) = true) : bits .xor .i64 ((r.toNat : Int) * 2 % 65536) 4129 = ((fd16 r b).toNat : Int) := by
  rw [fd_test] at h
  have hl := (r <<< 1).isLt
  rw [shl_mod, fd16, if_pos h, show (4129 : Int) = ((4129 : Nat) : Int) from rfl, i64_xor_nat' _ _ (by omega) (by omega), BitVec.toNat_xor]
  rfl
theorem fd_no (r : BitVec 16) (b : Bool) (h : (((r.toNat : Int) / 32768 + bitI b) % 2 == 1) = false) : (r.toNat : Int) * 2 % 65536 = ((fd16 r b).toNat : Int) := by
  rw [fd_test] at h
  rw [shl_mod, fd16, if_neg (by rw [h]; decide)]

set_option maxHeartbeats 400000 in
theorem bit_any (a : Option Addr) (l : List Byte) (c B k : Nat) (w : World) (hb : Bs w B a l) (hm : l.length ≤ maxLen) (hk : k < 8 * l.length) :
    Calls Try.prog 46 #[.slice a l.length c, .int .i64 k] w fun e w' => e = .returned (.int .i64 (bitI ((l[k / 8]?.getD 0#8).getLsbD (7 - k % 8)))) ∧ w = w' := by
  unfold maxLen at hm
  obtain ⟨b, off, rfl, _, hc⟩ := hb.at_ (k := k / 8) (by omega)
  go_enter Try.func46, Try.ntmps46
  go_wp2
  go_ret
  exact ⟨ret_int (by rw [bit_tmod, List.getElem?_eq_getElem (by omega)]; rfl), rfl⟩

set_option maxHeartbeats 400000 in
theorem refUpdate16_any (r : BitVec 16) (a : Option Addr) (l : List Byte) (c B : Nat) (w : World) (hb : Bs w B a l) (hm : l.length ≤ 2000) :
    Calls Try.prog 39 #[.int .u16 (r.toNat : Int), .slice a l.length c] w fun e w' => e = .returned (.int .u16 ((up16 r l).toNat : Int)) ∧ w = w' := by
  go_enter Try.func39, Try.ntmps39
  go_wp2
  go_loop [5, 6] (fun t i => ∃ k : Nat, k ≤ 8 * l.length ∧ i = .int .i64 k ∧ t = .int .i64 ((fbs16 r l k).toNat : Int)) (fun _ i => 8 * l.length - (intOf i).toNat)
  case atStart => exact ⟨0, Nat.zero_le _, rfl, rfl⟩
  case round =>
    obtain ⟨k, hk, rfl, rfl⟩ := hrel
    by_cases hlt : k < 8 * l.length
    · obtain ⟨R, hR⟩ : ∃ R, R = fbs16 r l k := ⟨_, rfl⟩
      obtain ⟨b, hbb⟩ : ∃ b, b = (l[k / 8]?.getD 0#8).getLsbD (7 - k % 8) := ⟨_, rfl⟩
      have HR := Lib.hid hR
      have HB := Lib.hid hbb
      rw [← hR]
      have hbit := fun W hbW => bit_any a l c B k W hbW (by unfold maxLen; omega) hlt
      rw [← hbb] at hbit
      have HBIT := Lib.hid hbit
      clear hbit hR hbb
      have hRl := R.isLt
      have hb0 : 0 ≤ bitI b := by cases b <;> decide
      have hb1 : bitI b ≤ 1 := by cases b <;> decide
      go_wp2_with (go_at_call 46; refine (HBIT.out _ (by assumption)).mono ?_; rintro e w' ⟨rfl, rfl⟩)
      · have ht : (((R.toNat : Int) / 32768 + bitI b) % 2 == 1) = true := by assumption
        go_round
        case rel => exact ⟨k + 1, by omega, by go_num, val_int (by rw [fd_yes R b ht, fbs16, ← HR.out, ← HB.out])⟩
        case measure => simp [intOf]; omega
      · have ht : (((R.toNat : Int) / 32768 + bitI b) % 2 == 1) = false := by assumption
        go_round
        case rel => exact ⟨k + 1, by omega, by go_num, val_int (by rw [fd_no R b ht, fbs16, ← HR.out, ← HB.out])⟩
        case measure => simp [intOf]; omega
    · have hRl := (fbs16 r l k).isLt
      go_wp2
      go_ret
      exact ⟨ret_int (by rw [show k = 8 * l.length by omega, fbs16_all r l _ (Nat.le_refl _), List.take_length]), rfl⟩
end Go.Proofs.Ytmkmojhhfbokdaa

/-
  The walk of the reference's CRC-32C, and the four sums.
-/
namespace Go.Proofs.Ytmkmojhhfbokdaa
open Go.RowKit

theorem low32 (r : BitVec 32) : (r.toNat : Int) % 2 = bitI (r.getLsbD 0) := by
  have h := testBit_int r.toNat 0
  rw [Nat.pow_zero, Nat.div_one] at h
  exact h
theorem div_bit (x : Byte) (n : Nat) : (x.toNat : Int) / 2 ^ n % 2 = bitI (x.getLsbD n) := by
  have e : (x.toNat : Int) / 2 ^ n = ((x.toNat / 2 ^ n : Nat) : Int) := by rw [Int.natCast_ediv, Int.natCast_pow]; rfl
  rw [e]
  exact testBit_int _ _
theorem div_bound (x : Byte) (n : Nat) : 0 ≤ (x.toNat : Int) / 2 ^ n ∧ (x.toNat : Int) / 2 ^ n ≤ 255 := by
  have e : (x.toNat : Int) / 2 ^ n = ((x.toNat / 2 ^ n : Nat) : Int) := by rw [Int.natCast_ediv, Int.natCast_pow]; rfl
  have := x.isLt
  have h0 := Int.natCast_nonneg (x.toNat / 2 ^ n)
  have h1 : ((x.toNat / 2 ^ n : Nat) : Int) ≤ (x.toNat : Int) := Int.ofNat_le.mpr (Nat.div_le_self _ _)
  rw [e]
  exact ⟨h0, by omega⟩
theorem fd32_test (r : BitVec 32) (x : Byte) (j : Nat) : (((r.toNat : Int) + (x.toNat : Int) / 2 ^ j) % 2 == 1) = (r.getLsbD 0 != x.getLsbD j) := by
  rw [Int.add_emod, low32, div_bit]
  cases r.getLsbD 0 <;> cases x.getLsbD j <;> rfl
theorem fd32_yes (r : BitVec 32) (x : Byte) (j : Nat) (h : (((r.toNat : Int) + (x.toNat : Int) / 2 ^ j) % 2 == 1) = true) : bits .xor .i64 ((r.toNat : Int) / 2) 2197175160 = ((fd32 r (x.getLsbD j)).toNat : Int) := by
  rw [fd32_test] at h
  have hl := (r >>> 1).isLt
  rw [b32_shr1, fd32, if_pos h, show (2197175160 : Int) = ((2197175160 : Nat) : Int) from rfl, i64_xor_nat' _ _ (by omega) (by omega), BitVec.toNat_xor]
  rfl
theorem fd32_no (r : BitVec 32) (x : Byte) (j : Nat) (h : (((r.toNat : Int) + (x.toNat : Int) / 2 ^ j) % 2 == 1) = false) : (r.toNat : Int) / 2 = ((fd32 r (x.getLsbD j)).toNat : Int) := by
  rw [fd32_test] at h
  rw [b32_shr1, fd32, if_neg (by rw [h]; decide)]

set_option maxHeartbeats 400000 in
theorem refSum16_any (a : Option Addr) (l : List Byte) (c B : Nat) (w : World) (hb : Bs w B a l) (hm : l.length ≤ 2000) :
    Calls Try.prog 22 #[.slice a l.length c] w fun e w' => e = .returned (.int .u16 ((up16 0xffff#16 l).toNat : Int)) ∧ w = w' := by
  go_enter Try.func22, Try.ntmps22
  go_wp2_with (go_at_call 39; refine (refUpdate16_any 0xffff#16 a l c B _ (by assumption) hm).mono ?_; rintro e w' ⟨rfl, rfl⟩)
  go_ret
  exact ⟨rfl, rfl⟩
end Go.Proofs.Ytmkmojhhfbokdaa

/-
  The walks of the reference of layer 18: Encode, Same.
-/
namespace Go.Proofs.Ytmkmojhhfbokdaa.Tmf
open Go.RowKit Go.Proofs.Ytmkmojhhfbokdaa.Pac
open Clc (Cw)

theorem rsum16_len (a : Option Addr) (l : List Byte) (n c B : Nat) (w : World) (hl : l.length = n) (hb : Bs w B a l) (hm : n ≤ 2000) :
    Calls Try.prog 22 #[.slice a n c] w fun e w' => e = .returned (.int .u16 ((up16 0xffff#16 l).toNat : Int)) ∧ w = w' := by
  subst hl
  exact refSum16_any a l c B w hb hm

set_option maxHeartbeats 1000000 in
theorem rencode_no (cr ch ma ct fi : Int) (a : Option Addr) (l : List Byte) (n c : Nat) (wc : Int) (lk wt rt : Bool) (wb wn : Int) (w : World) (hl : Hid (l.length = n)) (hm : n ≤ maxLen) (hok : Fr.ok ⟨cr, ch, ma, ct, fi, l, ⟨wc, lk, wt, rt, wb, wn⟩⟩ = false) :
    Calls Try.prog 10 #[.agg #[.int .i64 cr, .int .i64 ch, .int .i64 ma, .int .i64 ct, .int .i64 fi, .slice a n c, .int .i64 wc, .bool lk, .bool wt, .bool rt, .int .i64 wb, .int .i64 wn]] w fun e w' => e = .returned (.tuple #[.slice none 0 0, .int .i64 1]) ∧ Below w.heap.size w w' := by
  have hv := fun W => rvalid_any cr ch ma ct fi a l n c wc lk wt rt wb wn W hl hm
  rw [hok] at hv
  clear hok hl hm
  go_enter Try.func10, Try.ntmps10
  go_wp2_with fail
  refine (hv _).mono ?_
  rintro e w' ⟨rfl, hbe⟩
  go_wp2
  go_ret2
  exact ⟨rfl, (bel_new _ _).trans (hbe.mono (bel_new _ _).size)⟩

set_option maxHeartbeats 2000000 in
theorem rencode_yes (C A M Q F : Nat) (a : Option Addr) (l : List Byte) (n c : Nat) (wc : Int) (lk wt rt : Bool) (wb wn : Int) (w : World) (hl : Hid (l.length = n)) (hb : Bs w w.heap.size a l) (hn : a = none → c = 0) (hok : Fr.ok ⟨C, A, M, Q, F, l, ⟨wc, lk, wt, rt, wb, wn⟩⟩ = true) (hcw : Cw.ok ⟨wc, lk, wt, rt, wb, wn⟩ = true) (hC : C < 1024) (hA : A < 8) (hM : M < 256) (hQ : Q < 256) (hF : F < 2048) (hN : n ≤ 1012) :
    Calls Try.prog 10 #[.agg #[.int .i64 (C : Int), .int .i64 (A : Int), .int .i64 (M : Int), .int .i64 (Q : Int), .int .i64 (F : Int), .slice a n c, .int .i64 wc, .bool lk, .bool wt, .bool rt, .int .i64 wb, .int .i64 wn]] w fun e w' => ∃ v, e = .returned (.tuple #[v, .int .i64 0]) ∧ Ow w' w.heap.size 5 v (ap16 (hdr6 (hw C A) M Q (sw F) ++ l ++ Cw.word ⟨wc, lk, wt, rt, wb, wn⟩)) ∧ Below w.heap.size w w' := by
  have hv := fun W => rvalid_any (C : Int) (A : Int) (M : Int) (Q : Int) (F : Int) a l n c wc lk wt rt wb wn W hl (by unfold maxLen; omega)
  rw [hok] at hv
  have hce := fun W => Clc.zencode_any wc lk wt rt wb wn W
  rw [Cw.enc_yes hcw, Cw.err_yes hcw] at hce
  obtain ⟨cw, hcwE⟩ : ∃ cw, cw = Cw.word ⟨wc, lk, wt, rt, wb, wn⟩ := ⟨_, rfl⟩
  have hcl : cw.length = 4 := by rw [hcwE]; rfl
  rw [← hcwE] at hce ⊢
  have hhd := fun bs hpk => head_of (bs := bs) C A M Q F hC hA hF hpk
  obtain ⟨hdr, hhdE⟩ : ∃ hdr, hdr = hdr6 (hw C A) M Q (sw F) := ⟨_, rfl⟩
  have hhl : hdr.length = 6 := by rw [hhdE]; rfl
  rw [← hhdE] at hhd ⊢
  have hEl : (hdr ++ l ++ cw).length = n + 10 := by rw [List.length_append, List.length_append, hl.out, hhl, hcl]; omega
  have hE1 : (hdr ++ l).length = n + 6 := by rw [List.length_append, hl.out, hhl]; omega
  obtain ⟨E, hE⟩ : ∃ E, E = hdr ++ l ++ cw := ⟨_, rfl⟩
  rw [← hE] at hEl ⊢
  have HEE := Lib.hid hE
  have HL := Lib.hid hEl
  have HL1 := Lib.hid hE1
  have HC := Lib.hid hcl
  have HH := Lib.hid hhl
  have HD := Lib.hid hhd
  have hP0 := Cel.new w 26 #[.int .i64 (C : Int), .int .i64 (A : Int), .int .i64 (M : Int), .int .i64 (Q : Int), .int .i64 (F : Int), .slice a n c, .int .i64 wc, .bool lk, .bool wt, .bool rt, .int .i64 wb, .int .i64 wn]
  have k0 := to_u64 C (by omega)
  have k1 := to_u64 A (by omega)
  have k2 := to_u64 M (by omega)
  have k3 := to_u64 Q (by omega)
  have k4 := to_u64 F (by omega)
  clear hok hcw hcwE hcl hhdE hhl hEl hE1 hE hhd
  go_enter Try.func10, Try.ntmps10
  go_wp2_with fail
  refine (hv _).mono ?_
  rintro e w1 ⟨rfl, hbe⟩
  have hP := Cel.later hP0 hbe
  have bel1 := (bel_new w (.cells #[.int .i64 (C : Int), .int .i64 (A : Int), .int .i64 (M : Int), .int .i64 (Q : Int), .int .i64 (F : Int), .slice a n c, .int .i64 wc, .bool lk, .bool wt, .bool rt, .int .i64 wb, .int .i64 wn] 26)).trans (hbe.mono (bel_new w _).size)
  have hlt := hP.lt
  have c0 := hP.cell 0
  have c1 := hP.cell 1
  have c2 := hP.cell 2
  have c3 := hP.cell 3
  have c4 := hP.cell 4
  have c5 := hP.cell 5
  have c6 := hP.cell 6
  have c7 := hP.cell 7
  have c8 := hP.cell 8
  have c9 := hP.cell 9
  have c10 := hP.cell 10
  have c11 := hP.cell 11
  simp at c0 c1 c2 c3 c4 c5 c6 c7 c8 c9 c10 c11
  clear hv hP0 hbe hP
  obtain ⟨W0, hW0⟩ : ∃ W0, W0 = w1.alloc (.cells #[.slice none 0 0] 42) := ⟨_, rfl⟩
  have s0 : XS w1.heap.size w1 w1.heap.size [] W0 := by rw [hW0]; exact XS.new (Below.refl _ _) (Nat.le_refl _)
  go_wp2_with fail
  rw [← hW0]
  clear hW0
  refine (s0.put (0) (0) rfl 2 2 rfl (by omega) (by omega) (by simp)).mono ?_
  rintro e W1 ⟨rfl, s1⟩
  clear s0
  have HB := s1.2.2
  have d := (HB.cell (p := ⟨w.heap.size, 0, none⟩) hlt).trans c0
  go_wp2_with fail
  refine (s1.put ((C : Int)) (C) rfl 10 10 rfl (by omega) (by omega) (by simp [bitsOf_len])).mono ?_
  rintro e W2 ⟨rfl, s2⟩
  clear s1 d HB
  have HB := s2.2.2
  have d := (HB.cell (p := ⟨w.heap.size, 1, none⟩) hlt).trans c1
  go_wp2_with fail
  refine (s2.put ((A : Int)) (A) rfl 3 3 rfl (by omega) (by omega) (by simp [bitsOf_len])).mono ?_
  rintro e W3 ⟨rfl, s3⟩
  clear s2 d HB
  have HB := s3.2.2
  go_wp2_with fail
  refine (s3.put (1) (1) rfl 1 1 rfl (by omega) (by omega) (by simp [bitsOf_len])).mono ?_
  rintro e W4 ⟨rfl, s4⟩
  clear s3 HB
  have HB := s4.2.2
  have d := (HB.cell (p := ⟨w.heap.size, 2, none⟩) hlt).trans c2
  go_wp2_with fail
  refine (s4.put ((M : Int)) (M) rfl 8 8 rfl (by omega) (by omega) (by simp [bitsOf_len])).mono ?_
  rintro e W5 ⟨rfl, s5⟩
  clear s4 d HB
  have HB := s5.2.2
  have d := (HB.cell (p := ⟨w.heap.size, 3, none⟩) hlt).trans c3
  go_wp2_with fail
  refine (s5.put ((Q : Int)) (Q) rfl 8 8 rfl (by omega) (by omega) (by simp [bitsOf_len])).mono ?_
  rintro e W6 ⟨rfl, s6⟩
  clear s5 d HB
  have HB := s6.2.2
  go_wp2_with fail
  refine (s6.put (3) (3) rfl 5 5 rfl (by omega) (by omega) (by simp [bitsOf_len])).mono ?_
  rintro e W7 ⟨rfl, s7⟩
  clear s6 HB
  have HB := s7.2.2
  have d := (HB.cell (p := ⟨w.heap.size, 4, none⟩) hlt).trans c4
  go_wp2_with fail
  refine (s7.put ((F : Int)) (F) rfl 11 11 rfl (by omega) (by omega) (by simp [bitsOf_len])).mono ?_
  rintro e W8 ⟨rfl, s8⟩
  clear s7 d HB
  have HB := s8.2.2
  have d6 := (HB.cell (p := ⟨w.heap.size, 6, none⟩) hlt).trans c6
  have d7 := (HB.cell (p := ⟨w.heap.size, 7, none⟩) hlt).trans c7
  have d8 := (HB.cell (p := ⟨w.heap.size, 8, none⟩) hlt).trans c8
  have d9 := (HB.cell (p := ⟨w.heap.size, 9, none⟩) hlt).trans c9
  have d10 := (HB.cell (p := ⟨w.heap.size, 10, none⟩) hlt).trans c10
  have d11 := (HB.cell (p := ⟨w.heap.size, 11, none⟩) hlt).trans c11
  go_wp2_with fail
  refine (hce _).mono ?_
  rintro e w2 ⟨vc, rfl, hownc, hb2⟩
  obtain ⟨Ac, cc, rfl, hRc⟩ := Rd.of hownc HC.out
  have s9 := s8.later hb2
  have HB2 := s9.2.2
  have hs9 := s9.size
  clear s8 HB hce hownc d6 d7 d8 d9 d10 d11
  have d5 := (HB2.cell (p := ⟨w.heap.size, 5, none⟩) hlt).trans c5
  go_wp2_with fail
  refine wp_region_held_drew (S := (fun w' => w'.cell? ⟨w.heap.size, 5, none⟩ = some (.slice a n c))) (by kernel_rfl) (d5) (fun hHeld => ?_)
  refine wpAnyH_here 1 (v := ?_) rfl (by kernel_rfl) (by kernel_rfl) (by kernel_rfl) (fun _ _ _ h => h) (Or.inl ⟨by rfl, ?_⟩) hHeld ?_
  rotate_left
  · intro w hSw; (try dsimp only at hSw); go_simp; all_goals (with_reducible rfl)
  try simp only [Act.put, List.setIfInBounds_toArray, List.set_cons_zero, List.set_cons_succ]
  refine wpAnyH_here 2 (v := ?_) rfl (by kernel_rfl) (by kernel_rfl) (by kernel_rfl) (fun _ _ _ h => h) (Or.inl ⟨by rfl, ?_⟩) hHeld ?_
  rotate_left
  · intro w hSw; (try dsimp only at hSw); go_simp; all_goals (with_reducible rfl)
  try simp only [Act.put, List.setIfInBounds_toArray, List.set_cons_zero, List.set_cons_succ]
  refine wpAnyH_alone 0 rfl (by kernel_rfl) (fun K hK => ?_)
  go_simp
  (go_at_call 21; refine (s9.draws.bytes (by simp [bitsOf_len])).mono ?_; rintro e w3 ⟨vh, bs, rfl, hpk, hownh, hb3⟩; obtain rfl := HD.out _ hpk; obtain ⟨q1, q2, rfl, _⟩ := hownh.reads_len HH.out; have HB3 := (Below.refl w2.heap.size w2).drew.trans (hb3.mono (Nat.le_refl _)); have HB := HB2.trans (HB3.mono (Nat.le_of_lt hs9)))
  refine hK.out _ _ ((HB.cell (p := ⟨w.heap.size, 5, none⟩) hlt).trans c5) (fun hHeld => ?_)
  clear hK K
  try simp only [Act.put, List.setIfInBounds_toArray, List.set_cons_zero, List.set_cons_succ]
  have hbl : Bs w3 w.heap.size a l := hb.below (bel1.trans (HB.mono (Nat.le_of_lt hlt)))
  have hz3 : w2.heap.size ≤ w3.heap.size := HB3.size
  refine wpAnyH_alone 3 rfl (by kernel_rfl) (fun K' hK' => ?_)
  refine step_app _ is_bytes rfl (.tmp 41) (.tmp 43) rfl (m := bs) rfl (hownh.more (b' := w2.heap.size) (Nat.le_refl _)) (l := l) (A := a) (c := c) (by rw [hl.out]; rfl) hbl hn (by rw [HH.out, hl.out]; omega) hz3 ?_
  intro v4 w4 hown4 hgr
  have HB4 := HB3.grown hgr hz3 (fun i hi => hownh.base_le i hi)
  have HB5 := HB2.trans (HB4.mono (Nat.le_of_lt hs9))
  obtain ⟨A4, c4', rfl, _⟩ := hown4.reads_len HL1.out
  refine hK'.out _ _ ((HB5.cell (p := ⟨w.heap.size, 5, none⟩) hlt).trans c5) (fun hHeld => ?_)
  clear hK' K'
  try simp only [Act.put, List.setIfInBounds_toArray, List.set_cons_zero, List.set_cons_succ]
  refine wpAnyH_here 4 (v := ?_) rfl (by kernel_rfl) (by kernel_rfl) (by kernel_rfl) (fun _ _ _ h => h) (Or.inl ⟨by rfl, ?_⟩) hHeld ?_
  rotate_left
  · intro w hSw; (try dsimp only at hSw); go_simp; all_goals (with_reducible rfl)
  try simp only [Act.put, List.setIfInBounds_toArray, List.set_cons_zero, List.set_cons_succ]
  refine wpAnyH_done (by kernel_rfl) ?_ _
  clear d5 c0 c1 c2 c3 c4 c5 c6 c7 c8 c9 c10 c11
  have hRc4 := hRc.later HB4
  have hz4 : w2.heap.size ≤ w4.heap.size := HB4.size
  go_wp2_with (at_builtin; refine wpList_app _ is_bytes rfl (.tmp 45) (.tmp 46) rfl (m := bs ++ l) rfl hown4 (l := cw) (A := Ac) (c := cc) (by rw [HC.out]; rfl) hRc4.bs hRc4.nil (by rw [HL1.out, HC.out]; omega) hz4 ?_; intro v5 w5 hown5 hgr5; have HB6 := HB4.grown hgr5 hz4 hown4.base_le; rw [← HEE.out] at hown5; obtain ⟨A5, c5', rfl, hA5, hn5, _, _⟩ := hown5.reads_len HL.out)
  refine (rsum16_len A5 E (n + 10) c5' _ w5 HL.out hA5 (by omega)).mono ?_
  rintro e w6 ⟨rfl, rfl⟩
  have hz5 : w2.heap.size ≤ w5.heap.size := HB6.size
  go_wp2_with (at_builtin; refine wpList_app _ is_bytes rfl (.tmp 50) (.tmp 57) rfl (m := E) rfl (hown5.alloc _) (l := crcb (up16 0xffff#16 E)) rfl (Bs_new2 _ _ _ _ _ _ (hi_byte _) (lo_byte _)) (by simp) (by rw [HL.out]; simp [crcb]; omega) (by simp; omega) ?_; intro v7 w7 hown7 hgr7; have HB7 := (HB6.alloc hz5 _).grown hgr7 (by simp; omega) hown5.base_le)
  go_ret2
  have hz2 : w.heap.size ≤ w2.heap.size := Nat.le_trans (Nat.le_of_lt hlt) (Nat.le_of_lt hs9)
  exact ⟨v7, rfl, hown7.more hz2, bel1.trans ((HB2.trans (HB7.mono (Nat.le_of_lt hs9))).mono (Nat.le_of_lt hlt))⟩

theorem rencode_any (cr ch ma ct fi : Int) (a : Option Addr) (l : List Byte) (n c : Nat) (wc : Int) (lk wt rt : Bool) (wb wn : Int) (w : World) (hl : Hid (l.length = n)) (hb : Bs w w.heap.size a l) (hn : a = none → c = 0) (hm : n ≤ maxLen) :
    Calls Try.prog 10 #[.agg #[.int .i64 cr, .int .i64 ch, .int .i64 ma, .int .i64 ct, .int .i64 fi, .slice a n c, .int .i64 wc, .bool lk, .bool wt, .bool rt, .int .i64 wb, .int .i64 wn]] w fun e w' => ∃ v, e = .returned (.tuple #[v, .int .i64 (Fr.err ⟨cr, ch, ma, ct, fi, l, ⟨wc, lk, wt, rt, wb, wn⟩⟩)]) ∧ Ow w' w.heap.size 5 v (Fr.enc ⟨cr, ch, ma, ct, fi, l, ⟨wc, lk, wt, rt, wb, wn⟩⟩) ∧ Below w.heap.size w w' := by
  cases hok : Fr.ok ⟨cr, ch, ma, ct, fi, l, ⟨wc, lk, wt, rt, wb, wn⟩⟩ with
  | false =>
    rw [Fr.enc_no hok, Fr.err_no hok]
    exact (rencode_no cr ch ma ct fi a l n c wc lk wt rt wb wn w hl hm hok).mono fun e w' ⟨h1, h2⟩ => ⟨_, h1, Ow_nil _ _, h2⟩
  | true =>
    rw [Fr.enc_yes hok, Fr.err_yes hok]
    obtain ⟨⟨h1, h2, h3, h4⟩, ⟨h5, h6, h7, h8, h9, h10⟩, ⟨h11, h12⟩, h13⟩ := Fr.ok_fits hok
    simp only at h1 h2 h3 h4 h5 h6 h7 h8 h9 h10 h11 h12 h13
    have hln := hl.out
    obtain ⟨C, rfl⟩ := Int.eq_ofNat_of_zero_le h1
    obtain ⟨A, rfl⟩ := Int.eq_ofNat_of_zero_le h3
    obtain ⟨M, rfl⟩ := Int.eq_ofNat_of_zero_le h5
    obtain ⟨Q, rfl⟩ := Int.eq_ofNat_of_zero_le h7
    obtain ⟨F, rfl⟩ := Int.eq_ofNat_of_zero_le h9
    exact rencode_yes C A M Q F a l n c wc lk wt rt wb wn w hl hb hn hok (Cw.ok_yes h13) (by omega) (by omega) (by omega) (by omega) (by omega) (by omega)

set_option maxHeartbeats 1000000 in
theorem rsame_any (cr ch ma ct fi : Int) (a p : Option Addr) (l : List Byte) (n c k : Nat) (wc : Int) (lk wt rt : Bool) (wb wn : Int) (w : World) (hD : Rd w a l n c) (hE : Rd w p l n k) :
    Calls Try.prog 15 #[.agg #[.int .i64 cr, .int .i64 ch, .int .i64 ma, .int .i64 ct, .int .i64 fi, .slice a n c, .int .i64 wc, .bool lk, .bool wt, .bool rt, .int .i64 wb, .int .i64 wn], .agg #[.int .i64 cr, .int .i64 ch, .int .i64 ma, .int .i64 ct, .int .i64 fi, .slice p n k, .int .i64 wc, .bool lk, .bool wt, .bool rt, .int .i64 wb, .int .i64 wn]] w fun e w' => e = .returned (.bool true) ∧ Below w.heap.size w w' := by
  obtain ⟨W1, hW1⟩ : ∃ W1, W1 = (w.alloc (.cells #[.int .i64 cr, .int .i64 ch, .int .i64 ma, .int .i64 ct, .int .i64 fi, .slice a n c, .int .i64 wc, .bool lk, .bool wt, .bool rt, .int .i64 wb, .int .i64 wn] 26)).alloc (.cells #[.int .i64 cr, .int .i64 ch, .int .i64 ma, .int .i64 ct, .int .i64 fi, .slice p n k, .int .i64 wc, .bool lk, .bool wt, .bool rt, .int .i64 wb, .int .i64 wn] 26) := ⟨_, rfl⟩
  have b1 : Below w.heap.size w W1 := by rw [hW1]; exact (bel_new _ _).alloc (bel_new _ _).size _
  have s1 := run_str (P := Try.prog) W1 is_bytes Try.underlying9 (hD.later b1).bs hD.nil
  have s2 := run_str (P := Try.prog) W1 is_bytes Try.underlying9 (hE.later b1).bs hE.nil
  rw [hD.len, hW1] at s1
  rw [hE.len, hW1] at s2
  rw [hW1] at b1
  have e0 : (cr == cr) = true := by simp
  have e1 : (ch == ch) = true := by simp
  have e2 : (ma == ma) = true := by simp
  have e3 : (ct == ct) = true := by simp
  have e4 : (fi == fi) = true := by simp
  have e5 : (wc == wc) = true := by simp
  have e6 : (lk == lk) = true := by simp
  have e7 : (wt == wt) = true := by simp
  have e8 : (rt == rt) = true := by simp
  have e9 : (wb == wb) = true := by simp
  have e10 : (wn == wn) = true := by simp
  have ez : ((str l).toList == (str l).toList) = true := by simp
  clear hW1 hD hE
  go_enter Try.func15, Try.ntmps15
  go_wp2
  go_ret
  exact ⟨rfl, b1⟩
end Go.Proofs.Ytmkmojhhfbokdaa.Tmf

/-
  A struct of twelve cells stored whole over another; a part of what a slice leads to.
-/
namespace Go.Proofs.Ytmkmojhhfbokdaa
open Go.RowKit

theorem set_only (w : World) (g i : Nat) (u : Value) : Only [g] w (w.setCell ⟨g, i, none⟩ u) := (Only.refl [g] w).put (p := ⟨g, i, none⟩) (.inl (by simp)) u
theorem set_then {w w' : World} {g : Nat} (h : Only [g] w w') (i : Nat) (u : Value) : Only [g] w (w'.setCell ⟨g, i, none⟩ u) := h.put (p := ⟨g, i, none⟩) (.inl (by simp)) u

def put12 (w : World) (g : Nat) (v0 v1 v2 v3 v4 v5 v6 v7 v8 v9 v10 v11 : Value) : World :=
  (((((((((((w.setCell ⟨g, 0, none⟩ v0).setCell ⟨g, 1, none⟩ v1).setCell ⟨g, 2, none⟩ v2).setCell ⟨g, 3, none⟩ v3).setCell ⟨g, 4, none⟩ v4).setCell ⟨g, 5, none⟩ v5).setCell ⟨g, 6, none⟩ v6).setCell ⟨g, 7, none⟩ v7).setCell ⟨g, 8, none⟩ v8).setCell ⟨g, 9, none⟩ v9).setCell ⟨g, 10, none⟩ v10).setCell ⟨g, 11, none⟩ v11
theorem put12_cel {w : World} {g : Nat} {t : TypeId} {x0 x1 x2 x3 x4 x5 x6 x7 x8 x9 x10 x11 : Value} (h : Cel w g t #[x0, x1, x2, x3, x4, x5, x6, x7, x8, x9, x10, x11]) (v0 v1 v2 v3 v4 v5 v6 v7 v8 v9 v10 v11 : Value) : Cel (put12 w g v0 v1 v2 v3 v4 v5 v6 v7 v8 v9 v10 v11) g t #[v0, v1, v2, v3, v4, v5, v6, v7, v8, v9, v10, v11] := by
  unfold put12
  have h0 : Cel _ g t #[v0, x1, x2, x3, x4, x5, x6, x7, x8, x9, x10, x11] := h.put 0 v0
  have h1 : Cel _ g t #[v0, v1, x2, x3, x4, x5, x6, x7, x8, x9, x10, x11] := h0.put 1 v1
  have h2 : Cel _ g t #[v0, v1, v2, x3, x4, x5, x6, x7, x8, x9, x10, x11] := h1.put 2 v2
  have h3 : Cel _ g t #[v0, v1, v2, v3, x4, x5, x6, x7, x8, x9, x10, x11] := h2.put 3 v3
  have h4 : Cel _ g t #[v0, v1, v2, v3, v4, x5, x6, x7, x8, x9, x10, x11] := h3.put 4 v4
  have h5 : Cel _ g t #[v0, v1, v2, v3, v4, v5, x6, x7, x8, x9, x10, x11] := h4.put 5 v5
  have h6 : Cel _ g t #[v0, v1, v2, v3, v4, v5, v6, x7, x8, x9, x10, x11] := h5.put 6 v6
  have h7 : Cel _ g t #[v0, v1, v2, v3, v4, v5, v6, v7, x8, x9, x10, x11] := h6.put 7 v7
  have h8 : Cel _ g t #[v0, v1, v2, v3, v4, v5, v6, v7, v8, x9, x10, x11] := h7.put 8 v8
  have h9 : Cel _ g t #[v0, v1, v2, v3, v4, v5, v6, v7, v8, v9, x10, x11] := h8.put 9 v9
  have h10 : Cel _ g t #[v0, v1, v2, v3, v4, v5, v6, v7, v8, v9, v10, x11] := h9.put 10 v10
  exact h10.put 11 v11
theorem put12_only (w : World) (g : Nat) (v0 v1 v2 v3 v4 v5 v6 v7 v8 v9 v10 v11 : Value) : Only [g] w (put12 w g v0 v1 v2 v3 v4 v5 v6 v7 v8 v9 v10 v11) := by
  unfold put12
  exact set_then (set_then (set_then (set_then (set_then (set_then (set_then (set_then (set_then (set_then (set_then (set_only _ g 0 _) 1 _) 2 _) 3 _) 4 _) 5 _) 6 _) 7 _) 8 _) 9 _) 10 _) 11 _
theorem put12_below {w W : World} {g : Nat} (h : Below w.heap.size w W) (hg : w.heap.size ≤ g) (v0 v1 v2 v3 v4 v5 v6 v7 v8 v9 v10 v11 : Value) : Below w.heap.size w (put12 W g v0 v1 v2 v3 v4 v5 v6 v7 v8 v9 v10 v11) :=
  h.trans ((put12_only _ _ _ _ _ _ _ _ _ _ _ _ _ _).below h.size (by simpa using hg))

/-- a part of what a slice leads to -/
theorem Rd.sub {w : World} {b off n c : Nat} {l : List Byte} (h : Rd w (some ⟨b, off, none⟩) l n c) (k m : Nat) (hk : k + m ≤ n) : Rd w (some ⟨b, off + k, none⟩) ((l.drop k).take m) m (c - k) := by
  have hln := h.len
  have hle := h.le
  have hmx := h.max
  exact ⟨(by rw [List.length_take, List.length_drop]; omega), Pac.Bs_sub h.bs rfl k m, (fun e => nomatch e), by omega, by omega⟩
theorem Rd.head {w : World} {a : Option Addr} {n c : Nat} {l : List Byte} (h : Rd w a l n c) (m : Nat) (hk : m ≤ n) : Rd w a (l.take m) m c := by
  have hln := h.len
  have hle := h.le
  refine ⟨by rw [List.length_take]; omega, fun hl => ?_, h.nil, by omega, h.max⟩
  obtain ⟨b, off, e, hb, hc⟩ := h.bs (by rw [List.length_take] at hl; omega)
  exact ⟨b, off, e, hb, fun i x hx => hc i x (by rw [List.getElem?_take] at hx; split at hx; exact hx; cases hx)⟩
end Go.Proofs.Ytmkmojhhfbokdaa

/-
  The walk of package tmframe's readHeader.
-/
namespace Go.Proofs.Ytmkmojhhfbokdaa.Tmf
open Go.RowKit Go.Proofs.Ytmkmojhhfbokdaa.Pac
open Clc (Cw)

theorem mrh_results {tmps : Array Value} {W : World} {g : Nat} {z : Bool} {cr ch ma ct fi : Int} {v : Value} {wc : Int} {lk wt rt : Bool} {wb wn : Int} (h2 : tmps.getD 2 undef = .pointer (some ⟨g, 0, none⟩)) (h3 : tmps.getD 3 undef = .bool z)
    (hC : Cel W g 26 #[.int .i64 cr, .int .i64 ch, .int .i64 ma, .int .i64 ct, .int .i64 fi, v, .int .i64 wc, .bool lk, .bool wt, .bool rt, .int .i64 wb, .int .i64 wn]) :
    (results Try.f27 tmps).run Try.prog W = .ok (.tuple #[.agg #[.int .i64 cr, .int .i64 ch, .int .i64 ma, .int .i64 ct, .int .i64 fi, v, .int .i64 wc, .bool lk, .bool wt, .bool rt, .int .i64 wb, .int .i64 wn], .bool z]) W := by
  have c0 := hC.cell 0
  have c1 := hC.cell 1
  have c2 := hC.cell 2
  have c3 := hC.cell 3
  have c4 := hC.cell 4
  have c5 := hC.cell 5
  have c6 := hC.cell 6
  have c7 := hC.cell 7
  have c8 := hC.cell 8
  have c9 := hC.cell 9
  have c10 := hC.cell 10
  have c11 := hC.cell 11
  simp at c0 c1 c2 c3 c4 c5 c6 c7 c8 c9 c10 c11
  simp only [Array.getD_eq_getD_getElem?] at h2 h3
  simp [results, Try.results27, go_sem, h2, h3, c0, c1, c2, c3, c4, c5, c6, c7, c8, c9, c10, c11]

set_option maxHeartbeats 2000000 in
theorem mreadHeader_any (a : Option Addr) (l : List Byte) (c : Nat) (w : World) (hD : Rd w a l 6 c) :
    Calls Try.prog 27 #[.slice a 6 c] w fun e w' => e = .returned (.tuple #[.agg #[.int .i64 ((b8 l 0 % 64 * 16 + b8 l 1 / 16 : Nat) : Int), .int .i64 ((b8 l 1 / 2 % 8 : Nat) : Int), .int .i64 ((b8 l 2 : Nat) : Int), .int .i64 ((b8 l 3 : Nat) : Int), .int .i64 ((b8 l 4 % 8 * 256 + b8 l 5 : Nat) : Int), .slice none 0 0, .int .i64 0, .bool false, .bool false, .bool false, .int .i64 0, .int .i64 0], .bool (hf l)]) ∧ Below w.heap.size w w' := by
  have hlen := hD.len
  have hx : ∀ k, k < 6 → ∃ x, l[k]? = some x ∧ b8 l k = x.toNat := fun k hk => ⟨l[k]'(by omega), List.getElem?_eq_getElem (by omega), b8_at (List.getElem?_eq_getElem (by omega))⟩
  obtain ⟨x0, g0, e0⟩ := hx 0 (by decide)
  obtain ⟨x1, g1, e1⟩ := hx 1 (by decide)
  obtain ⟨x2, g2, e2⟩ := hx 2 (by decide)
  obtain ⟨x3, g3, e3⟩ := hx 3 (by decide)
  obtain ⟨x4, g4, e4⟩ := hx 4 (by decide)
  obtain ⟨x5, g5, e5⟩ := hx 5 (by decide)
  have hV : numAt l 0 2 = b8 l 0 / 64 := by rw [e0]; exact n_ver g0
  have hC : numAt l 2 10 = b8 l 0 % 64 * 16 + b8 l 1 / 16 := by rw [e0, e1]; exact n_craft g0 g1
  have hA : numAt l 12 3 = b8 l 1 / 2 % 8 := by rw [e1]; exact n_chan g1
  have hG : numAt l 15 1 = b8 l 1 % 2 := by rw [e1]; exact n_flag g1
  have hM : numAt l 16 8 = b8 l 2 := by rw [e2]; exact n_mast g2
  have hQ : numAt l 24 8 = b8 l 3 := by rw [e3]; exact n_count g3
  have hS : numAt l 32 5 = b8 l 4 / 8 := by rw [e4]; exact n_stat g4
  have hF : numAt l 37 11 = b8 l 4 % 8 * 256 + b8 l 5 := by rw [e4, e5]; exact n_first g4 g5
  have z0 := b8_lt l 0
  have z1 := b8_lt l 1
  have z2 := b8_lt l 2
  have z3 := b8_lt l 3
  have z4 := b8_lt l 4
  have z5 := b8_lt l 5
  have hhf : hf l = (decide (b8 l 0 / 64 = 0) && decide (b8 l 1 % 2 = 1) && decide (b8 l 4 / 8 = 3)) := rfl
  rw [hhf]
  obtain ⟨V, qV⟩ : ∃ V, V = b8 l 0 / 64 := ⟨_, rfl⟩
  obtain ⟨C, qC⟩ : ∃ C, C = b8 l 0 % 64 * 16 + b8 l 1 / 16 := ⟨_, rfl⟩
  obtain ⟨A, qA⟩ : ∃ A, A = b8 l 1 / 2 % 8 := ⟨_, rfl⟩
  obtain ⟨G, qG⟩ : ∃ G, G = b8 l 1 % 2 := ⟨_, rfl⟩
  obtain ⟨M, qM⟩ : ∃ M, M = b8 l 2 := ⟨_, rfl⟩
  obtain ⟨Q, qQ⟩ : ∃ Q, Q = b8 l 3 := ⟨_, rfl⟩
  obtain ⟨S, qS⟩ : ∃ S, S = b8 l 4 / 8 := ⟨_, rfl⟩
  obtain ⟨F, qF⟩ : ∃ F, F = b8 l 4 % 8 * 256 + b8 l 5 := ⟨_, rfl⟩
  rw [← qV] at hV ⊢
  rw [← qC] at hC ⊢
  rw [← qA] at hA ⊢
  rw [← qG] at hG ⊢
  rw [← qM] at hM ⊢
  rw [← qQ] at hQ ⊢
  rw [← qS] at hS ⊢
  rw [← qF] at hF ⊢
  have wC := from_u64 C (by omega)
  have wA := from_u64 A (by omega)
  have wM := from_u64 M (by omega)
  have wQ := from_u64 Q (by omega)
  have wF := from_u64 F (by omega)
  obtain ⟨f1, qf1⟩ : ∃ b, b = decide (V = 0) := ⟨_, rfl⟩
  obtain ⟨f2, qf2⟩ : ∃ b, b = decide (G = 1) := ⟨_, rfl⟩
  obtain ⟨f3, qf3⟩ : ∃ b, b = decide (S = 3) := ⟨_, rfl⟩
  have j1 : ((V : Int) == 0) = f1 := by rw [qf1, Bool.eq_iff_iff]; simp
  have j2 : ((G : Int) == 1) = f2 := by rw [qf2, Bool.eq_iff_iff]; simp; omega
  have j3 : ((S : Int) == 3) = f3 := by rw [qf3, Bool.eq_iff_iff]; simp; omega
  rw [← qf1, ← qf2, ← qf3]
  have b0 := bel_new w (.cells #[.int .i64 0, .int .i64 0, .int .i64 0, .int .i64 0, .int .i64 0, .slice none 0 0, .int .i64 0, .bool false, .bool false, .bool false, .int .i64 0, .int .i64 0] 26)
  have p0 := Cel.new w 26 #[.int .i64 0, .int .i64 0, .int .i64 0, .int .i64 0, .int .i64 0, .slice none 0 0, .int .i64 0, .bool false, .bool false, .bool false, .int .i64 0, .int .i64 0]
  have hr := newReader_any a l 6 c (w.alloc (.cells #[.int .i64 0, .int .i64 0, .int .i64 0, .int .i64 0, .int .i64 0, .slice none 0 0, .int .i64 0, .bool false, .bool false, .bool false, .int .i64 0, .int .i64 0] 26)) (Lib.hid hlen) ((hD.bs.below b0).more b0.size) hD.nil (by decide)
  have HH := Lib.hid (And.intro hV (And.intro hC (And.intro hA (And.intro hG (And.intro hM (And.intro hQ (And.intro hS hF)))))))
  have HL := Lib.hid hlen
  clear qV qC qA qG qM qQ qS qF hhf hx g0 e0 z0 g1 e1 z1 g2 e2 z2 g3 e3 z3 g4 e4 z4 g5 e5 z5 qf1 qf2 qf3 hV hC hA hG hM hQ hS hF hlen hD
  go_enter Try.func27, Try.ntmps27
  go_wp2_with fail
  refine hr.mono ?_
  rintro e w1 ⟨g, r, rfl, hR, hg, hbe⟩
  have s0 : RS 26 w l 0 #[.int .i64 0, .int .i64 0, .int .i64 0, .int .i64 0, .int .i64 0, .slice none 0 0, .int .i64 0, .bool false, .bool false, .bool false, .int .i64 0, .int .i64 0] g w1 := ⟨⟨r, by simpa using hR⟩, by simpa using hg, Cel.later p0 hbe, b0.trans (hbe.mono b0.size)⟩
  clear hr hR hg hbe p0 b0
  go_wp2_with fail
  refine (s0.get 2 2 V rfl HH.out.1 (by have := HL.out; omega) (by decide) (by have := HL.out; omega)).mono ?_
  rintro e w2 ⟨rfl, s1⟩
  clear s0
  go_wp2_with fail
  refine (s1.get 10 10 C rfl HH.out.2.1 (by have := HL.out; omega) (by decide) (by have := HL.out; omega)).mono ?_
  rintro e w3 ⟨rfl, s2⟩
  clear s1
  have fr := s2.cel.free 0
  have ce := s2.cel.cell 0
  simp at ce
  go_wp2_with fail
  clear fr ce
  refine ((s2.put 0 (.int .i64 (C : Int))).get 3 3 A rfl HH.out.2.2.1 (by have := HL.out; omega) (by decide) (by have := HL.out; omega)).mono ?_
  rintro e w4 ⟨rfl, s3⟩
  clear s2
  have fr := s3.cel.free 1
  have ce := s3.cel.cell 1
  simp at ce
  go_wp2_with fail
  clear fr ce
  refine ((s3.put 1 (.int .i64 (A : Int))).get 1 1 G rfl HH.out.2.2.2.1 (by have := HL.out; omega) (by decide) (by have := HL.out; omega)).mono ?_
  rintro e w5 ⟨rfl, s4⟩
  clear s3
  go_wp2_with fail
  refine (s4.get 8 8 M rfl HH.out.2.2.2.2.1 (by have := HL.out; omega) (by decide) (by have := HL.out; omega)).mono ?_
  rintro e w6 ⟨rfl, s5⟩
  clear s4
  have fr := s5.cel.free 2
  have ce := s5.cel.cell 2
  simp at ce
  go_wp2_with fail
  clear fr ce
  refine ((s5.put 2 (.int .i64 (M : Int))).get 8 8 Q rfl HH.out.2.2.2.2.2.1 (by have := HL.out; omega) (by decide) (by have := HL.out; omega)).mono ?_
  rintro e w7 ⟨rfl, s6⟩
  clear s5
  have fr := s6.cel.free 3
  have ce := s6.cel.cell 3
  simp at ce
  go_wp2_with fail
  clear fr ce
  refine ((s6.put 3 (.int .i64 (Q : Int))).get 5 5 S rfl HH.out.2.2.2.2.2.2.1 (by have := HL.out; omega) (by decide) (by have := HL.out; omega)).mono ?_
  rintro e w8 ⟨rfl, s7⟩
  clear s6
  go_wp2_with fail
  refine (s7.get 11 11 F rfl HH.out.2.2.2.2.2.2.2 (by have := HL.out; omega) (by decide) (by have := HL.out; omega)).mono ?_
  rintro e w9 ⟨rfl, s8⟩
  clear s7
  have fr := s8.cel.free 4
  have ce := s8.cel.cell 4
  simp at ce
  have s9 := s8.put 4 (.int .i64 (F : Int))
  simp only [List.setIfInBounds_toArray, List.set_cons_zero, List.set_cons_succ] at s9
  have c0 := s9.cel.cell 0
  have c1 := s9.cel.cell 1
  have c2 := s9.cel.cell 2
  have c3 := s9.cel.cell 3
  have c4 := s9.cel.cell 4
  have c5 := s9.cel.cell 5
  have c6 := s9.cel.cell 6
  have c7 := s9.cel.cell 7
  have c8 := s9.cel.cell 8
  have c9 := s9.cel.cell 9
  have c10 := s9.cel.cell 10
  have c11 := s9.cel.cell 11
  simp at c0 c1 c2 c3 c4 c5 c6 c7 c8 c9 c10 c11
  have f0 := s9.cel.free 0
  have fr1 := s9.cel.free 1
  have fr2 := s9.cel.free 2
  have fr3 := s9.cel.free 3
  have f4 := s9.cel.free 4
  have f5 := s9.cel.free 5
  have f6 := s9.cel.free 6
  have f7 := s9.cel.free 7
  have f8 := s9.cel.free 8
  have f9 := s9.cel.free 9
  have f10 := s9.cel.free 10
  have f11 := s9.cel.free 11
  have hQ := put12_cel s9.cel (.int .i64 (C : Int)) (.int .i64 (A : Int)) (.int .i64 (M : Int)) (.int .i64 (Q : Int)) (.int .i64 (F : Int)) (.slice none 0 0) (.int .i64 0) (.bool false) (.bool false) (.bool false) (.int .i64 0) (.int .i64 0)
  have hB := s9.bel.trans ((put12_only _ w.heap.size (.int .i64 (C : Int)) (.int .i64 (A : Int)) (.int .i64 (M : Int)) (.int .i64 (Q : Int)) (.int .i64 (F : Int)) (.slice none 0 0) (.int .i64 0) (.bool false) (.bool false) (.bool false) (.int .i64 0) (.int .i64 0)).below s9.bel.size (by simp))
  clear s8
  cases f1 with
  | false =>
    go_wp2
    exact bodyPost_ret (mrh_results rfl rfl hQ) rfl ⟨rfl, hB⟩
  | true =>
    cases f2 with
    | false =>
      go_wp2
      exact bodyPost_ret (mrh_results rfl rfl hQ) rfl ⟨rfl, hB⟩
    | true =>
      go_wp2
      exact bodyPost_ret (mrh_results rfl rfl hQ) rfl ⟨rfl, hB⟩
end Go.Proofs.Ytmkmojhhfbokdaa.Tmf

/-
  The walk of package clcw's read.
-/
namespace Go.Proofs.Ytmkmojhhfbokdaa.Clc
open Go.RowKit Go.Proofs.Ytmkmojhhfbokdaa.Pac

/-- a word's cells -/
def Cw.cells (c : Cw) : Array Value := #[.int .i64 c.ch, .bool c.lk, .bool c.wt, .bool c.rt, .int .i64 c.bp, .int .i64 c.nx]

theorem crd_results {tmps : Array Value} {W : World} {g : Nat} {z : Bool} {ch : Int} {lk wt rt : Bool} {bp nx : Int} (h2 : tmps.getD 2 undef = .pointer (some ⟨g, 0, none⟩)) (h3 : tmps.getD 3 undef = .bool z)
    (hC : Cel W g 24 #[.int .i64 ch, .bool lk, .bool wt, .bool rt, .int .i64 bp, .int .i64 nx]) :
    (results Try.f42 tmps).run Try.prog W = .ok (.tuple #[.agg #[.int .i64 ch, .bool lk, .bool wt, .bool rt, .int .i64 bp, .int .i64 nx], .bool z]) W := by
  have c0 := hC.cell 0
  have c1 := hC.cell 1
  have c2 := hC.cell 2
  have c3 := hC.cell 3
  have c4 := hC.cell 4
  have c5 := hC.cell 5
  simp at c0 c1 c2 c3 c4 c5
  simp only [Array.getD_eq_getD_getElem?] at h2 h3
  simp [results, Try.results42, go_sem, h2, h3, c0, c1, c2, c3, c4, c5]

set_option maxHeartbeats 2000000 in
theorem cread_any (a : Option Addr) (l : List Byte) (c : Nat) (w : World) (hD : Rd w a l 4 c) :
    Calls Try.prog 42 #[.slice a 4 c] w fun e w' => e = .returned (.tuple #[.agg #[.int .i64 (rd l).ch, .bool (rd l).lk, .bool (rd l).wt, .bool (rd l).rt, .int .i64 (rd l).bp, .int .i64 (rd l).nx], .bool (fm l)]) ∧ Below w.heap.size w w' := by
  have hlen := hD.len
  have hx : ∀ k, k < 4 → ∃ x, l[k]? = some x ∧ b8 l k = x.toNat := fun k hk => ⟨l[k]'(by omega), List.getElem?_eq_getElem (by omega), b8_at (List.getElem?_eq_getElem (by omega))⟩
  obtain ⟨x0, g0, e0⟩ := hx 0 (by decide)
  obtain ⟨x1, g1, e1⟩ := hx 1 (by decide)
  obtain ⟨x2, g2, e2⟩ := hx 2 (by decide)
  obtain ⟨x3, g3, e3⟩ := hx 3 (by decide)
  have hV : numAt l 0 1 = b8 l 0 / 128 := by rw [e0]; exact n_kind g0
  have hX : numAt l 1 2 = b8 l 0 / 32 % 4 := by rw [e0]; exact n_vers g0
  have hY : numAt l 3 3 = b8 l 0 / 4 % 8 := by rw [e0]; exact n_stat g0
  have hP : numAt l 6 2 = b8 l 0 % 4 := by rw [e0]; exact n_proc g0
  have hC : numAt l 8 6 = b8 l 1 / 4 := by rw [e1]; exact n_chan g1
  have hS : numAt l 14 4 = b8 l 1 % 4 * 4 + b8 l 2 / 64 := by rw [e1, e2]; exact n_spare g1 g2
  have hL : numAt l 18 1 = b8 l 2 / 32 % 2 := by rw [e2]; exact n_lock g2
  have hW : numAt l 19 1 = b8 l 2 / 16 % 2 := by rw [e2]; exact n_wait g2
  have hR : numAt l 20 1 = b8 l 2 / 8 % 2 := by rw [e2]; exact n_retr g2
  have hB : numAt l 21 2 = b8 l 2 / 2 % 4 := by rw [e2]; exact n_byp g2
  have hO : numAt l 23 1 = b8 l 2 % 2 := by rw [e2]; exact n_last g2
  have hQ : numAt l 24 8 = b8 l 3 := by rw [e3]; exact n_next g3
  have z0 := b8_lt l 0
  have z1 := b8_lt l 1
  have z2 := b8_lt l 2
  have z3 := b8_lt l 3
  have hrd : rd l = ⟨((b8 l 1 / 4 : Nat) : Int), decide (b8 l 2 / 32 % 2 = 1), decide (b8 l 2 / 16 % 2 = 1), decide (b8 l 2 / 8 % 2 = 1), ((b8 l 2 / 2 % 4 : Nat) : Int), ((b8 l 3 : Nat) : Int)⟩ := rfl
  have hfm := fm_zs l
  unfold zs at hfm
  rw [hrd, hfm]
  simp only
  obtain ⟨V, qV⟩ : ∃ V, V = b8 l 0 / 128 := ⟨_, rfl⟩
  obtain ⟨X, qX⟩ : ∃ X, X = b8 l 0 / 32 % 4 := ⟨_, rfl⟩
  obtain ⟨Y, qY⟩ : ∃ Y, Y = b8 l 0 / 4 % 8 := ⟨_, rfl⟩
  obtain ⟨P, qP⟩ : ∃ P, P = b8 l 0 % 4 := ⟨_, rfl⟩
  obtain ⟨C, qC⟩ : ∃ C, C = b8 l 1 / 4 := ⟨_, rfl⟩
  obtain ⟨S, qS⟩ : ∃ S, S = b8 l 1 % 4 * 4 + b8 l 2 / 64 := ⟨_, rfl⟩
  obtain ⟨L, qL⟩ : ∃ L, L = b8 l 2 / 32 % 2 := ⟨_, rfl⟩
  obtain ⟨G, qG⟩ : ∃ G, G = b8 l 2 / 16 % 2 := ⟨_, rfl⟩
  obtain ⟨R, qR⟩ : ∃ R, R = b8 l 2 / 8 % 2 := ⟨_, rfl⟩
  obtain ⟨B, qB⟩ : ∃ B, B = b8 l 2 / 2 % 4 := ⟨_, rfl⟩
  obtain ⟨O, qO⟩ : ∃ O, O = b8 l 2 % 2 := ⟨_, rfl⟩
  obtain ⟨Q, qQ⟩ : ∃ Q, Q = b8 l 3 := ⟨_, rfl⟩
  rw [← qV] at hV ⊢
  rw [← qX] at hX ⊢
  rw [← qY] at hY ⊢
  rw [← qP] at hP ⊢
  rw [← qC] at hC ⊢
  rw [← qS] at hS ⊢
  rw [← qL] at hL ⊢
  rw [← qG] at hW ⊢
  rw [← qR] at hR ⊢
  rw [← qB] at hB ⊢
  rw [← qO] at hO ⊢
  rw [← qQ] at hQ ⊢
  have wC := from_u64 C (by omega)
  have wB := from_u64 B (by omega)
  have wQ := from_u64 Q (by omega)
  have yV : V < 2 ^ 3 := by omega
  have yX : X < 2 ^ 3 := by omega
  have yY : Y < 2 ^ 3 := by omega
  have yS : S < 2 ^ 5 := by omega
  have yO : O < 2 ^ 5 := by omega
  obtain ⟨Z1, qZ1⟩ : ∃ Z, Z = V ||| X := ⟨_, rfl⟩
  have yZ1 : Z1 < 2 ^ 3 := by rw [qZ1]; exact Nat.or_lt_two_pow yV yX
  obtain ⟨Z2, qZ2⟩ : ∃ Z, Z = Z1 ||| Y := ⟨_, rfl⟩
  have yZ2 : Z2 < 2 ^ 3 := by rw [qZ2]; exact Nat.or_lt_two_pow yZ1 yY
  obtain ⟨Z3, qZ3⟩ : ∃ Z, Z = Z2 ||| S := ⟨_, rfl⟩
  have yZ3 : Z3 < 2 ^ 5 := by rw [qZ3]; exact Nat.or_lt_two_pow (by omega) yS
  obtain ⟨Z4, qZ4⟩ : ∃ Z, Z = Z3 ||| O := ⟨_, rfl⟩
  have o1 : bits .or .u64 (V : Int) (X : Int) = (Z1 : Int) := by rw [qZ1]; exact u64_or_nat _ _ (by omega) (by omega)
  have o2 : bits .or .u64 (Z1 : Int) (Y : Int) = (Z2 : Int) := by rw [qZ2]; exact u64_or_nat _ _ (by omega) (by omega)
  have o3 : bits .or .u64 (Z2 : Int) (S : Int) = (Z3 : Int) := by rw [qZ3]; exact u64_or_nat _ _ (by omega) (by omega)
  have o4 : bits .or .u64 (Z3 : Int) (O : Int) = (Z4 : Int) := by rw [qZ4]; exact u64_or_nat _ _ (by omega) (by omega)
  rw [← qZ1, ← qZ2, ← qZ3, ← qZ4]
  obtain ⟨lk, qlk⟩ : ∃ b, b = decide (L = 1) := ⟨_, rfl⟩
  obtain ⟨wt, qwt⟩ : ∃ b, b = decide (G = 1) := ⟨_, rfl⟩
  obtain ⟨rt, qrt⟩ : ∃ b, b = decide (R = 1) := ⟨_, rfl⟩
  obtain ⟨zz, qzz⟩ : ∃ b, b = decide (Z4 = 0) := ⟨_, rfl⟩
  obtain ⟨pz, qpz⟩ : ∃ b, b = decide (P = 1) := ⟨_, rfl⟩
  have j1 : ((L : Int) == 1) = lk := by rw [qlk, Bool.eq_iff_iff]; simp; omega
  have j2 : ((G : Int) == 1) = wt := by rw [qwt, Bool.eq_iff_iff]; simp; omega
  have j3 : ((R : Int) == 1) = rt := by rw [qrt, Bool.eq_iff_iff]; simp; omega
  have j4 : ((Z4 : Int) == 0) = zz := by rw [qzz, Bool.eq_iff_iff]; simp
  have j5 : ((P : Int) == 1) = pz := by rw [qpz, Bool.eq_iff_iff]; simp; omega
  rw [← qlk, ← qwt, ← qrt, ← qzz, ← qpz]
  have b0 := bel_new w (.cells #[.int .i64 0, .bool false, .bool false, .bool false, .int .i64 0, .int .i64 0] 24)
  have p0 := Cel.new w 24 #[.int .i64 0, .bool false, .bool false, .bool false, .int .i64 0, .int .i64 0]
  have hr := newReader_any a l 4 c (w.alloc (.cells #[.int .i64 0, .bool false, .bool false, .bool false, .int .i64 0, .int .i64 0] 24)) (Lib.hid hlen) ((hD.bs.below b0).more b0.size) hD.nil (by decide)
  have HH := Lib.hid (And.intro hV (And.intro hX (And.intro hY (And.intro hP (And.intro hC (And.intro hS (And.intro hL (And.intro hW (And.intro hR (And.intro hB (And.intro hO hQ)))))))))))
  have HL := Lib.hid hlen
  clear qV qX qY qP qC qS qL qG qR qB qO qQ qZ1 qZ2 qZ3 qZ4 hrd hfm hx g0 g1 g2 g3 e0 e1 e2 e3 qlk qwt qrt qzz qpz z0 z1 z2 z3 yV yX yY yS yO yZ1 yZ2 yZ3 hV hX hY hP hC hS hL hW hR hB hO hQ hlen hD
  go_enter Try.func42, Try.ntmps42
  go_wp2_with fail
  refine hr.mono ?_
  rintro e w1 ⟨g, r, rfl, hR, hg, hbe⟩
  have s0 : RS 24 w l 0 #[.int .i64 0, .bool false, .bool false, .bool false, .int .i64 0, .int .i64 0] g w1 := ⟨⟨r, by simpa using hR⟩, by simpa using hg, Cel.later p0 hbe, b0.trans (hbe.mono b0.size)⟩
  clear hr hR hg hbe p0 b0
  go_wp2_with fail
  refine (s0.get 1 1 V rfl HH.out.1 (by have := HL.out; omega) (by decide) (by have := HL.out; omega)).mono ?_
  rintro e w2 ⟨rfl, s1⟩
  clear s0
  go_wp2_with fail
  refine (s1.get 2 2 X rfl HH.out.2.1 (by have := HL.out; omega) (by decide) (by have := HL.out; omega)).mono ?_
  rintro e w3 ⟨rfl, s2⟩
  clear s1
  go_wp2_with fail
  refine (s2.get 3 3 Y rfl HH.out.2.2.1 (by have := HL.out; omega) (by decide) (by have := HL.out; omega)).mono ?_
  rintro e w4 ⟨rfl, s3⟩
  clear s2
  go_wp2_with fail
  refine (s3.get 2 2 P rfl HH.out.2.2.2.1 (by have := HL.out; omega) (by decide) (by have := HL.out; omega)).mono ?_
  rintro e w5 ⟨rfl, s4⟩
  clear s3
  go_wp2_with fail
  refine (s4.get 6 6 C rfl HH.out.2.2.2.2.1 (by have := HL.out; omega) (by decide) (by have := HL.out; omega)).mono ?_
  rintro e w6 ⟨rfl, s5⟩
  clear s4
  have fr := s5.cel.free 0
  have ce := s5.cel.cell 0
  simp at ce
  go_wp2_with fail
  clear fr ce
  refine ((s5.put 0 (.int .i64 (C : Int))).get 4 4 S rfl HH.out.2.2.2.2.2.1 (by have := HL.out; omega) (by decide) (by have := HL.out; omega)).mono ?_
  rintro e w7 ⟨rfl, s6⟩
  clear s5
  go_wp2_with fail
  refine (s6.get 1 1 L rfl HH.out.2.2.2.2.2.2.1 (by have := HL.out; omega) (by decide) (by have := HL.out; omega)).mono ?_
  rintro e w8 ⟨rfl, s7⟩
  clear s6
  have fr := s7.cel.free 1
  have ce := s7.cel.cell 1
  simp at ce
  go_wp2_with fail
  clear fr ce
  refine ((s7.put 1 (.bool lk)).get 1 1 G rfl HH.out.2.2.2.2.2.2.2.1 (by have := HL.out; omega) (by decide) (by have := HL.out; omega)).mono ?_
  rintro e w9 ⟨rfl, s8⟩
  clear s7
  have fr := s8.cel.free 2
  have ce := s8.cel.cell 2
  simp at ce
  go_wp2_with fail
  clear fr ce
  refine ((s8.put 2 (.bool wt)).get 1 1 R rfl HH.out.2.2.2.2.2.2.2.2.1 (by have := HL.out; omega) (by decide) (by have := HL.out; omega)).mono ?_
  rintro e w10 ⟨rfl, s9⟩
  clear s8
  have fr := s9.cel.free 3
  have ce := s9.cel.cell 3
  simp at ce
  go_wp2_with fail
  clear fr ce
  refine ((s9.put 3 (.bool rt)).get 2 2 B rfl HH.out.2.2.2.2.2.2.2.2.2.1 (by have := HL.out; omega) (by decide) (by have := HL.out; omega)).mono ?_
  rintro e w11 ⟨rfl, s10⟩
  clear s9
  have fr := s10.cel.free 4
  have ce := s10.cel.cell 4
  simp at ce
  go_wp2_with fail
  clear fr ce
  refine ((s10.put 4 (.int .i64 (B : Int))).get 1 1 O rfl HH.out.2.2.2.2.2.2.2.2.2.2.1 (by have := HL.out; omega) (by decide) (by have := HL.out; omega)).mono ?_
  rintro e w12 ⟨rfl, s11⟩
  clear s10
  go_wp2_with fail
  refine (s11.get 8 8 Q rfl HH.out.2.2.2.2.2.2.2.2.2.2.2 (by have := HL.out; omega) (by decide) (by have := HL.out; omega)).mono ?_
  rintro e w13 ⟨rfl, s12⟩
  clear s11
  have fr := s12.cel.free 5
  have ce := s12.cel.cell 5
  simp at ce
  have s13 := s12.put 5 (.int .i64 (Q : Int))
  simp only [List.setIfInBounds_toArray, List.set_cons_zero, List.set_cons_succ] at s13
  have c0 := s13.cel.cell 0
  have c1 := s13.cel.cell 1
  have c2 := s13.cel.cell 2
  have c3 := s13.cel.cell 3
  have c4 := s13.cel.cell 4
  have c5 := s13.cel.cell 5
  simp at c0 c1 c2 c3 c4 c5
  have f0 := s13.cel.free 0
  have f1 := s13.cel.free 1
  have f2 := s13.cel.free 2
  have f3 := s13.cel.free 3
  have f4 := s13.cel.free 4
  have f5 := s13.cel.free 5
  have hQ := put6_cel s13.cel (.int .i64 (C : Int)) (.bool lk) (.bool wt) (.bool rt) (.int .i64 (B : Int)) (.int .i64 (Q : Int))
  have hB := s13.bel.trans ((put6_only _ w.heap.size (.int .i64 (C : Int)) (.bool lk) (.bool wt) (.bool rt) (.int .i64 (B : Int)) (.int .i64 (Q : Int))).below s13.bel.size (by simp))
  clear s12
  cases zz with
  | false =>
    go_wp2
    exact bodyPost_ret (crd_results rfl rfl hQ) rfl ⟨rfl, hB⟩
  | true =>
    go_wp2
    exact bodyPost_ret (crd_results rfl rfl hQ) rfl ⟨rfl, hB⟩
end Go.Proofs.Ytmkmojhhfbokdaa.Clc

/-
  The walk of package clcw's Decode.
-/
namespace Go.Proofs.Ytmkmojhhfbokdaa.Clc
open Go.RowKit Go.Proofs.Ytmkmojhhfbokdaa.Pac

theorem cde_results {tmps : Array Value} {W : World} {g : Nat} {e : Int} {ch : Int} {lk wt rt : Bool} {bp nx : Int} (h2 : tmps.getD 2 undef = .pointer (some ⟨g, 0, none⟩)) (h3 : tmps.getD 3 undef = .int .i64 e)
    (hC : Cel W g 24 #[.int .i64 ch, .bool lk, .bool wt, .bool rt, .int .i64 bp, .int .i64 nx]) :
    (results Try.f28 tmps).run Try.prog W = .ok (.tuple #[.agg #[.int .i64 ch, .bool lk, .bool wt, .bool rt, .int .i64 bp, .int .i64 nx], .int .i64 e]) W := by
  have c0 := hC.cell 0
  have c1 := hC.cell 1
  have c2 := hC.cell 2
  have c3 := hC.cell 3
  have c4 := hC.cell 4
  have c5 := hC.cell 5
  simp at c0 c1 c2 c3 c4 c5
  simp only [Array.getD_eq_getD_getElem?] at h2 h3
  simp [results, Try.results28, go_sem, h2, h3, c0, c1, c2, c3, c4, c5]

set_option maxHeartbeats 2000000 in
theorem cdecode_short (a : Option Addr) (n c : Nat) (w : World) (h : n < 4) :
    Calls Try.prog 28 #[.slice a n c] w fun e w' => e = .returned (.tuple #[.agg #[.int .i64 0, .bool false, .bool false, .bool false, .int .i64 0, .int .i64 0], .int .i64 3]) ∧ Below w.heap.size w w' := by
  have b0 := bel_new w (.cells #[.int .i64 0, .bool false, .bool false, .bool false, .int .i64 0, .int .i64 0] 24)
  have hR0 := Cel.new w 24 #[.int .i64 0, .bool false, .bool false, .bool false, .int .i64 0, .int .i64 0]
  have g1 : decide ((n : Int) < 4) = true := by simp; omega
  have g2 : decide (n < 4) = true := by simp; omega
  clear h
  have c0 := hR0.cell 0
  have c1 := hR0.cell 1
  have c2 := hR0.cell 2
  have c3 := hR0.cell 3
  have c4 := hR0.cell 4
  have c5 := hR0.cell 5
  simp at c0 c1 c2 c3 c4 c5
  have f0 := hR0.free 0
  have f1 := hR0.free 1
  have f2 := hR0.free 2
  have f3 := hR0.free 3
  have f4 := hR0.free 4
  have f5 := hR0.free 5
  go_enter Try.func28, Try.ntmps28
  go_wp2
  exact bodyPost_ret (cde_results rfl rfl hR0) rfl ⟨rfl, b0⟩

set_option maxHeartbeats 2000000 in
theorem cdecode_long (a : Option Addr) (n c : Nat) (w : World) (h : 4 < n) :
    Calls Try.prog 28 #[.slice a n c] w fun e w' => e = .returned (.tuple #[.agg #[.int .i64 0, .bool false, .bool false, .bool false, .int .i64 0, .int .i64 0], .int .i64 6]) ∧ Below w.heap.size w w' := by
  have b0 := bel_new w (.cells #[.int .i64 0, .bool false, .bool false, .bool false, .int .i64 0, .int .i64 0] 24)
  have hR0 := Cel.new w 24 #[.int .i64 0, .bool false, .bool false, .bool false, .int .i64 0, .int .i64 0]
  have g1 : decide ((n : Int) < 4) = false := by simp; omega
  have g2 : decide (n < 4) = false := by simp; omega
  have g3 : decide ((4 : Int) < (n : Int)) = true := by simp; omega
  have g4 : decide (4 < n) = true := by simp; omega
  clear h
  have c0 := hR0.cell 0
  have c1 := hR0.cell 1
  have c2 := hR0.cell 2
  have c3 := hR0.cell 3
  have c4 := hR0.cell 4
  have c5 := hR0.cell 5
  simp at c0 c1 c2 c3 c4 c5
  have f0 := hR0.free 0
  have f1 := hR0.free 1
  have f2 := hR0.free 2
  have f3 := hR0.free 3
  have f4 := hR0.free 4
  have f5 := hR0.free 5
  go_enter Try.func28, Try.ntmps28
  go_wp2
  exact bodyPost_ret (cde_results rfl rfl hR0) rfl ⟨rfl, b0⟩

set_option maxHeartbeats 2000000 in
theorem cdecode_form (a : Option Addr) (l : List Byte) (c : Nat) (w : World) (hD : Rd w a l 4 c) (hf : fm l = false) :
    Calls Try.prog 28 #[.slice a 4 c] w fun e w' => e = .returned (.tuple #[.agg #[.int .i64 0, .bool false, .bool false, .bool false, .int .i64 0, .int .i64 0], .int .i64 4]) ∧ Below w.heap.size w w' := by
  have b0 := bel_new w (.cells #[.int .i64 0, .bool false, .bool false, .bool false, .int .i64 0, .int .i64 0] 24)
  have hR0 := Cel.new w 24 #[.int .i64 0, .bool false, .bool false, .bool false, .int .i64 0, .int .i64 0]
  have hrd := fun W (h : Rd W a l 4 c) => cread_any a l c W h
  rw [hf] at hrd
  obtain ⟨P, hP⟩ : ∃ P, P = rd l := ⟨_, rfl⟩
  rw [← hP] at hrd
  obtain ⟨ch, lk, wt, rt, bp, nx⟩ := P
  simp only at hrd
  clear hP hf
  go_enter Try.func28, Try.ntmps28
  go_wp2_with fail
  refine (hrd _ (hD.later b0)).mono ?_
  rintro e w2 ⟨rfl, hb2⟩
  have hR2 := Cel.later hR0 hb2
  have bel2 := b0.trans (hb2.mono b0.size)
  have hlt2 := hR2.lt
  clear hrd hb2 hR0 b0 hD
  have c0 := hR2.cell 0
  have c1 := hR2.cell 1
  have c2 := hR2.cell 2
  have c3 := hR2.cell 3
  have c4 := hR2.cell 4
  have c5 := hR2.cell 5
  simp at c0 c1 c2 c3 c4 c5
  have f0 := hR2.free 0
  have f1 := hR2.free 1
  have f2 := hR2.free 2
  have f3 := hR2.free 3
  have f4 := hR2.free 4
  have f5 := hR2.free 5
  go_wp2
  exact bodyPost_ret (cde_results rfl rfl (Cel.later (put6_cel hR2 (.int .i64 0) (.bool false) (.bool false) (.bool false) (.int .i64 0) (.int .i64 0)) (bel_new _ _))) rfl ⟨rfl, (put6_below bel2 (Nat.le_refl _) _ _ _ _ _ _).alloc (put6_below bel2 (Nat.le_refl _) _ _ _ _ _ _).size _⟩

set_option maxHeartbeats 2000000 in
theorem cdecode_bad (a : Option Addr) (l : List Byte) (c : Nat) (w : World) (hD : Rd w a l 4 c) (hf : fm l = true) (hok : (rd l).ok = false) :
    Calls Try.prog 28 #[.slice a 4 c] w fun e w' => e = .returned (.tuple #[.agg #[.int .i64 0, .bool false, .bool false, .bool false, .int .i64 0, .int .i64 0], .int .i64 4]) ∧ Below w.heap.size w w' := by
  have b0 := bel_new w (.cells #[.int .i64 0, .bool false, .bool false, .bool false, .int .i64 0, .int .i64 0] 24)
  have hR0 := Cel.new w 24 #[.int .i64 0, .bool false, .bool false, .bool false, .int .i64 0, .int .i64 0]
  have hrd := fun W (h : Rd W a l 4 c) => cread_any a l c W h
  rw [hf] at hrd
  obtain ⟨P, hP⟩ : ∃ P, P = rd l := ⟨_, rfl⟩
  rw [← hP] at hrd hok
  obtain ⟨ch, lk, wt, rt, bp, nx⟩ := P
  simp only at hrd
  have hv := fun W => cvalid_any ch lk wt rt bp nx W
  rw [hok] at hv
  clear hP hf hok
  go_enter Try.func28, Try.ntmps28
  go_wp2_with fail
  refine (hrd _ (hD.later b0)).mono ?_
  rintro e w2 ⟨rfl, hb2⟩
  have hR2 := Cel.later hR0 hb2
  have bel2 := b0.trans (hb2.mono b0.size)
  have hlt2 := hR2.lt
  clear hrd hb2 hR0 b0 hD
  obtain ⟨W3, hW3⟩ : ∃ W3, W3 = w2.alloc (.cells #[.int .i64 ch, .bool lk, .bool wt, .bool rt, .int .i64 bp, .int .i64 nx] 24) := ⟨_, rfl⟩
  have bel3 : Below w2.heap.size w2 W3 := by rw [hW3]; exact bel_new _ _
  have hR3 := Cel.later hR2 bel3
  have hP3 : Cel W3 w2.heap.size 24 #[.int .i64 ch, .bool lk, .bool wt, .bool rt, .int .i64 bp, .int .i64 nx] := by rw [hW3]; exact Cel.new _ _ _
  have bel3' := bel2.trans (bel3.mono bel2.size)
  clear bel2 hR2 bel3
  go_wp2_with fail
  rw [← hW3]
  refine (hv W3).mono ?_
  rintro e w4 ⟨rfl, hb4⟩
  have hR4 := Cel.later hR3 hb4
  have hP4 := Cel.later hP3 hb4
  have bel4 := bel3'.trans (hb4.mono bel3'.size)
  clear hv hb4 hR3 hP3 bel3' hW3
  have c0 := hR4.cell 0
  have c1 := hR4.cell 1
  have c2 := hR4.cell 2
  have c3 := hR4.cell 3
  have c4 := hR4.cell 4
  have c5 := hR4.cell 5
  simp at c0 c1 c2 c3 c4 c5
  have f0 := hR4.free 0
  have f1 := hR4.free 1
  have f2 := hR4.free 2
  have f3 := hR4.free 3
  have f4 := hR4.free 4
  have f5 := hR4.free 5
  go_wp2
  exact bodyPost_ret (cde_results rfl rfl (put6_cel hR4 (.int .i64 0) (.bool false) (.bool false) (.bool false) (.int .i64 0) (.int .i64 0))) rfl ⟨rfl, put6_below bel4 (Nat.le_refl _) _ _ _ _ _ _⟩

set_option maxHeartbeats 2000000 in
theorem cdecode_good (a : Option Addr) (l : List Byte) (c : Nat) (w : World) (hD : Rd w a l 4 c) (hf : fm l = true) (hok : (rd l).ok = true) :
    Calls Try.prog 28 #[.slice a 4 c] w fun e w' => e = .returned (.tuple #[.agg #[.int .i64 (rd l).ch, .bool (rd l).lk, .bool (rd l).wt, .bool (rd l).rt, .int .i64 (rd l).bp, .int .i64 (rd l).nx], .int .i64 0]) ∧ Below w.heap.size w w' := by
  have b0 := bel_new w (.cells #[.int .i64 0, .bool false, .bool false, .bool false, .int .i64 0, .int .i64 0] 24)
  have hR0 := Cel.new w 24 #[.int .i64 0, .bool false, .bool false, .bool false, .int .i64 0, .int .i64 0]
  have hrd := fun W (h : Rd W a l 4 c) => cread_any a l c W h
  rw [hf] at hrd
  obtain ⟨P, hP⟩ : ∃ P, P = rd l := ⟨_, rfl⟩
  rw [← hP] at hrd hok ⊢
  obtain ⟨ch, lk, wt, rt, bp, nx⟩ := P
  simp only at hrd ⊢
  have hv := fun W => cvalid_any ch lk wt rt bp nx W
  rw [hok] at hv
  clear hP hf hok
  go_enter Try.func28, Try.ntmps28
  go_wp2_with fail
  refine (hrd _ (hD.later b0)).mono ?_
  rintro e w2 ⟨rfl, hb2⟩
  have hR2 := Cel.later hR0 hb2
  have bel2 := b0.trans (hb2.mono b0.size)
  have hlt2 := hR2.lt
  clear hrd hb2 hR0 b0 hD
  obtain ⟨W3, hW3⟩ : ∃ W3, W3 = w2.alloc (.cells #[.int .i64 ch, .bool lk, .bool wt, .bool rt, .int .i64 bp, .int .i64 nx] 24) := ⟨_, rfl⟩
  have bel3 : Below w2.heap.size w2 W3 := by rw [hW3]; exact bel_new _ _
  have hR3 := Cel.later hR2 bel3
  have hP3 : Cel W3 w2.heap.size 24 #[.int .i64 ch, .bool lk, .bool wt, .bool rt, .int .i64 bp, .int .i64 nx] := by rw [hW3]; exact Cel.new _ _ _
  have bel3' := bel2.trans (bel3.mono bel2.size)
  clear bel2 hR2 bel3
  go_wp2_with fail
  rw [← hW3]
  refine (hv W3).mono ?_
  rintro e w4 ⟨rfl, hb4⟩
  have hR4 := Cel.later hR3 hb4
  have hP4 := Cel.later hP3 hb4
  have bel4 := bel3'.trans (hb4.mono bel3'.size)
  clear hv hb4 hR3 hP3 bel3' hW3
  have c0 := hR4.cell 0
  have c1 := hR4.cell 1
  have c2 := hR4.cell 2
  have c3 := hR4.cell 3
  have c4 := hR4.cell 4
  have c5 := hR4.cell 5
  simp at c0 c1 c2 c3 c4 c5
  have f0 := hR4.free 0
  have f1 := hR4.free 1
  have f2 := hR4.free 2
  have f3 := hR4.free 3
  have f4 := hR4.free 4
  have f5 := hR4.free 5
  have p0 := hP4.cell 0
  have p1 := hP4.cell 1
  have p2 := hP4.cell 2
  have p3 := hP4.cell 3
  have p4 := hP4.cell 4
  have p5 := hP4.cell 5
  simp at p0 p1 p2 p3 p4 p5
  have q0 := hP4.free 0
  have q1 := hP4.free 1
  have q2 := hP4.free 2
  have q3 := hP4.free 3
  have q4 := hP4.free 4
  have q5 := hP4.free 5
  go_wp2
  exact bodyPost_ret (cde_results rfl rfl (put6_cel hR4 (.int .i64 ch) (.bool lk) (.bool wt) (.bool rt) (.int .i64 bp) (.int .i64 nx))) rfl ⟨rfl, put6_below bel4 (Nat.le_refl _) _ _ _ _ _ _⟩

theorem cdecode_any (a : Option Addr) (l : List Byte) (n c : Nat) (w : World) (hD : Rd w a l n c) :
    Calls Try.prog 28 #[.slice a n c] w fun e w' => e = .returned (.tuple #[.agg #[.int .i64 (deP l).ch, .bool (deP l).lk, .bool (deP l).wt, .bool (deP l).rt, .int .i64 (deP l).bp, .int .i64 (deP l).nx], .int .i64 (deE l)]) ∧ Below w.heap.size w w' := by
  have hln := hD.len
  by_cases h1 : n < 4
  · obtain ⟨e1, e2⟩ := de_short (l := l) (by omega)
    rw [e1, e2]
    exact cdecode_short a n c w h1
  by_cases h2 : 4 < n
  · obtain ⟨e1, e2⟩ := de_long (l := l) (by omega)
    rw [e1, e2]
    exact cdecode_long a n c w h2
  obtain rfl : n = 4 := by omega
  cases hg : gd l with
  | false =>
    obtain ⟨e1, e2⟩ := de_form (l := l) hln hg
    rw [e1, e2]
    cases hf : fm l with
    | false => exact cdecode_form a l c w hD hf
    | true =>
      have hok : (rd l).ok = false := by
        unfold gd at hg
        rw [hf] at hg
        simpa using hg
      exact cdecode_bad a l c w hD hf hok
  | true =>
    obtain ⟨e1, e2⟩ := de_good (l := l) hln hg
    rw [e1, e2]
    unfold gd at hg
    simp only [Bool.and_eq_true] at hg
    exact cdecode_good a l c w hD hg.1 hg.2
end Go.Proofs.Ytmkmojhhfbokdaa.Clc

/-
  The walk of package tmframe's Decode.
-/
namespace Go.Proofs.Ytmkmojhhfbokdaa.Tmf
open Go.RowKit Go.Proofs.Ytmkmojhhfbokdaa.Pac
open Clc (Cw)

theorem mde_results {tmps : Array Value} {W : World} {g : Nat} {z : Int} {cr ch ma ct fi : Int} {v : Value} {wc : Int} {lk wt rt : Bool} {wb wn : Int} (h2 : tmps.getD 2 undef = .pointer (some ⟨g, 0, none⟩)) (h3 : tmps.getD 3 undef = .int .i64 z)
    (hC : Cel W g 26 #[.int .i64 cr, .int .i64 ch, .int .i64 ma, .int .i64 ct, .int .i64 fi, v, .int .i64 wc, .bool lk, .bool wt, .bool rt, .int .i64 wb, .int .i64 wn]) :
    (results Try.f13 tmps).run Try.prog W = .ok (.tuple #[.agg #[.int .i64 cr, .int .i64 ch, .int .i64 ma, .int .i64 ct, .int .i64 fi, v, .int .i64 wc, .bool lk, .bool wt, .bool rt, .int .i64 wb, .int .i64 wn], .int .i64 z]) W := by
  have c0 := hC.cell 0
  have c1 := hC.cell 1
  have c2 := hC.cell 2
  have c3 := hC.cell 3
  have c4 := hC.cell 4
  have c5 := hC.cell 5
  have c6 := hC.cell 6
  have c7 := hC.cell 7
  have c8 := hC.cell 8
  have c9 := hC.cell 9
  have c10 := hC.cell 10
  have c11 := hC.cell 11
  simp at c0 c1 c2 c3 c4 c5 c6 c7 c8 c9 c10 c11
  simp only [Array.getD_eq_getD_getElem?] at h2 h3
  simp [results, Try.results13, go_sem, h2, h3, c0, c1, c2, c3, c4, c5, c6, c7, c8, c9, c10, c11]

theorem mcheck16_len (a : Option Addr) (l : List Byte) (n c B : Nat) (w : World) (hl : l.length = n) (hb : Bs w B a l) (hn : n ≤ c) (hc : c ≤ maxLen) :
    Calls Try.prog 26 #[.slice a n c] w fun e w' => e = .returned (.bool (ck16 l)) ∧ ∃ k, w' = w.drewN k := by
  subst hl
  exact check16_any a l c B w hb hn hc
theorem bel_drewN (B : Nat) (w : World) (k : Nat) : Below B w (w.drewN k) := ⟨rfl, rfl, rfl, Nat.le_refl _, fun _ _ => rfl⟩
/-- what a Decode hands back but for the frame's data -/
theorem b8_take (l : List Byte) {k : Nat} (h : k < 6) : b8 (l.take 6) k = b8 l k := by
  unfold b8
  rw [List.getD_eq_getElem?_getD, List.getD_eq_getElem?_getD, List.getElem?_take, if_pos h]
theorem hf_take (l : List Byte) : hf (l.take 6) = hf l := by
  unfold hf
  rw [b8_take l (by decide), b8_take l (by decide), b8_take l (by decide)]
theorem rd_cr (l : List Byte) : ((b8 l 0 % 64 * 16 + b8 l 1 / 16 : Nat) : Int) = (rd l).cr := rfl
theorem rd_ch (l : List Byte) : ((b8 l 1 / 2 % 8 : Nat) : Int) = (rd l).ch := rfl
theorem rd_ma (l : List Byte) : ((b8 l 2 : Nat) : Int) = (rd l).ma := rfl
theorem rd_ct (l : List Byte) : ((b8 l 3 : Nat) : Int) = (rd l).ct := rfl
theorem rd_fi (l : List Byte) : ((b8 l 4 % 8 * 256 + b8 l 5 : Nat) : Int) = (rd l).fi := rfl
theorem mhead_rd (a : Option Addr) (l : List Byte) (c : Nat) (w : World) (hD : Rd w a (l.take 6) 6 c) :
    Calls Try.prog 27 #[.slice a 6 c] w fun e w' => e = .returned (.tuple #[.agg #[.int .i64 (rd l).cr, .int .i64 (rd l).ch, .int .i64 (rd l).ma, .int .i64 (rd l).ct, .int .i64 (rd l).fi, .slice none 0 0, .int .i64 0, .bool false, .bool false, .bool false, .int .i64 0, .int .i64 0], .bool (hf l)]) ∧ Below w.heap.size w w' := by
  have h := mreadHeader_any a (l.take 6) c w hD
  rw [hf_take, b8_take l (by decide), b8_take l (by decide), b8_take l (by decide), b8_take l (by decide), b8_take l (by decide), b8_take l (by decide), rd_cr, rd_ch, rd_ma, rd_ct, rd_fi] at h
  exact h

set_option maxHeartbeats 2000000 in
theorem mdecode_short (a : Option Addr) (n c : Nat) (w : World) (h : n < 13) :
    Calls Try.prog 13 #[.slice a n c] w fun e w' => e = .returned (.tuple #[.agg #[.int .i64 0, .int .i64 0, .int .i64 0, .int .i64 0, .int .i64 0, .slice none 0 0, .int .i64 0, .bool false, .bool false, .bool false, .int .i64 0, .int .i64 0], .int .i64 3]) ∧ Below w.heap.size w w' := by
  have b0 := bel_new w (.cells #[.int .i64 0, .int .i64 0, .int .i64 0, .int .i64 0, .int .i64 0, .slice none 0 0, .int .i64 0, .bool false, .bool false, .bool false, .int .i64 0, .int .i64 0] 26)
  have hR0 := Cel.new w 26 #[.int .i64 0, .int .i64 0, .int .i64 0, .int .i64 0, .int .i64 0, .slice none 0 0, .int .i64 0, .bool false, .bool false, .bool false, .int .i64 0, .int .i64 0]
  have g1 : decide ((n : Int) < 13) = true := by simp; omega
  have g2 : decide (n < 13) = true := by simp; omega
  have c0 := hR0.cell 0
  have c1 := hR0.cell 1
  have c2 := hR0.cell 2
  have c3 := hR0.cell 3
  have c4 := hR0.cell 4
  have c5 := hR0.cell 5
  have c6 := hR0.cell 6
  have c7 := hR0.cell 7
  have c8 := hR0.cell 8
  have c9 := hR0.cell 9
  have c10 := hR0.cell 10
  have c11 := hR0.cell 11
  simp at c0 c1 c2 c3 c4 c5 c6 c7 c8 c9 c10 c11
  have f0 := hR0.free 0
  have f1 := hR0.free 1
  have f2 := hR0.free 2
  have f3 := hR0.free 3
  have f4 := hR0.free 4
  have f5 := hR0.free 5
  have f6 := hR0.free 6
  have f7 := hR0.free 7
  have f8 := hR0.free 8
  have f9 := hR0.free 9
  have f10 := hR0.free 10
  have f11 := hR0.free 11
  go_enter Try.func13, Try.ntmps13
  go_wp2
  exact bodyPost_ret (mde_results rfl rfl hR0) rfl ⟨rfl, b0⟩

set_option maxHeartbeats 2000000 in
theorem mdecode_long (a : Option Addr) (n c : Nat) (w : World) (h : 1024 < n) :
    Calls Try.prog 13 #[.slice a n c] w fun e w' => e = .returned (.tuple #[.agg #[.int .i64 0, .int .i64 0, .int .i64 0, .int .i64 0, .int .i64 0, .slice none 0 0, .int .i64 0, .bool false, .bool false, .bool false, .int .i64 0, .int .i64 0], .int .i64 6]) ∧ Below w.heap.size w w' := by
  have b0 := bel_new w (.cells #[.int .i64 0, .int .i64 0, .int .i64 0, .int .i64 0, .int .i64 0, .slice none 0 0, .int .i64 0, .bool false, .bool false, .bool false, .int .i64 0, .int .i64 0] 26)
  have hR0 := Cel.new w 26 #[.int .i64 0, .int .i64 0, .int .i64 0, .int .i64 0, .int .i64 0, .slice none 0 0, .int .i64 0, .bool false, .bool false, .bool false, .int .i64 0, .int .i64 0]
  have g1 : decide ((n : Int) < 13) = false := by simp; omega
  have g2 : decide (n < 13) = false := by simp; omega
  have g3 : decide ((1024 : Int) < (n : Int)) = true := by simp; omega
  have g4 : decide (1024 < n) = true := by simp; omega
  have c0 := hR0.cell 0
  have c1 := hR0.cell 1
  have c2 := hR0.cell 2
  have c3 := hR0.cell 3
  have c4 := hR0.cell 4
  have c5 := hR0.cell 5
  have c6 := hR0.cell 6
  have c7 := hR0.cell 7
  have c8 := hR0.cell 8
  have c9 := hR0.cell 9
  have c10 := hR0.cell 10
  have c11 := hR0.cell 11
  simp at c0 c1 c2 c3 c4 c5 c6 c7 c8 c9 c10 c11
  have f0 := hR0.free 0
  have f1 := hR0.free 1
  have f2 := hR0.free 2
  have f3 := hR0.free 3
  have f4 := hR0.free 4
  have f5 := hR0.free 5
  have f6 := hR0.free 6
  have f7 := hR0.free 7
  have f8 := hR0.free 8
  have f9 := hR0.free 9
  have f10 := hR0.free 10
  have f11 := hR0.free 11
  go_enter Try.func13, Try.ntmps13
  go_wp2
  exact bodyPost_ret (mde_results rfl rfl hR0) rfl ⟨rfl, b0⟩

set_option maxHeartbeats 2000000 in
theorem mdecode_sum (a : Option Addr) (l : List Byte) (n c : Nat) (w : World) (hD : Rd w a l n c) (h : 13 ≤ n) (h2 : n ≤ 1024) (hck : ck16 l = false) :
    Calls Try.prog 13 #[.slice a n c] w fun e w' => e = .returned (.tuple #[.agg #[.int .i64 0, .int .i64 0, .int .i64 0, .int .i64 0, .int .i64 0, .slice none 0 0, .int .i64 0, .bool false, .bool false, .bool false, .int .i64 0, .int .i64 0], .int .i64 5]) ∧ Below w.heap.size w w' := by
  have b0 := bel_new w (.cells #[.int .i64 0, .int .i64 0, .int .i64 0, .int .i64 0, .int .i64 0, .slice none 0 0, .int .i64 0, .bool false, .bool false, .bool false, .int .i64 0, .int .i64 0] 26)
  have hR0 := Cel.new w 26 #[.int .i64 0, .int .i64 0, .int .i64 0, .int .i64 0, .int .i64 0, .slice none 0 0, .int .i64 0, .bool false, .bool false, .bool false, .int .i64 0, .int .i64 0]
  have g1 : decide ((n : Int) < 13) = false := by simp; omega
  have g2 : decide (n < 13) = false := by simp; omega
  have g3 : decide ((1024 : Int) < (n : Int)) = false := by simp; omega
  have g4 : decide (1024 < n) = false := by simp; omega
  have hs := mcheck16_len a l n c w.heap.size (w.alloc (.cells #[.int .i64 0, .int .i64 0, .int .i64 0, .int .i64 0, .int .i64 0, .slice none 0 0, .int .i64 0, .bool false, .bool false, .bool false, .int .i64 0, .int .i64 0] 26)) hD.len (hD.bs.below b0) hD.le hD.max
  rw [hck] at hs
  clear hck hD
  go_enter Try.func13, Try.ntmps13
  go_wp2_with fail
  refine hs.mono ?_
  rintro e w1 ⟨rfl, k, rfl⟩
  have hR1 := hR0.draws k
  have bel1 := b0.trans (bel_drewN _ _ k)
  have c0 := hR1.cell 0
  have c1 := hR1.cell 1
  have c2 := hR1.cell 2
  have c3 := hR1.cell 3
  have c4 := hR1.cell 4
  have c5 := hR1.cell 5
  have c6 := hR1.cell 6
  have c7 := hR1.cell 7
  have c8 := hR1.cell 8
  have c9 := hR1.cell 9
  have c10 := hR1.cell 10
  have c11 := hR1.cell 11
  simp at c0 c1 c2 c3 c4 c5 c6 c7 c8 c9 c10 c11
  have f0 := hR1.free 0
  have f1 := hR1.free 1
  have f2 := hR1.free 2
  have f3 := hR1.free 3
  have f4 := hR1.free 4
  have f5 := hR1.free 5
  have f6 := hR1.free 6
  have f7 := hR1.free 7
  have f8 := hR1.free 8
  have f9 := hR1.free 9
  have f10 := hR1.free 10
  have f11 := hR1.free 11
  clear hs hR0 b0
  go_wp2
  exact bodyPost_ret (mde_results rfl rfl (put12_cel hR1 (.int .i64 0) (.int .i64 0) (.int .i64 0) (.int .i64 0) (.int .i64 0) (.slice none 0 0) (.int .i64 0) (.bool false) (.bool false) (.bool false) (.int .i64 0) (.int .i64 0))) rfl ⟨rfl, put12_below bel1 (Nat.le_refl _) _ _ _ _ _ _ _ _ _ _ _ _⟩

set_option maxHeartbeats 2000000 in
theorem mdecode_form (a : Option Addr) (l : List Byte) (n c : Nat) (w : World) (hD : Rd w a l n c) (h : 13 ≤ n) (h2 : n ≤ 1024) (hck : ck16 l = true) (hhf : hf l = false) :
    Calls Try.prog 13 #[.slice a n c] w fun e w' => e = .returned (.tuple #[.agg #[.int .i64 0, .int .i64 0, .int .i64 0, .int .i64 0, .int .i64 0, .slice none 0 0, .int .i64 0, .bool false, .bool false, .bool false, .int .i64 0, .int .i64 0], .int .i64 4]) ∧ Below w.heap.size w w' := by
  have b0 := bel_new w (.cells #[.int .i64 0, .int .i64 0, .int .i64 0, .int .i64 0, .int .i64 0, .slice none 0 0, .int .i64 0, .bool false, .bool false, .bool false, .int .i64 0, .int .i64 0] 26)
  have hR0 := Cel.new w 26 #[.int .i64 0, .int .i64 0, .int .i64 0, .int .i64 0, .int .i64 0, .slice none 0 0, .int .i64 0, .bool false, .bool false, .bool false, .int .i64 0, .int .i64 0]
  have g1 : decide ((n : Int) < 13) = false := by simp; omega
  have g2 : decide (n < 13) = false := by simp; omega
  have g3 : decide ((1024 : Int) < (n : Int)) = false := by simp; omega
  have g4 : decide (1024 < n) = false := by simp; omega
  have hs := mcheck16_len a l n c w.heap.size (w.alloc (.cells #[.int .i64 0, .int .i64 0, .int .i64 0, .int .i64 0, .int .i64 0, .slice none 0 0, .int .i64 0, .bool false, .bool false, .bool false, .int .i64 0, .int .i64 0] 26)) hD.len (hD.bs.below b0) hD.le hD.max
  rw [hck] at hs
  obtain ⟨b, off, rfl⟩ : ∃ b off, a = some ⟨b, off, none⟩ := by obtain ⟨b, off, h, _⟩ := hD.at_ (by omega); exact ⟨b, off, h⟩
  have hrh := fun W (hW : Rd W (some ⟨b, off, none⟩) l n c) => mhead_rd (some ⟨b, off, none⟩) l c W (hW.head 6 (by omega))
  obtain ⟨m, hm⟩ : ∃ m, n = m + 12 := ⟨n - 12, by omega⟩
  obtain ⟨E, hE⟩ : ∃ E, E = m + 6 := ⟨_, rfl⟩
  obtain ⟨G, hG⟩ : ∃ G, G = m + 10 := ⟨_, rfl⟩
  have hle := hD.le
  have hmx := hD.max
  have hctl : ctl l = (l.drop E).take 4 := by unfold ctl; rw [hD.len, show n - 6 = E by omega]
  have hcd := fun W (hW : Rd W (some ⟨b, off, none⟩) l n c) => Clc.cdecode_any (some ⟨b, off + E, none⟩) (ctl l) 4 (c - E) W (by rw [hctl]; exact hW.sub E 4 (by omega))
  obtain ⟨P, hP⟩ : ∃ P, P = rd l := ⟨_, rfl⟩
  rw [← hP] at hrh
  obtain ⟨cr, ch, ma, ct, fi, d, cw⟩ := P
  obtain ⟨X, hX⟩ : ∃ X, X = Clc.deP (ctl l) := ⟨_, rfl⟩
  rw [← hX] at hcd
  obtain ⟨wc, lk, wt, rt, wb, wn⟩ := X
  obtain ⟨er, her⟩ : ∃ er, er = Clc.deE (ctl l) := ⟨_, rfl⟩
  rw [← her] at hcd
  simp only at hrh hcd
  rw [hhf] at hrh
  clear hP hX her
  have g5 : (n : Int) - 2 - 4 = (E : Int) := by omega
  have g6 : (E : Int) + 4 = (G : Int) := by omega
  have q1 : (if c = E then (some ⟨b, off, none⟩ : Option Addr) else some ⟨b, off + E, none⟩) = some ⟨b, off + E, none⟩ := if_neg (by omega)
  have q2 : G - E = 4 := by omega
  have q3 : (E : Int) ≤ (G : Int) := by omega
  have q4 : (G : Int) ≤ (c : Int) := by omega
  have q5 : (6 : Int) ≤ (c : Int) := by omega
  have q6 : E ≤ G := by omega
  have q7 : G ≤ c := by omega
  have q8 : 6 ≤ c := by omega
  have HD := Lib.hid hD
  clear hD hm hE hG hctl hck hhf hle hmx
  go_enter Try.func13, Try.ntmps13
  go_wp2_with fail
  refine hs.mono ?_
  rintro e w1 ⟨rfl, k, rfl⟩
  have hR1 := hR0.draws k
  have bel1 := b0.trans (bel_drewN _ _ k)
  clear hs hR0 b0
  go_wp2_with fail
  refine (hrh _ (HD.out.later bel1)).mono ?_
  rintro e w2 ⟨rfl, hb2⟩
  have hR2 := Cel.later hR1 hb2
  have bel2 := bel1.trans (hb2.mono bel1.size)
  have hlt2 := hR2.lt
  clear hrh hb2 hR1 bel1
  obtain ⟨W3, hW3⟩ : ∃ W3, W3 = w2.alloc (.cells #[.int .i64 cr, .int .i64 ch, .int .i64 ma, .int .i64 ct, .int .i64 fi, .slice none 0 0, .int .i64 0, .bool false, .bool false, .bool false, .int .i64 0, .int .i64 0] 26) := ⟨_, rfl⟩
  have hP3 : Cel W3 w2.heap.size 26 #[.int .i64 cr, .int .i64 ch, .int .i64 ma, .int .i64 ct, .int .i64 fi, .slice none 0 0, .int .i64 0, .bool false, .bool false, .bool false, .int .i64 0, .int .i64 0] := by rw [hW3]; exact Cel.new _ _ _
  have bel3 : Below w2.heap.size w2 W3 := by rw [hW3]; exact bel_new _ _
  have hR3 := Cel.later hR2 bel3
  have bel3' := bel2.trans (bel3.mono bel2.size)
  clear bel2 hR2 bel3
  go_wp2_with fail
  rw [← hW3]
  refine (hcd _ (HD.out.later bel3')).mono ?_
  rintro e w4 ⟨rfl, hb4⟩
  have hR4 := Cel.later hR3 hb4
  have hP4 := Cel.later hP3 hb4
  have bel4 := bel3'.trans (hb4.mono bel3'.size)
  have hlt4 := hP4.lt
  clear hcd hb4 hR3 hP3 hW3 bel3'
  obtain ⟨W5, hW5⟩ : ∃ W5, W5 = w4.alloc (.cells #[.int .i64 wc, .bool lk, .bool wt, .bool rt, .int .i64 wb, .int .i64 wn] 24) := ⟨_, rfl⟩
  have hK5 : Cel W5 w4.heap.size 24 #[.int .i64 wc, .bool lk, .bool wt, .bool rt, .int .i64 wb, .int .i64 wn] := by rw [hW5]; exact Cel.new _ _ _
  have bel5 : Below w4.heap.size w4 W5 := by rw [hW5]; exact bel_new _ _
  have hR5 := Cel.later hR4 bel5
  have hP5 := Cel.later hP4 bel5
  have bel5' := bel4.trans (bel5.mono bel4.size)
  have hlt5 := hK5.lt
  clear bel4 hR4 hP4 bel5
  go_upto_region 10 with fail
  rw [← hW5]
  clear hW5
  have c0 := hR5.cell 0
  have c1 := hR5.cell 1
  have c2 := hR5.cell 2
  have c3 := hR5.cell 3
  have c4 := hR5.cell 4
  have c5 := hR5.cell 5
  have c6 := hR5.cell 6
  have c7 := hR5.cell 7
  have c8 := hR5.cell 8
  have c9 := hR5.cell 9
  have c10 := hR5.cell 10
  have c11 := hR5.cell 11
  simp at c0 c1 c2 c3 c4 c5 c6 c7 c8 c9 c10 c11
  have f0 := hR5.free 0
  have f1 := hR5.free 1
  have f2 := hR5.free 2
  have f3 := hR5.free 3
  have f4 := hR5.free 4
  have f5 := hR5.free 5
  have f6 := hR5.free 6
  have f7 := hR5.free 7
  have f8 := hR5.free 8
  have f9 := hR5.free 9
  have f10 := hR5.free 10
  have f11 := hR5.free 11
  clear hP5 hK5
  go_wp2
  exact bodyPost_ret (mde_results rfl rfl (put12_cel hR5 (.int .i64 0) (.int .i64 0) (.int .i64 0) (.int .i64 0) (.int .i64 0) (.slice none 0 0) (.int .i64 0) (.bool false) (.bool false) (.bool false) (.int .i64 0) (.int .i64 0))) rfl ⟨rfl, put12_below bel5' (Nat.le_refl _) _ _ _ _ _ _ _ _ _ _ _ _⟩

set_option maxHeartbeats 2000000 in
theorem mdecode_err (a : Option Addr) (l : List Byte) (n c : Nat) (w : World) (hD : Rd w a l n c) (h : 13 ≤ n) (h2 : n ≤ 1024) (hck : ck16 l = true) (hhf : hf l = true) (herr : Clc.deE (ctl l) ≠ 0) :
    Calls Try.prog 13 #[.slice a n c] w fun e w' => e = .returned (.tuple #[.agg #[.int .i64 0, .int .i64 0, .int .i64 0, .int .i64 0, .int .i64 0, .slice none 0 0, .int .i64 0, .bool false, .bool false, .bool false, .int .i64 0, .int .i64 0], .int .i64 4]) ∧ Below w.heap.size w w' := by
  have b0 := bel_new w (.cells #[.int .i64 0, .int .i64 0, .int .i64 0, .int .i64 0, .int .i64 0, .slice none 0 0, .int .i64 0, .bool false, .bool false, .bool false, .int .i64 0, .int .i64 0] 26)
  have hR0 := Cel.new w 26 #[.int .i64 0, .int .i64 0, .int .i64 0, .int .i64 0, .int .i64 0, .slice none 0 0, .int .i64 0, .bool false, .bool false, .bool false, .int .i64 0, .int .i64 0]
  have g1 : decide ((n : Int) < 13) = false := by simp; omega
  have g2 : decide (n < 13) = false := by simp; omega
  have g3 : decide ((1024 : Int) < (n : Int)) = false := by simp; omega
  have g4 : decide (1024 < n) = false := by simp; omega
  have hs := mcheck16_len a l n c w.heap.size (w.alloc (.cells #[.int .i64 0, .int .i64 0, .int .i64 0, .int .i64 0, .int .i64 0, .slice none 0 0, .int .i64 0, .bool false, .bool false, .bool false, .int .i64 0, .int .i64 0] 26)) hD.len (hD.bs.below b0) hD.le hD.max
  rw [hck] at hs
  obtain ⟨b, off, rfl⟩ : ∃ b off, a = some ⟨b, off, none⟩ := by obtain ⟨b, off, h, _⟩ := hD.at_ (by omega); exact ⟨b, off, h⟩
  have hrh := fun W (hW : Rd W (some ⟨b, off, none⟩) l n c) => mhead_rd (some ⟨b, off, none⟩) l c W (hW.head 6 (by omega))
  obtain ⟨m, hm⟩ : ∃ m, n = m + 12 := ⟨n - 12, by omega⟩
  obtain ⟨E, hE⟩ : ∃ E, E = m + 6 := ⟨_, rfl⟩
  obtain ⟨G, hG⟩ : ∃ G, G = m + 10 := ⟨_, rfl⟩
  have hle := hD.le
  have hmx := hD.max
  have hctl : ctl l = (l.drop E).take 4 := by unfold ctl; rw [hD.len, show n - 6 = E by omega]
  have hcd := fun W (hW : Rd W (some ⟨b, off, none⟩) l n c) => Clc.cdecode_any (some ⟨b, off + E, none⟩) (ctl l) 4 (c - E) W (by rw [hctl]; exact hW.sub E 4 (by omega))
  obtain ⟨P, hP⟩ : ∃ P, P = rd l := ⟨_, rfl⟩
  rw [← hP] at hrh
  obtain ⟨cr, ch, ma, ct, fi, d, cw⟩ := P
  obtain ⟨X, hX⟩ : ∃ X, X = Clc.deP (ctl l) := ⟨_, rfl⟩
  rw [← hX] at hcd
  obtain ⟨wc, lk, wt, rt, wb, wn⟩ := X
  obtain ⟨er, her⟩ : ∃ er, er = Clc.deE (ctl l) := ⟨_, rfl⟩
  rw [← her] at hcd herr
  simp only at hrh hcd
  rw [hhf] at hrh
  have j1 : (er != 0) = true := by simpa using herr
  clear hP hX her herr
  have g5 : (n : Int) - 2 - 4 = (E : Int) := by omega
  have g6 : (E : Int) + 4 = (G : Int) := by omega
  have q1 : (if c = E then (some ⟨b, off, none⟩ : Option Addr) else some ⟨b, off + E, none⟩) = some ⟨b, off + E, none⟩ := if_neg (by omega)
  have q2 : G - E = 4 := by omega
  have q3 : (E : Int) ≤ (G : Int) := by omega
  have q4 : (G : Int) ≤ (c : Int) := by omega
  have q5 : (6 : Int) ≤ (c : Int) := by omega
  have q6 : E ≤ G := by omega
  have q7 : G ≤ c := by omega
  have q8 : 6 ≤ c := by omega
  have HD := Lib.hid hD
  clear hD hm hE hG hctl hck hhf hle hmx
  go_enter Try.func13, Try.ntmps13
  go_wp2_with fail
  refine hs.mono ?_
  rintro e w1 ⟨rfl, k, rfl⟩
  have hR1 := hR0.draws k
  have bel1 := b0.trans (bel_drewN _ _ k)
  clear hs hR0 b0
  go_wp2_with fail
  refine (hrh _ (HD.out.later bel1)).mono ?_
  rintro e w2 ⟨rfl, hb2⟩
  have hR2 := Cel.later hR1 hb2
  have bel2 := bel1.trans (hb2.mono bel1.size)
  have hlt2 := hR2.lt
  clear hrh hb2 hR1 bel1
  obtain ⟨W3, hW3⟩ : ∃ W3, W3 = w2.alloc (.cells #[.int .i64 cr, .int .i64 ch, .int .i64 ma, .int .i64 ct, .int .i64 fi, .slice none 0 0, .int .i64 0, .bool false, .bool false, .bool false, .int .i64 0, .int .i64 0] 26) := ⟨_, rfl⟩
  have hP3 : Cel W3 w2.heap.size 26 #[.int .i64 cr, .int .i64 ch, .int .i64 ma, .int .i64 ct, .int .i64 fi, .slice none 0 0, .int .i64 0, .bool false, .bool false, .bool false, .int .i64 0, .int .i64 0] := by rw [hW3]; exact Cel.new _ _ _
  have bel3 : Below w2.heap.size w2 W3 := by rw [hW3]; exact bel_new _ _
  have hR3 := Cel.later hR2 bel3
  have bel3' := bel2.trans (bel3.mono bel2.size)
  clear bel2 hR2 bel3
  go_wp2_with fail
  rw [← hW3]
  refine (hcd _ (HD.out.later bel3')).mono ?_
  rintro e w4 ⟨rfl, hb4⟩
  have hR4 := Cel.later hR3 hb4
  have hP4 := Cel.later hP3 hb4
  have bel4 := bel3'.trans (hb4.mono bel3'.size)
  have hlt4 := hP4.lt
  clear hcd hb4 hR3 hP3 hW3 bel3'
  obtain ⟨W5, hW5⟩ : ∃ W5, W5 = w4.alloc (.cells #[.int .i64 wc, .bool lk, .bool wt, .bool rt, .int .i64 wb, .int .i64 wn] 24) := ⟨_, rfl⟩
  have hK5 : Cel W5 w4.heap.size 24 #[.int .i64 wc, .bool lk, .bool wt, .bool rt, .int .i64 wb, .int .i64 wn] := by rw [hW5]; exact Cel.new _ _ _
  have bel5 : Below w4.heap.size w4 W5 := by rw [hW5]; exact bel_new _ _
  have hR5 := Cel.later hR4 bel5
  have hP5 := Cel.later hP4 bel5
  have bel5' := bel4.trans (bel5.mono bel4.size)
  have hlt5 := hK5.lt
  clear bel4 hR4 hP4 bel5
  go_upto_region 10 with fail
  rw [← hW5]
  clear hW5
  have c0 := hR5.cell 0
  have c1 := hR5.cell 1
  have c2 := hR5.cell 2
  have c3 := hR5.cell 3
  have c4 := hR5.cell 4
  have c5 := hR5.cell 5
  have c6 := hR5.cell 6
  have c7 := hR5.cell 7
  have c8 := hR5.cell 8
  have c9 := hR5.cell 9
  have c10 := hR5.cell 10
  have c11 := hR5.cell 11
  simp at c0 c1 c2 c3 c4 c5 c6 c7 c8 c9 c10 c11
  have f0 := hR5.free 0
  have f1 := hR5.free 1
  have f2 := hR5.free 2
  have f3 := hR5.free 3
  have f4 := hR5.free 4
  have f5 := hR5.free 5
  have f6 := hR5.free 6
  have f7 := hR5.free 7
  have f8 := hR5.free 8
  have f9 := hR5.free 9
  have f10 := hR5.free 10
  have f11 := hR5.free 11
  clear hP5 hK5
  go_wp2
  exact bodyPost_ret (mde_results rfl rfl (put12_cel hR5 (.int .i64 0) (.int .i64 0) (.int .i64 0) (.int .i64 0) (.int .i64 0) (.slice none 0 0) (.int .i64 0) (.bool false) (.bool false) (.bool false) (.int .i64 0) (.int .i64 0))) rfl ⟨rfl, put12_below bel5' (Nat.le_refl _) _ _ _ _ _ _ _ _ _ _ _ _⟩

set_option maxHeartbeats 2000000 in
theorem mdecode_good (a : Option Addr) (l : List Byte) (n c : Nat) (w : World) (hD : Rd w a l n c) (h : 13 ≤ n) (h2 : n ≤ 1024) (hck : ck16 l = true) (hhf : hf l = true) (herr : Clc.deE (ctl l) = 0) :
    Calls Try.prog 13 #[.slice a n c] w fun e w' => ∃ v, e = .returned (.tuple #[.agg #[.int .i64 (rd l).cr, .int .i64 (rd l).ch, .int .i64 (rd l).ma, .int .i64 (rd l).ct, .int .i64 (rd l).fi, v, .int .i64 (rd l).cw.ch, .bool (rd l).cw.lk, .bool (rd l).cw.wt, .bool (rd l).cw.rt, .int .i64 (rd l).cw.bp, .int .i64 (rd l).cw.nx], .int .i64 0]) ∧ Ow w' w.heap.size 5 v (rd l).d ∧ Below w.heap.size w w' := by
  have b0 := bel_new w (.cells #[.int .i64 0, .int .i64 0, .int .i64 0, .int .i64 0, .int .i64 0, .slice none 0 0, .int .i64 0, .bool false, .bool false, .bool false, .int .i64 0, .int .i64 0] 26)
  have hR0 := Cel.new w 26 #[.int .i64 0, .int .i64 0, .int .i64 0, .int .i64 0, .int .i64 0, .slice none 0 0, .int .i64 0, .bool false, .bool false, .bool false, .int .i64 0, .int .i64 0]
  have g1 : decide ((n : Int) < 13) = false := by simp; omega
  have g2 : decide (n < 13) = false := by simp; omega
  have g3 : decide ((1024 : Int) < (n : Int)) = false := by simp; omega
  have g4 : decide (1024 < n) = false := by simp; omega
  have hs := mcheck16_len a l n c w.heap.size (w.alloc (.cells #[.int .i64 0, .int .i64 0, .int .i64 0, .int .i64 0, .int .i64 0, .slice none 0 0, .int .i64 0, .bool false, .bool false, .bool false, .int .i64 0, .int .i64 0] 26)) hD.len (hD.bs.below b0) hD.le hD.max
  rw [hck] at hs
  obtain ⟨b, off, rfl⟩ : ∃ b off, a = some ⟨b, off, none⟩ := by obtain ⟨b, off, h, _⟩ := hD.at_ (by omega); exact ⟨b, off, h⟩
  have hrh := fun W (hW : Rd W (some ⟨b, off, none⟩) l n c) => mhead_rd (some ⟨b, off, none⟩) l c W (hW.head 6 (by omega))
  obtain ⟨m, hm⟩ : ∃ m, n = m + 12 := ⟨n - 12, by omega⟩
  obtain ⟨E, hE⟩ : ∃ E, E = m + 6 := ⟨_, rfl⟩
  obtain ⟨G, hG⟩ : ∃ G, G = m + 10 := ⟨_, rfl⟩
  have hle := hD.le
  have hmx := hD.max
  have hctl : ctl l = (l.drop E).take 4 := by unfold ctl; rw [hD.len, show n - 6 = E by omega]
  have hcd := fun W (hW : Rd W (some ⟨b, off, none⟩) l n c) => Clc.cdecode_any (some ⟨b, off + E, none⟩) (ctl l) 4 (c - E) W (by rw [hctl]; exact hW.sub E 4 (by omega))
  have hdd : (rd l).d = (l.drop 6).take m := by show (l.drop 6).take (l.length - 12) = _; rw [hD.len, show n - 12 = m by omega]
  have hdl : (rd l).d.length = m := by rw [rd_len (by rw [hD.len]; exact h), hD.len]; omega
  have hsub := fun W (hW : Rd W (some ⟨b, off, none⟩) l n c) => hW.sub 6 m (by omega)
  have hcw : (rd l).cw = Clc.deP (ctl l) := rfl
  rw [← hdd] at hsub
  rw [herr] at hcd
  rw [hhf] at hrh
  rw [← hcw] at hcd
  obtain ⟨P, hP⟩ : ∃ P, P = rd l := ⟨_, rfl⟩
  rw [← hP] at hrh hcd hsub hdl ⊢
  obtain ⟨cr, ch, ma, ct, fi, d, ⟨wc, lk, wt, rt, wb, wn⟩⟩ := P
  simp only at hrh hcd hsub hdl ⊢
  have HL := Lib.hid hdl
  clear hdl hdd hcw hP
  have g5 : (n : Int) - 2 - 4 = (E : Int) := by omega
  have g6 : (E : Int) + 4 = (G : Int) := by omega
  have q1 : (if c = E then (some ⟨b, off, none⟩ : Option Addr) else some ⟨b, off + E, none⟩) = some ⟨b, off + E, none⟩ := if_neg (by omega)
  have q2 : G - E = 4 := by omega
  have q3 : (E : Int) ≤ (G : Int) := by omega
  have q4 : (G : Int) ≤ (c : Int) := by omega
  have q5 : (6 : Int) ≤ (c : Int) := by omega
  have q6 : E ≤ G := by omega
  have q7 : G ≤ c := by omega
  have q8 : 6 ≤ c := by omega
  have q9 : (if c = 6 then (some ⟨b, off, none⟩ : Option Addr) else some ⟨b, off + 6, none⟩) = some ⟨b, off + 6, none⟩ := if_neg (by omega)
  have qa : E - 6 = m := by omega
  have qb : (6 : Int) ≤ (E : Int) := by omega
  have qc : 6 ≤ E := by omega
  have qd : (E : Int) ≤ (c : Int) := by omega
  have qe : E ≤ c := by omega
  have hm47 : m ≤ 140737488355328 := by omega
  have HD := Lib.hid hD
  clear hD hm hE hG hctl hck hhf hle hmx herr
  go_enter Try.func13, Try.ntmps13
  go_wp2_with fail
  refine hs.mono ?_
  rintro e w1 ⟨rfl, k, rfl⟩
  have hR1 := hR0.draws k
  have bel1 := b0.trans (bel_drewN _ _ k)
  clear hs hR0 b0
  go_wp2_with fail
  refine (hrh _ (HD.out.later bel1)).mono ?_
  rintro e w2 ⟨rfl, hb2⟩
  have hR2 := Cel.later hR1 hb2
  have bel2 := bel1.trans (hb2.mono bel1.size)
  have hlt2 := hR2.lt
  clear hrh hb2 hR1 bel1
  obtain ⟨W3, hW3⟩ : ∃ W3, W3 = w2.alloc (.cells #[.int .i64 cr, .int .i64 ch, .int .i64 ma, .int .i64 ct, .int .i64 fi, .slice none 0 0, .int .i64 0, .bool false, .bool false, .bool false, .int .i64 0, .int .i64 0] 26) := ⟨_, rfl⟩
  have hP3 : Cel W3 w2.heap.size 26 #[.int .i64 cr, .int .i64 ch, .int .i64 ma, .int .i64 ct, .int .i64 fi, .slice none 0 0, .int .i64 0, .bool false, .bool false, .bool false, .int .i64 0, .int .i64 0] := by rw [hW3]; exact Cel.new _ _ _
  have bel3 : Below w2.heap.size w2 W3 := by rw [hW3]; exact bel_new _ _
  have hR3 := Cel.later hR2 bel3
  have bel3' := bel2.trans (bel3.mono bel2.size)
  clear bel2 hR2 bel3
  go_wp2_with fail
  rw [← hW3]
  refine (hcd _ (HD.out.later bel3')).mono ?_
  rintro e w4 ⟨rfl, hb4⟩
  have hR4 := Cel.later hR3 hb4
  have hP4 := Cel.later hP3 hb4
  have bel4 := bel3'.trans (hb4.mono bel3'.size)
  have hlt4 := hP4.lt
  clear hcd hb4 hR3 hP3 hW3 bel3'
  obtain ⟨W5, hW5⟩ : ∃ W5, W5 = w4.alloc (.cells #[.int .i64 wc, .bool lk, .bool wt, .bool rt, .int .i64 wb, .int .i64 wn] 24) := ⟨_, rfl⟩
  have hK5 : Cel W5 w4.heap.size 24 #[.int .i64 wc, .bool lk, .bool wt, .bool rt, .int .i64 wb, .int .i64 wn] := by rw [hW5]; exact Cel.new _ _ _
  have bel5 : Below w4.heap.size w4 W5 := by rw [hW5]; exact bel_new _ _
  have hR5 := Cel.later hR4 bel5
  have hP5 := Cel.later hP4 bel5
  have bel5' := bel4.trans (bel5.mono bel4.size)
  have hlt5 := hK5.lt
  clear bel4 hR4 hP4 bel5
  go_upto_region 10 with fail
  rw [← hW5]
  clear hW5
  go_wp2_with fail
  refine (clone_any (some ⟨b, off + 6, none⟩) d m (c - 6) W5 HL (hsub W5 (HD.out.later bel5')).bs (fun h => nomatch h) hm47).mono ?_
  rintro e w6 ⟨v, rfl, hown, hb6⟩
  obtain ⟨A6, c6', rfl, _⟩ := hown.reads_len (n := m) HL.out
  have hR6 := Cel.later hR5 hb6
  have hP6 := Cel.later hP5 hb6
  have hK6 := Cel.later hK5 hb6
  have bel6 := bel5'.trans (hb6.mono bel5'.size)
  clear hsub hR5 hP5 hK5 hb6
  have p0 := hP6.cell 0
  have p1 := hP6.cell 1
  have p2 := hP6.cell 2
  have p3 := hP6.cell 3
  have p4 := hP6.cell 4
  have p5 := hP6.cell 5
  have p6 := hP6.cell 6
  have p7 := hP6.cell 7
  have p8 := hP6.cell 8
  have p9 := hP6.cell 9
  have p10 := hP6.cell 10
  have p11 := hP6.cell 11
  simp at p0 p1 p2 p3 p4 p5 p6 p7 p8 p9 p10 p11
  have pf5 := hP6.free 5
  have pf6 := hP6.free 6
  have pf7 := hP6.free 7
  have pf8 := hP6.free 8
  have pf9 := hP6.free 9
  have pf10 := hP6.free 10
  have pf11 := hP6.free 11
  have k0 := hK6.cell 0
  have k1 := hK6.cell 1
  have k2 := hK6.cell 2
  have k3 := hK6.cell 3
  have k4 := hK6.cell 4
  have k5 := hK6.cell 5
  simp at k0 k1 k2 k3 k4 k5
  obtain ⟨W7, hW7⟩ : ∃ W7, W7 = ((((((w6.setCell ⟨w2.heap.size, 5, none⟩ (.slice A6 m c6')).setCell ⟨w2.heap.size, 6, none⟩ (.int .i64 wc)).setCell ⟨w2.heap.size, 7, none⟩ (.bool lk)).setCell ⟨w2.heap.size, 8, none⟩ (.bool wt)).setCell ⟨w2.heap.size, 9, none⟩ (.bool rt)).setCell ⟨w2.heap.size, 10, none⟩ (.int .i64 wb)).setCell ⟨w2.heap.size, 11, none⟩ (.int .i64 wn) := ⟨_, rfl⟩
  have hO7 : Only [w2.heap.size] w6 W7 := by rw [hW7]; exact set_then (set_then (set_then (set_then (set_then (set_then (set_only _ _ 5 _) 6 _) 7 _) 8 _) 9 _) 10 _) 11 _
  have hP7 : Cel W7 w2.heap.size 26 #[.int .i64 cr, .int .i64 ch, .int .i64 ma, .int .i64 ct, .int .i64 fi, .slice A6 m c6', .int .i64 wc, .bool lk, .bool wt, .bool rt, .int .i64 wb, .int .i64 wn] := by rw [hW7]; exact ((((((hP6.put 5 _).put 6 _).put 7 _).put 8 _).put 9 _).put 10 _).put 11 _
  have hne : w.heap.size ≠ w2.heap.size := by omega
  have hR7 := hR6.only hO7 (by simpa using hne)
  have hw7 := hown.only hO7 (fun i hi => by have := (hown.lt i hi).1; simp; omega)
  have bel7 := bel6.trans (hO7.below bel6.size (by simp; omega))
  go_upto_region 14 with fail
  rw [← hW7]
  clear hW7 hO7 hP6 hR6 hK6 bel6 hown p0 p1 p2 p3 p4 p5 p6 p7 p8 p9 p10 p11 pf5 pf6 pf7 pf8 pf9 pf10 pf11 k0 k1 k2 k3 k4 k5
  have p0 := hP7.cell 0
  have p1 := hP7.cell 1
  have p2 := hP7.cell 2
  have p3 := hP7.cell 3
  have p4 := hP7.cell 4
  have p5 := hP7.cell 5
  have p6 := hP7.cell 6
  have p7 := hP7.cell 7
  have p8 := hP7.cell 8
  have p9 := hP7.cell 9
  have p10 := hP7.cell 10
  have p11 := hP7.cell 11
  simp at p0 p1 p2 p3 p4 p5 p6 p7 p8 p9 p10 p11
  have c0 := hR7.cell 0
  have c1 := hR7.cell 1
  have c2 := hR7.cell 2
  have c3 := hR7.cell 3
  have c4 := hR7.cell 4
  have c5 := hR7.cell 5
  have c6 := hR7.cell 6
  have c7 := hR7.cell 7
  have c8 := hR7.cell 8
  have c9 := hR7.cell 9
  have c10 := hR7.cell 10
  have c11 := hR7.cell 11
  simp at c0 c1 c2 c3 c4 c5 c6 c7 c8 c9 c10 c11
  have f0 := hR7.free 0
  have f1 := hR7.free 1
  have f2 := hR7.free 2
  have f3 := hR7.free 3
  have f4 := hR7.free 4
  have f5 := hR7.free 5
  have f6 := hR7.free 6
  have f7 := hR7.free 7
  have f8 := hR7.free 8
  have f9 := hR7.free 9
  have f10 := hR7.free 10
  have f11 := hR7.free 11
  go_wp2
  refine bodyPost_ret (mde_results rfl rfl (put12_cel hR7 (.int .i64 cr) (.int .i64 ch) (.int .i64 ma) (.int .i64 ct) (.int .i64 fi) (.slice A6 m c6') (.int .i64 wc) (.bool lk) (.bool wt) (.bool rt) (.int .i64 wb) (.int .i64 wn))) rfl ⟨_, rfl, ?_, put12_below bel7 (Nat.le_refl _) _ _ _ _ _ _ _ _ _ _ _ _⟩
  have hz : w.heap.size ≤ W5.heap.size := bel5'.size
  exact (hw7.only (put12_only _ _ _ _ _ _ _ _ _ _ _ _ _ _) (fun i hi => by have := (hw7.lt i hi).1; simp; omega)).more hz

theorem mdecode_any (a : Option Addr) (l : List Byte) (n c : Nat) (w : World) (hD : Rd w a l n c) :
    Calls Try.prog 13 #[.slice a n c] w fun e w' => ∃ v, e = .returned (.tuple #[.agg #[.int .i64 (deP l).cr, .int .i64 (deP l).ch, .int .i64 (deP l).ma, .int .i64 (deP l).ct, .int .i64 (deP l).fi, v, .int .i64 (deP l).cw.ch, .bool (deP l).cw.lk, .bool (deP l).cw.wt, .bool (deP l).cw.rt, .int .i64 (deP l).cw.bp, .int .i64 (deP l).cw.nx], .int .i64 (deE l)]) ∧ Ow w' w.heap.size 5 v (deP l).d ∧ Below w.heap.size w w' := by
  have hln := hD.len
  by_cases h1 : n < 13
  · obtain ⟨e1, e2⟩ := de_short (l := l) (by omega)
    rw [e1, e2]
    exact (mdecode_short a n c w h1).mono fun e w' ⟨k1, k2⟩ => ⟨_, k1, Ow_nil _ _, k2⟩
  by_cases h2 : 1024 < n
  · obtain ⟨e1, e2⟩ := de_long (l := l) (by omega)
    rw [e1, e2]
    exact (mdecode_long a n c w h2).mono fun e w' ⟨k1, k2⟩ => ⟨_, k1, Ow_nil _ _, k2⟩
  have g1 : 13 ≤ n := by omega
  have g2 : n ≤ 1024 := by omega
  cases hck : ck16 l with
  | false =>
    obtain ⟨e1, e2⟩ := de_sum (l := l) (by omega) (by omega) hck
    rw [e1, e2]
    exact (mdecode_sum a l n c w hD g1 g2 hck).mono fun e w' ⟨k1, k2⟩ => ⟨_, k1, Ow_nil _ _, k2⟩
  | true =>
    cases hg : gd l with
    | false =>
      obtain ⟨e1, e2⟩ := de_form (l := l) (by omega) (by omega) hck hg
      rw [e1, e2]
      cases hz : hf l with
      | false => exact (mdecode_form a l n c w hD g1 g2 hck hz).mono fun e w' ⟨k1, k2⟩ => ⟨_, k1, Ow_nil _ _, k2⟩
      | true =>
        have he : Clc.deE (ctl l) ≠ 0 := fun e => by unfold gd at hg; rw [hz, e] at hg; cases hg
        exact (mdecode_err a l n c w hD g1 g2 hck hz he).mono fun e w' ⟨k1, k2⟩ => ⟨_, k1, Ow_nil _ _, k2⟩
    | true =>
      obtain ⟨e1, e2⟩ := de_good (l := l) (by omega) (by omega) hck hg
      rw [e1, e2]
      obtain ⟨k1, k2⟩ := gd_parts hg
      exact mdecode_good a l n c w hD g1 g2 hck k1 k2
end Go.Proofs.Ytmkmojhhfbokdaa.Tmf
