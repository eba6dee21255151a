/-
  The walk of 'lives': the chapter's examples; and of 'few'.
-/
import Derived.Test.YtgomkhllhpghmabBitsW1
import Derived.Test.YtgomkhllhpghmabRef02b
import Derived.LaidEqlPtr
import Derived.Lib.Builder
namespace Go.Proofs.Ytgomkhllhpghmab
open Go.RowKit

theorem Packs.of_dec {bs : List Byte} {L : List Bool} (h1 : bs.length = (L.length + 7) / 8) (h2 : ∀ k, k < 8 * bs.length → bitAt bs k = L.getD k false) : Packs bs L := by
  refine ⟨h1, fun k => ?_⟩
  by_cases hk : k < 8 * bs.length
  · exact h2 k hk
  · unfold bitAt
    rw [List.getD_eq_getElem?_getD, List.getElem?_eq_none (by omega), List.getD_eq_getElem?_getD, List.getElem?_eq_none (by omega)]
    simp

theorem put_as (w : World) (base g : Nat) (r : Option Nat) (L : List Bool) (N K : Int) (n : BitVec 64) (k : Nat) (hN : N = (n.toNat : Int)) (hK : K = (k : Int)) (h : WAt w base g r L) (hk : k ≤ 64) (hL : L.length < 1000000) (hbase : base ≤ w.heap.size) :
    Calls Try.prog 11 #[.pointer (some ⟨g, 0, none⟩), .int .u64 N, .int .i64 K] w fun e w' => e = .returned (.pointer (some ⟨g, 0, none⟩)) ∧ PutAt w base g r (L ++ bitsOf n.toNat k) w' := by
  subst hN hK
  exact put_any w base g r L n k h hk hL hbase
theorem put_nat (w : World) (base g : Nat) (r : Option Nat) (L : List Bool) (N K : Int) (n k : Nat) (hN : N = (n : Int)) (hn : n < 18446744073709551616) (hK : K = (k : Int)) (h : WAt w base g r L) (hk : k ≤ 64) (hL : L.length < 1000000) (hbase : base ≤ w.heap.size) :
    Calls Try.prog 11 #[.pointer (some ⟨g, 0, none⟩), .int .u64 N, .int .i64 K] w fun e w' => e = .returned (.pointer (some ⟨g, 0, none⟩)) ∧ PutAt w base g r (L ++ bitsOf n k) w' := by
  have e : (BitVec.ofNat 64 n).toNat = n := by rw [BitVec.toNat_ofNat]; exact Nat.mod_eq_of_lt hn
  have := put_as w base g r L N K (BitVec.ofNat 64 n) k (by rw [e]; exact hN) hK h hk hL hbase
  rw [e] at this
  exact this
theorem put_off (w : World) (base g : Nat) (r : Option Nat) (L : List Bool) (N K : Int) (n : BitVec 64) (hN : N = (n.toNat : Int)) (h : WAt w base g r L) (hk : K < 0 ∨ 64 < K) :
    Calls Try.prog 11 #[.pointer (some ⟨g, 0, none⟩), .int .u64 N, .int .i64 K] w fun e w' => e = .returned (.pointer (some ⟨g, 0, none⟩)) ∧ w = w' := by
  subst hN
  exact put_bad w base g r L n K h hk
theorem get_as (w : World) (base g : Nat) (r : Option Nat) (bs : List Byte) (p : Nat) (bad : Bool) (K : Int) (V : Int) (q : Nat) (b2 : Bool) (h : RAt w base g r bs p bad) (hL : bs.length < 1000000) (hk : (Lit.int .i64 K).wf = true)
    (hV : (getV bs p bad K : Int) = V) (hq : getP bs p bad K = q) (hb : getB bs p bad K = b2) :
    Calls Try.prog 20 #[.pointer (some ⟨g, 0, none⟩), .int .i64 K] w fun e w' => e = .returned (.int .u64 V) ∧ RAt w' base g r bs q b2 ∧ Only [g] w w' := by
  subst hV hq hb
  exact get_any w base g r bs p bad K h hL hk
theorem left_as (w : World) (base g : Nat) (r : Option Nat) (bs : List Byte) (p : Nat) (bad : Bool) (V : Int) (h : RAt w base g r bs p bad) (hL : bs.length < 1000000) (hV : (leftR bs p bad : Int) = V) :
    Calls Try.prog 22 #[.pointer (some ⟨g, 0, none⟩)] w fun e w' => e = .returned (.int .i64 V) ∧ ∃ n, w' = w.drewN n := by
  subst hV
  exact left_any w base g r bs p bad h hL
theorem wlen_as (w : World) (base g : Nat) (r : Option Nat) (L : List Bool) (V : Int) (h : WAt w base g r L) (hL : L.length < 1000000) (hV : (L.length : Int) = V) :
    Calls Try.prog 13 #[.pointer (some ⟨g, 0, none⟩)] w fun e w' => e = .returned (.int .i64 V) ∧ ∃ n, w' = w.drewN n := by
  subst hV
  exact wlen_any w base g r L h hL

theorem PutAt.below {w wr : World} {base g B : Nat} {r : Option Nat} {L L0 : List Bool} (h : PutAt w base g r L wr) (h0 : WAt w base g r L0) (hb : B ≤ base) (hg : B ≤ g) : Below B w wr := by
  obtain ⟨_, _, _, hO⟩ := h
  have hl := h0.lt
  refine hO.below (by omega) (fun x hx => ?_)
  rcases List.mem_cons.1 hx with rfl | hx
  · exact hg
  · have := h0.row x (by simpa using hx)
    omega

theorem info_W : (Try.prog.info? 53).isSome = true := by kernel_rfl
theorem info_R : (Try.prog.info? 55).isSome = true := by kernel_rfl
theorem eq_W (a : Addr) (w : World) : (binOp .eql 23 (.pointer (some a)) (.pointer (some a))).run Try.prog w = .ok (.bool true) w := by
  obtain ⟨j, hj⟩ := Option.isSome_iff_exists.1 info_W
  exact run_eql_ptr_same w a Try.underlying23 hj
theorem ne_W (a : Addr) (w : World) : (binOp .neq 23 (.pointer (some a)) (.pointer (some a))).run Try.prog w = .ok (.bool false) w := by
  obtain ⟨j, hj⟩ := Option.isSome_iff_exists.1 info_W
  exact Lib.run_neq_ptr_same w a Try.underlying23 hj

def L9 : List Bool := [true, false, true, false, true, true, true, true, true]
theorem packs9 : Packs [0xaf#8, 0x80#8] L9 := Packs.of_dec (by decide) (by decide +kernel)

set_option maxHeartbeats 2000000 in
theorem lives_any (w : World) : Calls Try.prog 10 #[] w fun e w' => e = .returned (.bool true) ∧ Below w.heap.size w w' := by
  have heq := eq_W ⟨w.heap.size, 0, none⟩
  go_enter Try.func10, Try.ntmps10
  go_wp2_with fail
  refine (newWriter_any _).mono ?_
  rintro e w0 ⟨rfl, hw0⟩
  have hW0 : WAt w0 w.heap.size w.heap.size none [] := by rw [← hw0]; exact WAt_new _ _
  have bel0 : Below w.heap.size w w0 := by rw [← hw0]; exact (Below.refl _ _).alloc (Nat.le_refl _) _
  clear hw0
  go_wp2_with fail
  refine (put_as _ w.heap.size w.heap.size none [] 5 3 5#64 3 rfl rfl hW0 (by decide) (by decide) bel0.size).mono ?_
  rintro e w1 ⟨rfl, hP1⟩
  have bel1 := bel0.trans (hP1.below hW0 (Nat.le_refl _) (Nat.le_refl _))
  obtain ⟨r1, hW1, _, _⟩ := hP1
  clear hW0
  go_wp2_with fail
  refine (put_as _ w.heap.size w.heap.size r1 _ 1 2 1#64 2 rfl rfl hW1 (by decide) (by decide) bel1.size).mono ?_
  rintro e w2 ⟨rfl, hP2⟩
  have bel2 := bel1.trans (hP2.below hW1 (Nat.le_refl _) (Nat.le_refl _))
  obtain ⟨r2, hW2, _, _⟩ := hP2
  clear hW1
  go_wp2_with fail
  refine (put_as _ w.heap.size w.heap.size r2 _ 255 4 255#64 4 rfl rfl hW2 (by decide) (by decide) bel2.size).mono ?_
  rintro e w3 ⟨rfl, hP3⟩
  have bel3 := bel2.trans (hP3.below hW2 (Nat.le_refl _) (Nat.le_refl _))
  obtain ⟨r3, hW3, _, _⟩ := hP3
  clear hW2
  rw [show [] ++ bitsOf (5#64).toNat 3 ++ bitsOf (1#64).toNat 2 ++ bitsOf (255#64).toNat 4 = L9 by decide +kernel] at hW3
  go_wp2_with fail
  refine (put_off _ w.heap.size w.heap.size r3 _ 1 65 1#64 rfl hW3 (by decide)).mono ?_
  rintro e w4 ⟨rfl, rfl⟩
  go_wp2_with fail
  refine (put_off _ w.heap.size w.heap.size r3 _ 1 (-1) 1#64 rfl hW3 (by decide)).mono ?_
  rintro e w4 ⟨rfl, rfl⟩
  have hz3 := bel3.size
  have hg3 := hW3.lt
  have hr3 := hW3.row
  go_wp2_with fail
  have hb4 : Bs (w3.alloc (.cells #[.int .u8 175] 5)) (w3.alloc (.cells #[.int .u8 175] 5)).heap.size (some ⟨w3.heap.size, 0, none⟩) [0xaf#8] := Bs_new _ _ [0xaf#8] _ rfl _ (by simp)
  refine (newReader_any _ [0xaf#8] 1 1 _ rfl hb4 (by simp) (by decide)).mono ?_
  rintro e w4 ⟨q, r4, rfl, hR4, hq4, hb4⟩
  have hz4 : w3.heap.size + 1 ≤ q := by simpa using hq4
  have hbase4 : w3.heap.size ≤ (w3.alloc (.cells #[.int .u8 175] 5)).heap.size := by simp
  have hO4 : Only [] w3 w4 := ((Only.refl [] w3).alloc (.cells #[.int .u8 175] 5)).trans (Only.of_below (S := []) hb4) (by simp)
  have bel4 : Below w.heap.size w w4 := bel3.trans (hO4.below hz3 (by simp))
  have hW4 := hW3.only hO4 (by simp) (by simp)
  have hrow4 := hR4.row
  clear hb4 hW3 hO4
  go_wp2_with fail
  refine (get_as _ _ q r4 _ 0 false 3 5 3 false hR4 (by decide) (by decide) (by decide +kernel) (by decide +kernel) (by decide +kernel)).mono ?_
  rintro e w5 ⟨rfl, hR5, hO5⟩
  have bel5 := bel4.trans (hO5.below (B := w.heap.size) bel4.size (by simp; omega))
  have hW5 := hW4.only hO5 (by simp; omega) (fun i hi => by have := hr3 i hi; simp; omega)
  clear hR4 hW4 hO5
  go_wp2_with fail
  refine (get_as _ _ q r4 _ 3 false 2 1 5 false hR5 (by decide) (by decide) (by decide +kernel) (by decide +kernel) (by decide +kernel)).mono ?_
  rintro e w6 ⟨rfl, hR6, hO6⟩
  have bel6 := bel5.trans (hO6.below (B := w.heap.size) bel5.size (by simp; omega))
  have hW6 := hW5.only hO6 (by simp; omega) (fun i hi => by have := hr3 i hi; simp; omega)
  clear hR5 hW5 hO6
  go_wp2_with fail
  refine (left_as _ _ q r4 _ 5 false 3 hR6 (by decide) (by decide +kernel)).mono ?_
  rintro e w7 ⟨rfl, n7, rfl⟩
  have hR7 := hR6.draws n7
  have hW7 := hW6.draws n7
  have bel7 : Below w.heap.size w (w6.drewN n7) := bel6.trans ⟨rfl, rfl, rfl, Nat.le_refl _, fun _ _ => rfl⟩
  clear hR6 hW6
  go_wp2_with fail
  refine (failed_any _ _ q r4 _ 5 false hR7).mono ?_
  rintro e w8 ⟨rfl, rfl⟩
  go_wp2_with fail
  refine (get_as _ _ q r4 _ 5 false 4 0 5 true hR7 (by decide) (by decide) (by decide +kernel) (by decide +kernel) (by decide +kernel)).mono ?_
  rintro e w8 ⟨rfl, hR8, hO8⟩
  have bel8 := bel7.trans (hO8.below (B := w.heap.size) bel7.size (by simp; omega))
  have hW8 := hW7.only hO8 (by simp; omega) (fun i hi => by have := hr3 i hi; simp; omega)
  clear hR7 hW7 hO8
  go_wp2_with fail
  refine (wlen_as _ _ _ r3 L9 9 hW8 (by decide) (by decide)).mono ?_
  rintro e w9 ⟨rfl, n9, rfl⟩
  have hR9 := hR8.draws n9
  have hW9 := hW8.draws n9
  have bel9 : Below w.heap.size w (w8.drewN n9) := bel8.trans ⟨rfl, rfl, rfl, Nat.le_refl _, fun _ _ => rfl⟩
  clear hR8 hW8
  go_wp2_with fail
  refine (wbytes_any _ _ _ r3 L9 hW9 (by decide)).mono ?_
  rintro e wa ⟨v, bs, rfl, hpk, hown, hba⟩
  obtain rfl := hpk.unique packs9
  obtain ⟨A, c, rfl, hA, hAn, _⟩ := hown.reads_len (n := 2) rfl
  have bela := bel9.trans (hba.mono bel9.size)
  have hRa := hR9.only (Only.of_below (S := []) hba) (by simp) (by simp)
  clear hR9 hW9 hown hba hpk
  go_wp2_with fail
  have hS : Bs (wa.alloc (.cells #[.int .u8 175, .int .u8 128] 5)) (wa.alloc (.cells #[.int .u8 175, .int .u8 128] 5)).heap.size (some ⟨wa.heap.size, 0, none⟩) [0xaf#8, 0x80#8] := Bs_new _ _ [0xaf#8, 0x80#8] _ rfl _ (by simp)
  have hA2 : Bs (wa.alloc (.cells #[.int .u8 175, .int .u8 128] 5)) (wa.alloc (.cells #[.int .u8 175, .int .u8 128] 5)).heap.size A [0xaf#8, 0x80#8] := (hA.below ((Below.refl _ _).alloc (Nat.le_refl _) _)).more (by simp)
  refine (same_any _ _ _ _ _ _ _ _ _ rfl rfl hA2 hS hAn (by simp)).mono ?_
  rintro e wb ⟨rfl, hwb⟩
  have hRb : RAt wb (w3.alloc (.cells #[.int .u8 175] 5)).heap.size q r4 [0xaf#8] 5 true := by
    rw [← hwb]
    exact hRa.only ((Only.refl [] wa).alloc (.cells #[.int .u8 175, .int .u8 128] 5)) (by simp) (by simp)
  have belb : Below w.heap.size w wb := by rw [← hwb]; exact bela.alloc bela.size _
  clear hwb hS hA2 hA hRa
  go_wp2_with fail
  refine (failed_any _ _ q r4 _ 5 true hRb).mono ?_
  rintro e wc ⟨rfl, rfl⟩
  go_wp2_with fail
  refine (left_as _ _ q r4 _ 5 true 0 hRb (by decide) (by decide +kernel)).mono ?_
  rintro e wc ⟨rfl, nc, rfl⟩
  have hRc := hRb.draws nc
  have belc : Below w.heap.size w (wb.drewN nc) := belb.trans ⟨rfl, rfl, rfl, Nat.le_refl _, fun _ _ => rfl⟩
  clear hRb
  go_wp2_with fail
  refine (get_as _ _ q r4 _ 5 true 0 0 5 true hRc (by decide) (by decide) (by decide +kernel) (by decide +kernel) (by decide +kernel)).mono ?_
  rintro e wd ⟨rfl, hRd, hOd⟩
  have beld := belc.trans (hOd.below (B := w.heap.size) belc.size (by simp; omega))
  clear hRc hRd hOd
  go_wp2_with fail
  go_ret
  exact ⟨rfl, beld⟩
end Go.Proofs.Ytgomkhllhpghmab
