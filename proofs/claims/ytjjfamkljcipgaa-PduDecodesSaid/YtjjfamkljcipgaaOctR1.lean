/-
  The walks of package octets' Reader: Uint, parse, unfold, Int, Count, Blob.
-/
import Derived.Test.YtjjfamkljcipgaaOctR0
import Derived.Laws.DeepNot64
namespace Go.Proofs.Ytjjfamkljcipgaa
open Go.RowKit

theorem or_byte (a : Nat) (x : Byte) (h : a < 72057594037927936) : bits .or .u64 (IntKind.u64.wrap ((a : Int) * 256)) (x.toNat : Int) = ((a * 256 + x.toNat : Nat) : Int) := by
  have hx := x.isLt
  have e1 : IntKind.u64.wrap ((a : Int) * 256) = ((2 ^ 8 * a : Nat) : Int) := by rw [wrap64]; omega
  rw [e1, u64_or_nat _ _ (by omega) (by omega), ← Nat.two_pow_add_eq_or_of_lt hx]
  omega

set_option maxHeartbeats 1000000 in
theorem oruint_ok (w : World) (B g : Nat) (l : List Byte) (k : Nat) (h : OR w B g (some l)) (hk1 : 1 ≤ k) (hk8 : k ≤ 8) (hkl : k ≤ l.length) (hL : l.length < 1000000) :
    Calls Try.prog 66 #[.pointer (some ⟨g, 0, none⟩), .int .i64 (k : Int)] w fun e w' => e = .returned (.int .u64 (beV (l.take k) : Int)) ∧ OR w' B g (some (l.drop k)) ∧ Only [g] w w' := by
  have hw := orWorks w B g _ h
  have hv := fun W => osize_any (k : Int) W
  have hd : decide (1 ≤ (k : Int) ∧ (k : Int) ≤ 8) = true := by simp; omega
  rw [hd] at hv
  have ht := orTake w B g l k (k : Int) rfl h hkl
  obtain ⟨A, m, c, hc, _, _, _, _, _, _, hm⟩ := h
  obtain rfl := hm l rfl
  have c2 := hc.cell 2
  simp at c2
  have hkI : ¬ ((m.length : Int) < (k : Int)) := by omega
  obtain ⟨T, hT⟩ : ∃ T, T = m.take k := ⟨_, rfl⟩
  rw [← hT] at ht ⊢
  have hTl : T.length = k := by rw [hT]; exact List.length_take_of_le hkl
  have HT := Lib.hid hTl
  clear hd hc hm hT hTl
  go_enter Try.func66, Try.ntmps66
  go_wp2_with (first
    | (go_at_call 60; refine hw.mono ?_; rintro e w' ⟨rfl, rfl⟩)
    | (go_at_call 46; refine (hv _).mono ?_; rintro e w1 ⟨rfl, rfl⟩)
    | (go_at_call 71; refine ht.mono ?_; rintro e w1 ⟨A1, c1, rfl, hb, hn, h1, h2, hR, hO⟩))
  clear hw hv ht hkI c2
  go_loop [5, 30] (fun t i => ∃ j : Nat, j ≤ k ∧ i = .int .i64 j ∧ t = .int .u64 (beV (T.take j) : Int)) (fun _ i => k - (intOf i).toNat)
  case atStart => exact ⟨0, Nat.zero_le _, rfl, rfl⟩
  case round =>
    obtain ⟨j, hj, rfl, rfl⟩ := hrel
    by_cases hlt : j < k
    · obtain ⟨b, off, rfl, _, hcc⟩ := hb.at_ (k := j) (by have := HT.out; omega)
      have HS : Hid (beV (T.take (j + 1)) = beV (T.take j) * 256 + (T[j]'(by have := HT.out; omega)).toNat) := beV_take T j _ (List.getElem?_eq_getElem _)
      have hv : beV (T.take j) < 72057594037927936 := by
        have h1 := beV_lt (T.take j)
        have h2 : (T.take j).length ≤ 7 := by rw [List.length_take]; omega
        have h3 : 256 ^ (T.take j).length ≤ 256 ^ 7 := Nat.pow_le_pow_right (by decide) h2
        omega
      have HB := Lib.hid (or_byte (beV (T.take j)) (T[j]'(by have := HT.out; omega)) hv)
      clear hv
      go_wp2
      go_round
      case rel => exact ⟨j + 1, by omega, by go_num, val_int (by rw [HS.out]; exact HB.out)⟩
      case measure => simp [intOf]; omega
    · go_wp2
      go_ret
      exact ⟨ret_int (by rw [List.take_of_length_le (by have := HT.out; omega)]), hR, hO⟩

theorem OR.flag {w : World} {B g : Nat} {st : Option (List Byte)} (h : OR w B g st) : w.frozen? ⟨g, 1, none⟩ = false ∧ w.cell? ⟨g, 1, none⟩ = some (.bool st.isNone) := by
  obtain ⟨A, m, c, hc, _⟩ := h
  have c1 := hc.cell 1
  simp at c1
  exact ⟨hc.free 1, c1⟩

set_option maxHeartbeats 1000000 in
theorem oruint_any (w : World) (B g : Nat) (st : Option (List Byte)) (size : Int) (h : OR w B g st) (hL : lftO st < 1000000) :
    Calls Try.prog 66 #[.pointer (some ⟨g, 0, none⟩), .int .i64 size] w fun e w' => e = .returned (.int .u64 ((rd 0 (fun l => tkU l size) st).1 : Int)) ∧ OR w' B g (rd 0 (fun l => tkU l size) st).2 ∧ Only [g] w w' := by
  have hw := orWorks w B g st h
  obtain ⟨f1, c1⟩ := h.flag
  cases st with
  | none =>
    have hb : rd 0 (fun l => tkU l size) none = (0, none) := rfl
    rw [hb]
    clear hb
    go_enter Try.func66, Try.ntmps66
    go_wp2_with (first
      | (go_at_call 60; refine hw.mono ?_; rintro e w' ⟨rfl, rfl⟩))
    go_ret
    exact ⟨rfl, h, Only.refl _ _⟩
  | some l =>
    have hl : l.length < 1000000 := hL
    by_cases hs : 1 ≤ size ∧ size ≤ 8
    · by_cases hsl : size ≤ (l.length : Int)
      · obtain ⟨k, rfl⟩ := Int.eq_ofNat_of_zero_le (show 0 ≤ size by omega)
        have hb : tkU l (k : Int) = some (beV (l.take k), k) := by unfold tkU; rw [if_pos ⟨hs.1, hs.2, hsl⟩, Int.toNat_natCast]
        rw [rd_ok hb]
        exact oruint_ok w B g l k h (by omega) (by omega) (by omega) hl
      · have hb : tkU l size = none := by unfold tkU; rw [if_neg (by omega)]
        rw [rd_bad hb]
        have hv := fun W => osize_any size W
        rw [decide_eq_true hs] at hv
        have hfail := h.failed
        obtain ⟨A, m, c, hc, _, _, _, _, _, _, hm⟩ := h
        obtain rfl := hm l rfl
        have c2 := hc.cell 2
        simp at c2
        have hsl2 : (m.length : Int) < size := by omega
        clear hc hm hb hs hsl
        go_enter Try.func66, Try.ntmps66
        go_wp2_with (first
          | (go_at_call 60; refine hw.mono ?_; rintro e w' ⟨rfl, rfl⟩)
          | (go_at_call 46; refine (hv _).mono ?_; rintro e w1 ⟨rfl, rfl⟩))
        go_ret
        exact ⟨rfl, hfail, (Only.refl _ _).put (.inl (by simp)) _⟩
    · have hb : tkU l size = none := by unfold tkU; rw [if_neg (by omega)]
      rw [rd_bad hb]
      have hv := fun W => osize_any size W
      rw [decide_eq_false hs] at hv
      have hfail := h.failed
      clear hb hs
      go_enter Try.func66, Try.ntmps66
      go_wp2_with (first
        | (go_at_call 60; refine hw.mono ?_; rintro e w' ⟨rfl, rfl⟩)
        | (go_at_call 46; refine (hv _).mono ?_; rintro e w1 ⟨rfl, rfl⟩))
      go_ret
      exact ⟨rfl, hfail, (Only.refl _ _).put (.inl (by simp)) _⟩

/-! ### parse -/
theorem low7 (x : Byte) : bits .andNot .u8 (x.toNat : Int) 128 = ((x.toNat % 128 : Nat) : Int) := by
  have h : ∀ m : Fin 256, bits .andNot .u8 ((m.val : Nat) : Int) 128 = ((m.val % 128 : Nat) : Int) := by decide +kernel
  exact h ⟨x.toNat, x.isLt⟩

theorem dec_step (i acc : Nat) (l : List Byte) (x : Byte) (hx : l[i]? = some x) :
    decF i acc (l.drop i) = if 18446744073709551616 ≤ acc + x.toNat % 128 * 128 ^ i then none else if 128 ≤ x.toNat then decF (i + 1) (acc + x.toNat % 128 * 128 ^ i) (l.drop (i + 1)) else if x.toNat = 0 ∧ 0 < i then none else some (acc + x.toNat % 128 * 128 ^ i, i + 1) := by
  have hi := (List.getElem?_eq_some_iff.1 hx).1
  have he := (List.getElem?_eq_some_iff.1 hx).2
  rw [List.drop_eq_getElem_cons hi, he]
  rfl

theorem shift_facts (G k acc : Nat) (ha : acc < 128 ^ k) (ha64 : acc < 18446744073709551616) :
    ∃ P Q : Nat, P = G * 2 ^ min (7 * k) 64 % 18446744073709551616 ∧ Q = P / 2 ^ min (7 * k) 64 ∧ (18446744073709551616 ≤ acc + G * 128 ^ k → Q ≠ G) ∧ (¬ 18446744073709551616 ≤ acc + G * 128 ^ k → Q = G ∧ acc ||| P = acc + G * 128 ^ k ∧ P < 18446744073709551616) := by
  have e128 : (128 : Nat) ^ k = 2 ^ (7 * k) := by rw [Nat.pow_mul]
  refine ⟨_, _, rfl, rfl, ?_⟩
  rw [e128] at ha ⊢
  rcases Nat.lt_or_ge 64 (7 * k) with hk | hk
  · rw [Nat.min_eq_right (by omega)]
    have hbig : 18446744073709551616 ≤ 2 ^ (7 * k) := (Nat.pow_le_pow_right (by decide) (by omega) : 2 ^ 64 ≤ 2 ^ (7 * k))
    rcases Nat.eq_zero_or_pos G with rfl | hG
    · simp
      omega
    · have hP : G * 2 ^ 64 % 18446744073709551616 = 0 := Nat.mul_mod_left _ _
      rw [hP]
      have h1 : 2 ^ (7 * k) ≤ G * 2 ^ (7 * k) := Nat.le_mul_of_pos_left _ hG
      refine ⟨fun _ => by omega, fun h => absurd (show 18446744073709551616 ≤ acc + G * 2 ^ (7 * k) by omega) h⟩
  · rw [Nat.min_eq_left hk]
    generalize hm : 7 * k = m at *
    have hMD : (18446744073709551616 : Nat) = 2 ^ m * 2 ^ (64 - m) := by rw [← Nat.pow_add, show m + (64 - m) = 64 by omega]
    have hM : 0 < 2 ^ m := Nat.two_pow_pos m
    have hP : G * 2 ^ m % 18446744073709551616 = 2 ^ m * (G % 2 ^ (64 - m)) := by rw [hMD, Nat.mul_comm G, Nat.mul_mod_mul_left]
    rw [hP, Nat.mul_div_cancel_left _ hM]
    by_cases hD : G < 2 ^ (64 - m)
    · rw [Nat.mod_eq_of_lt hD]
      have h1 : (G + 1) * 2 ^ m ≤ 2 ^ m * 2 ^ (64 - m) := by rw [Nat.mul_comm]; exact Nat.mul_le_mul_left _ hD
      rw [← hMD, Nat.add_mul, Nat.one_mul] at h1
      refine ⟨fun h => by omega, fun _ => ⟨rfl, ?_, by rw [Nat.mul_comm]; omega⟩⟩
      rw [Nat.or_comm, ← Nat.two_pow_add_eq_or_of_lt ha, Nat.mul_comm G]
      omega
    · have h1 : 2 ^ m * 2 ^ (64 - m) ≤ G * 2 ^ m := by rw [Nat.mul_comm]; exact Nat.mul_le_mul_right _ (by omega)
      rw [← hMD] at h1
      have h2 := Nat.mod_lt G (Nat.two_pow_pos (64 - m))
      exact ⟨fun _ => by omega, fun h => absurd (show 18446744073709551616 ≤ acc + G * 2 ^ m by omega) h⟩

theorem shl_eq (G k P : Nat) (hP : P = G * 2 ^ min (7 * k) 64 % 18446744073709551616) : Op.shift .shl .u64 (G : Int) .i64 (7 * (k : Int)) = pure (.int .u64 (P : Int)) := by
  rw [shift_shl_any _ _ _ _ (by omega), wrap64, show (7 * (k : Int)).toNat = 7 * k by omega, hP, Int.natCast_emod, Int.natCast_mul, Int.natCast_pow]
  rfl
theorem shr_eq (P k Q : Nat) (hQ : Q = P / 2 ^ min (7 * k) 64) : Op.shift .shr .u64 (P : Int) .i64 (7 * (k : Int)) = pure (.int .u64 (Q : Int)) := by
  rw [shift_shr_any _ _ _ _ (by omega), show (7 * (k : Int)).toNat = 7 * k by omega, hQ, Int.natCast_ediv, Int.natCast_pow]
  rfl

def prsV (R : Option (Nat × Nat)) : Nat × Nat := R.getD (0, 0)

set_option maxHeartbeats 2000000 in
theorem parse_any (A : Option Addr) (l : List Byte) (c B : Nat) (w : World) (hb : Bs w B A l) (hm : l.length < 1000000) :
    Calls Try.prog 72 #[.slice A l.length c] w fun e w' => e = .returned (.tuple #[.int .u64 ((prsV (dec l)).1 : Int), .int .i64 ((prsV (dec l)).2 : Int)]) ∧ w = w' := by
  obtain ⟨R, hR⟩ : ∃ R, R = dec l := ⟨_, rfl⟩
  rw [← hR]
  have HR : Hid (decF 0 0 (l.drop 0) = R) := hR.symm
  clear hR
  go_enter Try.func72, Try.ntmps72
  go_wp2
  go_loop [4, 11] (fun t i => ∃ k acc : Nat, k ≤ l.length ∧ i = .int .i64 k ∧ t = .int .u64 (acc : Int) ∧ acc < 128 ^ k ∧ acc < 18446744073709551616 ∧ Hid (decF k acc (l.drop k) = R)) (fun _ i => l.length - (intOf i).toNat)
  case atStart => exact ⟨0, 0, Nat.zero_le _, rfl, rfl, by decide, by decide, HR⟩
  case round =>
    obtain ⟨k, acc, hk, rfl, rfl, ha, ha64, hd⟩ := hrel
    by_cases hlt : k < l.length
    · obtain ⟨b, off, rfl, _, hcc⟩ := hb.at_ hlt
      have hst := dec_step k acc l l[k] (List.getElem?_eq_getElem hlt)
      rw [hd.out] at hst
      obtain ⟨x, hx⟩ : ∃ x, x = l[k] := ⟨_, rfl⟩
      rw [← hx] at hcc hst
      obtain ⟨G, hG⟩ : ∃ G, G = x.toNat % 128 := ⟨_, rfl⟩
      have hlow := low7 x
      rw [← hG] at hlow hst
      obtain ⟨P, Q, hP, hQ, hbad, hgood⟩ := shift_facts G k acc ha ha64
      have hshl := shl_eq G k P hP
      have hshr := shr_eq P k Q hQ
      have hG8 : G < 128 := by omega
      have hxb : x.toNat < 256 := x.isLt
      by_cases c1 : 18446744073709551616 ≤ acc + G * 128 ^ k
      · have hQG := hbad c1
        have t1 : ((Q : Int) != (G : Int)) = true := by simp; omega
        rw [if_pos c1] at hst
        subst hst
        clear hG ha hx hP hQ hbad hgood hd hQG c1
        go_wp2
        go_ret2
        exact ⟨rfl, rfl⟩
      · obtain ⟨rfl, hor, hP64⟩ := hgood c1
        rw [if_neg c1] at hst
        obtain ⟨N, hN⟩ : ∃ N, N = acc + Q * 128 ^ k := ⟨_, rfl⟩
        rw [← hN] at hst hor c1
        have hor2 : bits .or .u64 (acc : Int) (P : Int) = (N : Int) := by rw [u64_or_nat _ _ ha64 hP64, hor]
        have hN1 : N < 128 ^ (k + 1) := by
          have h1 : (Q + 1) * 128 ^ k ≤ 128 * 128 ^ k := Nat.mul_le_mul_right _ (by omega)
          rw [Nat.add_mul, Nat.one_mul] at h1
          rw [Nat.pow_succ, hN]
          omega
        have HN := Lib.hid hN1
        have HC := Lib.hid c1
        have HO := Lib.hid hor2
        by_cases c2 : 128 ≤ x.toNat
        · have t2 : (128 : Int) ≤ (x.toNat : Int) := by omega
          rw [if_pos c2] at hst
          have HST := Lib.hid hst.symm
          clear hG ha hx hP hQ hbad hgood hd hN hN1 c1 c2 hor hor2 hst hP64
          go_wp2
          go_round
          case rel => exact ⟨k + 1, N, by omega, by go_num, val_int HO.out, HN.out, by have := HC.out; omega, HST⟩
          case measure => simp [intOf]; omega
        · have t2 : decide ((128 : Int) ≤ (x.toNat : Int)) = false := by simp; omega
          rw [if_neg c2] at hst
          by_cases c3 : x.toNat = 0 ∧ 0 < k
          · rw [if_pos c3] at hst
            subst hst
            have t3 : ((x.toNat : Int) == 0) = true := by simp; omega
            have t4 : (0 : Int) < (k : Int) := by omega
            clear hG ha hx hP hQ hbad hgood hd hN hN1 c1 c2 c3 hor hor2 hP64
            go_wp2
            go_ret2
            exact ⟨rfl, rfl⟩
          · rw [if_neg c3] at hst
            subst hst
            by_cases c4 : x.toNat = 0
            · have t3 : ((x.toNat : Int) == 0) = true := by simp; omega
              have t4 : decide (0 < k) = false := by simp; omega
              clear hG ha hx hP hQ hbad hgood hd hN hN1 c1 c2 c3 c4 hor hor2 hP64
              go_wp2
              go_ret2
              refine ⟨?_, rfl⟩
              show Ending.returned (.tuple #[.int .u64 (bits .or .u64 (acc : Int) (P : Int)), .int .i64 ((k : Int) + 1)]) = _
              rw [HO.out]
              rfl
            · have t3 : ((x.toNat : Int) == 0) = false := by simp; omega
              clear hG ha hx hP hQ hbad hgood hd hN hN1 c1 c2 c3 c4 hor hor2 hP64
              go_wp2
              go_ret2
              refine ⟨?_, rfl⟩
              show Ending.returned (.tuple #[.int .u64 (bits .or .u64 (acc : Int) (P : Int)), .int .i64 ((k : Int) + 1)]) = _
              rw [HO.out]
              rfl
    · have hk2 : k = l.length := by omega
      have hnone : R = none := by rw [← hd.out, hk2, List.drop_length]; rfl
      subst hnone
      go_wp2
      go_ret2
      exact ⟨rfl, rfl⟩

set_option maxHeartbeats 1000000 in
theorem unfold_any (z : Nat) (w : World) (hz : z < 18446744073709551616) :
    Calls Try.prog 73 #[.int .u64 (z : Int)] w fun e w' => e = .returned (.int .i64 (unzig z)) ∧ w = w' := by
  have hand : bits .and .u64 (z : Int) 1 = ((z % 2 : Nat) : Int) := by
    have := u64_and_nat z 1 hz (by decide)
    rw [Nat.and_one_is_mod] at this
    exact this
  by_cases h : z % 2 = 1
  · have t1 : ((bits .and .u64 (z : Int) 1) != 0) = true := by rw [hand, h]; rfl
    have hu : unzig z = -((z / 2 : Nat) : Int) - 1 := by unfold unzig; rw [if_pos h]
    have hn := Lib.hid (i64_not (z / 2) (by omega))
    rw [hu]
    clear hu h hand
    go_enter Try.func73, Try.ntmps73
    go_wp2
    go_ret
    exact ⟨ret_int (by have := hn.out; rw [Int.natCast_ediv] at this; exact this.trans (by omega)), rfl⟩
  · have t1 : ((bits .and .u64 (z : Int) 1) != 0) = false := by rw [hand, show z % 2 = 0 by omega]; rfl
    have hu : unzig z = ((z / 2 : Nat) : Int) := by unfold unzig; rw [if_neg h]
    rw [hu]
    clear hu h hand
    go_enter Try.func73, Try.ntmps73
    go_wp2
    go_ret
    exact ⟨ret_int (by omega), rfl⟩

/-! ### the reader's integers -/
set_option maxHeartbeats 1000000 in
theorem orint_ok (w : World) (B g : Nat) (l : List Byte) (z k : Nat) (h : OR w B g (some l)) (hd : dec l = some (z, k)) (hL : l.length < 1000000) :
    Calls Try.prog 68 #[.pointer (some ⟨g, 0, none⟩)] w fun e w' => e = .returned (.int .i64 (unzig z)) ∧ OR w' B g (some (l.drop k)) ∧ Only [g] w w' := by
  have hw := orWorks w B g _ h
  have hk := dec_len hd
  have hz := (dec_some hd).1
  have ht := orTake w B g l k (k : Int) rfl h hk.2.2
  obtain ⟨A, m, c, hc, hb, _, _, _, _, _, hm⟩ := h
  obtain rfl := hm l rfl
  have hp := parse_any A m c B w hb hL
  rw [hd] at hp
  have hpv : prsV (some (z, k)) = (z, k) := rfl
  rw [hpv] at hp
  have c2 := hc.cell 2
  simp at c2
  have hk0 : ((k : Int) == 0) = false := by simp; omega
  clear hm hc hb hd hpv hk
  go_enter Try.func68, Try.ntmps68
  go_wp2_with (first
    | (go_at_call 60; refine hw.mono ?_; rintro e w' ⟨rfl, rfl⟩)
    | (go_at_call 72; refine hp.mono ?_; rintro e w' ⟨rfl, rfl⟩)
    | (go_at_call 71; refine ht.mono ?_; rintro e w1 ⟨A1, c1, rfl, _, _, _, _, hR, hO⟩)
    | (go_at_call 73; refine (unfold_any z _ hz).mono ?_; rintro e w2 ⟨rfl, rfl⟩))
  go_ret
  exact ⟨rfl, hR, hO⟩

set_option maxHeartbeats 1000000 in
theorem orint_bad (w : World) (B g : Nat) (l : List Byte) (h : OR w B g (some l)) (hd : dec l = none) (hL : l.length < 1000000) :
    Calls Try.prog 68 #[.pointer (some ⟨g, 0, none⟩)] w fun e w' => e = .returned (.int .i64 0) ∧ OR w' B g none ∧ Only [g] w w' := by
  have hw := orWorks w B g _ h
  obtain ⟨f1, c1⟩ := h.flag
  have hfail := h.failed
  obtain ⟨A, m, c, hc, hb, _, _, _, _, _, hm⟩ := h
  obtain rfl := hm l rfl
  have hp := parse_any A m c B w hb hL
  rw [hd] at hp
  have hpv : prsV none = (0, 0) := rfl
  rw [hpv] at hp
  have c2 := hc.cell 2
  simp at c2
  clear hm hc hb hd hpv
  go_enter Try.func68, Try.ntmps68
  go_wp2_with (first
    | (go_at_call 60; refine hw.mono ?_; rintro e w' ⟨rfl, rfl⟩)
    | (go_at_call 72; refine hp.mono ?_; rintro e w' ⟨rfl, rfl⟩))
  go_ret
  exact ⟨rfl, hfail, (Only.refl _ _).put (.inl (by simp)) _⟩

set_option maxHeartbeats 400000 in
theorem orint_dead (w : World) (B g : Nat) (h : OR w B g none) :
    Calls Try.prog 68 #[.pointer (some ⟨g, 0, none⟩)] w fun e w' => e = .returned (.int .i64 0) ∧ w = w' := by
  have hw := orWorks w B g _ h
  go_enter Try.func68, Try.ntmps68
  go_wp2_with (go_at_call 60; refine hw.mono ?_; rintro e w' ⟨rfl, rfl⟩)
  go_ret
  exact ⟨rfl, rfl⟩
set_option maxHeartbeats 400000 in
theorem orint_nil (w : World) : Calls Try.prog 68 #[.pointer none] w fun e w' => e = .returned (.int .i64 0) ∧ w = w' := by
  go_enter Try.func68, Try.ntmps68
  go_wp2_with (go_at_call 60; refine (or_works_nil _).mono ?_; rintro e w' ⟨rfl, rfl⟩)
  go_ret
  exact ⟨rfl, rfl⟩

theorem orint_any (w : World) (B g : Nat) (st : Option (List Byte)) (h : OR w B g st) (hL : lftO st < 1000000) :
    Calls Try.prog 68 #[.pointer (some ⟨g, 0, none⟩)] w fun e w' => e = .returned (.int .i64 (rd 0 tkI st).1) ∧ OR w' B g (rd 0 tkI st).2 ∧ Only [g] w w' := by
  cases st with
  | none => exact (orint_dead w B g h).mono fun e w' ⟨h1, h2⟩ => ⟨h1, h2 ▸ h, h2 ▸ Only.refl _ _⟩
  | some l =>
    cases hd : dec l with
    | none =>
      have ht : tkI l = none := by unfold tkI; rw [hd]; rfl
      rw [rd_bad ht]
      exact orint_bad w B g l h hd hL
    | some p =>
      obtain ⟨z, k⟩ := p
      have ht : tkI l = some (unzig z, k) := by unfold tkI; rw [hd]; rfl
      rw [rd_ok ht]
      exact orint_ok w B g l z k h hd hL

set_option maxHeartbeats 1000000 in
theorem orcount_any (w : World) (B g : Nat) (st : Option (List Byte)) (most : Int) (h : OR w B g st) (hL : lftO st < 1000000) :
    Calls Try.prog 74 #[.pointer (some ⟨g, 0, none⟩), .int .i64 most] w fun e w' => e = .returned (.int .i64 (rd 0 (fun l => tkC l most) st).1) ∧ OR w' B g (rd 0 (fun l => tkC l most) st).2 ∧ Only [g] w w' := by
  have hi := orint_any w B g st h hL
  have dead : (rd 0 tkI st).2 = none → (rd 0 (fun l => tkC l most) st) = (0, none) ∧ (rd 0 tkI st).1 = 0 := by
    intro hn
    cases st with
    | none => exact ⟨rfl, rfl⟩
    | some l =>
      cases ht : tkI l with
      | none => exact ⟨by rw [rd_bad (by unfold tkC; rw [ht]; rfl)], by rw [rd_bad ht]⟩
      | some p => rw [rd_ok ht] at hn; cases hn
  cases hs : (rd 0 tkI st).2 with
  | none =>
    obtain ⟨d1, d2⟩ := dead hs
    rw [d1]
    rw [hs, d2] at hi
    clear dead d1 d2 hs h
    go_enter Try.func74, Try.ntmps74
    go_wp2_with (first
      | (go_at_call 68; refine hi.mono ?_; rintro e w1 ⟨rfl, hR, hO⟩)
      | (go_at_call 60; refine (orWorks _ B g _ hR).mono ?_; rintro e w2 ⟨rfl, rfl⟩))
    go_ret
    exact ⟨rfl, hR, hO⟩
  | some m =>
    cases st with
    | none => cases hs
    | some l =>
      cases ht : tkI l with
      | none => rw [rd_bad ht] at hs; cases hs
      | some p =>
        obtain ⟨n, k⟩ := p
        rw [rd_ok ht] at hi
        by_cases hbad : n < 0 ∨ most < n
        · have hc : tkC l most = none := by unfold tkC; rw [ht]; simp [hbad]
          rw [rd_bad hc]
          clear dead hs h ht hc hL
          by_cases hn0 : n < 0
          · clear hbad
            go_enter Try.func74, Try.ntmps74
            go_wp2_with (first
              | (go_at_call 68; refine hi.mono ?_; rintro e w1 ⟨rfl, hR, hO⟩; obtain ⟨f1, c1⟩ := hR.flag)
              | (go_at_call 60; refine (orWorks _ B g _ hR).mono ?_; rintro e w2 ⟨rfl, rfl⟩))
            go_ret
            exact ⟨rfl, hR.failed, hO.put (.inl (by simp)) _⟩
          · have hn1 : decide (n < 0) = false := decide_eq_false hn0
            have hn2 : most < n := by omega
            clear hbad hn0
            go_enter Try.func74, Try.ntmps74
            go_wp2_with (first
              | (go_at_call 68; refine hi.mono ?_; rintro e w1 ⟨rfl, hR, hO⟩; obtain ⟨f1, c1⟩ := hR.flag)
              | (go_at_call 60; refine (orWorks _ B g _ hR).mono ?_; rintro e w2 ⟨rfl, rfl⟩))
            go_ret
            exact ⟨rfl, hR.failed, hO.put (.inl (by simp)) _⟩
        · have hc : tkC l most = some (n, k) := by unfold tkC; rw [ht]; simp [hbad]
          rw [rd_ok hc]
          have hn1 : decide (n < 0) = false := decide_eq_false (by omega)
          have hn2 : decide (most < n) = false := decide_eq_false (by omega)
          clear dead hs h ht hc hL hbad
          go_enter Try.func74, Try.ntmps74
          go_wp2_with (first
            | (go_at_call 68; refine hi.mono ?_; rintro e w1 ⟨rfl, hR, hO⟩)
            | (go_at_call 60; refine (orWorks _ B g _ hR).mono ?_; rintro e w2 ⟨rfl, rfl⟩))
          go_ret
          exact ⟨rfl, hR, hO⟩
end Go.Proofs.Ytjjfamkljcipgaa
