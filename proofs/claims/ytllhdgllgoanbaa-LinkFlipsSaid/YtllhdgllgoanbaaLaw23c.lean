/-
  The walk of the law LinkFlips.
-/
import Derived.Test.YtllhdgllgoanbaaLaw23a
namespace Go.Proofs.Ytllhdgllgoanbaa.Lnk
open Go.RowKit Go.Proofs.Ytllhdgllgoanbaa.Row
open Rng (R)

def flC (fl : List R) : Cf := ⟨0, [], [], fl⟩
theorem flC_snd (fl : List R) (b : List Byte) : snd (flC fl) 0 b s0 = ⟨0, 1, [(0, dmg fl 0 b)]⟩ := rfl
theorem flC_rcS (D : List Byte) : rcS 0 ⟨0, 1, [(0, D)]⟩ = ⟨0, 1, []⟩ := rfl
theorem flC_rcO (D : List Byte) : rcO 0 ⟨0, 1, [(0, D)]⟩ = [D] := rfl
theorem dmg_one {b : List Byte} {n : Nat} (B : Nat) (hn : b.length = n) (h0 : 0 < n) : dmg [(0, (B : Int))] 0 b = fb b (B % (8 * n)) := by
  rw [dmg_1 (by omega)]
  show fl1 0 b (0, (B : Int)) = _
  unfold fl1
  rw [if_pos rfl, hn]
  rfl
theorem dmg_two {b : List Byte} {n : Nat} (B : Nat) (hn : b.length = n) (h0 : 0 < n) : dmg [(0, (B : Int)), (0, (B : Int) + 8 * (n : Int))] 0 b = b := by
  rw [dmg_1 (by omega)]
  show fl1 0 (fl1 0 b (0, (B : Int))) (0, (B : Int) + 8 * (n : Int)) = _
  have e : fl1 0 b (0, (B : Int)) = fb b (B % (8 * n)) := by
    unfold fl1
    rw [if_pos rfl, hn]
    rfl
  rw [e]
  unfold fl1
  rw [if_pos rfl, fb_len, hn, show ((0 : Int), (B : Int) + 8 * (n : Int)).2.toNat = B + 8 * n by show ((B : Int) + 8 * (n : Int)).toNat = _; omega, Nat.add_mod_right]
  exact fb_fb b _

theorem shr_bit (y : Byte) (u : Nat) : ((y.toNat : Int) / 2 ^ u).tmod 2 = ((y.toNat / 2 ^ u % 2 : Nat) : Int) := by
  rw [show (y.toNat : Int) / 2 ^ u = ((y.toNat / 2 ^ u : Nat) : Int) by rw [Int.natCast_ediv, Int.natCast_pow]; rfl]
  generalize y.toNat / 2 ^ u = v
  rw [Int.tmod_eq_emod_of_nonneg (by omega)]
  rfl
theorem shr_bit2 (y : Byte) (u : Nat) : ((y.toNat : Int) / 2 ^ u) % 2 = ((y.toNat / 2 ^ u % 2 : Nat) : Int) := by
  rw [show (y.toNat : Int) / 2 ^ u = ((y.toNat / 2 ^ u : Nat) : Int) by rw [Int.natCast_ediv, Int.natCast_pow]; rfl]
  rfl
/-- how many bits of the first i bytes have turned -/
def cn (K i : Nat) : Nat := if K / 8 < i then 1 else 0
theorem cn_step {b : List Byte} {K i : Nat} {x y : Byte} (hx : b[i]? = some x) (hy : (fb b K)[i]? = some y) : cn K i + pc (y ^^^ x) 8 = cn K (i + 1) := by
  rw [fb_xor hx hy]
  unfold cn
  by_cases e : i = K / 8
  · rw [if_pos e, pc_mk _ (Nat.mod_lt _ (by decide)), if_neg (by omega), if_pos (by omega)]
  · rw [if_neg e, pc_0]
    by_cases h : K / 8 < i
    · rw [if_pos h, if_pos (by omega)]
    · rw [if_neg h, if_neg (by omega)]
set_option maxHeartbeats 8000000 in
set_option maxRecDepth 100000 in
theorem linkFlips_walk (a : Option Addr) (l : List Byte) (n k : Nat) (B : Nat) (w : World) (hB : B < 65536) (hl : Hid (l.length = n)) (hb : Bs w w.heap.size a l) (hnil : a = none → k = 0) :
    Calls Try.prog 5 #[.slice a n k, .int .u16 (B : Int)] w fun e w' => e = .returned (.bool true) ∧ Below w.heap.size w w' := by
  rcases Nat.eq_zero_or_pos n with h0 | h0
  · have t1 : ((n : Int) == 0) = true := by simp; omega
    subst h0
    clear hb
    go_enter Try.func5, Try.ntmps5
    go_wp2_with fail
    refine (alive_any _).mono ?_
    rintro e w1 ⟨rfl, b1⟩
    go_wp2
    go_ret
    exact ⟨rfl, b1⟩
  have t1 : ((n : Int) == 0) = false := by simp; omega
  by_cases h100 : 100 < n
  · have t2 : decide ((100 : Int) < (n : Int)) = true := by simp; omega
    have t2' : decide (100 < n) = true := by simpa using h100
    clear hb h100 h0
    go_enter Try.func5, Try.ntmps5
    go_wp2_with fail
    refine (alive_any _).mono ?_
    rintro e w1 ⟨rfl, b1⟩
    go_wp2
    go_ret
    exact ⟨rfl, b1⟩
  have t2 : decide ((100 : Int) < (n : Int)) = false := by simp; omega
  have t2' : decide (100 < n) = false := by simpa using h100
  have hn1 : n ≤ 100 := by omega
  have hD1 := dmg_one B hl.out h0
  have hD2 := dmg_two B hl.out h0
  obtain ⟨K, hK⟩ : ∃ K, K = B % (8 * n) := ⟨_, rfl⟩
  rw [← hK] at hD1
  have hK8 : K < 8 * n := by rw [hK]; exact Nat.mod_lt _ (by omega)
  obtain ⟨Q, hQ⟩ : ∃ Q : Int, Q = (B : Int) + 8 * (n : Int) := ⟨_, rfl⟩
  rw [← hQ] at hD2
  have hQ1 : (B : Int) + 8 * (n : Int) = Q := hQ.symm
  have hQw : wrap64 Q = Q := IntWalk.wrap64_in _ (by omega)
  have hB1 : (B : Int) < 65536 := by omega
  have hB0 : (0 : Int) ≤ (B : Int) := by omega
  have hok1 : (flC [(0, (B : Int))]).ok = true := by
    have e : decide ((B : Int) < 0) = false := by simp
    simp [Cf.ok, flC, loN, flN]
  have hok2 : (flC [(0, (B : Int)), (0, Q)]).ok = true := by
    have : ¬ Q < 0 := by omega
    simp [Cf.ok, flC, loN, flN]
    omega
  have l1 := Sl_new1 encR_ok w 57 (0, (B : Int)) #[I 0, I (B : Int)] rfl _ rfl
  have b1 := bel_new w (.cells #[I 0, I (B : Int)] 57)
  have hnew1 := PL.new (c := flC [(0, (B : Int))]) w b1 ⟨Sl_nil _, Sl_nil _, l1⟩ (by decide) (by decide) (by decide) hok1
  have HL := Lib.hid hb
  have HK := Lib.hid (And.intro hK hK8)
  have HD := Lib.hid (And.intro hD1 hD2)
  clear hK hK8 hD1 hD2 hok1 l1 h100 hQ hb b1
  go_enter Try.func5, Try.ntmps5
  go_wp2_with fail
  refine hnew1.mono ?_
  rintro e W1 ⟨g1, F1, rfl, p1, _, _⟩
  clear hnew1
  have l2 : Sl encR 2 (W1.alloc (.cells #[I 0, I (B : Int), I 0, I Q] 57)) (some ⟨W1.heap.size, 0, none⟩) 2 2 [(0, (B : Int)), (0, Q)] :=
    ⟨(Row.Rs_new encR_ok W1 _ [(0, (B : Int)), (0, Q)] _ rfl _ (by simp : W1.heap.size < W1.heap.size + 1)).more (by simp), rfl, (fun h => nomatch h), Nat.le_refl _, by decide⟩
  have q1 := p1.below (bel_new W1 (.cells #[I 0, I (B : Int), I 0, I Q] 57))
  have hnew2 := PL.new (c := flC [(0, (B : Int)), (0, Q)]) w q1.b ⟨Sl_nil _, Sl_nil _, l2⟩ (by decide) (by decide) (by decide) hok2
  clear p1 l2 hok2
  go_wp2_with fail
  refine hnew2.mono ?_
  rintro e W2 ⟨g2, F2, rfl, p2, b2, hF2⟩
  have p1 := q1.below b2
  have dis : ∀ x ∈ F1, x ∉ F2 := fun x hx hm => by have := (q1.lo x hx).2; have := hF2 x hm; omega
  clear hnew2 q1 b2 hF2
  go_wp2_with fail
  refine (PL.send p1 (by decide) hl.out (p1.bo_low HL.out) hnil (by omega) (now := 0) (s' := ⟨0, 1, [(0, fb l K)]⟩) (by rw [flC_snd, HD.out.1])).mono ?_
  rintro e W3 ⟨rfl, F1', p3, k3, h3⟩
  have p2' := p2.only k3 (p1.kq k3) (fun x hx => ⟨dis x hx, (p1.lo x hx).1⟩)
  have dis' : ∀ x ∈ F1', x ∉ F2 := fun x hx hm => (h3 x hx).elim (fun e => dis x e hm) (fun e => by have := (p2.lo x hm).2; omega)
  clear p1 p2 dis k3 h3
  go_wp2_with fail
  refine (PL.send p2' (by decide) hl.out (p2'.bo_low HL.out) hnil (by omega) (now := 0) (s' := ⟨0, 1, [(0, l)]⟩) (by rw [flC_snd, HD.out.2])).mono ?_
  rintro e W4 ⟨rfl, F2', p4, k4, h4⟩
  have p5 := p3.only k4 (p2'.kq k4) (fun x hx => ⟨fun hm => dis' x hm hx, (p2'.lo x hx).1⟩)
  have dis2 : ∀ x ∈ F1', x ∉ F2' := fun x hx hm => (h4 x hm).elim (fun e => dis' x hx e) (fun e => by have := (p3.lo x hx).2; omega)
  clear p2' p3 dis' k4 h4
  go_wp2_with fail
  refine (PL.recv p5 (by decide) (now := 0) (s' := ⟨0, 1, []⟩) (ls := [fb l K]) (flC_rcS _) (flC_rcO _)).mono ?_
  rintro e W5 ⟨v5, rfl, l5, p6, k6⟩
  obtain ⟨A1, c1, rfl, _⟩ := l5.len (n := 1) rfl
  have p7 := p4.only k6 (p5.kq k6) (fun x hx => ⟨dis2 x hx, (p5.lo x hx).1⟩)
  have o5 : ∀ i, (Value.slice A1 1 c1).ownBlock = some i → i ∉ F2' := l5.off p4
  clear p4 p5 k6 dis2
  go_wp2_with fail
  refine (PL.recv p7 (by decide) (now := 0) (s' := ⟨0, 1, []⟩) (ls := [l]) (flC_rcS _) (flC_rcO _)).mono ?_
  rintro e W6 ⟨v6, rfl, l6, p8, k8⟩
  obtain ⟨A2, c2, rfl, hs2, _⟩ := l6.len (n := 1) rfl
  have m5 := (l5.past o5 p7 k8 (F' := F2') (fun x hx => .inl hx)).1
  obtain ⟨_, _, e1, hs1, _⟩ := m5.len (n := 1) rfl
  injection e1 with e1 _ e2
  subst e1 e2
  have HBW := Lib.hid p8.b
  clear l5 o5 p6 p7 p8 k8 l6 m5
  obtain ⟨b1, o1, a1, k1, rfl, hb1, u1, d1⟩ := hs1.at_ (i := 0) rfl
  obtain ⟨b2, o2, a2, k2, rfl, hb2, u2, d2⟩ := hs2.at_ (i := 0) rfl
  rw [fb_len, hl.out] at u1
  rw [hl.out] at u2
  rw [Nat.add_zero] at u1 u2
  have hbw := (HL.out.below HBW.out).more HBW.out.size
  clear hs1 hs2
  have e1 : ((str l).toList != (str l).toList) = false := by simp
  have en : ((n : Int) != (n : Int)) = false := by simp
  have r1 : ∀ p : Later W6, p.W.cell? ⟨b1, o1, none⟩ = some (.slice a1 n k1) := later_cell u1 hb1
  have r2 : ∀ p : Later W6, p.W.cell? ⟨b2, o2, none⟩ = some (.slice a2 n k2) := later_cell u2 hb2
  have q1 : ∀ p : Later W6, (convert 39 9 (.slice a n k)).run Try.prog p.W = .ok (.string (str l)) p.W := conv_later hl.out hbw hnil
  have q2 : ∀ p : Later W6, (convert 39 9 (.slice a2 n k2)).run Try.prog p.W = .ok (.string (str l)) p.W := conv_later hl.out d2.b d2.n
  go_wp2_with fail
  refine wp_region_later (by kernel_rfl) (by kernel_rfl) ?_
  repeat (go_big_quiet_step (fail))
  refine wpQuiet_nil ?_
  rintro W7 ⟨p7, hp7⟩
  have b7 : Below W6.heap.size W6 W7 := by rw [hp7]; exact p7.h
  clear p7 hp7 q1 q2 r2 u2 d2 hb2 e1 en
  have hbd := d1.b
  have HF := Lib.hid (fb_len l K)
  clear d1
  go_wp2_with fail
  go_loopw [11, 12, 13, 14] (fun mv iv _ _ wr => ∃ i : Nat, iv = .int .i64 (i : Int) ∧ i ≤ n ∧ mv = .int .i64 ((cn K i : Nat) : Int) ∧ Below W6.heap.size W6 wr) (fun _ iv _ _ _ => n - (intOf iv).toNat)
  case atStart => exact ⟨0, rfl, Nat.zero_le _, by unfold cn; rw [if_neg (by omega)]; rfl, b7⟩
  case round =>
    obtain ⟨i, rfl, hi, rfl, hBr⟩ := hrel
    have u1' : wr.cell? ⟨b1, o1, none⟩ = some (.slice a1 n k1) := (hBr.cell (p := ⟨b1, o1, none⟩) hb1).trans u1
    clear b7
    by_cases hin : i < n
    · obtain ⟨x, hx0⟩ : ∃ x, l[i]? = some x := ⟨_, List.getElem?_eq_getElem (by rw [hl.out]; exact hin)⟩
      obtain ⟨y, hy0⟩ : ∃ y, (fb l K)[i]? = some y := ⟨_, List.getElem?_eq_getElem (by rw [HF.out, hl.out]; exact hin)⟩
      obtain ⟨bx, ox, rfl, hbx, ex⟩ := hbw (by rw [hl.out]; omega)
      have ex := ex i x hx0
      obtain ⟨by_, oy, rfl, hby, ey⟩ := hbd (by rw [HF.out, hl.out]; omega)
      have ey := ey i y hy0
      have HST := Lib.hid (cn_step hx0 hy0)
      have ex' := (hBr.cell (p := ⟨bx, ox + i, none⟩) hbx).trans ex
      have ey' := (hBr.cell (p := ⟨by_, oy + i, none⟩) hby).trans ey
      obtain ⟨z, hz⟩ : ∃ z, z = y ^^^ x := ⟨_, rfl⟩
      have hxz := xor_b y x
      rw [← hz] at hxz HST
      obtain ⟨C, hC⟩ : ∃ C, C = cn K i := ⟨_, rfl⟩
      have hC1 : C ≤ 1 := by rw [hC]; unfold cn; split <;> omega
      rw [← hC] at HST ⊢
      have hiN : (i : Int) < (n : Int) := by omega
      have HB2 := Lib.hid hBr
      clear hz hC hx0 hy0 ex ey hbw hbd u1 hBr
      go_wp2_with fail
      go_quiet (fail)
      have HB3 : Hid (Below W6.heap.size W6 (wr.drewN nq)) := Lib.hid (HB2.out.trans (drewN_below _ _))
      obtain ⟨wq, hwq⟩ : ∃ wq, wq = wr.drewN nq := ⟨_, rfl⟩
      rw [← hwq] at HB3 ⊢
      clear hwq ex' ey' u1' hxz
      go_wp2_with fail
      go_loop [11, 14] (fun mv kv => ∃ k2 : Nat, kv = .int .i64 (k2 : Int) ∧ k2 ≤ 8 ∧ mv = .int .i64 ((C + pc z k2 : Nat) : Int)) (fun _ kv => 8 - (intOf kv).toNat)
      case atStart => exact ⟨0, rfl, by omega, rfl⟩
      case round =>
        obtain ⟨k3, rfl, hk3, rfl⟩ := hrel
        by_cases hk8 : k3 < 8
        · have s1 := shr_bit z k3
          have s2 := shr_bit2 z k3
          have hpc := pc_le z k3
          have HPS : Hid (pc z (k3 + 1) = pc z k3 + z.toNat / 2 ^ k3 % 2) := Lib.hid rfl
          obtain ⟨bt, hbt⟩ : ∃ bt, bt = z.toNat / 2 ^ k3 % 2 := ⟨_, rfl⟩
          rw [← hbt] at s1 s2 HPS
          have hbt1 : bt ≤ 1 := by rw [hbt]; omega
          obtain ⟨P, hP⟩ : ∃ P, P = C + pc z k3 := ⟨_, rfl⟩
          have HP : Hid (C + pc z (k3 + 1) = P + bt) := Lib.hid (by rw [HPS.out, hP]; omega)
          rw [← hP]
          have hP9 : P ≤ 9 := by omega
          have hk0 : (0 : Int) ≤ (k3 : Int) := by omega
          have hk64 : (k3 : Int) < 8 := by omega
          clear hbt hP hpc HPS
          go_wp2
          go_round
          case rel => exact ⟨k3 + 1, by go_num, hk8, by rw [HP.out]; go_num⟩
          case measure => simp [intOf]; omega
        · obtain rfl : k3 = 8 := by omega
          rw [HST.out]
          clear hk8 hk3
          go_wp2
          go_roundw
          case rel => exact ⟨i + 1, by go_num, hin, rfl, HB3.out⟩
          case measure => simp [intOf]; omega
    · obtain rfl : i = n := by omega
      have hK1 := HK.out.1
      have hK8 := HK.out.2
      obtain ⟨J1, hJ1⟩ : ∃ J1, J1 = K / 8 := ⟨_, rfl⟩
      have hJn : J1 < i := by omega
      rw [show cn K i = 1 by unfold cn; rw [← hJ1, if_pos hJn]]
      obtain ⟨x, hx0⟩ : ∃ x, l[J1]? = some x := ⟨_, List.getElem?_eq_getElem (by rw [hl.out]; exact hJn)⟩
      obtain ⟨y, hy0⟩ : ∃ y, (fb l K)[J1]? = some y := ⟨_, List.getElem?_eq_getElem (by rw [HF.out, hl.out]; exact hJn)⟩
      obtain ⟨bx, ox, rfl, hbx, ex⟩ := hbw (by rw [hl.out]; omega)
      have ex := ex J1 x hx0
      obtain ⟨by_, oy, rfl, hby, ey⟩ := hbd (by rw [HF.out, hl.out]; omega)
      have ey := ey J1 y hy0
      have hxy := fb_xor hx0 hy0
      rw [if_pos hJ1] at hxy
      have hne : ((y.toNat : Int) != (x.toNat : Int)) = true := by
        have : y ≠ x := fun e => by
          subst e
          rw [BitVec.xor_self] at hxy
          exact mk_ne _ (Nat.mod_lt _ (by decide)) hxy.symm
        simp only [bne_iff_ne, ne_eq]
        intro e
        exact this (BitVec.eq_of_toNat_eq (by omega))
      have t1 : (B : Int).tmod (8 * (i : Int)) = (K : Int) := by rw [hK1, Int.tmod_eq_emod_of_nonneg (by omega)]; simp
      have t2 : (B : Int) % (8 * (i : Int)) = (K : Int) := by rw [hK1]; simp
      have t3 : (K : Int) / 8 = (J1 : Int) := by omega
      have t4 : (K : Int).tdiv 8 = (J1 : Int) := by rw [Int.tdiv_eq_ediv_of_nonneg (by omega)]; omega
      have t7 : (J1 : Int) < (i : Int) := by omega
      have t8 : ¬ 8 * (i : Int) = 0 := by omega
      have hn8 : (0 : Int) < 8 * (i : Int) := by omega
      have hbW := HBW.out
      have hB6 : Below w.heap.size w wr := hbW.trans (hBr.mono hbW.size)
      have ex' := (hBr.cell (p := ⟨bx, ox + J1, none⟩) hbx).trans ex
      have ey' := (hBr.cell (p := ⟨by_, oy + J1, none⟩) hby).trans ey
      have r1 : ∀ p : Later wr, p.W.cell? ⟨b1, o1, none⟩ = some (.slice (some ⟨by_, oy, none⟩) i k1) := later_cell u1' (Nat.lt_of_lt_of_le hb1 hBr.size)
      have r2 : ∀ p : Later wr, p.W.cell? ⟨by_, oy + J1, none⟩ = some (B8 y) := later_cell ey' (Nat.lt_of_lt_of_le hby hBr.size)
      have r3 : ∀ p : Later wr, p.W.cell? ⟨bx, ox + J1, none⟩ = some (B8 x) := later_cell ex' (Nat.lt_of_lt_of_le hbx hBr.size)
      have ha := fun p : Later wr => later_of (p := p) (alive_any p.W)
      have HB6 := Lib.hid hB6
      clear hK1 hK8 hJ1 hx0 hy0 ex ey hbw hbd u1 u1' hbW hB6 ex' ey' hxy hBr
      go_wp2_with fail
      refine wp_region_later (by kernel_rfl) (by kernel_rfl) ?_
      repeat (go_big_quiet_step (first | (go_at_call 8; exact ha _)))
      refine wpQuiet_nil ?_
      rintro W9 ⟨p9, hp9⟩
      have b9 : Below wr.heap.size wr W9 := by rw [hp9]; exact p9.h
      clear p9 hp9
      go_wp2
      go_ret
      exact ⟨rfl, HB6.out.trans (b9.mono HB6.out.size)⟩
end Go.Proofs.Ytllhdgllgoanbaa.Lnk
