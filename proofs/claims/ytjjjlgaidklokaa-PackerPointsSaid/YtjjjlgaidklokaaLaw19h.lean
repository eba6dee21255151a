/-
  The law PackerPoints.
-/
import Derived.Test.YtjjjlgaidklokaaLaw19g
import Derived.Test.YtjjjlgaidklokaaRef10c
namespace Go.Proofs.Ytjjjlgaidklokaa.Pkr
open Go.RowKit
open Pac (bel_new siE siN xsize_any)

theorem pt_next {Z N na start : Nat} {l O fl I : List Byte} {s s' : PS} (hrs : s.rs = []) (hOI : O ++ s.wt = I) (hfl : nxF Z s = fl) (hs' : nxS Z s = s') (h : BD (pks l N) s.fb s.ls na start) (ho : ¬ start < na ∨ Z ≤ s.fb.length) :
    (s'.rs = [] ∧ (O ++ fl) ++ s'.wt = I ∧ BD (pks l N) s'.fb s'.ls (na + Z) start) ∨ s'.wt = [] := by
  subst hfl hs'
  by_cases hz : Z ≤ s.wt.length
  · obtain ⟨y1, y2, y3⟩ := keep_yes hrs hz
    obtain ⟨z1, z2⟩ := nxS_cut hrs hz
    exact .inl ⟨y2, by rw [y1, y3, List.append_assoc, List.take_append_drop, hOI], by rw [z1, z2]; exact h.next ho hz⟩
  · exact .inr (keep_last (Z := Z) hrs (by omega)).2
theorem pt_view {Z : Nat} {O fl I : List Byte} {s : PS} (hrs : s.rs = []) (hOI : O ++ s.wt = I) (hfl : nxF Z s = fl) : ∃ rest t, (O ++ fl) ++ rest = I ++ t := by
  subst hfl
  by_cases hz : Z ≤ s.wt.length
  · obtain ⟨y1, _, _⟩ := keep_yes hrs hz
    exact ⟨s.wt.drop Z, [], by rw [y1, List.append_assoc, List.take_append_drop, hOI, List.append_nil]⟩
  · obtain ⟨y1, _⟩ := keep_last (Z := Z) hrs (by omega)
    exact ⟨[], _, by rw [y1, ← List.append_assoc, hOI, List.append_nil]⟩

set_option maxRecDepth 100000 in
set_option maxHeartbeats 8000000 in
theorem packerPoints_ok (Z : Nat) (hZ1 : 1 ≤ Z) (hZ2 : Z ≤ 1012) (A : Option Addr) (l : List Byte) (N c : Nat) (w : World) (hl : Rd w A l N c) (hN : N ≤ 60) :
    Calls Try.prog 5 #[.int .i64 (Z : Int), .slice A N c] w fun e w' => e = .returned (.bool true) ∧ Below w.heap.size w w' := by
  have x0 := xright_any (Z : Int) w
  rw [decide_eq_true (show 1 ≤ (Z : Int) ∧ (Z : Int) ≤ 1012 by omega)] at x0
  have x1 := PL.new (r := 1048576) hZ1 hZ2 w
  have hrm : rm 1048576 = 1048576 := by decide
  rw [hrm] at x1
  have t1 : decide ((60 : Int) < (N : Int)) = false := by simp; omega
  have t1' : decide (60 < N) = false := by simp; omega
  have hNb := pks_len l N
  clear hrm
  go_enter Try.func5, Try.ntmps5
  go_wp2_with fail
  refine x0.mono ?_
  rintro e w1 ⟨rfl, rfl⟩
  go_wp2_with fail
  refine x1.mono ?_
  clear x0 x1
  rintro e w1 ⟨g, F1, rfl, P1⟩
  go_wp2_with fail
  go_loopw [6] (fun kv wr => ∃ (k : Nat) (F : List Nat), kv = .int .i64 (k : Int) ∧ PL w wr g F Z 1048576 ⟨[], [], pks l k⟩ ∧ k ≤ N) (fun kv _ => N - (intOf kv).toNat)
  case atStart => exact ⟨0, F1, rfl, P1, Nat.zero_le _⟩
  case round =>
    clear P1
    obtain ⟨k, F, rfl, P, hk⟩ := hrel
    by_cases hkN : k < N
    · obtain ⟨x, hx⟩ : ∃ x, l[k]? = some x := ⟨_, List.getElem?_eq_getElem (by rw [hl.len]; exact hkN)⟩
      obtain ⟨b, off, rfl, hb, hc⟩ := hl.at_ (by omega)
      have e1 := (P.b.cell (p := ⟨b, off + k, none⟩) hb).trans (hc k x hx)
      obtain ⟨X, hX⟩ : ∃ X, x.toNat = X := ⟨_, rfl⟩
      have hX255 : X ≤ 255 := by have := x.isLt; omega
      have xb := pbytes_any hx hX (show k < 256 by omega) wr
      rw [show B8 x = .int .u8 (X : Int) by rw [← hX]] at e1
      have k0 : (0 : Int) ≤ (k : Int) := by omega
      have k1 : (k : Int) ≤ 255 := by omega
      have k2 : (k : Int) < (N : Int) := by omega
      obtain ⟨nx, hnx⟩ : ∃ nx, (pq l k).length = nx := ⟨_, rfl⟩
      have hpush := ps_yes (R := 1048576) (s := ⟨[], [], pks l k⟩) (pq_pkt l k) (by
        have h1 := pks_len l k
        have h2 := pq_len l k
        have h3 := pq_bound l k
        show ¬ 1048576 < ([] ++ (pks l k).flatten).length + (pq l k).length
        rw [List.nil_append]
        omega)
      have hsucc := pks_succ l k
      have H := Lib.hid (And.intro hpush (And.intro hnx (And.intro hsucc hkN)))
      clear hx hc hX hpush hnx hsucc hk hkN
      go_wp2_with fail
      refine xb.mono ?_
      clear xb
      rintro e w2 ⟨v2, rfl, o2, b2⟩
      obtain ⟨Ax, cx, rfl, rx2⟩ := Rd.of o2 H.out.2.1
      have P2 := P.below b2
      clear P o2 b2 e1
      go_wp2_with fail
      refine (P2.push rx2 H.out.1.1 H.out.1.2).mono ?_
      rintro e w4 ⟨rfl, F4, P4, k4, n4⟩
      have P5 : PL w w4 g F4 Z 1048576 ⟨[], [], pks l (k + 1)⟩ := by rw [H.out.2.2.1]; exact P4
      clear P2 P4 k4 n4 rx2
      go_wp2
      go_roundw
      case rel => exact ⟨k + 1, F4, by go_num, P5, H.out.2.2.2⟩
      case measure => simp [intOf]; have := H.out.2.2.2; omega
    · obtain rfl : k = N := by omega
      have K0 := KP.start P
      have hwt : PS.wt ⟨[], [], pks l k⟩ = (pks l k).flatten := by unfold PS.wt; simp
      have hbd := BD.start (pks l k)
      obtain ⟨I, hI⟩ : ∃ I, (pks l k).flatten = I := ⟨_, rfl⟩
      rw [hI] at hNb hwt
      have HI := Lib.hid (And.intro hI (And.intro hNb (And.intro hwt hbd)))
      clear hkN P hI hNb hwt hbd
      go_wp2_with fail
      go_loopw [7, 8, 9] (fun sv ov nv wr => ∃ (F : List Nat) (s : PS) (nn start : Nat) (Aa : Option Addr) (na ca : Nat) (O : List Byte), nv = .int .i64 (nn : Int) ∧ sv = .int .i64 (start : Int) ∧ ov = .slice Aa na ca ∧ KP w wr g F Z 1048576 s (.slice none 0 0) (.slice Aa na ca) [] O ∧ O.length = na ∧ nn ≤ na ∧ na ≤ 40000 ∧ ((s.rs = [] ∧ O ++ s.wt = I ∧ BD (pks l k) s.fb s.ls na start) ∨ s.wt = [])) (fun _ _ nv _ => 20000 - (intOf nv).toNat)
      case atStart => exact ⟨F, _, 0, 0, none, 0, 0, [], rfl, rfl, rfl, K0, rfl, Nat.le_refl _, by omega, .inl ⟨rfl, HI.out.2.2.1, HI.out.2.2.2⟩⟩
      case round =>
        clear K0
        obtain ⟨F, s, nn, start, Aa, na, ca, O, rfl, rfl, rfl, K, hno, hnn, hna, hd⟩ := hrel
        obtain ⟨m, hm⟩ : ∃ m, s.wt.length = m := ⟨_, rfl⟩
        have xl := K.pl.left hm
        by_cases hw : 0 < m
        · obtain ⟨hrs, hOI, hbd⟩ : s.rs = [] ∧ O ++ s.wt = I ∧ BD (pks l k) s.fb s.ls na start := by
            rcases hd with h1 | h1
            · exact h1
            · rw [h1] at hm; simp at hm; omega
          have hlen := congrArg List.length hOI
          rw [List.length_append, hno, hm] at hlen
          have hlI := HI.out.2.1
          obtain ⟨fl, hfl⟩ : ∃ fl, nxF Z s = fl := ⟨_, rfl⟩
          obtain ⟨s', hs'⟩ : ∃ s', nxS Z s = s' := ⟨_, rfl⟩
          obtain ⟨P, hP⟩ : ∃ P, nxP Z s = P := ⟨_, rfl⟩
          have hPf := nxP_rs (Z := Z) hrs
          rw [hP] at hPf
          obtain ⟨fb, hfb⟩ : ∃ fb, s.fb.length = fb := ⟨_, rfl⟩
          rw [hfb] at hPf
          have hfm : fb ≤ m := by rw [← hfb, ← hm]; unfold PS.wt; rw [List.length_append]; omega
          have hflZ : Hid (fl.length = Z) := Lib.hid (by rw [← hfl]; exact nxF_len hZ2)
          obtain ⟨n5, hn5⟩ : ∃ n5, na + Z = n5 := ⟨_, rfl⟩
          have hol : Hid ((O ++ fl).length = n5) := Lib.hid (by rw [List.length_append, hno, hflZ.out, hn5])
          have hb47 : O.length + fl.length ≤ 140737488355328 := by rw [hno, hflZ.out]; omega
          have t3 : decide ((nn : Int) < 20000) = true := by simp; omega
          have t3' : decide (nn < 20000) = true := by simp; omega
          have t4 : ((Z : Int) != (Z : Int)) = false := by simp
          have t5 : decide ((0 : Int) < (m : Int)) = true := by simpa using hw
          have t5' : decide (0 < m) = true := by simpa using hw
          have hview := pt_view hrs hOI hfl
          have hnext := fun st (hb : BD (pks l k) s.fb s.ls na st) ho => pt_next (N := k) hrs hOI hfl hs' hb ho
          have H := Lib.hid (And.intro hfl (And.intro hs' (And.intro hP (And.intro (show 0 < s.wt.length by omega) (And.intro hview hnext)))))
          have Hm : Hid (na < n5 ∧ nn < 20000 ∧ nn + 1 ≤ n5 ∧ n5 ≤ 40000 ∧ n5 = na + Z ∧ na ≤ 20000) := Lib.hid ⟨by omega, by omega, by omega, by omega, by omega, by omega⟩
          have HP := Lib.hid (And.intro hPf hfb)
          have HB := Lib.hid hbd
          clear hno hd hm hw hrs hOI hlen hlI hfl hs' hP hPf hfm hn5 hview hnext hbd hnn hna hfb
          go_wp2_with fail
          refine xl.mono ?_
          clear xl
          rintro e w5 ⟨rfl, rfl⟩
          go_wp2_with fail
          refine (K.pl.next H.out.2.2.2.1 H.out.2.2.1 H.out.1 H.out.2.1).mono ?_
          rintro e w6 ⟨A6, c6, F6, rfl, r6, of6, P6, k6, n6⟩
          have K6 := K.turn k6 P6 n6
          clear K P6 k6 n6 of6
          go_wp2_with (at_builtin; refine wpList_appAt _ is_bytes rfl (.tmp 66) (.tmp 67) rfl (m := O) rfl K6.ow (l := fl) (by rw [hflZ.out]; rfl) r6.bs r6.nil hb47 K6.pl.b.size ?_; intro v7 w7 o7 g7 hv7; have K7 := K6.appO g7 o7 hv7; obtain ⟨A7, c7, rfl, _⟩ := o7.reads_len hol.out; clear K6 r6 o7 g7 hv7)
          go_loopw [7] (fun sv wr => ∃ start : Nat, sv = .int .i64 (start : Int) ∧ BD (pks l k) s.fb s.ls na start ∧ KP w wr g F6 Z 1048576 s' (.slice none 0 0) (.slice A7 n5 c7) [] (O ++ fl)) (fun sv _ => na - (intOf sv).toNat)
          case atStart => exact ⟨start, rfl, HB.out, K7⟩
          case round =>
            clear K7 HB
            obtain ⟨start, rfl, hbd, K⟩ := hrel
            have hr : Rd wr A7 (O ++ fl) n5 c7 := by
              obtain ⟨A', c', he, hr⟩ := Rd.of K.ow hol.out
              cases he
              exact hr
            by_cases hst : start < na
            · obtain ⟨rest, t, hV⟩ := H.out.2.2.2.2.1
              rw [← HI.out.1] at hV
              obtain ⟨X, hX1, hX2, hX3, hbd', hsz⟩ := hbd.size (pks_pkt l k) hst hV (by rw [hol.out]; have := Hm.out; omega)
              rw [hol.out] at hsz
              rw [HP.out.2] at hX3
              have hn5 : start ≤ n5 := by have := Hm.out; omega
              have rd := Rd.drop_le hr hn5
              have xs := xsize_any _ _ _ _ wr (Lib.hid rd.len) rd.bs rd.nil rd.le rd.max
              obtain ⟨A4, hA4⟩ : ∃ A4, (if c7 = start then A7 else Option.map (fun x => x.add start) A7) = A4 := ⟨_, rfl⟩
              obtain ⟨n4, hn4⟩ : ∃ n4, n5 - start = n4 := ⟨_, rfl⟩
              obtain ⟨c4, hc4⟩ : ∃ c4, c7 - start = c4 := ⟨_, rfl⟩
              rw [hA4, hn4, hc4] at xs
              have s1 : (start : Int) ≤ (c7 : Int) := by have := hr.le; omega
              have s2 : start ≤ c7 := by have := hr.le; omega
              have s3 : (start : Int) ≤ (n5 : Int) := by omega
              have q1 : decide ((start : Int) < (na : Int)) = true := decide_eq_true (Int.ofNat_lt.2 hst)
              have q1' : decide (start < na) = true := decide_eq_true hst
              rcases hsz with ⟨h6, hE⟩ | ⟨hE, hN⟩
              · rw [hE] at xs
                obtain ⟨M, hM⟩ : ∃ M, siN ((O ++ fl).drop start) = M := ⟨_, rfl⟩
                rw [hM] at xs
                have q2 : ((3 : Int) != 0) = true := rfl
                have hZf : Z ≤ fb := by have := Hm.out; omega
                have hP2 : P = 2047 := by have := HP.out.1; rw [if_pos hZf] at this; exact this
                have q3 : decide ((na : Int) ≤ (start : Int)) = false := by simp; omega
                have q3' : decide (na ≤ start) = false := by simp; omega
                have q4 : ((P : Int) != 2047) = false := by simp; omega
                have q4' : (P != 2047) = false := by simp; omega
                have hD := H.out.2.2.2.2.2 start hbd (.inr (by rw [HP.out.2]; exact hZf))
                rw [Hm.out.2.2.2.2.1.symm] at hD
                have HD := Lib.hid hD
                clear hbd hr hV hX1 hX2 hX3 hbd' hn5 rd hst h6 hE hM hZf hP2 hD
                go_wp2_with fail
                refine xs.mono ?_
                clear xs
                rintro e w8 ⟨rfl, b8⟩
                have K8 := K.below b8
                clear K b8
                have hnn2 : nn < 20000 := Hm.out.2.1
                go_wp2
                go_roundw
                case rel => exact ⟨F6, s', nn + 1, start, A7, n5, c7, _, by go_num, rfl, rfl, K8, hol.out, Hm.out.2.2.1, Hm.out.2.2.2.1, HD.out⟩
                case measure => simp [intOf]; have := Hm.out; omega
              · rw [hE, hN] at xs
                have q2 : ((0 : Int) != 0) = false := rfl
                have hst2 : start + X ≤ 100000 := by
                  have := hbd'.le
                  rw [HI.out.1] at this
                  have := HI.out.2.1
                  omega
                have HD := Lib.hid (And.intro hbd' (And.intro hst hX1))
                clear hbd hr hV hX1 hX3 hbd' hn5 rd hst hE hN
                go_wp2_with fail
                refine xs.mono ?_
                clear xs
                rintro e w8 ⟨rfl, b8⟩
                have K8 := K.below b8
                clear K b8
                go_wp2
                go_roundw
                case rel => exact ⟨start + X, by go_num, HD.out.1, K8⟩
                case measure => simp [intOf]; have := HD.out; omega
            · have hstop := hbd.stop hst
              rw [HP.out.2] at hstop
              have hD := H.out.2.2.2.2.2 start hbd (.inl hst)
              rw [Hm.out.2.2.2.2.1.symm] at hD
              have HD := Lib.hid hD
              have q1 : decide ((start : Int) < (na : Int)) = false := by simp; omega
              have q1' : decide (start < na) = false := by simp; omega
              have q3 : decide ((na : Int) ≤ (start : Int)) = true := by simp; omega
              have q3' : decide (na ≤ start) = true := by simp; omega
              by_cases hZf : Z ≤ fb
              · have hP2 : P = 2047 := by have := HP.out.1; rw [if_pos hZf] at this; exact this
                have q4 : ((P : Int) != 2047) = false := by simp; omega
                have q4' : (P != 2047) = false := by simp; omega
                have q5 : decide ((start : Int) < (n5 : Int)) = false := by simp; have := Hm.out; omega
                have q5' : decide (start < n5) = false := by simp; have := Hm.out; omega
                clear hbd hr hstop hD hP2 hZf hst
                have hnn2 : nn < 20000 := Hm.out.2.1
                go_wp2
                go_roundw
                case rel => exact ⟨F6, s', nn + 1, start, A7, n5, c7, _, by go_num, rfl, rfl, K, hol.out, Hm.out.2.2.1, Hm.out.2.2.2.1, HD.out⟩
                case measure => simp [intOf]; have := Hm.out; omega
              · have hP2 : P = fb := by have := HP.out.1; rw [if_neg hZf] at this; exact this
                subst hP2
                have q6 : (start : Int) - (na : Int) = (P : Int) := by omega
                have q4 : ((P : Int) != (P : Int)) = false := by simp
                have q5 : decide ((start : Int) < (n5 : Int)) = true := by simp; have := Hm.out; omega
                have q5' : decide (start < n5) = true := by simp; have := Hm.out; omega
                have q7 : wrap64 (P : Int) = (P : Int) := by unfold wrap64; omega
                clear hbd hr hstop hD hZf hst
                have hnn2 : nn < 20000 := Hm.out.2.1
                go_wp2
                go_roundw
                case rel => exact ⟨F6, s', nn + 1, start, A7, n5, c7, _, by go_num, rfl, rfl, K, hol.out, Hm.out.2.2.1, Hm.out.2.2.2.1, HD.out⟩
                case measure => clear q7; simp [intOf]; have := Hm.out; omega
        · obtain rfl : m = 0 := by omega
          have HB := Lib.hid K.pl.b
          clear hno hd hm hw hnn hna K
          go_wp2_with fail
          refine xl.mono ?_
          clear xl
          rintro e w5 ⟨rfl, rfl⟩
          go_wp2_with fail
          refine (alive19_any _).mono ?_
          rintro e w8 ⟨rfl, b8⟩
          go_wp2
          go_ret
          exact ⟨rfl, HB.out.trans (b8.mono HB.out.size)⟩

set_option maxRecDepth 100000 in
set_option maxHeartbeats 2000000 in
theorem packerPoints_walk (z : Int) (A : Option Addr) (l : List Byte) (N c : Nat) (w : World) (hl : Rd w A l N c) :
    Calls Try.prog 5 #[.int .i64 z, .slice A N c] w fun e w' => e = .returned (.bool true) ∧ Below w.heap.size w w' := by
  by_cases hz : 1 ≤ z ∧ z ≤ 1012
  · by_cases hN : N ≤ 60
    · obtain ⟨Z, rfl⟩ : ∃ Z : Nat, z = (Z : Int) := ⟨z.toNat, by omega⟩
      exact packerPoints_ok Z (by omega) (by omega) A l N c w hl hN
    · have x0 := xright_any z w
      rw [decide_eq_true hz] at x0
      have t1 : decide ((60 : Int) < (N : Int)) = true := by simp; omega
      have t1' : decide (60 < N) = true := by simp; omega
      clear hz hN hl
      go_enter Try.func5, Try.ntmps5
      go_wp2_with fail
      refine x0.mono ?_
      rintro e w1 ⟨rfl, rfl⟩
      go_wp2_with fail
      refine (alive19_any _).mono ?_
      rintro e w7 ⟨rfl, b7⟩
      go_wp2
      go_ret
      exact ⟨rfl, b7⟩
  · have x0 := xright_any z w
    rw [decide_eq_false hz] at x0
    clear hz hl
    go_enter Try.func5, Try.ntmps5
    go_wp2_with fail
    refine x0.mono ?_
    rintro e w1 ⟨rfl, rfl⟩
    go_wp2_with fail
    refine (alive19_any _).mono ?_
    rintro e w7 ⟨rfl, b7⟩
    go_wp2
    go_ret
    exact ⟨rfl, b7⟩
end Go.Proofs.Ytjjjlgaidklokaa.Pkr
