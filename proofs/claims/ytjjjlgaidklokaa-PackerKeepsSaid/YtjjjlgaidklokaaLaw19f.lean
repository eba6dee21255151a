/-
  The law PackerKeeps.
-/
import Derived.Test.YtjjjlgaidklokaaLaw19e
namespace Go.Proofs.Ytjjjlgaidklokaa.Pkr
open Go.RowKit
open Pac (bel_new)

set_option maxRecDepth 100000 in
set_option maxHeartbeats 8000000 in
theorem packerKeeps_ok (Z : Nat) (hZ1 : 1 ≤ Z) (hZ2 : Z ≤ 1012) (A : Option Addr) (l : List Byte) (N c : Nat) (w : World) (hl : Rd w A l N c) (hN : N ≤ 60) :
    Calls Try.prog 4 #[.int .i64 (Z : Int), .slice A N c] w fun e w' => e = .returned (.bool true) ∧ Below w.heap.size w w' := by
  have x0 := xright_any (Z : Int) w
  rw [decide_eq_true (show 1 ≤ (Z : Int) ∧ (Z : Int) ≤ 1012 by omega)] at x0
  have x1 := PL.new (r := 1048576) hZ1 hZ2 w
  have hrm : rm 1048576 = 1048576 := by decide
  rw [hrm] at x1
  have t1 : decide ((60 : Int) < (N : Int)) = false := by simp; omega
  have t1' : decide (60 < N) = false := by simp; omega
  have hNb := pks_len l N
  clear hrm
  go_enter Try.func4, Try.ntmps4
  go_wp2_with fail
  refine x0.mono ?_
  rintro e w1 ⟨rfl, rfl⟩
  go_wp2_with fail
  refine x1.mono ?_
  clear x0 x1
  rintro e w1 ⟨g, F1, rfl, P1⟩
  have K1 := KP.start P1
  clear P1
  go_wp2_with fail
  go_loopw [6, 7, 8] (fun iv ov kv wr => ∃ (k : Nat) (F : List Nat) (s : PS) (Ai : Option Addr) (ni ci : Nat) (Ao : Option Addr) (no co : Nat) (O : List Byte), kv = .int .i64 (k : Int) ∧ iv = .slice Ai ni ci ∧ ov = .slice Ao no co ∧ KP w wr g F Z 1048576 s (.slice Ai ni ci) (.slice Ao no co) (pks l k).flatten O ∧ (pks l k).flatten.length = ni ∧ O.length = no ∧ O ++ s.wt = (pks l k).flatten ∧ s.rs = [] ∧ k ≤ N) (fun _ _ kv _ => N - (intOf kv).toNat)
  case atStart => exact ⟨0, F1, ⟨[], [], []⟩, none, 0, 0, none, 0, 0, [], rfl, rfl, rfl, K1, rfl, rfl, rfl, rfl, Nat.zero_le _⟩
  case round =>
    obtain ⟨k, F, s, Ai, ni, ci, Ao, no, co, O, rfl, rfl, rfl, K, hni, hno, hOI, hrs, hk⟩ := hrel
    clear K1
    by_cases hkN : k < N
    · obtain ⟨x, hx⟩ : ∃ x, l[k]? = some x := ⟨_, List.getElem?_eq_getElem (by rw [hl.len]; exact hkN)⟩
      obtain ⟨b, off, rfl, hb, hc⟩ := hl.at_ (by omega)
      have e1 := (K.pl.b.cell (p := ⟨b, off + k, none⟩) hb).trans (hc k x hx)
      obtain ⟨X, hX⟩ : ∃ X, x.toNat = X := ⟨_, rfl⟩
      have hX255 : X ≤ 255 := by have := x.isLt; omega
      have xb := pbytes_any hx hX (show k < 256 by omega) wr
      rw [show B8 x = .int .u8 (X : Int) by rw [← hX]] at e1
      have k0 : (0 : Int) ≤ (k : Int) := by omega
      have k1 : (k : Int) ≤ 255 := by omega
      have k2 : (k : Int) < (N : Int) := by omega
      obtain ⟨nx, hnx⟩ : ∃ nx, (pq l k).length = nx := ⟨_, rfl⟩
      have hpf := pks_flat l k
      have hpl := pks_len l (k + 1)
      obtain ⟨n2, hn2⟩ : ∃ n2, (pks l (k + 1)).flatten.length = n2 := ⟨_, rfl⟩
      have hni2 : ni + nx = n2 := by rw [← hn2, hpf, List.length_append, hni, hnx]
      rw [hn2] at hpl
      have hb47 : (pks l k).flatten.length + (pq l k).length ≤ 140737488355328 := by rw [hni, hnx]; omega
      have hpush := ps_yes (R := 1048576) (s := s) (pq_pkt l k) (by
        have h1 := congrArg List.length hOI
        rw [List.length_append] at h1
        rw [hnx]
        omega)
      have H := Lib.hid (And.intro hOI (And.intro hpf (And.intro hn2 (And.intro hpush (And.intro hnx (And.intro hrs hno))))))
      have HB := Lib.hid (And.intro hpl hkN)
      clear hx hc hX hOI hpf hn2 hpush hni hnx hno hrs hpl hni2 hk
      go_wp2_with fail
      refine xb.mono ?_
      clear xb
      rintro e w2 ⟨v2, rfl, o2, b2⟩
      obtain ⟨Ax, cx, rfl, rx2⟩ := Rd.of o2 H.out.2.2.2.2.1
      have K2 := K.below b2
      have hxo : ∀ y ∈ blkA Ax, wr.heap.size ≤ y := fun y hy => (Md.of o2 H.out.2.2.2.2.1).lt y hy |>.1
      have hil := K.iw.lt
      have Hx := Lib.hid (And.intro hxo hil)
      have Hn := Lib.hid H.out.2.2.2.2.1
      have HI : Hid (((pks l k).flatten ++ pq l k).length = n2) := Lib.hid (by rw [← H.out.2.1]; exact H.out.2.2.1)
      clear K o2 b2 hxo hil e1
      go_wp2_with (at_builtin; refine wpList_appAt _ is_bytes rfl (.tmp 44) (.tmp 45) rfl (m := (pks l k).flatten) rfl K2.iw (l := pq l k) (by rw [Hn.out]; rfl) rx2.bs rx2.nil hb47 K2.pl.b.size ?_; intro v3 w3 o3 g3 hv3; have K3 := K2.appI g3 o3 hv3; have rx3 := Rd.grown (v := .slice Ai ni ci) rx2 g3 (fun y hy e => by have h1 := Hx.out.1 y hy; have h2 := (Hx.out.2 y e).2; omega); obtain ⟨A3, c3, rfl, _⟩ := o3.reads_len HI.out; clear K2 rx2 o3 g3 hv3)
      refine (K3.pl.push rx3 H.out.2.2.2.1.1 H.out.2.2.2.1.2).mono ?_
      rintro e w4 ⟨rfl, F4, P4, k4, n4⟩
      have K4 := K3.turn k4 P4 n4
      obtain ⟨s4, hs4⟩ : ∃ s4, ({ s with ls := s.ls ++ [pq l k] } : PS) = s4 := ⟨_, rfl⟩
      rw [hs4] at K4
      have hw4 : s4.wt = s.wt ++ pq l k := by rw [← hs4]; exact push_wt s _
      have hr4 : s4.rs = [] := by rw [← hs4]; exact H.out.2.2.2.2.2.1
      have hO4 : O ++ s4.wt = (pks l (k + 1)).flatten := by rw [hw4, ← List.append_assoc, H.out.1, H.out.2.1]
      rw [← H.out.2.1] at K4
      have HS := Lib.hid (And.intro hr4 (And.intro hO4 H.out.2.2.2.2.2.2))
      have Hn2 := Lib.hid H.out.2.2.1
      clear K3 P4 k4 n4 rx3 hs4 hw4 hr4 hO4 HI Hx Hn H
      go_wp2_with fail
      go_loopw [7] (fun ov wq => ∃ (F : List Nat) (s : PS) (Ao : Option Addr) (no co : Nat) (O : List Byte), ov = .slice Ao no co ∧ KP w wq g F Z 1048576 s (.slice A3 n2 c3) (.slice Ao no co) (pks l (k + 1)).flatten O ∧ s.rs = [] ∧ O ++ s.wt = (pks l (k + 1)).flatten ∧ O.length = no) (fun ov _ => 200000 - slen' ov)
      case atStart => exact ⟨F4, s4, Ao, no, co, O, rfl, K4, HS.out.1, HS.out.2.1, HS.out.2.2⟩
      case round =>
        obtain ⟨F, s, Ao, no, co, O, rfl, K, hrs, hOI, hno⟩ := hrel
        clear K4
        have hlen := congrArg List.length hOI
        rw [List.length_append, hno, Hn2.out] at hlen
        by_cases hrd : 0 < s.wt.length ∧ Z ≤ s.wt.length
        · have xr := K.pl.ready (rdy_yes hrs hrd.1 hrd.2)
          obtain ⟨y1, y2, y3⟩ := keep_yes hrs hrd.2
          have t3 : decide ((no : Int) < 200000) = true := by simp; have := HB.out.1; omega
          have t3' : decide (no < 200000) = true := by simp; have := HB.out.1; omega
          have t4 : ((Z : Int) != (Z : Int)) = false := by simp
          obtain ⟨n5, hn5⟩ : ∃ n5, no + Z = n5 := ⟨_, rfl⟩
          have hol : Hid ((O ++ s.wt.take Z).length = n5) := Lib.hid (by rw [List.length_append, hno, List.length_take]; omega)
          have htk : Hid ((s.wt.take Z).length = Z) := Lib.hid (by rw [List.length_take]; omega)
          have hb47 : O.length + (s.wt.take Z).length ≤ 140737488355328 := by rw [hno, htk.out]; have := HB.out.1; omega
          have hO5 : (O ++ s.wt.take Z) ++ (nxS Z s).wt = (pks l (k + 1)).flatten := by rw [y3, List.append_assoc, List.take_append_drop, hOI]
          have H := Lib.hid (And.intro hrd.1 (And.intro y1 (And.intro y2 hO5)))
          have Hm : Hid (no < n5 ∧ no < 200000) := Lib.hid ⟨by omega, by have := HB.out.1; omega⟩
          clear hrs hOI hno hlen hrd y1 y2 y3 hO5 hn5
          go_wp2_with fail
          refine xr.mono ?_
          clear xr
          rintro e w5 ⟨rfl, b5⟩
          have K5 := K.below b5
          clear K b5
          go_wp2_with fail
          refine (K5.pl.next H.out.1 rfl H.out.2.1 rfl).mono ?_
          rintro e w6 ⟨A6, c6, F6, rfl, r6, of6, P6, k6, n6⟩
          have K6 := K5.turn k6 P6 n6
          clear K5 P6 k6 n6 of6
          go_wp2_with (at_builtin; refine wpList_appAt _ is_bytes rfl (.tmp 63) (.tmp 64) rfl (m := O) rfl K6.ow (l := s.wt.take Z) (by rw [htk.out]; rfl) r6.bs r6.nil hb47 K6.pl.b.size ?_; intro v7 w7 o7 g7 hv7; have K7 := K6.appO g7 o7 hv7; obtain ⟨A7, c7, rfl, _⟩ := o7.reads_len hol.out; clear K6 r6 o7 g7 hv7)
          go_roundw
          case rel => exact ⟨F6, _, A7, n5, c7, _, rfl, K7, H.out.2.2.1, H.out.2.2.2, hol.out⟩
          case measure => simp only [slen']; have := Hm.out; omega
        · have xr := K.pl.ready (rdy_no hrs hrd)
          have H := Lib.hid (And.intro hrs (And.intro hOI (And.intro hno K)))
          have Hkk := Lib.hid HB.out.2
          clear hrs hOI hno hlen hrd K
          go_wp2_with fail
          refine xr.mono ?_
          rintro e w5 ⟨rfl, b5⟩
          go_wp2
          go_roundw
          case rel => exact ⟨k + 1, F, s, A3, n2, c3, Ao, no, co, O, by go_num, rfl, rfl, H.out.2.2.2.below b5, Hn2.out, H.out.2.2.1, H.out.2.1, H.out.1, Hkk.out⟩
          case measure => simp [intOf]; have := Hkk.out; omega
    · obtain rfl : k = N := by omega
      obtain ⟨I, hI⟩ : ∃ I, (pks l k).flatten = I := ⟨_, rfl⟩
      rw [hI] at K hni hOI hNb
      have H := Lib.hid (And.intro hOI (And.intro hrs (And.intro hno hni)))
      have HI := Lib.hid (And.intro hI hNb)
      have HL := Lib.hid hni
      clear hOI hrs hno hni hkN hI hNb
      go_wp2_with fail
      go_loopw [7] (fun ov wq => ∃ (F : List Nat) (s : PS) (Ao : Option Addr) (no co : Nat) (O : List Byte), ov = .slice Ao no co ∧ KP w wq g F Z 1048576 s (.slice Ai ni ci) (.slice Ao no co) I O ∧ O.length = no ∧ ((s.rs = [] ∧ O ++ s.wt = I) ∨ (s.wt = [] ∧ ∃ t, Tl t ∧ O = I ++ t ∧ t.length ≤ 1012))) (fun ov _ => 200000 - slen' ov)
      case atStart => exact ⟨F, s, Ao, no, co, O, rfl, K, H.out.2.2.1, .inl ⟨H.out.2.1, H.out.1⟩⟩
      case round =>
        clear K H
        obtain ⟨F, s, Ao, no, co, O, rfl, K, hno, hd⟩ := hrel
        obtain ⟨m, hm⟩ : ∃ m, s.wt.length = m := ⟨_, rfl⟩
        have xl := K.pl.left hm
        by_cases hw : 0 < m
        · obtain ⟨hrs, hOI⟩ : s.rs = [] ∧ O ++ s.wt = I := by
            rcases hd with h1 | ⟨h1, _⟩
            · exact h1
            · rw [h1] at hm; simp at hm; omega
          have hlen := congrArg List.length hOI
          rw [List.length_append, hno, hm] at hlen
          have hlI := HI.out.2
          obtain ⟨fl, hfl⟩ : ∃ fl, nxF Z s = fl := ⟨_, rfl⟩
          obtain ⟨s', hs'⟩ : ∃ s', nxS Z s = s' := ⟨_, rfl⟩
          have hd' : (s'.rs = [] ∧ (O ++ fl) ++ s'.wt = I) ∨ (s'.wt = [] ∧ ∃ t, Tl t ∧ O ++ fl = I ++ t ∧ t.length ≤ 1012) := by
            rw [← hfl, ← hs']
            by_cases hz : Z ≤ s.wt.length
            · obtain ⟨y1, y2, y3⟩ := keep_yes hrs hz
              exact .inl ⟨y2, by rw [y1, y3, List.append_assoc, List.take_append_drop, hOI]⟩
            · obtain ⟨y1, y2⟩ := keep_last (Z := Z) hrs (by omega)
              exact .inr ⟨y2, (fil (Z - s.wt.length)).take (Z - s.wt.length), tl_fil (q := Z - s.wt.length) (by omega), by rw [y1, ← List.append_assoc, hOI], by rw [List.length_take]; omega⟩
          have hflZ : Hid (fl.length = Z) := Lib.hid (by rw [← hfl]; exact nxF_len hZ2)
          obtain ⟨n5, hn5⟩ : ∃ n5, no + Z = n5 := ⟨_, rfl⟩
          have hol : Hid ((O ++ fl).length = n5) := Lib.hid (by rw [List.length_append, hno, hflZ.out, hn5])
          have hb47 : O.length + fl.length ≤ 140737488355328 := by rw [hno, hflZ.out]; omega
          have t3 : decide ((no : Int) < 200000) = true := by simp; omega
          have t3' : decide (no < 200000) = true := by simp; omega
          have t4 : ((Z : Int) != (Z : Int)) = false := by simp
          have t5 : decide ((0 : Int) < (m : Int)) = true := by simpa using hw
          have t5' : decide (0 < m) = true := by simpa using hw
          have H := Lib.hid (And.intro hfl (And.intro hs' (And.intro hd' (show 0 < s.wt.length by omega))))
          have Hm : Hid (no < n5 ∧ no < 200000) := Lib.hid ⟨by omega, by omega⟩
          clear hno hd hm hw hrs hOI hlen hlI hfl hs' hd' hn5
          go_wp2_with fail
          refine xl.mono ?_
          clear xl
          rintro e w5 ⟨rfl, rfl⟩
          go_wp2_with fail
          refine (K.pl.next H.out.2.2.2 rfl H.out.1 H.out.2.1).mono ?_
          rintro e w6 ⟨A6, c6, F6, rfl, r6, of6, P6, k6, n6⟩
          have K6 := K.turn k6 P6 n6
          clear K P6 k6 n6 of6
          go_wp2_with (at_builtin; refine wpList_appAt _ is_bytes rfl (.tmp 84) (.tmp 85) rfl (m := O) rfl K6.ow (l := fl) (by rw [hflZ.out]; rfl) r6.bs r6.nil hb47 K6.pl.b.size ?_; intro v7 w7 o7 g7 hv7; have K7 := K6.appO g7 o7 hv7; obtain ⟨A7, c7, rfl, _⟩ := o7.reads_len hol.out; clear K6 r6 o7 g7 hv7)
          go_roundw
          case rel => exact ⟨F6, s', A7, n5, c7, _, rfl, K7, hol.out, H.out.2.2.1⟩
          case measure => simp only [slen']; have := Hm.out; omega
        · obtain rfl : m = 0 := by omega
          have hwt : s.wt = [] := List.eq_nil_of_length_eq_zero hm
          obtain ⟨tt, ht1, ht2, ht3⟩ : ∃ t, Tl t ∧ O = I ++ t ∧ t.length ≤ 1012 := by
            rcases hd with ⟨_, h1⟩ | ⟨_, h1⟩
            · exact ⟨[], .inl rfl, by rw [hwt] at h1; simpa using h1, by simp⟩
            · exact h1
          have hlO := congrArg List.length ht2
          rw [List.length_append, hno] at hlO
          have hlI := HI.out.2
          have hrO : Rd wr Ao O no co := by
            obtain ⟨A', c', he, hr⟩ := Rd.of K.ow hno
            cases he
            exact hr
          rw [ht2, ← HI.out.1] at hrO
          have xp := packets_any Ao (pks l k) tt no co wr hrO (pks_pkt l k) ht1 (by omega)
          have hlIni : I.length = ni := HL.out
          rw [HI.out.1] at xp
          have H := Lib.hid hlIni
          clear hno hd hm hw hwt ht1 ht2 ht3 hlO hlI hrO hlIni
          go_wp2_with fail
          refine xl.mono ?_
          clear xl
          rintro e w5 ⟨rfl, rfl⟩
          go_wp2_with fail
          refine xp.mono ?_
          clear xp
          rintro e w6 ⟨⟨v6, rfl, o6⟩, b6⟩
          obtain ⟨A6, c6, rfl, r6⟩ := Rd.of o6 H.out
          have K6 := K.below b6
          have r7 : Rd w6 Ai I ni ci := by
            obtain ⟨A', c', he, hr⟩ := Rd.of K6.iw H.out
            cases he
            exact hr
          have d1 := Rd.conv r6 (Below.refl _ _)
          have d2 := Rd.conv r7 (Below.refl _ _)
          have e1 : ((str I).toList == (str I).toList) = true := by simp
          have HB := Lib.hid K6.pl.b
          clear K o6 b6 K6 r6 r7
          go_wp2_with fail
          refine (alive19_any _).mono ?_
          rintro e w8 ⟨rfl, b8⟩
          go_wp2
          go_ret
          exact ⟨rfl, HB.out.trans (b8.mono HB.out.size)⟩

set_option maxRecDepth 100000 in
set_option maxHeartbeats 2000000 in
theorem packerKeeps_walk (z : Int) (A : Option Addr) (l : List Byte) (N c : Nat) (w : World) (hl : Rd w A l N c) :
    Calls Try.prog 4 #[.int .i64 z, .slice A N c] w fun e w' => e = .returned (.bool true) ∧ Below w.heap.size w w' := by
  by_cases hz : 1 ≤ z ∧ z ≤ 1012
  · by_cases hN : N ≤ 60
    · obtain ⟨Z, rfl⟩ : ∃ Z : Nat, z = (Z : Int) := ⟨z.toNat, by omega⟩
      exact packerKeeps_ok Z (by omega) (by omega) A l N c w hl hN
    · have x0 := xright_any z w
      rw [decide_eq_true hz] at x0
      have t1 : decide ((60 : Int) < (N : Int)) = true := by simp; omega
      have t1' : decide (60 < N) = true := by simp; omega
      clear hz hN hl
      go_enter Try.func4, Try.ntmps4
      go_wp2_with fail
      refine x0.mono ?_
      rintro e w1 ⟨rfl, rfl⟩
      go_wp2_with fail
      refine (alive19_any _).mono ?_
      rintro e w7 ⟨rfl, b7⟩
      go_wp2
      go_ret
      exact ⟨rfl, b7⟩
  · have x0 := xright_any z w
    rw [decide_eq_false hz] at x0
    clear hz hl
    go_enter Try.func4, Try.ntmps4
    go_wp2_with fail
    refine x0.mono ?_
    rintro e w1 ⟨rfl, rfl⟩
    go_wp2_with fail
    refine (alive19_any _).mono ?_
    rintro e w7 ⟨rfl, b7⟩
    go_wp2
    go_ret
    exact ⟨rfl, b7⟩
end Go.Proofs.Ytjjjlgaidklokaa.Pkr
