/-
  The walk of the law UnpackerBack.
-/
import Derived.Test.YtcmonalnhdodmaaLaw20l
import Derived.Test.YtcmonalnhdodmaaLaw20j
import Derived.Test.YtcmonalnhdodmaaLaw20b
import Derived.Test.YtcmonalnhdodmaaHand
import Derived.Deep.CutRange
import Derived.Deep.CutBlock
namespace Go.Proofs.Ytcmonalnhdodmaa.Unp
open Go.RowKit Go.Proofs.Ytcmonalnhdodmaa.Row Lst Ints
open Pac (bel_new)

set_option maxRecDepth 100000 in
set_option maxHeartbeats 16000000 in
theorem unpackerBack_ok (A Aa Ap : Option Addr) (l : List (List Byte)) (ap pt : List Byte) (n c na ca np cp sz st : Nat) (w : World) (hl : Hid (l.length = n)) (hps : LS w w.heap.size A l) (ha : Rd w Aa ap na ca) (hp : Rd w Ap pt np cp) (hn : n ≤ 40) (hnp : np ≤ 30) (hsz : sz ≤ 255) (hst : st ≤ 255) :
    Calls Try.prog 4 #[.slice A n c, .slice Aa na ca, .int .u8 (sz : Int), .int .u8 (st : Int), .slice Ap np cp] w fun e w' => e = .returned (.bool true) ∧ Below w.heap.size w w' := by
  have t1 : decide ((40 : Int) < (n : Int)) = false := by simp; omega
  have t1' : decide (40 < n) = false := by simp; omega
  have t2 : decide ((30 : Int) < (np : Int)) = false := by simp; omega
  have t2' : decide (30 < np) = false := by simp; omega
  obtain ⟨ps, hpks⟩ : ∃ ps, pks (gid ap) l = ps := ⟨_, rfl⟩
  have hpl : ps.length = n := by rw [← hpks, pks_len, hl.out]
  have HP := Lib.hid (And.intro hpks (And.intro hn (And.intro hpl (And.intro hnp (And.intro ha hp)))))
  have z0 := Z2.start w
  clear hn hpks hpl hnp ha hp
  go_enter Try.func4, Try.ntmps4
  go_wp2_with fail
  go_loopw [11, 12, 13] (fun R D iv wr => ∃ k : Nat, iv = .int .i64 (k : Int) ∧ k ≤ n ∧ Ok60 l k ∧ Z2 w wr R D (ps.take k) (ids ap k)) (fun _ _ iv _ => n - (intOf iv).toNat)
  case atStart => exact ⟨0, rfl, Nat.zero_le _, fun j x hj => by omega, z0⟩
  case round =>
    obtain ⟨k, rfl, hk, hok, hZ⟩ := hrel
    clear z0
    by_cases hkn : k < n
    · -- L1 BEGIN
      obtain ⟨x, hx⟩ : ∃ x, l[k]? = some x := ⟨_, List.getElem?_eq_getElem (by rw [hl.out]; exact hkn)⟩
      obtain ⟨b, off, xa, xc, rfl, hb, hcell, hdt⟩ := hps.at_ hx
      have c0 := (hZ.b.cell (p := ⟨b, off + k, none⟩) hb).trans hcell
      obtain ⟨M, hM⟩ : ∃ M, x.length = M := ⟨_, rfl⟩
      rw [hM] at hcell c0
      have rX : Rd w xa x M xc := ⟨hM, hdt.b, hdt.n, by rw [← hM]; exact hdt.l, hdt.m⟩
      have i0 : (0 : Int) ≤ (k : Int) := Int.natCast_nonneg _
      have i1 : (k : Int) < (n : Int) := by omega
      by_cases h1 : M < 1
      · have u1 : decide ((M : Int) < 1) = true := by simp; omega
        have u1' : decide (M < 1) = true := by simpa using h1
        have HZ := Lib.hid hZ
        clear hZ h1 rX hdt hM hcell hx
        go_wp2_with fail
        refine (alive20_any _).mono ?_
        rintro e w2 ⟨rfl, b2⟩
        go_wp2
        go_ret
        exact ⟨rfl, (HZ.out.below b2).b⟩
      · have u1 : decide ((M : Int) < 1) = false := by simp; omega
        have u1' : decide (M < 1) = false := by simpa using h1
        by_cases h2 : 60 < M
        · have u2 : decide ((60 : Int) < (M : Int)) = true := by simp; omega
          have u2' : decide (60 < M) = true := by simpa using h2
          have HZ := Lib.hid hZ
          clear hZ h1 h2 rX hdt hM hcell hx
          go_wp2_with fail
          refine (alive20_any _).mono ?_
          rintro e w2 ⟨rfl, b2⟩
          go_wp2
          go_ret
          exact ⟨rfl, (HZ.out.below b2).b⟩
        · have u2 : decide ((60 : Int) < (M : Int)) = false := by simp; omega
          have u2' : decide (60 < M) = false := by simpa using h2
          have hok2 := hok.next hx (by omega) (by omega)
          have hpk : ps[k]? = some (wrp (gid ap k) x) := by rw [← HP.out.1]; exact pks_at (g := gid ap) hx
          have hk40 : k < 40 := by have := HP.out.2.1; omega
          obtain ⟨AD, cD, rfl, _⟩ := hZ.di.reads_len encB_ok (ids_len ap k)
          have HC := Lib.hid hcell
          obtain ⟨d, hd⟩ : ∃ d, idlb ap k = d := ⟨_, rfl⟩
          have hna := HP.out.2.2.2.2.1
          have HZ := Lib.hid (And.intro hZ (And.intro rX (And.intro hok2 (And.intro hpk (And.intro hd hM)))))
          clear hZ rX hok2 hok hpk hd hM hcell hx hdt
          go_upto_region 10 with fail
          go_cut [14] from 55 to 66 (fun t wx => t = .bool d ∧ wx = wr)
          case first =>
            by_cases hlt : k < na
            · have v1 : decide ((k : Int) < (na : Int)) = true := by simp; omega
              have v1' : decide (k < na) = true := by simpa using hlt
              have hnl := hna.len
              obtain ⟨ba, oa, rfl, hba, hca⟩ := hna.at_ (by omega)
              obtain ⟨y, hy⟩ : ∃ y, ap[k]? = some y := ⟨_, List.getElem?_eq_getElem (by omega)⟩
              have cy := hca k y hy
              obtain ⟨v, hv⟩ : ∃ v, y.toNat = v := ⟨_, rfl⟩
              have hvb : v < 256 := by rw [← hv]; exact y.isLt
              have cy' : wr.cell? ⟨ba, oa + k, none⟩ = some (.int .u8 (v : Int)) := by
                rw [HZ.out.1.b.cell (p := ⟨ba, oa + k, none⟩) hba, cy]
                show some (Value.int .u8 ((y.toNat : Nat) : Int)) = _
                rw [hv]
              obtain ⟨r, hr⟩ : ∃ r, v % 4 = r := ⟨_, rfl⟩
              have hrb : r < 4 := by omega
              have e1 : (v : Int).tmod 4 = (r : Int) := by rw [Int.tmod_eq_emod_of_nonneg (by omega)]; omega
              have e2 : (v : Int) % 4 = (r : Int) := by omega
              have hd2 : decide (r = 0) = d := by
                rw [← HZ.out.2.2.2.2.1]
                unfold idlb
                rw [show decide (k < ap.length) = true by simp; omega, Bool.true_and, List.getD_eq_getElem?_getD, hy]
                show _ = decide (y.toNat % 4 = 0)
                rw [hv, hr]
              have q1 : ((r : Int) == 0) = d := by rw [← hd2, Bool.eq_iff_iff]; simp
              have j1 : (k : Int) < (na : Int) := by omega
              clear hr hv hy cy hnl hca hlt hd2
              go_wp2
              go_meet
              case rel => exact ⟨by simp, rfl⟩
            · have v1 : decide ((k : Int) < (na : Int)) = false := by simp; omega
              have v1' : decide (k < na) = false := by simpa using hlt
              have hd2 : d = false := by
                rw [← HZ.out.2.2.2.2.1]
                unfold idlb
                rw [show decide (k < ap.length) = false by have := hna.len; simp; omega, Bool.false_and]
              subst hd2
              clear hlt
              go_wp2
              go_meet
              case rel => exact ⟨rfl, rfl⟩
          case rest =>
            obtain ⟨rfl, rfl⟩ := hcut
            rename World => wr
            cases d with
            | true =>
              have xw := fun (w6 : World) (h6 : Below w.heap.size w w6) => lwrap_any 2047 xa x M xc w6 (HZ.out.2.1.later h6) (by omega) (by omega) (by omega)
              obtain ⟨Y, hY⟩ : ∃ Y, wrp 2047 x = Y := ⟨_, rfl⟩
              have hYl : Y.length = 6 + M := by rw [← hY, wrp_len, HZ.out.2.2.2.2.2]
              obtain ⟨NY, hNY⟩ : ∃ NY, 6 + M = NY := ⟨_, rfl⟩
              have hpk : ps[k]? = some Y := by
                have h := HZ.out.2.2.2.1
                unfold gid at h
                rw [HZ.out.2.2.2.2.1] at h
                rw [h, ← hY]
                simp
              rw [hY] at xw
              rw [hNY] at hYl
              have hlen : (ps.take k).length = k := by rw [List.length_take, HP.out.2.2.1]; omega
              have hid : ids ap k ++ [true] = ids ap (k + 1) := by rw [ids_succ, HZ.out.2.2.2.2.1]
              have HY := Lib.hid (And.intro hYl (And.intro hpk (And.intro hlen (And.intro hid xw))))
              clear hY hYl hNY hpk hlen hid xw h1 h2
              go_wp2_with (first
                | (at_builtin; refine wpList_row _ encB_ok is_bools (by decide) rfl (.tmp 67) (.tmp 69) rfl rfl (HZ.out.1.di.alloc _) (l := [true]) (n := 1) rfl rfl (Rs_new1 encB_ok wr _ _ _ (by simp only [encB])) (by simp) (by rw [ids_len]; simp; omega) (by have := HZ.out.1.b.size; simp; omega) ?_; intro D2 w6 ho6 hg6 hr6; have hZ6 := HZ.out.1.addd rfl hg6 ho6; rw [HY.out.2.2.2.1] at hZ6; obtain ⟨AD6, cD6, rfl, _⟩ := ho6.reads_len encB_ok (n := k + 1) (by rw [List.length_append, ids_len]; rfl); have c06 := (hZ6.b.cell (p := ⟨b, off + k, none⟩) hb).trans HC.out; have HZ6 := Lib.hid hZ6; clear hZ6 ho6 hg6 hr6))
              rename World => w6
              refine (HY.out.2.2.2.2 w6 HZ6.out.b).mono ?_
              clear c06 c0
              rintro e w4 ⟨v4, rfl, o4, b4⟩
              obtain ⟨A4, k4, rfl, _⟩ := o4.reads_len HY.out.1
              obtain ⟨E, lo⟩ := HZ6.out.lo
              obtain ⟨qs, AR, kR, rfl, hqn, hqe, hqo, hqr, hqz, hq3⟩ := (lo.below b4).parts (n := k) HY.out.2.2.1
              have hsz : w.heap.size ≤ w4.heap.size := Nat.le_trans HZ6.out.b.size b4.size
              go_wp2_with (first
                | (at_builtin; refine wpList_row _ enc_ok is_lists (by decide) rfl (.tmp 72) (.tmp 78) rfl rfl (hqo.alloc _) (l := [⟨Y, A4, k4⟩]) (n := 1) rfl rfl (Rs_new1 enc_ok w4 _ _ _ (by simp only [enc, HY.out.1])) (by simp) (by rw [hqn]; simp; omega) (by simp; omega) ?_; intro R2 w7 ho7 hg7 hr7; have hZ7 := Z2.addp HZ6.out.di HZ6.out.b lo o4 HY.out.1 b4 hqe (fun q hq => ⟨(hq3 q hq).1.alloc _, (hq3 q hq).2⟩) rfl hg7 ho7; have HZ7 := Lib.hid hZ7; clear hZ7 hr7 ho7 hg7 o4 b4 hqo hqr hqz hq3 hqe hqn lo hsz))
              go_roundw
              case rel =>
                refine ⟨k + 1, by go_num, hkn, HZ.out.2.2.1, ?_⟩
                have e1 : ps.take (k + 1) = ps.take k ++ [Y] := by rw [List.take_add_one, HY.out.2.1]; rfl
                rw [e1]
                exact HZ7.out
              case measure => simp [intOf]; omega
            | false =>
              obtain ⟨K, hK⟩ : ∃ K, 100 + k = K := ⟨_, rfl⟩
              have k2 : 100 + (k : Int) = (K : Int) := by omega
              have xw := fun (w6 : World) (h6 : Below w.heap.size w w6) => lwrap_any K xa x M xc w6 (HZ.out.2.1.later h6) (by omega) (by omega) (by omega)
              obtain ⟨Y, hY⟩ : ∃ Y, wrp K x = Y := ⟨_, rfl⟩
              have hYl : Y.length = 6 + M := by rw [← hY, wrp_len, HZ.out.2.2.2.2.2]
              obtain ⟨NY, hNY⟩ : ∃ NY, 6 + M = NY := ⟨_, rfl⟩
              have hpk : ps[k]? = some Y := by
                have h := HZ.out.2.2.2.1
                unfold gid at h
                rw [HZ.out.2.2.2.2.1] at h
                rw [h, ← hY]
                simp [hK]
              rw [hY] at xw
              rw [hNY] at hYl
              have hlen : (ps.take k).length = k := by rw [List.length_take, HP.out.2.2.1]; omega
              have hid : ids ap k ++ [false] = ids ap (k + 1) := by rw [ids_succ, HZ.out.2.2.2.2.1]
              have HY := Lib.hid (And.intro hYl (And.intro hpk (And.intro hlen (And.intro hid xw))))
              clear hY hYl hNY hpk hlen hid xw h1 h2
              go_wp2_with (first
                | (at_builtin; refine wpList_row _ encB_ok is_bools (by decide) rfl (.tmp 67) (.tmp 69) rfl rfl (HZ.out.1.di.alloc _) (l := [false]) (n := 1) rfl rfl (Rs_new1 encB_ok wr _ _ _ (by simp only [encB])) (by simp) (by rw [ids_len]; simp; omega) (by have := HZ.out.1.b.size; simp; omega) ?_; intro D2 w6 ho6 hg6 hr6; have hZ6 := HZ.out.1.addd rfl hg6 ho6; rw [HY.out.2.2.2.1] at hZ6; obtain ⟨AD6, cD6, rfl, _⟩ := ho6.reads_len encB_ok (n := k + 1) (by rw [List.length_append, ids_len]; rfl); have c06 := (hZ6.b.cell (p := ⟨b, off + k, none⟩) hb).trans HC.out; have HZ6 := Lib.hid hZ6; clear hZ6 ho6 hg6 hr6))
              rename World => w6
              refine (HY.out.2.2.2.2 w6 HZ6.out.b).mono ?_
              clear c06 c0
              rintro e w4 ⟨v4, rfl, o4, b4⟩
              obtain ⟨A4, k4, rfl, _⟩ := o4.reads_len HY.out.1
              obtain ⟨E, lo⟩ := HZ6.out.lo
              obtain ⟨qs, AR, kR, rfl, hqn, hqe, hqo, hqr, hqz, hq3⟩ := (lo.below b4).parts (n := k) HY.out.2.2.1
              have hsz : w.heap.size ≤ w4.heap.size := Nat.le_trans HZ6.out.b.size b4.size
              go_wp2_with (first
                | (at_builtin; refine wpList_row _ enc_ok is_lists (by decide) rfl (.tmp 80) (.tmp 88) rfl rfl (hqo.alloc _) (l := [⟨Y, A4, k4⟩]) (n := 1) rfl rfl (Rs_new1 enc_ok w4 _ _ _ (by simp only [enc, HY.out.1])) (by simp) (by rw [hqn]; simp; omega) (by simp; omega) ?_; intro R2 w7 ho7 hg7 hr7; have hZ7 := Z2.addp HZ6.out.di HZ6.out.b lo o4 HY.out.1 b4 hqe (fun q hq => ⟨(hq3 q hq).1.alloc _, (hq3 q hq).2⟩) rfl hg7 ho7; have HZ7 := Lib.hid hZ7; clear hZ7 hr7 ho7 hg7 o4 b4 hqo hqr hqz hq3 hqe hqn lo hsz))
              go_roundw
              case rel =>
                refine ⟨k + 1, by go_num, hkn, HZ.out.2.2.1, ?_⟩
                have e1 : ps.take (k + 1) = ps.take k ++ [Y] := by rw [List.take_add_one, HY.out.2.1]; rfl
                rw [e1]
                exact HZ7.out
              case measure => simp [intOf]; omega
      -- L1 END
    · obtain rfl : k = n := by omega
      rename World => w3
      obtain ⟨hpks, hn, hpl, hnp, ha, hp⟩ := HP.out
      have hwp : ∀ p ∈ ps, Wp p := by
        rw [← hpks]
        exact pks_wp (g := gid ap) (by rw [hl.out]; exact hok) (fun i hi => gid_le (by have := hl.out; omega))
      have hni : ∀ i, i < k → ni (ps.getD i []) = !idlb ap i := fun i hi => by
        obtain ⟨x, hx⟩ : ∃ x, l[i]? = some x := ⟨_, List.getElem?_eq_getElem (by rw [hl.out]; exact hi)⟩
        have h1 := hok i x hi hx
        have h2 : ps[i]? = some (wrp (gid ap i) x) := by rw [← hpks]; exact pks_at (g := gid ap) hx
        rw [List.getD_eq_getElem?_getD, h2]
        show ni (wrp (gid ap i) x) = _
        rw [wrp_ni (gid_le (by omega)) h1.1 h1.2, gid_ni (by omega)]
      have hSb := pks_flat (g := gid ap) hok
      rw [hpks] at hSb
      rw [List.take_of_length_le (by omega)] at hZ hSb
      have hfl : ps.flatten.length ≤ 2640 := by omega
      have hP1 : ∀ (k : Nat) (x : List Byte), ps[k]? = some x → 1 ≤ x.length := fun k x hx => by have := (hwp x (List.mem_of_getElem? hx)).seven; omega
      obtain ⟨AD, cD, rfl, rD, _⟩ := hZ.di.reads_len encB_ok (ids_len ap k)
      obtain ⟨E, lo⟩ := hZ.lo
      obtain ⟨AR, cR, rfl, lR, _⟩ := lo.len hpl
      obtain ⟨r, hr⟩ : ∃ r, sz % 60 = r := ⟨_, rfl⟩
      obtain ⟨z, hz⟩ : ∃ z, r + 1 = z := ⟨_, rfl⟩
      have e1 : (sz : Int).tmod 60 = (r : Int) := by rw [Int.tmod_eq_emod_of_nonneg (by omega)]; omega
      have e1' : (sz : Int) % 60 = (r : Int) := by omega
      have e2 : (r : Int) + 1 = (z : Int) := by omega
      have hrb : r < 60 := by omega
      have xc := cut_any AR ps k cR z st w3 (Lib.hid hpl) lR hn (Lib.hid hfl) (Lib.hid hP1) (by omega) (by omega) hst
      have HB := Lib.hid (And.intro hwp (And.intro hpl (And.intro hn (And.intro hni (And.intro hfl (And.intro (show 1 ≤ z by omega) (And.intro (show z ≤ 60 by omega) (And.intro lR (And.intro rD (And.intro hZ.b (And.intro (hp.later hZ.b) hnp)))))))))))
      clear hpks hn hpl hnp ha hp hwp hni hSb hfl hP1 rD lo lR hr hz hZ hok hk hkn
      go_wp2_with fail
      refine xc.mono ?_
      clear xc
      rintro e w5 ⟨NF, kF, k1, k2, cV, kB, M, AF, A1, A2, AV, AB, rfl, hC⟩
      obtain ⟨W6, hW6⟩ : ∃ W6, W6 = w5.alloc (.cells #[.slice AF NF kF, .slice A1 k k1, .slice A2 k k2, .slice AR k cR, .slice AV M cV, .slice AB k kB] 42) := ⟨_, rfl⟩
      obtain ⟨X, hX⟩ : ∃ X, X = w5.heap.size := ⟨_, rfl⟩
      have b56 : Below w5.heap.size w5 W6 := by rw [hW6]; exact bel_new _ _
      have yX : Cel W6 X 42 #[.slice AF NF kF, .slice A1 k k1, .slice A2 k k2, .slice AR k cR, .slice AV M cV, .slice AB k kB] := by rw [hW6, hX]; exact Cel.new _ _ _
      have B : Bk w W6 ps ap pt z st k np cp NF AR AD AF A1 A2 Ap := by
        obtain ⟨h1, h2, h3, h4, h5, h6, h7, h8, h9, h10, h11, h12⟩ := HB.out
        have b36 : Below w3.heap.size w3 W6 := hC.b.trans (b56.mono hC.b.size)
        exact ⟨h1, h2, h3, h4, h5, h6, h7, (h8.below b36).more b36.size, (h9.below b36).more b36.size, ⟨(hC.later b56).nf, (hC.later b56).fl, (hC.later b56).fr', (hC.later b56).to', h10.trans (b36.mono h10.size)⟩, h11.later b36, h12⟩
      clear hC b56 HB
      go_upto_region 16 with fail
      rw [← hW6, ← hX]
      clear hW6 hX
      have x0 := yX.cell 0
      simp at x0
      by_cases hNF : 200 < NF
      · have v1 : decide ((200 : Int) < (NF : Int)) = true := by simp; omega
        have v1' : decide (200 < NF) = true := by simpa using hNF
        have HB := Lib.hid B
        clear B hNF yX
        go_wp2_with fail
        refine (alive20_any _).mono ?_
        rintro e w7 ⟨rfl, b7⟩
        go_wp2
        go_ret
        exact ⟨rfl, HB.out.cu.b.trans (b7.mono HB.out.cu.b.size)⟩
      · have v1 : decide ((200 : Int) < (NF : Int)) = false := by simp; omega
        have v1' : decide (200 < NF) = false := by simpa using hNF
        have hNF2 : NF ≤ 200 := by omega
        have HB := Lib.hid B
        have W0 := Wn.start W6
        have HX := Lib.hid yX
        have hn40 := B.n40
        have hnp30 := B.np30
        clear B hNF
        go_wp2_with fail
        obtain ⟨arr, harr⟩ : ∃ arr : Nat → Bool, (fun t => !lsf pt t) = arr := ⟨_, rfl⟩
        have HA := Lib.hid harr
        clear harr
        go_loopw [16, 18] (fun wv iv wr => ∃ i : Nat, iv = .int .i64 (i : Int) ∧ i ≤ k ∧ Wn W6 wr wv (sel ps (Wt ps z arr) i)) (fun _ iv _ => k - (intOf iv).toNat)
        case atStart => exact ⟨0, rfl, Nat.zero_le _, W0⟩
        case round =>
          obtain ⟨i, rfl, hi, hW⟩ := hrel
          clear W0
          by_cases hik : i < k
          · -- L2 BEGIN
            obtain ⟨bd, od, hAD, hbd, hcd⟩ := HB.out.flag hik
            obtain ⟨b1, o1, hA1, hb1, hc1⟩ := HB.out.from_ hik
            obtain ⟨b2, o2, hA2, hb2, hc2⟩ := HB.out.until_ hik
            subst hAD hA1 hA2
            obtain ⟨Lo, hLo⟩ : ∃ Lo, bnd ps i / z = Lo := ⟨_, rfl⟩
            obtain ⟨Hi, hHi⟩ : ∃ Hi, (bnd ps (i + 1) - 1) / z = Hi := ⟨_, rfl⟩
            obtain ⟨d, hd⟩ : ∃ d, idlb ap i = d := ⟨_, rfl⟩
            obtain ⟨nd, hnd⟩ : ∃ nd, (!d) = nd := ⟨_, rfl⟩
            rw [hd] at hcd
            rw [hLo] at hc1
            rw [hHi] at hc2
            have hbl := bnd_lt HB.out.wp (i := i) (by rw [HB.out.len]; exact hik)
            have htop := bnd_top (ps := ps) (i + 1)
            have hfl := HB.out.fl
            have hLH : Lo ≤ Hi := by rw [← hLo, ← hHi]; exact Nat.div_le_div_right (by omega)
            have hHb : Hi ≤ 2640 := by rw [← hHi]; exact Nat.le_trans (Nat.div_le_self _ _) (by omega)
            have cd := (hW.b.cell (p := ⟨bd, od + i, none⟩) hbd).trans hcd
            have c1 := (hW.b.cell (p := ⟨b1, o1 + i, none⟩) hb1).trans hc1
            have c2 := (hW.b.cell (p := ⟨b2, o2 + i, none⟩) hb2).trans hc2
            have yW := Pac.Cel.later yX hW.b
            have x1 := yW.cell 1
            have x2 := yW.cell 2
            simp at x1 x2
            obtain ⟨x, hx⟩ : ∃ x, ps[i]? = some x := ⟨_, List.getElem?_eq_getElem (by rw [HB.out.len]; exact hik)⟩
            obtain ⟨bs, os, xa, xc, hAR, hbs, hcs, hds⟩ := HB.out.lR.at_ hx
            subst hAR
            have cs := (hW.b.cell (p := ⟨bs, os + i, none⟩) hbs).trans hcs
            have hgd : ps.getD i [] = x := by rw [List.getD_eq_getElem?_getD, hx]; rfl
            have hidl := HB.out.idle i hik
            rw [hgd, hd, hnd] at hidl
            have i0 : (0 : Int) ≤ (i : Int) := Int.natCast_nonneg _
            have i1 : (i : Int) < (k : Int) := by omega
            have rp := HB.out.rp.later hW.b
            have HI := Lib.hid (And.intro hW (And.intro hLo (And.intro hHi (And.intro hnd (And.intro hgd (And.intro hidl (And.intro hds rp)))))))
            clear hW hLo hHi hnd hd hgd hidl hds rp hcd hc1 hc2 hcs hx hbl htop hfl x0 yW
            have hnd2 : (!d) = nd := HI.out.2.2.2.1
            go_wp2_with fail
            go_loop [19, 20] (fun wv kv => ∃ q : Nat, kv = .int .i64 (q : Int) ∧ Lo ≤ q ∧ q ≤ Hi + 1 ∧ wv = .bool (nd && alls arr Lo (q - Lo))) (fun _ kv => Hi + 1 - (intOf kv).toNat)
            case atStart => exact ⟨Lo, rfl, Nat.le_refl _, by omega, by rw [Nat.sub_self]; simp [alls]⟩
            case round =>
              obtain ⟨q, rfl, hq1, hq2, rfl⟩ := hrel
              obtain ⟨wb, hwb⟩ : ∃ wb, (nd && alls arr Lo (q - Lo)) = wb := ⟨_, rfl⟩
              rw [hwb]
              by_cases hq : q ≤ Hi
              · have u1 : decide ((q : Int) ≤ (Hi : Int)) = true := by simpa using hq
                have u1' : decide (q ≤ Hi) = true := by simpa using hq
                obtain ⟨lv, hlv⟩ : ∃ lv, lsf pt q = lv := ⟨_, rfl⟩
                obtain ⟨nl, hnl⟩ : ∃ nl, (!lv) = nl := ⟨_, rfl⟩
                have hnx : (nd && alls arr Lo (q + 1 - Lo)) = (wb && nl) := by
                  rw [show q + 1 - Lo = (q - Lo) + 1 by omega]
                  show (nd && (alls arr Lo (q - Lo) && arr (Lo + (q - Lo)))) = _
                  rw [← Bool.and_assoc, hwb, show Lo + (q - Lo) = q by omega, ← HA.out]
                  show (wb && !lsf pt q) = _
                  rw [hlv, hnl]
                have xl := lost_any pt np q cp Ap wr HI.out.2.2.2.2.2.2.2 (by omega)
                rw [hlv] at xl
                have HX := Lib.hid hnx
                clear hnx hlv hwb
                cases wb with
                | true =>
                  go_wp2_with fail
                  refine xl.mono ?_
                  clear xl
                  rintro e w7 ⟨rfl, rfl⟩
                  go_wp2
                  go_round
                  case rel => exact ⟨q + 1, by go_num, by omega, by omega, by rw [HX.out]; simp⟩
                  case measure => simp [intOf]; omega
                | false =>
                  clear xl
                  go_wp2
                  go_round
                  case rel => exact ⟨q + 1, by go_num, by omega, by omega, by rw [HX.out]; simp⟩
                  case measure => simp [intOf]; omega
              · obtain rfl : q = Hi + 1 := by omega
                have u1 : decide (((Hi + 1 : Nat) : Int) ≤ (Hi : Int)) = false := by simp; omega
                have u1' : decide (Hi + 1 ≤ Hi) = false := by simp
                obtain ⟨hW, hLo, hHi, _, hgd, hidl, hds, _⟩ := HI.out
                have hsel : sel ps (Wt ps z arr) (i + 1) = sel ps (Wt ps z arr) i ++ (if wb then [x] else []) := by
                  rw [sel_succ, hgd, hidl, ← hwb]
                  unfold Wt
                  rw [hLo, hHi]
                have HS := Lib.hid hsel
                clear hsel hwb
                cases wb with
                | false =>
                  have HW := Lib.hid hW
                  clear hW hLo hHi hgd hidl hds
                  go_wp2
                  go_roundw
                  case rel => exact ⟨i + 1, by go_num, hik, by rw [HS.out]; simpa using HW.out⟩
                  case measure => simp [intOf]; omega
                | true =>
                  obtain ⟨⟨qs, hqe, hqo, hq3⟩, hWb⟩ := hW
                  have hqb := sel_len ps (Wt ps z arr) i
                  rw [← hqe, List.length_map] at hqb
                  obtain ⟨qn, hqn⟩ : ∃ qn, qs.length = qn := ⟨_, rfl⟩
                  obtain ⟨AW, cW, rfl, _⟩ := hqo.reads_len enc_ok hqn
                  have HQ := Lib.hid (And.intro hqe (And.intro hqo (And.intro hq3 (And.intro hWb (And.intro hds (And.intro hqn hqb))))))
                  clear hqe hqo hq3 hWb hds hqn hqb hLo hHi hgd hidl
                  go_wp2_with (first
                    | (at_builtin; refine wpList_row _ enc_ok is_lists (by decide) rfl (.tmp 136) (.tmp 141) rfl rfl (HQ.out.2.1.alloc _) (l := [⟨x, xa, xc⟩]) (n := 1) rfl rfl (Rs_new1 enc_ok wr _ _ _ (by simp only [enc])) (by simp) (by have := HQ.out.2.2.2.2.2.2; simp; omega) (by have := HQ.out.2.2.2.1.size; simp; omega) ?_; intro v2 w7 ho7 hg7 hr7; have hW7 := Wn.add HQ.out.2.2.2.1 HQ.out.1 HQ.out.2.1 HQ.out.2.2.1 HQ.out.2.2.2.2.1 rfl hg7 ho7; have HW7 := Lib.hid hW7; clear hW7 ho7 hg7 hr7))
                  go_roundw
                  case rel => exact ⟨i + 1, by go_num, hik, by rw [HS.out]; simpa using HW7.out⟩
                  case measure => simp [intOf]; omega
            -- L2 END
          · obtain rfl : k = i := by omega
            rename World => w8
            obtain ⟨want, hwant⟩ : ∃ want, sel ps (Wt ps z arr) k = want := ⟨_, rfl⟩
            rw [hwant] at hW
            obtain ⟨WL, hWL⟩ : ∃ WL, want.length = WL := ⟨_, rfl⟩
            have hWLb : WL ≤ 40 := by rw [← hWL, ← hwant]; have := sel_len ps (Wt ps z arr) k; omega
            obtain ⟨AW, cW, rfl, lW⟩ := hW.list hWL
            have yW := Pac.Cel.later yX hW.b
            have x1 := yW.cell 0
            simp at x1
            have hXl := yW.lt
            have HW := Lib.hid (And.intro hW.b (And.intro lW (And.intro hwant (And.intro hWL hXl))))
            clear hW hwant hWL lW yX x0 hi hik hXl
            go_wp2_with fail
            refine (UL.new (w0 := w8) (Below.refl _ _)).mono ?_
            rintro e w10 ⟨g, F0, rfl, U0, b10, n10⟩
            have G0 : Gt w8 w10 g F0 US0 (.slice none 0 0) [] := ⟨U0, [], LO.nil_ _ _ _ _, fun _ hx => nomatch hx⟩
            have HG0 := Lib.hid G0
            clear U0 b10 n10 G0 yW x1
            go_wp2_with fail
            go_loopw [17, 22, 23, 24] (fun gv bv mv kv wr => ∃ (j : Nat) (o : Option Nat) (i : Nat) (x : List Byte) (gd : Bool) (F : List Nat) (s : US), kv = .int .i64 (j : Int) ∧ bv = .int .i64 (bef o) ∧ mv = .int .i64 (s.lo : Int) ∧ j ≤ NF ∧ Rn ps z arr j i x gd ∧ Vw s st j (kp gd x) o ∧ s.lo ≤ 200 * j ∧ Gt w8 wr g F s gv (sel ps (Wt ps z arr) i)) (fun _ _ _ kv _ => NF - (intOf kv).toNat)
            case atStart => exact ⟨0, none, 0, [], true, F0, US0, rfl, rfl, rfl, Nat.zero_le _, Rn.start, .none_ rfl rfl, Nat.zero_le _, HG0.out⟩
            case round =>
              obtain ⟨j, o, i, x, gd, F, s, rfl, rfl, rfl, hj, hR, hV, hlo, hG⟩ := hrel
              clear HG0
              have x0 : wr.cell? ⟨X, 0, none⟩ = some (.slice AF NF kF) := by
                have := (Pac.Cel.later (Pac.Cel.later HX.out HW.out.1) hG.u.b).cell 0
                simpa using this
              obtain ⟨lo, hsl⟩ : ∃ lo, s.lo = lo := ⟨_, rfl⟩
              rw [hsl] at hlo ⊢
              by_cases hjN : j < NF
              · -- L3 BEGIN
                obtain ⟨i', x', hQ, _, hAr, hNa⟩ := hR.step HB.out.z1 HB.out.wp ((HB.out.cu.nf j).1 hjN)
                obtain ⟨lv, hlv⟩ : ∃ lv, lsf pt j = lv := ⟨_, rfl⟩
                have harr : arr j = !lv := by rw [← HA.out, ← hlv]
                have xl := lost_any pt np j cp Ap wr ((HB.out.rp.later HW.out.1).later hG.u.b) (by omega)
                rw [hlv] at xl
                have i0 : (0 : Int) ≤ (j : Int) := Int.natCast_nonneg _
                have i1 : (j : Int) < (NF : Int) := by omega
                have hlob : lo ≤ 40000 := by omega
                cases lv with
                | true =>
                  obtain ⟨hn1, hn2⟩ := hNa harr
                  have HN := Lib.hid (And.intro hn1 (And.intro hn2 (And.intro (hV.skip (by omega)) (And.intro hG (And.intro hsl hlo)))))
                  clear hn1 hn2 hV hG hsl hlo hQ hAr hNa hR hlv harr
                  go_wp2_with fail
                  refine xl.mono ?_
                  clear xl
                  rintro e w11 ⟨rfl, rfl⟩
                  go_wp2
                  go_roundw
                  case rel => exact ⟨j + 1, o, i', x', false, F, s, by go_num, rfl, by rw [HN.out.2.2.2.2.1], hjN, HN.out.1, HN.out.2.2.1, by have := HN.out.2.2.2.2; omega, by rw [HN.out.2.1]; exact HN.out.2.2.2.1⟩
                  case measure => simp [intOf]; omega
                | false =>
                  obtain ⟨hr1, hr2⟩ := hAr harr
                  -- the field
                  obtain ⟨fs, hfn, hfr, hfo⟩ := HB.out.cu.fl
                  obtain ⟨of0, hof0⟩ : ∃ of0, fs[j]? = some of0 := ⟨_, List.getElem?_eq_getElem (by omega)⟩
                  obtain ⟨bf, of_, hAF, hbf, hcf⟩ := hfr.at_ (i := j) (by omega)
                  have hfok := hfo j of0 hof0
                  have hge : fs[j]'(by omega) = of0 := by rw [List.getElem?_eq_getElem (by omega)] at hof0; injection hof0
                  rw [hge] at hcf
                  obtain ⟨C, f, fa, fn, fc, fd⟩ := of0
                  have q0 := hcf 0 _ rfl
                  have q1 := hcf 1 _ rfl
                  have q2 := hcf 2 _ rfl
                  rw [Nat.add_zero] at q0
                  subst hAF
                  obtain ⟨hct, hfst, hfd, hfrd, bb, ob, hfa, hbb⟩ := hfok
                  dsimp only at hct hfst hfd hfrd hfa
                  -- what is known of the step
                  obtain ⟨e, he⟩ : ∃ e, min ((j + 1) * z) ps.flatten.length = e := ⟨_, rfl⟩
                  have hjz := (HB.out.cu.nf j).1 hjN
                  have hjz2 : (j + 1) * z = j * z + z := Nat.succ_mul j z
                  obtain ⟨a, ha⟩ : ∃ a, j * z = a := ⟨_, rfl⟩
                  have hz2 := HB.out.z2
                  have hz1 := HB.out.z1
                  rw [ha] at hjz hjz2 hfst hfd
                  rw [he] at hfst hfd hQ
                  have hae : a < e := by omega
                  have hee : e ≤ ps.flatten.length := by omega
                  have hsz : e - a ≤ 2046 := by omega
                  have hPa := hR.p
                  rw [ha, Nat.min_eq_left (by omega)] at hPa
                  have hstep := step HB.out.wp hPa hQ hae hee hfst hsz gd
                  rw [List.drop_take, ← hfd] at hstep
                  have hfl2 := hfst.lt hsz
                  have hdl : fd.length = e - a := by rw [hfd, List.length_take, List.length_drop]; omega
                  have hfnl := hfrd.len
                  obtain ⟨v1', v2', v3'⟩ := hV.take (f := f) (d := fd) (by rw [hdl]; exact hfl2.1) hfl2.2
                  rw [hstep] at v1' v3'
                  rw [← hct] at v1' v2' v3'
                  obtain ⟨s2, hs2⟩ : ∃ s2, tkS s (C : Int) (f : Int) fd = s2 := ⟨_, rfl⟩
                  obtain ⟨O, hO⟩ : ∃ O, ((ps.take i').drop (fro gd i x)).filter ni = O := ⟨_, rfl⟩
                  rw [hs2] at v1' v2'
                  dsimp only at v1' v3'
                  rw [hO] at v3' hr2
                  obtain ⟨KO, hKO⟩ : ∃ KO, O.length = KO := ⟨_, rfl⟩
                  have hfb : f ≤ 2047 := by have := hfl2.1; omega
                  have hCb : C < 256 := by omega
                  have hKb : KO ≤ 40 := by
                    have h1 := sel_len ps (Wt ps z arr) i'
                    have h2 := hQ.le
                    have h3 := HB.out.len
                    have h4 := HB.out.n40
                    rw [hr2, List.length_append, hKO] at h1
                    omega
                  obtain ⟨GL, hGL⟩ : ∃ GL, (sel ps (Wt ps z arr) i).length = GL := ⟨_, rfl⟩
                  have hGb : GL ≤ 40 := by
                    have h1 := sel_len ps (Wt ps z arr) i'
                    have h2 := hQ.le
                    have h3 := HB.out.len
                    have h4 := HB.out.n40
                    rw [hr2, List.length_append, hGL] at h1
                    omega
                  have hb68 := HW.out.1
                  have hfrw := (hfrd.later hb68).later hG.u.b
                  have hbd : Below w8.heap.size w8 wr.drew := hG.u.b.trans ⟨rfl, rfl, rfl, Nat.le_refl _, fun _ _ => rfl⟩
                  have hGd : Gt w8 wr.drew g F s _ _ := hG.below ⟨rfl, rfl, rfl, Nat.le_refl _, fun _ _ => rfl⟩
                  have xt := hGd.take (ct := (C : Int)) (f := (f : Int)) (by omega) (hfrw.later ⟨rfl, rfl, rfl, Nat.le_refl _, fun _ _ => rfl⟩) (by omega) (fun _ => by rw [hfa]; exact Of_blk (fun y hy => by have := hG.u.lo y hy; have := hb68.size; omega) (Nat.lt_of_lt_of_le hbb (Nat.le_trans hb68.size hbd.size))) hs2 v3' hKO
                  have hS : ∀ W, Below w8.heap.size w8 W → (fun W => W.cell? ⟨X, 0, none⟩ = some (.slice (some ⟨bf, of_, none⟩) NF kF) ∧ W.cell? ⟨bf, of_ + j * 3, none⟩ = some (.int .i64 (C : Int)) ∧ W.cell? ⟨bf, of_ + j * 3 + 1, none⟩ = some (.int .i64 (f : Int)) ∧ W.cell? ⟨bf, of_ + j * 3 + 2, none⟩ = some (.slice fa fn fc)) W := fun W hk => by
                    have hX8 := Pac.Cel.later HX.out hb68
                    have hc := (Pac.Cel.later hX8 hk).cell 0
                    exact ⟨by simpa using hc, ((hk.cell (p := ⟨bf, of_ + j * 3, none⟩) (Nat.lt_of_lt_of_le hbf hb68.size)).trans (hb68.cell (p := ⟨bf, of_ + j * 3, none⟩) hbf)).trans q0, ((hk.cell (p := ⟨bf, of_ + j * 3 + 1, none⟩) (Nat.lt_of_lt_of_le hbf hb68.size)).trans (hb68.cell (p := ⟨bf, of_ + j * 3 + 1, none⟩) hbf)).trans q1, ((hk.cell (p := ⟨bf, of_ + j * 3 + 2, none⟩) (Nat.lt_of_lt_of_le hbf hb68.size)).trans (hb68.cell (p := ⟨bf, of_ + j * 3 + 2, none⟩) hbf)).trans q2⟩
                  obtain ⟨L2, hL2⟩ : ∃ L2, s2.lo = L2 := ⟨_, rfl⟩
                  have hL2e : L2 = lo + msn o j := by rw [← hL2, v2', hsl]
                  have hml : msn o j ≤ 200 := by cases o <;> simp only [msn] <;> omega
                  have hbj : ∀ b, o = some b → b < j := fun b hb => by
                    subst hb
                    cases hV with
                    | some_ _ h1 => exact h1
                  have HN := Lib.hid (And.intro hr1 (And.intro hr2 (And.intro v1' (And.intro hL2 (And.intro (show L2 ≤ 200 * (j + 1) by omega) (And.intro hGL hKO))))))
                  have HS := Lib.hid hS
                  have HXT := Lib.hid xt
                  have HBD := Lib.hid hbd
                  clear hr1 hr2 v1' v2' v3' hs2 hO hKO hS xt hbd hGd hfrw hb68 hstep hfl2 hdl hfnl hPa hsz hee hae hz2 hz1 hjz hjz2 ha he hfst hfd hct hfrd hfa hbb hge hcf hof0 hfo hfr hfn q0 q1 q2 hbf hQ hAr hNa hR hlv harr hV hG hsl hGL hL2
                  go_wp2_with fail
                  refine xl.mono ?_
                  clear xl
                  rintro e w11 ⟨rfl, hw11⟩
                  subst hw11
                  obtain ⟨tb, htb⟩ : ∃ tb, decide ((0 : Int) ≤ bef o) = tb := ⟨_, rfl⟩
                  obtain ⟨bv0, hbv0⟩ : ∃ bv0 : Int, bef o = bv0 := ⟨_, rfl⟩
                  rw [hbv0] at htb ⊢
                  have HT := Lib.hid hbv0
                  clear hbv0
                  go_upto_if 155 with fail
                  go_cut [23] from 156 to 161 (fun mv wx => mv = .int .i64 (L2 : Int) ∧ wx = wr)
                  case first =>
                    cases o with
                    | none =>
                      have hb0 : (-1 : Int) = bv0 := HT.out
                      subst hb0
                      have hm0 : L2 = lo := by simpa [msn] using hL2e
                      obtain rfl : false = tb := htb
                      clear hL2e hml hbj
                      subst hm0
                      go_wp2
                      go_meet
                      case rel => exact ⟨rfl, rfl⟩
                    | some b =>
                      have hb0 : (b : Int) = bv0 := HT.out
                      subst hb0
                      have hbl := hbj b rfl
                      have hm0 : L2 = lo + (j - b - 1) := hL2e
                      obtain rfl : true = tb := by rw [← htb]; simp
                      obtain ⟨D1, hD1⟩ : ∃ D1, j - b = D1 := ⟨_, rfl⟩
                      obtain ⟨D2, hD2⟩ : ∃ D2, D1 - 1 = D2 := ⟨_, rfl⟩
                      have d1 : (j : Int) - (b : Int) = (D1 : Int) := by omega
                      have d2 : (D1 : Int) - 1 = (D2 : Int) := by omega
                      have d3 : (lo : Int) + (D2 : Int) = (L2 : Int) := by omega
                      have hLb : L2 ≤ 50000 := by omega
                      have hDb : D1 ≤ 200 := by omega
                      have hDb2 : D2 ≤ 200 := by omega
                      clear htb hL2e hml hbj hm0 hD1 hD2
                      go_wp2
                      go_meet
                      case rel => exact ⟨rfl, rfl⟩
                  case rest =>
                    obtain ⟨rfl, rfl⟩ := hcut
                    rename World => wr
                    clear htb hL2e hml hbj
                    go_upto_region 39 with fail
                    have hS := HS.out
                    have hbd := HBD.out
                    clear x0
                    refine wp_region_held_drew (S := fun W => W.cell? ⟨X, 0, none⟩ = some (.slice (some ⟨bf, of_, none⟩) NF kF) ∧ W.cell? ⟨bf, of_ + j * 3, none⟩ = some (.int .i64 (C : Int)) ∧ W.cell? ⟨bf, of_ + j * 3 + 1, none⟩ = some (.int .i64 (f : Int)) ∧ W.cell? ⟨bf, of_ + j * 3 + 2, none⟩ = some (.slice fa fn fc)) (by kernel_rfl) (hS _ hbd) (fun hHeld => ?_)
                    refine wpAnyH_here 0 (v := ?_) rfl (by kernel_rfl) (by kernel_rfl) (by kernel_rfl) (fun _ _ _ h => h) (Or.inl ⟨by rfl, ?_⟩) hHeld ?_
                    rotate_left
                    · intro w hSw; (try dsimp only at hSw); go_simp; all_goals (with_reducible rfl)
                    try simp only [Act.put, List.setIfInBounds_toArray, List.set_cons_zero, List.set_cons_succ]
                    refine wpAnyH_here 1 (v := ?_) rfl (by kernel_rfl) (by kernel_rfl) (by kernel_rfl) (fun _ _ _ h => h) (Or.inl ⟨by rfl, ?_⟩) hHeld ?_
                    rotate_left
                    · intro w hSw; (try dsimp only at hSw); go_simp; all_goals (with_reducible rfl)
                    try simp only [Act.put, List.setIfInBounds_toArray, List.set_cons_zero, List.set_cons_succ]
                    refine wpAnyH_here 2 (v := ?_) rfl (by kernel_rfl) (by kernel_rfl) (by kernel_rfl) (fun _ _ _ h => h) (Or.inl ⟨by rfl, ?_⟩) hHeld ?_
                    rotate_left
                    · intro w hSw; (try dsimp only at hSw); go_simp; all_goals (with_reducible rfl)
                    try simp only [Act.put, List.setIfInBounds_toArray, List.set_cons_zero, List.set_cons_succ]
                    refine wpAnyH_here 3 (v := ?_) rfl (by kernel_rfl) (by kernel_rfl) (by kernel_rfl) (fun _ _ _ h => h) (Or.inl ⟨by rfl, ?_⟩) hHeld ?_
                    rotate_left
                    · intro w hSw; (try dsimp only at hSw); go_simp; all_goals (with_reducible rfl)
                    try simp only [Act.put, List.setIfInBounds_toArray, List.set_cons_zero, List.set_cons_succ]
                    refine wpAnyH_here 4 (v := ?_) rfl (by kernel_rfl) (by kernel_rfl) (by kernel_rfl) (fun _ _ _ h => h) (Or.inl ⟨by rfl, ?_⟩) hHeld ?_
                    rotate_left
                    · intro w hSw; (try dsimp only at hSw); go_simp; all_goals (with_reducible rfl)
                    try simp only [Act.put, List.setIfInBounds_toArray, List.set_cons_zero, List.set_cons_succ]
                    refine wpAnyH_here 5 (v := ?_) rfl (by kernel_rfl) (by kernel_rfl) (by kernel_rfl) (fun _ _ _ h => h) (Or.inl ⟨by rfl, ?_⟩) hHeld ?_
                    rotate_left
                    · intro w hSw; (try dsimp only at hSw); go_simp; all_goals (with_reducible rfl)
                    try simp only [Act.put, List.setIfInBounds_toArray, List.set_cons_zero, List.set_cons_succ]
                    refine wpAnyH_here 6 (v := ?_) rfl (by kernel_rfl) (by kernel_rfl) (by kernel_rfl) (fun _ _ _ h => h) (Or.inl ⟨by rfl, ?_⟩) hHeld ?_
                    rotate_left
                    · intro w hSw; (try dsimp only at hSw); go_simp; all_goals (with_reducible rfl)
                    try simp only [Act.put, List.setIfInBounds_toArray, List.set_cons_zero, List.set_cons_succ]
                    refine wpAnyH_here 7 (v := ?_) rfl (by kernel_rfl) (by kernel_rfl) (by kernel_rfl) (fun _ _ _ h => h) (Or.inl ⟨by rfl, ?_⟩) hHeld ?_
                    rotate_left
                    · intro w hSw; (try dsimp only at hSw); go_simp; all_goals (with_reducible rfl)
                    try simp only [Act.put, List.setIfInBounds_toArray, List.set_cons_zero, List.set_cons_succ]
                    refine wpAnyH_here 8 (v := ?_) rfl (by kernel_rfl) (by kernel_rfl) (by kernel_rfl) (fun _ _ _ h => h) (Or.inl ⟨by rfl, ?_⟩) hHeld ?_
                    rotate_left
                    · intro w hSw; (try dsimp only at hSw); go_simp; all_goals (with_reducible rfl)
                    try simp only [Act.put, List.setIfInBounds_toArray, List.set_cons_zero, List.set_cons_succ]
                    refine wpAnyH_here 9 (v := ?_) rfl (by kernel_rfl) (by kernel_rfl) (by kernel_rfl) (fun _ _ _ h => h) (Or.inl ⟨by rfl, ?_⟩) hHeld ?_
                    rotate_left
                    · intro w hSw; (try dsimp only at hSw); go_simp; all_goals (with_reducible rfl)
                    try simp only [Act.put, List.setIfInBounds_toArray, List.set_cons_zero, List.set_cons_succ]
                    refine wpAnyH_here 10 (v := ?_) rfl (by kernel_rfl) (by kernel_rfl) (by kernel_rfl) (fun _ _ _ h => h) (Or.inl ⟨by rfl, ?_⟩) hHeld ?_
                    rotate_left
                    · intro w hSw; (try dsimp only at hSw); go_simp; all_goals (with_reducible rfl)
                    try simp only [Act.put, List.setIfInBounds_toArray, List.set_cons_zero, List.set_cons_succ]
                    refine wpAnyH_here 11 (v := ?_) rfl (by kernel_rfl) (by kernel_rfl) (by kernel_rfl) (fun _ _ _ h => h) (Or.inl ⟨by rfl, ?_⟩) hHeld ?_
                    rotate_left
                    · intro w hSw; (try dsimp only at hSw); go_simp; all_goals (with_reducible rfl)
                    try simp only [Act.put, List.setIfInBounds_toArray, List.set_cons_zero, List.set_cons_succ]
                    refine wpAnyH_here 12 (v := ?_) rfl (by kernel_rfl) (by kernel_rfl) (by kernel_rfl) (fun _ _ _ h => h) (Or.inl ⟨by rfl, ?_⟩) hHeld ?_
                    rotate_left
                    · intro w hSw; (try dsimp only at hSw); go_simp; all_goals (with_reducible rfl)
                    try simp only [Act.put, List.setIfInBounds_toArray, List.set_cons_zero, List.set_cons_succ]
                    refine wpAnyH_here 13 (v := ?_) rfl (by kernel_rfl) (by kernel_rfl) (by kernel_rfl) (fun _ _ _ h => h) (Or.inl ⟨by rfl, ?_⟩) hHeld ?_
                    rotate_left
                    · intro w hSw; (try dsimp only at hSw); go_simp; all_goals (with_reducible rfl)
                    try simp only [Act.put, List.setIfInBounds_toArray, List.set_cons_zero, List.set_cons_succ]
                    refine wpAnyH_here 14 (v := ?_) rfl (by kernel_rfl) (by kernel_rfl) (by kernel_rfl) (fun _ _ _ h => h) (Or.inl ⟨by rfl, ?_⟩) hHeld ?_
                    rotate_left
                    · intro w hSw; (try dsimp only at hSw); go_simp; all_goals (with_reducible rfl)
                    try simp only [Act.put, List.setIfInBounds_toArray, List.set_cons_zero, List.set_cons_succ]
                    refine wpAnyH_here 15 (v := ?_) rfl (by kernel_rfl) (by kernel_rfl) (by kernel_rfl) (fun _ _ _ h => h) (Or.inl ⟨by rfl, ?_⟩) hHeld ?_
                    rotate_left
                    · intro w hSw; (try dsimp only at hSw); go_simp; all_goals (with_reducible rfl)
                    try simp only [Act.put, List.setIfInBounds_toArray, List.set_cons_zero, List.set_cons_succ]
                    refine wpAnyH_here 16 (v := ?_) rfl (by kernel_rfl) (by kernel_rfl) (by kernel_rfl) (fun _ _ _ h => h) (Or.inl ⟨by rfl, ?_⟩) hHeld ?_
                    rotate_left
                    · intro w hSw; (try dsimp only at hSw); go_simp; all_goals (with_reducible rfl)
                    try simp only [Act.put, List.setIfInBounds_toArray, List.set_cons_zero, List.set_cons_succ]
                    refine wpAnyH_here 17 (v := ?_) rfl (by kernel_rfl) (by kernel_rfl) (by kernel_rfl) (fun _ _ _ h => h) (Or.inl ⟨by rfl, ?_⟩) hHeld ?_
                    rotate_left
                    · intro w hSw; (try dsimp only at hSw); go_simp; all_goals (with_reducible rfl)
                    try simp only [Act.put, List.setIfInBounds_toArray, List.set_cons_zero, List.set_cons_succ]
                    refine wpAnyH_here 18 (v := ?_) rfl (by kernel_rfl) (by kernel_rfl) (by kernel_rfl) (fun _ _ _ h => h) (Or.inl ⟨by rfl, ?_⟩) hHeld ?_
                    rotate_left
                    · intro w hSw; (try dsimp only at hSw); go_simp; all_goals (with_reducible rfl)
                    try simp only [Act.put, List.setIfInBounds_toArray, List.set_cons_zero, List.set_cons_succ]
                    refine wpAnyH_here 19 (v := ?_) rfl (by kernel_rfl) (by kernel_rfl) (by kernel_rfl) (fun _ _ _ h => h) (Or.inl ⟨by rfl, ?_⟩) hHeld ?_
                    rotate_left
                    · intro w hSw; (try dsimp only at hSw); go_simp; all_goals (with_reducible rfl)
                    try simp only [Act.put, List.setIfInBounds_toArray, List.set_cons_zero, List.set_cons_succ]
                    refine wpAnyH_alone 20 rfl (by kernel_rfl) (fun K_ hK => ?_)
                    go_simp
                    refine HXT.out.mono ?_
                    clear HXT
                    rintro e w11 ⟨A4, k4, F4, rfl, G2, _⟩
                    obtain ⟨u4, ⟨E4, l4, hE4⟩, ⟨E5, l5, hE5⟩⟩ := G2
                    obtain ⟨qs, AG, kG, rfl, hqn, hqe, hqo, _, _, hq3⟩ := l4.parts HN.out.2.2.2.2.2.1
                    obtain ⟨qs2, A5, k5, he5, hqn2, hqe2, hqo2, hqr2, hqz2, hq32⟩ := l5.parts HN.out.2.2.2.2.2.2
                    cases he5
                    refine hK.out _ _ (hS _ u4.b) (fun hHeld => ?_)
                    clear hK K_
                    try simp only [Act.put, List.setIfInBounds_toArray, List.set_cons_zero, List.set_cons_succ]
                    refine wpAnyH_alone 21 rfl (by kernel_rfl) (fun K_ hK => ?_)
                    refine Row.step_row _ enc_ok is_lists (by decide) rfl (.tmp 163) (.tmp 183) rfl (m := qs) rfl hqo (l := qs2) (n := KO) (A := A4) (c := k4) hqn2 rfl hqr2 hqz2 (by rw [hqn, hqn2]; omega) u4.b.size ?_
                    intro gv6 w12 ho6 hg6 _
                    have hG6 := Gt2.app u4 l4 hE4 l5 hE5 hqe hq3 hqe2 hq32 rfl hg6 ho6
                    rw [← HN.out.2.1] at hG6
                    refine hK.out _ _ (hS _ hG6.u.b) (fun hHeld => ?_)
                    clear hK K_
                    try simp only [Act.put, List.setIfInBounds_toArray, List.set_cons_zero, List.set_cons_succ]
                    refine wpAnyH_here 22 (v := ?_) rfl (by kernel_rfl) (by kernel_rfl) (by kernel_rfl) (fun _ _ _ h => h) (Or.inl ⟨by rfl, ?_⟩) hHeld ?_
                    rotate_left
                    · intro w hSw; (try dsimp only at hSw); go_simp; all_goals (with_reducible rfl)
                    try simp only [Act.put, List.setIfInBounds_toArray, List.set_cons_zero, List.set_cons_succ]
                    refine wpAnyH_done (by kernel_rfl) ?_ _
                    have HG6 := Lib.hid hG6
                    clear hG6 hHeld hS hbd HS HBD ho6 hg6 u4 l4 hE4 l5 hE5 hqe hq3 hqe2 hq32 hqo hqo2 hqr2 hqz2 hqn hqn2
                    go_wp2_with fail
                    go_roundw
                    case rel => exact ⟨j + 1, some j, i', x', _, F4, s2, by go_num, rfl, by rw [HN.out.2.2.2.1], hjN, HN.out.1, HN.out.2.2.1, by have h1 := HN.out.2.2.2.1; have h2 := HN.out.2.2.2.2.1; omega, HG6.out⟩
                    case measure => simp [intOf]; omega
                -- L3 END
              · -- L4 BEGIN
                obtain rfl : NF = j := by omega
                have hnl : ¬ NF * z < ps.flatten.length := fun h => by have := (HB.out.cu.nf NF).2 h; omega
                have hP := hR.p
                rw [Nat.min_eq_right (by omega)] at hP
                obtain ⟨hi, _⟩ := hP.last HB.out.wp
                have hsel : sel ps (Wt ps z arr) i = want := by rw [hi, HB.out.len]; exact HW.out.2.2.1
                rw [hsel] at hG
                obtain ⟨u4, E4, l4, _⟩ := hG
                obtain ⟨AG, cG, rfl, lG, _⟩ := l4.len HW.out.2.2.2.1
                have y1 := Same_of (c1 := cG) (c2 := cW) (n := WL) wr lG ((HW.out.2.1.below u4.b).more u4.b.size) HW.out.2.2.2.1 (by omega)
                have b6r := HB.out.cu.b.trans ((HW.out.1.trans (u4.b.mono HW.out.1.size)).mono HB.out.cu.b.size)
                have HU := Lib.hid (And.intro u4 (And.intro hsl b6r))
                have hq : ((lo : Int) == (lo : Int)) = true := by simp
                clear hnl hP hi hsel u4 l4 lG b6r hR hV hlo hsl
                go_wp2_with fail
                refine y1.mono ?_
                clear y1
                rintro e w11 ⟨rfl, b5⟩
                have y2 := (HU.out.1.below b5).lost
                rw [HU.out.2.1] at y2
                have HU5 := Lib.hid b5
                clear b5
                go_wp2_with fail
                refine y2.mono ?_
                clear y2
                rintro e w12 ⟨rfl, hw12⟩
                subst hw12
                go_wp2_with fail
                refine (alive20_any _).mono ?_
                rintro e w13 ⟨rfl, b7⟩
                go_wp2
                go_ret
                exact ⟨rfl, HU.out.2.2.trans ((HU5.out.trans (b7.mono HU5.out.size)).mono HU.out.2.2.size)⟩
                -- L4 END

set_option maxRecDepth 100000 in
set_option maxHeartbeats 2000000 in
theorem unpackerBack_walk (A Aa Ap : Option Addr) (l : List (List Byte)) (ap pt : List Byte) (n c na ca np cp sz st : Nat) (w : World) (hl : l.length = n) (hps : LS w w.heap.size A l) (ha : Rd w Aa ap na ca) (hp : Rd w Ap pt np cp) (hsz : sz ≤ 255) (hst : st ≤ 255) :
    Calls Try.prog 4 #[.slice A n c, .slice Aa na ca, .int .u8 (sz : Int), .int .u8 (st : Int), .slice Ap np cp] w fun e w' => e = .returned (.bool true) ∧ Below w.heap.size w w' := by
  by_cases h1 : 40 < n
  · have t1 : decide ((40 : Int) < (n : Int)) = true := by simp; omega
    have t1' : decide (40 < n) = true := by simpa using h1
    clear h1 hl hps ha hp
    go_enter Try.func4, Try.ntmps4
    go_wp2_with fail
    refine (alive20_any _).mono ?_
    rintro e w1 ⟨rfl, b1⟩
    go_wp2
    go_ret
    exact ⟨rfl, b1⟩
  · have t1 : decide ((40 : Int) < (n : Int)) = false := by simp; omega
    have t1' : decide (40 < n) = false := by simpa using h1
    by_cases h2 : 30 < np
    · have t2 : decide ((30 : Int) < (np : Int)) = true := by simp; omega
      have t2' : decide (30 < np) = true := by simpa using h2
      clear h1 h2 hl hps ha hp
      go_enter Try.func4, Try.ntmps4
      go_wp2_with fail
      refine (alive20_any _).mono ?_
      rintro e w1 ⟨rfl, b1⟩
      go_wp2
      go_ret
      exact ⟨rfl, b1⟩
    · exact unpackerBack_ok A Aa Ap l ap pt n c na ca np cp sz st w (Lib.hid hl) hps ha hp (by omega) (by omega) hsz hst
end Go.Proofs.Ytcmonalnhdodmaa.Unp
