/-
  The law UnpackerSizes.
-/
import Derived.Test.YtcmonalnhdodmaaLaw20g
import Derived.Test.YtcmonalnhdodmaaUnpFld
import Derived.Deep.CutRange
import Derived.Deep.CutBlock
namespace Go.Proofs.Ytcmonalnhdodmaa.Unp
open Go.RowKit Go.Proofs.Ytcmonalnhdodmaa.Row Lst Ints
open Pac (bel_new)

/-- the packets of the law -/
def pks (g : Nat → Nat) (l : List (List Byte)) : List (List Byte) := l.mapIdx fun i x => wrp (g i) x
theorem pks_at {g : Nat → Nat} {l : List (List Byte)} {i : Nat} {x : List Byte} (h : l[i]? = some x) : (pks g l)[i]? = some (wrp (g i) x) := by
  unfold pks
  rw [List.getElem?_mapIdx, h]
  rfl
theorem pks_len {g : Nat → Nat} {l : List (List Byte)} : (pks g l).length = l.length := by unfold pks; rw [List.length_mapIdx]
/-- as far as k every text is of the asked length -/
def Ok60 (l : List (List Byte)) (k : Nat) : Prop := ∀ j x, j < k → l[j]? = some x → 1 ≤ x.length ∧ x.length ≤ 60
theorem Ok60.next {l : List (List Byte)} {k : Nat} {x : List Byte} (h : Ok60 l k) (hx : l[k]? = some x) (h1 : 1 ≤ x.length) (h2 : x.length ≤ 60) : Ok60 l (k + 1) := fun j y hj hy => by
  by_cases hjk : j = k
  · subst hjk
    rw [hx] at hy
    injection hy with hy
    subst hy
    exact ⟨h1, h2⟩
  · exact h j y (by omega) hy
theorem pks_wp {g : Nat → Nat} {l : List (List Byte)} (h : Ok60 l l.length) (hg : ∀ i, i < l.length → g i ≤ 2047) : ∀ p ∈ pks g l, Wp p := fun p hp => by
  obtain ⟨i, hi⟩ := List.getElem?_of_mem hp
  have hl := (List.getElem?_eq_some_iff.1 hi).1
  rw [pks_len] at hl
  obtain ⟨x, hx⟩ : ∃ x, l[i]? = some x := ⟨_, List.getElem?_eq_getElem hl⟩
  rw [pks_at hx] at hi
  injection hi with hi
  subst hi
  obtain ⟨h1, h2⟩ := h i x hl hx
  exact wrp_wp (hg i hl) h1 h2
theorem pks_flat {g : Nat → Nat} {l : List (List Byte)} {k : Nat} (h : Ok60 l k) : ((pks g l).take k).flatten.length ≤ 66 * k := by
  induction k with
  | zero => simp
  | succ k ih =>
    have ih := ih (fun j x hj hx => h j x (by omega) hx)
    rw [List.take_add_one, List.flatten_append, List.length_append]
    by_cases hk : k < l.length
    · obtain ⟨x, hx⟩ : ∃ x, l[k]? = some x := ⟨_, List.getElem?_eq_getElem hk⟩
      rw [pks_at hx]
      have := (h k x (by omega) hx).2
      have := wrp_len (ap := g k) (l := x)
      simp only [Option.toList_some, List.flatten_cons, List.flatten_nil, List.append_nil]
      omega
    · have : (pks g l)[k]? = none := List.getElem?_eq_none (by rw [pks_len]; omega)
      rw [this]
      simp only [Option.toList_none, List.flatten_nil, List.length_nil]
      omega
/-- the boundaries that are laid -/
def bds (ps : List (List Byte)) (k : Nat) : List Int := (List.range k).map fun i => ((bnd ps i : Nat) : Int)
theorem bds_succ (ps : List (List Byte)) (k : Nat) : bds ps (k + 1) = bds ps k ++ [((bnd ps k : Nat) : Int)] := by unfold bds; rw [List.range_succ, List.map_append]; rfl
theorem bds_len (ps : List (List Byte)) (k : Nat) : (bds ps k).length = k := by simp [bds]
theorem bds_at {ps : List (List Byte)} {k i : Nat} (h : i < k) : (bds ps k)[i]? = some ((bnd ps i : Nat) : Int) := by
  unfold bds
  rw [List.getElem?_map, List.getElem?_range h]
  rfl

set_option maxRecDepth 100000 in
set_option maxHeartbeats 16000000 in
theorem unpackerSizes_ok (A As : Option Addr) (l : List (List Byte)) (zs : List Byte) (n c m cs : Nat) (w : World) (hl : Hid (l.length = n)) (hps : LS w w.heap.size A l) (hz : Rd w As zs m cs) (hn : n ≤ 40) (hm : m ≤ 60) (hm1 : 1 ≤ m) :
    Calls Try.prog 5 #[.slice A n c, .slice As m cs] w fun e w' => e = .returned (.bool true) ∧ Below w.heap.size w w' := by
  have t1 : decide ((40 : Int) < (n : Int)) = false := by simp; omega
  have t1' : decide (40 < n) = false := by simp; omega
  have t2 : decide ((60 : Int) < (m : Int)) = false := by simp; omega
  have t2' : decide (60 < m) = false := by simp; omega
  have t3 : ((m : Int) == 0) = false := by simp; omega
  obtain ⟨ps, hpks⟩ : ∃ ps, pks (fun i => i) l = ps := ⟨_, rfl⟩
  have hpl : ps.length = n := by rw [← hpks, pks_len, hl.out]
  have HP := Lib.hid (And.intro hpks (And.intro hn (And.intro hm (And.intro hm1 hpl))))
  have z0 := Z1.start w
  clear hn hm hm1 hpks hpl
  go_enter Try.func5, Try.ntmps5
  go_wp2_with fail
  go_loopw [5, 6, 7, 8] (fun R V B iv wr => ∃ k : Nat, iv = .int .i64 (k : Int) ∧ k ≤ n ∧ Ok60 l k ∧ Z1 w wr R V B (ps.take k) (ps.take k).flatten (bds ps k)) (fun _ _ _ iv _ => n - (intOf iv).toNat)
  case atStart => exact ⟨0, rfl, Nat.zero_le _, fun j x hj => by omega, z0⟩
  case round =>
    obtain ⟨k, rfl, hk, hok, hZ⟩ := hrel
    clear z0
    by_cases hkn : k < n
    · obtain ⟨x, hx⟩ : ∃ x, l[k]? = some x := ⟨_, List.getElem?_eq_getElem (by rw [hl.out]; exact hkn)⟩
      obtain ⟨b, off, xa, xc, rfl, hb, hcell, hdt⟩ := hps.at_ hx
      have c0 := (hZ.b.cell (p := ⟨b, off + k, none⟩) hb).trans hcell
      obtain ⟨M, hM⟩ : ∃ M, x.length = M := ⟨_, rfl⟩
      rw [hM] at hcell c0
      have rX : Rd wr xa x M xc := ⟨hM, (hdt.b.below hZ.b).more hZ.b.size, hdt.n, by rw [← hM]; exact hdt.l, hdt.m⟩
      have i0 : (0 : Int) ≤ (k : Int) := Int.natCast_nonneg _
      have i1 : (k : Int) < (n : Int) := by omega
      by_cases h1 : M < 1
      · have u1 : decide ((M : Int) < 1) = true := by simp; omega
        have u1' : decide (M < 1) = true := by simpa using h1
        have HZ := Lib.hid hZ
        clear hZ h1 rX hdt hM hcell hx
        go_wp2_with fail
        refine (alive20_any _).mono ?_
        rintro e w2 ⟨rfl, b2⟩
        go_wp2
        go_ret
        exact ⟨rfl, (HZ.out.below b2).b⟩
      · have u1 : decide ((M : Int) < 1) = false := by simp; omega
        have u1' : decide (M < 1) = false := by simpa using h1
        by_cases h2 : 60 < M
        · have u2 : decide ((60 : Int) < (M : Int)) = true := by simp; omega
          have u2' : decide (60 < M) = true := by simpa using h2
          have HZ := Lib.hid hZ
          clear hZ h1 h2 rX hdt hM hcell hx
          go_wp2_with fail
          refine (alive20_any _).mono ?_
          rintro e w2 ⟨rfl, b2⟩
          go_wp2
          go_ret
          exact ⟨rfl, (HZ.out.below b2).b⟩
        · have u2 : decide ((60 : Int) < (M : Int)) = false := by simp; omega
          have u2' : decide (60 < M) = false := by simpa using h2
          have hok2 := hok.next hx (by omega) (by omega)
          have hpk : ps[k]? = some (wrp k x) := by rw [← HP.out.1]; exact pks_at (g := fun i => i) hx
          have xw := lwrap_any k xa x M xc wr rX (by have := HP.out.2.1; omega) (by omega) (by omega)
          obtain ⟨Y, hY⟩ : ∃ Y, wrp k x = Y := ⟨_, rfl⟩
          have hYl : Y.length = 6 + M := by rw [← hY, wrp_len, hM]
          obtain ⟨NY, hNY⟩ : ∃ NY, 6 + M = NY := ⟨_, rfl⟩
          rw [hY] at xw hpk
          rw [hNY] at hYl
          have hNYb : NY ≤ 66 := by omega
          have hlen : (ps.take k).length = k := by rw [List.length_take, HP.out.2.2.2.2]; omega
          obtain ⟨SL, hSL⟩ : ∃ SL, (ps.take k).flatten.length = SL := ⟨_, rfl⟩
          obtain ⟨AV, cV, rfl, _⟩ := hZ.st.reads_len hSL
          obtain ⟨AB, cB, rfl, _⟩ := hZ.bg.reads_len (bds_len ps k)
          obtain ⟨E, lo, hE⟩ := hZ.lo
          have hSl := pks_flat (g := fun i => i) hok
          rw [HP.out.1] at hSl
          have hlen2 : (ps.take k ++ [Y]).length = k + 1 := by rw [List.length_append, hlen]; rfl
          have hk40 : k < 40 := by have := HP.out.2.1; omega
          have hat : (ps.take k ++ [Y])[k]? = some Y := by rw [List.getElem?_append_right (by omega), hlen, Nat.sub_self]; rfl
          have HY := Lib.hid (And.intro hYl (And.intro hpk (And.intro hok2 (And.intro (show SL ≤ 2640 by omega) (And.intro hNYb (And.intro hlen (And.intro hlen2 (And.intro hat (And.intro hSL hk40)))))))))
          have HZ := Lib.hid (And.intro hZ (And.intro lo hE))
          clear hZ lo hE rX hdt hM hcell hx hY hYl hpk hok2 hok h1 h2 hSl hNY hNYb hlen hlen2 hat hSL hk40
          go_wp2_with fail
          refine xw.mono ?_
          clear xw c0
          rintro e w4 ⟨v4, rfl, o4, b4⟩
          obtain ⟨A4, k4, rfl, _⟩ := o4.reads_len HY.out.1
          obtain ⟨qs, AR, kR, rfl, hqn, hqe, hqo, hqr, hqz, hq3⟩ := (HZ.out.2.1.below b4).parts (n := k) HY.out.2.2.2.2.2.1
          have hsz : w.heap.size ≤ w4.heap.size := Nat.le_trans HZ.out.1.b.size b4.size
          have hk40 := HY.out.2.2.2.2.2.2.2.2.2
          have hSLb := HY.out.2.2.2.1
          have hNYb := HY.out.2.2.2.2.1
          go_wp2_with (first
            | (at_builtin; refine wpList_row _ enc_ok is_lists (by decide) rfl (.tmp 51) (.tmp 58) rfl rfl (hqo.alloc _) (l := [⟨Y, A4, k4⟩]) (n := 1) rfl rfl (Rs_new1 enc_ok w4 _ _ _ (by simp only [enc, HY.out.1])) (by simp) (by rw [hqn]; simp; omega) (by simp; omega) ?_; intro R2 w6 ho6 hg6 hr6; have hZ6 := Z1.addp HZ.out.1.st HZ.out.1.bg HZ.out.1.b HZ.out.2.1 HZ.out.2.2 o4 HY.out.1 b4 hqe (fun q hq => ⟨(hq3 q hq).1.alloc _, (hq3 q hq).2⟩) rfl hg6 ho6; obtain ⟨E6, lo6, hE6⟩ := hZ6.lo; obtain ⟨AR6, cR6, rfl, _⟩ := lo6.len (n := k + 1) HY.out.2.2.2.2.2.2.1; clear hr6 ho6 hg6 o4 b4 hqo hqr hqz hq3 hqe hqn lo6 hE6 hsz)
            | (at_builtin; refine wpList_iapp _ is_ints rfl (.tmp 60) (.tmp 63) rfl rfl (hZ6.bg.alloc _) (l := [((SL : Nat) : Int)]) rfl rfl (Ns_new1 w6 _ _) (by simp) (by rw [bds_len]; simp; omega) (by have := hZ6.b.size; simp; omega) ?_; intro B2 w8 ho8 hg8 hb8; have hZ8 := hZ6.addb rfl hg8 ho8; obtain ⟨E8, lo8, hE8⟩ := hZ8.lo; obtain ⟨AR8, cR8, he8, hLS8, _⟩ := lo8.len (n := k + 1) HY.out.2.2.2.2.2.2.1; cases he8; obtain ⟨b8, q8, a8, k8, rfl, hb8', hc8, hd8⟩ := hLS8.at_ (i := k) HY.out.2.2.2.2.2.2.2.1; rw [HY.out.1] at hc8; clear hZ6 lo8 hE8 hLS8 hb8 ho8 hg8)
            | (at_builtin; refine wpList_appN _ is_bytes rfl (.tmp 65) (.tmp 69) rfl (m := (ps.take k).flatten) rfl hZ8.st HY.out.1 rfl hd8.b hd8.n (by rw [HY.out.2.2.2.2.2.2.2.2.1]; omega) hZ8.b.size ?_; intro V2 w9 ho9 hg9 hv9; have hZ9 := hZ8.adds rfl hg9 ho9 hv9; have HZ9 := Lib.hid hZ9; clear hZ9 hZ8 ho9 hg9 hv9 hc8 hd8))
          go_roundw
          case rel =>
            refine ⟨k + 1, by go_num, hkn, HY.out.2.2.1, ?_⟩
            have e1 : ps.take (k + 1) = ps.take k ++ [Y] := by rw [List.take_add_one, HY.out.2.1]; rfl
            have e2 : (ps.take (k + 1)).flatten = (ps.take k).flatten ++ Y := by rw [e1, List.flatten_append]; simp
            have e3 : bds ps (k + 1) = bds ps k ++ [((SL : Nat) : Int)] := by rw [bds_succ]; unfold bnd; rw [HY.out.2.2.2.2.2.2.2.2.1]
            rw [e1, List.flatten_append, e3]
            simp only [List.flatten_cons, List.flatten_nil, List.append_nil]
            exact HZ9.out
          case measure => simp [intOf]; omega
    · obtain rfl : k = n := by omega
      rename World => w9
      have hpl := HP.out.2.2.2.2
      have hwp : ∀ p ∈ ps, Wp p := by
        rw [← HP.out.1]
        exact pks_wp (by rw [hl.out]; exact hok) (fun i hi => by have := HP.out.2.1; have := hl.out; omega)
      have hni : ps.filter ni = ps := by
        rw [List.filter_eq_self]
        intro p hp
        rw [← HP.out.1] at hp
        obtain ⟨i, hi⟩ := List.getElem?_of_mem hp
        have hil := (List.getElem?_eq_some_iff.1 hi).1
        rw [pks_len] at hil
        obtain ⟨x, hx⟩ : ∃ x, l[i]? = some x := ⟨_, List.getElem?_eq_getElem hil⟩
        rw [pks_at hx] at hi
        injection hi with hi
        obtain ⟨q1, q2⟩ := hok i x (by have := hl.out; omega) hx
        have := HP.out.2.1
        have := hl.out
        rw [← hi, wrp_ni (by omega) q1 q2]
        simp
        omega
      have hSb := pks_flat (g := fun i => i) hok
      rw [HP.out.1] at hSb
      rw [List.take_of_length_le (by omega)] at hZ hSb
      obtain ⟨M, hM⟩ : ∃ M, ps.flatten.length = M := ⟨_, rfl⟩
      obtain ⟨AV, cV, rfl, rS⟩ := Rd.of hZ.st hM
      obtain ⟨AB, cB, rfl, nB, _, hcB, _⟩ := hZ.bg.reads_len (bds_len ps k)
      obtain ⟨E, lo, _⟩ := hZ.lo
      obtain ⟨AR, cR, rfl, lR, _⟩ := lo.len hpl
      have hMb : M ≤ 2640 := by have := HP.out.2.1; omega
      have HW := Lib.hid (And.intro hwp (And.intro hni (And.intro hM (And.intro hMb (And.intro rS (And.intro nB (And.intro lR hZ.b)))))))
      clear hok hZ hwp hni hSb hM rS nB lo lR hpl hcB hMb hkn hk
      go_wp2_with fail
      refine (UL.new (w0 := w9) (Below.refl _ _)).mono ?_
      rintro e w2 ⟨g, F0, rfl, U0, b2, n2⟩
      have G0 : Gt w9 w2 g F0 US0 (.slice none 0 0) [] := ⟨U0, [], LO.nil_ _ _ _ _, fun _ hx => nomatch hx⟩
      have HG0 := Lib.hid G0
      clear U0 b2 n2 G0
      go_wp2_with fail
      go_loopw [10, 11, 12] (fun gv av kv wr => ∃ (q a i : Nat) (x : List Byte) (F : List Nat) (s : US), av = .int .i64 (a : Int) ∧ kv = .int .i64 (q : Int) ∧ a ≤ M ∧ q ≤ a ∧ Pos ps a i x ∧ Exp s q ∧ s.lo = 0 ∧ s.rs = x ∧ Gt w9 wr g F s gv ((ps.take i).filter ni)) (fun _ av _ _ => M - (intOf av).toNat)
      case atStart => exact ⟨0, 0, 0, [], F0, US0, rfl, rfl, Nat.zero_le _, Nat.le_refl _, Pos.start, .inl ⟨rfl, rfl⟩, rfl, rfl, by simpa using HG0.out⟩
      case round =>
        obtain ⟨q, a, i, x, F, s, rfl, rfl, haM, hqa, hP, hE, hlo, hrs, hG⟩ := hrel
        clear HG0
        by_cases haM2 : a < M
        · obtain ⟨kn, hkn⟩ : ∃ kn, q % m = kn := ⟨_, rfl⟩
          have hm1 := HP.out.2.2.2.1
          have hknm : kn < m := by rw [← hkn]; exact Nat.mod_lt _ (by omega)
          have hzl := hz.len
          obtain ⟨bz, oz, rfl, hbz, hcz⟩ := hz.at_ (by omega)
          obtain ⟨zb, hzb⟩ : ∃ z, zs[kn]? = some z := ⟨_, List.getElem?_eq_getElem (by omega)⟩
          have cz := hcz kn zb hzb
          obtain ⟨zv, hzv⟩ : ∃ zv, zb.toNat = zv := ⟨_, rfl⟩
          have hzvb : zv < 256 := by rw [← hzv]; exact zb.isLt
          have cz' : wr.cell? ⟨bz, oz + kn, none⟩ = some (.int .u8 (zv : Int)) := by
            rw [(hG.u.b.cell (p := ⟨bz, oz + kn, none⟩) (Nat.lt_of_lt_of_le hbz HW.out.2.2.2.2.2.2.2.size)), (HW.out.2.2.2.2.2.2.2.cell (p := ⟨bz, oz + kn, none⟩) hbz), cz]
            show some (Value.int .u8 ((zb.toNat : Nat) : Int)) = _
            rw [hzv]
          obtain ⟨e, he⟩ : ∃ e, min (a + zv + 1) M = e := ⟨_, rfl⟩
          have hae : a < e := by omega
          have heM : e ≤ M := by omega
          have hsz : e - a ≤ 2046 := by omega
          have hMb := HW.out.2.2.2.1
          have m1 : min ((a : Int) + (zv : Int) + 1) (M : Int) = (e : Int) := by omega
          have m2 : (if (a : Int) + (zv : Int) + 1 < (M : Int) then (a : Int) + (zv : Int) + 1 else (M : Int)) = (e : Int) := by split <;> omega
          have m3 : (if (M : Int) < (a : Int) + (zv : Int) + 1 then (M : Int) else (a : Int) + (zv : Int) + 1) = (e : Int) := by split <;> omega
          have k1 : (q : Int).tmod (m : Int) = (kn : Int) := by rw [Int.tmod_eq_emod_of_nonneg (by omega), ← hkn]; exact (Int.natCast_emod q m).symm
          have k2 : (q : Int) % (m : Int) = (kn : Int) := by rw [← hkn]; exact (Int.natCast_emod q m).symm
          have i0 : (0 : Int) ≤ (kn : Int) := by omega
          have i1 : (kn : Int) < (m : Int) := by omega
          have m0 : ((m : Int) == 0) = false := by simp; omega
          have hn40 := HP.out.2.1
          have HS := Lib.hid (And.intro hP (And.intro hE (And.intro hlo (And.intro hrs (And.intro hG (And.intro hae (And.intro heM (And.intro hsz hqa))))))))
          clear hP hE hlo hrs hG hsz he hkn hzb hzv hcz cz hzl hknm haM hae heM
          go_wp2_with fail
          go_loop [14, 15] (fun fv iv => ∃ (j f : Nat), iv = .int .i64 ((j : Int) - 1) ∧ j ≤ k ∧ fv = .int .i64 (f : Int) ∧ FstJ ps a e f j) (fun _ iv => (intOf iv + 1).toNat)
          case atStart => exact ⟨k, 2047, rfl, Nat.le_refl _, rfl, by have h := FstJ.start (ps := ps) (a := a) (e := e); rw [HP.out.2.2.2.2] at h; exact h⟩
          case round =>
            obtain ⟨j, f, rfl, hj, rfl, hF⟩ := hrel
            cases j with
            | succ j =>
              have hiv : (((j + 1 : Nat) : Int) - 1) = (j : Int) := by omega
              rw [hiv]
              have u1 : decide ((0 : Int) ≤ (j : Int)) = true := by simp
              obtain ⟨bb, ob, hAB, hbb, hcb⟩ := HW.out.2.2.2.2.2.1.at_ (k := j) (by rw [bds_len]; omega)
              subst hAB
              have hbv : (bds ps k)[j]'(by rw [bds_len]; omega) = ((bnd ps j : Nat) : Int) := by
                have h := bds_at (ps := ps) (k := k) (i := j) (by omega)
                rw [List.getElem?_eq_getElem (by rw [bds_len]; omega)] at h
                injection h
              rw [hbv] at hcb
              obtain ⟨Y, hY⟩ : ∃ Y, bnd ps j = Y := ⟨_, rfl⟩
              rw [hY] at hcb
              have hYM : Y ≤ M := by have h := bnd_top (ps := ps) j; rw [HW.out.2.2.1, hY] at h; exact h
              have cb : wr.cell? ⟨bb, ob + j, none⟩ = some (.int .i64 (Y : Int)) := (HS.out.2.2.2.2.1.u.b.cell (p := ⟨bb, ob + j, none⟩) hbb).trans hcb
              have j0 : (0 : Int) ≤ (j : Int) := by omega
              have j1 : (j : Int) < (k : Int) := by omega
              by_cases h1 : a ≤ Y
              · have u2 : decide ((a : Int) ≤ (Y : Int)) = true := by simpa using h1
                have u2' : decide (a ≤ Y) = true := by simpa using h1
                by_cases h2 : Y < e
                · have u3 : decide ((Y : Int) < (e : Int)) = true := by simpa using h2
                  have u3' : decide (Y < e) = true := by simpa using h2
                  obtain ⟨D, hD⟩ : ∃ D, Y - a = D := ⟨_, rfl⟩
                  have d1 : (Y : Int) - (a : Int) = (D : Int) := by omega
                  have HF := Lib.hid (show FstJ ps a e D j by rw [← hD, ← hY]; exact FstJ.yes (by rw [HP.out.2.2.2.2]; omega) (by rw [hY]; exact h1) (by rw [hY]; exact h2))
                  have hDb : D ≤ 2640 := by omega
                  clear hF hY hcb h1 h2 hD hbv
                  go_wp2
                  go_round
                  case rel => exact ⟨j, D, by go_num, by omega, by go_num, HF.out⟩
                  case measure => simp [intOf]
                · have u3 : decide ((Y : Int) < (e : Int)) = false := by simpa using h2
                  have u3' : decide (Y < e) = false := by simpa using h2
                  have HF := Lib.hid (hF.no (by rw [hY]; omega))
                  clear hF hY hcb h1 h2 hbv
                  go_wp2
                  go_round
                  case rel => exact ⟨j, f, by go_num, by omega, rfl, HF.out⟩
                  case measure => simp [intOf]
              · have u2 : decide ((a : Int) ≤ (Y : Int)) = false := by simpa using h1
                have u2' : decide (a ≤ Y) = false := by simpa using h1
                have HF := Lib.hid (hF.no (by rw [hY]; omega))
                clear hF hY hcb h1 hbv
                go_wp2
                go_round
                case rel => exact ⟨j, f, by go_num, by omega, rfl, HF.out⟩
                case measure => simp [intOf]
            | zero =>
              have u1 : decide ((0 : Int) ≤ ((0 : Nat) : Int) - 1) = false := by decide
              obtain ⟨hP, hE, hlo, hrs, hG, hae, heM, hsz, hqa⟩ := HS.out
              have hwp := HW.out.1
              have hM := HW.out.2.2.1
              have hFst := hF.done
              obtain ⟨hfl, hf46⟩ := hFst.lt hsz
              obtain ⟨i', x', hQ⟩ := Pos.ex (ps := ps) (a := e) (by omega) hwp
              obtain ⟨hst, hfil⟩ := step_in hwp hP hQ hae (by omega) hFst hsz
              have rS := HW.out.2.2.2.2.1.later hG.u.b
              obtain ⟨bV, oV, rfl, hbV, _⟩ := HW.out.2.2.2.2.1.at_ (by omega)
              have hd := Rd.sub rS a (e - a) (by omega)
              have hcV := rS.le
              have hdl := hd.len
              obtain ⟨t1', t2', t3', t4'⟩ := hE.take (f := f) (d := (ps.flatten.drop a).take (e - a)) (by rw [hdl]; exact hfl) hf46 hlo
              rw [hrs, hst] at t3' t4'
              obtain ⟨O, hO⟩ : ∃ O, ((ps.take i').drop i).filter ni = O := ⟨_, rfl⟩
              obtain ⟨K, hK⟩ : ∃ K, O.length = K := ⟨_, rfl⟩
              rw [hO] at hfil t4'
              obtain ⟨C, hC⟩ : ∃ C, q % 256 = C := ⟨_, rfl⟩
              obtain ⟨D, hD⟩ : ∃ D, e - a = D := ⟨_, rfl⟩
              obtain ⟨cD, hcD⟩ : ∃ cD, cV - a = cD := ⟨_, rfl⟩
              rw [hC] at t1' t2' t3' t4'
              rw [hD] at hd t1' t2' t3' t4'
              rw [hcD] at hd
              have xt := hG.take (by omega) hd (by have := HW.out.2.2.2.1; omega) (fun _ => Of_blk (fun x hx => by have := hG.u.lo x hx; omega) (Nat.lt_of_lt_of_le hbV hG.u.b.size)) rfl t4' hK
              have k3 : (q : Int).tmod 256 = (C : Int) := by rw [Int.tmod_eq_emod_of_nonneg (by omega), ← hC]; exact (Int.natCast_emod q 256).symm
              have k4 : (q : Int) % 256 = (C : Int) := by rw [← hC]; exact (Int.natCast_emod q 256).symm
              have hgl : ((ps.take i).filter ni).length ≤ 40 := by
                have h1 := List.length_filter_le ni (ps.take i)
                have h2 := HP.out.2.1
                have h3 := HP.out.2.2.2.2
                rw [List.length_take] at h1
                omega
              have hKb : K ≤ 40 := by
                have h1 := List.length_filter_le ni ((ps.take i').drop i)
                have h2 := HP.out.2.1
                have h3 := HP.out.2.2.2.2
                rw [hO, hK, List.length_drop, List.length_take] at h1
                omega
              have s1 : (a : Int) ≤ (e : Int) := by omega
              have s2 : (e : Int) ≤ (cV : Int) := by omega
              have s3 : a ≤ e := by omega
              have s4 : e ≤ cV := by omega
              have s5 : cV ≠ a := by omega
              have s6 : e ≤ M := heM
              have s7 : (e : Int) ≤ (M : Int) := by omega
              have HN := Lib.hid (And.intro hQ (And.intro t1' (And.intro t2' (And.intro t3' (And.intro hfil (And.intro hK (And.intro hae (And.intro heM (And.intro hgl (And.intro hKb hqa))))))))))
              clear HS hP hE hlo hrs hG hae hsz hqa hwp hM hFst hfl hf46 hQ hst hfil rS hcV hdl hd t1' t2' t3' t4' hF hO hK hC hbV hgl hKb heM
              go_wp2_with fail
              refine xt.mono ?_
              clear xt
              rintro e2 w4 ⟨A4, k4', F4, rfl, G2, _⟩
              obtain ⟨u4, ⟨E4, l4, hE4⟩, ⟨E5, l5, hE5⟩⟩ := G2
              obtain ⟨qs, AG, kG, rfl, hqn, hqe, hqo, hqr, hqz, hq3⟩ := l4.parts (n := ((ps.take i).filter ni).length) rfl
              obtain ⟨qs2, A5, k5, he5, hqn2, hqe2, hqo2, hqr2, hqz2, hq32⟩ := l5.parts (n := K) HN.out.2.2.2.2.2.1
              cases he5
              go_wp2_with (first
                | (at_builtin; refine wpList_row _ enc_ok is_lists (by decide) rfl (.tmp 119) (.tmp 128) rfl rfl hqo (l := qs2) (n := K) hqn2 rfl hqr2 hqz2 (by rw [hqn, hqn2]; have := HN.out.2.2.2.2.2.2.2.2; omega) u4.b.size ?_; intro gv6 w6 ho6 hg6 hr6; have hG6 := Gt2.app u4 l4 hE4 l5 hE5 hqe hq3 hqe2 hq32 rfl hg6 ho6; rw [← HN.out.2.2.2.2.1] at hG6; have HG6 := Lib.hid hG6; clear hG6 ho6 hg6 hr6 u4 l4 hE4 l5 hE5 hqe hq3 hqe2 hq32 hqo hqr hqz hqo2 hqr2 hqz2))
              go_roundw
              case rel => exact ⟨q + 1, e, i', x', F4, _, by go_num, by go_num, HN.out.2.2.2.2.2.2.2.1, by have := HN.out.2.2.2.2.2.2; omega, HN.out.1, HN.out.2.1, HN.out.2.2.1, HN.out.2.2.2.1, HG6.out⟩
              case measure => have := HN.out.2.2.2.2.2.2; simp [intOf]; omega
        · obtain rfl : a = M := by omega
          obtain ⟨hwp, hni, hM, hMb, rS, nB, lR, hb9⟩ := HW.out
          rw [← hM] at hP
          obtain ⟨hi, hx0⟩ := hP.last hwp
          rw [hi, List.take_of_length_le (Nat.le_refl _), hni] at hG
          obtain ⟨u4, E4, l4, _⟩ := hG
          obtain ⟨AG, cG, rfl, lG, _⟩ := l4.len HP.out.2.2.2.2
          have y1 := Same_of (c1 := cG) (c2 := cR) (n := k) wr lG ((lR.below u4.b).more u4.b.size) HP.out.2.2.2.2 (by have := HP.out.2.1; omega)
          have HU := Lib.hid (And.intro u4 (And.intro hlo hb9))
          clear hwp hni hM hMb rS nB lR hb9 hP hi hx0 u4 l4 lG hE hlo hrs HW haM2 haM
          go_wp2_with fail
          refine y1.mono ?_
          clear y1
          rintro e w5 ⟨rfl, b5⟩
          have y2 := (HU.out.1.below b5).lost
          rw [HU.out.2.1] at y2
          have HU5 := Lib.hid (HU.out.1.below b5)
          clear b5
          go_wp2_with fail
          refine y2.mono ?_
          clear y2
          rintro e w6 ⟨rfl, rfl⟩
          go_wp2_with fail
          refine (alive20_any _).mono ?_
          rintro e w7 ⟨rfl, b7⟩
          go_wp2
          go_ret
          exact ⟨rfl, HU.out.2.2.trans (((HU5.out.below b7).b).mono HU.out.2.2.size)⟩

set_option maxRecDepth 100000 in
set_option maxHeartbeats 2000000 in
theorem unpackerSizes_walk (A As : Option Addr) (l : List (List Byte)) (zs : List Byte) (n c m cs : Nat) (w : World) (hl : l.length = n) (hps : LS w w.heap.size A l) (hz : Rd w As zs m cs) :
    Calls Try.prog 5 #[.slice A n c, .slice As m cs] w fun e w' => e = .returned (.bool true) ∧ Below w.heap.size w w' := by
  by_cases h1 : 40 < n
  · have t1 : decide ((40 : Int) < (n : Int)) = true := by simp; omega
    have t1' : decide (40 < n) = true := by simpa using h1
    clear h1 hl hps hz
    go_enter Try.func5, Try.ntmps5
    go_wp2_with fail
    refine (alive20_any _).mono ?_
    rintro e w1 ⟨rfl, b1⟩
    go_wp2
    go_ret
    exact ⟨rfl, b1⟩
  · have t1 : decide ((40 : Int) < (n : Int)) = false := by simp; omega
    have t1' : decide (40 < n) = false := by simpa using h1
    by_cases h2 : 60 < m
    · have t2 : decide ((60 : Int) < (m : Int)) = true := by simp; omega
      have t2' : decide (60 < m) = true := by simpa using h2
      clear h1 h2 hl hps hz
      go_enter Try.func5, Try.ntmps5
      go_wp2_with fail
      refine (alive20_any _).mono ?_
      rintro e w1 ⟨rfl, b1⟩
      go_wp2
      go_ret
      exact ⟨rfl, b1⟩
    · have t2 : decide ((60 : Int) < (m : Int)) = false := by simp; omega
      have t2' : decide (60 < m) = false := by simpa using h2
      by_cases h3 : m = 0
      · have t3 : ((m : Int) == 0) = true := by simp; omega
        clear h1 h2 h3 hl hps hz
        go_enter Try.func5, Try.ntmps5
        go_wp2_with fail
        refine (alive20_any _).mono ?_
        rintro e w1 ⟨rfl, b1⟩
        go_wp2
        go_ret
        exact ⟨rfl, b1⟩
      · exact unpackerSizes_ok A As l zs n c m cs w (Lib.hid hl) hps hz (by omega) (by omega) (by omega)
end Go.Proofs.Ytcmonalnhdodmaa.Unp
