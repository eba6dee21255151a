/-
  The law UnpackerBack: cut.
-/
import Derived.Test.YtcmonalnhdodmaaLaw20k
import Derived.Deep.CutRange
import Derived.Deep.CutBlock
namespace Go.Proofs.Ytcmonalnhdodmaa.Unp
open Go.RowKit Go.Proofs.Ytcmonalnhdodmaa.Row Lst Ints
open Pac (bel_new)

theorem K1.start (W1 W2 : World) (vs : Value) (hW2 : W2 = W1.alloc (.cells #[.slice none 0 0, .slice none 0 0, .slice none 0 0, vs, .slice none 0 0, .slice none 0 0] 42)) :
    K1 W1 W2 W1.heap.size vs (.slice none 0 0) (.slice none 0 0) (.slice none 0 0) (.slice none 0 0) [] [] [] [] := by
  subst hW2
  exact ⟨Cel.new _ _ _, Nat.le_refl _, On.nil_ _ _ _, On.nil_ _ _ _, On.nil_ _ _ _, World.ownsRow_nil _ _ _ _, (fun _ h => nomatch h), (fun _ h => nomatch h), (fun _ h => nomatch h), bel_new _ _⟩
theorem K1.drew {w0 w : World} {G : Nat} {vs v1 v2 vV vB : Value} {l1 l2 lb : List Int} {S : List Byte} (h : K1 w0 w G vs v1 v2 vV vB l1 l2 lb S) : K1 w0 w.drew G vs v1 v2 vV vB l1 l2 lb S := h.below ⟨rfl, rfl, rfl, Nat.le_refl _, fun _ _ => rfl⟩

set_option maxRecDepth 100000 in
set_option maxHeartbeats 16000000 in
theorem cut_any (A : Option Addr) (ps : List (List Byte)) (n c z st : Nat) (w : World) (hl : Hid (ps.length = n)) (hS : LS w w.heap.size A ps) (hn : n ≤ 40) (hfl : Hid (ps.flatten.length ≤ 2640)) (hP : Hid (∀ (k : Nat) (x : List Byte), ps[k]? = some x → 1 ≤ x.length)) (hz : 1 ≤ z) (hz2 : z ≤ 60) (hst : st ≤ 255) :
    Calls Try.prog 16 #[.slice A n c, .int .i64 (z : Int), .int .i64 (st : Int)] w fun e w' =>
      ∃ (NF kF k1 k2 cV kB M : Nat) (AF A1 A2 AV AB : Option Addr), e = .returned (.agg #[.slice AF NF kF, .slice A1 n k1, .slice A2 n k2, .slice A n c, .slice AV M cV, .slice AB n kB]) ∧ CutOut w w' ps z st n NF AF A1 A2 := by
  obtain ⟨W1, hW1⟩ : ∃ W1, W1 = w.alloc (.cells #[.slice none 0 0, .slice none 0 0, .slice none 0 0, .slice none 0 0, .slice none 0 0, .slice none 0 0] 42) := ⟨_, rfl⟩
  obtain ⟨W2, hW2⟩ : ∃ W2, W2 = W1.alloc (.cells #[.slice none 0 0, .slice none 0 0, .slice none 0 0, .slice A n c, .slice none 0 0, .slice none 0 0] 42) := ⟨_, rfl⟩
  obtain ⟨R, hR⟩ : ∃ R, R = w.heap.size := ⟨_, rfl⟩
  obtain ⟨G, hG⟩ : ∃ G, G = w.heap.size + 1 := ⟨_, rfl⟩
  have b1 : Below w.heap.size w W1 := by rw [hW1]; exact bel_new _ _
  have hs1 : W1.heap.size = w.heap.size + 1 := by rw [hW1]; simp
  have K0 := K1.start W1 W2 (.slice A n c) hW2
  have rv1 : Cel W1 R 42 #[.slice none 0 0, .slice none 0 0, .slice none 0 0, .slice none 0 0, .slice none 0 0, .slice none 0 0] := by rw [hW1, hR]; exact Cel.new _ _ _
  rw [hs1, ← hG] at K0
  have hS1 := (hS.below b1).more b1.size
  have HR := Lib.hid (And.intro rv1 (And.intro b1 (show w.heap.size ≤ R by omega)))
  have z0 : ((z : Int) == 0) = false := by simp; omega
  have z0' : ¬ z = 0 := by omega
  have HN := Lib.hid (And.intro hn hs1)
  rw [hW1] at hW2
  clear hS b1 hs1 rv1 hn
  go_enter Try.func16, Try.ntmps16
  go_upto_region 3 with fail
  rw [← hW2, ← hG, ← hR]
  clear hW1 hW2 hG hR
  go_wp2_with fail
  go_loopw [8] (fun iv wr => ∃ (k : Nat) (v1 v2 vV vB : Value), iv = .int .i64 (k : Int) ∧ k ≤ n ∧ K1 W1 wr G (.slice A n c) v1 v2 vV vB (frs ps z k) (tos ps z k) (bds ps k) (ps.take k).flatten) (fun iv _ => n - (intOf iv).toNat)
  case atStart => exact ⟨0, _, _, _, _, rfl, Nat.zero_le _, K0⟩
  case round =>
    obtain ⟨k, v1, v2, vV, vB, rfl, hk, hK⟩ := hrel
    clear K0
    by_cases hkn : k < n
    · -- L1 BEGIN
      obtain ⟨x, hx⟩ : ∃ x, ps[k]? = some x := ⟨_, List.getElem?_eq_getElem (by rw [hl.out]; exact hkn)⟩
      obtain ⟨b, off, xa, xc, rfl, hb, hcell, hdt⟩ := hS1.at_ hx
      obtain ⟨M, hM⟩ : ∃ M, x.length = M := ⟨_, rfl⟩
      obtain ⟨SL, hSL⟩ : ∃ SL, bnd ps k = SL := ⟨_, rfl⟩
      have hSL1 : (ps.take k).flatten.length = SL := hSL
      have hnx := bnd_next hx
      have htop := bnd_top (ps := ps) (k + 1)
      have hfl2 := hfl.out
      obtain ⟨S2, hS2⟩ : ∃ S2, bnd ps (k + 1) = S2 := ⟨_, rfl⟩
      have hSb : SL ≤ 2640 := by omega
      have hSb2 : S2 ≤ 2640 := by omega
      have hSS : SL + M = S2 := by omega
      obtain ⟨AV, cV, rfl, _⟩ := hK.st.reads_len hSL1
      obtain ⟨AB, cB, rfl, _⟩ := hK.ib.reads_len (bds_len ps k)
      obtain ⟨A1, k1, rfl, _⟩ := hK.i1.reads_len (frs_len ps z k)
      obtain ⟨A2, k2, rfl, _⟩ := hK.i2.reads_len (tos_len ps z k)
      have i0 : (0 : Int) ≤ (k : Int) := Int.natCast_nonneg _
      have i1 : (k : Int) < (n : Int) := by omega
      have hk40 : k < 40 := by have := HN.out.1; omega
      obtain ⟨q, hq⟩ : ∃ q, SL / z = q := ⟨_, rfl⟩
      have hqb : q ≤ 2640 := by rw [← hq]; exact Nat.le_trans (Nat.div_le_self _ _) hSb
      have HW1 : Hid (IntKind.i64.wrap (q : Int) = (q : Int)) := Lib.hid (by rw [IntKind.wrap_i64]; omega)
      have d1 : (SL : Int).tdiv (z : Int) = (q : Int) := by rw [Int.tdiv_eq_ediv_of_nonneg (by omega), ← hq]; simp
      have d1' : (SL : Int) / (z : Int) = (q : Int) := by rw [← hq]; simp
      have hS2p : 1 ≤ S2 := by have := hP.out k x hx; omega
      obtain ⟨q2, hq2⟩ : ∃ q2, (S2 - 1) / z = q2 := ⟨_, rfl⟩
      have hqb2 : q2 ≤ 2640 := by rw [← hq2]; exact Nat.le_trans (Nat.div_le_self _ _) (by omega)
      have HW2 : Hid (IntKind.i64.wrap (q2 : Int) = (q2 : Int)) := Lib.hid (by rw [IntKind.wrap_i64]; omega)
      have HW3 : Hid (IntKind.i64.wrap ((S2 : Int) - 1) = ((S2 : Int) - 1)) := Lib.hid (by rw [IntKind.wrap_i64]; omega)
      have d2 : ((S2 : Int) - 1).tdiv (z : Int) = (q2 : Int) := by rw [show (S2 : Int) - 1 = ((S2 - 1 : Nat) : Int) by omega, Int.tdiv_eq_ediv_of_nonneg (by omega), ← hq2]; simp
      have d2' : ((S2 : Int) - 1) / (z : Int) = (q2 : Int) := by rw [show (S2 : Int) - 1 = ((S2 - 1 : Nat) : Int) by omega, ← hq2]; simp
      have e1 : (ps.take (k + 1)).flatten = (ps.take k).flatten ++ x := by rw [List.take_add_one, hx, List.flatten_append]; simp
      have eB : bds ps k ++ [((SL : Nat) : Int)] = bds ps (k + 1) := by rw [bds_succ, hSL]
      have eF : frs ps z k ++ [((q : Nat) : Int)] = frs ps z (k + 1) := by rw [frs_succ, hSL, hq]
      have eT : tos ps z k ++ [((q2 : Nat) : Int)] = tos ps z (k + 1) := by rw [tos_succ, hS2, hq2]
      have HE := Lib.hid (And.intro e1 (And.intro eB (And.intro eF eT)))
      have HY := Lib.hid (And.intro hx (And.intro hM (And.intro hSL (And.intro hS2 (And.intro hSL1 (And.intro hSS hq))))))
      have HD := Lib.hid hdt
      clear hx hM hSL hSL1 hnx htop hfl2 hS2 hSS hq hdt e1 hq2 eB eF eT
      have c4 := hK.g.cell 4
      have c5 := hK.g.cell 5
      simp at c4 c5
      go_upto_region 7 with (first
        | (at_builtin; refine wpList_iapp _ is_ints rfl (.tmp 21) (.tmp 25) rfl rfl (hK.ib.alloc _) (l := [((SL : Nat) : Int)]) rfl rfl (Ns_new1 _ _ _) (by simp) (by rw [bds_len]; simp; have := HN.out.1; omega) (by have := hK.b.size; simp; omega) ?_; intro B2 w6 ho6 hg6 hb6; obtain ⟨c6, f6, K6⟩ := (hK.below (bel_new _ _)).growb rfl hg6 ho6 hb6; rw [HE.out.2.1] at K6; obtain ⟨AB6, cB6, rfl, _⟩ := ho6.reads_len (n := k + 1) (by rw [List.length_append, bds_len]; rfl); clear ho6 hg6 hb6))
      obtain ⟨W7, hW7⟩ : ∃ W7, W7 = w6.setCell ⟨G, 5, none⟩ (.slice AB6 (k + 1) cB6) := ⟨_, rfl⟩
      rw [← hW7] at K6 ⊢
      clear hW7 c6 f6 c4 c5 hK
      go_cut [] from 28 to 37 (fun wx => ∃ v1, K1 W1 wx G (.slice (some ⟨b, off, none⟩) n c) v1 (.slice A2 k k2) (.slice AV SL cV) (.slice AB6 (k + 1) cB6) (frs ps z (k + 1)) (tos ps z k) (bds ps (k + 1)) (ps.take k).flatten)
      case first =>
        have c1 := K6.g.cell 1
        have c4 := K6.g.cell 4
        simp at c1 c4
        have hw1 := HW1.out
        have hca : ∀ o, (W7.alloc o).cell? ⟨G, 1, none⟩ = some (.slice A1 k k1) := fun o => by
          have := ((K6.below (bel_new W7 o)).g).cell 1
          simpa using this
        clear d2 d2'
        go_region_law (first | (refine step_iapp _ is_ints rfl (.tmp 29) (.tmp 35) rfl (v := Value.slice A1 k k1) (m := frs ps z k) rfl (K6.i1.alloc _).drew (l := [((q : Nat) : Int)]) rfl rfl (Ns_new1 _ _ _).drew (by simp) (by rw [frs_len]; simp; have := HN.out.1; omega) (by have := K6.b.size; simp; omega) ?_; intro u w7 ho7 hg7 hb7; obtain ⟨x7, f7, K7⟩ := (K6.below (bel_new _ _)).drew.grow1 rfl hg7 ho7 hb7; obtain ⟨A7, c7, rfl, _⟩ := ho7.reads_len (n := k + 1) (by rw [List.length_append, frs_len]; rfl); clear ho7 hg7 hb7))
        all_goals (try go_wp2_with fail)
        all_goals (
          go_meet
          case rel =>
            rw [HE.out.2.2.1] at K7
            exact ⟨_, K7⟩)
      case rest =>
        clear K6
        obtain ⟨v1, K6⟩ := hcut
        obtain ⟨A1, k1, rfl, _⟩ := K6.i1.reads_len (frs_len ps z (k + 1))
        go_upto_region 8 with fail
        rename World => wc1
        go_cut [] from 38 to 45 (fun wx => ∃ vV, K1 W1 wx G (.slice (some ⟨b, off, none⟩) n c) (.slice A1 (k + 1) k1) (.slice A2 k k2) vV (.slice AB6 (k + 1) cB6) (frs ps z (k + 1)) (tos ps z k) (bds ps (k + 1)) (ps.take (k + 1)).flatten)
        case first =>
          have c0 := (K6.b.cell (p := ⟨b, off + k, none⟩) hb).trans hcell
          have c4 := K6.g.cell 4
          simp at c4
          go_region_law (first | (refine step_appAt _ is_bytes rfl (.tmp 39) (.tmp 43) rfl (v := Value.slice AV SL cV) (m := (ps.take k).flatten) rfl K6.st.drew (l := x) rfl (HD.out.b.below K6.b).drew HD.out.n (by have := HY.out; omega) (by have := K6.b.size; simp; omega) ?_; intro u w7 ho7 hg7 hb7; obtain ⟨x7, f7, K7⟩ := K6.drew.grows rfl hg7 ho7; obtain ⟨A7, c7, rfl, _⟩ := ho7.reads_len (n := S2) (by have := HY.out; rw [List.length_append]; omega); clear ho7 hg7 hb7))
          all_goals (try go_wp2_with fail)
          all_goals (
            go_meet
            case rel =>
              rw [← HE.out.1] at K7
              exact ⟨_, K7⟩)
        case rest =>
          clear K6
          obtain ⟨vV, K6⟩ := hcut
          obtain ⟨AV, cV, rfl, _⟩ := K6.st.reads_len (show (ps.take (k + 1)).flatten.length = S2 from HY.out.2.2.2.1)
          go_upto_region 9 with fail
          rename World => wc2
          have c2 := K6.g.cell 2
          have c4 := K6.g.cell 4
          simp at c2 c4
          have hw2 := HW2.out
          have hw3 := HW3.out
          have hca : ∀ o, (wc2.alloc o).cell? ⟨G, 2, none⟩ = some (.slice A2 k k2) := fun o => by
            have := ((K6.below (bel_new wc2 o)).g).cell 2
            simpa using this
          clear d1 d1'
          go_region_law (first | (refine step_iapp _ is_ints rfl (.tmp 47) (.tmp 54) rfl (v := Value.slice A2 k k2) (m := tos ps z k) rfl (K6.i2.alloc _).drew (l := [((q2 : Nat) : Int)]) rfl rfl (Ns_new1 _ _ _).drew (by simp) (by rw [tos_len]; simp; have := HN.out.1; omega) (by have := K6.b.size; simp; omega) ?_; intro u w7 ho7 hg7 hb7; obtain ⟨x7, f7, K7⟩ := (K6.below (bel_new _ _)).drew.grow2 rfl hg7 ho7 hb7; obtain ⟨A7, c7, rfl, _⟩ := ho7.reads_len (n := k + 1) (by rw [List.length_append, tos_len]; rfl); clear ho7 hg7 hb7))
          all_goals (try go_wp2_with fail)
          all_goals (
            rw [HE.out.2.2.2] at K7
            have HK := Lib.hid K7
            clear K7 K6 x7 f7 hca hw2 hw3 c2 c4
            go_roundw
            case rel => exact ⟨k + 1, _, _, _, _, by go_num, hkn, HK.out⟩
            case measure => simp [intOf]; omega)
      -- L1 END
    · obtain rfl : k = n := by omega
      rename World => w9
      obtain ⟨M, hM⟩ : ∃ M, ps.flatten.length = M := ⟨_, rfl⟩
      have hfM := hfl.out
      rw [hM] at hfM
      rw [List.take_of_length_le (by rw [hl.out]; omega)] at hK
      obtain ⟨AV, cV, rfl, rS⟩ := Rd.of hK.st hM
      obtain ⟨AB, kB, rfl, nB, _⟩ := hK.ib.reads_len (bds_len ps k)
      obtain ⟨A1, k1, rfl, n1, _⟩ := hK.i1.reads_len (frs_len ps z k)
      obtain ⟨A2, k2, rfl, n2, _⟩ := hK.i2.reads_len (tos_len ps z k)
      obtain ⟨vF, hvF⟩ : ∃ vF, vF = Value.slice none 0 0 := ⟨_, rfl⟩
      have K0 := K2.start hK.g
      have hVG : G ∉ blkA AV := fun hm => hK.st.apart hK.g (by decide) (by rw [blkA_own AV M cV] at hm; simpa using hm)
      have hVR : R ∉ blkA AV := fun hm => by have h1 := (hK.st.lt R (by rw [blkA_own AV M cV] at hm; simpa using hm)).1; have h2 := HR.out.1.lt; omega
      have hF0 : FdsOk w9 ps z st G R [] 0 := FdsOk.start
      have HK9 := Lib.hid hK
      have HH := Lib.hid (And.intro hM (And.intro rS (And.intro nB (And.intro n1 (And.intro n2 (And.intro hVG hVR))))))
      have HF0 := Lib.hid hF0
      clear hK hM rS nB n1 n2 hVG hVR hF0 hk hkn
      go_wp2_with fail
      go_loopw [9] (fun av wr => ∃ (j a : Nat) (vF : Value) (fs : List Fd), av = .int .i64 (a : Int) ∧ a = j * z ∧ a ≤ M + z ∧ K2 w9 wr G (.slice A k c) (.slice A1 k k1) (.slice A2 k k2) (.slice AV M cV) (.slice AB k kB) vF fs ∧ FdsOk w9 ps z st G R fs j ∧ ∀ i, i < j → i * z < M) (fun av _ => M + z - (intOf av).toNat)
      case atStart => exact ⟨0, 0, _, _, rfl, (Nat.zero_mul z).symm, Nat.zero_le _, K0, HF0.out, fun i h => by omega⟩
      case round =>
        obtain ⟨j, a, vF, fs, rfl, haz, haM, hK, hFs, hlt⟩ := hrel
        clear K0 HF0
        have g4 := hK.g.cell 4
        simp at g4
        have oB := HK9.out.ib.only hK.o (fun i hi hm => on_nrow HK9.out.ib HK9.out.g (by decide) (by rw [hi, List.mem_singleton.1 hm]))
        obtain ⟨_, _, e5, nBw, _⟩ := oB.reads_len (bds_len ps k)
        cases e5
        by_cases haM2 : a < M
        · obtain ⟨E1, hE1⟩ : ∃ E1, a + z = E1 := ⟨_, rfl⟩
          obtain ⟨e, he⟩ : ∃ e, min E1 M = e := ⟨_, rfl⟩
          have p1 : (a : Int) + (z : Int) = (E1 : Int) := by omega
          have hE1b : E1 ≤ 2700 := by omega
          have hk40 : k ≤ 40 := HN.out.1
          have g5 := hK.g.cell 5
          simp at g5
          have HS := Lib.hid (And.intro haz (And.intro hK (And.intro hFs (And.intro hlt (And.intro hE1 he)))))
          clear haz hK hFs hlt hE1 he oB
          go_wp2_with fail
          go_loop [10, 11] (fun fv iv => ∃ (i f : Nat), iv = .int .i64 ((i : Int) - 1) ∧ i ≤ k ∧ fv = .int .i64 (f : Int) ∧ FstJ ps a e f i) (fun _ iv => (intOf iv + 1).toNat)
          case atStart => exact ⟨k, 2047, rfl, Nat.le_refl _, rfl, by have h := FstJ.start (ps := ps) (a := a) (e := e); rw [hl.out] at h; exact h⟩
          case round =>
            obtain ⟨i, f, rfl, hi, rfl, hF⟩ := hrel
            cases i with
            | succ i =>
              have hiv : (((i + 1 : Nat) : Int) - 1) = (i : Int) := by omega
              rw [hiv]
              have u1 : decide ((0 : Int) ≤ (i : Int)) = true := by simp
              obtain ⟨bb, ob, hAB, hbb, hcb⟩ := nBw.at_ (k := i) (by rw [bds_len]; omega)
              subst hAB
              have hbv : (bds ps k)[i]'(by rw [bds_len]; omega) = ((bnd ps i : Nat) : Int) := by
                have h := bds_at (ps := ps) (k := k) (i := i) (by omega)
                rw [List.getElem?_eq_getElem (by rw [bds_len]; omega)] at h
                injection h
              rw [hbv] at hcb
              obtain ⟨Y, hY⟩ : ∃ Y, bnd ps i = Y := ⟨_, rfl⟩
              rw [hY] at hcb
              have hYM : Y < M := by
                obtain ⟨x, hx⟩ : ∃ x, ps[i]? = some x := ⟨_, List.getElem?_eq_getElem (by rw [hl.out]; omega)⟩
                have h1 := hP.out i x hx
                have h2 := bnd_next hx
                have h3 := bnd_top (ps := ps) (i + 1)
                rw [HH.out.1] at h3
                omega
              have j0 : (0 : Int) ≤ (i : Int) := by omega
              have j1 : (i : Int) < (k : Int) := by omega
              have hEe := HS.out.2.2.2.2.2
              by_cases h1 : a ≤ Y
              · have u2 : decide ((a : Int) ≤ (Y : Int)) = true := by simpa using h1
                have u2' : decide (a ≤ Y) = true := by simpa using h1
                by_cases h2 : Y < E1
                · have u3 : decide ((Y : Int) < (E1 : Int)) = true := by simpa using h2
                  have u3' : decide (Y < E1) = true := by simpa using h2
                  obtain ⟨D, hD⟩ : ∃ D, Y - a = D := ⟨_, rfl⟩
                  have d1 : (Y : Int) - (a : Int) = (D : Int) := by omega
                  have HF := Lib.hid (show FstJ ps a e D i by rw [← hD, ← hY]; exact FstJ.yes (by rw [hl.out]; omega) (by rw [hY]; exact h1) (by rw [hY]; omega))
                  have hDb : D ≤ 2640 := by omega
                  clear hF hY h1 h2 hD hbv hEe
                  go_wp2
                  go_round
                  case rel => exact ⟨i, D, by go_num, by omega, by go_num, HF.out⟩
                  case measure => simp [intOf]
                · have u3 : decide ((Y : Int) < (E1 : Int)) = false := by simpa using h2
                  have u3' : decide (Y < E1) = false := by simpa using h2
                  have HF := Lib.hid (hF.no (by rw [hY]; omega))
                  clear hF hY h1 h2 hbv hEe
                  go_wp2
                  go_round
                  case rel => exact ⟨i, f, by go_num, by omega, rfl, HF.out⟩
                  case measure => simp [intOf]
              · have u2 : decide ((a : Int) ≤ (Y : Int)) = false := by simpa using h1
                have u2' : decide (a ≤ Y) = false := by simpa using h1
                have HF := Lib.hid (hF.no (by rw [hY]; omega))
                clear hF hY h1 hbv hEe
                go_wp2
                go_round
                case rel => exact ⟨i, f, by go_num, by omega, rfl, HF.out⟩
                case measure => simp [intOf]
            | zero =>
              have u1 : decide ((0 : Int) ≤ ((0 : Nat) : Int) - 1) = false := by decide
              obtain ⟨haz, hK, hFs, hlt, hE1, he⟩ := HS.out
              obtain ⟨AF, kF, rfl, _⟩ := hK.f.reads_len encF_ok hFs.1
              obtain ⟨bV, oV, rfl, hbV, _⟩ := HH.out.2.1.at_ (by omega)
              have hae : a < e := by omega
              have heM : e ≤ M := by omega
              have hd := Rd.sub HH.out.2.1 a (e - a) (by omega)
              have hcV := HH.out.2.1.le
              have hja : j ≤ a := by rw [haz]; exact Nat.le_mul_of_pos_right j (by omega)
              have hq : a / z = j := by rw [haz]; exact Nat.mul_div_cancel j (by omega)
              have d1 : (a : Int).tdiv (z : Int) = (j : Int) := by rw [Int.tdiv_eq_ediv_of_nonneg (by omega), ← hq]; simp
              have d1' : (a : Int) / (z : Int) = (j : Int) := by rw [← hq]; simp
              obtain ⟨T, hT⟩ : ∃ T, st + j = T := ⟨_, rfl⟩
              obtain ⟨C, hC⟩ : ∃ C, T % 256 = C := ⟨_, rfl⟩
              obtain ⟨D, hD⟩ : ∃ D, e - a = D := ⟨_, rfl⟩
              obtain ⟨cD, hcD⟩ : ∃ cD, cV - a = cD := ⟨_, rfl⟩
              have hTb : T ≤ 5000 := by omega
              have hCb : C < 256 := by omega
              have t1 : (st : Int) + (j : Int) = (T : Int) := by omega
              have t2 : (T : Int).tmod 256 = (C : Int) := by rw [Int.tmod_eq_emod_of_nonneg (by omega), ← hC]; exact (Int.natCast_emod T 256).symm
              have t3 : (T : Int) % 256 = (C : Int) := by rw [← hC]; exact (Int.natCast_emod T 256).symm
              have m1 : min (E1 : Int) (M : Int) = (e : Int) := by omega
              have m2 : (if (E1 : Int) < (M : Int) then (E1 : Int) else (M : Int)) = (e : Int) := by split <;> omega
              have m3 : (if (M : Int) < (E1 : Int) then (M : Int) else (E1 : Int)) = (e : Int) := by split <;> omega
              have m4 : (if E1 < M then (E1 : Int) else (M : Int)) = (e : Int) := by split <;> omega
              have m5 : (if M < E1 then (M : Int) else (E1 : Int)) = (e : Int) := by split <;> omega
              have s1 : (a : Int) ≤ (e : Int) := by omega
              have s2 : (e : Int) ≤ (cV : Int) := by omega
              have s3 : a ≤ e := by omega
              have s4 : e ≤ cV := by omega
              have s5 : cV ≠ a := by omega
              have s6 : e ≤ M := heM
              have s7 : (e : Int) ≤ (M : Int) := by omega
              have w1 : IntKind.i64.wrap (j : Int) = (j : Int) := by rw [IntKind.wrap_i64]; omega
              have w2 : IntKind.i64.wrap (T : Int) = (T : Int) := by rw [IntKind.wrap_i64]; omega
              have w3 : IntKind.i64.wrap (E1 : Int) = (E1 : Int) := by rw [IntKind.wrap_i64]; omega
              have w4 : IntKind.i64.wrap (C : Int) = (C : Int) := by rw [IntKind.wrap_i64]; omega
              rw [hD, hcD] at hd
              have hea : min ((j + 1) * z) M = e := by rw [Nat.succ_mul, ← haz, hE1]; exact he
              have hok : FdOk w9 ps z st j ⟨C, f, some ⟨bV, oV + a, none⟩, D, cD, (ps.flatten.drop a).take D⟩ := ⟨by rw [← hC, ← hT], by rw [HH.out.1, hea, ← haz]; exact hF.done, by rw [HH.out.1, hea, ← haz, ← hD], hd, bV, oV + a, rfl, hbV⟩
              have hnext := hFs.next hok HH.out.2.2.2.2.2
              have hj26 : j ≤ 2640 := by omega
              have HN2 := Lib.hid (And.intro haz (And.intro hnext (And.intro hlt (And.intro hFs.1 (And.intro hE1 hj26)))))
              have HKw := Lib.hid hK
              have g0 := hK.g.cell 0
              simp at g0
              have hca : ∀ o, (wr.alloc o).cell? ⟨G, 0, none⟩ = some (.slice AF j kF) := fun o => by
                have := ((hK.below (bel_new wr o)).g).cell 0
                simpa using this
              have hcb : ∀ o, (wr.alloc o).cell? ⟨G, 4, none⟩ = some (.slice (some ⟨bV, oV, none⟩) M cV) := fun o => by
                have := ((hK.below (bel_new wr o)).g).cell 4
                simpa using this
              clear HS haz hK hFs hlt hE1 he hd hcV hja hq hT hC hea hok hnext hF hbV hj26 hae heM nBw g5 hi u1
              go_upto_region 19 with fail
              go_region_law (first | (refine step_row _ encF_ok is_flds (by decide) rfl (.tmp 99) (.tmp 119) rfl (v := Value.slice AF j kF) (m := fs) rfl (HKw.out.f.alloc _).drew (l := [⟨C, f, some ⟨bV, oV + a, none⟩, D, cD, (ps.flatten.drop a).take D⟩]) (n := 1) rfl rfl (Rs_new1 encF_ok wr _ _ _ (by simp only [encF])).drew (by simp) (by have := HN2.out; simp; omega) (by have := HKw.out.o.size; simp; omega) ?_; intro u w7 ho7 hg7 hb7; obtain ⟨x7, f7, K7⟩ := (HKw.out.below (bel_new _ _)).drew.grow rfl hg7 ho7; obtain ⟨A7, c7, rfl, _⟩ := ho7.reads_len encF_ok (n := j + 1) (by rw [List.length_append, HN2.out.2.2.2.1]; rfl); clear ho7 hg7 hb7))
              all_goals (
                have HK7 := Lib.hid K7
                clear K7 x7 f7 hca hcb w1 w2 w3 w4 g0 g4
                go_wp2_with fail
                go_roundw
                case rel =>
                  obtain ⟨h1, h2, h3, h4, h5, h6⟩ := HN2.out
                  refine ⟨j + 1, E1, _, _, by go_num, by rw [Nat.succ_mul, ← h1]; exact h5.symm, by omega, HK7.out, h2, fun i hi => ?_⟩
                  by_cases hij : i = j
                  · rw [hij, ← h1]; exact haM2
                  · exact h3 i (by omega)
                case measure => have := HN2.out.2.2.2.2.1; simp [intOf]; omega)
        · have hF := HK9.out
          have hcR := HR.out.1
          have q1 := hF.b
          have hlo := hF.lo
          have hcR9 := Pac.Cel.later hcR q1
          have hRG : R ∉ [G] := fun hm => by have := List.mem_singleton.1 hm; have := hcR.lt; omega
          have rv := hcR9.only hK.o hRG
          have u1 : decide ((a : Int) < (M : Int)) = false := by simpa using haM2
          have u1' : decide (a < M) = false := by simpa using haM2
          obtain ⟨AF, kF, rfl, rF, _⟩ := hK.f.reads_len encF_ok hFs.1
          have g0 := hK.g.cell 0
          have g1 := hK.g.cell 1
          have g2 := hK.g.cell 2
          have g3 := hK.g.cell 3
          have g5 := hK.g.cell 5
          simp at g0 g1 g2 g3 g5
          have y0 := rv.cell 0
          have y1 := rv.cell 1
          have y2 := rv.cell 2
          have y3 := rv.cell 3
          have y4 := rv.cell 4
          have y5 := rv.cell 5
          simp at y0 y1 y2 y3 y4 y5
          have f0 := rv.free 0
          have f1 := rv.free 1
          have f2 := rv.free 2
          have f3 := rv.free 3
          have f4 := rv.free 4
          have f5 := rv.free 5
          have q6 := put6_cel rv (.slice AF j kF) (.slice A1 k k1) (.slice A2 k k2) (.slice A k c) (.slice AV M cV) (.slice AB k kB)
          have p6 := put6_only wr R (.slice AF j kF) (.slice A1 k k1) (.slice A2 k k2) (.slice A k c) (.slice AV M cV) (.slice AB k kB)
          unfold put6 at q6 p6
          have HF := Lib.hid (And.intro q6 (And.intro p6 (And.intro haz (And.intro hK (And.intro hFs (And.intro hlt rF))))))
          clear q6 p6 haz hK hFs hlt rF rv hcR9 hRG hcR q1 hlo hF oB nBw
          go_wp2
          refine bodyPost_ret (cut_results rfl HF.out.1) rfl ?_
          obtain ⟨_, p6, haz, hK, hFs, hlt, _⟩ := HF.out
          have hF := HK9.out
          have hRG : R < W1.heap.size := HR.out.1.lt
          have hb1 := hF.b.size
          have hb2 := hK.o.size
          have hb0 := HR.out.2.1.size
          have hM := HH.out.1
          have hfl6 := hK.f.only p6 (fun i hi hm => by have h1 := (hK.f.lt i hi).1; have h2 := List.mem_singleton.1 hm; omega)
          have h1w := (hF.i1.only hK.o (fun i hi hm => on_nrow hF.i1 hF.g (by decide) (by rw [hi, List.mem_singleton.1 hm]))).only p6 (fun i hi hm => by have h1 := (hF.i1.lt i hi).1; have h2 := List.mem_singleton.1 hm; omega)
          have h2w := (hF.i2.only hK.o (fun i hi hm => on_nrow hF.i2 hF.g (by decide) (by rw [hi, List.mem_singleton.1 hm]))).only p6 (fun i hi hm => by have h1 := (hF.i2.lt i hi).1; have h2 := List.mem_singleton.1 hm; omega)
          refine ⟨j, kF, k1, k2, cV, kB, M, AF, A1, A2, AV, AB, rfl, ⟨fun i => ⟨fun hi => by rw [hM]; exact hlt i hi, fun hi => ?_⟩, ⟨fs, hFs.1, hfl6.rs encF_ok, fun i o ho => ?_⟩, ?_, ?_, ?_⟩⟩
          · rw [hM] at hi
            exact Nat.lt_of_mul_lt_mul_right (a := z) (by omega)
          · obtain ⟨h1, h2, h3⟩ := hFs.2 i o ho
            exact (h1.only h2 hK.o).only h3 p6
          · obtain ⟨_, _, e, n, _⟩ := h1w.reads_len (frs_len ps z k)
            cases e
            exact n
          · obtain ⟨_, _, e, n, _⟩ := h2w.reads_len (tos_len ps z k)
            cases e
            exact n
          · exact (HR.out.2.1.trans (hF.b.mono hb0)).trans ((hK.o.below (by omega) (fun x hx => by rw [List.mem_singleton.1 hx]; have := hF.lo; omega)).trans (p6.below (by omega) (fun x hx => by rw [List.mem_singleton.1 hx]; exact HR.out.2.2)))
end Go.Proofs.Ytcmonalnhdodmaa.Unp
