/-
  The walk of the law OctetsBack.
-/
import Derived.Test.YthacjccdcmmhkaaPuts03
import Derived.Test.YthacjccdcmmhkaaRef03d
namespace Go.Proofs.Ythacjccdcmmhkaa
open Go.RowKit

/-- the encodings of the values from the j-th on -/
def encFrom (l : List V4) (j : Nat) : List Byte := (l.drop j).flatMap encV
theorem encFrom_zero (l : List V4) : encFrom l 0 = encAll l l.length := by simp [encFrom, encAll]
theorem encFrom_step (l : List V4) (j : Nat) (v : V4) (h : l[j]? = some v) : encFrom l j = encV v ++ encFrom l (j + 1) := by
  have hj := (List.getElem?_eq_some_iff.1 h).1
  have he := (List.getElem?_eq_some_iff.1 h).2
  unfold encFrom
  rw [List.drop_eq_getElem_cons hj, he]
  rfl
theorem encFrom_len (l : List V4) (j : Nat) : (encFrom l j).length ≤ (encAll l l.length).length := by
  have : encAll l l.length = encAll l j ++ encFrom l j := by
    unfold encAll encFrom
    rw [List.take_length, ← List.flatMap_append, List.take_append_drop]
  rw [this, List.length_append]
  omega

set_option maxHeartbeats 400000 in
theorem back_heavy (a : Option Addr) (l : List V4) (c : Nat) (w : World) (hm : l.length ≤ maxLen) (hv : Vals w a l) (hl : lightB l = false) :
    Calls Try.prog 5 #[.slice a l.length c] w fun e w' => e = .returned (.bool true) ∧ Below w.heap.size w w' := by
  have hli := fun W (hW : Below w.heap.size w W) => light_any a l c W hm (hv.below hW)
  rw [hl] at hli
  go_enter Try.func5, Try.ntmps5
  go_wp2_with (first
    | (go_at_call 7; refine (awake_any _).mono ?_; rintro e w1 ⟨rfl, bel1⟩)
    | (go_at_call 8; refine (hli w1 bel1).mono ?_; rintro e w2 ⟨rfl, rfl⟩))
  go_ret
  exact ⟨rfl, bel1⟩

set_option maxHeartbeats 4000000 in
theorem back_light (a : Option Addr) (l : List V4) (c : Nat) (w : World) (hm : l.length ≤ maxLen) (hv : Vals w a l) (hl : lightB l = true) :
    Calls Try.prog 5 #[.slice a l.length c] w fun e w' => e = .returned (.bool true) ∧ Below w.heap.size w w' := by
  have hli := fun W (hW : Below w.heap.size w W) => light_any a l c W hm (hv.below hW)
  rw [hl] at hli
  obtain ⟨h40, h200⟩ := light_at hl
  go_enter Try.func5, Try.ntmps5
  go_wp2_with fail
  refine (awake_any _).mono ?_
  rintro e w1 ⟨rfl, bel1⟩
  go_wp2_with fail
  refine (hli w1 bel1).mono ?_
  rintro e w2 ⟨rfl, rfl⟩
  go_wp2_with fail
  refine (onew_any _).mono ?_
  rintro e w2 ⟨rfl, hw2⟩
  have hW2 : OW w2 w.heap.size w1.heap.size none [] := by rw [← hw2]; exact OW_new _ _
  have bel2 : Below w.heap.size w w2 := by rw [← hw2]; exact bel1.alloc bel1.size _
  have hgw := bel1.size
  obtain ⟨g, hg⟩ : ∃ g, g = w1.heap.size := ⟨_, rfl⟩
  rw [← hg] at hW2 hgw ⊢
  clear hw2 bel1 hg hli
  go_wp2_with fail
  go_loopg [4] l.length (fun gk i wr => ∃ (j : Nat) (r : Option Nat), j + gk = l.length ∧ i = .int .i64 (j : Int) ∧ OW wr w.heap.size g r (encAll l j) ∧ Below w.heap.size w wr)
  case atStart => exact ⟨0, none, by omega, rfl, hW2, bel2⟩
  case round =>
    clear hW2 bel2
    obtain ⟨j, r, hj, rfl, hW, hbel⟩ := hrel
    by_cases hlt : j < l.length
    · obtain ⟨v, hvj⟩ : ∃ v, l[j]? = some v := ⟨_, List.getElem?_eq_getElem hlt⟩
      obtain ⟨b, off, rfl, hbl, q0, q1, q2, q3, ok⟩ := hv j v hvj
      have c0 := (hbel.cell (p := ⟨b, off + j * 4, none⟩) hbl).trans q0
      have c1 := (hbel.cell (p := ⟨b, off + j * 4 + 1, none⟩) hbl).trans q1
      have c2 := (hbel.cell (p := ⟨b, off + j * 4 + 2, none⟩) hbl).trans q2
      have c3 := (hbel.cell (p := ⟨b, off + j * 4 + 3, none⟩) hbl).trans q3
      have i0 : (0 : Int) ≤ (j : Int) := Int.natCast_nonneg _
      have i1 : (j : Int) < (l.length : Int) := by omega
      have hlen := encAll_len hv h200 j
      have hs1 := Lib.hid (encAll_succ l j v hvj)
      have hwz := hbel.size
      have hp := put_any wr w.heap.size g r (encAll l j) v hW (i64_bounds ok.n) (ok.b.below hbel) ok.none hgw (h200 j v hvj) (by omega) hwz
      clear hvj q0 q1 q2 q3 hlen
      go_wp2_with fail
      refine hp.mono ?_
      rintro e W3 ⟨⟨vb, rfl, hvb⟩, hP⟩
      have hb3 := hbel.trans (hP.below hW (Nat.le_refl _) hgw)
      obtain ⟨r2, hW3, hr2, hO⟩ := hP
      clear hp c0 c1 c2 c3 hvb hr2 hO hW
      go_wp2_with fail
      go_roundg (gk - 1)
      case measure => omega
      case rel => exact ⟨j + 1, r2, by omega, by go_num, by rw [hs1.out]; exact hW3, hb3⟩
    · have hjl : j = l.length := by omega
      have t1 : decide ((j : Int) < (l.length : Int)) = false := by simp; omega
      have hX9 := encAll_len hv h200 l.length
      rw [hjl, ← encFrom_zero] at hW
      have hF0 := fun i => encFrom_len l i
      rw [← encFrom_zero] at hX9
      simp only [← encFrom_zero] at hF0
      have hF9 : ∀ i, (encFrom l i).length ≤ 8400 := fun i => Nat.le_trans (hF0 i) (by omega)
      have HF := Lib.hid hF9
      have hwz := hbel.size
      have hob := obytes_any wr w.heap.size g r (encFrom l 0) hW (by have := hF9 0; omega)
      clear hjl hX9 hF0 hF9 hW
      go_wp2_with fail
      refine hob.mono ?_
      rintro e w3 ⟨vb, rfl, hown, hb3⟩
      obtain ⟨A, n, rfl, hA, hAn, _⟩ := hown.reads
      have bel3 := hbel.trans (hb3.mono hwz)
      have hnr := orNew A (encFrom l 0) _ n w3 (Lib.hid rfl) hA hAn (by have := HF.out 0; omega)
      clear hob hown hb3 hA hbel hwz
      go_wp2_with fail
      refine hnr.mono ?_
      rintro e w4 ⟨g2, rfl, hR, hg2, hb4⟩
      have bel4 := bel3.trans (hb4.mono bel3.size)
      have hg2w : w.heap.size ≤ g2 := Nat.le_trans bel3.size hg2
      clear hnr hb4 bel3 hg2 t1 hj hlt
      go_wp2_with fail
      go_loopg [6] l.length (fun gk i wr => ∃ (j : Nat), j + gk = l.length ∧ i = .int .i64 (j : Int) ∧ OR wr g2 g2 (some (encFrom l j)) ∧ Below w.heap.size w wr)
      case atStart => exact ⟨0, by omega, rfl, hR, bel4⟩
      case round =>
        clear hR bel4
        obtain ⟨j, hj, rfl, hR, hbel⟩ := hrel
        by_cases hlt : j < l.length
        · obtain ⟨v, hvj⟩ : ∃ v, l[j]? = some v := ⟨_, List.getElem?_eq_getElem hlt⟩
          obtain ⟨b, off, rfl, hbl, q0, q1, q2, q3, ok⟩ := hv j v hvj
          have c0 := (hbel.cell (p := ⟨b, off + j * 4, none⟩) hbl).trans q0
          have c1 := (hbel.cell (p := ⟨b, off + j * 4 + 1, none⟩) hbl).trans q1
          have c2 := (hbel.cell (p := ⟨b, off + j * 4 + 2, none⟩) hbl).trans q2
          have c3 := (hbel.cell (p := ⟨b, off + j * 4 + 3, none⟩) hbl).trans q3
          have i0 : (0 : Int) ≤ (j : Int) := Int.natCast_nonneg _
          have i1 : (j : Int) < (l.length : Int) := by omega
          have hst := Lib.hid (encFrom_step l j v hvj)
          have hbnd := i64_bounds ok.n
          have hb2 := h200 j v hvj
          have hAn2 := ok.none
          have hBv := ok.b.below hbel
          obtain ⟨k, n2, s, A2, c2', B2⟩ := v
          simp only at c0 c1 c2 c3 hbnd hb2 hAn2 hBv
          clear hvj q0 q1 q2 q3 ok
          have hlen9 := HF.out j
          rw [hst.out] at hR hlen9
          obtain ⟨F1, hF1⟩ : ∃ F1, F1 = encFrom l (j + 1) := ⟨_, rfl⟩
          rw [← hF1] at hR hlen9
          have HF1 := Lib.hid hF1
          clear hF1
          by_cases hk0 : k = 0
          · subst hk0
            have hE : encV ⟨0, n2, s, A2, c2', B2⟩ = encU (n2 % 18446744073709551616).toNat s := by unfold encV; simp
            rw [hE] at hR hlen9
            clear hE hst
            obtain ⟨W1, hW1⟩ : ∃ W1, W1 = wr.alloc (.cells #[.int .i64 0, .int .i64 n2, .int .i64 s, .slice A2 B2.length c2'] 31) := ⟨_, rfl⟩
            have hcel : Cel W1 wr.heap.size 31 #[.int .i64 0, .int .i64 n2, .int .i64 s, .slice A2 B2.length c2'] := by rw [hW1]; exact Cel.new _ _ _
            have hO1 : Only [] wr W1 := by rw [hW1]; exact (Only.refl [] wr).alloc _
            have hq1 : wr.heap.size < W1.heap.size := by rw [hW1]; simp
            have hqg : g2 < wr.heap.size := hR.lt.2
            have hR1 := hR.only hO1 (by simp) (by simp)
            have hb1 : Below w.heap.size w W1 := hbel.trans (hO1.below (B := w.heap.size) hbel.size (by simp))
            have hBv1 := hBv.only hO1 hbel.size (by simp)
            have k1 := hcel.cell 1
            have k2 := hcel.cell 2
            have k3 := hcel.cell 3
            simp at k1 k2 k3
            obtain ⟨q, hqq⟩ : ∃ q, q = wr.heap.size := ⟨_, rfl⟩
            rw [← hqq] at hcel k1 k2 k3 hq1 hqg
            have hx := fun m hm => xuint_any m s (n2 % 18446744073709551616).toNat hm W1 (by omega)
            have htk := tkU_enc (n2 % 18446744073709551616).toNat s F1
            have htk0 := tkU_enc (n2 % 18446744073709551616).toNat s []
            rw [List.append_nil] at htk0
            have hEb : ¬ (1 ≤ s ∧ s ≤ 8) → encU (n2 % 18446744073709551616).toNat s = [] := fun h => by unfold encU; rw [if_neg h]
            have hEl : 1 ≤ s ∧ s ≤ 8 → 1 ≤ (encU (n2 % 18446744073709551616).toNat s).length := fun h => by unfold encU; rw [if_pos h, be_len]; omega
            obtain ⟨E, hEE⟩ : ∃ E, E = encU (n2 % 18446744073709551616).toNat s := ⟨_, rfl⟩
            rw [← hEE] at hR1 hlen9 htk htk0 hEb hEl
            simp only [← hEE] at hx
            have hE9 : E.length ≤ 8400 := by rw [List.length_append] at hlen9; omega
            have hlft : lftO (some (E ++ F1)) < 1000000 := by show (E ++ F1).length < 1000000; omega
            clear hEE
            by_cases hs : 1 ≤ s ∧ s ≤ 8
            · have hrd : rd 0 (fun l => tkU l s) (some (E ++ F1)) = (beV E, some F1) := by rw [rd_ok (htk hs), List.drop_left]
              have hok : okU (tkU E s) = (beV E, E.length) := by rw [htk0 hs]; rfl
              have hl1 := hEl hs
              have u1 : (0 : Int) < (E.length : Int) := by omega
              have u2 : 0 < E.length := by omega
              obtain ⟨V, hV⟩ : ∃ V, V = beV E := ⟨_, rfl⟩
              rw [← hV] at hrd hok
              clear hV htk htk0 hEb hEl hs hl1
              go_wp2_with fail
              rw [← hW1, ← hqq]
              clear hW1 hqq hR hBv hbel c0 c1 c2 c3 hcel
              refine (hx _ (by rw [wrap64]; omega)).mono ?_
              rintro e W2 ⟨v2, rfl, hown, hb2'⟩
              have m2 := (hb2'.cell (p := ⟨q, 2, none⟩) (by exact hq1)).trans k2
              have hR2 := hR1.below hb2'
              have hbw2 := hb1.trans (hb2'.mono hb1.size)
              obtain ⟨A3, n3, rfl, hA3, hA3n, _⟩ := hown.reads
              have hxt := xtku_any A3 E E.length n3 _ s W2 (Lib.hid rfl) hA3 (by omega)
              rw [hok] at hxt
              clear hx hown hb2' hA3
              go_wp2_with fail
              refine hxt.mono ?_
              rintro e W3 ⟨rfl, rfl⟩
              have hru := oruint_any W2 g2 g2 (some (E ++ F1)) s hR2 hlft
              rw [hrd] at hru
              clear hxt
              go_wp2_with fail
              refine hru.mono ?_
              rintro e W4 ⟨rfl, hR4, hO4⟩
              have hbw4 := hbw2.trans (hO4.below (B := w.heap.size) hbw2.size (by simpa using hg2w))
              clear hru hR2
              go_wp2
              go_roundg (gk - 1)
              case measure => omega
              case rel => exact ⟨j + 1, by omega, by go_num, by rw [← HF1.out]; exact hR4, hbw4⟩
            · have hE0 := hEb hs
              subst hE0
              have hok : okU (tkU [] s) = (0, 0) := by rw [tkU_nil]; rfl
              clear htk htk0 hEb hEl hs
              go_wp2_with fail
              rw [← hW1, ← hqq]
              clear hW1 hqq hR hBv hbel c0 c1 c2 c3 hcel
              refine (hx _ (by rw [wrap64]; omega)).mono ?_
              rintro e W2 ⟨v2, rfl, hown, hb2'⟩
              have m2 := (hb2'.cell (p := ⟨q, 2, none⟩) (by exact hq1)).trans k2
              have hR2 := hR1.below hb2'
              have hbw2 := hb1.trans (hb2'.mono hb1.size)
              obtain ⟨A3, n3, rfl, hA3, hA3n, _⟩ := hown.reads
              have hxt := xtku_any A3 [] 0 n3 _ s W2 (Lib.hid rfl) hA3 (by omega)
              rw [hok] at hxt
              clear hx hown hb2' hA3
              go_wp2_with fail
              refine hxt.mono ?_
              rintro e W3 ⟨rfl, rfl⟩
              clear hxt
              go_wp2
              go_roundg (gk - 1)
              case measure => omega
              case rel => exact ⟨j + 1, by omega, by go_num, by rw [← HF1.out]; exact hR2, hbw2⟩
          · by_cases hk2 : k = 2
            · subst hk2
              have hE : encV ⟨2, n2, s, A2, c2', B2⟩ = encB B2 := by unfold encV; simp
              rw [hE] at hR hlen9
              have htk := tkB_enc B2 F1 200 (by omega) (by omega)
              have hrd : rd [] (fun l => tkB l 200) (some (encB B2 ++ F1)) = (B2, some F1) := by rw [rd_ok htk, List.drop_left]
              have hlft : lftO (some (encB B2 ++ F1)) < 1000000 := by show (encB B2 ++ F1).length < 1000000; omega
              have hbq := str_beq B2 B2
              rw [decide_eq_true rfl] at hbq
              clear hE hst hk0 htk
              obtain ⟨W1, hW1⟩ : ∃ W1, W1 = wr.alloc (.cells #[.int .i64 2, .int .i64 n2, .int .i64 s, .slice A2 B2.length c2'] 31) := ⟨_, rfl⟩
              have hcel : Cel W1 wr.heap.size 31 #[.int .i64 2, .int .i64 n2, .int .i64 s, .slice A2 B2.length c2'] := by rw [hW1]; exact Cel.new _ _ _
              have hO1 : Only [] wr W1 := by rw [hW1]; exact (Only.refl [] wr).alloc _
              have hq1 : wr.heap.size < W1.heap.size := by rw [hW1]; simp
              have hqg : g2 < wr.heap.size := hR.lt.2
              have hR1 := hR.only hO1 (by simp) (by simp)
              have hb1 : Below w.heap.size w W1 := hbel.trans (hO1.below (B := w.heap.size) hbel.size (by simp))
              have hBv1 := hBv.only hO1 hbel.size (by simp)
              have k1 := hcel.cell 1
              have k2 := hcel.cell 2
              have k3 := hcel.cell 3
              simp at k1 k2 k3
              obtain ⟨q, hqq⟩ : ∃ q, q = wr.heap.size := ⟨_, rfl⟩
              rw [← hqq] at hcel k1 k2 k3 hq1 hqg
              have hrb := orblob_any W1.drew g2 g2 _ 200 hR1.drew hlft
              rw [hrd] at hrb
              have hcv := fun W (hW : Below w.heap.size W1 W) => run_str (P := Try.prog) W is_bytes Try.underlying9 (hBv1.below hW) hAn2
              go_wp2_with fail
              rw [← hW1, ← hqq]
              clear hW1 hqq hR hBv hbel c0 c1 c2 c3 hcel
              refine wp_region_held_drew (S := (fun w' => w'.cell? ⟨q, 3, none⟩ = some (.slice A2 B2.length c2') ∧ (convert 27 9 (.slice A2 B2.length c2')).run Try.prog w' = .ok (.string (str B2)) w')) (by kernel_rfl) (⟨k3, hcv _ (Below.refl _ _).drew⟩) (fun hHeld => ?_)
              refine wpAnyH_here 0 (v := ?_) rfl (by kernel_rfl) (by kernel_rfl) (by kernel_rfl) (fun _ _ _ h => h) (Or.inl ⟨by rfl, ?_⟩) hHeld ?_
              rotate_left
              · intro w hSw; (try dsimp only at hSw); go_simp; all_goals (with_reducible rfl)
              try simp only [Act.put, List.setIfInBounds_toArray, List.set_cons_zero, List.set_cons_succ]
              refine wpAnyH_here 3 (v := ?_) rfl (by kernel_rfl) (by kernel_rfl) (by kernel_rfl) (fun _ _ _ h => h) (Or.inl ⟨by rfl, ?_⟩) hHeld ?_
              rotate_left
              · intro w hSw; (try dsimp only at hSw); go_simp; all_goals (with_reducible rfl)
              try simp only [Act.put, List.setIfInBounds_toArray, List.set_cons_zero, List.set_cons_succ]
              refine wpAnyH_here 4 (v := ?_) rfl (by kernel_rfl) (by kernel_rfl) (by kernel_rfl) (fun _ _ _ h => h) (Or.inl ⟨by rfl, ?_⟩) hHeld ?_
              rotate_left
              · intro w hSw; (try dsimp only at hSw); go_simp; all_goals (with_reducible rfl)
              try simp only [Act.put, List.setIfInBounds_toArray, List.set_cons_zero, List.set_cons_succ]
              refine wpAnyH_here 5 (v := ?_) rfl (by kernel_rfl) (by kernel_rfl) (by kernel_rfl) (fun _ _ _ h => h) (Or.inl ⟨by rfl, ?_⟩) hHeld ?_
              rotate_left
              · intro w hSw; (try dsimp only at hSw); go_simp; all_goals (with_reducible rfl)
              try simp only [Act.put, List.setIfInBounds_toArray, List.set_cons_zero, List.set_cons_succ]
              refine wpAnyH_alone 1 rfl (by kernel_rfl) (fun K hK => ?_)
              go_simp
              (go_at_call 20; refine hrb.mono ?_; rintro e W2 ⟨⟨v2, b2, rfl, hown⟩, hR2, hO2⟩; obtain ⟨A3, n3, rfl, hA3, hA3n, _⟩ := hown.reads; have m3 := (World.cell?_of_block (hO2.block q (by exact hq1) (by simp; omega))).trans k3; have hbo := hO2.below (B := w.heap.size) (by have := hb1.size; exact this) (by simpa using hg2w); have hs2 := run_str (P := Try.prog) W2 is_bytes Try.underlying9 hA3 hA3n)
              refine hK.out _ _ (⟨m3, hcv _ ((Below.refl _ _).drew.trans hbo)⟩) (fun hHeld => ?_)
              clear hK K
              try simp only [Act.put, List.setIfInBounds_toArray, List.set_cons_zero, List.set_cons_succ]
              refine wpAnyH_pin hHeld (fun hHeld => ?_)
              refine wpAnyH_here 2 (v := ?_) rfl (by kernel_rfl) (by kernel_rfl) (by kernel_rfl) (fun _ _ _ h => h) (Or.inl ⟨by rfl, ?_⟩) hHeld ?_
              rotate_left
              · intro w hSw; subst hSw; go_simp; all_goals (with_reducible rfl)
              try simp only [Act.put, List.setIfInBounds_toArray, List.set_cons_zero, List.set_cons_succ]
              refine wpAnyH_here 6 (v := ?_) rfl (by kernel_rfl) (by kernel_rfl) (by kernel_rfl) (fun _ _ _ h => h) (Or.inl ⟨by rfl, ?_⟩) hHeld ?_
              rotate_left
              · intro w hSw; subst hSw; go_simp; all_goals (with_reducible rfl)
              try simp only [Act.put, List.setIfInBounds_toArray, List.set_cons_zero, List.set_cons_succ]
              refine wpAnyH_done (by kernel_rfl) ?_ _
              have hbw2 : Below w.heap.size w W2 := hb1.drew.trans hbo
              go_wp2
              go_roundg (gk - 1)
              case measure => omega
              case rel => exact ⟨j + 1, by omega, by go_num, by rw [← HF1.out]; exact hR2, hbw2⟩
            · have hE : encV ⟨k, n2, s, A2, c2', B2⟩ = encI n2 := by unfold encV; simp [hk0, hk2]
              rw [hE] at hR hlen9
              have htk := tkI_enc F1 hbnd
              have hrd : rd 0 tkI (some (encI n2 ++ F1)) = (n2, some F1) := by rw [rd_ok htk, List.drop_left]
              have hlft : lftO (some (encI n2 ++ F1)) < 1000000 := by show (encI n2 ++ F1).length < 1000000; omega
              have hk0' : (k == 0) = false := by simpa using hk0
              have hk2' : (k == 2) = false := by simpa using hk2
              clear hE hst hk0 hk2 htk
              obtain ⟨W1, hW1⟩ : ∃ W1, W1 = wr.alloc (.cells #[.int .i64 k, .int .i64 n2, .int .i64 s, .slice A2 B2.length c2'] 31) := ⟨_, rfl⟩
              have hcel : Cel W1 wr.heap.size 31 #[.int .i64 k, .int .i64 n2, .int .i64 s, .slice A2 B2.length c2'] := by rw [hW1]; exact Cel.new _ _ _
              have hO1 : Only [] wr W1 := by rw [hW1]; exact (Only.refl [] wr).alloc _
              have hq1 : wr.heap.size < W1.heap.size := by rw [hW1]; simp
              have hqg : g2 < wr.heap.size := hR.lt.2
              have hR1 := hR.only hO1 (by simp) (by simp)
              have hb1 : Below w.heap.size w W1 := hbel.trans (hO1.below (B := w.heap.size) hbel.size (by simp))
              have hBv1 := hBv.only hO1 hbel.size (by simp)
              have k1 := hcel.cell 1
              have k2 := hcel.cell 2
              have k3 := hcel.cell 3
              simp at k1 k2 k3
              obtain ⟨q, hqq⟩ : ∃ q, q = wr.heap.size := ⟨_, rfl⟩
              rw [← hqq] at hcel k1 k2 k3 hq1 hqg
              have hri := orint_any W1.drew g2 g2 _ hR1.drew hlft
              rw [hrd] at hri
              go_wp2_with fail
              rw [← hW1, ← hqq]
              clear hW1 hqq hR hBv hbel c0 c1 c2 c3 hcel
              refine wp_region_held_drew (S := (fun w' => w'.cell? ⟨q, 1, none⟩ = some (.int .i64 n2))) (by kernel_rfl) (k1) (fun hHeld => ?_)
              refine wpAnyH_here 0 (v := ?_) rfl (by kernel_rfl) (by kernel_rfl) (by kernel_rfl) (fun _ _ _ h => h) (Or.inl ⟨by rfl, ?_⟩) hHeld ?_
              rotate_left
              · intro w hSw; (try dsimp only at hSw); go_simp; all_goals (with_reducible rfl)
              try simp only [Act.put, List.setIfInBounds_toArray, List.set_cons_zero, List.set_cons_succ]
              refine wpAnyH_here 2 (v := ?_) rfl (by kernel_rfl) (by kernel_rfl) (by kernel_rfl) (fun _ _ _ h => h) (Or.inl ⟨by rfl, ?_⟩) hHeld ?_
              rotate_left
              · intro w hSw; (try dsimp only at hSw); go_simp; all_goals (with_reducible rfl)
              try simp only [Act.put, List.setIfInBounds_toArray, List.set_cons_zero, List.set_cons_succ]
              refine wpAnyH_here 3 (v := ?_) rfl (by kernel_rfl) (by kernel_rfl) (by kernel_rfl) (fun _ _ _ h => h) (Or.inl ⟨by rfl, ?_⟩) hHeld ?_
              rotate_left
              · intro w hSw; (try dsimp only at hSw); go_simp; all_goals (with_reducible rfl)
              try simp only [Act.put, List.setIfInBounds_toArray, List.set_cons_zero, List.set_cons_succ]
              refine wpAnyH_alone 1 rfl (by kernel_rfl) (fun K hK => ?_)
              go_simp
              (go_at_call 21; refine hri.mono ?_; rintro e W2 ⟨rfl, hR2, hO2⟩; have m1 := (World.cell?_of_block (hO2.block q (by exact hq1) (by simp; omega))).trans k1; have hbo := hO2.below (B := w.heap.size) (by have := hb1.size; exact this) (by simpa using hg2w))
              refine hK.out _ _ (m1) (fun hHeld => ?_)
              clear hK K
              try simp only [Act.put, List.setIfInBounds_toArray, List.set_cons_zero, List.set_cons_succ]
              refine wpAnyH_pin hHeld (fun hHeld => ?_)
              refine wpAnyH_here 4 (v := ?_) rfl (by kernel_rfl) (by kernel_rfl) (by kernel_rfl) (fun _ _ _ h => h) (Or.inl ⟨by rfl, ?_⟩) hHeld ?_
              rotate_left
              · intro w hSw; subst hSw; go_simp; all_goals (with_reducible rfl)
              try simp only [Act.put, List.setIfInBounds_toArray, List.set_cons_zero, List.set_cons_succ]
              refine wpAnyH_done (by kernel_rfl) ?_ _
              have hbw2 : Below w.heap.size w W2 := hb1.drew.trans hbo
              go_wp2
              go_roundg (gk - 1)
              case measure => omega
              case rel => exact ⟨j + 1, by omega, by go_num, by rw [← HF1.out]; exact hR2, hbw2⟩
        · have hjl : j = l.length := by omega
          have t1 : decide ((j : Int) < (l.length : Int)) = false := by simp; omega
          have hnil : encFrom l l.length = [] := by simp [encFrom]
          rw [hjl, hnil] at hR
          have he : endO (some []) = true := rfl
          have hend := orEnd wr g2 g2 _ hR
          rw [he] at hend
          have hfail := orFailed wr g2 g2 _ hR
          have hleft := orLeft wr g2 g2 _ hR
          have hz : lftO (some []) = 0 := rfl
          rw [hz] at hleft
          clear hjl hR he
          go_wp2_with fail
          refine hend.mono ?_
          rintro e w5 ⟨rfl, rfl⟩
          go_wp2_with fail
          refine hfail.mono ?_
          rintro e w5 ⟨rfl, rfl⟩
          go_wp2_with fail
          refine hleft.mono ?_
          rintro e w5 ⟨rfl, rfl⟩
          go_wp2
          go_ret
          exact ⟨rfl, hbel⟩

theorem octetsBack_walk (a : Option Addr) (l : List V4) (c : Nat) (w : World) (hm : l.length ≤ maxLen) (hv : Vals w a l) :
    Calls Try.prog 5 #[.slice a l.length c] w fun e w' => e = .returned (.bool true) ∧ Below w.heap.size w w' := by
  cases hl : lightB l with
  | true => exact back_light a l c w hm hv hl
  | false => exact back_heavy a l c w hm hv hl
end Go.Proofs.Ythacjccdcmmhkaa
