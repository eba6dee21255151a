/-
  Package mux: New.
-/
import Derived.Test.YtpfhbojodapomaaMuxW4
import Derived.Test.YtpfhbojodapomaaMuxSo
namespace Go.Proofs.Ytpfhbojodapomaa.Mux
open Go.RowKit Go.Shelf Go.Proofs.Ytpfhbojodapomaa.Row

/-- a Mux whose channels are laid anew -/
theorem mw_set {w w2 : World} {base g : Nat} {v v2 : Value} {L0 L : List Ch} (hc : Cel w g 50 #[.bool true, v]) (ho1 : Row.Os encC 5 w base 53 v L0)
    (ho2 : Row.Os encC 5 w2 base 53 v2 L) (hk : Only v.ownBlock.toList w w2) :
    MW (w2.setCell ⟨g, 1, none⟩ v2) base g v2.ownBlock L ∧ w2.cell? ⟨g, 1, none⟩ = some v ∧ w2.frozen? ⟨g, 1, none⟩ = false := by
  have hne := Row.Os.apart ho1 hc (by decide)
  have hc2 : Cel w2 g 50 #[.bool true, v] := hc.only hk (by simpa using hne)
  have hne2 : v2.ownBlock ≠ some g := Row.Os.apart ho2 hc2 (by decide)
  refine ⟨⟨v2, ?_, ownsRow_setCell_other ho2 (a := ⟨g, 1, none⟩) hne2 _, rfl⟩, hc2.cell 1, hc2.free 1⟩
  have := hc2.put 1 v2
  simpa using this
theorem below_put {B : Nat} {w w' : World} (h : Below B w w') {g i : Nat} (hg : B ≤ g) (hB : B ≤ w'.heap.size) (v : Value) : Below B w (w'.setCell ⟨g, i, none⟩ v) :=
  h.trans ((put1 w' g i v).below hB (by simpa using hg))

set_option maxHeartbeats 4000000 in
set_option maxRecDepth 100000 in
theorem mnew_any (l : List Ch) (w : World) (A : Option Addr) (n c : Nat) (hln : l.length = n) (hr : Rs encA 3 w w.heap.size A l) (hl : n ≤ 1000000) (hz : Hid (∀ x ∈ l, x.cr = 0 ∧ x.sn = 0)) :
    Calls Try.prog 8 #[.slice A n c] w fun e w' => Below w.heap.size w w' ∧ ((chk [] l ≠ 0 ∧ e = .returned (.tuple #[.pointer none, I (chk [] l)])) ∨
      (chk [] l = 0 ∧ ∃ g r L, e = .returned (.tuple #[.pointer (some ⟨g, 0, none⟩), I 0]) ∧ w.heap.size ≤ g ∧ MW w' w.heap.size g r L ∧ L.Perm l ∧ Srt L)) := by
  have HL := Lib.hid hln
  clear hln
  obtain ⟨R, hR⟩ : ∃ R, R = chk [] l := ⟨_, rfl⟩
  rw [← hR]
  have HR := Lib.hid hR
  clear hR
  go_enter Try.func8, Try.ntmps8
  go_wp2
  go_loopw [6, 11] (fun _ i wr => ∃ (k : Nat) (r : Option Nat), k ≤ n ∧ i = .int .i64 k ∧ MW wr w.heap.size w.heap.size r (l.take k) ∧ Below w.heap.size w wr ∧ Hid (R = chk (l.take k) (l.drop k)) ∧ Hid (Good (l.take k))) (fun _ i _ => n - (intOf i).toNat)
  case atStart => exact ⟨0, none, Nat.zero_le _, rfl, ⟨_, Cel.new _ _ _, Row.Os.nil_ _ _ _, rfl⟩, bel_new _ _, HR, Lib.hid ⟨by simp, by simp [ids]⟩⟩
  case round =>
    obtain ⟨k, r, hk, rfl, hm, hbel, hchk, hgood⟩ := hrel
    have hsz := hbel.size
    by_cases hlt : k < n
    · have hkl : k < l.length := by rw [HL.out]; exact hlt
      obtain ⟨b, off, rfl, hbw, d0, d1, d2⟩ := a_at (hr.below hbel) hkl
      have htk : Hid (l.take (k + 1) = l.take k ++ [l[k]]) := Lib.hid (by rw [List.take_add_one, List.getElem?_eq_getElem hkl]; rfl)
      have hdr : Hid (l.drop k = l[k] :: l.drop (k + 1)) := Lib.hid (List.drop_eq_getElem_cons hkl)
      have hzk := Lib.hid (hz.out l[k] (List.getElem_mem hkl))
      generalize l[k] = y at d0 d1 d2 htk hdr hzk
      obtain ⟨x0, x1, x2, x3, x4⟩ := y
      obtain ⟨rfl, rfl⟩ : x3 = 0 ∧ x4 = 0 := hzk.out
      dsimp only at d0 d1 d2
      clear hzk
      obtain ⟨W1, hW1⟩ : ∃ W1, W1 = wr.alloc (.cells #[I x0, I x1, I x2] 42) := ⟨_, rfl⟩
      have hv := valid_any x0 x1 x2 0 0 W1
      have hm1 : MW W1 w.heap.size w.heap.size r (l.take k) := by rw [hW1]; exact hm.below (bel_new _ _)
      have e0 : W1.cell? ⟨wr.heap.size, 0, none⟩ = some (I x0) := by rw [hW1]; simp
      have e1 : W1.cell? ⟨wr.heap.size, 1, none⟩ = some (I x1) := by rw [hW1]; simp
      have e2 : W1.cell? ⟨wr.heap.size, 2, none⟩ = some (I x2) := by rw [hW1]; simp
      have hb1 : Below w.heap.size w W1 := by rw [hW1]; exact hbel.alloc hsz _
      have hs1 : W1.heap.size = wr.heap.size + 1 := by rw [hW1]; simp
      clear hr hm
      cases hok : decide (Ch.ok ⟨x0, x1, x2, 0, 0⟩) with
      | false =>
        rw [hok] at hv
        have HR1 : R = 1 := by rw [hchk.out, hdr.out]; exact chk_bad (of_decide_eq_false hok)
        clear hok
        go_wp2_with fail
        rw [← hW1]
        refine hv.mono ?_
        rintro e W2 ⟨rfl, hb2⟩
        clear hW1
        go_wp2_with fail
        go_ret2
        exact ⟨hb1.trans (hb2.mono (by omega)), .inl ⟨by rw [HR1]; decide, by rw [HR1]; rfl⟩⟩
      | true =>
        rw [hok] at hv
        have Hok := Lib.hid (of_decide_eq_true hok)
        clear hok
        go_wp2_with fail
        rw [← hW1]
        refine hv.mono ?_
        rintro e W2 ⟨rfl, hb2⟩
        clear hW1
        have hm2 := hm1.below hb2
        have f0 : W2.cell? ⟨wr.heap.size, 0, none⟩ = some (I x0) := (hb2.cell (p := ⟨wr.heap.size, 0, none⟩) (by show wr.heap.size < W1.heap.size; omega)).trans e0
        have f1 : W2.cell? ⟨wr.heap.size, 1, none⟩ = some (I x1) := (hb2.cell (p := ⟨wr.heap.size, 1, none⟩) (by show wr.heap.size < W1.heap.size; omega)).trans e1
        have f2 : W2.cell? ⟨wr.heap.size, 2, none⟩ = some (I x2) := (hb2.cell (p := ⟨wr.heap.size, 2, none⟩) (by show wr.heap.size < W1.heap.size; omega)).trans e2
        have hB2 := hb1.trans (hb2.mono (by omega))
        have hs2 := hb2.size
        obtain ⟨v, hc, ho, hvr⟩ := hm2
        obtain ⟨A3, c3, rfl, hr3, _, _, _⟩ := ho.reads encC_ok
        have k1 : W2.cell? ⟨w.heap.size, 1, none⟩ = some (.slice A3 (l.take k).length c3) := hc.cell 1
        have hgl := hc.lt
        have hkk : (l.take k).length = k := by rw [List.length_take, HL.out]; omega
        have hfd := mfind_any W2 w.heap.size A3 c3 (l.take k) x0 hc.lt k1 hr3 (by omega)
        rw [hkk] at k1 hc ho hvr
        clear hm1 hv e0 e1 e2
        go_wp2_with fail
        refine hfd.mono ?_
        rintro e W3 ⟨q, rfl, hf, hb3⟩
        have hB3 := hB2.trans (hb3.mono (by omega))
        have hs3 := hb3.size
        have k2 : W3.cell? ⟨w.heap.size, 1, none⟩ = some (.slice A3 k c3) := (hb3.cell (p := ⟨w.heap.size, 1, none⟩) hgl).trans k1
        have hc3 := hc.only (Only.of_below (S := []) hb3) (by simp)
        have ho3 := ho.below hb3
        have g0 : W3.cell? ⟨wr.heap.size, 0, none⟩ = some (I x0) := (hb3.cell (p := ⟨wr.heap.size, 0, none⟩) (by show wr.heap.size < W2.heap.size; omega)).trans f0
        have g1 : W3.cell? ⟨wr.heap.size, 1, none⟩ = some (I x1) := (hb3.cell (p := ⟨wr.heap.size, 1, none⟩) (by show wr.heap.size < W2.heap.size; omega)).trans f1
        have g2 : W3.cell? ⟨wr.heap.size, 2, none⟩ = some (I x2) := (hb3.cell (p := ⟨wr.heap.size, 2, none⟩) (by show wr.heap.size < W2.heap.size; omega)).trans f2
        clear hfd k1 f0 f1 f2 hr3 hc ho
        rcases hf.out with ⟨rfl, hno⟩ | ⟨A4, y4, B4, hs4, rfl, hp4, _⟩
        · have hnin : x0 ∉ ids (l.take k) := fun hin => by
            obtain ⟨z, hz1, hz2⟩ := List.mem_map.1 hin
            have := hno z hz1
            simp [hz2] at this
          have HR2 : Hid (R = chk (l.take (k + 1)) (l.drop (k + 1))) := Lib.hid (by rw [hchk.out, hdr.out, htk.out]; exact chk_on Hok.out hnin)
          have HG2 : Hid (Good (l.take (k + 1))) := Lib.hid (by
            rw [htk.out]
            exact chk_good (l := [⟨x0, x1, x2, 0, 0⟩]) hgood.out (by rw [chk_on Hok.out hnin]; rfl))
          clear hf hno hnin
          have ho4 : Row.Os encC 5 (W3.alloc (.cells #[I x0, I x1, I x2, I 0, I 0] 53)).drew w.heap.size 53 (.slice A3 k c3) (l.take k) := (ho3.alloc _).drew
          have hc4 : Cel (W3.alloc (.cells #[I x0, I x1, I x2, I 0, I 0] 53)).drew w.heap.size 50 #[.bool true, .slice A3 k c3] := hc3.only (Only.of_below (S := []) (bel_dr (bel_new W3 _) 1)) (by simp)
          have rs4 : Rs encC 5 (W3.alloc (.cells #[I x0, I x1, I x2, I 0, I 0] 53)).drew (W3.heap.size + 1) (some ⟨W3.heap.size, 0, none⟩) [⟨x0, x1, x2, 0, 0⟩] := Rs_new1 encC_ok W3 _ ⟨x0, x1, x2, 0, 0⟩ _ rfl
          have hB4 : Below w.heap.size w (W3.alloc (.cells #[I x0, I x1, I x2, I 0, I 0] 53)).drew := bel_dr (hB3.alloc (by omega) _) 1
          have hs4' : w.heap.size ≤ (W3.alloc (.cells #[I x0, I x1, I x2, I 0, I 0] 53)).drew.heap.size := hB4.size
          have n1 : w.heap.size ≠ W3.heap.size := by omega
          have n2 : wr.heap.size ≠ W3.heap.size := by omega
          have m1 : (W3.alloc (.cells #[I x0, I x1, I x2, I 0, I 0] 53)).drew.cell? ⟨w.heap.size, 1, none⟩ = some (.slice A3 k c3) := hc4.cell 1
          have hm47 : (l.take k).length + 1 ≤ 34359738368 := by omega
          go_wp2_with fail
          go_region_law (first | (refine step_row _ encC_ok is_chans (by decide) rfl (.tmp 27) (.tmp 30) rfl (v := Value.slice A3 k c3) rfl ho4 (l := [⟨x0, x1, x2, 0, 0⟩]) (n := 1) rfl rfl rs4 (by simp) hm47 hs4' ?_; intro v2 w7 ho7 hg7 hb7; have hst := mw_set hc4 ho4 ho7 (Only.of_grown hg7); have q2 := hst.2.1; have q3 := hst.2.2; have hB7 := hB4.grown hg7 hs4' (fun i hi => ho4.base_le i hi); obtain ⟨A7, c7, rfl, _⟩ := ho7.reads_len encC_ok (n := k + 1) (by rw [List.length_append, hkk]; rfl)))
          all_goals
            have hB8 := below_put hB7 (g := w.heap.size) (i := 1) (Nat.le_refl _) hB7.size (.slice A7 (k + 1) c7)
            have HM := Lib.hid hst.1
            rw [← htk.out] at HM
            clear hst ho7 hg7 hb7 hB7
            go_wp2_with fail
            go_roundw
            case rel => exact ⟨k + 1, _, hlt, by simp, HM.out, hB8, HR2, HG2⟩
            case measure => simp [intOf]; omega
        · have hin : x0 ∈ ids (l.take k) := by
            rw [hs4]
            have : y4.id = x0 := by simpa using hp4
            simp [ids, this]
          have HR1 : R = 9 := by rw [hchk.out, hdr.out]; exact chk_twice Hok.out hin
          clear hf hs4 hp4 hin
          go_wp2_with fail
          go_ret2
          exact ⟨hB3, .inl ⟨by rw [HR1]; decide, by rw [HR1]; rfl⟩⟩
    · obtain rfl : k = n := by omega
      have htk : l.take k = l := by rw [← HL.out, List.take_length]
      have hdr : l.drop k = [] := by rw [← HL.out, List.drop_length]
      rw [htk] at hm
      have hgd := hgood.out
      rw [htk] at hgd
      have HR0 : R = 0 := by rw [hchk.out, hdr]; rfl
      obtain ⟨v, hc, ho, hvr⟩ := hm
      have h8 := hgd.len
      have hso := sort_any l wr w.heap.size v ho (by omega)
      obtain ⟨A3, c3, rfl, _, _, _, _⟩ := ho.reads encC_ok
      have k1 : wr.cell? ⟨w.heap.size, 1, none⟩ = some (.slice A3 l.length c3) := hc.cell 1
      have hne := Row.Os.apart ho hc (by decide)
      clear htk hdr hr hgood
      go_wp2_with fail
      refine hso.mono ?_
      rintro e w2 ⟨rfl, s, hs, hp, ho2, hon⟩
      have hbf : Below w.heap.size w w2 := hbel.trans (hon.below hsz fun x hx => (ho.base_le x (by simpa using hx)))
      have hcf := hc.only hon (by simpa using hne)
      clear hso hc ho
      go_wp2_with fail
      go_ret2
      exact ⟨hbf, .inr ⟨HR0, w.heap.size, _, s, rfl, Nat.le_refl _, ⟨_, hcf, ho2, rfl⟩, hp, hs⟩⟩
end Go.Proofs.Ytpfhbojodapomaa.Mux
