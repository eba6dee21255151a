/-
  The walk of the law BitsPuts.
-/
import Derived.Test.YtgomkhllhpghmabFields02
namespace Go.Proofs.Ytgomkhllhpghmab
open Go.RowKit

set_option maxHeartbeats 4000000 in
theorem bitsPuts_walk (a : Option Addr) (c : Nat) (l : List (BitVec 64 × Int)) (w : World) (hm : l.length ≤ maxLen) (hp : Prs w a fN fK l) :
    Calls Try.prog 3 #[.slice a l.length c] w fun e w' => e = .returned (.bool true) ∧ Below w.heap.size w w' := by
  have hfew := fun W => few_any a l.length c W hm
  have heq := ne_W ⟨w.heap.size, 0, none⟩
  have bel0 : Below w.heap.size w (w.alloc (.cells #[.bool true, .slice none 0 0, .int .i64 0] 53)) := (Below.refl _ _).alloc (Nat.le_refl _) _
  by_cases hlen : l.length ≤ 100
  · rw [decide_eq_true hlen] at hfew
    have hW0 : WAt ((w.alloc (.cells #[.bool true, .slice none 0 0, .int .i64 0] 53)).alloc (.cells #[.slice none 0 0] 29)) w.heap.size w.heap.size none [] :=
      (WAt_new w w.heap.size).only ((Only.refl [] _).alloc _) (by simp) (by simp)
    have hX0 : XAt ((w.alloc (.cells #[.bool true, .slice none 0 0, .int .i64 0] 53)).alloc (.cells #[.slice none 0 0] 29)) w.heap.size (w.heap.size + 1) none [] := by
      refine ⟨.slice none 0 0, ?_, World.ownsRow_nil _ _ _ _, rfl⟩
      have := Cel.new (w.alloc (.cells #[.bool true, .slice none 0 0, .int .i64 0] 53)) 29 #[.slice none 0 0]
      simpa using this
    have hD0 : Duo w w.heap.size (w.heap.size + 1) [] [] ((w.alloc (.cells #[.bool true, .slice none 0 0, .int .i64 0] 53)).alloc (.cells #[.slice none 0 0] 29)) :=
      ⟨none, none, hW0, hX0, by simp, bel0.alloc bel0.size _, Nat.le_refl _, by omega⟩
    clear hW0 hX0 bel0
    go_enter Try.func3, Try.ntmps3
    go_wp2_with (first
      | (go_at_call 8; refine (newWriter_any _).mono ?_; rintro e w1 ⟨rfl, rfl⟩)
      | (go_at_call 9; refine (hfew _).mono ?_; rintro e w1 ⟨rfl, rfl⟩))
    clear hfew
    go_loopg [5] l.length (fun gk i wr => ∃ j : Nat, j + gk = l.length ∧ i = .int .i64 (j : Int) ∧ Duo w w.heap.size (w.heap.size + 1) (bitsAll l j) (bitsAll l j) wr)
    case atStart => exact ⟨0, by omega, rfl, hD0⟩
    case round =>
      obtain ⟨j, hj, rfl, r, r2, hW, hX, hd, hbel, hg, hg2⟩ := hrel
      by_cases hlt : j < l.length
      · obtain ⟨f, hf⟩ : ∃ f, f = l[j] := ⟨_, rfl⟩
        have hfj : l[j]? = some f := by rw [hf]; exact List.getElem?_eq_getElem hlt
        obtain ⟨b, off, rfl, hbl, q0, q1⟩ := hp j f hfj
        have c0 : wr.cell? ⟨b, off + j * 2, none⟩ = some (fN f.1) := (hbel.cell (p := ⟨b, off + j * 2, none⟩) hbl).trans q0
        have c1 : wr.cell? ⟨b, off + j * 2 + 1, none⟩ = some (fK f.2) := (hbel.cell (p := ⟨b, off + j * 2 + 1, none⟩) hbl).trans q1
        have hj0 : (0 : Int) ≤ (j : Int) := Int.natCast_nonneg _
        have hj1 : (j : Int) < (l.length : Int) := by omega
        have hLl := bitsAll_len l j
        have hs := bitsAll_succ l j hlt
        rw [← hf] at hs
        have HS := Lib.hid (And.intro hs hfj)
        clear hf hs hfj
        go_wp2_with fail
        have hWd := hW.drew
        have hXd := hX.drew
        have hbd := hbel.drew
        go_region_held3 (fun w' => w'.cell? ⟨b, off + j * 2, none⟩ = some (fN f.1) ∧ w'.cell? ⟨b, off + j * 2 + 1, none⟩ = some (fK f.2)) (first | go_keep | exact ⟨d1, d2⟩)
          (first | (go_at_call 11; refine (put_fld _ w.heap.size w.heap.size r (bitsAll l j) f hWd (by omega) hbd.size).mono ?_; rintro e w1 ⟨rfl, hP⟩; have hbel1 := hbd.trans (hP.below hWd (Nat.le_refl _) hg); have d1 := (hbel1.cell (p := ⟨b, off + j * 2, none⟩) hbl).trans q0; have d2 := (hbel1.cell (p := ⟨b, off + j * 2 + 1, none⟩) hbl).trans q1))
        obtain ⟨r1, s1, hW1, hX1, hd1, hb1, _, _⟩ := duo_put hWd hXd hd hbd hg hg2 hP
        clear hWd hXd hbd hP hbel1 d1 d2 hW hX hd hbel c0 c1
        have c0 : w1.cell? ⟨b, off + j * 2, none⟩ = some (fN f.1) := (hb1.cell (p := ⟨b, off + j * 2, none⟩) hbl).trans q0
        have c1 : w1.cell? ⟨b, off + j * 2 + 1, none⟩ = some (fK f.2) := (hb1.cell (p := ⟨b, off + j * 2 + 1, none⟩) hbl).trans q1
        go_wp2_with fail
        have hWd := hW1.drew
        have hXd := hX1.drew
        have hbd := hb1.drew
        go_region_held3 (fun w' => w'.cell? ⟨b, off + j * 2, none⟩ = some (fN f.1) ∧ w'.cell? ⟨b, off + j * 2 + 1, none⟩ = some (fK f.2)) (first | go_keep | exact ⟨d1, d2⟩)
          (first | (go_at_call 12; refine (xput_fld _ w.heap.size (w.heap.size + 1) s1 (bitsAll l j) f hXd (by omega) hbd.size).mono ?_; rintro e w2 ⟨rfl, hP⟩; have hD2 := duo_xput hWd hXd hd1 hbd hg hg2 hP; have hb2 : Below w.heap.size w w2 := (by obtain ⟨_, _, _, _, _, hb, _⟩ := hD2; exact hb); have d1 := (hb2.cell (p := ⟨b, off + j * 2, none⟩) hbl).trans q0; have d2 := (hb2.cell (p := ⟨b, off + j * 2 + 1, none⟩) hbl).trans q1))
        clear hWd hXd hbd hW1 hX1 hd1 hb1 c0 c1 d1 d2 hb2 hP
        rw [← HS.out.1] at hD2
        have hEl : (bitsAll l (j + 1)).length < 1000000 := by have := bitsAll_len l (j + 1); omega
        obtain ⟨E, hE⟩ : ∃ E, E = bitsAll l (j + 1) := ⟨_, rfl⟩
        rw [← hE] at hD2 hEl
        have HE := Lib.hid hE
        clear hE
        obtain ⟨r2, s2, hW2, hX2, hd2, hb2, _, _⟩ := hD2
        obtain ⟨Ax, cx, e0⟩ : ∃ Ax cx, w2.cell? ⟨w.heap.size + 1, 0, none⟩ = some (.slice Ax E.length cx) := by
          obtain ⟨vx, hcx, hox, hvx⟩ := hX2
          obtain ⟨Ax, cx, rfl, _⟩ := hox.reads_len (n := E.length) (by simp)
          have e0 := hcx.cell 0
          simp at e0
          exact ⟨Ax, cx, e0⟩
        have hxl := hX2.lt
        have hWd := hW2.drew
        go_wp2_with fail
        go_region_held3 (fun w' => w'.cell? ⟨w.heap.size + 1, 0, none⟩ = some (.slice Ax E.length cx)) (first | go_keep | exact k4 | exact k5)
          (first
            | (go_at_call 13; refine (wlen_any _ w.heap.size w.heap.size r2 E hWd hEl).mono ?_; rintro e w3 ⟨rfl, n3, rfl⟩; have hWe := hW2.draws (1 + n3); have hXe := hX2.draws (1 + n3); have hbe := hb2.trans (drewN_below (B := w.heap.size) w2 (1 + n3)); have e3 : (w2.drewN (1 + n3)).cell? ⟨w.heap.size + 1, 0, none⟩ = some (.slice Ax E.length cx) := e0; have hxl3 : w.heap.size + 1 < (w2.drewN (1 + n3)).heap.size := hxl)
            | (go_at_call 15; refine (wbytes_any _ w.heap.size w.heap.size r2 E hWe hEl).mono ?_; rintro e w4 ⟨v4, bs4, rfl, hpk4, ho4, hb4⟩; obtain ⟨A4, c4, rfl, hA4, hn4, _⟩ := ho4.reads; have hXf := hXe.only (Only.of_below (S := []) hb4) (by simp) (by simp); have hWf := hWe.only (Only.of_below (S := []) hb4) (by simp) (by simp); have hbf := hbe.trans (hb4.mono hbe.size); have k4 := (hb4.cell (p := ⟨w.heap.size + 1, 0, none⟩) hxl3).trans e3; have hxl4 := Nat.lt_of_lt_of_le hxl3 hb4.size)
            | (go_at_call 16; refine (xbytes_any _ w.heap.size (w.heap.size + 1) s2 E hXf hEl).mono ?_; rintro e w5 ⟨v5, bs5, rfl, hpk5, ho5, hb5⟩; obtain rfl := hpk5.unique hpk4; obtain ⟨A5, c5, rfl, hA5, hn5, _⟩ := ho5.reads; have hbg := hbf.trans (hb5.mono hbf.size); have hA6 := (hA4.below hb5).more hb5.size; have hD5 : Duo w w.heap.size (w.heap.size + 1) E E w5 := ⟨r2, s2, hWf.only (Only.of_below (S := []) hb5) (by simp) (by simp), hXf.only (Only.of_below (S := []) hb5) (by simp) (by simp), hd2, hbg, hg, hg2⟩; have k5 := (hb5.cell (p := ⟨w.heap.size + 1, 0, none⟩) hxl4).trans k4)
            | (go_at_call 14; refine (same_any _ _ _ _ _ _ _ _ _ rfl rfl hA6 hA5 hn4 hn5).mono ?_; rintro e w6 ⟨rfl, rfl⟩))
        clear hWd hWe hXe hbe e3 hxl3 hWf hXf hbf k4 hxl4 hA4 hn4 ho4 hb4 hA5 hn5 ho5 hb5 hA6 k5 hbg hpk4 hpk5 e0 hxl hW2 hX2 hb2
        go_wp2_with fail
        go_roundg (gk - 1)
        case measure => omega
        case rel => exact ⟨j + 1, by omega, by go_num, by rw [← HE.out]; exact hD5⟩
      · go_wp2_with (go_at_call 10; refine (lives_end hbel).mono ?_; rintro e w2 ⟨rfl, hbel2⟩)
        go_ret
        exact ⟨rfl, hbel2⟩
  · rw [decide_eq_false hlen] at hfew
    go_enter Try.func3, Try.ntmps3
    go_wp2_with (first
      | (go_at_call 8; refine (newWriter_any _).mono ?_; rintro e w1 ⟨rfl, rfl⟩)
      | (go_at_call 9; refine (hfew _).mono ?_; rintro e w1 ⟨rfl, rfl⟩)
      | (go_at_call 10; refine (lives_end bel0).mono ?_; rintro e w2 ⟨rfl, hbel2⟩))
    go_ret
    exact ⟨rfl, hbel2⟩
end Go.Proofs.Ytgomkhllhpghmab
