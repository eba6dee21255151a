/-
  Package pdu: validGaps; the reference's gaps.
-/
import Derived.Test.YtaaikmncdgfkmaaPduW1
namespace Go.Proofs.Ytaaikmncdgfkmaa.Pdu
open Go.RowKit Go.Proofs.Ytaaikmncdgfkmaa.Row

theorem vga_len {l : List R} (h : l.length < 1 ∨ 16 < l.length) : vga l = false := by
  unfold vga
  rw [decide_eq_false (by omega), Bool.false_and]
theorem vga_mid {l : List R} (h : 1 ≤ l.length ∧ l.length ≤ 16) : vga l = gok true (-1) l := by
  unfold vga
  rw [decide_eq_true h, Bool.true_and]
theorem gok_skip {l : List R} {x : R} {k : Int} (h : l[0]? = some x) (h0 : x.1 = 0 ∧ x.2 = 0) : gok true k l = gok false k (l.drop 1) := by
  cases l with
  | nil => cases h
  | cons y t =>
    simp at h
    subst h
    simp [gok, h0.1, h0.2]
theorem gok_take {l : List R} {x : R} {i : Nat} {f : Bool} {k : Int} (h : l[i]? = some x) (h0 : ¬ (f = true ∧ x.1 = 0 ∧ x.2 = 0)) : gok f k (l.drop i) = (gap1 k x && gok false x.2 (l.drop (i + 1))) := by
  obtain ⟨hi, hx⟩ := List.getElem?_eq_some_iff.1 h
  rw [List.drop_eq_getElem_cons hi, hx]
  simp only [gok, if_neg h0]
theorem gap_no {k : Int} {x : R} (h : x.1 ≤ k ∨ x.2 ≤ x.1 ∨ 65536 < x.2) : gap1 k x = false := decide_eq_false (fun q => by omega)
theorem gap_yes {k : Int} {x : R} (h1 : k < x.1) (h2 : x.1 < x.2) (h3 : x.2 ≤ 65536) : gap1 k x = true := decide_eq_true ⟨h1, h2, h3⟩
/-- where the gaps stand ahead of round i -/
def gst (E : Bool) (l : List R) (i : Nat) (k : Int) : Prop := E = gok (decide (i = 0)) k (l.drop i)
theorem gst_skip {E : Bool} {l : List R} {k : Int} {x : R} (h : gst E l 0 k) (hx : l[0]? = some x) (h0 : x.1 = 0 ∧ x.2 = 0) : gst E l (0 + 1) k := by
  unfold gst at h ⊢
  have e : gok true k l = gok false k (l.drop 1) := gok_skip hx h0
  rw [h]
  simpa using e
theorem gst_no {E : Bool} {l : List R} {i : Nat} {k : Int} {x : R} (h : gst E l i k) (hx : l[i]? = some x) (h0 : ¬ (i = 0 ∧ x.1 = 0 ∧ x.2 = 0)) (hg : x.1 ≤ k ∨ x.2 ≤ x.1 ∨ 65536 < x.2) : E = false := by
  unfold gst at h
  rw [h, gok_take hx (by simpa using h0), gap_no hg, Bool.false_and]
theorem gst_next {E : Bool} {l : List R} {i : Nat} {k : Int} {x : R} (h : gst E l i k) (hx : l[i]? = some x) (h0 : ¬ (i = 0 ∧ x.1 = 0 ∧ x.2 = 0)) (h1 : k < x.1) (h2 : x.1 < x.2) (h3 : x.2 ≤ 65536) : gst E l (i + 1) x.2 := by
  unfold gst at h ⊢
  rw [h, gok_take hx (by simpa using h0), gap_yes h1 h2 h3, Bool.true_and]
  simp
theorem gst_end {E : Bool} {l : List R} {i : Nat} {k : Int} (h : gst E l i k) (hi : l.length ≤ i) : E = true := by
  unfold gst at h
  rw [h, List.drop_of_length_le hi]
  simp [gok]

set_option maxHeartbeats 4000000 in
theorem pgaps_any (A : Option Addr) (l : List R) (n c : Nat) (w : World) (h : Gx w A l n c) :
    Calls Try.prog 59 #[.slice A n c] w fun e w' => e = .returned (.bool (vga l)) ∧ Below w.heap.size w w' := by
  have hh := h.len
  by_cases h0 : n < 1
  · rw [vga_len (by omega)]
    obtain rfl : n = 0 := by omega
    clear h0 h hh
    go_enter Try.func59, Try.ntmps59
    go_wp2
    go_ret
    exact ⟨rfl, Below.refl _ _⟩
  have t0 : decide ((n : Int) < 1) = false := decide_eq_false (by omega)
  by_cases h1 : 16 < n
  · rw [vga_len (by omega)]
    have t1 : decide ((16 : Int) < (n : Int)) = true := decide_eq_true (by omega)
    have t2 : decide (16 < n) = true := decide_eq_true (by omega)
    clear h0 h1 h hh
    go_enter Try.func59, Try.ntmps59
    go_wp2
    go_ret
    exact ⟨rfl, Below.refl _ _⟩
  rw [vga_mid (by omega)]
  have t1 : decide ((16 : Int) < (n : Int)) = false := decide_eq_false (by omega)
  have t2 : decide (16 < n) = false := decide_eq_false (by omega)
  obtain ⟨E, hE⟩ : ∃ E, E = gok true (-1) l := ⟨_, rfl⟩
  rw [← hE]
  have HE := Lib.hid (show gst E l 0 (-1) by unfold gst; simpa using hE)
  have HH := Lib.hid h
  clear hE hh h
  go_enter Try.func59, Try.ntmps59
  go_wp2
  go_loopw [3, 4, 5, 16] (fun last _ _ i wr => ∃ (k : Nat) (z : Int), k ≤ n ∧ i = .int .i64 k ∧ last = I z ∧ Hid (Below w.heap.size w wr) ∧ Hid (gst E l k z)) (fun _ _ _ i _ => n - (intOf i).toNat)
  case atStart => exact ⟨0, -1, Nat.zero_le _, rfl, rfl, Lib.hid (Below.refl _ _), HE⟩
  case round =>
    obtain ⟨k, z, hk, rfl, rfl, hb, hz⟩ := hrel
    by_cases hlt : k < n
    · obtain ⟨x, hx⟩ : ∃ x, l[k]? = some x := ⟨_, List.getElem?_eq_getElem (by rw [HH.out.len]; exact hlt)⟩
      obtain ⟨b, off, rfl, hbl, d0, d1⟩ := (HH.out.later hb.out).at_ hx
      have HB1 := Lib.hid (hb.out.alloc hb.out.size (.cells #[I x.1, I x.2] 62))
      obtain ⟨x0, x1⟩ := x
      simp only at d0 d1
      by_cases c0 : k = 0 ∧ x0 = 0 ∧ x1 = 0
      · obtain ⟨rfl, rfl, rfl⟩ := c0
        have HS := Lib.hid (gst_skip hz.out hx ⟨rfl, rfl⟩)
        simp only [Nat.zero_mul, Nat.add_zero] at d0 d1
        clear hz hx HH hb
        go_wp2
        go_round
        case rel => exact ⟨1, z, by omega, by go_num, rfl, HB1, HS⟩
        case measure => simp [intOf]; omega
      rcases Nat.eq_zero_or_pos k with rfl | hkp
      · by_cases q0 : x0 = 0
        · have q1 : (x1 == 0) = false := by simpa [q0] using c0
          have q2 : (x0 == 0) = true := by simpa using q0
          clear q0
          by_cases m0 : x0 ≤ z
          · have HF := Lib.hid (gst_no hz.out hx c0 (.inl m0))
            have m0' := decide_eq_true m0
            clear hz hx HH hb c0 m0
            simp only [Nat.zero_mul, Nat.add_zero] at d0 d1
            go_wp2
            go_ret
            exact ⟨ret_bool (by rw [HF.out]), HB1.out⟩
          have m0' := decide_eq_false m0
          by_cases m1 : x1 ≤ x0
          · have HF := Lib.hid (gst_no hz.out hx c0 (.inr (.inl m1)))
            have m1' := decide_eq_true m1
            clear hz hx HH hb c0 m0 m1
            simp only [Nat.zero_mul, Nat.add_zero] at d0 d1
            go_wp2
            go_ret
            exact ⟨ret_bool (by rw [HF.out]), HB1.out⟩
          have m1' := decide_eq_false m1
          by_cases m2 : 65536 < x1
          · have HF := Lib.hid (gst_no hz.out hx c0 (.inr (.inr m2)))
            have m2' := decide_eq_true m2
            clear hz hx HH hb c0 m0 m1 m2
            simp only [Nat.zero_mul, Nat.add_zero] at d0 d1
            go_wp2
            go_ret
            exact ⟨ret_bool (by rw [HF.out]), HB1.out⟩
          have m2' := decide_eq_false m2
          have HS := Lib.hid (gst_next hz.out hx c0 (by simp only; omega) (by simp only; omega) (by simp only; omega))
          clear hz hx HH hb c0 m0 m1 m2
          simp only [Nat.zero_mul, Nat.add_zero] at d0 d1
          go_wp2
          go_round
          case rel => exact ⟨1, x1, by omega, by go_num, rfl, HB1, HS⟩
          case measure => simp [intOf]; omega
        · have q1 : (x0 == 0) = false := by simpa using q0
          clear q0
          by_cases m0 : x0 ≤ z
          · have HF := Lib.hid (gst_no hz.out hx c0 (.inl m0))
            have m0' := decide_eq_true m0
            clear hz hx HH hb c0 m0
            simp only [Nat.zero_mul, Nat.add_zero] at d0 d1
            go_wp2
            go_ret
            exact ⟨ret_bool (by rw [HF.out]), HB1.out⟩
          have m0' := decide_eq_false m0
          by_cases m1 : x1 ≤ x0
          · have HF := Lib.hid (gst_no hz.out hx c0 (.inr (.inl m1)))
            have m1' := decide_eq_true m1
            clear hz hx HH hb c0 m0 m1
            simp only [Nat.zero_mul, Nat.add_zero] at d0 d1
            go_wp2
            go_ret
            exact ⟨ret_bool (by rw [HF.out]), HB1.out⟩
          have m1' := decide_eq_false m1
          by_cases m2 : 65536 < x1
          · have HF := Lib.hid (gst_no hz.out hx c0 (.inr (.inr m2)))
            have m2' := decide_eq_true m2
            clear hz hx HH hb c0 m0 m1 m2
            simp only [Nat.zero_mul, Nat.add_zero] at d0 d1
            go_wp2
            go_ret
            exact ⟨ret_bool (by rw [HF.out]), HB1.out⟩
          have m2' := decide_eq_false m2
          have HS := Lib.hid (gst_next hz.out hx c0 (by simp only; omega) (by simp only; omega) (by simp only; omega))
          clear hz hx HH hb c0 m0 m1 m2
          simp only [Nat.zero_mul, Nat.add_zero] at d0 d1
          go_wp2
          go_round
          case rel => exact ⟨1, x1, by omega, by go_num, rfl, HB1, HS⟩
          case measure => simp [intOf]; omega
      · have q1 : ((k : Int) == 0) = false := by simp; omega
        have q2 : (k == 0) = false := by simp; omega
        by_cases m0 : x0 ≤ z
        · have HF := Lib.hid (gst_no hz.out hx c0 (.inl m0))
          have m0' := decide_eq_true m0
          clear hz hx HH hb c0 m0
          go_wp2
          go_ret
          exact ⟨ret_bool (by rw [HF.out]), HB1.out⟩
        have m0' := decide_eq_false m0
        by_cases m1 : x1 ≤ x0
        · have HF := Lib.hid (gst_no hz.out hx c0 (.inr (.inl m1)))
          have m1' := decide_eq_true m1
          clear hz hx HH hb c0 m0 m1
          go_wp2
          go_ret
          exact ⟨ret_bool (by rw [HF.out]), HB1.out⟩
        have m1' := decide_eq_false m1
        by_cases m2 : 65536 < x1
        · have HF := Lib.hid (gst_no hz.out hx c0 (.inr (.inr m2)))
          have m2' := decide_eq_true m2
          clear hz hx HH hb c0 m0 m1 m2
          go_wp2
          go_ret
          exact ⟨ret_bool (by rw [HF.out]), HB1.out⟩
        have m2' := decide_eq_false m2
        have HS := Lib.hid (gst_next hz.out hx c0 (by simp only; omega) (by simp only; omega) (by simp only; omega))
        clear hz hx HH hb c0 m0 m1 m2
        go_wp2
        go_round
        case rel => exact ⟨k + 1, x1, by omega, by go_num, rfl, HB1, HS⟩
        case measure => simp [intOf]; omega
    · have HF := Lib.hid (gst_end hz.out (by rw [HH.out.len]; omega))
      clear hz HH
      go_wp2
      go_ret
      exact ⟨ret_bool (by rw [HF.out]), hb.out⟩
theorem below_drewN {B : Nat} {w w' : World} (h : Below B w w') (n : Nat) : Below B w (w'.drewN n) := ⟨h.os, h.tape, h.output, h.size, h.block⟩
set_option maxHeartbeats 4000000 in
theorem rgaps_any (A : Option Addr) (l : List R) (n c : Nat) (w : World) (h : Gx w A l n c) :
    Calls Try.prog 46 #[.slice A n c] w fun e w' => e = .returned (.bool (vga l)) ∧ Below w.heap.size w w' := by
  have hh := h.len
  by_cases h0 : n < 1
  · rw [vga_len (by omega)]
    obtain rfl : n = 0 := by omega
    clear h0 h hh
    go_enter Try.func46, Try.ntmps46
    go_wp2
    go_ret
    exact ⟨rfl, Below.refl _ _⟩
  have t0 : decide ((n : Int) < 1) = false := decide_eq_false (by omega)
  by_cases h1 : 16 < n
  · rw [vga_len (by omega)]
    have t1 : decide ((16 : Int) < (n : Int)) = true := decide_eq_true (by omega)
    have t2 : decide (16 < n) = true := decide_eq_true (by omega)
    clear h0 h1 h hh
    go_enter Try.func46, Try.ntmps46
    go_wp2
    go_ret
    exact ⟨rfl, Below.refl _ _⟩
  rw [vga_mid (by omega)]
  have t1 : decide ((16 : Int) < (n : Int)) = false := decide_eq_false (by omega)
  have t2 : decide (16 < n) = false := decide_eq_false (by omega)
  obtain ⟨E, hE⟩ : ∃ E, E = gok true (-1) l := ⟨_, rfl⟩
  rw [← hE]
  have HE := Lib.hid (show gst E l 0 (-1) by unfold gst; simpa using hE)
  have HH := Lib.hid h
  clear hE hh h
  go_enter Try.func46, Try.ntmps46
  go_wp2
  go_loopw [3, 4] (fun last i wr => ∃ (k : Nat) (z : Int), k ≤ n ∧ i = .int .i64 k ∧ last = I z ∧ Hid (Below w.heap.size w wr) ∧ Hid (gst E l k z)) (fun _ i _ => n - (intOf i).toNat)
  case atStart => exact ⟨0, -1, Nat.zero_le _, rfl, rfl, Lib.hid (Below.refl _ _), HE⟩
  case round =>
    obtain ⟨k, z, hk, rfl, rfl, hb, hz⟩ := hrel
    by_cases hlt : k < n
    · obtain ⟨x, hx⟩ : ∃ x, l[k]? = some x := ⟨_, List.getElem?_eq_getElem (by rw [HH.out.len]; exact hlt)⟩
      obtain ⟨b, off, rfl, hbl, d0, d1⟩ := (HH.out.later hb.out).at_ hx
      have HB1 := hb
      obtain ⟨x0, x1⟩ := x
      simp only at d0 d1
      by_cases c0 : k = 0 ∧ x0 = 0 ∧ x1 = 0
      · obtain ⟨rfl, rfl, rfl⟩ := c0
        have HS := Lib.hid (gst_skip hz.out hx ⟨rfl, rfl⟩)
        simp only [Nat.zero_mul, Nat.add_zero] at d0 d1
        clear hz hx HH
        go_wp2
        go_round
        case rel => exact ⟨1, z, by omega, by go_num, rfl, HB1, HS⟩
        case measure => simp [intOf]; omega
      rcases Nat.eq_zero_or_pos k with rfl | hkp
      · by_cases q0 : x0 = 0
        · have q1 : (x1 == 0) = false := by simpa [q0] using c0
          have q2 : (x0 == 0) = true := by simpa using q0
          clear q0
          by_cases m0 : x0 ≤ z
          · have HF := Lib.hid (gst_no hz.out hx c0 (.inl m0))
            have m0' := decide_eq_true m0
            clear hz hx HH c0 m0
            simp only [Nat.zero_mul, Nat.add_zero] at d0 d1
            go_wp2_with fail
            go_quiet (fail)
            go_wp2
            go_ret
            exact ⟨ret_bool (by rw [HF.out]), below_drewN HB1.out _⟩
          have m0' := decide_eq_false m0
          by_cases m1 : x1 ≤ x0
          · have HF := Lib.hid (gst_no hz.out hx c0 (.inr (.inl m1)))
            have m1' := decide_eq_true m1
            clear hz hx HH c0 m0 m1
            simp only [Nat.zero_mul, Nat.add_zero] at d0 d1
            go_wp2_with fail
            go_quiet (fail)
            go_wp2
            go_ret
            exact ⟨ret_bool (by rw [HF.out]), below_drewN HB1.out _⟩
          have m1' := decide_eq_false m1
          by_cases m2 : 65536 < x1
          · have HF := Lib.hid (gst_no hz.out hx c0 (.inr (.inr m2)))
            have m2' := decide_eq_true m2
            clear hz hx HH c0 m0 m1 m2
            simp only [Nat.zero_mul, Nat.add_zero] at d0 d1
            go_wp2_with fail
            go_quiet (fail)
            go_wp2
            go_ret
            exact ⟨ret_bool (by rw [HF.out]), below_drewN HB1.out _⟩
          have m2' := decide_eq_false m2
          have HS := Lib.hid (gst_next hz.out hx c0 (by simp only; omega) (by simp only; omega) (by simp only; omega))
          clear hz hx HH c0 m0 m1 m2
          simp only [Nat.zero_mul, Nat.add_zero] at d0 d1
          go_wp2_with fail
          go_quiet (fail)
          go_wp2
          go_round
          case rel => exact ⟨1, x1, by omega, by go_num, rfl, Lib.hid (below_drewN HB1.out _), HS⟩
          case measure => simp [intOf]; omega
        · have q1 : (x0 == 0) = false := by simpa using q0
          clear q0
          by_cases m0 : x0 ≤ z
          · have HF := Lib.hid (gst_no hz.out hx c0 (.inl m0))
            have m0' := decide_eq_true m0
            clear hz hx HH c0 m0
            simp only [Nat.zero_mul, Nat.add_zero] at d0 d1
            go_wp2_with fail
            go_quiet (fail)
            go_wp2
            go_ret
            exact ⟨ret_bool (by rw [HF.out]), below_drewN HB1.out _⟩
          have m0' := decide_eq_false m0
          by_cases m1 : x1 ≤ x0
          · have HF := Lib.hid (gst_no hz.out hx c0 (.inr (.inl m1)))
            have m1' := decide_eq_true m1
            clear hz hx HH c0 m0 m1
            simp only [Nat.zero_mul, Nat.add_zero] at d0 d1
            go_wp2_with fail
            go_quiet (fail)
            go_wp2
            go_ret
            exact ⟨ret_bool (by rw [HF.out]), below_drewN HB1.out _⟩
          have m1' := decide_eq_false m1
          by_cases m2 : 65536 < x1
          · have HF := Lib.hid (gst_no hz.out hx c0 (.inr (.inr m2)))
            have m2' := decide_eq_true m2
            clear hz hx HH c0 m0 m1 m2
            simp only [Nat.zero_mul, Nat.add_zero] at d0 d1
            go_wp2_with fail
            go_quiet (fail)
            go_wp2
            go_ret
            exact ⟨ret_bool (by rw [HF.out]), below_drewN HB1.out _⟩
          have m2' := decide_eq_false m2
          have HS := Lib.hid (gst_next hz.out hx c0 (by simp only; omega) (by simp only; omega) (by simp only; omega))
          clear hz hx HH c0 m0 m1 m2
          simp only [Nat.zero_mul, Nat.add_zero] at d0 d1
          go_wp2_with fail
          go_quiet (fail)
          go_wp2
          go_round
          case rel => exact ⟨1, x1, by omega, by go_num, rfl, Lib.hid (below_drewN HB1.out _), HS⟩
          case measure => simp [intOf]; omega
      · have q1 : ((k : Int) == 0) = false := by simp; omega
        have q2 : (k == 0) = false := by simp; omega
        by_cases m0 : x0 ≤ z
        · have HF := Lib.hid (gst_no hz.out hx c0 (.inl m0))
          have m0' := decide_eq_true m0
          clear hz hx HH c0 m0
          go_wp2_with fail
          go_quiet (fail)
          go_wp2
          go_ret
          exact ⟨ret_bool (by rw [HF.out]), below_drewN HB1.out _⟩
        have m0' := decide_eq_false m0
        by_cases m1 : x1 ≤ x0
        · have HF := Lib.hid (gst_no hz.out hx c0 (.inr (.inl m1)))
          have m1' := decide_eq_true m1
          clear hz hx HH c0 m0 m1
          go_wp2_with fail
          go_quiet (fail)
          go_wp2
          go_ret
          exact ⟨ret_bool (by rw [HF.out]), below_drewN HB1.out _⟩
        have m1' := decide_eq_false m1
        by_cases m2 : 65536 < x1
        · have HF := Lib.hid (gst_no hz.out hx c0 (.inr (.inr m2)))
          have m2' := decide_eq_true m2
          clear hz hx HH c0 m0 m1 m2
          go_wp2_with fail
          go_quiet (fail)
          go_wp2
          go_ret
          exact ⟨ret_bool (by rw [HF.out]), below_drewN HB1.out _⟩
        have m2' := decide_eq_false m2
        have HS := Lib.hid (gst_next hz.out hx c0 (by simp only; omega) (by simp only; omega) (by simp only; omega))
        clear hz hx HH c0 m0 m1 m2
        go_wp2_with fail
        go_quiet (fail)
        go_wp2
        go_round
        case rel => exact ⟨k + 1, x1, by omega, by go_num, rfl, Lib.hid (below_drewN HB1.out _), HS⟩
        case measure => simp [intOf]; omega
    · have HF := Lib.hid (gst_end hz.out (by rw [HH.out.len]; omega))
      clear hz HH
      go_wp2
      go_ret
      exact ⟨ret_bool (by rw [HF.out]), hb.out⟩
end Go.Proofs.Ytaaikmncdgfkmaa.Pdu
