/-
  The walk of the law SerialOrders.
-/
import Derived.Test.YtcbohpmmppdplaaLaw04a
namespace Go.Proofs.Ytcbohpmmppdplaa
open Go.RowKit

/-- the distance back -/
theorem sdist_back {a c b : Int} (h : vl a b = true) (h' : vl c b = true) : sdist c a b = if sdist a c b = 0 then 0 else pw b - sdist a c b := by
  rw [sdist_ok h h', sdist_ok h' h]
  have hp := pw_pos b
  have h1 := md_nonneg (c - a) b
  have h2 := md_lt (c - a) b
  have e : a - c = -(c - a) := by omega
  rw [e, Int.neg_emod]
  by_cases hz : (c - a) % pw b = 0
  · rw [if_pos (Int.dvd_of_emod_eq_zero hz), if_pos hz]
  · rw [if_neg (fun hd => hz (Int.emod_eq_zero_of_dvd hd)), if_neg hz]
    omega
theorem sadd_dist {a c b : Int} (h : vl a b = true) (h' : vl c b = true) : sadd a (sdist a c b) b = c := by
  obtain ⟨_, _, h1, h2⟩ := vl_iff.1 h'
  rw [sadd_ok h, sdist_ok h h', md_add, show a + (c - a) = c by omega, md_self h1 h2]
theorem sdist_zero {a c b : Int} (h : vl a b = true) (h' : vl c b = true) (hz : sdist a c b = 0) : a = c := by
  have e := sadd_dist h h'
  obtain ⟨_, _, h1, h2⟩ := vl_iff.1 h
  rw [hz, sadd_ok h, Int.add_zero, md_self h1 h2] at e
  exact e
theorem sdist_same {a b : Int} (h : vl a b = true) : sdist a a b = 0 := by
  rw [sdist_ok h h, Int.sub_self, Int.zero_emod]
theorem swin_next {a c b : Int} (h : vl a b = true) (h' : vl c b = true) : swin c a (sdist a c b + 1) b = true := by
  have := sdist_lt (x := a) (y := c) (b := b)
  rw [swin_ok h' h (by omega)]
  simp
  omega
theorem swin_self {a c b : Int} (h : vl a b = true) (h' : vl c b = true) : swin c a (sdist a c b) b = false := by
  have := sdist_lt (x := a) (y := c) (b := b)
  rw [swin_ok h' h (by omega)]
  simp

set_option maxHeartbeats 2000000 in
theorem serialOrders_walk (a c b : Int) (w : World) :
    Calls Try.prog 6 #[.int .i64 a, .int .i64 c, .int .i64 b] w fun e w' => e = .returned (.bool true) ∧ Below w.heap.size w w' := by
  have hv := xvalid_any a b w
  have hu := xvalid_any c b w
  have hal := alive04_any w
  cases h : vl a b with
  | false =>
    rw [h] at hv
    clear h hu
    go_enter Try.func6, Try.ntmps6
    go_wp2_with fail
    refine hv.mono ?_
    rintro e w' ⟨rfl, rfl⟩
    go_wp2_with fail
    refine hal.mono ?_
    rintro e w' ⟨rfl, rfl⟩
    go_wp2
    go_ret
    exact ⟨rfl, Below.refl _ _⟩
  | true =>
    cases h' : vl c b with
    | false =>
      rw [h] at hv
      rw [h'] at hu
      clear h h'
      go_enter Try.func6, Try.ntmps6
      go_wp2_with fail
      refine hv.mono ?_
      rintro e w' ⟨rfl, rfl⟩
      go_wp2_with fail
      refine hu.mono ?_
      rintro e w' ⟨rfl, rfl⟩
      go_wp2_with fail
      refine hal.mono ?_
      rintro e w' ⟨rfl, rfl⟩
      go_wp2
      go_ret
      exact ⟨rfl, Below.refl _ _⟩
    | true =>
      have hd := distance_any a c b w
      have ha := add_any a (sdist a c b) b w
      have hb1 := before_any a c b w
      have hb2 := before_any c a b w
      have hw1 := within_any c a (sdist a c b + 1) b w
      have hw2 := within_any c a (sdist a c b) b w
      rw [sadd_dist h h'] at ha
      rw [swin_next h h'] at hw1
      rw [swin_self h h'] at hw2
      obtain ⟨g1, g2, g3, g4⟩ := vl_iff.1 h
      have hM := w64_pw0 b g2
      have hle := pw_le g2
      have hhalf := pw_half g1
      have hback := sdist_back h h'
      have hzero := sdist_zero h h'
      have h0 := sdist_nonneg a c b
      have hlt := sdist_lt (x := a) (y := c) (b := b)
      rw [h] at hv
      rw [h'] at hu
      by_cases hac : a = c
      · subst hac
        have hz := sdist_same h
        have hf : sbef a a b = false := sbef_low (by omega)
        rw [hz] at hd ha hw1 hw2
        rw [hf] at hb1
        clear h h' g1 g2 g3 g4 hM hle hhalf hback hzero h0 hlt hz hf hb2
        go_enter Try.func6, Try.ntmps6
        go_wp2_with fail
        refine hv.mono ?_
        rintro e w' ⟨rfl, rfl⟩
        go_wp2_with fail
        refine hu.mono ?_
        rintro e w' ⟨rfl, rfl⟩
        go_wp2_with fail
        refine hd.mono ?_
        rintro e w' ⟨rfl, rfl⟩
        go_wp2_with fail
        refine ha.mono ?_
        rintro e w' ⟨rfl, rfl⟩
        go_wp2_with fail
        refine hb1.mono ?_
        rintro e w' ⟨rfl, rfl⟩
        go_wp2_with fail
        refine hw1.mono ?_
        rintro e w' ⟨rfl, rfl⟩
        go_wp2_with fail
        refine hw2.mono ?_
        rintro e w' ⟨rfl, rfl⟩
        go_wp2_with fail
        refine hal.mono ?_
        rintro e w' ⟨rfl, rfl⟩
        go_wp2
        go_ret
        exact ⟨rfl, Below.refl _ _⟩
      · have h1 : 1 ≤ sdist a c b := by
          have : sdist a c b ≠ 0 := fun e => hac (hzero e)
          omega
        rw [if_neg (by omega)] at hback
        by_cases hA : sdist a c b < pw (b - 1)
        · have e1 : sbef a c b = true := by unfold sbef; simp; omega
          have e2 : sbef c a b = false := by unfold sbef; rw [hback]; simp; omega
          rw [e1] at hb1
          rw [e2] at hb2
          obtain ⟨d, hd'⟩ : ∃ d, d = sdist a c b := ⟨_, rfl⟩
          rw [← hd'] at hd ha hw1 hw2 h0 hlt
          have hd2 : d < 4294967296 := by omega
          clear h h' g1 g2 g3 g4 hM hle hhalf hback hzero hlt hA e1 e2 hd' h1
          go_enter Try.func6, Try.ntmps6
          go_wp2_with fail
          refine hv.mono ?_
          rintro e w' ⟨rfl, rfl⟩
          go_wp2_with fail
          refine hu.mono ?_
          rintro e w' ⟨rfl, rfl⟩
          go_wp2_with fail
          refine hd.mono ?_
          rintro e w' ⟨rfl, rfl⟩
          go_wp2_with fail
          refine ha.mono ?_
          rintro e w' ⟨rfl, rfl⟩
          go_wp2_with fail
          refine hb1.mono ?_
          rintro e w' ⟨rfl, rfl⟩
          go_wp2_with fail
          refine hb2.mono ?_
          rintro e w' ⟨rfl, rfl⟩
          go_wp2_with fail
          refine hb1.mono ?_
          rintro e w' ⟨rfl, rfl⟩
          go_wp2_with fail
          refine hw1.mono ?_
          rintro e w' ⟨rfl, rfl⟩
          go_wp2_with fail
          refine hw2.mono ?_
          rintro e w' ⟨rfl, rfl⟩
          go_wp2_with fail
          refine hal.mono ?_
          rintro e w' ⟨rfl, rfl⟩
          go_wp2
          go_ret
          exact ⟨rfl, Below.refl _ _⟩
        · by_cases hB : pw (b - 1) < sdist a c b
          · have e1 : sbef a c b = false := by unfold sbef; simp; omega
            have e2 : sbef c a b = true := by unfold sbef; rw [hback]; simp; omega
            rw [e1] at hb1
            rw [e2] at hb2
            obtain ⟨d, hd'⟩ : ∃ d, d = sdist a c b := ⟨_, rfl⟩
            rw [← hd'] at hd ha hw1 hw2 h0 hlt
            have hd2 : d < 4294967296 := by omega
            clear h h' g1 g2 g3 g4 hM hle hhalf hback hzero hlt hA hB e1 e2 hd' h1
            go_enter Try.func6, Try.ntmps6
            go_wp2_with fail
            refine hv.mono ?_
            rintro e w' ⟨rfl, rfl⟩
            go_wp2_with fail
            refine hu.mono ?_
            rintro e w' ⟨rfl, rfl⟩
            go_wp2_with fail
            refine hd.mono ?_
            rintro e w' ⟨rfl, rfl⟩
            go_wp2_with fail
            refine ha.mono ?_
            rintro e w' ⟨rfl, rfl⟩
            go_wp2_with fail
            refine hb1.mono ?_
            rintro e w' ⟨rfl, rfl⟩
            go_wp2_with fail
            refine hb1.mono ?_
            rintro e w' ⟨rfl, rfl⟩
            go_wp2_with fail
            refine hb2.mono ?_
            rintro e w' ⟨rfl, rfl⟩
            go_wp2_with fail
            refine hw1.mono ?_
            rintro e w' ⟨rfl, rfl⟩
            go_wp2_with fail
            refine hw2.mono ?_
            rintro e w' ⟨rfl, rfl⟩
            go_wp2_with fail
            refine hal.mono ?_
            rintro e w' ⟨rfl, rfl⟩
            go_wp2
            go_ret
            exact ⟨rfl, Below.refl _ _⟩
          · have e1 : sbef a c b = false := by unfold sbef; simp; omega
            have e2 : sbef c a b = false := by unfold sbef; rw [hback]; simp; omega
            rw [e1] at hb1
            rw [e2] at hb2
            have hM2 : wrap64 (2 ^ b.toNat) = 2 * sdist a c b := by rw [hM]; omega
            obtain ⟨d, hd'⟩ : ∃ d, d = sdist a c b := ⟨_, rfl⟩
            rw [← hd'] at hd ha hw1 hw2 h0 hlt hM2
            have hd2 : d < 4294967296 := by omega
            have hb0 : 0 ≤ b := by omega
            clear h h' g3 g4 hM hle hhalf hback hzero hlt hA hB e1 e2 hd' h1
            go_enter Try.func6, Try.ntmps6
            go_wp2_with fail
            refine hv.mono ?_
            rintro e w' ⟨rfl, rfl⟩
            go_wp2_with fail
            refine hu.mono ?_
            rintro e w' ⟨rfl, rfl⟩
            go_wp2_with fail
            refine hd.mono ?_
            rintro e w' ⟨rfl, rfl⟩
            go_wp2_with fail
            refine ha.mono ?_
            rintro e w' ⟨rfl, rfl⟩
            go_wp2_with fail
            refine hb1.mono ?_
            rintro e w' ⟨rfl, rfl⟩
            go_wp2_with fail
            refine hb1.mono ?_
            rintro e w' ⟨rfl, rfl⟩
            go_wp2_with fail
            refine hb2.mono ?_
            rintro e w' ⟨rfl, rfl⟩
            go_wp2_with fail
            refine hw1.mono ?_
            rintro e w' ⟨rfl, rfl⟩
            go_wp2_with fail
            refine hw2.mono ?_
            rintro e w' ⟨rfl, rfl⟩
            go_wp2_with fail
            refine hal.mono ?_
            rintro e w' ⟨rfl, rfl⟩
            go_wp2
            go_ret
            exact ⟨rfl, Below.refl _ _⟩
end Go.Proofs.Ytcbohpmmppdplaa
