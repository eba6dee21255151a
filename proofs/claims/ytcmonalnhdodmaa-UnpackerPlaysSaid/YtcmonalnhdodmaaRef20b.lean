/-
  The reference of layer 20: fitting.
-/
import Derived.Test.YtcmonalnhdodmaaRef20a
namespace Go.Proofs.Ytcmonalnhdodmaa.Unp
open Go.RowKit Lst
open Pac (bel_new siE siN tot b8 siE_short siE_form siE_long siE_good siE_zero)

/-- what fitting answers -/
def fit (r d : List Byte) : Int :=
  if d.length = 0 then 2047 else if r.length = 0 then 0 else if r.length + d.length < 6 then 2047 else if siE (r ++ d) ≠ 0 then -1 else if tot (r ++ d) < r.length + d.length then ((tot (r ++ d) - r.length : Nat) : Int) else 2047
theorem siN_zero {l : List Byte} (h : siE l ≠ 0) : siN l = 0 := by
  by_cases h1 : l.length < 6
  · exact (siE_short h1).2
  · by_cases h2 : 32 ≤ b8 l 0
    · exact (siE_form h1 h2).2
    · by_cases h3 : 4096 < tot l
      · exact (siE_long h1 h2 h3).2
      · exact absurd (siE_good h1 h2 h3).1 h
theorem siN_tot {l : List Byte} (h : siE l = 0) : siN l = tot l := by
  obtain ⟨h1, h2, h3⟩ := siE_zero h
  exact (siE_good h1 h2 h3).2

set_option maxRecDepth 100000 in
set_option maxHeartbeats 2000000 in
theorem xfitting_any {A a : Option Addr} {r d : List Byte} {n c m cd : Nat} (w : World) (hr : Rd w A r n c) (hd : Rd w a d m cd) (hok : Rok r) (hm : m ≤ 1000000) :
    Calls Try.prog 31 #[.slice A n c, .slice a m cd] w fun e w' => e = .returned (.int .i64 (fit r d)) ∧ Below w.heap.size w w' := by
  have h1 := hr.len
  have h2 := hd.len
  have hlen := hok.len
  have hsh := hok.short (d := d)
  unfold fit
  rw [h1, h2]
  by_cases hm0 : m = 0
  · rw [if_pos hm0]
    have t1 : ((m : Int) == 0) = true := by simp; omega
    clear hr hd hok h1 h2 hlen hsh hm0
    go_enter Try.func31, Try.ntmps31
    go_wp2
    go_ret
    exact ⟨rfl, Below.refl _ _⟩
  · rw [if_neg hm0]
    have t1 : ((m : Int) == 0) = false := by simp; omega
    by_cases hn0 : n = 0
    · rw [if_pos hn0]
      have t2 : ((n : Int) == 0) = true := by simp; omega
      clear hr hd hok h1 h2 hlen hsh hm0 hn0
      go_enter Try.func31, Try.ntmps31
      go_wp2
      go_ret
      exact ⟨rfl, Below.refl _ _⟩
    · rw [if_neg hn0]
      have t2 : ((n : Int) == 0) = false := by simp; omega
      have b1 : Below w.heap.size w (w.alloc (.cells #[] 5)) := bel_new _ _
      have o1 := Ow_empty w w.heap.size 5 (Nat.le_refl _)
      obtain ⟨K, hK⟩ : ∃ K, n + m = K := ⟨_, rfl⟩
      rw [hK]
      obtain ⟨X, hX⟩ : ∃ X, r ++ d = X := ⟨_, rfl⟩
      rw [hX] at hsh ⊢
      have hXl : X.length = K := by rw [← hX, List.length_append]; omega
      have hx2 : Hid (r.length = n) := Lib.hid h1
      have hx3 : Hid (d.length = m) := Lib.hid h2
      have HK : Hid (K ≤ 1004096 ∧ n ≤ 4096) := Lib.hid ⟨by omega, by omega⟩
      have HX := Lib.hid (And.intro hX hXl)
      have arm : ∀ v2 w2, Ow w2 w.heap.size 5 v2 ([] ++ r ++ d) → ∃ A2 c2, v2 = .slice A2 K c2 ∧ Rd w2 A2 X K c2 := fun v2 w2 ho => by
        rw [List.nil_append, HX.out.1] at ho
        exact Rd.of ho HX.out.2
      have HD := Lib.hid (And.intro hr hd)
      clear hX hXl
      by_cases h6 : K < 6
      · rw [if_pos h6]
        have t3 : decide ((K : Int) < 6) = true := by simp; omega
        have t3' : decide (K < 6) = true := by simpa using h6
        clear hr hd hok h1 h2 hlen hsh hm0 hn0 hK h6
        go_enter Try.func31, Try.ntmps31
        go_wp2_with (first
          | (at_builtin; refine wpList_appN _ is_bytes rfl (.tmp 13) (.tmp 14) rfl (m := []) rfl o1 hx2.out rfl (HD.out.1.bs.below b1) HD.out.1.nil (by have := HK.out; simp; omega) b1.size ?_; intro v2 w2 ho2 hg2 hv2; have b2 := b1.grown hg2 b1.size o1.base_le)
          | (at_builtin; refine wpList_appN _ is_bytes rfl (.tmp 15) (.tmp 16) rfl (m := [] ++ r) rfl ho2 hx3.out rfl (HD.out.2.bs.below b2) HD.out.2.nil (by have := HK.out; have := hx2.out; simp; omega) b2.size ?_; intro v3 w3 ho3 hg3 hv3; have b3 := b2.grown hg3 b2.size ho2.base_le; obtain ⟨A3, c3, rfl, r3⟩ := arm _ _ ho3; clear ho2 hg2 hv2 ho3 hg3 hv3 o1))
        go_ret
        exact ⟨rfl, b3⟩
      · rw [if_neg h6]
        have t3 : decide ((K : Int) < 6) = false := by simp; omega
        have t3' : decide (K < 6) = false := by simpa using h6
        have xl : ∀ W A2 c2, Rd W A2 X K c2 → Calls Try.prog 32 #[.slice A2 K c2] W fun e w' => e = .returned (.int .i64 ((siN X : Nat) : Int)) ∧ Below W.heap.size W w' := fun W A2 c2 hW => xlength_any A2 X K c2 W hW (by omega)
        by_cases hz : siE X = 0
        · rw [if_neg (fun k => k hz)]
          rw [siN_tot hz] at xl
          have hT7 := tot_seven X
          have hT4 := (siE_zero hz).2.2
          obtain ⟨T, hT⟩ : ∃ T, tot X = T := ⟨_, rfl⟩
          rw [hT] at xl hsh hT7 hT4 ⊢
          have t4 : ((T : Int) == 0) = false := by simp; omega
          by_cases hl : T < K
          · rw [if_pos hl]
            have t5 : decide ((T : Int) < (K : Int)) = true := by simpa using hl
            have t5' : decide (T < K) = true := by simpa using hl
            rw [h1] at hsh
            obtain ⟨Q, hQ⟩ : ∃ Q, T - n = Q := ⟨_, rfl⟩
            rw [hQ]
            have q1 : (T : Int) - (n : Int) = (Q : Int) := by omega
            have hQb : Q ≤ 4096 := by omega
            have q2 := x64_small (Q := Q) (by omega)
            clear hr hd hok h1 h2 hlen hsh hm0 hn0 hK h6 hz hT hl hQ hT4 hT7
            go_enter Try.func31, Try.ntmps31
            go_wp2_with (first
              | (at_builtin; refine wpList_appN _ is_bytes rfl (.tmp 13) (.tmp 14) rfl (m := []) rfl o1 hx2.out rfl (HD.out.1.bs.below b1) HD.out.1.nil (by have := HK.out; simp; omega) b1.size ?_; intro v2 w2 ho2 hg2 hv2; have b2 := b1.grown hg2 b1.size o1.base_le)
              | (at_builtin; refine wpList_appN _ is_bytes rfl (.tmp 15) (.tmp 16) rfl (m := [] ++ r) rfl ho2 hx3.out rfl (HD.out.2.bs.below b2) HD.out.2.nil (by have := HK.out; have := hx2.out; simp; omega) b2.size ?_; intro v3 w3 ho3 hg3 hv3; have b3 := b2.grown hg3 b2.size ho2.base_le; obtain ⟨A3, c3, rfl, r3⟩ := arm _ _ ho3; clear ho2 hg2 hv2 ho3 hg3 hv3 o1))
            refine (xl _ _ _ r3).mono ?_
            rintro e w4 ⟨rfl, b4⟩
            go_wp2
            go_ret
            exact ⟨rfl, b3.trans (b4.mono b3.size)⟩
          · rw [if_neg hl]
            have t5 : decide ((T : Int) < (K : Int)) = false := by simpa using hl
            have t5' : decide (T < K) = false := by simpa using hl
            clear hr hd hok h1 h2 hlen hsh hm0 hn0 hK h6 hz hT hl hT4 hT7
            go_enter Try.func31, Try.ntmps31
            go_wp2_with (first
              | (at_builtin; refine wpList_appN _ is_bytes rfl (.tmp 13) (.tmp 14) rfl (m := []) rfl o1 hx2.out rfl (HD.out.1.bs.below b1) HD.out.1.nil (by have := HK.out; simp; omega) b1.size ?_; intro v2 w2 ho2 hg2 hv2; have b2 := b1.grown hg2 b1.size o1.base_le)
              | (at_builtin; refine wpList_appN _ is_bytes rfl (.tmp 15) (.tmp 16) rfl (m := [] ++ r) rfl ho2 hx3.out rfl (HD.out.2.bs.below b2) HD.out.2.nil (by have := HK.out; have := hx2.out; simp; omega) b2.size ?_; intro v3 w3 ho3 hg3 hv3; have b3 := b2.grown hg3 b2.size ho2.base_le; obtain ⟨A3, c3, rfl, r3⟩ := arm _ _ ho3; clear ho2 hg2 hv2 ho3 hg3 hv3 o1))
            refine (xl _ _ _ r3).mono ?_
            rintro e w4 ⟨rfl, b4⟩
            go_wp2
            go_ret
            exact ⟨rfl, b3.trans (b4.mono b3.size)⟩
        · rw [if_pos hz]
          rw [siN_zero hz] at xl
          clear hr hd hok h1 h2 hlen hsh hm0 hn0 hK h6 hz
          go_enter Try.func31, Try.ntmps31
          go_wp2_with (first
            | (at_builtin; refine wpList_appN _ is_bytes rfl (.tmp 13) (.tmp 14) rfl (m := []) rfl o1 hx2.out rfl (HD.out.1.bs.below b1) HD.out.1.nil (by have := HK.out; simp; omega) b1.size ?_; intro v2 w2 ho2 hg2 hv2; have b2 := b1.grown hg2 b1.size o1.base_le)
            | (at_builtin; refine wpList_appN _ is_bytes rfl (.tmp 15) (.tmp 16) rfl (m := [] ++ r) rfl ho2 hx3.out rfl (HD.out.2.bs.below b2) HD.out.2.nil (by have := HK.out; have := hx2.out; simp; omega) b2.size ?_; intro v3 w3 ho3 hg3 hv3; have b3 := b2.grown hg3 b2.size ho2.base_le; obtain ⟨A3, c3, rfl, r3⟩ := arm _ _ ho3; clear ho2 hg2 hv2 ho3 hg3 hv3 o1))
          refine (xl _ _ _ r3).mono ?_
          rintro e w4 ⟨rfl, b4⟩
          go_wp2
          go_ret
          exact ⟨rfl, b3.trans (b4.mono b3.size)⟩
end Go.Proofs.Ytcmonalnhdodmaa.Unp
