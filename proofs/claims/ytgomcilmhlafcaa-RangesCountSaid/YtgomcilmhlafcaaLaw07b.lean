/-
  Layer 7's laws: RangesCount.
-/
import Derived.Test.YtgomcilmhlafcaaLaw07a
namespace Go.Proofs.Ytgomcilmhlafcaa.Rng
open Go.RowKit

set_option maxHeartbeats 2000000 in
theorem count_ok (l : List R) (n : Int) (w : World) (A : Option Addr) (c : Nat) (h : Rs w w.heap.size A l) (hi : In64 l) (hn1 : -9223372036854775808 ≤ n) (hn2 : n < 9223372036854775808) :
    Calls Try.prog 5 #[.slice A l.length c, I n] w fun e w' => e = .returned (.bool true) ∧ Below w.heap.size w w' := by
  by_cases hf : l.length ≤ 60
  · have hfew := few_any l.length c A true w (by simpa using hf)
    go_enter Try.func5, Try.ntmps5
    go_wp2_with fail
    refine hfew.mono ?_
    rintro e w0 ⟨rfl, rfl⟩
    go_wp2_with fail
    have c1 := has_any l n w0 A c h (by omega)
    have c2 := fun w1 (b : Below w0.heap.size w0 w1) => rhas_any l n w1 A c (h.then_ b) (by omega)
    obtain ⟨H, hH⟩ : ∃ H, H = has l n := ⟨_, rfl⟩
    rw [← hH] at c1
    simp only [← hH] at c2
    clear hH hfew
    refine c1.mono ?_
    rintro e w1 ⟨rfl, b1⟩
    go_wp2_with fail
    refine (c2 w1 b1).mono ?_
    rintro e w2 ⟨rfl, rfl⟩
    have r1 := h.then_ b1
    clear c1 c2 h
    have hHH : (H == H) = true := by simp
    have s1 := size_any l w2 A c r1 (by omega)
    have s2 := fun w3 (b : Below w2.heap.size w2 w3) => rsize_any l w3 A c (r1.then_ b) (by omega)
    obtain ⟨Z, hZ⟩ : ∃ Z, Z = siz l := ⟨_, rfl⟩
    rw [← hZ] at s1
    simp only [← hZ] at s2
    clear hZ
    go_wp2_with fail
    refine s1.mono ?_
    rintro e w3 ⟨rfl, b3⟩
    go_wp2_with fail
    refine (s2 w3 b3).mono ?_
    rintro e w4 ⟨rfl, b4⟩
    have c4 := then_ b1 (then_ b3 b4)
    have r4 := (r1.then_ b3).then_ b4
    clear s1 s2 b3 b4 r1 b1
    go_wp2_with fail
    refine (head_any l n w4 A c r4 (by omega) hi hn1 hn2).mono ?_
    rintro e w5 ⟨v5, rfl, ho5, b5⟩
    have r5 := r4.then_ b5
    have c5 := then_ c4 b5
    clear r4 c4 b5
    go_wp2_with fail
    refine (rhead_any l n w5 A c r5 (by omega) hi hn1 hn2).mono ?_
    rintro e w6 ⟨v6, rfl, ho6, b6⟩
    have hl1 := hd_length (nrm l) n.toNat
    have hl2 := nrm_length l
    have ho7 := ho5.below b6
    have c6 := then_ c5 b6
    obtain ⟨F, hF⟩ : ∃ F, F = hd (nrm l) n.toNat := ⟨_, rfl⟩
    rw [← hF] at ho6 ho7 hl1
    clear hF ho5 b6 r5 c5
    obtain ⟨A6, k6, rfl, r6, _⟩ := ho6.reads
    obtain ⟨A7, k7, rfl, r7, _⟩ := ho7.reads
    clear ho6 ho7
    go_wp2_with fail
    refine (same_any F w6 A7 A6 k7 k6 r7 r6 (by omega)).mono ?_
    rintro e w7 ⟨rfl, b7⟩
    have c7 := then_ c6 b7
    clear c6 b7 r6 r7
    go_wp2_with fail
    refine (alive_any w7).mono ?_
    rintro e w8 ⟨rfl, b8⟩
    have c8 := then_ c7 b8
    go_wp2_with fail
    go_ret
    exact ⟨rfl, c8⟩
  · have hfew := few_any l.length c A false w (by simpa using hf)
    go_enter Try.func5, Try.ntmps5
    go_wp2_with fail
    refine hfew.mono ?_
    rintro e w0 ⟨rfl, rfl⟩
    clear hfew
    go_wp2_with fail
    refine (alive_any w0).mono ?_
    rintro e w1 ⟨rfl, b1⟩
    go_wp2_with fail
    go_ret
    exact ⟨rfl, b1⟩
end Go.Proofs.Ytgomcilmhlafcaa.Rng
