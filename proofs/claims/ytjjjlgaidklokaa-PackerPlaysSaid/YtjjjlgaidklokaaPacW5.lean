/-
  The walk of package packet's Idle.
-/
import Derived.Test.YtjjjlgaidklokaaPacW2
namespace Go.Proofs.Ytjjjlgaidklokaa.Pac
open Go.RowKit

/-- the idle packet with n bytes of data -/
def idP (n : Nat) : Pk := ⟨false, false, 2047, 3, 0, List.replicate n 0#8⟩
theorem idP_ok {n : Nat} (h1 : 1 ≤ n) (h2 : n ≤ 4090) : (idP n).ok = true := by
  have hF : (idP n).Fits := by
    unfold Pk.Fits idP
    simp only [List.length_replicate]
    omega
  rw [Pk.ok_idle hF rfl]
  unfold Pk.idle
  simp [idP, zer_rep]
/-- what Idle hands back -/
def idV (s : Int) : List Byte := if 7 ≤ s ∧ s ≤ 4096 then (idP (s - 6).toNat).enc else []
def idE (s : Int) : Int := if 7 ≤ s ∧ s ≤ 4096 then 0 else 1
theorem id_no {s : Int} (h : ¬ (7 ≤ s ∧ s ≤ 4096)) : idV s = [] ∧ idE s = 1 := by unfold idV idE; rw [if_neg h, if_neg h]; exact ⟨rfl, rfl⟩
theorem id_yes {s : Int} (h : 7 ≤ s ∧ s ≤ 4096) : idV s = (idP (s - 6).toNat).enc ∧ idE s = 0 := by unfold idV idE; rw [if_pos h, if_pos h]; exact ⟨rfl, rfl⟩

theorem made_zero (n : Nat) : (madeCells (Value.int .u8 0).cells (n * 1)).toList = (List.replicate n (0#8)).map B8 := by
  have : (Value.int .u8 0).cells = #[.int .u8 0] := rfl
  rw [this, toList_madeCells_one, Nat.mul_one, List.map_replicate]
  rfl
theorem Ow_bs {w : World} {base n c : Nat} {e : TypeId} {A : Option Addr} {l : List Byte} (h : Ow w base e (.slice A n c) l) : Bs w w.heap.size A l := by
  obtain ⟨A', c', heq, hb, _⟩ := h.reads
  injection heq with h1 h2 h3
  subst h1
  exact hb

set_option maxHeartbeats 1000000 in
theorem idle_any (s : Int) (w : World) (hs : -9223372036854775808 ≤ s ∧ s ≤ 9223372036854775807) :
    Calls Try.prog 37 #[.int .i64 s] w fun e w' => ∃ v, e = .returned (.tuple #[v, .int .i64 (idE s)]) ∧ Ow w' w.heap.size 5 v (idV s) ∧ Below w.heap.size w w' := by
  by_cases h1 : s ≤ 6
  · rw [(id_no (s := s) (by omega)).1, (id_no (s := s) (by omega)).2]
    have g1 : decide (s ≤ 6) = true := by simpa using h1
    go_enter Try.func37, Try.ntmps37
    go_wp2
    go_ret2
    exact ⟨_, rfl, Ow_nil _ _, Below.refl _ _⟩
  · have g1 : decide (s ≤ 6) = false := by simpa using h1
    by_cases h2 : 4096 < s
    · rw [(id_no (s := s) (by omega)).1, (id_no (s := s) (by omega)).2]
      have g2 : decide (4096 < s) = true := by simpa using h2
      go_enter Try.func37, Try.ntmps37
      go_wp2
      go_ret2
      exact ⟨_, rfl, Ow_nil _ _, Below.refl _ _⟩
    · have g2 : decide (4096 < s) = false := by simpa using h2
      obtain ⟨e1, e2⟩ := id_yes (s := s) (by omega)
      rw [e1, e2]
      obtain ⟨M, hM⟩ : ∃ M : Nat, s - 6 = (M : Int) := ⟨(s - 6).toNat, by omega⟩
      have hM2 : (s - 6).toNat = M := by omega
      have hM3 : M ≤ 4090 := by omega
      have hM4 : 1 ≤ M := by omega
      have h3 : (6 : Int) < s := by omega
      have h4 : s ≤ 4096 := by omega
      rw [hM2]
      have hen := fun W (hB : Bs W W.heap.size (some ⟨w.heap.size, 0, none⟩) (List.replicate M 0#8)) => encode_any false false 2047 3 0 (some ⟨w.heap.size, 0, none⟩) (List.replicate M 0#8) M M W (Lib.hid (by simp)) hB (fun h => nomatch h) (by unfold maxLen; omega)
      have hie := Pk.err_yes (idP_ok hM4 hM3)
      have hid : idP M = ⟨false, false, 2047, 3, 0, List.replicate M 0#8⟩ := rfl
      rw [← hid, hie] at hen
      obtain ⟨E, hE⟩ : ∃ E, E = (idP M).enc := ⟨_, rfl⟩
      rw [← hE] at hen ⊢
      obtain ⟨hu, _, i0, hi, hz0, hz1, hz2⟩ := is_bytes
      clear hE hid hie hM2 e1 e2 h1 h2
      go_enter Try.func37, Try.ntmps37
      go_wp2_with (first
        | (at_make; refine wpList_make_full _ rfl _ _ 28 rfl w.heap.size 5 i0 _ 1 hu hi hz0 hz1 .i64 .i64 _ _ M rfl rfl (by omega) (by omega) (by rw [hz2]; omega) (by unfold maxLen; omega) (Nat.le_refl _) ?_; intro w1 hown1 hgrow1; have bel1 := (Below.refl w.heap.size w).grown hgrow1 (Nat.le_refl _) (by simp)))
      have ho1 : Ow w1 w.heap.size 5 (.slice (some ⟨w.heap.size, 0, none⟩) M M) (List.replicate M (0#8)) := by
        unfold Ow
        rw [← made_zero, List.length_replicate]
        exact hown1
      refine (hen w1 (Ow_bs ho1)).mono ?_
      rintro e w2 ⟨v, rfl, hown2, hb2⟩
      clear hown1 hgrow1 hu hi hz0 hz1 hz2 ho1 hen
      go_wp2
      go_ret2
      exact ⟨v, rfl, hown2.more bel1.size, bel1.trans (hb2.mono bel1.size)⟩
end Go.Proofs.Ytjjjlgaidklokaa.Pac
