/-
  The reference of layer 12: Apply.
-/
import Derived.Deep.RegionHeld3
import Derived.Test.YtahpogmbkkpmdaaRef12a
namespace Go.Proofs.Ytahpogmbkkpmdaa.Scr
open Go.RowKit Go.Proofs.Ytahpogmbkkpmdaa.Ints

theorem rx8 (a b : Byte) : bits .xor .u8 (a.toNat : Int) (b.toNat : Int) = ((a ^^^ b).toNat : Int) := by
  rw [u8_xor_nat _ _ a.isLt b.isLt, BitVec.toNat_xor]

set_option maxRecDepth 100000 in
set_option maxHeartbeats 2000000 in
theorem rapply_any (a : Option Addr) (l : List Byte) (n c : Nat) (w : World) (hl : Hid (l.length = n)) (hb : Bs w w.heap.size a l) (hm : n ≤ 1000000) :
    Calls Try.prog 20 #[.slice a n c] w fun e w' => ∃ v, e = .returned v ∧ Ow w' w.heap.size 5 v (app l) ∧ Below w.heap.size w w' := by
  have hs := rsequence_any (n : Int) (by omega) w
  rw [Int.toNat_natCast] at hs
  go_enter Try.func20, Try.ntmps20
  go_wp2_with fail
  refine hs.mono ?_
  rintro e w2 ⟨v, rfl, o2, b2⟩
  obtain ⟨A, c2, rfl, hA, _⟩ := o2.reads_len (seqb_len n)
  clear hs
  go_wp2
  go_loopw [4, 5] (fun v i wr => ∃ k : Nat, k ≤ n ∧ i = .int .i64 (k : Int) ∧ Ow wr w2.heap.size 5 v ((app l).take k) ∧ Below w2.heap.size w2 wr) (fun _ i _ => n - (intOf i).toNat)
  case atStart => exact ⟨0, Nat.zero_le _, rfl, World.ownsRow_nil _ _ _ _, Below.refl _ _⟩
  case round =>
    obtain ⟨k, hk, rfl, ho, hbel⟩ := hrel
    have htl : ((app l).take k).length = k := by rw [List.length_take, app_len, hl.out]; omega
    obtain ⟨A6, c6, rfl, _⟩ := ho.reads_len htl
    by_cases hkn : k < n
    · have hkl : k < l.length := by rw [hl.out]; exact hkn
      obtain ⟨b, off, rfl, hB1, hc1⟩ := ((hb.below b2).below (hbel.mono b2.size)).at_ hkl
      obtain ⟨b', off', rfl, hB2, hc2⟩ := (hA.below hbel).at_ (k := k) (by rw [seqb_len]; exact hkn)
      rw [seqb_get] at hc2
      have hB1' : b < w2.heap.size := Nat.lt_of_lt_of_le hB1 b2.size
      have hsn := app_snoc hkl
      obtain ⟨X, hX⟩ : ∃ X, l[k] = X := ⟨_, rfl⟩
      obtain ⟨Y, hY⟩ : ∃ Y, sq k = Y := ⟨_, rfl⟩
      rw [hX] at hc1
      rw [hY] at hc2
      rw [hX, hY] at hsn
      have k2 : (k : Int) < (n : Int) := by omega
      have k3 : k ≤ 1000000 := by omega
      have HT := Lib.hid htl
      have HS := Lib.hid hsn
      clear hsn hX hY htl
      go_wp2_with fail
      go_region_held3 (fun w' => w'.cell? ⟨b, off + k, none⟩ = some (B8 X) ∧ w'.cell? ⟨b', off' + k, none⟩ = some (B8 Y)) (first | go_keep | exact ⟨d1, d2⟩)
        (first | (refine step_app _ is_bytes rfl (.tmp 15) (.tmp 25) rfl rfl (ho.alloc _).drew (l := [X ^^^ Y]) rfl (Bs_new1 wr 5 _ _ (rx8 _ _)).drew (by simp) (by simp only [List.length_cons, List.length_nil]; have := HT.out; omega) (by have := hbel.size; simp; omega) ?_; intro v1 w1 hown1 hgrow1; have hbel1 := ((hbel.alloc hbel.size (.cells #[.int .u8 (bits .xor .u8 (X.toNat : Int) (Y.toNat : Int))] 5)).drew).grown hgrow1 (by have := hbel.size; simp; omega) ho.base_le; have d1 := (hbel1.cell (p := ⟨b, off + k, none⟩) hB1').trans ((hbel.cell (p := ⟨b, off + k, none⟩) hB1').symm.trans hc1); have d2 := (hbel1.cell (p := ⟨b', off' + k, none⟩) hB2).trans ((hbel.cell (p := ⟨b', off' + k, none⟩) hB2).symm.trans hc2)))
      go_wp2
      go_roundw
      case rel => exact ⟨k + 1, hkn, by go_num, by rw [← HS.out]; exact hown1, hbel1⟩
      case measure => simp [intOf]; omega
    · obtain rfl : k = n := by omega
      rw [List.take_of_length_le (by rw [app_len, hl.out]; exact Nat.le_refl _)] at ho
      go_wp2
      go_ret
      exact ⟨_, rfl, ho.more b2.size, b2.trans (hbel.mono b2.size)⟩
end Go.Proofs.Ytahpogmbkkpmdaa.Scr
