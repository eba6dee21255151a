/-
  The walk of the law's own function 'changed': bits within 16 places are inverted.
-/
import Derived.Test.YtgomkhllhpghmaaAlive01
import Derived.Test.YtgomkhllhpghmaaCrcBurst
import Derived.RegionTactic
namespace Go.Proofs.Ytgomkhllhpghmaa
open Go.RowKit

theorem Near.step {s x : List Byte} {i k : Nat} (h : Near s x i k) : Near s x i (k + 1) := ⟨h.1, fun p hp => h.2 p (by omega)⟩
theorem one_bit : ∀ m t : Fin 8, (1#8 <<< m.val).getLsbD t.val = decide (m = t) := by decide +kernel
theorem Near.flip {s x : List Byte} {i k : Nat} (h : Near s x i k) (hq : (i + k) / 8 < x.length) :
    Near s (x.set ((i + k) / 8) (x[(i + k) / 8] ^^^ (1#8 <<< (7 - (i + k) % 8)))) i (k + 1) := by
  refine ⟨by rw [List.length_set]; exact h.1, fun p hp => ?_⟩
  rw [← h.2 p (by omega)]
  unfold bitAt
  rw [List.getElem?_set]
  by_cases e : (i + k) / 8 = p / 8
  · rw [if_pos e]
    have hp8 : p / 8 < x.length := by omega
    rw [if_pos hq, List.getElem?_eq_getElem hp8]
    simp only [Option.getD_some, BitVec.getLsbD_xor]
    have hb := one_bit ⟨7 - (i + k) % 8, by omega⟩ ⟨7 - p % 8, by omega⟩
    rw [decide_eq_false (by simp; omega)] at hb
    simp only at hb
    rw [hb]
    simp [e]
  · rw [if_neg e]

theorem flip_byte (x : Byte) (m : Nat) (hm : m < 8) : bits .xor .u8 (x.toNat : Int) (2 ^ m % 256) = ((x ^^^ (1#8 <<< m)).toNat : Int) := by
  have e : (2 ^ m % 256 : Int) = ((1#8 <<< m).toNat : Int) := by
    have : ∀ m : Fin 8, (2 ^ m.val % 256 : Int) = ((1#8 <<< m.val).toNat : Int) := by decide +kernel
    exact this ⟨m, hm⟩
  rw [e, u8_xor_nat _ _ x.isLt (BitVec.isLt _), BitVec.toNat_xor]

set_option maxHeartbeats 1000000 in
theorem changed_any (a : Option Addr) (s : List Byte) (c i : Nat) (pat : BitVec 16) (w : World) (ha : Bs w w.heap.size a s) (hna : a = none → c = 0) (hs : s.length ≤ 2002) (hi : i < 65536) :
    Calls Try.prog 21 #[.slice a s.length c, .int .i64 i, .int .u16 (pat.toNat : Int)] w fun e w' => ∃ v x, e = .returned v ∧ Ow w' w.heap.size 5 v x ∧ Near s x i 16 ∧ Below w.heap.size w w' := by
  have bel1 := (Below.refl w.heap.size w).alloc (Nat.le_refl _) (.cells #[] 5)
  have hown1 := Ow_empty w w.heap.size 5 (Nat.le_refl _)
  go_enter Try.func21, Try.ntmps21
  go_wp2_with (first
    | (at_builtin; refine wpList_app _ is_bytes rfl (.tmp 10) (.tmp 11) rfl (m := []) rfl hown1 rfl (ha.below bel1) hna (by simp; omega) bel1.size ?_; intro v2 w2 hown2 hgrow2; have bel2 := bel1.grown hgrow2 bel1.size (Ow.base_le (l := []) hown1)))
  rw [List.nil_append] at hown2
  clear hgrow2 hown1 bel1 ha
  obtain ⟨A, cap, rfl, _, _, hcap, _⟩ := hown2.reads
  go_loopw [8] (fun k wr => ∃ (j : Nat) (x : List Byte), j ≤ 16 ∧ k = .int .i64 j ∧ Ow wr w.heap.size 5 (.slice A s.length cap) x ∧ Near s x i j ∧ Below w.heap.size w wr) (fun k _ => 16 - (intOf k).toNat)
  case atStart => exact ⟨0, s, by omega, rfl, hown2, ⟨rfl, fun _ _ => rfl⟩, bel2⟩
  case round =>
    obtain ⟨j, x, hj, rfl, hown, hnear, hbel⟩ := hrel
    by_cases hlt : j < 16
    · have hp := pat.isLt
      go_wp2_with fail
      · have hin : (i : Int) + (j : Int) < 8 * (s.length : Int) := by assumption
        have hx : x.length = s.length := hnear.1
        have hq : (i + j) / 8 < x.length := by omega
        have hq2 : ((i : Int) + (j : Int)) / 8 < (s.length : Int) := by omega
        have hj0 : 0 ≤ (i : Int) + (j : Int) := by omega
        obtain ⟨g, rfl, hg⟩ : ∃ g, A = some ⟨g, 0, none⟩ ∧ w.heap.size ≤ g := by
          rcases hown.2 with ⟨h1, h2⟩ | ⟨g, cap', cur, h1, h2, _⟩
          · omega
          · injection h1 with h1; exact ⟨g, h1, h2⟩
        have hown' : wr.ownsRow w.heap.size 5 1 (.slice (some ⟨g, 0, none⟩) s.length cap) s.length (x.map B8) := by rw [← hx]; rw [← hx] at hown; exact hown
        have hc : wr.cell? ⟨g, (i + j) / 8, none⟩ = some (B8 x[(i + j) / 8]) := by
          rw [hown'.cellAt _ (by omega)]; simp [hq]
        have hf : wr.frozen? ⟨g, (i + j) / 8, none⟩ = false := hown'.frozenAt _
        have HN := Lib.hid hnear
        have HX : Hid (x.length = s.length) := hx
        clear hx hnear hown
        go_region
        rw [flip_byte x[(i + j) / 8] (7 - (i + j) % 8) (by omega)]
        have hst := hown'.stored ((i + j) / 8) (B8 (x[(i + j) / 8] ^^^ (1#8 <<< (7 - (i + j) % 8))))
        have hbel3 := (hbel.grown hst.2 hbel.size (fun k hk => by injection hk with hk; omega)).drew
        have hown3 : Ow ((wr.setCell ⟨g, (i + j) / 8, none⟩ (B8 (x[(i + j) / 8] ^^^ (1#8 <<< (7 - (i + j) % 8))))).drew) w.heap.size 5 (.slice (some ⟨g, 0, none⟩) s.length cap) (x.set ((i + j) / 8) (x[(i + j) / 8] ^^^ (1#8 <<< (7 - (i + j) % 8)))) := by
          refine Ow.drew ?_
          unfold Ow
          rw [List.length_set, HX.out, List.map_set]
          exact hst.1
        clear hst hc hf hown'
        go_wp2
        go_roundw
        case rel => exact ⟨j + 1, _, by omega, by go_num, hown3, HN.out.flip hq, hbel3⟩
        case measure => simp [intOf]; omega
      · go_roundw
        case rel => exact ⟨j + 1, x, by omega, by go_num, hown, hnear.step, hbel⟩
        case measure => simp [intOf]; omega
      · go_roundw
        case rel => exact ⟨j + 1, x, by omega, by go_num, hown, hnear.step, hbel⟩
        case measure => simp [intOf]; omega
    · go_wp2
      go_ret
      exact ⟨_, x, rfl, hown, by rw [show 16 = j by omega]; exact hnear, hbel⟩

end Go.Proofs.Ytgomkhllhpghmaa
