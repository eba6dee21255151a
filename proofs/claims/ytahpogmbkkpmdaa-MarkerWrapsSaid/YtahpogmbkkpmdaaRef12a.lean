/-
  The reference of layer 12: Sequence.
-/
import Derived.Deep.QuietTactic
import Derived.BigQuiet
import Derived.BigRegion
import Derived.Deep.RegionLaw
import Derived.Test.YtahpogmbkkpmdaaScrMath
import Derived.Test.YtahpogmbkkpmdaaBase
import Derived.Test.YtahpogmbkkpmdaaIntH
namespace Go.Proofs.Ytahpogmbkkpmdaa.Scr
open Go.RowKit Go.Proofs.Ytahpogmbkkpmdaa.Ints

theorem info_int : (Try.prog.info? 3).map (fun i => (i.zero, i.size, i.bytes)) = some (some (I 0), 1, 8) := by kernel_rfl
theorem is_ints : IsInts Try.prog 51 3 := by
  obtain ⟨i, h0, h1, h2, h3⟩ := info_parts info_int
  exact ⟨Try.underlying51, i, h0, h1, h2, h3⟩

theorem own_cel {X : World} {base size n : Nat} {t : TypeId} {v : Value} {xs : List Value} (h : X.ownsRow base t size v n xs) {i : Nat} (hi : v.ownBlock = some i) : ∃ cs, Cel X i t cs := by
  rcases h.2 with ⟨rfl, _⟩ | ⟨g, cap, cur, rfl, _, hg, _⟩
  · cases hi
  · injection hi with hi
    have : g = i := hi
    subst this
    exact ⟨_, hg⟩
/-- what a slice of ints holds stays where a slice of bytes grows -/
theorem On_keep {w w2 : World} {base b6 : Nat} {tI tB : TypeId} {v v6 : Value} {l : List Int} {m : List Byte} (h : On w base tI v l) (h6 : Ow w b6 tB v6 m) (ht : tB ≠ tI) {o : Obj} (hg : (w.alloc o).grownBy w2 v6.ownBlock) : On w2 base tI v l :=
  (h.alloc o).only (Only.of_grown hg) fun i hi hm => by
    obtain ⟨cs, hc⟩ := own_cel h hi
    exact h6.apart hc ht (by simpa using hm)
/-- the first k bits -/
def bl (k : Nat) : List Int := (List.range k).map bit
theorem bl_len (k : Nat) : (bl k).length = k := by simp [bl]
theorem bl_succ (k : Nat) : bl (k + 1) = bl k ++ [bit k] := by simp [bl, List.range_succ]
theorem bl_at {i k : Nat} (h : i < k) : (bl k)[i]? = some (bit i) := by simp [bl, h]
theorem On_bit {w : World} {base k c i : Nat} {e : TypeId} {A : Option Addr} (h : On w base e (.slice A k c) (bl k)) (hi : i < k) : ∃ g, A = some ⟨g, 0, none⟩ ∧ w.cell? ⟨g, i, none⟩ = some (.int .i64 (bit i)) := by
  rcases h.2 with ⟨he2, h0⟩ | ⟨g, cap, cur, he2, _⟩
  · rw [bl_len] at h0; omega
  · injection he2 with he2
    subst he2
    refine ⟨g, rfl, ?_⟩
    have := World.ownsRow.cells h (g := g) rfl i (I (bit i)) (by rw [List.getElem?_map, bl_at hi]; rfl)
    rwa [add_zero_cell] at this
theorem bel_draws {B : Nat} {w w1 : World} (h : Below B w w1) (n : Nat) : Below B w (w1.drewN n) := h.trans (drewN_below w1 n)

set_option maxRecDepth 100000 in
set_option maxHeartbeats 2000000 in
theorem rsequence_any (m : Int) (hm : m ≤ 1000000) (w : World) :
    Calls Try.prog 28 #[.int .i64 m] w fun e w' => ∃ v, e = .returned v ∧ Ow w' w.heap.size 5 v (seqb m.toNat) ∧ Below w.heap.size w w' := by
  rcases Int.lt_or_le m 1 with h | h
  · have hd : decide (m < 1) = true := by simpa using h
    rw [show m.toNat = 0 by omega]
    go_enter Try.func28, Try.ntmps28
    go_wp2
    go_ret
    exact ⟨_, rfl, World.ownsRow_nil _ _ _ _, Below.refl _ _⟩
  · obtain ⟨N, rfl⟩ : ∃ N : Nat, m = (N : Int) := ⟨m.toNat, by omega⟩
    rw [Int.toNat_natCast]
    have hd : decide ((N : Int) < 1) = false := by simpa using h
    have hd' : decide (N < 1) = false := by simp; omega
    have hN1 : 0 < N := by omega
    have hN2 : N ≤ 1000000 := by omega
    clear h hm
    obtain ⟨M, hM⟩ : ∃ M : Nat, M = 8 * N := ⟨_, rfl⟩
    have hM2 : M ≤ 8000000 := by omega
    have HM := Lib.hid hM
    clear hM
    go_enter Try.func28, Try.ntmps28
    go_wp2
    go_loopw [3, 4] (fun v i wr => ∃ k : Nat, k ≤ M ∧ i = .int .i64 (k : Int) ∧ On wr w.heap.size 3 v (bl k) ∧ Below w.heap.size w wr) (fun _ i _ => M - (intOf i).toNat)
    case atStart => exact ⟨0, Nat.zero_le _, rfl, On.nil_ _ _ _, Below.refl _ _⟩
    case round =>
      obtain ⟨k, hk, rfl, ho, hb⟩ := hrel
      obtain ⟨A, c, rfl, hA, hAn, hc1, hc2⟩ := ho.reads_len (bl_len k)
      by_cases hkM : k < M
      · by_cases hk8 : k < 8
        · have hbit := bit_first ⟨k, hk8⟩
          dsimp only at hbit
          have t1 : decide ((8 : Int) ≤ (k : Int)) = false := by simp; omega
          have t1' : decide (8 ≤ k) = false := by simp; omega
          have t2 : (k : Int) < 8 * (N : Int) := by have := HM.out; omega
          have t2' : k < 8 * N := by have := HM.out; omega
          have HB := Lib.hid hbit
          clear hbit
          go_wp2_with (first | (at_builtin; refine wpList_iapp _ is_ints rfl (.tmp 43) (.tmp 45) rfl rfl (ho.alloc _) (l := [1]) (n := 1) rfl rfl (Ns_new1 _ _ _) (by simp) (by rw [bl_len]; simp; omega) (by have := hb.size; simp; omega) ?_; intro v2 w2 hown2 hg2 _; obtain ⟨A2, c2, rfl, _⟩ := hown2.reads_len (n := k + 1) (by rw [List.length_append, bl_len]; rfl); have hbel := (hb.alloc hb.size (.cells #[I 1] 3)).grown hg2 (by have := hb.size; simp; omega) ho.base_le))
          go_roundw
          case rel => exact ⟨k + 1, hkM, by go_num, by rw [bl_succ, HB.out]; exact hown2, hbel⟩
          case measure => simp [intOf]; omega
        · obtain ⟨j, hj⟩ : ∃ j, k = j + 8 := ⟨k - 8, by omega⟩
          have hrule := bit_next j
          rw [← hj] at hrule
          obtain ⟨j7, hj7⟩ : ∃ j7, j7 = j + 7 := ⟨_, rfl⟩
          obtain ⟨j5, hj5⟩ : ∃ j5, j5 = j + 5 := ⟨_, rfl⟩
          obtain ⟨j3, hj3⟩ : ∃ j3, j3 = j + 3 := ⟨_, rfl⟩
          obtain ⟨g, rfl, l7⟩ := On_bit ho (i := j7) (by omega)
          obtain ⟨_, e5, l5⟩ := On_bit ho (i := j5) (by omega)
          cases e5
          obtain ⟨_, e3, l3⟩ := On_bit ho (i := j3) (by omega)
          cases e3
          obtain ⟨_, e0, l0⟩ := On_bit ho (i := j) (by omega)
          cases e0
          rw [← hj7, ← hj5, ← hj3] at hrule
          obtain ⟨B7, hB7⟩ : ∃ B7, bit j7 = B7 := ⟨_, rfl⟩
          obtain ⟨B5, hB5⟩ : ∃ B5, bit j5 = B5 := ⟨_, rfl⟩
          obtain ⟨B3, hB3⟩ : ∃ B3, bit j3 = B3 := ⟨_, rfl⟩
          obtain ⟨B0, hB0⟩ : ∃ B0, bit j = B0 := ⟨_, rfl⟩
          obtain ⟨Bk, hBk⟩ : ∃ Bk, bit k = Bk := ⟨_, rfl⟩
          rw [hB7, hB5, hB3, hB0, hBk] at hrule
          rw [hB7] at l7
          rw [hB5] at l5
          rw [hB3] at l3
          rw [hB0] at l0
          have t1 : decide ((8 : Int) ≤ (k : Int)) = true := by simp; omega
          have t1' : decide (8 ≤ k) = true := by simp; omega
          have t2 : (k : Int) < 8 * (N : Int) := by have := HM.out; omega
          have t2' : k < 8 * N := by have := HM.out; omega
          have d7 : (k : Int) - 1 = (j7 : Int) := by omega
          have d5 : (k : Int) - 3 = (j5 : Int) := by omega
          have d3 : (k : Int) - 5 = (j3 : Int) := by omega
          have d0 : (k : Int) - 8 = (j : Int) := by omega
          have b7 : j7 < k := by omega
          have b5 : j5 < k := by omega
          have b3 : j3 < k := by omega
          have b0 : j < k := by omega
          have HJ := Lib.hid (And.intro hj7 (And.intro hj5 (And.intro hj3 hj)))
          have HB := Lib.hid hBk
          clear hj hj7 hj5 hj3 hB7 hB5 hB3 hB0 hBk hk8 hA hAn
          go_wp2_with fail
          go_quiet (fail)
          have hoq := ho.draws nq
          have hbq := bel_draws hb nq
          go_wp2_with (first | (at_builtin; refine wpList_iapp _ is_ints rfl (.tmp 43) (.tmp 45) rfl rfl (hoq.alloc _) (l := [Bk]) (n := 1) rfl rfl (Ns_new1 _ _ _) (by simp) (by rw [bl_len]; simp; omega) (by have := hb.size; simp; omega) ?_; intro v2 w2 hown2 hg2 _; obtain ⟨A2, c2, rfl, _⟩ := hown2.reads_len (n := k + 1) (by rw [List.length_append, bl_len]; rfl); have hbel := (hbq.alloc hbq.size (.cells #[I Bk] 3)).grown hg2 (by have := hb.size; simp; omega) hoq.base_le))
          go_roundw
          case rel => exact ⟨k + 1, hkM, by go_num, by rw [bl_succ, HB.out]; exact hown2, hbel⟩
          case measure => simp [intOf]; omega
      · have t2 : ¬ (k : Int) < 8 * (N : Int) := by have := HM.out; omega
        have t2' : ¬ k < 8 * N := by have := HM.out; omega
        have HK : Hid (k = 8 * N) := Lib.hid (by have := HM.out; omega)
        have hk3 : k ≤ 8000000 := by omega
        clear hkM hk HM
        go_wp2
        go_loopw [6, 7] (fun v i wr => ∃ q : Nat, q ≤ N ∧ i = .int .i64 (q : Int) ∧ Ow wr w.heap.size 5 v (seqb q) ∧ On wr w.heap.size 3 (.slice A k c) (bl k) ∧ Below w.heap.size w wr) (fun _ i _ => N - (intOf i).toNat)
        case atStart => exact ⟨0, Nat.zero_le _, rfl, World.ownsRow_nil _ _ _ _, ho, hb⟩
        case round =>
          obtain ⟨q, hq, rfl, h6, hbi, hbe⟩ := hrel
          obtain ⟨A6, c6, rfl, _⟩ := h6.reads_len (seqb_len q)
          by_cases hqN : q < N
          · have u2 : (q : Int) < (N : Int) := by omega
            go_wp2
            go_loop [8, 9] (fun x i => ∃ j : Nat, j ≤ 8 ∧ i = .int .i64 (j : Int) ∧ x = .int .i64 (gat q j)) (fun _ i => 8 - (intOf i).toNat)
            case atStart => exact ⟨0, Nat.zero_le _, rfl, by rw [gat_zero]⟩
            case round =>
              obtain ⟨j, hj, rfl, rfl⟩ := hrel
              by_cases hj8 : j < 8
              · have v2 : (j : Int) < 8 := by omega
                obtain ⟨e, he⟩ : ∃ e, e = 8 * q + j := ⟨_, rfl⟩
                have hnx := gat_next q j hj8
                have hek : e < k := by have := HK.out; omega
                rw [← he] at hnx
                obtain ⟨g, rfl, l7⟩ := On_bit hbi hek
                obtain ⟨hP0, hP1⟩ := gat_le q j
                have hB := bit_two e
                obtain ⟨P, hP⟩ : ∃ P, gat q j = P := ⟨_, rfl⟩
                obtain ⟨Bt, hBt⟩ : ∃ Bt, bit e = Bt := ⟨_, rfl⟩
                rw [hP] at hP0 hP1 hnx ⊢
                rw [hBt] at l7 hB hnx
                have hB0 : 0 ≤ Bt := by omega
                have hB1 : Bt ≤ 1 := by omega
                have d1 : 8 * (q : Int) + (j : Int) = (e : Int) := by omega
                have HN := Lib.hid hnx
                have HE := Lib.hid he
                clear hnx he hP hBt hB
                go_wp2
                go_round
                case rel => exact ⟨j + 1, by omega, by go_num, val_int HN.out⟩
                case measure => simp [intOf]; omega
              · obtain rfl : j = 8 := by omega
                rw [gat_all]
                obtain ⟨x, hx⟩ : ∃ x, sq q = x := ⟨_, rfl⟩
                rw [hx]
                have HX := Lib.hid hx
                have hx8 := x.isLt
                clear hx
                go_wp2_with (first | (at_builtin; refine wpList_app _ is_bytes rfl (.tmp 66) (.tmp 69) rfl (m := seqb q) rfl (h6.alloc _) (l := [x]) rfl (Bs_new1 _ _ x _ rfl) (by simp) (by rw [seqb_len]; simp; omega) (by have := hbe.size; simp; omega) ?_; intro v2 w2 hown2 hg2; obtain ⟨A2, c2, rfl, _⟩ := hown2.reads_len (n := q + 1) (by rw [List.length_append, seqb_len]; rfl)))
                go_roundw
                case rel => exact ⟨q + 1, hqN, by go_num, by rw [seqb_succ, HX.out]; exact hown2, On_keep hbi h6 (by decide) hg2, (hbe.alloc hbe.size _).grown hg2 (by have := hbe.size; simp; omega) h6.base_le⟩
                case measure => simp [intOf]; omega
          · obtain rfl : q = N := by omega
            go_wp2
            go_ret
            exact ⟨_, rfl, h6, hbe⟩
end Go.Proofs.Ytahpogmbkkpmdaa.Scr
