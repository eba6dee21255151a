/-
  Package ranges: Valid.
-/
import Derived.Test.YtgomcilmhlafcaaRngW0
import Derived.Test.YtgomcilmhlafcaaLater
namespace Go.Proofs.Ytgomcilmhlafcaa.Rng
open Go.RowKit

/-- the To of the range before the k-th -/
def prv (l : List R) : Nat → Option Int
  | 0 => none
  | k + 1 => l[k]?.map (·.2)
theorem vld_step {l : List R} {k : Nat} (h : k < l.length) : vldA (prv l k) (l.drop k) = (!(emp l[k]) && ((prv l k).all fun q => decide (q < l[k].1)) && vldA (prv l (k + 1)) (l.drop (k + 1))) := by
  rw [List.drop_eq_getElem_cons h, vldA, prv, List.getElem?_eq_getElem h]; rfl

set_option maxHeartbeats 2000000 in
theorem valid_any (l : List R) (w : World) (A : Option Addr) (c : Nat) (h : Rs w w.heap.size A l) (hl : l.length ≤ 1000000000000) :
    Calls Try.prog 12 #[.slice A l.length c] w fun e w' => e = .returned (.bool (vld l)) ∧ Below w.heap.size w w' := by
  obtain ⟨V, hV⟩ : ∃ V, V = vld l := ⟨_, rfl⟩
  rw [← hV]
  have HV : Hid (V = vldA (prv l 0) (l.drop 0)) := hV
  clear hV
  go_enter Try.func12, Try.ntmps12
  go_wp2
  go_loopw [7] (fun i wr => ∃ k : Nat, k ≤ l.length ∧ i = .int .i64 k ∧ Hid (V = vldA (prv l k) (l.drop k)) ∧ Below w.heap.size w wr)
    (fun i _ => l.length - (intOf i).toNat)
  case atStart => exact ⟨0, Nat.zero_le _, rfl, HV, Below.refl _ _⟩
  case round =>
    obtain ⟨k, hk, rfl, hg, hbel⟩ := hrel
    by_cases hlt : k < l.length
    · obtain ⟨b, off, rfl, hbw, hc1, hc2⟩ := (h.below hbel).at_ hlt
      have hstep := hg.out.trans (vld_step hlt)
      obtain ⟨⟨p, q⟩, hx⟩ : ∃ z, z = l[k] := ⟨_, rfl⟩
      rw [← hx] at hc1 hc2 hstep
      dsimp only at hc1 hc2
      have hsz := hbel.size
      obtain ⟨w2, hw2⟩ : ∃ w2, w2 = wr.alloc (.cells #[I p, I q] 24) := ⟨_, rfl⟩
      have hbx : Cel w2 wr.heap.size 24 #[I p, I q] := by rw [hw2]; exact Cel.new wr _ _
      have hsz2 : w2.heap.size = wr.heap.size + 1 := by rw [hw2]; simp
      have hbel2 : Below w.heap.size w w2 := by rw [hw2]; exact hbel.alloc hsz _
      have cx0 : ∀ p' : Later w2, p'.W.cell? ⟨wr.heap.size, 0, none⟩ = some (I p) := later_cell (hbx.cell 0) (by omega)
      have cx1 : ∀ p' : Later w2, p'.W.cell? ⟨wr.heap.size, 1, none⟩ = some (I q) := later_cell (hbx.cell 1) (by omega)
      obtain ⟨E, hE⟩ : ∃ E, E = emp (p, q) := ⟨_, rfl⟩
      have hcall : ∀ p' : Later w2, Calls Try.prog 28 #[.agg #[I p, I q]] p'.W fun e w' => e = .returned (.bool E) ∧ Below p'.W.heap.size p'.W w' := fun p' =>
        (empty_any p q p'.W).mono fun e w' ⟨h1, h2⟩ => ⟨by rw [hE]; exact h1, by rw [h2]; exact (Below.refl _ _).alloc (Nat.le_refl _) _⟩
      rw [← hE] at hstep
      clear hE hx hg
      have HS := Lib.hid hstep
      clear hstep
      cases E with
      | true =>
        go_wp2_with fail
        rw [← hw2]
        clear hw2
        refine wp_region_later (by kernel_rfl) (by kernel_rfl) ?_
        repeat (go_big_quiet_step ((go_at_call 28; exact later_of (hcall _))))
        refine wpQuiet_nil ?_
        rintro _ ⟨⟨w5, hbel5⟩, rfl⟩
        go_wp2
        go_ret
        exact ⟨by rw [HS.out]; simp, hbel2.trans (hbel5.mono hbel2.size)⟩
      | false =>
        cases k with
        | zero =>
          have hz1 : wr.cell? ⟨b, off, none⟩ = some (I p) := by simpa using hc1
          have hz2 : wr.cell? ⟨b, off + 1, none⟩ = some (I q) := by simpa using hc2
          go_wp2_with fail
          rw [← hw2]
          clear hw2
          refine wp_region_later (by kernel_rfl) (by kernel_rfl) ?_
          repeat (go_big_quiet_step ((go_at_call 28; exact later_of (hcall _))))
          refine wpQuiet_nil ?_
          rintro _ ⟨⟨w5, hbel5⟩, rfl⟩
          go_wp2
          go_roundw
          case rel => exact ⟨1, hlt, rfl, Lib.hid (by rw [HS.out]; simp [prv]), hbel2.trans (hbel5.mono hbel2.size)⟩
          case measure => simp [intOf]; omega
        | succ j =>
          obtain ⟨b', off', hA', _, hp1, hp2⟩ := (h.below hbel2).at_ (show j < l.length by omega)
          cases hA'
          obtain ⟨T, hT⟩ : ∃ T, T = decide (p ≤ l[j].2) := ⟨_, rfl⟩
          have hT' : decide (p ≤ l[j].2) = T := hT.symm
          have hT2 : decide (l[j].2 < p) = !T := by rw [hT, ← decide_not]; congr 1; exact propext (by omega)
          have HS2 : V = ((!T) && vldA (prv l (j + 2)) (l.drop (j + 2))) := by
            rw [HS.out, ← hT2]; simp [prv, List.getElem?_eq_getElem (show j < l.length by omega)]
          have HS3 := Lib.hid HS2
          have cp2 : ∀ p' : Later w2, p'.W.cell? ⟨b, off + j * 2 + 1, none⟩ = some (I l[j].2) := later_cell hp2 (by omega)
          have hk0 : decide ((0 : Int) < ((j : Int) + 1)) = true := by simp
          clear HS HS2 hT hT2
          go_wp2_with fail
          rw [← hw2]
          clear hw2
          refine wp_region_later (by kernel_rfl) (by kernel_rfl) ?_
          repeat (go_big_quiet_step ((go_at_call 28; exact later_of (hcall _))))
          refine wpQuiet_nil ?_
          rintro _ ⟨⟨w5, hbel5⟩, rfl⟩
          cases T with
          | true =>
            go_wp2
            go_ret
            exact ⟨by rw [HS3.out]; rfl, hbel2.trans (hbel5.mono hbel2.size)⟩
          | false =>
            go_wp2
            go_roundw
            case rel => exact ⟨j + 2, hlt, by simp; omega, Lib.hid (by rw [HS3.out]; rfl), hbel2.trans (hbel5.mono hbel2.size)⟩
            case measure => simp [intOf]; omega
    · obtain rfl : k = l.length := by omega
      go_wp2
      go_ret
      exact ⟨by rw [hg.out, List.drop_length]; rfl, hbel⟩
end Go.Proofs.Ytgomcilmhlafcaa.Rng
