/-
  Package queue: Items; of nil and of the zero value.
-/
import Derived.Deep.OwnRows
import Derived.Test.YtnnjmlpanbbanaaQueW4
namespace Go.Proofs.Ytnnjmlpanbbanaa.Rng.Que
open Go.RowKit Go.Shelf Ints

theorem info_int : (Try.prog.info? 3).map (fun i => (i.zero, i.size, i.bytes)) = some (some (I 0), 1, 8) := by kernel_rfl
theorem is_ints : IsInts Try.prog 47 3 := by
  obtain ⟨i, h0, h1, h2, h3⟩ := info_parts info_int
  exact ⟨Try.underlying47, i, h0, h1, h2, h3⟩

set_option maxHeartbeats 2000000 in
theorem qitems_any (w : World) (base g cap : Nat) (r : Option Nat) (L : List R) (h : QW w base g r cap L) :
    Calls Try.prog 22 #[.pointer (some ⟨g, 0, none⟩)] w fun e w' => ∃ v, e = .returned v ∧ On w' w.heap.size 3 v (itm L) ∧ Below w.heap.size w w' := by
  have hw := qOk w base g cap r L h
  have hlen := h.len
  obtain ⟨v, hc, ho, hvr, _⟩ := h
  obtain ⟨A, c, rfl, hr, hn, _, _⟩ := ho.reads
  have c2 : w.cell? ⟨g, 2, none⟩ = some (.slice A L.length c) := hc.cell 2
  have hg := hc.lt
  have hl : L.length ≤ 256 := by omega
  have hmk := run_make_row' (P := Try.prog) 47 3 (I 0) 8 Try.underlying47 info_int rfl .i64 .i64 L.length (by omega) (by omega)
  have c2' : (w.alloc (.cells (madeCells #[I 0] L.length) 3)).cell? ⟨g, 2, none⟩ = some (.slice A L.length c) := Lib.cell?_alloc_some _ c2
  have hN : Cel (w.alloc (.cells (madeCells #[I 0] L.length) 3)) w.heap.size 3 (madeCells #[I 0] L.length) := Cel.new w _ _
  have b1 : Below w.heap.size w (w.alloc (.cells (madeCells #[I 0] L.length) 3)) := (Below.refl _ w).alloc (Nat.le_refl _) _
  have hsz0 : (madeCells #[I 0] L.length).size = L.length := size_madeCells _ _
  obtain ⟨X, hX⟩ : ∃ X, X = madeCells #[I 0] L.length := ⟨_, rfl⟩
  rw [← hX] at hmk c2' hN b1 hsz0
  clear hc ho hX
  go_enter Try.func22, Try.ntmps22
  go_wp2_with fail
  refine hw.mono ?_
  rintro e w1 ⟨rfl, rfl⟩
  go_wp2_with fail
  go_loopw [4, 5, 20] (fun _ _ i wr => ∃ k : Nat, k ≤ L.length ∧ i = .int .i64 k ∧ Below w.heap.size w wr ∧ w.heap.size < wr.heap.size ∧ ∃ cur : Array Value, Cel wr w.heap.size 3 cur ∧ cur.size = L.length ∧ Hid (∀ j y, j < k → L[j]? = some y → cur[j]? = some (I y.2)))
    (fun _ _ i _ => L.length - (intOf i).toNat)
  case atStart => exact ⟨0, Nat.zero_le _, rfl, b1, by simp, X, hN, hsz0, Lib.hid (fun j y hj => by omega)⟩
  case round =>
    obtain ⟨k, hk, rfl, hbel, hsw, cur, hcur, hcs, hdone⟩ := hrel
    by_cases hlt : k < L.length
    · obtain ⟨b, off, rfl, hbw, hc1, hc2⟩ := (hr.below hbel).at_ hlt
      have hL : Hid (L[k]? = some L[k]) := Lib.hid (List.getElem?_eq_getElem hlt)
      generalize L[k] = y at hc1 hc2 hL
      obtain ⟨p, q⟩ := y
      dsimp only at hc1 hc2
      have hcurA := hcur.only ((Only.refl [] wr).alloc (.cells #[I p, I q] 61)) (by simp)
      have ck : (wr.alloc (.cells #[I p, I q] 61)).cell? ⟨w.heap.size, k, none⟩ = some (cur[k]'(by omega)) := by rw [hcurA.cell, Array.getElem?_eq_getElem]
      have fk : (wr.alloc (.cells #[I p, I q] 61)).frozen? ⟨w.heap.size, k, none⟩ = false := hcurA.free k
      clear hr hmk
      go_wp2_with fail
      go_roundw
      case rel =>
        refine ⟨k + 1, hlt, by simp, ?_, ?_, cur.setIfInBounds k (I q), (hcur.put k (I q)).only ((Only.refl [] _).alloc _) (by simp), by simp [hcs], Lib.hid ?_⟩
        · exact (hbel.setCell (by simp) _).alloc (by simp [World.setCell]; omega) _
        · simp [World.setCell]; omega
        · intro j y hj hy
          rw [Array.getElem?_setIfInBounds]
          by_cases e : j = k
          · subst e
            rw [hL.out] at hy
            injection hy with hy
            subst hy
            simp; omega
          · rw [if_neg (by omega)]
            exact hdone.out j y (by omega) hy
      case measure => simp [intOf]; omega
    · obtain rfl : k = L.length := by omega
      go_wp2
      go_ret
      have hall : cur = ((itm L).map I).toArray := by
        apply Array.ext
        · simp [hcs, itm_length]
        · intro j h1 h2
          have hj : j < L.length := by omega
          have := hdone.out j L[j] hj (List.getElem?_eq_getElem hj)
          rw [Array.getElem?_eq_getElem h1] at this
          rw [Option.some.inj this]
          simp [itm]
      rw [hall] at hcur
      have := On_of_cel (base := w.heap.size) hcur (Nat.le_refl _) (by rw [itm_length]; simp only [maxLen]; omega)
      rw [itm_length] at this
      exact ⟨_, rfl, this, hbel⟩
end Go.Proofs.Ytnnjmlpanbbanaa.Rng.Que
