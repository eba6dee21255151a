/-
  Package history: what it is to be a History; New, works, Len, Dropped, Has, Items.
-/
import Derived.Test.YtnkbilbaljdfgaaIntS
import Derived.Test.YtnkbilbaljdfgaaHisMath
namespace Go.Proofs.Ytnkbilbaljdfgaa.His
open Go.RowKit Ints

/-- block g is a History of New with capacity cap that keeps the ints L, in block r; D were dropped -/
def HW (w : World) (base g : Nat) (r : Option Nat) (cap : Nat) (L : List Int) (D : Int) : Prop :=
  ∃ v, Cel w g 44 #[.bool true, I cap, v, I D] ∧ On w base 3 v L ∧ v.ownBlock = r ∧ L.length ≤ cap ∧ cap ≤ 256

section
variable {w w' : World} {base g cap : Nat} {D : Int} {r : Option Nat} {L : List Int} {S : List Nat}
theorem HW.lt (h : HW w base g r cap L D) : g < w.heap.size := by
  obtain ⟨v, hc, _⟩ := h
  exact hc.lt
theorem HW.row (h : HW w base g r cap L D) : ∀ i, r = some i → base ≤ i ∧ i < w.heap.size ∧ i ≠ g := by
  obtain ⟨v, hc, ho, rfl, _⟩ := h
  intro i hi
  have := ho.lt i hi
  exact ⟨this.1, this.2, fun e => own_apart ho hc (by decide) (by rw [hi, e])⟩
theorem HW.only (h : HW w base g r cap L D) (k : Only S w w') (hg : g ∉ S) (hr : ∀ i, r = some i → i ∉ S) : HW w' base g r cap L D := by
  obtain ⟨v, hc, ho, rfl, h1⟩ := h
  exact ⟨v, hc.only k hg, ho.only k hr, rfl, h1⟩
theorem HW.below (h : HW w base g r cap L D) (k : Below w.heap.size w w') : HW w' base g r cap L D := h.only (Only.of_below (S := []) k) (by simp) (by simp)
theorem HW.more (h : HW w base g r cap L D) {b' : Nat} (hb : b' ≤ base) : HW w b' g r cap L D := by
  obtain ⟨v, hc, ho, h1⟩ := h
  exact ⟨v, hc, ho.more hb, h1⟩
theorem HW.draws (h : HW w base g r cap L D) (n : Nat) : HW (w.drewN n) base g r cap L D := h
theorem HW.drew (h : HW w base g r cap L D) : HW w.drew base g r cap L D := h
theorem HW.len (h : HW w base g r cap L D) : L.length ≤ cap ∧ cap ≤ 256 := by
  obtain ⟨v, hc, ho, _, h1⟩ := h
  exact h1
end

set_option maxHeartbeats 1000000 in
theorem hnew_any (n : Int) (w : World) :
    Calls Try.prog 7 #[I n] w fun e w' => e = .returned (.pointer (some ⟨w.heap.size, 0, none⟩)) ∧ w' = w.alloc (.cells #[.bool true, I (hcap n), .slice none 0 0, I 0] 44) := by
  obtain ⟨M, hM⟩ : ∃ M : Nat, M = (max n 0).toNat := ⟨_, rfl⟩
  have hm0 : max n 0 = (M : Int) := by omega
  have hm0' : (if n < 0 then (0 : Int) else n) = (M : Int) := by split <;> omega
  have hC : hcap n = min M 256 := by unfold hcap; omega
  obtain ⟨C, hCC⟩ : ∃ C, C = hcap n := ⟨_, rfl⟩
  rw [← hCC] at hC ⊢
  have hm1 : min (M : Int) 256 = (C : Int) := by omega
  have hm1' : (if (256 : Int) < (M : Int) then (256 : Int) else (M : Int)) = (C : Int) := by split <;> omega
  have hm1'' : (if 256 < M then (256 : Int) else (M : Int)) = (C : Int) := by split <;> omega
  clear hM hC hCC
  go_enter Try.func7, Try.ntmps7
  go_wp2
  go_ret
  exact ⟨rfl, rfl⟩
theorem HW_new (n : Int) (w : World) (base : Nat) : HW (w.alloc (.cells #[.bool true, I (hcap n), .slice none 0 0, I 0] 44)) base w.heap.size none (hcap n) [] 0 :=
  ⟨_, Cel.new _ _ _, On.nil_ _ _ _, rfl, by simp, hcap_le n⟩

set_option maxHeartbeats 400000 in
theorem hOk (w : World) (base g cap : Nat) (D : Int) (r : Option Nat) (L : List Int) (h : HW w base g r cap L D) :
    Calls Try.prog 20 #[.pointer (some ⟨g, 0, none⟩)] w fun e w' => e = .returned (.bool true) ∧ w = w' := by
  obtain ⟨v, hc, ho, _⟩ := h
  have c0 := hc.cell 0
  simp at c0
  clear hc ho
  go_enter Try.func20, Try.ntmps20
  go_wp2
  go_ret
  exact ⟨rfl, rfl⟩
set_option maxHeartbeats 400000 in
theorem h_works_nil (w : World) : Calls Try.prog 20 #[.pointer none] w fun e w' => e = .returned (.bool false) ∧ w = w' := by
  go_enter Try.func20, Try.ntmps20
  go_wp2
  go_ret
  exact ⟨rfl, rfl⟩
set_option maxHeartbeats 400000 in
theorem h_works_zero (w : World) (g : Nat) (h : w.cell? ⟨g, 0, none⟩ = some (.bool false)) : Calls Try.prog 20 #[.pointer (some ⟨g, 0, none⟩)] w fun e w' => e = .returned (.bool false) ∧ w = w' := by
  go_enter Try.func20, Try.ntmps20
  go_wp2
  go_ret
  exact ⟨rfl, rfl⟩

set_option maxHeartbeats 400000 in
theorem hlen_any (w : World) (base g cap : Nat) (D : Int) (r : Option Nat) (L : List Int) (h : HW w base g r cap L D) :
    Calls Try.prog 19 #[.pointer (some ⟨g, 0, none⟩)] w fun e w' => e = .returned (I L.length) ∧ w = w' := by
  have hw := hOk w base g cap D r L h
  obtain ⟨v, hc, ho, _⟩ := h
  obtain ⟨A, c, rfl, _, _, _, _⟩ := ho.reads
  have c2 : w.cell? ⟨g, 2, none⟩ = some (.slice A L.length c) := hc.cell 2
  clear ho hc
  go_enter Try.func19, Try.ntmps19
  go_wp2_with (go_at_call 20; refine hw.mono ?_; rintro e w1 ⟨rfl, rfl⟩)
  go_ret
  exact ⟨rfl, rfl⟩
set_option maxHeartbeats 400000 in
theorem hdropped_any (w : World) (base g cap : Nat) (D : Int) (r : Option Nat) (L : List Int) (h : HW w base g r cap L D) :
    Calls Try.prog 17 #[.pointer (some ⟨g, 0, none⟩)] w fun e w' => e = .returned (I D) ∧ w = w' := by
  have hw := hOk w base g cap D r L h
  obtain ⟨v, hc, ho, _⟩ := h
  have c3 : w.cell? ⟨g, 3, none⟩ = some (I D) := hc.cell 3
  clear ho hc
  go_enter Try.func17, Try.ntmps17
  go_wp2_with (go_at_call 20; refine hw.mono ?_; rintro e w1 ⟨rfl, rfl⟩)
  go_ret
  exact ⟨rfl, rfl⟩
set_option maxHeartbeats 1000000 in
theorem hhas_any (x : Int) (w : World) (base g cap : Nat) (D : Int) (r : Option Nat) (L : List Int) (h : HW w base g r cap L D) :
    Calls Try.prog 10 #[.pointer (some ⟨g, 0, none⟩), I x] w fun e w' => e = .returned (.bool (decide (x ∈ L))) ∧ w = w' := by
  have hw := hOk w base g cap D r L h
  have hlen := h.len
  obtain ⟨v, hc, ho, _⟩ := h
  obtain ⟨A, c, rfl, hr, _, _, _⟩ := ho.reads
  have c2 : w.cell? ⟨g, 2, none⟩ = some (.slice A L.length c) := hc.cell 2
  have hcon := icontains_any x L w A c hr (by omega)
  clear ho hc hr
  go_enter Try.func10, Try.ntmps10
  go_wp2_with fail
  refine hw.mono ?_
  rintro e w1 ⟨rfl, rfl⟩
  go_wp2_with fail
  refine hcon.mono ?_
  rintro e w1 ⟨rfl, rfl⟩
  go_wp2_with fail
  go_ret
  exact ⟨rfl, rfl⟩
set_option maxHeartbeats 1000000 in
theorem hitems_any (w : World) (base g cap : Nat) (D : Int) (r : Option Nat) (L : List Int) (h : HW w base g r cap L D) :
    Calls Try.prog 16 #[.pointer (some ⟨g, 0, none⟩)] w fun e w' => ∃ v, e = .returned v ∧ On w' w.heap.size 3 v L ∧ Below w.heap.size w w' := by
  have hw := hOk w base g cap D r L h
  have hlen := h.len
  obtain ⟨v, hc, ho, _⟩ := h
  obtain ⟨A, c, rfl, hr, hn, _, _⟩ := ho.reads
  have c2 : w.cell? ⟨g, 2, none⟩ = some (.slice A L.length c) := hc.cell 2
  have hcon := iclone_any L w A c hr hn (by omega)
  clear ho hc hr
  go_enter Try.func16, Try.ntmps16
  go_wp2_with fail
  refine hw.mono ?_
  rintro e w1 ⟨rfl, rfl⟩
  go_wp2_with fail
  refine hcon.mono ?_
  rintro e w1 ⟨v, rfl, ho, hb⟩
  obtain ⟨A2, c2, rfl, _, _, _, _⟩ := ho.reads
  go_wp2_with fail
  go_ret
  exact ⟨_, rfl, ho, hb⟩
end Go.Proofs.Ytnkbilbaljdfgaa.His
