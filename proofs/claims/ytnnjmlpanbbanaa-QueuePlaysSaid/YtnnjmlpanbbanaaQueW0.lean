/-
  Package queue: what it is to be a Queue; New, works, Len; the closures; slices.IndexFunc at entries; find.
-/
import Derived.Test.YtnnjmlpanbbanaaBase
import Derived.Test.YtnnjmlpanbbanaaQueH
namespace Go.Proofs.Ytnnjmlpanbbanaa.Rng.Que
open Go.RowKit

theorem info_entry : (Try.prog.info? 61).map (fun i => (i.zero, i.size, i.bytes)) = some (some (.agg #[I 0, I 0]), 2, 16) := by kernel_rfl
theorem is_entries : IsRanges Try.prog 54 61 := by
  obtain ⟨i, h0, h1, h2, h3⟩ := info_parts info_entry
  exact ⟨Try.underlying54, i, h0, h1, h2, h3⟩

/-- block g is a Queue of New with capacity cap that holds the entries L, in block r -/
def QW (w : World) (base g : Nat) (r : Option Nat) (cap : Nat) (L : List R) : Prop :=
  ∃ v, Cel w g 56 #[.bool true, I cap, v] ∧ Os w base 61 v L ∧ v.ownBlock = r ∧ L.length ≤ cap ∧ cap ≤ 256

section
variable {w w' : World} {base g cap : Nat} {r : Option Nat} {L : List R} {S : List Nat}
theorem QW.lt (h : QW w base g r cap L) : g < w.heap.size := by
  obtain ⟨v, hc, _⟩ := h
  exact hc.lt
theorem QW.row (h : QW w base g r cap L) : ∀ i, r = some i → base ≤ i ∧ i < w.heap.size ∧ i ≠ g := by
  obtain ⟨v, hc, ho, rfl, _⟩ := h
  intro i hi
  have := ho.lt i hi
  exact ⟨this.1, this.2, fun e => own_apart ho hc (by decide) (by rw [hi, e])⟩
theorem QW.only (h : QW w base g r cap L) (k : Only S w w') (hg : g ∉ S) (hr : ∀ i, r = some i → i ∉ S) : QW w' base g r cap L := by
  obtain ⟨v, hc, ho, rfl, h1⟩ := h
  exact ⟨v, hc.only k hg, ho.only k hr, rfl, h1⟩
theorem QW.below (h : QW w base g r cap L) (k : Below w.heap.size w w') : QW w' base g r cap L := h.only (Only.of_below (S := []) k) (by simp) (by simp)
theorem QW.draws (h : QW w base g r cap L) (n : Nat) : QW (w.drewN n) base g r cap L := h
theorem QW.drew (h : QW w base g r cap L) : QW w.drew base g r cap L := h
theorem QW.len (h : QW w base g r cap L) : L.length ≤ cap ∧ cap ≤ 256 := by
  obtain ⟨v, hc, ho, _, h1⟩ := h
  exact h1
end

def capOf (n : Int) : Nat := (min (max n 0) 256).toNat
theorem capOf_le (n : Int) : capOf n ≤ 256 := by unfold capOf; omega

set_option maxHeartbeats 1000000 in
theorem qnew_any (n : Int) (w : World) :
    Calls Try.prog 9 #[I n] w fun e w' => e = .returned (.pointer (some ⟨w.heap.size, 0, none⟩)) ∧ w' = w.alloc (.cells #[.bool true, I (capOf n), .slice none 0 0] 56) := by
  obtain ⟨M, hM⟩ : ∃ M : Nat, M = (max n 0).toNat := ⟨_, rfl⟩
  have hm0 : max n 0 = (M : Int) := by omega
  have hm0' : (if n < 0 then (0 : Int) else n) = (M : Int) := by split <;> omega
  have hC : capOf n = min M 256 := by unfold capOf; omega
  obtain ⟨C, hCC⟩ : ∃ C, C = capOf n := ⟨_, rfl⟩
  rw [← hCC] at hC ⊢
  have hm1 : min (M : Int) 256 = (C : Int) := by omega
  have hm1' : (if (256 : Int) < (M : Int) then (256 : Int) else (M : Int)) = (C : Int) := by split <;> omega
  have hm1'' : (if 256 < M then (256 : Int) else (M : Int)) = (C : Int) := by split <;> omega
  clear hM hC hCC
  go_enter Try.func9, Try.ntmps9
  go_wp2
  go_ret
  exact ⟨rfl, rfl⟩
theorem QW_new (n : Int) (w : World) (base : Nat) : QW (w.alloc (.cells #[.bool true, I (capOf n), .slice none 0 0] 56)) base w.heap.size none (capOf n) [] :=
  ⟨_, Cel.new _ _ _, Os.nil_ _ _ _, rfl, by simp, capOf_le n⟩

set_option maxHeartbeats 400000 in
theorem qOk (w : World) (base g cap : Nat) (r : Option Nat) (L : List R) (h : QW w base g r cap L) :
    Calls Try.prog 24 #[.pointer (some ⟨g, 0, none⟩)] w fun e w' => e = .returned (.bool true) ∧ w = w' := by
  obtain ⟨v, hc, ho, _⟩ := h
  have c0 := hc.cell 0
  simp at c0
  clear hc ho
  go_enter Try.func24, Try.ntmps24
  go_wp2
  go_ret
  exact ⟨rfl, rfl⟩
set_option maxHeartbeats 400000 in
theorem q_works_nil (w : World) : Calls Try.prog 24 #[.pointer none] w fun e w' => e = .returned (.bool false) ∧ w = w' := by
  go_enter Try.func24, Try.ntmps24
  go_wp2
  go_ret
  exact ⟨rfl, rfl⟩
set_option maxHeartbeats 400000 in
theorem q_works_zero (w : World) (g : Nat) (h : w.cell? ⟨g, 0, none⟩ = some (.bool false)) : Calls Try.prog 24 #[.pointer (some ⟨g, 0, none⟩)] w fun e w' => e = .returned (.bool false) ∧ w = w' := by
  go_enter Try.func24, Try.ntmps24
  go_wp2
  go_ret
  exact ⟨rfl, rfl⟩

set_option maxHeartbeats 400000 in
theorem qlen_any (w : World) (base g cap : Nat) (r : Option Nat) (L : List R) (h : QW w base g r cap L) :
    Calls Try.prog 20 #[.pointer (some ⟨g, 0, none⟩)] w fun e w' => e = .returned (I L.length) ∧ w = w' := by
  have hw := qOk w base g cap r L h
  obtain ⟨v, hc, ho, _⟩ := h
  obtain ⟨A, c, rfl, _, _, _, _⟩ := ho.reads
  have c2 := hc.cell 2
  simp at c2
  clear ho hc
  go_enter Try.func20, Try.ntmps20
  go_wp2_with (go_at_call 24; refine hw.mono ?_; rintro e w1 ⟨rfl, rfl⟩)
  go_ret
  exact ⟨rfl, rfl⟩

/-! ### the closures -/
/-- what is asked of a predicate that may lay blocks of its own -/
def PB (g : Nat) (lb : Array Value) (p : R → Bool) (w : World) : Prop :=
  ∀ (W : World) (x : R), Below w.heap.size w W → Calls Try.prog g (#[.agg #[I x.1, I x.2]] ++ lb) W fun e w' => e = .returned (.bool (p x)) ∧ Below W.heap.size W w'

set_option maxHeartbeats 1000000 in
theorem find1_any (item : Int) (B : Nat) (w : World) (hB : w.cell? ⟨B, 0, none⟩ = some (I item)) (hl : B < w.heap.size) :
    PB 32 #[.pointer (some ⟨B, 0, none⟩)] (fun x => x.2 == item) w := fun W x hb => by
  have hc : W.cell? ⟨B, 0, none⟩ = some (I item) := (hb.cell (p := ⟨B, 0, none⟩) hl).trans hB
  have hBW : B < W.heap.size := Nat.lt_of_lt_of_le hl hb.size
  have hne : B ≠ W.heap.size := by omega
  obtain ⟨a, b⟩ := x
  show Calls Try.prog 32 #[.agg #[I a, I b], .pointer (some ⟨B, 0, none⟩)] W _
  go_enter Try.func32, Try.ntmps32
  go_wp2
  go_ret
  exact ⟨rfl, (Below.refl _ W).alloc (Nat.le_refl _) _⟩

set_option maxHeartbeats 1000000 in
theorem before_any (x y : R) (w : World) : Calls Try.prog 27 #[.agg #[I x.1, I x.2], .agg #[I y.1, I y.2]] w fun e w' => e = .returned (.bool (decide (x.1 < y.1))) ∧ Below w.heap.size w w' := by
  obtain ⟨a, b⟩ := x
  obtain ⟨c, d⟩ := y
  go_enter Try.func27, Try.ntmps27
  go_wp2
  go_ret
  exact ⟨rfl, ((Below.refl _ w).alloc (Nat.le_refl _) _).alloc (by simp) _⟩

set_option maxHeartbeats 1000000 in
theorem insert1_any (x : R) (Bf Bx : Nat) (w : World) (hf : w.cell? ⟨Bf, 0, none⟩ = some (.func (.func 27) #[] #[])) (hx0 : w.cell? ⟨Bx, 0, none⟩ = some (I x.1)) (hx1 : w.cell? ⟨Bx, 1, none⟩ = some (I x.2))
    (hlf : Bf < w.heap.size) (hlx : Bx < w.heap.size) :
    PB 33 #[.pointer (some ⟨Bf, 0, none⟩), .pointer (some ⟨Bx, 0, none⟩)] (fun y => decide (x.1 < y.1)) w := fun W y hb => by
  have hc : W.cell? ⟨Bf, 0, none⟩ = some (.func (.func 27) #[] #[]) := (hb.cell (p := ⟨Bf, 0, none⟩) hlf).trans hf
  have h0 : W.cell? ⟨Bx, 0, none⟩ = some (I x.1) := (hb.cell (p := ⟨Bx, 0, none⟩) hlx).trans hx0
  have h1 : W.cell? ⟨Bx, 1, none⟩ = some (I x.2) := (hb.cell (p := ⟨Bx, 1, none⟩) hlx).trans hx1
  have hBW : Bf < W.heap.size := Nat.lt_of_lt_of_le hlf hb.size
  have hBX : Bx < W.heap.size := Nat.lt_of_lt_of_le hlx hb.size
  have hne : Bf ≠ W.heap.size := by omega
  have hne2 : Bx ≠ W.heap.size := by omega
  have hcon := fun W' => before_any x y W'
  obtain ⟨a, b⟩ := x
  obtain ⟨c, d⟩ := y
  show Calls Try.prog 33 #[.agg #[I c, I d], .pointer (some ⟨Bf, 0, none⟩), .pointer (some ⟨Bx, 0, none⟩)] W _
  dsimp only at h0 h1 hcon ⊢
  go_enter Try.func33, Try.ntmps33
  go_wp2_with fail
  refine (hcon _).mono ?_
  rintro e w' ⟨rfl, hb'⟩
  go_wp2_with fail
  go_ret
  exact ⟨rfl, ((Below.refl _ W).alloc (Nat.le_refl _) _).trans (hb'.mono (by simp))⟩

end Go.Proofs.Ytnnjmlpanbbanaa.Rng.Que
