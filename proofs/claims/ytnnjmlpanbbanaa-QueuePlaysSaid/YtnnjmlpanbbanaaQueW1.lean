/-
  Package queue: slices.IndexFunc at entries; find.
-/
import Derived.Shelf.Abstract
import Derived.Shelf.RegionOpen
import Derived.WalkKit
import Derived.Test.YtnnjmlpanbbanaaQueW0
namespace Go.Proofs.Ytnnjmlpanbbanaa.Rng.Que
open Go.RowKit Go.Shelf

/-! ### slices.IndexFunc -/
/-- what IndexFunc hands back -/
def Fnd (p : R → Bool) (l : List R) (r : Int) : Prop :=
  (r = -1 ∧ ∀ y ∈ l, p y = false) ∨ ∃ (A : List R) (x : R) (B : List R), l = A ++ x :: B ∧ r = A.length ∧ p x = true ∧ ∀ y ∈ A, p y = false

set_option maxHeartbeats 2000000 in
theorem indexFunc_any (p : R → Bool) (g : Nat) (lb : Array Value) (eg : ∀ args w, (callFunc g args).run Try.prog w = .ok (.enter g args) w) (l : List R) (w : World) (A : Option Addr) (c : Nat)
    (hr : Rs w w.heap.size A l) (hp : PB g lb p w) (hl : l.length ≤ 1000000) :
    Calls Try.prog 31 #[.slice A l.length c, .func (.func g) #[] lb] w fun e w' => ∃ r : Int, e = .returned (I r) ∧ Hid (Fnd p l r) ∧ Below w.heap.size w w' := by
  go_enter Try.func31, Try.ntmps31
  go_wp2
  go_loopw [5, 8] (fun _ i wr => ∃ k : Nat, k ≤ l.length ∧ i = .int .i64 k ∧ Below w.heap.size w wr ∧ Hid (∀ y ∈ l.take k, p y = false)) (fun _ i _ => l.length - (intOf i).toNat)
  case atStart => exact ⟨0, Nat.zero_le _, rfl, Below.refl _ _, Lib.hid (by simp)⟩
  case round =>
    obtain ⟨k, hk, rfl, hbel, hno⟩ := hrel
    have hsz := hbel.size
    by_cases hlt : k < l.length
    · obtain ⟨b, off, rfl, hbw, hc1, hc2⟩ := (hr.below hbel).at_ hlt
      have hcall := hp wr l[k] hbel
      have hsplit : Hid (l = l.take k ++ l[k] :: l.drop (k + 1)) := Lib.hid (by rw [← List.drop_eq_getElem_cons hlt, List.take_append_drop])
      have htk : Hid (l.take (k + 1) = l.take k ++ [l[k]]) := Lib.hid (by rw [List.take_add_one, List.getElem?_eq_getElem hlt]; rfl)
      clear hr hp
      generalize l[k] = y at hc1 hc2 hcall hsplit htk
      obtain ⟨a, b'⟩ := y
      dsimp only at hc1 hc2 hcall
      cases hq : p (a, b') with
      | true =>
        rw [hq] at hcall
        have HQ := Lib.hid hq
        clear hq
        go_wp2_with (go_at_fn g; refine hcall.mono ?_; rintro e w' ⟨rfl, hb'⟩)
        go_ret
        exact ⟨_, rfl, Lib.hid (.inr ⟨_, _, _, hsplit.out, by simp; omega, HQ.out, hno.out⟩), hbel.trans (hb'.mono hsz)⟩
      | false =>
        rw [hq] at hcall
        have HQ := Lib.hid hq
        clear hq
        go_wp2_with (go_at_fn g; refine hcall.mono ?_; rintro e w' ⟨rfl, hb'⟩)
        go_roundw
        case rel =>
          refine ⟨k + 1, hlt, by simp, hbel.trans (hb'.mono hsz), Lib.hid ?_⟩
          intro y hy
          rw [htk.out] at hy
          rcases List.mem_append.1 hy with hy | hy
          · exact hno.out y hy
          · rw [List.mem_singleton.1 hy]; exact HQ.out
        case measure => simp [intOf]; omega
    · obtain rfl : k = l.length := by omega
      go_wp2
      go_ret
      exact ⟨_, rfl, Lib.hid (.inl ⟨rfl, by have := hno.out; rwa [List.take_length] at this⟩), hbel⟩

set_option maxHeartbeats 1000000 in
theorem qfind_any (w : World) (base g cap : Nat) (r : Option Nat) (L : List R) (item : Int) (h : QW w base g r cap L) :
    Calls Try.prog 25 #[.pointer (some ⟨g, 0, none⟩), I item] w fun e w' => ∃ r : Int, e = .returned (I r) ∧ Hid (Fnd (fun x => x.2 == item) L r) ∧ Below w.heap.size w w' := by
  have hlen := h.len
  have hglt := h.lt
  obtain ⟨v, hc, ho, _, _⟩ := h
  obtain ⟨A, c, rfl, hr, _, _, _⟩ := ho.reads
  have c2 := hc.cell 2
  simp at c2
  have hne : g ≠ w.heap.size := by omega
  have eg : ∀ args w, (callFunc 32 args).run Try.prog w = .ok (.enter 32 args) w := enters_of Try.func32 (by kernel_rfl) rfl
  have bx : Below w.heap.size w (w.alloc (.cells #[I item] 3)) := (Below.refl _ w).alloc (Nat.le_refl _) _
  have hcon := indexFunc_any (fun x => x.2 == item) 32 #[.pointer (some ⟨w.heap.size, 0, none⟩)] eg L (w.alloc (.cells #[I item] 3)) A c ((hr.below bx).more (by simp))
    (find1_any item w.heap.size _ (by simp) (by simp)) (by omega)
  clear ho hc hr eg
  go_enter Try.func25, Try.ntmps25
  go_wp2_with fail
  refine hcon.mono ?_
  rintro e w' ⟨q, rfl, hf, hb'⟩
  go_wp2_with fail
  go_ret
  exact ⟨q, rfl, hf, bx.trans (hb'.mono (by simp))⟩
end Go.Proofs.Ytnnjmlpanbbanaa.Rng.Que
