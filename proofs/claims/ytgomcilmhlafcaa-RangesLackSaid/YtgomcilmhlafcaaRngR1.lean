/-
  The reference of layer 7: Of, Add, Valid, Same.
-/
import Derived.Test.YtgomcilmhlafcaaRngR0
import Derived.Test.YtgomcilmhlafcaaRngW3
namespace Go.Proofs.Ytgomcilmhlafcaa.Rng
open Go.RowKit

theorem foldl_take' {α β : Type} (f : β → α → β) (b : β) {s : List α} {k : Nat} {x : α} (h : s[k]? = some x) : (s.take (k + 1)).foldl f b = f ((s.take k).foldl f b) x := by
  rw [List.take_add_one, h]; simp

set_option maxHeartbeats 2000000 in
theorem of_any (l : List R) (w : World) (A : Option Addr) (c : Nat) (h : Rs w w.heap.size A l) (hl : l.length ≤ 1000000000000) :
    Calls Try.prog 30 #[.slice A l.length c] w fun e w' => ∃ v, e = .returned v ∧ Os w' w.heap.size 24 v (nrm l) ∧ Below w.heap.size w w' := by
  obtain ⟨N, hN⟩ : ∃ N, N = nrm l := ⟨_, rfl⟩
  rw [← hN]
  have HN := Lib.hid hN
  clear hN
  go_enter Try.func30, Try.ntmps30
  go_wp2
  go_loopw [3, 4] (fun o i wr => ∃ k : Nat, k ≤ l.length ∧ i = .int .i64 k ∧ Os wr w.heap.size 24 o ((l.take k).foldl ins []) ∧ Below w.heap.size w wr)
    (fun _ i _ => l.length - (intOf i).toNat)
  case atStart => exact ⟨0, Nat.zero_le _, rfl, Os.nil_ _ _ _, Below.refl _ _⟩
  case round =>
    obtain ⟨k, hk, rfl, ho, hbel⟩ := hrel
    by_cases hlt : k < l.length
    · obtain ⟨b, off, rfl, hbw, hc1, hc2⟩ := (h.below hbel).at_ hlt
      obtain ⟨⟨p, q⟩, hx⟩ : ∃ z, z = l[k] := ⟨_, rfl⟩
      have hfl := Lib.hid (foldl_take' ins [] (List.getElem?_eq_getElem hlt))
      have hjl := inss_length (l.take k) []
      rw [List.length_take] at hjl
      rw [← hx] at hc1 hc2 hfl
      clear hx
      dsimp only at hc1 hc2
      have hsz := hbel.size
      go_wp2_with (go_at_call 29; refine (insert_any _ p q _ w.heap.size _ ho hsz (by simp at hjl; omega)).mono ?_; rintro e w3 ⟨v3, rfl, hm, hb3⟩)
      go_roundw
      case rel => exact ⟨k + 1, hlt, by simp, by rw [hfl.out]; exact hm, hbel.trans (hb3.mono hsz)⟩
      case measure => simp [intOf]; omega
    · obtain rfl : k = l.length := by omega
      rw [List.take_length] at ho
      go_wp2
      go_ret
      exact ⟨_, rfl, by rw [HN.out]; exact ho, hbel⟩

set_option maxHeartbeats 2000000 in
theorem rvalid_any (l : List R) (w : World) (A : Option Addr) (c : Nat) (h : Rs w w.heap.size A l) (hl : l.length ≤ 1000000000000) :
    Calls Try.prog 13 #[.slice A l.length c] w fun e w' => e = .returned (.bool (vld l)) ∧ Below w.heap.size w w' := by
  obtain ⟨V, hV⟩ : ∃ V, V = vld l := ⟨_, rfl⟩
  rw [← hV]
  have HV : Hid (V = vldA (prv l 0) (l.drop 0)) := hV
  clear hV
  go_enter Try.func13, Try.ntmps13
  go_wp2
  go_loopw [3] (fun i wr => ∃ k : Nat, k ≤ l.length ∧ i = .int .i64 k ∧ Hid (V = vldA (prv l k) (l.drop k)) ∧ Below w.heap.size w wr)
    (fun i _ => l.length - (intOf i).toNat)
  case atStart => exact ⟨0, Nat.zero_le _, rfl, HV, Below.refl _ _⟩
  case round =>
    obtain ⟨k, hk, rfl, hg, hbel⟩ := hrel
    by_cases hlt : k < l.length
    · obtain ⟨b, off, rfl, hbw, hc1, hc2⟩ := (h.below hbel).at_ hlt
      have hstep := hg.out.trans (vld_step hlt)
      obtain ⟨⟨p, q⟩, hx⟩ : ∃ z, z = l[k] := ⟨_, rfl⟩
      rw [← hx] at hc1 hc2 hstep
      dsimp only at hc1 hc2
      have hsz := hbel.size
      obtain ⟨E, hE⟩ : ∃ E, E = emp (p, q) := ⟨_, rfl⟩
      have hE' : decide (q ≤ p) = E := hE.symm
      rw [← hE] at hstep
      clear hE hx hg
      have HS := Lib.hid hstep
      clear hstep
      cases E with
      | true =>
        go_wp2_with fail
        go_quiet (fail)
        go_wp2
        go_ret
        exact ⟨by rw [HS.out]; simp, bel_draws hbel _⟩
      | false =>
        cases k with
        | zero =>
          have hz1 : wr.cell? ⟨b, off, none⟩ = some (I p) := by simpa using hc1
          have hz2 : wr.cell? ⟨b, off + 1, none⟩ = some (I q) := by simpa using hc2
          go_wp2_with fail
          go_quiet (fail)
          go_wp2
          go_roundw
          case rel => exact ⟨1, hlt, rfl, Lib.hid (by rw [HS.out]; simp [prv]), bel_draws hbel _⟩
          case measure => simp [intOf]; omega
        | succ j =>
          obtain ⟨b', off', hA', _, hp1, hp2⟩ := (h.below hbel).at_ (show j < l.length by omega)
          cases hA'
          obtain ⟨T, hT⟩ : ∃ T, T = decide (p ≤ l[j].2) := ⟨_, rfl⟩
          have hT' : decide (p ≤ l[j].2) = T := hT.symm
          have hT2 : decide (l[j].2 < p) = !T := by rw [hT, ← decide_not]; congr 1; exact propext (by omega)
          have HS2 : V = ((!T) && vldA (prv l (j + 2)) (l.drop (j + 2))) := by
            rw [HS.out, ← hT2]; simp [prv, List.getElem?_eq_getElem (show j < l.length by omega)]
          have HS3 := Lib.hid HS2
          have hk0 : decide ((0 : Int) < ((j : Int) + 1)) = true := by simp
          clear HS HS2 hT hT2
          go_wp2_with fail
          go_quiet (fail)
          cases T with
          | true =>
            go_wp2
            go_ret
            exact ⟨by rw [HS3.out]; rfl, bel_draws hbel _⟩
          | false =>
            go_wp2
            go_roundw
            case rel => exact ⟨j + 2, hlt, by simp; omega, Lib.hid (by rw [HS3.out]; rfl), bel_draws hbel _⟩
            case measure => simp [intOf]; omega
    · obtain rfl : k = l.length := by omega
      go_wp2
      go_ret
      exact ⟨by rw [hg.out, List.drop_length]; rfl, hbel⟩

def sam : List R → List R → Bool
  | [], [] => true
  | x :: a, y :: b => decide (x = y) && sam a b
  | _, _ => false
theorem sam_self : ∀ a : List R, sam a a = true
  | [] => rfl
  | x :: a => by simp [sam, sam_self a]

set_option maxHeartbeats 2000000 in
/-- two lists that are the same -/
theorem same_any (l : List R) (w : World) (A A2 : Option Addr) (c c2 : Nat) (h : Rs w w.heap.size A l) (h2 : Rs w w.heap.size A2 l) (hl : l.length ≤ 1000000000000) :
    Calls Try.prog 14 #[.slice A l.length c, .slice A2 l.length c2] w fun e w' => e = .returned (.bool true) ∧ Below w.heap.size w w' := by
  go_enter Try.func14, Try.ntmps14
  go_wp2
  go_loopw [5] (fun i wr => ∃ k : Nat, k ≤ l.length ∧ i = .int .i64 k ∧ Below w.heap.size w wr)
    (fun i _ => l.length - (intOf i).toNat)
  case atStart => exact ⟨0, Nat.zero_le _, rfl, Below.refl _ _⟩
  case round =>
    obtain ⟨k, hk, rfl, hbel⟩ := hrel
    by_cases hlt : k < l.length
    · obtain ⟨b, off, rfl, hbw, hc1, hc2⟩ := (h.below hbel).at_ hlt
      obtain ⟨b2, off2, rfl, hbw2, hc12, hc22⟩ := (h2.below hbel).at_ hlt
      obtain ⟨⟨p, q⟩, hx⟩ : ∃ z, z = l[k] := ⟨_, rfl⟩
      rw [← hx] at hc1 hc2 hc12 hc22
      clear hx
      dsimp only at hc1 hc2 hc12 hc22
      go_wp2_with fail
      go_quiet (fail)
      go_wp2
      go_roundw
      case rel => exact ⟨k + 1, hlt, by simp, bel_draws hbel _⟩
      case measure => simp [intOf]; omega
    · obtain rfl : k = l.length := by omega
      go_wp2
      go_ret
      exact ⟨rfl, hbel⟩
end Go.Proofs.Ytgomcilmhlafcaa.Rng
