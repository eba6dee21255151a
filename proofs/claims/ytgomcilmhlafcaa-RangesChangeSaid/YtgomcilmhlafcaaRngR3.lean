/-
  The reference of layer 7: Add, Size, Head.
-/
import Derived.Test.YtgomcilmhlafcaaRngR1
import Derived.Test.YtgomcilmhlafcaaHand
namespace Go.Proofs.Ytgomcilmhlafcaa.Rng
open Go.RowKit

theorem foldl_tot {s : List R} {k S : Nat} {x : R} (h : s[k]? = some x) (hS : tot (s.take k) = S) : tot (s.take (k + 1)) = (S + len x) % 18446744073709551616 := by
  rw [← hS]; exact foldl_take' (fun (a : Nat) (x : R) => (a + len x) % 18446744073709551616) 0 h

set_option maxHeartbeats 1000000 in
theorem rsize_any (l : List R) (w : World) (A : Option Addr) (c : Nat) (h : Rs w w.heap.size A l) (hl : l.length ≤ 100000000000) :
    Calls Try.prog 22 #[.slice A l.length c] w fun e w' => e = .returned (I (siz l)) ∧ Below w.heap.size w w' := by
  have hcon := of_any l w A c h (by omega)
  have hnl := nrm_length l
  obtain ⟨s, hs⟩ : ∃ s, s = nrm l := ⟨_, rfl⟩
  obtain ⟨Z, hZ⟩ : ∃ Z, Z = siz l := ⟨_, rfl⟩
  rw [← hZ]
  unfold siz at hZ
  rw [← hs] at hcon hnl hZ
  have HZ := Lib.hid hZ
  clear hs hZ h
  go_enter Try.func22, Try.ntmps22
  go_wp2_with fail
  refine hcon.mono ?_
  rintro e w2 ⟨v, rfl, ho2, hb2⟩
  obtain ⟨A2, c2, rfl, hr2, _, _, _⟩ := ho2.reads
  have hsz2 := hb2.size
  clear hcon ho2
  go_wp2_with fail
  go_loopw [4, 5] (fun a i wr => ∃ k : Nat, k ≤ s.length ∧ i = .int .i64 k ∧ ∃ S : Nat, Hid (tot (s.take k) = S) ∧ a = .int .u64 S ∧ Below w2.heap.size w2 wr)
    (fun _ i _ => s.length - (intOf i).toNat)
  case atStart => exact ⟨0, Nat.zero_le _, rfl, 0, Lib.hid rfl, rfl, Below.refl _ _⟩
  case round =>
    obtain ⟨k, hk, rfl, S, hS, rfl, hbel⟩ := hrel
    by_cases hlt : k < s.length
    · obtain ⟨b, off, rfl, hbw, hc1, hc2⟩ := (hr2.below hbel).at_ hlt
      obtain ⟨⟨p, q⟩, hx⟩ : ∃ z, z = s[k] := ⟨_, rfl⟩
      have hfl1 := foldl_tot (List.getElem?_eq_getElem hlt) hS.out
      rw [← hx] at hc1 hc2 hfl1
      clear hx
      dsimp only at hc1 hc2
      have hlw := len_wrap p q
      obtain ⟨L, hL⟩ : ∃ L, L = len (p, q) := ⟨_, rfl⟩
      rw [← hL] at hfl1 hlw
      obtain ⟨S2, hS2⟩ : ∃ S2, S2 = (S + L) % 18446744073709551616 := ⟨_, rfl⟩
      have hw : IntKind.u64.wrap ((S : Int) + (L : Int)) = (S2 : Int) := by rw [IntKind.wrap_u64, hS2]; omega
      rw [← hS2] at hfl1
      have HF := Lib.hid hfl1
      clear hfl1 hS2 hL
      go_wp2_with fail
      go_quiet (fail)
      go_wp2_with fail
      go_roundw
      case rel => exact ⟨k + 1, hlt, by simp, S2, HF, rfl, bel_draws hbel _⟩
      case measure => simp [intOf]; omega
    · obtain rfl : k = s.length := by omega
      rw [List.take_length] at hS
      have hfin : Below w.heap.size w wr := hb2.trans (hbel.mono (by omega))
      have hZ2 : Z = min S 9223372036854775807 := by rw [HZ.out, hS.out]
      clear HZ hS
      by_cases hbig : (9223372036854775807 : Int) < (S : Int)
      · have hd : decide ((9223372036854775807 : Int) < (S : Int)) = true := by simpa using hbig
        have hd' : decide (9223372036854775807 < S) = true := by simp; omega
        have hZ3 : Z = 9223372036854775807 := by omega
        have HZ3 := Lib.hid hZ3
        clear hZ2 hZ3 hbig
        go_wp2_with fail
        go_ret
        exact ⟨by rw [HZ3.out]; rfl, hfin⟩
      · have hd : decide ((9223372036854775807 : Int) < (S : Int)) = false := by simpa using hbig
        have hd' : decide (9223372036854775807 < S) = false := by simp; omega
        have hZ3 : Z = S := by omega
        have hw : IntKind.i64.wrap (S : Int) = (S : Int) := by rw [IntKind.wrap_i64]; omega
        have HZ3 := Lib.hid hZ3
        clear hZ2 hZ3 hbig
        go_wp2_with fail
        go_ret
        exact ⟨by rw [HZ3.out]; rfl, hfin⟩
end Go.Proofs.Ytgomcilmhlafcaa.Rng
