/-
  Package scramble's Apply.
-/
import Derived.Test.YtahpogmbkkpmdaaScrSq
namespace Go.Proofs.Ytahpogmbkkpmdaa.Scr
open Go.RowKit

theorem b8_xor (a b : Byte) : bits .xor .u8 (a.toNat : Int) (b.toNat : Int) = ((a ^^^ b).toNat : Int) := by
  rw [u8_xor_nat _ _ a.isLt b.isLt, BitVec.toNat_xor]

set_option maxRecDepth 100000 in
set_option maxHeartbeats 1000000 in
theorem apply_any (a : Option Addr) (l : List Byte) (n c : Nat) (w : World) (hl : Hid (l.length = n)) (hb : Bs w w.heap.size a l) (hm : n ≤ 1099511627776) :
    Calls Try.prog 18 #[.slice a n c] w fun e w' => ∃ v, e = .returned v ∧ Ow w' w.heap.size 5 v (app l) ∧ Below w.heap.size w w' := by
  have hs := sequence_any (n : Int) (by omega) w
  rw [Int.toNat_natCast] at hs
  go_enter Try.func18, Try.ntmps18
  go_wp2_with fail
  refine hs.mono ?_
  rintro e w2 ⟨v, rfl, o2, b2⟩
  obtain ⟨A, c2, rfl, _⟩ := o2.reads_len (seqb_len n)
  go_wp2
  go_loopw [11] (fun i wr => ∃ k : Nat, k ≤ n ∧ i = .int .i64 (k : Int) ∧ Ow wr w.heap.size 5 (.slice A n c2) (prt l k) ∧ Below w.heap.size w wr) (fun i _ => n - (intOf i).toNat)
  case atStart => exact ⟨0, Nat.zero_le _, rfl, by rw [prt_zero, hl.out]; exact o2, b2⟩
  case round =>
    obtain ⟨k, hk, rfl, o3, b3⟩ := hrel
    by_cases hkn : k < n
    · have hkl : k < l.length := by rw [hl.out]; exact hkn
      obtain ⟨b, off, rfl, hbB, hcb⟩ := (hb.below b3).at_ hkl
      obtain ⟨gr, c4, he, hg1, hg2, hg3, hg4, hcs, hfz⟩ := o3.form_len (m := n - 1) (by rw [prt_len, hl.out]; omega)
      injection he with h1 h2 h3
      subst h1
      have hcr := hcs k _ (prt_at hkl)
      have hfr := hfz k
      obtain ⟨X, hX⟩ : ∃ X, l[k] = X := ⟨_, rfl⟩
      obtain ⟨Y, hY⟩ : ∃ Y, sq k = Y := ⟨_, rfl⟩
      obtain ⟨Z, hZ⟩ : ∃ Z, X ^^^ Y = Z := ⟨_, rfl⟩
      have hxor : bits .xor .u8 (Y.toNat : Int) (X.toNat : Int) = (Z.toNat : Int) := by rw [b8_xor, ← hZ, BitVec.xor_comm]
      have hset := prt_set hkl
      rw [hX, hY, hZ] at hset
      rw [hX] at hcb
      rw [hY] at hcr
      have HS := Lib.hid hset
      clear hset hZ hX hY hcs hfz h2 h3 hs
      go_wp2
      go_roundw
      case rel =>
        refine ⟨k + 1, hkn, by go_num, ?_, b3.setCell hg1 _⟩
        rw [← HS.out]
        exact o3.set_ rfl Z
      case measure => simp [intOf]; omega
    · obtain rfl : k = n := by omega
      rw [show prt l k = app l by rw [← hl.out]; exact prt_all l] at o3
      go_wp2
      go_ret
      exact ⟨_, rfl, o3, b3⟩
end Go.Proofs.Ytahpogmbkkpmdaa.Scr
