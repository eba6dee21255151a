/-
  The laws of layer 20: wrap.
-/
import Derived.Test.YtcmonalnhdodmaaLaw20a
import Derived.Test.YtcmonalnhdodmaaUnpBack
namespace Go.Proofs.Ytcmonalnhdodmaa.Unp
open Go.RowKit
open Pac (bel_new siE tot b8 Pk hdr hd1 hd2 siE_good rd rd_head)

/-- the packet of application process ap with the data l -/
def wpk (ap : Nat) (l : List Byte) : Pk := ⟨false, false, (ap : Int), 3, 0, l⟩
def wrp (ap : Nat) (l : List Byte) : List Byte := (wpk ap l).head ++ l
section
variable {ap : Nat} {l : List Byte}
theorem wpk_fits (ha : ap ≤ 2047) (h1 : 1 ≤ l.length) (h2 : l.length ≤ 60) : (wpk ap l).Fits := by
  unfold Pk.Fits wpk
  simp only
  omega
theorem wrp_len : (wrp ap l).length = 6 + l.length := by
  unfold wrp
  rw [List.length_append]
  rfl
theorem wrp_wp (ha : ap ≤ 2047) (h1 : 1 ≤ l.length) (h2 : l.length ≤ 60) : Wp (wrp ap l) := by
  obtain ⟨_, q2, q3⟩ := rd_head (wpk_fits ha h1 h2) []
  rw [List.append_nil] at q2 q3
  have e : (wpk ap l).head ++ (wpk ap l).d = wrp ap l := rfl
  rw [e] at q2 q3
  have q2 : tot (wrp ap l) = 6 + l.length := q2
  have hl := wrp_len (ap := ap) (l := l)
  exact ⟨(siE_good (by omega) (by omega) (by omega)).1, by omega⟩
theorem wrp_ni (ha : ap ≤ 2047) (h1 : 1 ≤ l.length) (h2 : l.length ≤ 60) : ni (wrp ap l) = !decide (ap = 2047) := by
  obtain ⟨q1, _, _⟩ := rd_head (wpk_fits ha h1 h2) []
  rw [List.append_nil] at q1
  have e : (wpk ap l).head ++ (wpk ap l).d = wrp ap l := rfl
  rw [e] at q1
  have q := congrArg Pk.ap q1
  have q : (((256 * b8 (wrp ap l) 0 + b8 (wrp ap l) 1) % 2048 : Nat) : Int) = (ap : Int) := q
  unfold ni idl
  rw [show (256 * b8 (wrp ap l) 0 + b8 (wrp ap l) 1) % 2048 = ap by omega]
end

theorem b8_of {n : Nat} (h : n < 256) : B8 (BitVec.ofNat 8 n) = .int .u8 (n : Int) := by
  show Value.int .u8 (((BitVec.ofNat 8 n).toNat : Nat) : Int) = _
  rw [BitVec.toNat_ofNat, Nat.mod_eq_of_lt (by omega)]

set_option maxRecDepth 100000 in
set_option maxHeartbeats 2000000 in
theorem lwrap_any (ap : Nat) (a : Option Addr) (l : List Byte) (n c : Nat) (w : World) (h : Rd w a l n c) (ha : ap ≤ 2047) (h1 : 1 ≤ n) (h2 : n ≤ 60) :
    Calls Try.prog 15 #[.int .i64 (ap : Int), .slice a n c] w fun e w' => ∃ v, e = .returned v ∧ Ow w' w.heap.size 5 v (wrp ap l) ∧ Below w.heap.size w w' := by
  have hln := h.len
  obtain ⟨K, hK⟩ : ∃ K, n - 1 = K := ⟨_, rfl⟩
  obtain ⟨A1, hA1⟩ : ∃ A1, ap / 256 = A1 := ⟨_, rfl⟩
  obtain ⟨A2, hA2⟩ : ∃ A2, ap % 256 = A2 := ⟨_, rfl⟩
  have hH : (wpk ap l).head = [BitVec.ofNat 8 A1, BitVec.ofNat 8 A2, BitVec.ofNat 8 192, BitVec.ofNat 8 0, BitVec.ofNat 8 0, BitVec.ofNat 8 K] := by
    unfold Pk.head hdr hd1 hd2 wpk
    simp only [Int.toNat_natCast, hln, Bool.false_eq_true, if_false, Nat.zero_add, hA1, hA2, hK]
    rw [show K / 256 = 0 by omega, show K % 256 = K by omega]
    rfl
  have e1 : (n : Int) - 1 = (K : Int) := by omega
  have e2 : (ap : Int).tdiv 256 = (A1 : Int) := by rw [Int.tdiv_eq_ediv_of_nonneg (by omega)]; omega
  have e3 : (ap : Int).tmod 256 = (A2 : Int) := by rw [Int.tmod_eq_emod_of_nonneg (by omega)]; omega
  have e4 : (K : Int).tdiv 256 = 0 := by rw [Int.tdiv_eq_ediv_of_nonneg (by omega)]; omega
  have e5 : (K : Int).tmod 256 = (K : Int) := by rw [Int.tmod_eq_emod_of_nonneg (by omega)]; omega
  have e2' : (ap : Int) / 256 = (A1 : Int) := by omega
  have e3' : (ap : Int) % 256 = (A2 : Int) := by omega
  have e4' : (K : Int) / 256 = 0 := by omega
  have e5' : (K : Int) % 256 = (K : Int) := by omega
  have hA1b : A1 ≤ 7 := by omega
  have hA2b : A2 ≤ 255 := by omega
  have hKb : K ≤ 59 := by omega
  have hH0 : (wpk ap l).head.length = 6 := by rw [hH]; rfl
  obtain ⟨W1, hW1⟩ : ∃ W1, W1 = w.alloc (.cells #[.int .u8 (A1 : Int), .int .u8 (A2 : Int), .int .u8 192, .int .u8 0, .int .u8 0, .int .u8 (K : Int)] 5) := ⟨_, rfl⟩
  have b1 : Below w.heap.size w W1 := by rw [hW1]; exact bel_new _ _
  have o1 : Ow W1 w.heap.size 5 (.slice (some ⟨w.heap.size, 0, none⟩) 6 6) (wpk ap l).head := by
    rw [hW1]
    exact Ow_new w _ _ _ 6 _ hH0 (by rw [hH]; simp only [List.map_cons, List.map_nil, b8_of (show A1 < 256 by omega), b8_of (show A2 < 256 by omega), b8_of (show K < 256 by omega)]; rfl) (Nat.le_refl _) (by decide) _ rfl
  have HH := Lib.hid (And.intro h hH0)
  clear h hln hK hA1 hA2 hH hH0
  go_enter Try.func15, Try.ntmps15
  go_wp2_with (first
    | (at_builtin; rw [← hW1]; refine wpList_appN _ is_bytes rfl (.tmp 21) (.tmp 22) rfl (m := (wpk ap l).head) rfl o1 HH.out.1.len rfl (HH.out.1.bs.below b1) HH.out.1.nil (by rw [HH.out.2]; omega) b1.size ?_; intro v2 w2 ho2 hg2 hv2; have b2 := b1.grown hg2 b1.size o1.base_le))
  go_ret
  exact ⟨_, rfl, ho2, b2⟩
end Go.Proofs.Ytcmonalnhdodmaa.Unp
