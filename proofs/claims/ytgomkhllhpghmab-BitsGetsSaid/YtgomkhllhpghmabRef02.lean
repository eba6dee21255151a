/-
  The walks of the reference of chapter 2: its Writer and its Reader, which go bit by bit; two byte strings compared; the low bits of a number.
-/
import Derived.Test.YtgomkhllhpghmabBitsR1
namespace Go.Proofs.Ytgomkhllhpghmab
open Go.RowKit

def bit8 (b : Bool) : Byte := if b then 1#8 else 0#8

/-- block g is a reference Writer that holds the bits L; they lie in block r -/
def XAt (w : World) (base g : Nat) (r : Option Nat) (L : List Bool) : Prop :=
  ∃ v, Cel w g 29 #[v] ∧ Ow w base 5 v (L.map bit8) ∧ v.ownBlock = r
section
variable {w w' : World} {base g : Nat} {r : Option Nat} {L : List Bool} {S : List Nat}
theorem XAt.lt (h : XAt w base g r L) : g < w.heap.size := by
  obtain ⟨v, hc, _⟩ := h
  exact hc.lt
theorem XAt.row (h : XAt w base g r L) : ∀ i, r = some i → base ≤ i ∧ i < w.heap.size ∧ i ≠ g := by
  obtain ⟨v, hc, ho, rfl⟩ := h
  intro i hi
  have := ho.lt i hi
  exact ⟨this.1, this.2, fun e => ho.apart hc (by decide) (by rw [hi, e])⟩
theorem XAt.only (h : XAt w base g r L) (k : Only S w w') (hg : g ∉ S) (hr : ∀ i, r = some i → i ∉ S) : XAt w' base g r L := by
  obtain ⟨v, hc, ho, rfl⟩ := h
  exact ⟨v, hc.only k hg, ho.only k hr, rfl⟩
theorem XAt.draws (h : XAt w base g r L) (n : Nat) : XAt (w.drewN n) base g r L := h
end

/-- what the reference's Put leaves -/
def XPut (w : World) (base g : Nat) (r : Option Nat) (L : List Bool) (wr : World) : Prop :=
  ∃ r', XAt wr base g r' L ∧ (r' = r ∨ ∃ i, r' = some i ∧ w.heap.size ≤ i) ∧ Only (g :: r.toList) w wr

theorem bitsOf_one (n : Nat) : bitsOf n 1 = [n.testBit 0] := rfl
theorem bit8_nat (n : BitVec 64) (i : Nat) : ((n.toNat : Int) / 2 ^ i).tmod 2 % 256 = ((bit8 (n.toNat.testBit i)).toNat : Int) := by
  have t := Nat.toNat_testBit n.toNat i
  have e : (bit8 (n.toNat.testBit i)).toNat = (n.toNat.testBit i).toNat := by cases n.toNat.testBit i <;> rfl
  rw [e, t, div_nat, Int.tmod_eq_emod_of_nonneg (Int.natCast_nonneg _)]
  omega

theorem xput_step {w wr w2 : World} {base g i k N : Nat} {r : Option Nat} {L : List Bool} {v v2 : Value} {o : Obj} (hc : Cel wr g 29 #[v])
    (ho : Ow wr base 5 v ((L ++ bitsOf (N / 2 ^ (i + 1)) (k - (i + 1))).map bit8)) (hv : v.ownBlock = r ∨ ∃ i, v.ownBlock = some i ∧ w.heap.size ≤ i) (hO : Only (g :: r.toList) w wr)
    (ho2 : Ow w2 base 5 v2 ((L ++ bitsOf (N / 2 ^ (i + 1)) (k - (i + 1))).map bit8 ++ [bit8 (N.testBit i)])) (hg : (wr.alloc o).grownBy w2 v.ownBlock) (hv2 : v2.ownBlock = v.ownBlock ∨ v2.ownBlock = some (wr.alloc o).heap.size) (hik : i + 1 ≤ k) :
    XPut w base g r (L ++ bitsOf (N / 2 ^ i) (k - i)) (w2.setCell ⟨g, 0, none⟩ v2) := by
  have hne := ho.apart hc (by decide)
  have hcw := hc.grown hg hne
  have hne2 := ho2.apart hcw (by decide)
  have hb := bitsOf_add (N / 2 ^ i) (k - (i + 1)) 1
  rw [Nat.div_div_eq_div_mul, ← Nat.pow_add, show k - (i + 1) + 1 = k - i by omega, bitsOf_one, Nat.testBit_div_two_pow, Nat.zero_add] at hb
  refine ⟨v2.ownBlock, ⟨v2, ?_, ?_, rfl⟩, ?_, ?_⟩
  · have := hcw.put 0 v2
    unfold Cel
    simpa [Cel] using this
  · rw [hb, ← List.append_assoc, List.map_append]
    exact ownsRow_setCell_other ho2 (a := ⟨g, 0, none⟩) hne2 _
  · rcases hv2 with h | h
    · rw [h]; exact hv
    · exact .inr ⟨_, h, by have := hO.size; simp; omega⟩
  · refine ((hO.alloc o).trans (Only.of_grown hg) ?_).put (p := ⟨g, 0, none⟩) (.inl (by simp)) _
    intro x hx
    rcases hv with h | ⟨i, h, hi⟩
    · rw [h] at hx; exact .inl (List.mem_cons_of_mem _ hx)
    · rw [h] at hx; simp at hx; subst hx; exact .inr hi

set_option maxHeartbeats 1000000 in
theorem xput_bad (g : Nat) (n : BitVec 64) (k : Int) (w : World) (hk : k < 0 ∨ 64 < k) :
    Calls Try.prog 12 #[.pointer (some ⟨g, 0, none⟩), .int .u64 (n.toNat : Int), .int .i64 k] w fun e w' => e = .returned (.tuple #[]) ∧ w = w' := by
  by_cases h0 : k < 0
  · clear hk
    go_enter Try.func12, Try.ntmps12
    go_wp2
    refine bodyPost_ret (results_none rfl _ _ _) rfl ?_
    exact ⟨rfl, rfl⟩
  · have h1 : 64 < k := by omega
    clear hk
    go_enter Try.func12, Try.ntmps12
    go_wp2
    refine bodyPost_ret (results_none rfl _ _ _) rfl ?_
    exact ⟨rfl, rfl⟩

set_option maxHeartbeats 1000000 in
theorem xput_any (w : World) (base g : Nat) (r : Option Nat) (L : List Bool) (n : BitVec 64) (k : Nat) (h : XAt w base g r L) (hk : k ≤ 64) (hL : L.length < 1000000) (hbase : base ≤ w.heap.size) :
    Calls Try.prog 12 #[.pointer (some ⟨g, 0, none⟩), .int .u64 (n.toNat : Int), .int .i64 (k : Int)] w fun e w' => e = .returned (.tuple #[]) ∧ XPut w base g r (L ++ bitsOf n.toNat k) w' := by
  go_enter Try.func12, Try.ntmps12
  go_wp2
  go_loopg [6] k (fun j i wr => j ≤ k ∧ i = .int .i64 ((j : Int) - 1) ∧ XPut w base g r (L ++ bitsOf (n.toNat / 2 ^ j) (k - j)) wr)
  case atStart => exact ⟨Nat.le_refl _, rfl, r, by rw [Nat.sub_self]; simpa [bitsOf] using h, .inl rfl, Only.refl _ _⟩
  case round =>
    obtain ⟨hj, rfl, hP⟩ := hrel
    by_cases hj0 : gk = 0
    · subst hj0
      rw [show ((0 : Nat) : Int) - 1 = -1 from rfl]
      go_wp2
      go_end0
      exact ⟨rfl, by simpa using hP⟩
    · obtain ⟨i, rfl⟩ : ∃ i, gk = i + 1 := ⟨gk - 1, by omega⟩
      rw [show ((i + 1 : Nat) : Int) - 1 = (i : Int) by omega]
      obtain ⟨r', ⟨v, hc, ho, rfl⟩, hr', hO⟩ := hP
      obtain ⟨A, c, rfl, _⟩ := ho.reads_len (n := L.length + (k - (i + 1))) (by simp [bitsOf_len])
      have c0 := hc.cell 0
      have f0 := hc.free 0
      simp at c0
      have HB := Lib.hid (bit8_nat n i)
      have hwr : base ≤ wr.heap.size := Nat.le_trans hbase hO.size
      have hne := ho.apart hc (by decide)
      have hi64 : i < 64 := by omega
      go_wp2_with (first
        | (at_builtin; refine wpList_appAt _ is_bytes rfl (.tmp 23) (.tmp 30) rfl (v := Value.slice A (L.length + (k - (i + 1))) c) (m := (L ++ bitsOf (n.toNat / 2 ^ (i + 1)) (k - (i + 1))).map bit8) rfl (ho.alloc _) (l := [bit8 (n.toNat.testBit i)]) rfl (Bs_new1 _ _ _ _ HB.out) (by simp) (by simp [bitsOf_len]; omega) (by simp; omega) ?_; intro v2 w2 hown2 hgrow2 hat2; obtain ⟨A2, c2', rfl, _⟩ := hown2.reads_len (n := L.length + (k - (i + 1)) + 1) (by simp only [List.length_append, List.length_map, bitsOf_len, List.length_cons, List.length_nil]); have hcw := hc.grown hgrow2 hne; have e1 := hcw.cell 0; have e3 := hcw.free 0; simp at e1))
      go_roundg i
      case measure => omega
      case rel => exact ⟨by omega, by go_num, xput_step hc ho hr' hO hown2 hgrow2 hat2 (by omega)⟩
end Go.Proofs.Ytgomkhllhpghmab
