/-
  Plain mathematics: a string that bears its checksum leaves the register 0; errors within 16 consecutive bits leave it other than 0.
-/
import Derived.Test.YtdjopkfibfgjeaaCrcMath
namespace Go.Proofs.Ytdjopkfibfgjeaa

theorem sh16_zero (a : BitVec 16) (h : sh16 a = 0#16) : a = 0#16 := by
  unfold sh16 at h
  split at h
  · have e : ((a <<< 1) ^^^ 0x1021#16).getLsbD 0 = (0#16).getLsbD 0 := by rw [h]
    simp at e
  · rename_i h15
    have e : (a <<< 1).toNat = 0 := by rw [h]; rfl
    rw [BitVec.toNat_shiftLeft, Nat.shiftLeft_eq] at e
    have hm : a.msb = false := by
      rw [BitVec.msb_eq_getLsbD_last]; simpa using h15
    have hl := (BitVec.msb_eq_false_iff_two_mul_lt).1 hm
    exact BitVec.eq_of_toNat_eq (by simp; omega)

theorem iter16_zero (n : Nat) (a : BitVec 16) (h : iter sh16 n a = 0#16) : a = 0#16 := by
  induction n with
  | zero => exact h
  | succ n ih => exact ih (sh16_zero _ h)
theorem iter16_of_zero (n : Nat) : iter sh16 n 0#16 = 0#16 := by
  induction n with
  | zero => rfl
  | succ n ih => simp only [iter, ih]; rfl

theorem xor_eq_zero {n : Nat} {a b : BitVec n} (h : a ^^^ b = 0#n) : a = b := by
  have : a ^^^ b ^^^ b = 0#n ^^^ b := by rw [h]
  simpa [BitVec.xor_assoc] using this

/-! ### the register behind a string and its checksum -/
theorem low_shift : ∀ y : Byte, iter sh16 8 (y.setWidth 16) = y.setWidth 16 <<< 8 := by decide +kernel
theorem up16_two (r : BitVec 16) (x y : Byte) : up16 r [x, y] = iter sh16 16 (r ^^^ (x.setWidth 16 <<< 8) ^^^ y.setWidth 16) := by
  show by16 (by16 r x) y = _
  unfold by16
  rw [← low_shift y, ← iter16_xor, ← iter_add]

theorem crcb_join (r : BitVec 16) : ((r >>> 8).setWidth 8 : Byte).setWidth 16 <<< 8 ^^^ (r.setWidth 8 : Byte).setWidth 16 = r := by
  ext i hi
  simp
  by_cases h : i < 8
  · simp [h, BitVec.getLsbD_eq_getElem hi]
  · simp [h]
    have : 8 + (i - 8) = i := by omega
    simp [this]
    rw [decide_eq_true (by omega), Bool.true_and, BitVec.getLsbD_eq_getElem hi]
theorem up16_crcb (r : BitVec 16) : up16 r (crcb r) = 0#16 := by
  unfold crcb
  rw [up16_two, BitVec.xor_assoc, crcb_join, BitVec.xor_self, iter16_of_zero]
theorem crcb_of_zero (r : BitVec 16) (x y : Byte) (h : up16 r [x, y] = 0#16) : crcb r = [x, y] := by
  rw [up16_two, BitVec.xor_assoc] at h
  have e := xor_eq_zero (iter16_zero _ _ h)
  unfold crcb
  have e1 : (r >>> 8).setWidth 8 = x := by
    rw [e]; ext i hi; simp; rw [decide_eq_true (by omega), decide_eq_false (by omega), decide_eq_true (by omega)]; simp [BitVec.getLsbD_eq_getElem hi]
  have e2 : r.setWidth 8 = y := by
    rw [e]; ext i hi; simp
  rw [e1, e2]

theorem up16_ap (l : List Byte) : up16 0xffff#16 (ap16 l) = 0#16 := by
  unfold ap16; rw [up16_append, up16_crcb]

theorem zero_of_ck (l : List Byte) (h : ck16 l = true) : up16 0xffff#16 l = 0#16 := by
  unfold ck16 at h
  obtain ⟨_, h2⟩ := of_decide_eq_true h
  rw [← h2, up16_ap]


theorem ck_of_zero (l : List Byte) (h2 : 2 ≤ l.length) (h : up16 0xffff#16 l = 0#16) : ck16 l = true := by
  unfold ck16
  rw [decide_eq_true_iff]
  refine ⟨h2, ?_⟩
  obtain ⟨m, x, y, hs⟩ : ∃ m x y, l = m ++ [x, y] := by
    refine ⟨l.take (l.length - 2), l[l.length - 2], l[l.length - 1], ?_⟩
    have h1 := List.take_append_drop (l.length - 2) l
    have e : l.drop (l.length - 2) = [l[l.length - 2], l[l.length - 1]] := by
      rw [List.drop_eq_getElem_cons (by omega), List.drop_eq_getElem_cons (by omega), List.drop_of_length_le (by omega)]
      congr 2
      congr 1
      omega
    rw [e] at h1
    exact h1.symm
  subst hs
  rw [up16_append] at h
  rw [List.length_append, show m.length + [x, y].length - 2 = m.length by simp, List.take_left]
  unfold ap16
  rw [crcb_of_zero _ _ _ h]

/-! ### a register that is fed bits -/
def run (g : Nat → Bool) (r : BitVec 16) : Nat → BitVec 16
  | 0 => r
  | k + 1 => fd16 (run g r k) (g k)

theorem fd16_zero_false : fd16 0#16 false = 0#16 := by decide
theorem fd16_false (r : BitVec 16) : fd16 r false = sh16 r := by rw [fd16_eq]; simp

theorem run_still (g : Nat → Bool) (k : Nat) (h : ∀ t, t < k → g t = false) : run g 0#16 k = 0#16 := by
  induction k with
  | zero => rfl
  | succ k ih => simp only [run]; rw [ih (fun t ht => h t (by omega)), h k (by omega), fd16_zero_false]
theorem run_add (g : Nat → Bool) (r : BitVec 16) (i j : Nat) : run g r (i + j) = run (fun t => g (i + t)) (run g r i) j := by
  induction j with
  | zero => rfl
  | succ j ih => show fd16 (run g r (i + j)) (g (i + j)) = _; rw [ih]; rfl
theorem run_quiet (g : Nat → Bool) (r : BitVec 16) (k : Nat) (h : ∀ t, t < k → g t = false) : run g r k = iter sh16 k r := by
  induction k with
  | zero => rfl
  | succ k ih => simp only [run, iter]; rw [ih (fun t ht => h t (by omega)), h k (by omega), fd16_false]

/-- the first j bits, packed from the top -/
def pack (g : Nat → Bool) : Nat → BitVec 16
  | 0 => 0#16
  | j + 1 => pack g j ^^^ (if g j then 0x8000#16 >>> j else 0#16)

theorem top_down : ∀ j : Fin 16, iter sh16 j.val (0x8000#16 >>> j.val) = 0x8000#16 := by decide +kernel
theorem run_pack (g : Nat → Bool) (j : Nat) (hj : j ≤ 16) : run g 0#16 j = iter sh16 j (pack g j) := by
  induction j with
  | zero => rfl
  | succ j ih =>
    simp only [run, pack, iter]
    rw [ih (by omega), fd16_eq, iter16_xor]
    congr 2
    cases g j
    · simp [iter16_of_zero]
    · exact (top_down ⟨j, by omega⟩).symm
theorem bit_down : ∀ j t : Fin 16, (0x8000#16 >>> j.val).getLsbD (15 - t.val) = decide (j = t) := by decide +kernel
theorem pack_bit (g : Nat → Bool) (j : Nat) (hj : j ≤ 16) (t : Nat) (ht : t < 16) : (pack g j).getLsbD (15 - t) = (decide (t < j) && g t) := by
  induction j with
  | zero => simp [pack]
  | succ j ih =>
    simp only [pack]
    rw [BitVec.getLsbD_xor, ih (by omega)]
    have hb := bit_down ⟨j, by omega⟩ ⟨t, ht⟩
    by_cases h : j = t
    · subst h
      cases hg : g j <;> simp at hb <;> simp [hb]
    · have h' : ¬ (⟨j, by omega⟩ : Fin 16) = ⟨t, ht⟩ := fun e => h (by simpa using e)
      rw [decide_eq_false h'] at hb
      have e1 : decide (t < j + 1) = decide (t < j) := by rw [decide_eq_decide]; omega
      rw [e1]
      cases g j <;> simp [hb]
theorem pack_zero (g : Nat → Bool) (j : Nat) (hj : j ≤ 16) (h : pack g j = 0#16) (t : Nat) (ht : t < j) : g t = false := by
  have := pack_bit g j hj t (by omega)
  rw [h] at this
  simpa [ht] using this.symm

/-- bits that lie within 16 places and leave no trace are none -/
theorem burst (g : Nat → Bool) (i n : Nat) (h1 : ∀ k, k < i → g k = false) (h2 : ∀ k, i + 16 ≤ k → g k = false) (h : run g 0#16 n = 0#16) (k : Nat) (hk : k < n) : g k = false := by
  by_cases hki : k < i
  · exact h1 k hki
  by_cases hk2 : i + 16 ≤ k
  · exact h2 k hk2
  have hi : run g 0#16 i = 0#16 := run_still g i h1
  by_cases hn : n ≤ i + 16
  · obtain ⟨j, rfl⟩ : ∃ j, n = i + j := ⟨n - i, by omega⟩
    rw [run_add, hi, run_pack _ j (by omega)] at h
    have := pack_zero _ j (by omega) (iter16_zero _ _ h) (k - i) (by omega)
    rwa [show i + (k - i) = k by omega] at this
  · obtain ⟨m, rfl⟩ : ∃ m, n = i + 16 + m := ⟨n - (i + 16), by omega⟩
    rw [run_add, run_quiet _ _ m (fun t _ => h2 _ (by omega)), run_add, hi, run_pack _ 16 (by omega)] at h
    have := pack_zero _ 16 (by omega) (iter16_zero _ _ (iter16_zero _ _ h)) (k - i) (by omega)
    rwa [show i + (k - i) = k by omega] at this

/-! ### byte strings -/
def bitC (l : List Byte) (k : Nat) : Bool := (l[k / 8]?.getD 0#8).getLsbD (7 - k % 8)

theorem fbs16_run (r : BitVec 16) (l : List Byte) (k : Nat) : fbs16 r l k = run (bitC l) r k := by
  induction k with
  | zero => rfl
  | succ k ih => simp only [fbs16, run]; rw [ih]; rfl
theorem up16_run (r : BitVec 16) (l : List Byte) : up16 r l = run (bitC l) r (8 * l.length) := by
  rw [← fbs16_run, fbs16_all r l _ (Nat.le_refl _), List.take_length]

theorem bitC_xors (l m : List Byte) (h : l.length = m.length) (k : Nat) : bitC (xors l m) k = (bitC l k != bitC m k) := by
  unfold bitC xors
  rw [List.getElem?_zipWith]
  by_cases hk : k / 8 < l.length
  · rw [List.getElem?_eq_getElem hk, List.getElem?_eq_getElem (by omega)]
    simp
  · rw [List.getElem?_eq_none (by omega), List.getElem?_eq_none (by omega)]
    simp
theorem bitC_out (l : List Byte) (k : Nat) (h : 8 * l.length ≤ k) : bitC l k = false := by
  unfold bitC
  rw [List.getElem?_eq_none (by omega)]
  simp
theorem bitC_ext (l m : List Byte) (h : l.length = m.length) (hb : ∀ k, k < 8 * l.length → bitC l k = bitC m k) : l = m := by
  refine List.ext_getElem h (fun q h1 h2 => ?_)
  ext t ht
  have := hb (8 * q + (7 - t)) (by omega)
  unfold bitC at this
  rw [show (8 * q + (7 - t)) / 8 = q by omega, show 7 - (8 * q + (7 - t)) % 8 = t by omega, List.getElem?_eq_getElem h1, List.getElem?_eq_getElem h2] at this
  simpa [BitVec.getLsbD_eq_getElem ht] using this

/-- x is s but for bits among the 16 from i on -/
def Near (s x : List Byte) (i k : Nat) : Prop := x.length = s.length ∧ ∀ p, p < i ∨ i + k ≤ p → bitC x p = bitC s p

theorem near_ck (l x : List Byte) (i : Nat) (h : Near (ap16 l) x i 16) (hc : ck16 x = true) : x = ap16 l := by
  obtain ⟨hl, hb⟩ := h
  have z1 := zero_of_ck x hc
  have z2 := up16_ap l
  have z3 := up16_xor x (ap16 l) hl 0xffff#16 0xffff#16
  rw [z1, z2, BitVec.xor_self, BitVec.xor_self, up16_run] at z3
  have hlen : (xors x (ap16 l)).length = x.length := by simp [xors, hl]
  refine bitC_ext x (ap16 l) hl (fun k hk => ?_)
  have hz := burst (bitC (xors x (ap16 l))) i (8 * (xors x (ap16 l)).length)
    (fun k hk => by rw [bitC_xors _ _ hl, hb k (.inl hk)]; simp) (fun k hk => by rw [bitC_xors _ _ hl, hb k (.inr hk)]; simp) z3 k (by omega)
  rw [bitC_xors _ _ hl] at hz
  simpa using hz

end Go.Proofs.Ytdjopkfibfgjeaa
