/-
  The extended Hamming code of package ecc in plain mathematics: words are natural numbers, what is linear over 'exclusive or' is decided by its values at the powers of two. No dump is imported.
-/
import Derived.Laws.BitsAllLaws
import Derived.Lib.TrailingZeros
namespace Go.Proofs.YtbadglgekialdaaDoor.Ecc

/-! ### linear functions -/
def Lin (F : Nat → Nat) : Prop := ∀ a b, F (a ^^^ b) = F a ^^^ F b

theorem Lin.zero {F : Nat → Nat} (h : Lin F) : F 0 = 0 := by
  have := h 0 0
  simpa using this
theorem lin_id : Lin fun w => w := fun _ _ => rfl
theorem lin_const : Lin fun _ => 0 := fun _ _ => by simp
theorem Lin.comp {F G : Nat → Nat} (hF : Lin F) (hG : Lin G) : Lin fun w => F (G w) := fun a b => by
  show F (G (a ^^^ b)) = _
  rw [hG, hF]
theorem Lin.xor {F G : Nat → Nat} (hF : Lin F) (hG : Lin G) : Lin fun w => F w ^^^ G w := fun a b => by
  show F (a ^^^ b) ^^^ G (a ^^^ b) = _
  rw [hF, hG]
  simp only [Nat.xor_assoc]
  congr 1
  rw [← Nat.xor_assoc, Nat.xor_comm (F b), Nat.xor_assoc]
theorem lin_and (m : Nat) : Lin fun w => w &&& m := fun a b => by
  show (a ^^^ b) &&& m = _
  exact Nat.and_xor_distrib_right
theorem lin_shl (s : Nat) : Lin fun w => w <<< s := fun a b => by
  show (a ^^^ b) <<< s = _
  exact Nat.shiftLeft_xor_distrib
theorem lin_shr (s : Nat) : Lin fun w => w >>> s := fun a b => by
  show (a ^^^ b) >>> s = _
  exact Nat.shiftRight_xor_distrib
theorem lin_mod (n : Nat) : Lin fun w => w % 2 ^ n := fun a b => by
  show (a ^^^ b) % 2 ^ n = _
  exact Nat.xor_mod_two_pow

theorem top_split (w n : Nat) (h : w < 2 ^ (n + 1)) : w < 2 ^ n ∨ ∃ v, v < 2 ^ n ∧ w = 2 ^ n ^^^ v := by
  cases ht : w.testBit n with
  | false =>
    refine .inl (Nat.lt_pow_two_of_testBit _ fun i hi => ?_)
    by_cases e : i = n
    · rw [e, ht]
    · exact Nat.testBit_lt_two_pow (Nat.lt_of_lt_of_le h (Nat.pow_le_pow_right (by decide) (by omega)))
  | true =>
    refine .inr ⟨2 ^ n ^^^ w, Nat.lt_pow_two_of_testBit _ fun i hi => ?_, by rw [← Nat.xor_assoc, Nat.xor_self, Nat.zero_xor]⟩
    rw [Nat.testBit_xor, Nat.testBit_two_pow]
    by_cases e : n = i
    · rw [← e, ht]; simp
    · rw [Nat.testBit_lt_two_pow (Nat.lt_of_lt_of_le h (Nat.pow_le_pow_right (by decide) (by omega)))]; simp [e]

theorem lin_ext {F G : Nat → Nat} (hF : Lin F) (hG : Lin G) : ∀ n, (∀ i, i < n → F (2 ^ i) = G (2 ^ i)) → ∀ w, w < 2 ^ n → F w = G w
  | 0, _, w, hw => by
    have : w = 0 := by simpa using hw
    rw [this, hF.zero, hG.zero]
  | n + 1, h, w, hw => by
    rcases top_split w n hw with hl | ⟨v, hv, rfl⟩
    · exact lin_ext hF hG n (fun i hi => h i (by omega)) w hl
    · rw [hF, hG, h n (by omega), lin_ext hF hG n (fun i hi => h i (by omega)) v hv]

/-- the exclusive or of f i over the bits i below n at which w has ones -/
def xs (f : Nat → Nat) (w : Nat) : Nat → Nat
  | 0 => 0
  | n + 1 => if w.testBit n then xs f w n ^^^ f n else xs f w n
theorem lin_xs (f : Nat → Nat) : ∀ n, Lin fun w => xs f w n
  | 0 => lin_const
  | n + 1 => fun a b => by
    have ih := lin_xs f n a b
    simp only [] at ih
    show xs f (a ^^^ b) (n + 1) = xs f a (n + 1) ^^^ xs f b (n + 1)
    simp only [xs, ih, Nat.testBit_xor]
    have e (x y z : Nat) : (x ^^^ z) ^^^ (y ^^^ z) = x ^^^ y := by
      rw [Nat.xor_comm y z, ← Nat.xor_assoc, Nat.xor_assoc x z z, Nat.xor_self, Nat.xor_zero]
    cases a.testBit n <;> cases b.testBit n
    · rfl
    · simp only [Bool.false_bne, if_true, Bool.false_eq_true, if_false, Nat.xor_assoc]
    · simp only [Bool.bne_false, if_true, Bool.false_eq_true, if_false, Nat.xor_assoc]
      rw [Nat.xor_comm (f n)]
    · simp only [bne_self_eq_false, Bool.false_eq_true, if_false, if_true]
      rw [e]
theorem xs_lt (f : Nat → Nat) (m w : Nat) : ∀ n, (∀ i, i < n → f i < 2 ^ m) → xs f w n < 2 ^ m
  | 0, _ => Nat.two_pow_pos _
  | n + 1, h => by
    have ih := xs_lt f m w n (fun i hi => h i (by omega))
    unfold xs
    split
    · exact Nat.xor_lt_two_pow ih (h n (by omega))
    · exact ih

/-! ### counting ones -/
def pop (w : Nat) : Nat → Nat
  | 0 => 0
  | n + 1 => pop w n + (w.testBit n).toNat
theorem pop_par (w : Nat) : ∀ n, xs (fun _ => 1) w n = pop w n % 2
  | 0 => rfl
  | n + 1 => by
    unfold xs pop
    rw [pop_par w n]
    have e : ∀ x, x < 2 → x ^^^ 1 = (x + 1) % 2 := by decide
    cases w.testBit n
    · simp
    · simp only [if_true]
      rw [e _ (Nat.mod_lt _ (by decide))]
      simp
theorem pop_le (w : Nat) : ∀ n, pop w n ≤ n
  | 0 => Nat.le_refl _
  | n + 1 => by
    have := pop_le w n
    unfold pop
    cases w.testBit n <;> simp <;> omega
theorem pop_congr {a b : Nat} : ∀ n, (∀ i, i < n → a.testBit i = b.testBit i) → pop a n = pop b n
  | 0, _ => rfl
  | n + 1, h => by
    unfold pop
    rw [pop_congr n (fun i hi => h i (by omega)), h n (by omega)]
theorem xs_congr (f : Nat → Nat) {a b : Nat} : ∀ n, (∀ i, i < n → a.testBit i = b.testBit i) → xs f a n = xs f b n
  | 0, _ => rfl
  | n + 1, h => by
    unfold xs
    rw [xs_congr f n (fun i hi => h i (by omega)), h n (by omega)]
theorem pop_small {w m : Nat} (h : w < 2 ^ m) : ∀ n, pop w (m + n) = pop w m
  | 0 => rfl
  | n + 1 => by
    show pop w (m + n) + (w.testBit (m + n)).toNat = _
    rw [pop_small h n, Nat.testBit_lt_two_pow (Nat.lt_of_lt_of_le h (Nat.pow_le_pow_right (by decide) (by omega)))]
    rfl
theorem flip_bit (w i j : Nat) : (w ^^^ 2 ^ i).testBit j = (w.testBit j ^^ decide (i = j)) := by rw [Nat.testBit_xor, Nat.testBit_two_pow]
theorem pop_flip {w i : Nat} (h : w.testBit i = true) : ∀ n, i < n → pop (w ^^^ 2 ^ i) n + 1 = pop w n
  | 0, hi => by omega
  | n + 1, hi => by
    unfold pop
    rw [flip_bit]
    by_cases e : i = n
    · subst e
      have hc : ∀ j, j < i → (w ^^^ 2 ^ i).testBit j = w.testBit j := by
        intro j hj
        have hn : ¬ i = j := by omega
        rw [flip_bit]
        simp [hn]
      rw [h, pop_congr i hc]
      simp
    · have := pop_flip h n (by omega)
      simp [e]
      omega

/-! ### the lowest one -/
theorem low_one (n x : Nat) (h0 : x ≠ 0) (h : x < 2 ^ n) : x.testBit (Lib.ctz n x) = true ∧ x &&& (x - 1) = x ^^^ 2 ^ Lib.ctz n x ∧ Lib.ctz n x < n := by
  obtain ⟨m, hx, hl⟩ := Lib.ctzFrom_spec n x (by omega) h
  have e : Lib.ctz n x = Lib.ctzFrom n x := by unfold Lib.ctz; rw [if_neg h0]
  rw [e]
  obtain ⟨c, hc⟩ : ∃ c, c = Lib.ctzFrom n x := ⟨_, rfl⟩
  rw [← hc] at hx hl ⊢
  have hp : 0 < 2 ^ c := Nat.two_pow_pos _
  have hp2 : 2 ^ (c + 1) = 2 * 2 ^ c := by rw [Nat.pow_succ, Nat.mul_comm]
  have e1 : x = 2 ^ (c + 1) * m + 2 ^ c := by
    rw [hx, hp2, Nat.mul_add, Nat.mul_one, Nat.mul_assoc, Nat.mul_comm (2 ^ c) (2 * m), Nat.mul_assoc, Nat.mul_comm m]
  have e2 : x - 1 = 2 ^ (c + 1) * m + (2 ^ c - 1) := by omega
  have b1 (j : Nat) : x.testBit j = if j < c + 1 then (2 ^ c).testBit j else m.testBit (j - (c + 1)) := by
    conv => lhs; rw [e1]
    exact Nat.testBit_two_pow_mul_add m (by omega) j
  have b2 (j : Nat) : (x - 1).testBit j = if j < c + 1 then (2 ^ c - 1).testBit j else m.testBit (j - (c + 1)) := by
    conv => lhs; rw [e2]
    exact Nat.testBit_two_pow_mul_add m (by omega) j
  refine ⟨by rw [b1, if_pos (by omega), Nat.testBit_two_pow_self], ?_, hl⟩
  refine Nat.eq_of_testBit_eq fun j => ?_
  rw [Nat.testBit_and, flip_bit, b1, b2]
  by_cases hj : j < c + 1
  · rw [if_pos hj, if_pos hj, Nat.testBit_two_pow, Nat.testBit_two_pow_sub_one]
    by_cases hcj : c = j
    · simp [hcj]
    · simp [hcj]
  · rw [if_neg hj, if_neg hj]
    have hn : ¬ c = j := by omega
    simp [hn]

/-! ### sums that are exclusive ors -/
theorem add_two_pow {a n : Nat} (h : a < 2 ^ n) : a + 2 ^ n = a ^^^ 2 ^ n := by
  refine Nat.eq_of_testBit_eq fun j => ?_
  have e : a + 2 ^ n = 2 ^ n * 1 + a := by omega
  rw [e, Nat.testBit_two_pow_mul_add 1 h, flip_bit]
  by_cases hj : j < n
  · have hn : ¬ n = j := by omega
    rw [if_pos hj]; simp [hn]
  · rw [if_neg hj, Nat.testBit_lt_two_pow (Nat.lt_of_lt_of_le h (Nat.pow_le_pow_right (by decide) (by omega))), show (1 : Nat) = 2 ^ 0 from rfl, Nat.testBit_two_pow]
    by_cases e : n = j
    · simp [e]
    · have hn : ¬ 0 = j - n := by omega
      simp [e, hn]
/-- a one is added where there is none -/
theorem add_bit {a n : Nat} (h : a.testBit n = false) : a + 2 ^ n = a ^^^ 2 ^ n := by
  have hp : 0 < 2 ^ n := Nat.two_pow_pos _
  have hp2 : 2 ^ (n + 1) = 2 * 2 ^ n := by rw [Nat.pow_succ, Nat.mul_comm]
  obtain ⟨q, hq⟩ : ∃ q, q = a / 2 ^ (n + 1) := ⟨_, rfl⟩
  obtain ⟨r, hr⟩ : ∃ r, r = a % 2 ^ (n + 1) := ⟨_, rfl⟩
  have ha : a = 2 ^ (n + 1) * q + r := by rw [hq, hr, Nat.div_add_mod]
  have hrl : r < 2 ^ (n + 1) := by rw [hr]; exact Nat.mod_lt _ (Nat.two_pow_pos _)
  have hrn : r.testBit n = false := by rw [hr, Nat.testBit_mod_two_pow]; simp [h]
  have hr2 : r < 2 ^ n := by
    rcases top_split r n hrl with hl | ⟨v, hv, e⟩
    · exact hl
    · rw [e, Nat.testBit_xor, Nat.testBit_two_pow_self, Nat.testBit_lt_two_pow hv] at hrn
      simp at hrn
  refine Nat.eq_of_testBit_eq fun j => ?_
  have e : a + 2 ^ n = 2 ^ (n + 1) * q + (r + 2 ^ n) := by omega
  have e2 : a.testBit j = if j < n + 1 then r.testBit j else q.testBit (j - (n + 1)) := by
    conv => lhs; rw [ha]
    exact Nat.testBit_two_pow_mul_add q hrl j
  rw [flip_bit, e2, e, Nat.testBit_two_pow_mul_add q (by omega), add_two_pow hr2, flip_bit]
  by_cases hj : j < n + 1
  · rw [if_pos hj, if_pos hj]
  · rw [if_neg hj, if_neg hj]
    have hn : ¬ n = j := by omega
    simp [hn]
theorem or_bit {a n : Nat} (h : a.testBit n = false) : a ||| 2 ^ n = a ^^^ 2 ^ n := by
  refine Nat.eq_of_testBit_eq fun j => ?_
  rw [flip_bit, Nat.testBit_or, Nat.testBit_two_pow]
  by_cases e : n = j
  · subst e; rw [h]; simp
  · simp [e]
theorem or_apart {a b m m' : Nat} (ha : a &&& m = a) (hb : b &&& m' = b) (h : m &&& m' = 0) : a ||| b = a ^^^ b ∧ (a ^^^ b) &&& (m ||| m') = a ^^^ b := by
  have h1 (j : Nat) : (a.testBit j && m.testBit j) = a.testBit j := by rw [← Nat.testBit_and, ha]
  have h2 (j : Nat) : (b.testBit j && m'.testBit j) = b.testBit j := by rw [← Nat.testBit_and, hb]
  have h3 (j : Nat) : (m.testBit j && m'.testBit j) = false := by rw [← Nat.testBit_and, h, Nat.zero_testBit]
  constructor
  · refine Nat.eq_of_testBit_eq fun j => ?_
    rw [Nat.testBit_or, Nat.testBit_xor, ← h1, ← h2]
    have := h3 j
    revert this
    cases a.testBit j <;> cases b.testBit j <;> cases m.testBit j <;> cases m'.testBit j <;> simp
  · refine Nat.eq_of_testBit_eq fun j => ?_
    rw [Nat.testBit_and, Nat.testBit_xor, Nat.testBit_or, ← h1, ← h2]
    cases a.testBit j <;> cases b.testBit j <;> cases m.testBit j <;> cases m'.testBit j <;> simp
end Go.Proofs.YtbadglgekialdaaDoor.Ecc
