/-
  Plain mathematics of package octets, no Go in sight: the bytes of a number; integers in groups of seven bits, written and read; what a reader's four methods take.
-/
import Derived.Test.YtaaikmncdgfkmaaBytes
import Derived.Laws.Shifts
namespace Go.Proofs.Ytaaikmncdgfkmaa

/-! ### the bytes of a number, the most significant one first -/
def be (n : Nat) : Nat → List Byte
  | 0 => []
  | k + 1 => BitVec.ofNat 8 (n / 256 ^ k) :: be n k
theorem be_len (n k : Nat) : (be n k).length = k := by
  induction k with
  | zero => rfl
  | succ k ih => simp [be, ih]
def beV (b : List Byte) : Nat := b.foldl (fun n x => n * 256 + x.toNat) 0
theorem beV_snoc (b : List Byte) (x : Byte) : beV (b ++ [x]) = beV b * 256 + x.toNat := by simp [beV]
theorem beV_lt (b : List Byte) : beV b < 256 ^ b.length := by
  have : ∀ (c : List Byte) (n k : Nat), n < 256 ^ k → c.foldl (fun n x => n * 256 + x.toNat) n < 256 ^ (k + c.length) := by
    intro c
    induction c with
    | nil => intro n k h; simpa using h
    | cons x t ih =>
      intro n k h
      have hx := x.isLt
      have := ih (n * 256 + x.toNat) (k + 1) (by rw [Nat.pow_succ]; omega)
      simpa [Nat.add_assoc, Nat.add_comm 1] using this
  have := this b 0 0 (by simp)
  simpa [beV] using this
theorem beV_take (b : List Byte) (i : Nat) (x : Byte) (hx : b[i]? = some x) : beV (b.take (i + 1)) = beV (b.take i) * 256 + x.toNat := by
  rw [List.take_add_one, hx]
  exact beV_snoc _ _

/-! ### integers in groups of seven bits -/
def encF : Nat → Nat → List Byte
  | 0, z => [BitVec.ofNat 8 z]
  | f + 1, z => if z < 128 then [BitVec.ofNat 8 z] else BitVec.ofNat 8 (z % 128 + 128) :: encF f (z / 128)
def encZ (z : Nat) : List Byte := encF 9 z

def decF (i z : Nat) : List Byte → Option (Nat × Nat)
  | [] => none
  | x :: t => if 18446744073709551616 ≤ z + x.toNat % 128 * 128 ^ i then none else if 128 ≤ x.toNat then decF (i + 1) (z + x.toNat % 128 * 128 ^ i) t else if x.toNat = 0 ∧ 0 < i then none else some (z + x.toNat % 128 * 128 ^ i, i + 1)
def dec (b : List Byte) : Option (Nat × Nat) := decF 0 0 b

theorem encF_small (f z : Nat) (h : z < 128) : encF f z = [BitVec.ofNat 8 z] := by
  cases f with
  | zero => rfl
  | succ f => simp [encF, h]
theorem encF_big (f z : Nat) (h : ¬ z < 128) : encF (f + 1) z = BitVec.ofNat 8 (z % 128 + 128) :: encF f (z / 128) := by simp [encF, h]
theorem toNat8 (n : Nat) (h : n < 256) : (BitVec.ofNat 8 n).toNat = n := by rw [BitVec.toNat_ofNat]; exact Nat.mod_eq_of_lt h
theorem of8 (x : Byte) : BitVec.ofNat 8 x.toNat = x := by simp

theorem decF_enc (f : Nat) : ∀ (z i z0 : Nat) (rest : List Byte), z < 128 ^ (f + 1) → z0 + z * 128 ^ i < 18446744073709551616 → (i = 0 ∨ 0 < z) →
    decF i z0 (encF f z ++ rest) = some (z0 + z * 128 ^ i, i + (encF f z).length) := by
  induction f with
  | zero =>
    intro z i z0 rest h h1 h2
    have h128 : z < 128 := by simpa using h
    rw [encF_small _ _ h128]
    show decF i z0 (BitVec.ofNat 8 z :: rest) = _
    unfold decF
    rw [toNat8 z (by omega), Nat.mod_eq_of_lt h128, if_neg (by omega), if_neg (by omega), if_neg (by omega)]
    rfl
  | succ f ih =>
    intro z i z0 rest h h1 h2
    by_cases h128 : z < 128
    · rw [encF_small _ _ h128]
      show decF i z0 (BitVec.ofNat 8 z :: rest) = _
      unfold decF
      rw [toNat8 z (by omega), Nat.mod_eq_of_lt h128, if_neg (by omega), if_neg (by omega), if_neg (by omega)]
      rfl
    · have hm := Nat.mod_lt z (show 0 < 128 by decide)
      have e : z * 128 ^ i = z % 128 * 128 ^ i + z / 128 * 128 ^ (i + 1) := by
        have hz : z = z % 128 + z / 128 * 128 := by omega
        rw [Nat.pow_succ, Nat.mul_comm (128 ^ i) 128, ← Nat.mul_assoc, ← Nat.add_mul, ← hz]
      have e2 : (z % 128 + 128) % 128 = z % 128 := by omega
      rw [encF_big _ _ h128]
      show decF i z0 (BitVec.ofNat 8 (z % 128 + 128) :: (encF f (z / 128) ++ rest)) = _
      unfold decF
      rw [toNat8 _ (by omega), e2, if_neg (by omega), if_pos (by omega)]
      rw [ih (z / 128) (i + 1) (z0 + z % 128 * 128 ^ i) rest (by rw [Nat.pow_succ] at h; omega) (by omega) (by right; omega)]
      simp
      omega
theorem dec_enc (z : Nat) (rest : List Byte) (h : z < 18446744073709551616) : dec (encZ z ++ rest) = some (z, (encZ z).length) := by
  have := decF_enc 9 z 0 0 rest (by omega) (by simpa using h) (.inl rfl)
  simpa [dec, encZ] using this

theorem decF_some (b : List Byte) : ∀ (i z0 z k : Nat), decF i z0 b = some (z, k) → z < 18446744073709551616 ∧ ∃ y rest, z = z0 + y * 128 ^ i ∧ (i = 0 ∨ 0 < y) ∧ ∀ f, y < 128 ^ (f + 1) → b = encF f y ++ rest ∧ k = i + (encF f y).length := by
  induction b with
  | nil => intro i z0 z k h; cases h
  | cons x t ih =>
    intro i z0 z k h
    unfold decF at h
    have hx := x.isLt
    by_cases c1 : 18446744073709551616 ≤ z0 + x.toNat % 128 * 128 ^ i
    · rw [if_pos c1] at h; cases h
    rw [if_neg c1] at h
    by_cases c2 : 128 ≤ x.toNat
    · rw [if_pos c2] at h
      obtain ⟨hz, y, rest, he, hy, hf⟩ := ih _ _ _ _ h
      refine ⟨hz, x.toNat % 128 + y * 128, rest, ?_, by omega, fun f hlt => ?_⟩
      · rw [he, Nat.pow_succ, Nat.mul_comm (128 ^ i) 128, ← Nat.mul_assoc, Nat.add_mul]
        omega
      · have hnb : ¬ x.toNat % 128 + y * 128 < 128 := by omega
        cases f with
        | zero => simp at hlt; omega
        | succ f =>
          have e1 : (x.toNat % 128 + y * 128) / 128 = y := by omega
          have e2 : (x.toNat % 128 + y * 128) % 128 + 128 = x.toNat := by omega
          obtain ⟨h1, h2⟩ := hf f (by rw [Nat.pow_succ] at hlt; omega)
          rw [encF_big _ _ hnb, e1, e2, of8]
          exact ⟨by rw [h1]; rfl, by rw [h2]; simp; omega⟩
    · rw [if_neg c2] at h
      by_cases c3 : x.toNat = 0 ∧ 0 < i
      · rw [if_pos c3] at h; cases h
      · rw [if_neg c3] at h
        injection h with h
        have hz := congrArg Prod.fst h
        have hk := congrArg Prod.snd h
        simp only at hz hk
        have em : x.toNat % 128 = x.toNat := Nat.mod_eq_of_lt (by omega)
        rw [em] at hz c1
        refine ⟨by omega, x.toNat, t, hz.symm, by omega, fun f _ => ?_⟩
        rw [encF_small _ _ (by omega), of8]
        exact ⟨rfl, by simp; omega⟩
theorem dec_some {b : List Byte} {z k : Nat} (h : dec b = some (z, k)) : z < 18446744073709551616 ∧ k = (encZ z).length ∧ ∃ rest, b = encZ z ++ rest := by
  obtain ⟨hz, y, rest, he, _, hf⟩ := decF_some b 0 0 z k h
  have hy : y = z := by rw [he]; simp
  subst hy
  obtain ⟨h1, h2⟩ := hf 9 (by omega)
  exact ⟨hz, by rw [Nat.zero_add] at h2; exact h2, rest, h1⟩

theorem encF_form (f : Nat) : ∀ z, z < 128 ^ (f + 1) → 1 ≤ (encF f z).length ∧ (encF f z).length ≤ f + 1 ∧ (∀ (j : Nat) (x : Byte), (encF f z)[j]? = some x → (128 ≤ x.toNat ↔ j + 1 < (encF f z).length)) := by
  have small : ∀ (f z : Nat), z < 128 → 1 ≤ (encF f z).length ∧ (encF f z).length ≤ f + 1 ∧ (∀ (j : Nat) (x : Byte), (encF f z)[j]? = some x → (128 ≤ x.toNat ↔ j + 1 < (encF f z).length)) := by
    intro f z h
    rw [encF_small _ _ h]
    refine ⟨by simp, by simp, fun j x hx => ?_⟩
    cases j with
    | zero =>
      simp at hx
      subst hx
      rw [toNat8 _ (by omega)]
      simp
      omega
    | succ j => simp at hx
  induction f with
  | zero => intro z h; exact small 0 z (by simpa using h)
  | succ f ih =>
    intro z h
    by_cases h128 : z < 128
    · exact small _ _ h128
    · obtain ⟨h1, h2, h3⟩ := ih (z / 128) (by rw [Nat.pow_succ] at h; omega)
      rw [encF_big _ _ h128]
      refine ⟨by simp, by simp; omega, fun j x hx => ?_⟩
      cases j with
      | zero =>
        simp at hx
        subst hx
        rw [toNat8 _ (by omega)]
        simp
        omega
      | succ j =>
        simp at hx
        have := h3 j x hx
        simp
        omega

def leV (b : List Byte) : Nat := b.foldr (fun x n => x.toNat % 128 + 128 * n) 0
theorem leV_enc (f : Nat) : ∀ z, z < 128 ^ (f + 1) → leV (encF f z) = z := by
  have small : ∀ (f z : Nat), z < 128 → leV (encF f z) = z := by
    intro f z h
    rw [encF_small _ _ h]
    show (BitVec.ofNat 8 z).toNat % 128 + 128 * 0 = z
    rw [toNat8 _ (by omega)]
    omega
  induction f with
  | zero => intro z h; exact small 0 z (by simpa using h)
  | succ f ih =>
    intro z h
    by_cases h128 : z < 128
    · exact small _ _ h128
    · rw [encF_big _ _ h128]
      show (BitVec.ofNat 8 (z % 128 + 128)).toNat % 128 + 128 * leV (encF f (z / 128)) = z
      rw [toNat8 _ (by omega), ih _ (by rw [Nat.pow_succ] at h; omega)]
      omega
theorem leV_snoc (b : List Byte) (x : Byte) : leV (b ++ [x]) = leV b + x.toNat % 128 * 128 ^ b.length := by
  induction b with
  | nil => simp [leV]
  | cons y t ih =>
    show y.toNat % 128 + 128 * leV (t ++ [x]) = y.toNat % 128 + 128 * leV t + _
    rw [ih, Nat.mul_add, List.length_cons, Nat.pow_succ, Nat.mul_comm (128 ^ t.length) 128, Nat.mul_left_comm]
    omega
theorem leV_take (b : List Byte) (i : Nat) (x : Byte) (hx : b[i]? = some x) : leV (b.take (i + 1)) = leV (b.take i) + x.toNat % 128 * 128 ^ i := by
  have hi := (List.getElem?_eq_some_iff.1 hx).1
  have := leV_snoc (b.take i) x
  rw [List.length_take, Nat.min_eq_left (by omega)] at this
  rw [List.take_add_one, hx]
  exact this

/-- the bytes before the i-th all have a successor -/
def Mores (b : List Byte) (i : Nat) : Prop := ∀ (j : Nat) (x : Byte), j < i → b[j]? = some x → 128 ≤ x.toNat

theorem encZ_form {z : Nat} (h : z < 18446744073709551616) : 1 ≤ (encZ z).length ∧ (encZ z).length ≤ 10 ∧ (∀ (j : Nat) (x : Byte), (encZ z)[j]? = some x → (128 ≤ x.toNat ↔ j + 1 < (encZ z).length)) := encF_form 9 z (by omega)
theorem dec_len {b : List Byte} {z k : Nat} (h : dec b = some (z, k)) : 1 ≤ k ∧ k ≤ 10 ∧ k ≤ b.length := by
  obtain ⟨hz, hk, rest, hb⟩ := dec_some h
  have := encZ_form hz
  have hl := congrArg List.length hb
  simp at hl
  omega
theorem dec_last {b : List Byte} {z k : Nat} (h : dec b = some (z, k)) : ∃ x, b[k - 1]? = some x ∧ x.toNat < 128 := by
  obtain ⟨hz, hk, rest, hb⟩ := dec_some h
  obtain ⟨h1, h2, h3⟩ := encZ_form hz
  have hlt : k - 1 < (encZ z).length := by omega
  refine ⟨(encZ z)[k - 1], ?_, ?_⟩
  · rw [hb, List.getElem?_append_left hlt, List.getElem?_eq_getElem hlt]
  · have := h3 (k - 1) _ (List.getElem?_eq_getElem hlt)
    omega
theorem dec_before {b : List Byte} {z k : Nat} (h : dec b = some (z, k)) : ∀ (j : Nat) (x : Byte), j + 1 < k → b[j]? = some x → 128 ≤ x.toNat := by
  obtain ⟨hz, hk, rest, hb⟩ := dec_some h
  obtain ⟨h1, h2, h3⟩ := encZ_form hz
  intro j x hj hx
  rw [hb, List.getElem?_append_left (by omega)] at hx
  exact (h3 j x hx).2 (by omega)
theorem dec_miss {b : List Byte} {i : Nat} (hm : Mores b i) (hi : b.length ≤ i ∨ 10 ≤ i) : dec b = none := by
  cases h : dec b with
  | none => rfl
  | some p =>
    obtain ⟨z, k⟩ := p
    have hl := dec_len h
    obtain ⟨x, hx, hlt⟩ := dec_last h
    have := hm (k - 1) x (by omega) hx
    omega
theorem dec_hit {b : List Byte} {i z : Nat} {x : Byte} (hm : Mores b i) (hx : b[i]? = some x) (hlt : x.toNat < 128) (hz : z = leV (b.take (i + 1)) % 18446744073709551616) :
    dec b = if encZ z = b.take (i + 1) then some (z, i + 1) else none := by
  have hi := (List.getElem?_eq_some_iff.1 hx).1
  have hz64 : z < 18446744073709551616 := by omega
  split
  · rename_i he
    have := dec_enc z (b.drop (i + 1)) hz64
    rw [he, List.take_append_drop, List.length_take, Nat.min_eq_left (by omega)] at this
    exact this
  · rename_i he
    cases h : dec b with
    | none => rfl
    | some p =>
      obtain ⟨z', k⟩ := p
      exfalso
      obtain ⟨y, hy, hylt⟩ := dec_last h
      have hl := dec_len h
      have hki : k = i + 1 := by
        have h1 : ¬ k - 1 < i := fun hc => by have := hm (k - 1) y hc hy; omega
        have h2 : ¬ i + 1 < k := fun hc => by have := dec_before h i x hc hx; omega
        omega
      obtain ⟨hz', hk, rest, hb⟩ := dec_some h
      have ht : b.take (i + 1) = encZ z' := by rw [hb, ← hki, hk, List.take_left]
      have hv : leV (encZ z') = z' := leV_enc 9 z' (by omega)
      rw [ht, hv, Nat.mod_eq_of_lt hz'] at hz
      exact he (by rw [ht, hz])

/-! ### signed integers -/
def zig (n : Int) : Nat := if n < 0 then (-2 * n - 1).toNat else (2 * n).toNat
def unzig (z : Nat) : Int := if z % 2 = 1 then -((z / 2 : Nat) : Int) - 1 else ((z / 2 : Nat) : Int)
theorem unzig_zig (n : Int) : unzig (zig n) = n := by unfold unzig zig; split <;> split <;> omega
theorem zig_unzig (z : Nat) : zig (unzig z) = z := by unfold unzig zig; split <;> split <;> omega
theorem zig_lt {n : Int} (h : -9223372036854775808 ≤ n ∧ n ≤ 9223372036854775807) : zig n < 18446744073709551616 := by unfold zig; split <;> omega
theorem unzig_bounds {z : Nat} (h : z < 18446744073709551616) : -9223372036854775808 ≤ unzig z ∧ unzig z ≤ 9223372036854775807 := by unfold unzig; split <;> omega
def encI (n : Int) : List Byte := encZ (zig n)
def encB (b : List Byte) : List Byte := encI (b.length : Int) ++ b
def encU (n : Nat) (size : Int) : List Byte := if 1 ≤ size ∧ size ≤ 8 then be n size.toNat else []

theorem encI_len {n : Int} (h : -9223372036854775808 ≤ n ∧ n ≤ 9223372036854775807) : 1 ≤ (encI n).length ∧ (encI n).length ≤ 10 := by
  have := encZ_form (zig_lt h)
  exact ⟨this.1, this.2.1⟩

/-! ### what the methods of a reader take: the value, and how many bytes -/
def tkU (l : List Byte) (size : Int) : Option (Nat × Nat) := if 1 ≤ size ∧ size ≤ 8 ∧ size ≤ (l.length : Int) then some (beV (l.take size.toNat), size.toNat) else none
def tkI (l : List Byte) : Option (Int × Nat) := (dec l).map fun p => (unzig p.1, p.2)
def tkC (l : List Byte) (most : Int) : Option (Int × Nat) := (tkI l).bind fun p => if p.1 < 0 ∨ most < p.1 then none else some p
def tkB (l : List Byte) (most : Int) : Option (List Byte × Nat) := (tkC l most).bind fun p => if (l.length : Int) - (p.2 : Int) < p.1 then none else some ((l.drop p.2).take p.1.toNat, p.2 + p.1.toNat)

theorem tkI_some {l : List Byte} {n : Int} {k : Nat} (h : tkI l = some (n, k)) : -9223372036854775808 ≤ n ∧ n ≤ 9223372036854775807 ∧ 1 ≤ k ∧ k ≤ l.length ∧ encI n = l.take k := by
  unfold tkI at h
  cases hd : dec l with
  | none => rw [hd] at h; cases h
  | some p =>
    obtain ⟨z, j⟩ := p
    rw [hd] at h
    injection h with h
    have h1 := congrArg Prod.fst h
    have h2 := congrArg Prod.snd h
    simp only at h1 h2
    subst h1 h2
    obtain ⟨hz, hk, rest, hb⟩ := dec_some hd
    have hl := dec_len hd
    have hu := unzig_bounds hz
    refine ⟨hu.1, hu.2, hl.1, hl.2.2, ?_⟩
    unfold encI
    rw [zig_unzig, hb, hk, List.take_left]
theorem tkI_enc {n : Int} (rest : List Byte) (h : -9223372036854775808 ≤ n ∧ n ≤ 9223372036854775807) : tkI (encI n ++ rest) = some (n, (encI n).length) := by
  unfold tkI encI
  rw [dec_enc _ _ (zig_lt h)]
  simp [unzig_zig]
theorem tkC_some {l : List Byte} {most n : Int} {k : Nat} (h : tkC l most = some (n, k)) : tkI l = some (n, k) ∧ 0 ≤ n ∧ n ≤ most := by
  unfold tkC at h
  cases hd : tkI l with
  | none => rw [hd] at h; cases h
  | some p =>
    rw [hd] at h
    simp only [Option.bind_some] at h
    split at h
    · cases h
    · injection h with h
      subst h
      exact ⟨rfl, by omega, by omega⟩
theorem tkB_some {l m : List Byte} {most : Int} {k : Nat} (h : tkB l most = some (m, k)) : ∃ (n j : Nat), tkC l most = some ((n : Int), j) ∧ j + n ≤ l.length ∧ m = (l.drop j).take n ∧ k = j + n := by
  unfold tkB at h
  cases hd : tkC l most with
  | none => rw [hd] at h; cases h
  | some p =>
    obtain ⟨n, j⟩ := p
    rw [hd] at h
    simp only [Option.bind_some] at h
    obtain ⟨h1, h2, h3⟩ := tkC_some hd
    obtain ⟨N, rfl⟩ := Int.eq_ofNat_of_zero_le h2
    have h4 := tkI_some h1
    split at h
    · cases h
    · injection h with h
      have e1 := congrArg Prod.fst h
      have e2 := congrArg Prod.snd h
      simp only [Int.toNat_natCast] at e1 e2
      exact ⟨N, j, rfl, by omega, e1.symm, e2.symm⟩
theorem tkB_enc (b rest : List Byte) (most : Int) (h1 : (b.length : Int) ≤ most) (h2 : b.length ≤ 9223372036854775807) : tkB (encB b ++ rest) most = some (b, (encB b).length) := by
  have hI : tkI (encB b ++ rest) = some ((b.length : Int), (encI (b.length : Int)).length) := by
    unfold encB
    rw [List.append_assoc]
    exact tkI_enc _ ⟨by omega, by omega⟩
  have hC : tkC (encB b ++ rest) most = some ((b.length : Int), (encI (b.length : Int)).length) := by
    unfold tkC
    rw [hI]
    simp only [Option.bind_some]
    rw [if_neg (by omega)]
  unfold tkB
  rw [hC]
  simp only [Option.bind_some]
  have hl : (encB b ++ rest).length = (encI (b.length : Int)).length + b.length + rest.length := by unfold encB; simp; omega
  rw [if_neg (by rw [hl]; omega)]
  have e : (encB b ++ rest).drop (encI (b.length : Int)).length = b ++ rest := by
    unfold encB
    rw [List.append_assoc, List.drop_left]
  rw [e, Int.toNat_natCast, List.take_left]
  simp [encB]
theorem tkU_enc (n : Nat) (size : Int) (rest : List Byte) (h : 1 ≤ size ∧ size ≤ 8) : tkU (encU n size ++ rest) size = some (beV (encU n size), (encU n size).length) := by
  unfold encU tkU
  rw [if_pos h]
  have hl := be_len n size.toNat
  rw [if_pos ⟨h.1, h.2, by rw [List.length_append, hl]; omega⟩, hl]
  congr 2
  conv => lhs; rw [show size.toNat = (be n size.toNat).length from hl.symm]
  rw [hl]
  have := List.take_left (l₁ := be n size.toNat) (l₂ := rest)
  rw [hl] at this
  rw [this]

/-- a reader's state: what is left, or that it has failed -/
def rd {α : Type} (d : α) (tk : List Byte → Option (α × Nat)) (st : Option (List Byte)) : α × Option (List Byte) :=
  match st with
  | none => (d, none)
  | some l => match tk l with
    | none => (d, none)
    | some (v, k) => (v, some (l.drop k))
theorem rd_none {α : Type} (d : α) (tk : List Byte → Option (α × Nat)) : rd d tk none = (d, none) := rfl
theorem rd_bad {α : Type} {d : α} {tk : List Byte → Option (α × Nat)} {l : List Byte} (h : tk l = none) : rd d tk (some l) = (d, none) := by simp [rd, h]
theorem rd_ok {α : Type} {d : α} {tk : List Byte → Option (α × Nat)} {l : List Byte} {v : α} {k : Nat} (h : tk l = some (v, k)) : rd d tk (some l) = (v, some (l.drop k)) := by simp [rd, h]
end Go.Proofs.Ytaaikmncdgfkmaa
