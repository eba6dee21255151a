/-
  Plain mathematics of package cuc, no Go in sight: formats, time codes, what Decode and Round return, the order of codes.
-/
import Derived.Test.YtboapfkgkehfcaaOctMath
import Derived.Test.YtboapfkgkehfcaaOwn
namespace Go.Proofs.Ytboapfkgkehfcaa

/-! ### formats -/
def cvl (c f : Int) : Bool := decide (1 ≤ c ∧ c ≤ 4 ∧ 0 ≤ f ∧ f ≤ 3)
theorem cvl_iff {c f : Int} : cvl c f = true ↔ 1 ≤ c ∧ c ≤ 4 ∧ 0 ≤ f ∧ f ≤ 3 := by simp [cvl]
theorem cvl_no {c f : Int} (h : ¬ (1 ≤ c ∧ c ≤ 4 ∧ 0 ≤ f ∧ f ≤ 3)) : cvl c f = false := by simp only [cvl, h, decide_false]
theorem cvl_nat {c f : Int} (h : cvl c f = true) : ∃ C F : Nat, c = (C : Int) ∧ f = (F : Int) ∧ 1 ≤ C ∧ C ≤ 4 ∧ F ≤ 3 := by
  obtain ⟨h1, h2, h3, h4⟩ := cvl_iff.1 h
  obtain ⟨C, rfl⟩ := Int.eq_ofNat_of_zero_le (show 0 ≤ c by omega)
  obtain ⟨F, rfl⟩ := Int.eq_ofNat_of_zero_le h3
  exact ⟨C, F, rfl, rfl, by omega, by omega, by omega⟩
def csz (c f : Int) : Int := if cvl c f then 1 + c + f else 0
/-- how many ticks the coarse bytes hold -/
def capT (c : Int) : Int := ((256 ^ (c.toNat + 1) : Nat) : Int)
theorem capT_le {c : Int} (h1 : 1 ≤ c) (h2 : c ≤ 4) : 65536 ≤ capT c ∧ capT c ≤ 1099511627776 ∧ capT c % 256 = 0 := by
  have : c = 1 ∨ c = 2 ∨ c = 3 ∨ c = 4 := by omega
  rcases this with rfl | rfl | rfl | rfl <;> decide

/-! ### time codes -/
def fin (x f : Nat) : List Byte := if f = 0 then [] else be (x * 256 ^ (f - 1)) f
def code (t c f : Nat) : List Byte := BitVec.ofNat 8 (12 + 4 * c + f) :: (be (t / 256) c ++ fin (t % 256) f)
theorem fin_len (x f : Nat) : (fin x f).length = f := by
  unfold fin
  split
  · simp; omega
  · exact be_len _ _
theorem code_len (t c f : Nat) : (code t c f).length = 1 + c + f := by
  simp [code, fin_len, be_len]
  omega
def eErr (t c f : Int) : Int := if cvl c f = true then (if 0 ≤ t ∧ t < capT c then 0 else 10) else 1
def eVal (t c f : Int) : List Byte := if eErr t c f = 0 then code t.toNat c.toNat f.toNat else []
theorem eErr_bad {t c f : Int} (h : cvl c f = false) : eErr t c f = 1 := by simp [eErr, h]
theorem eErr_out {t c f : Int} (h : cvl c f = true) (ht : ¬ (0 ≤ t ∧ t < capT c)) : eErr t c f = 10 := by unfold eErr; rw [if_pos h, if_neg ht]
theorem eErr_ok {t c f : Int} (h : cvl c f = true) (ht : 0 ≤ t ∧ t < capT c) : eErr t c f = 0 := by unfold eErr; rw [if_pos h, if_pos ht]
theorem eVal_bad {t c f : Int} (h : eErr t c f ≠ 0) : eVal t c f = [] := by unfold eVal; rw [if_neg h]
theorem eVal_ok {t c f : Int} (h : eErr t c f = 0) : eVal t c f = code t.toNat c.toNat f.toNat := by unfold eVal; rw [if_pos h]
theorem eErr_zero {t c f : Int} (h : eErr t c f = 0) : cvl c f = true ∧ 0 ≤ t ∧ t < capT c := by
  unfold eErr at h
  split at h
  · rename_i h1
    split at h
    · rename_i h2; exact ⟨h1, h2.1, h2.2⟩
    · simp at h
  · simp at h
theorem eVal_len (t c f : Int) : (eVal t c f).length ≤ 8 := by
  by_cases h : eErr t c f = 0
  · obtain ⟨h1, _⟩ := eErr_zero h
    obtain ⟨C, F, rfl, rfl, _, _, _⟩ := cvl_nat h1
    rw [eVal_ok h, code_len]
    omega
  · rw [eVal_bad h]; simp

/-! ### Round -/
def rErr (t c f : Int) : Int := if cvl c f = true then (if 0 ≤ t ∧ t ≤ 1099511627776 then 0 else 10) else 1
def rVal (t c f : Int) : Int := if rErr t c f = 0 then (if f = 0 then min t (capT c - 1) - min t (capT c - 1) % 256 else min t (capT c - 1)) else 0
theorem rErr_bad {t c f : Int} (h : cvl c f = false) : rErr t c f = 1 := by simp [rErr, h]
theorem rErr_out {t c f : Int} (h : cvl c f = true) (ht : ¬ (0 ≤ t ∧ t ≤ 1099511627776)) : rErr t c f = 10 := by unfold rErr; rw [if_pos h, if_neg ht]
theorem rErr_ok {t c f : Int} (h : cvl c f = true) (ht : 0 ≤ t ∧ t ≤ 1099511627776) : rErr t c f = 0 := by unfold rErr; rw [if_pos h, if_pos ht]
theorem rVal_bad {t c f : Int} (h : rErr t c f ≠ 0) : rVal t c f = 0 := by unfold rVal; rw [if_neg h]
theorem rErr_zero {t c f : Int} (h : rErr t c f = 0) : cvl c f = true ∧ 0 ≤ t ∧ t ≤ 1099511627776 := by
  unfold rErr at h
  split at h
  · rename_i h1
    split at h
    · rename_i h2; exact ⟨h1, h2.1, h2.2⟩
    · simp at h
  · simp at h
/-- what Round returns lies in the range of the format, and is a time without dropped ticks -/
theorem rVal_fits {t c f : Int} (h : rErr t c f = 0) : 0 ≤ rVal t c f ∧ rVal t c f < capT c ∧ rVal t c f ≤ t ∧ (f = 0 → rVal t c f % 256 = 0) := by
  obtain ⟨h1, h2, h3⟩ := rErr_zero h
  obtain ⟨c1, c2, _, _⟩ := cvl_iff.1 h1
  have hc := capT_le c1 c2
  unfold rVal
  rw [if_pos h]
  have hm := Int.min_def t (capT c - 1)
  split at hm <;> rw [hm] <;> split <;> omega
/-- of a time that the format holds, only the ticks are dropped -/
theorem rVal_in {t c f : Int} (h : cvl c f = true) (ht : 0 ≤ t ∧ t < capT c) : rErr t c f = 0 ∧ rVal t c f = (if f = 0 then t - t % 256 else t) := by
  obtain ⟨c1, c2, _, _⟩ := cvl_iff.1 h
  have hc := capT_le c1 c2
  have h0 : rErr t c f = 0 := rErr_ok h (by omega)
  refine ⟨h0, ?_⟩
  unfold rVal
  rw [if_pos h0, show min t (capT c - 1) = t by omega]
theorem rVal_mono {t u c f : Int} (h : rErr t c f = 0) (h' : rErr u c f = 0) (htu : t ≤ u) : rVal t c f ≤ rVal u c f := by
  unfold rVal
  rw [if_pos h, if_pos h']
  have hm : min t (capT c - 1) ≤ min u (capT c - 1) := by omega
  split <;> omega

/-! ### Decode -/
/-- the errno, the time, the two numbers of the format -/
def dcd : List Byte → Int × Nat × Nat × Nat
  | [] => (3, 0, 0, 0)
  | p :: r =>
    if p.toNat < 16 ∨ 31 < p.toNat then (4, 0, 0, 0)
    else if r.length < (p.toNat - 16) / 4 + 1 + p.toNat % 4 then (3, 0, 0, 0)
    else if ((r.drop ((p.toNat - 16) / 4 + 1)).take (p.toNat % 4)).tail.all (fun x => decide (x = 0#8)) = true then (0, beV (r.take ((p.toNat - 16) / 4 + 1)) * 256 + (((r.drop ((p.toNat - 16) / 4 + 1)).take (p.toNat % 4)).headD 0#8).toNat, (p.toNat - 16) / 4 + 1, p.toNat % 4)
    else (4, 0, 0, 0)
/-- the number of bytes -/
def dsz (l : List Byte) : Nat := if (dcd l).1 = 0 then 1 + (dcd l).2.2.1 + (dcd l).2.2.2 else 0

theorem dcd_form {p : Byte} {r : List Byte} (h : p.toNat < 16 ∨ 31 < p.toNat) : dcd (p :: r) = (4, 0, 0, 0) := by dsimp only [dcd]; rw [if_pos h]
theorem dcd_short {p : Byte} {r : List Byte} {C F : Nat} (h : ¬ (p.toNat < 16 ∨ 31 < p.toNat)) (hC : C = (p.toNat - 16) / 4 + 1) (hF : F = p.toNat % 4) (hr : r.length < C + F) : dcd (p :: r) = (3, 0, 0, 0) := by
  subst hC hF
  dsimp only [dcd]
  rw [if_neg h, if_pos hr]
theorem dcd_rest {p : Byte} {r : List Byte} {C F : Nat} (h : ¬ (p.toNat < 16 ∨ 31 < p.toNat)) (hC : C = (p.toNat - 16) / 4 + 1) (hF : F = p.toNat % 4) (hr : ¬ r.length < C + F) :
    dcd (p :: r) = if ((r.drop C).take F).tail.all (fun x => decide (x = 0#8)) = true then (0, beV (r.take C) * 256 + (((r.drop C).take F).headD 0#8).toNat, C, F) else (4, 0, 0, 0) := by
  subst hC hF
  dsimp only [dcd]
  rw [if_neg h, if_neg hr]

/-! ### the bytes of a number, back -/
theorem beV_cons (x : Byte) (b : List Byte) : beV (x :: b) = x.toNat * 256 ^ b.length + beV b := by
  have : ∀ (b : List Byte) (n : Nat), b.foldl (fun n x => n * 256 + x.toNat) n = n * 256 ^ b.length + beV b := by
    intro b
    induction b with
    | nil => intro n; simp [beV]
    | cons y t ih =>
      intro n
      show t.foldl _ (n * 256 + y.toNat) = _
      rw [ih]
      have h2 : beV (y :: t) = t.foldl (fun n x => n * 256 + x.toNat) (0 * 256 + y.toNat) := rfl
      rw [h2, ih, List.length_cons, Nat.pow_succ, Nat.mul_comm (256 ^ t.length) 256, ← Nat.mul_assoc, Nat.add_mul]
      simp
      omega
  show b.foldl _ (0 * 256 + x.toNat) = _
  rw [this]
  simp
theorem beV_be (k : Nat) : ∀ n, beV (be n k) = n % 256 ^ k := by
  induction k with
  | zero => intro n; simp [be, beV, Nat.mod_one]
  | succ k ih =>
    intro n
    show beV (BitVec.ofNat 8 (n / 256 ^ k) :: be n k) = _
    have h8 : (BitVec.ofNat 8 (n / 256 ^ k)).toNat = n / 256 ^ k % 256 := BitVec.toNat_ofNat _ _
    rw [beV_cons, be_len, ih, h8, Nat.pow_succ, Nat.mod_mul, Nat.mul_comm (256 ^ k), Nat.add_comm]
theorem be_mod (k : Nat) : ∀ n m, n % 256 ^ k = m % 256 ^ k → be n k = be m k := by
  induction k with
  | zero => intro n m _; rfl
  | succ k ih =>
    intro n m h
    rw [Nat.pow_succ, Nat.mod_mul, Nat.mod_mul] at h
    have hp : 0 < 256 ^ k := Nat.pow_pos (by decide)
    have h1 : n % 256 ^ k = m % 256 ^ k := by
      have := congrArg (· % 256 ^ k) h
      simpa [Nat.add_mul_mod_self_left, Nat.mod_mod] using this
    have h2 : n / 256 ^ k % 256 = m / 256 ^ k % 256 := by
      rw [h1] at h
      exact Nat.eq_of_mul_eq_mul_left hp (by omega)
    show BitVec.ofNat 8 (n / 256 ^ k) :: be n k = BitVec.ofNat 8 (m / 256 ^ k) :: be m k
    rw [ih n m h1]
    congr 1
    apply BitVec.eq_of_toNat_eq
    rw [BitVec.toNat_ofNat, BitVec.toNat_ofNat]
    exact h2
theorem be_beV (b : List Byte) : be (beV b) b.length = b := by
  induction b with
  | nil => rfl
  | cons x t ih =>
    have hlt := beV_lt t
    have hp : 0 < 256 ^ t.length := Nat.pow_pos (by decide)
    show BitVec.ofNat 8 (beV (x :: t) / 256 ^ t.length) :: be (beV (x :: t)) t.length = x :: t
    rw [beV_cons]
    have e1 : (x.toNat * 256 ^ t.length + beV t) / 256 ^ t.length = x.toNat := by
      rw [Nat.mul_comm, Nat.mul_add_div hp, Nat.div_eq_of_lt hlt]; rfl
    have e2 : be (x.toNat * 256 ^ t.length + beV t) t.length = be (beV t) t.length := be_mod _ _ _ (by rw [Nat.mul_comm, Nat.mul_add_mod])
    rw [e1, e2, ih]
    simp
theorem zeros_of (b : List Byte) : beV b = 0 ↔ b.all (fun x => decide (x = 0#8)) = true := by
  induction b with
  | nil => simp [beV]
  | cons x t ih =>
    rw [beV_cons, List.all_cons, Bool.and_eq_true, ← ih, decide_eq_true_iff]
    have hp : 0 < 256 ^ t.length := Nat.pow_pos (by decide)
    constructor
    · intro h
      have h1 : x.toNat * 256 ^ t.length = 0 := by omega
      have h2 : x.toNat = 0 := by
        rcases Nat.eq_zero_or_pos x.toNat with h0 | h0
        · exact h0
        · have := Nat.mul_pos h0 hp; omega
      exact ⟨BitVec.eq_of_toNat_eq (by simpa using h2), by omega⟩
    · rintro ⟨rfl, h⟩
      simp [h]
theorem fin_cons (x : Byte) (b : List Byte) (h : b.all (fun x => decide (x = 0#8)) = true) : fin x.toNat (b.length + 1) = x :: b := by
  have hz := (zeros_of b).2 h
  have := be_beV (x :: b)
  rw [beV_cons, hz, List.length_cons] at this
  unfold fin
  rw [if_neg (by omega)]
  simpa using this
/-- the fine bytes of a tick: its byte, then zeros -/
theorem fin_form (x f : Nat) (hx : x < 256) (hf : f ≠ 0) : ∃ z : List Byte, fin x f = BitVec.ofNat 8 x :: z ∧ z.all (fun x => decide (x = 0#8)) = true ∧ z.length + 1 = f := by
  obtain ⟨k, rfl⟩ : ∃ k, f = k + 1 := ⟨f - 1, by omega⟩
  have h := fin_cons (BitVec.ofNat 8 x) (List.replicate k 0#8) (by simp)
  rw [toNat8 x hx, List.length_replicate] at h
  exact ⟨List.replicate k 0#8, h, by simp, by simp⟩

/-! ### Decode of a code; the code of what Decode returned -/
theorem dcd_code (t c f : Nat) (rest : List Byte) (h1 : 1 ≤ c) (h4 : c ≤ 4) (h3 : f ≤ 3) (ht : t < 256 ^ (c + 1)) :
    dcd (code t c f ++ rest) = (0, (if f = 0 then t - t % 256 else t), c, f) := by
  have hp : (BitVec.ofNat 8 (12 + 4 * c + f)).toNat = 12 + 4 * c + f := toNat8 _ (by omega)
  have hq : t / 256 < 256 ^ c := by rw [Nat.pow_succ] at ht; exact Nat.div_lt_of_lt_mul (by omega)
  have e : code t c f ++ rest = BitVec.ofNat 8 (12 + 4 * c + f) :: (be (t / 256) c ++ (fin (t % 256) f ++ rest)) := by simp [code]
  rw [e, dcd_rest (C := c) (F := f) (by omega) (by omega) (by omega) (by simp [be_len, fin_len])]
  have e1 : (be (t / 256) c ++ (fin (t % 256) f ++ rest)).take c = be (t / 256) c := List.take_left' (be_len _ _)
  have e2 : ((be (t / 256) c ++ (fin (t % 256) f ++ rest)).drop c).take f = fin (t % 256) f := by
    rw [List.drop_left' (be_len _ _), List.take_left' (fin_len _ _)]
  rw [e1, e2, beV_be, Nat.mod_eq_of_lt hq]
  by_cases hf : f = 0
  · subst hf
    simp [fin]
    omega
  · obtain ⟨z, hz1, hz2, _⟩ := fin_form (t % 256) f (Nat.mod_lt _ (by decide)) hf
    rw [hz1, if_pos (by simpa using hz2), if_neg hf, List.headD_cons, toNat8 _ (Nat.mod_lt _ (by decide))]
    congr 2
    omega
theorem code_dcd {l : List Byte} (h : (dcd l).1 = 0) : cvl (dcd l).2.2.1 (dcd l).2.2.2 = true ∧ (dcd l).2.1 < 256 ^ ((dcd l).2.2.1 + 1) ∧ 1 + (dcd l).2.2.1 + (dcd l).2.2.2 ≤ l.length ∧
    code (dcd l).2.1 (dcd l).2.2.1 (dcd l).2.2.2 = l.take (1 + (dcd l).2.2.1 + (dcd l).2.2.2) := by
  cases l with
  | nil => simp [dcd] at h
  | cons p r =>
    by_cases hp : p.toNat < 16 ∨ 31 < p.toNat
    · rw [dcd_form hp] at h; simp at h
    · obtain ⟨C, hC⟩ : ∃ C, C = (p.toNat - 16) / 4 + 1 := ⟨_, rfl⟩
      obtain ⟨F, hF⟩ : ∃ F, F = p.toNat % 4 := ⟨_, rfl⟩
      by_cases hr : r.length < C + F
      · rw [dcd_short hp hC hF hr] at h; simp at h
      · rw [dcd_rest hp hC hF hr] at h ⊢
        obtain ⟨T, hT⟩ : ∃ T, T = (r.drop C).take F := ⟨_, rfl⟩
        rw [← hT] at h ⊢
        have hTl : T.length = F := by rw [hT, List.length_take, List.length_drop]; omega
        have hcl : (r.take C).length = C := by rw [List.length_take]; omega
        by_cases hz : T.tail.all (fun x => decide (x = 0#8)) = true
        · rw [if_pos hz]
          show cvl (C : Int) (F : Int) = true ∧ beV (r.take C) * 256 + (T.headD 0#8).toNat < 256 ^ (C + 1) ∧ 1 + C + F ≤ (p :: r).length ∧ code (beV (r.take C) * 256 + (T.headD 0#8).toNat) C F = (p :: r).take (1 + C + F)
          have hb := beV_lt (r.take C)
          rw [hcl] at hb
          have hh := (T.headD 0#8).isLt
          refine ⟨cvl_iff.2 (by omega), by rw [Nat.pow_succ]; omega, by simp; omega, ?_⟩
          have e1 : (beV (r.take C) * 256 + (T.headD 0#8).toNat) / 256 = beV (r.take C) := by omega
          have e2 : (beV (r.take C) * 256 + (T.headD 0#8).toNat) % 256 = (T.headD 0#8).toNat := by omega
          have e3 : be (beV (r.take C)) C = r.take C := by have := be_beV (r.take C); rwa [hcl] at this
          have e4 : fin (T.headD 0#8).toNat F = T := by
            cases T with
            | nil => simp at hTl; subst hTl; rfl
            | cons x b => rw [← hTl]; exact fin_cons x b hz
          have e5 : BitVec.ofNat 8 (12 + 4 * C + F) = p := by
            apply BitVec.eq_of_toNat_eq
            have := p.isLt
            rw [toNat8 _ (by omega)]
            omega
          unfold code
          rw [e1, e2, e3, e4, e5, hT, show 1 + C + F = (C + F) + 1 by omega, List.take_succ_cons, List.take_add]
        · rw [if_neg hz] at h; simp at h

/-! ### the order of codes -/
open Go.Op in
theorem less_be (r s : List Byte) (k : Nat) : ∀ n m : Nat,
    bytesLess ((be n k ++ r).map UInt8.ofBitVec) ((be m k ++ s).map UInt8.ofBitVec) = (decide (n % 256 ^ k < m % 256 ^ k) || (decide (n % 256 ^ k = m % 256 ^ k) && bytesLess (r.map UInt8.ofBitVec) (s.map UInt8.ofBitVec))) := by
  induction k with
  | zero => intro n m; simp [be, Nat.mod_one]
  | succ k ih =>
    intro n m
    have hp : 0 < 256 ^ k := Nat.pow_pos (by decide)
    have en : n % 256 ^ (k + 1) = n % 256 ^ k + 256 ^ k * (n / 256 ^ k % 256) := by rw [Nat.pow_succ, Nat.mod_mul]
    have em : m % 256 ^ (k + 1) = m % 256 ^ k + 256 ^ k * (m / 256 ^ k % 256) := by rw [Nat.pow_succ, Nat.mod_mul]
    have hn := Nat.mod_lt n hp
    have hm := Nat.mod_lt m hp
    have h1 : (UInt8.ofBitVec (BitVec.ofNat 8 (n / 256 ^ k)) < UInt8.ofBitVec (BitVec.ofNat 8 (m / 256 ^ k))) ↔ n / 256 ^ k % 256 < m / 256 ^ k % 256 := by
      rw [UInt8.lt_iff_toNat_lt]
      show (BitVec.ofNat 8 (n / 256 ^ k)).toNat < (BitVec.ofNat 8 (m / 256 ^ k)).toNat ↔ _
      rw [BitVec.toNat_ofNat, BitVec.toNat_ofNat]
    have h2 : (UInt8.ofBitVec (BitVec.ofNat 8 (n / 256 ^ k)) = UInt8.ofBitVec (BitVec.ofNat 8 (m / 256 ^ k))) ↔ n / 256 ^ k % 256 = m / 256 ^ k % 256 := by
      constructor
      · intro h
        have := congrArg (fun x => x.toBitVec.toNat) h
        simpa using this
      · intro h
        congr 1
        apply BitVec.eq_of_toNat_eq
        rw [BitVec.toNat_ofNat, BitVec.toNat_ofNat]
        exact h
    have h0 : bytesLess ((be n (k + 1) ++ r).map UInt8.ofBitVec) ((be m (k + 1) ++ s).map UInt8.ofBitVec) =
        (decide (UInt8.ofBitVec (BitVec.ofNat 8 (n / 256 ^ k)) < UInt8.ofBitVec (BitVec.ofNat 8 (m / 256 ^ k))) || (UInt8.ofBitVec (BitVec.ofNat 8 (n / 256 ^ k)) == UInt8.ofBitVec (BitVec.ofNat 8 (m / 256 ^ k)) && bytesLess ((be n k ++ r).map UInt8.ofBitVec) ((be m k ++ s).map UInt8.ofBitVec))) := rfl
    rw [h0, ih, en, em]
    clear h0 en em ih
    generalize UInt8.ofBitVec (BitVec.ofNat 8 (n / 256 ^ k)) = A at *
    generalize UInt8.ofBitVec (BitVec.ofNat 8 (m / 256 ^ k)) = B at *
    generalize n / 256 ^ k % 256 = a at *
    generalize m / 256 ^ k % 256 = b at *
    generalize n % 256 ^ k = n' at *
    generalize m % 256 ^ k = m' at *
    generalize 256 ^ k = M at *
    rcases Nat.lt_trichotomy a b with hab | hab | hab
    · have h3 : n' + M * a < m' + M * b := by
        have : M * (a + 1) ≤ M * b := Nat.mul_le_mul_left _ hab
        rw [Nat.mul_add] at this
        omega
      simp only [h1.2 hab, h3, decide_true, Bool.true_or]
    · subst hab
      obtain rfl := h2.2 rfl
      have h3 : (n' + M * a < m' + M * a) ↔ n' < m' := by omega
      have h4 : (n' + M * a = m' + M * a) ↔ n' = m' := by omega
      have h5 : ¬ A < A := by rw [h1]; omega
      simp only [h3, h4, h5, decide_false, Bool.false_or, BEq.rfl, Bool.true_and]
    · have h3 : ¬ (n' + M * a < m' + M * b) ∧ ¬ (n' + M * a = m' + M * b) := by
        have : M * (b + 1) ≤ M * a := Nat.mul_le_mul_left _ hab
        rw [Nat.mul_add] at this
        omega
      have h5 : ¬ A < B := by rw [h1]; omega
      have h6 : (A == B) = false := by rw [beq_eq_false_iff_ne]; intro h; have := h2.1 h; omega
      simp only [h5, h6, h3.1, h3.2, decide_false, Bool.false_and, Bool.or_self]
theorem less_same (l : List Byte) : Go.Op.bytesLess (l.map UInt8.ofBitVec) (l.map UInt8.ofBitVec) = false := by
  induction l with
  | nil => rfl
  | cons x t ih =>
    show (decide (UInt8.ofBitVec x < UInt8.ofBitVec x) || (UInt8.ofBitVec x == UInt8.ofBitVec x && Go.Op.bytesLess (t.map UInt8.ofBitVec) (t.map UInt8.ofBitVec))) = false
    rw [ih]
    simp
theorem less_code (t u c f : Nat) (ht : t < 256 ^ (c + 1)) (hu : u < 256 ^ (c + 1)) (h0 : f = 0 → t % 256 = 0 ∧ u % 256 = 0) (h3 : f ≤ 3) :
    Go.Op.bytesLess ((code t c f).map UInt8.ofBitVec) ((code u c f).map UInt8.ofBitVec) = decide (t < u) := by
  have hq : t / 256 < 256 ^ c := by rw [Nat.pow_succ] at ht; exact Nat.div_lt_of_lt_mul (by omega)
  have hq' : u / 256 < 256 ^ c := by rw [Nat.pow_succ] at hu; exact Nat.div_lt_of_lt_mul (by omega)
  have e : ∀ t, code t c f = be (12 + 4 * c + f) 1 ++ (be (t / 256) c ++ fin (t % 256) f) := fun t => by simp [code, be]
  rw [e, e, less_be, less_be, Nat.mod_eq_of_lt hq, Nat.mod_eq_of_lt hq']
  have hfin : Go.Op.bytesLess ((fin (t % 256) f).map UInt8.ofBitVec) ((fin (u % 256) f).map UInt8.ofBitVec) = decide (t % 256 < u % 256) := by
    by_cases hf : f = 0
    · subst hf
      have := h0 rfl
      simp [fin, this.1, this.2, Go.Op.bytesLess]
    · have hm1 := Nat.mod_lt t (show 0 < 256 by decide)
      have hm2 := Nat.mod_lt u (show 0 < 256 by decide)
      have hpk : 0 < 256 ^ (f - 1) := Nat.pow_pos (by decide)
      have hb : ∀ x, x < 256 → x * 256 ^ (f - 1) % 256 ^ f = x * 256 ^ (f - 1) := fun x hx => Nat.mod_eq_of_lt (by
        have : 256 ^ f = 256 * 256 ^ (f - 1) := by
          obtain ⟨k, rfl⟩ : ∃ k, f = k + 1 := ⟨f - 1, by omega⟩
          rw [Nat.pow_succ]; simp; omega
        rw [this]
        exact Nat.mul_lt_mul_of_pos_right hx hpk)
      have := less_be [] [] f (t % 256 * 256 ^ (f - 1)) (u % 256 * 256 ^ (f - 1))
      rw [List.append_nil, List.append_nil, hb _ hm1, hb _ hm2] at this
      unfold fin
      rw [if_neg hf, if_neg hf, this]
      simp [Go.Op.bytesLess, Nat.mul_lt_mul_right hpk]
  rw [hfin]
  simp
  rw [Bool.eq_iff_iff]
  simp
  omega
theorem less_eVal {t u c f : Int} (ht : eErr t c f = 0) (hu : eErr u c f = 0) (h0 : f = 0 → t % 256 = 0 ∧ u % 256 = 0) :
    Go.Op.bytesLess (str (eVal t c f)).toList (str (eVal u c f)).toList = decide (t < u) := by
  obtain ⟨h1, h2, h3⟩ := eErr_zero ht
  obtain ⟨_, h4, h5⟩ := eErr_zero hu
  rw [eVal_ok ht, eVal_ok hu, str_toList, str_toList]
  obtain ⟨C, F, rfl, rfl, hC1, hC4, hF⟩ := cvl_nat h1
  obtain ⟨T, rfl⟩ := Int.eq_ofNat_of_zero_le h2
  obtain ⟨U, rfl⟩ := Int.eq_ofNat_of_zero_le h4
  simp only [capT, Int.toNat_natCast] at h3 h5 ⊢
  rw [less_code T U C F (by omega) (by omega) (fun h => by have := h0 (by omega); omega) hF]
  simp
end Go.Proofs.Ytboapfkgkehfcaa
