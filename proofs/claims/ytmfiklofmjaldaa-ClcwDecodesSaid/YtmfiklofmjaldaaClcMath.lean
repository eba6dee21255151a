/-
  Plain mathematics of link control words, no Go in sight: when a word is valid, its four bytes, what four bytes state; both ways fit.
-/
import Derived.Test.YtmfiklofmjaldaaPacMath
namespace Go.Proofs.Ytmfiklofmjaldaa.Clc
open Go.Proofs.Ytmfiklofmjaldaa.Pac

/-- a control word -/
structure Cw where
  ch : Int
  lk : Bool
  wt : Bool
  rt : Bool
  bp : Int
  nx : Int
deriving DecidableEq

def Cw.Fits (c : Cw) : Prop := 0 ≤ c.ch ∧ c.ch ≤ 7 ∧ 0 ≤ c.bp ∧ c.bp ≤ 3 ∧ 0 ≤ c.nx ∧ c.nx ≤ 255
instance (c : Cw) : Decidable c.Fits := by unfold Cw.Fits; infer_instance
def Cw.ok (c : Cw) : Bool := decide c.Fits
theorem Cw.ok_fits {c : Cw} (h : c.ok = true) : c.Fits := of_decide_eq_true h
theorem Cw.ok_yes {c : Cw} (h : c.Fits) : c.ok = true := decide_eq_true h
theorem Cw.ok_no {c : Cw} (h : ¬ c.Fits) : c.ok = false := decide_eq_false h

/-- the third byte's number -/
def fl3 (lk wt rt : Bool) (B : Nat) : Nat := (if lk then 32 else 0) + (if wt then 16 else 0) + (if rt then 8 else 0) + 2 * B
theorem fl3_lt (lk wt rt : Bool) (B : Nat) (h : B < 4) : fl3 lk wt rt B < 64 := by unfold fl3; cases lk <;> cases wt <;> cases rt <;> simp <;> omega
/-- four bytes of three numbers -/
def wd4 (C F Q : Nat) : List Byte := [1#8, BitVec.ofNat 8 (4 * C), BitVec.ofNat 8 F, BitVec.ofNat 8 Q]
theorem wd4_len (C F Q : Nat) : (wd4 C F Q).length = 4 := rfl
def Cw.word (c : Cw) : List Byte := wd4 c.ch.toNat (fl3 c.lk c.wt c.rt c.bp.toNat) c.nx.toNat
/-- what Encode hands back -/
def Cw.enc (c : Cw) : List Byte := if c.ok then c.word else []
def Cw.err (c : Cw) : Int := if c.ok then 0 else 1
theorem Cw.enc_yes {c : Cw} (h : c.ok = true) : c.enc = c.word := by unfold Cw.enc; rw [if_pos h]
theorem Cw.enc_no {c : Cw} (h : c.ok = false) : c.enc = [] := by unfold Cw.enc; rw [h]; rfl
theorem Cw.err_yes {c : Cw} (h : c.ok = true) : c.err = 0 := by unfold Cw.err; rw [if_pos h]
theorem Cw.err_no {c : Cw} (h : c.ok = false) : c.err = 1 := by unfold Cw.err; rw [h]; rfl
theorem Cw.enc_len {c : Cw} (h : c.ok = true) : c.enc.length = 4 := by rw [Cw.enc_yes h]; rfl

/-! ### the Writer's bits are the word -/
theorem packs_wd4 (C F Q : Nat) : Packs (wd4 C F Q) (bitsOf 1 8 ++ bitsOf (4 * C) 8 ++ bitsOf F 8 ++ bitsOf Q 8) :=
  Packs.both (Packs.both (Packs.both (packs_byte 1) (packs_byte (4 * C)) (by simp [bitsOf_len])) (packs_byte F) (by simp [bitsOf_len])) (packs_byte Q) (by simp [bitsOf_len])
theorem word_bits (C B Q : Nat) (lk wt rt : Bool) (hC : C < 8) (hB : B < 4) :
    [] ++ bitsOf 0 1 ++ bitsOf 0 2 ++ bitsOf 0 3 ++ bitsOf 1 2 ++ bitsOf C 6 ++ bitsOf 0 4 ++ bitsOf (nb lk) 1 ++ bitsOf (nb wt) 1 ++ bitsOf (nb rt) 1 ++ bitsOf B 2 ++ bitsOf 0 1 ++ bitsOf Q 8
      = bitsOf 1 8 ++ bitsOf (4 * C) 8 ++ bitsOf (fl3 lk wt rt B) 8 ++ bitsOf Q 8 := by
  have hF := fl3_lt lk wt rt B hB
  have e1 : [] ++ bitsOf 0 1 ++ bitsOf 0 2 ++ bitsOf 0 3 ++ bitsOf 1 2 ++ bitsOf C 6 ++ bitsOf 0 4 ++ bitsOf (nb lk) 1 ++ bitsOf (nb wt) 1 ++ bitsOf (nb rt) 1 ++ bitsOf B 2 ++ bitsOf 0 1
      = bitsOf (65536 + 1024 * C + fl3 lk wt rt B) 24 := by
    rw [List.nil_append, bitsOf_join _ _ _ _ (show 0 < 2 ^ 2 by omega), bitsOf_join _ _ _ _ (show 0 < 2 ^ 3 by omega), bitsOf_join _ _ _ _ (show 1 < 2 ^ 2 by omega), bitsOf_join _ _ _ _ (show C < 2 ^ 6 by omega), bitsOf_join _ _ _ _ (show 0 < 2 ^ 4 by omega),
      bitsOf_join _ _ _ _ (nb_lt lk), bitsOf_join _ _ _ _ (nb_lt wt), bitsOf_join _ _ _ _ (nb_lt rt), bitsOf_join _ _ _ _ (show B < 2 ^ 2 by omega), bitsOf_join _ _ _ _ (show 0 < 2 ^ 1 by omega)]
    congr 1
    cases lk <;> cases wt <;> cases rt <;> simp [nb, fl3] <;> omega
  have e2 : bitsOf 1 8 ++ bitsOf (4 * C) 8 ++ bitsOf (fl3 lk wt rt B) 8 = bitsOf (65536 + 1024 * C + fl3 lk wt rt B) 24 := by
    rw [bitsOf_join _ _ _ _ (show 4 * C < 2 ^ 8 by omega), bitsOf_join _ _ _ _ (show fl3 lk wt rt B < 2 ^ 8 by omega)]
    congr 1
    omega
  rw [e1, e2]
theorem word_of {bs : List Byte} (C B Q : Nat) (lk wt rt : Bool) (hC : C < 8) (hB : B < 4)
    (h : Packs bs ([] ++ bitsOf 0 1 ++ bitsOf 0 2 ++ bitsOf 0 3 ++ bitsOf 1 2 ++ bitsOf C 6 ++ bitsOf 0 4 ++ bitsOf (nb lk) 1 ++ bitsOf (nb wt) 1 ++ bitsOf (nb rt) 1 ++ bitsOf B 2 ++ bitsOf 0 1 ++ bitsOf Q 8)) : bs = wd4 C (fl3 lk wt rt B) Q := by
  rw [word_bits C B Q lk wt rt hC hB] at h
  exact Packs.unique h (packs_wd4 _ _ _)

/-! ### what four bytes state -/
def rd (l : List Byte) : Cw := ⟨((b8 l 1 / 4 : Nat) : Int), decide (b8 l 2 / 32 % 2 = 1), decide (b8 l 2 / 16 % 2 = 1), decide (b8 l 2 / 8 % 2 = 1), ((b8 l 2 / 2 % 4 : Nat) : Int), ((b8 l 3 : Nat) : Int)⟩
def noCw : Cw := ⟨0, false, false, false, 0, 0⟩
/-- the fields that every word has in common -/
def fm (l : List Byte) : Bool := decide (b8 l 0 = 1 ∧ b8 l 1 % 4 = 0 ∧ b8 l 2 / 64 = 0 ∧ b8 l 2 % 2 = 0)
def gd (l : List Byte) : Bool := fm l && (rd l).ok
def deE (l : List Byte) : Int := if l.length < 4 then 3 else if 4 < l.length then 6 else if gd l then 0 else 4
def deP (l : List Byte) : Cw := if deE l = 0 then rd l else noCw
theorem de_short {l : List Byte} (h : l.length < 4) : deE l = 3 ∧ deP l = noCw := by
  have e : deE l = 3 := by unfold deE; rw [if_pos h]
  exact ⟨e, by unfold deP; rw [e]; rfl⟩
theorem de_long {l : List Byte} (h : 4 < l.length) : deE l = 6 ∧ deP l = noCw := by
  have e : deE l = 6 := by unfold deE; rw [if_neg (by omega), if_pos h]
  exact ⟨e, by unfold deP; rw [e]; rfl⟩
theorem de_form {l : List Byte} (h : l.length = 4) (h4 : gd l = false) : deE l = 4 ∧ deP l = noCw := by
  have e : deE l = 4 := by unfold deE; rw [if_neg (by omega), if_neg (by omega), h4]; rfl
  exact ⟨e, by unfold deP; rw [e]; rfl⟩
theorem de_good {l : List Byte} (h : l.length = 4) (h4 : gd l = true) : deE l = 0 ∧ deP l = rd l := by
  have e : deE l = 0 := by unfold deE; rw [if_neg (by omega), if_neg (by omega), h4]; rfl
  exact ⟨e, by unfold deP; rw [if_pos e]⟩
theorem de_zero {l : List Byte} (h : deE l = 0) : l.length = 4 ∧ gd l = true := by
  by_cases a : l.length < 4
  · rw [(de_short a).1] at h; cases h
  by_cases b : 4 < l.length
  · rw [(de_long b).1] at h; cases h
  cases c : gd l with
  | false => rw [(de_form (by omega) c).1] at h; cases h
  | true => exact ⟨by omega, rfl⟩
theorem de_else {l : List Byte} (h : deE l ≠ 0) : deP l = noCw := by unfold deP; rw [if_neg h]

/-! ### the Reader's numbers -/
section
variable {bs : List Byte} {x0 x1 x2 x3 : Byte}
theorem n_kind (h0 : bs[0]? = some x0) : numAt bs 0 1 = x0.toNat / 128 := by
  rw [num_piece 0 1 x0 (by decide) h0]
  have := x0.isLt
  simp only [Nat.reduceMod, Nat.reducePow, Nat.reduceSub]
  omega
theorem n_vers (h0 : bs[0]? = some x0) : numAt bs 1 2 = x0.toNat / 32 % 4 := by
  rw [num_piece 1 2 x0 (by decide) h0]
  have := x0.isLt
  simp only [Nat.reduceMod, Nat.reducePow, Nat.reduceSub]
  omega
theorem n_stat (h0 : bs[0]? = some x0) : numAt bs 3 3 = x0.toNat / 4 % 8 := by
  rw [num_piece 3 3 x0 (by decide) h0]
  have := x0.isLt
  simp only [Nat.reduceMod, Nat.reducePow, Nat.reduceSub]
  omega
theorem n_proc (h0 : bs[0]? = some x0) : numAt bs 6 2 = x0.toNat % 4 := by
  rw [num_piece 6 2 x0 (by decide) h0]
  have := x0.isLt
  simp only [Nat.reduceMod, Nat.reducePow, Nat.reduceSub]
  omega
theorem n_chan (h1 : bs[1]? = some x1) : numAt bs 8 6 = x1.toNat / 4 := by
  rw [num_piece 8 6 x1 (by decide) h1]
  have := x1.isLt
  simp only [Nat.reduceMod, Nat.reducePow, Nat.reduceSub]
  omega
theorem n_spare (h1 : bs[1]? = some x1) (h2 : bs[2]? = some x2) : numAt bs 14 4 = x1.toNat % 4 * 4 + x2.toNat / 64 := by
  rw [show 4 = 2 + 2 from rfl, numAt_add, num_piece 14 2 x1 (by decide) h1, num_piece (14 + 2) 2 x2 (by decide) h2]
  have := x1.isLt
  have := x2.isLt
  simp only [Nat.reduceMod, Nat.reducePow, Nat.reduceSub, Nat.reduceAdd]
  omega
theorem n_lock (h2 : bs[2]? = some x2) : numAt bs 18 1 = x2.toNat / 32 % 2 := by
  rw [num_piece 18 1 x2 (by decide) h2]
  have := x2.isLt
  simp only [Nat.reduceMod, Nat.reducePow, Nat.reduceSub]
  omega
theorem n_wait (h2 : bs[2]? = some x2) : numAt bs 19 1 = x2.toNat / 16 % 2 := by
  rw [num_piece 19 1 x2 (by decide) h2]
  have := x2.isLt
  simp only [Nat.reduceMod, Nat.reducePow, Nat.reduceSub]
  omega
theorem n_retr (h2 : bs[2]? = some x2) : numAt bs 20 1 = x2.toNat / 8 % 2 := by
  rw [num_piece 20 1 x2 (by decide) h2]
  have := x2.isLt
  simp only [Nat.reduceMod, Nat.reducePow, Nat.reduceSub]
  omega
theorem n_byp (h2 : bs[2]? = some x2) : numAt bs 21 2 = x2.toNat / 2 % 4 := by
  rw [num_piece 21 2 x2 (by decide) h2]
  have := x2.isLt
  simp only [Nat.reduceMod, Nat.reducePow, Nat.reduceSub]
  omega
theorem n_last (h2 : bs[2]? = some x2) : numAt bs 23 1 = x2.toNat % 2 := by
  rw [num_piece 23 1 x2 (by decide) h2]
  have := x2.isLt
  simp only [Nat.reduceMod, Nat.reducePow, Nat.reduceSub]
  omega
theorem n_next (h3 : bs[3]? = some x3) : numAt bs 24 8 = x3.toNat := by
  rw [num_piece 24 8 x3 (by decide) h3]
  have := x3.isLt
  simp only [Nat.reduceMod, Nat.reducePow, Nat.reduceSub]
  omega
end
/-- the fields that must be zero, joined -/
def zs (l : List Byte) : Nat := (((b8 l 0 / 128 ||| b8 l 0 / 32 % 4) ||| b8 l 0 / 4 % 8) ||| (b8 l 1 % 4 * 4 + b8 l 2 / 64)) ||| b8 l 2 % 2
theorem fm_zs (l : List Byte) : fm l = (decide (zs l = 0) && decide (b8 l 0 % 4 = 1)) := by
  have b0 := b8_lt l 0
  have b1 := b8_lt l 1
  have b2 := b8_lt l 2
  unfold fm zs
  rw [Bool.eq_iff_iff]
  simp only [Bool.and_eq_true, decide_eq_true_eq, Nat.or_eq_zero_iff]
  omega

/-! ### both ways -/
theorem all8 {p : BitVec 8 → Prop} (h : ∀ n : Fin 256, p (BitVec.ofFin n)) (x : BitVec 8) : p x := h x.toFin
theorem byte1 : ∀ x : BitVec 8, (BitVec.ofNat 8 (4 * (x.toNat / 4)) = x ↔ x.toNat % 4 = 0) := all8 (by decide +kernel)
theorem byte2 : ∀ x : BitVec 8, (BitVec.ofNat 8 (fl3 (decide (x.toNat / 32 % 2 = 1)) (decide (x.toNat / 16 % 2 = 1)) (decide (x.toNat / 8 % 2 = 1)) (x.toNat / 2 % 4)) = x ↔ x.toNat / 64 = 0 ∧ x.toNat % 2 = 0) := all8 (by decide +kernel)
theorem byte0 : ∀ x : BitVec 8, (1#8 = x ↔ x.toNat = 1) := all8 (by decide +kernel)
theorem word_rd {l : List Byte} (h : l.length = 4) : (rd l).word = l ↔ fm l = true := by
  match l, h with
  | [x0, x1, x2, x3], _ =>
    have e : (rd [x0, x1, x2, x3]).word = [1#8, BitVec.ofNat 8 (4 * (x1.toNat / 4)), BitVec.ofNat 8 (fl3 (decide (x2.toNat / 32 % 2 = 1)) (decide (x2.toNat / 16 % 2 = 1)) (decide (x2.toNat / 8 % 2 = 1)) (x2.toNat / 2 % 4)), BitVec.ofNat 8 x3.toNat] := rfl
    rw [e]
    have e3 : BitVec.ofNat 8 x3.toNat = x3 := by simp
    simp only [List.cons.injEq, and_true, byte0, byte1, byte2, e3]
    unfold fm
    rw [decide_eq_true_iff]
    show _ ↔ x0.toNat = 1 ∧ x1.toNat % 4 = 0 ∧ x2.toNat / 64 = 0 ∧ x2.toNat % 2 = 0
    exact Iff.rfl
theorem gd_enc {l : List Byte} (h : l.length = 4) (h4 : (rd l).ok = true) : gd l = decide ((rd l).enc = l) := by
  rw [Bool.eq_iff_iff, decide_eq_true_iff, Cw.enc_yes h4, word_rd h]
  unfold gd
  rw [h4, Bool.and_true]
/-- what is accepted is the encoding of a valid word -/
theorem enc_dec {l : List Byte} (h : deE l = 0) : (deP l).ok = true ∧ (deP l).enc = l := by
  obtain ⟨h1, h4⟩ := de_zero h
  rw [(de_good h1 h4).2]
  have h5 : (rd l).ok = true := by
    unfold gd at h4
    simp only [Bool.and_eq_true] at h4
    exact h4.2
  refine ⟨h5, ?_⟩
  rw [gd_enc h1 h5] at h4
  exact of_decide_eq_true h4
/-- Decode returns every valid word from its encoding -/
theorem rd_word {c : Cw} (h : c.Fits) : rd c.word = c := by
  obtain ⟨ch, lk, wt, rt, bp, nx⟩ := c
  obtain ⟨h1, h2, h3, h4, h5, h6⟩ := h
  simp only at h1 h2 h3 h4 h5 h6
  obtain ⟨C, rfl⟩ := Int.eq_ofNat_of_zero_le h1
  obtain ⟨B, rfl⟩ := Int.eq_ofNat_of_zero_le h3
  obtain ⟨Q, rfl⟩ := Int.eq_ofNat_of_zero_le h5
  have hF := fl3_lt lk wt rt B (by omega)
  show rd (wd4 C (fl3 lk wt rt B) Q) = _
  have t1 : b8 (wd4 C (fl3 lk wt rt B) Q) 1 = 4 * C := by show (BitVec.ofNat 8 (4 * C)).toNat = _; rw [BitVec.toNat_ofNat]; omega
  have t2 : b8 (wd4 C (fl3 lk wt rt B) Q) 2 = fl3 lk wt rt B := by show (BitVec.ofNat 8 (fl3 lk wt rt B)).toNat = _; rw [BitVec.toNat_ofNat]; omega
  have t3 : b8 (wd4 C (fl3 lk wt rt B) Q) 3 = Q := by show (BitVec.ofNat 8 Q).toNat = _; rw [BitVec.toNat_ofNat]; omega
  unfold rd
  rw [t1, t2, t3]
  have q1 : 4 * C / 4 = C := by omega
  have q2 : decide (fl3 lk wt rt B / 32 % 2 = 1) = lk := by unfold fl3; cases lk <;> cases wt <;> cases rt <;> simp <;> omega
  have q3 : decide (fl3 lk wt rt B / 16 % 2 = 1) = wt := by unfold fl3; cases lk <;> cases wt <;> cases rt <;> simp <;> omega
  have q4 : decide (fl3 lk wt rt B / 8 % 2 = 1) = rt := by unfold fl3; cases lk <;> cases wt <;> cases rt <;> simp <;> omega
  have q5 : fl3 lk wt rt B / 2 % 4 = B := by unfold fl3; cases lk <;> cases wt <;> cases rt <;> simp <;> omega
  rw [q1, q2, q3, q4, q5]
theorem dec_enc {c : Cw} (h : c.ok = true) : deE c.enc = 0 ∧ deP c.enc = c := by
  have hr : rd c.enc = c := by rw [Cw.enc_yes h]; exact rd_word (Cw.ok_fits h)
  have hg : gd c.enc = true := by
    rw [gd_enc (Cw.enc_len h) (by rw [hr]; exact h), hr]
    exact decide_eq_true rfl
  have := de_good (Cw.enc_len h) hg
  rw [hr] at this
  exact this
end Go.Proofs.Ytmfiklofmjaldaa.Clc
