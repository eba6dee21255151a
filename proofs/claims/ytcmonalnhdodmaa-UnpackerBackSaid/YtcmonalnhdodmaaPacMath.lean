/-
  Plain mathematics of space packets, no Go in sight: when a packet is valid, its header's six bytes, what a header states; both ways fit.
-/
import Derived.Test.YtcmonalnhdodmaaBitsMath
namespace Go.Proofs.Ytcmonalnhdodmaa.Pac

/-- a space packet -/
structure Pk where
  com : Bool
  sec : Bool
  ap : Int
  fl : Int
  ct : Int
  d : List Byte
deriving DecidableEq

/-- are all bytes zeros? -/
def zer (l : List Byte) : Bool := l.all fun x => decide (x = 0#8)
theorem zer_nil : zer [] = true := rfl
theorem zer_take {l : List Byte} {k : Nat} {x : Byte} (hx : l[k]? = some x) : zer (l.take (k + 1)) = (zer (l.take k) && decide (x = 0#8)) := by
  rw [List.take_add_one, hx]
  simp [zer]
theorem zer_no {l : List Byte} {k : Nat} {x : Byte} (hx : l[k]? = some x) (h : x ≠ 0#8) : zer l = false := by
  unfold zer
  rw [List.all_eq_false]
  exact ⟨x, List.mem_of_getElem? hx, by simpa using h⟩
theorem zer_rep (n : Nat) : zer (List.replicate n 0#8) = true := by simp [zer]

/-- numbers and length in range -/
def Pk.Fits (p : Pk) : Prop := 0 ≤ p.ap ∧ p.ap ≤ 2047 ∧ 0 ≤ p.fl ∧ p.fl ≤ 3 ∧ 0 ≤ p.ct ∧ p.ct ≤ 16383 ∧ 1 ≤ p.d.length ∧ p.d.length ≤ 4090
instance (p : Pk) : Decidable p.Fits := by unfold Pk.Fits; infer_instance
/-- what an idle packet must be -/
def Pk.idle (p : Pk) : Bool := !p.com && (!p.sec && (decide (p.fl = 3) && (decide (p.ct = 0) && zer p.d)))
def Pk.ok (p : Pk) : Bool := decide p.Fits && (!decide (p.ap = 2047) || p.idle)

theorem Pk.ok_no {p : Pk} (h : ¬ p.Fits) : p.ok = false := by unfold Pk.ok; rw [decide_eq_false h]; rfl
theorem Pk.ok_free {p : Pk} (h : p.Fits) (h2 : p.ap ≠ 2047) : p.ok = true := by unfold Pk.ok; rw [decide_eq_true h, decide_eq_false h2]; rfl
theorem Pk.ok_idle {p : Pk} (h : p.Fits) (h2 : p.ap = 2047) : p.ok = p.idle := by unfold Pk.ok; rw [decide_eq_true h, decide_eq_true h2]; rfl
theorem Pk.ok_fits {p : Pk} (h : p.ok = true) : p.Fits := by
  unfold Pk.ok at h
  simp only [Bool.and_eq_true, decide_eq_true_eq] at h
  exact h.1

/-- the first two bytes' number, the second two's -/
def hd1 (com sec : Bool) (A : Nat) : Nat := (if com then 4096 else 0) + (if sec then 2048 else 0) + A
def hd2 (F T : Nat) : Nat := F * 16384 + T
/-- a header of three numbers -/
def hdr (H C K : Nat) : List Byte := [BitVec.ofNat 8 (H / 256), BitVec.ofNat 8 (H % 256), BitVec.ofNat 8 (C / 256), BitVec.ofNat 8 (C % 256), BitVec.ofNat 8 (K / 256), BitVec.ofNat 8 (K % 256)]
theorem hdr_len (H C K : Nat) : (hdr H C K).length = 6 := rfl
def Pk.head (p : Pk) : List Byte := hdr (hd1 p.com p.sec p.ap.toNat) (hd2 p.fl.toNat p.ct.toNat) (p.d.length - 1)
/-- what Encode hands back -/
def Pk.enc (p : Pk) : List Byte := if p.ok then p.head ++ p.d else []
def Pk.err (p : Pk) : Int := if p.ok then 0 else 1
theorem Pk.enc_yes {p : Pk} (h : p.ok = true) : p.enc = p.head ++ p.d := by unfold Pk.enc; rw [if_pos h]
theorem Pk.enc_no {p : Pk} (h : p.ok = false) : p.enc = [] := by unfold Pk.enc; rw [h]; rfl
theorem Pk.err_yes {p : Pk} (h : p.ok = true) : p.err = 0 := by unfold Pk.err; rw [if_pos h]
theorem Pk.err_no {p : Pk} (h : p.ok = false) : p.err = 1 := by unfold Pk.err; rw [h]; rfl

/-! ### the Writer's bits are the header -/
theorem bitsOf_join (x y a b : Nat) (hy : y < 2 ^ b) : bitsOf x a ++ bitsOf y b = bitsOf (x * 2 ^ b + y) (a + b) := by
  have hp := Nat.two_pow_pos b
  have e1 : (x * 2 ^ b + y) / 2 ^ b = x := by
    rw [Nat.mul_comm, Nat.mul_add_div hp, Nat.div_eq_of_lt hy]; rfl
  have e2 : (x * 2 ^ b + y) % 2 ^ b = y % 2 ^ b := by
    rw [Nat.mul_comm, Nat.mul_add_mod]
  rw [bitsOf_add, e1, ← bitsOf_mod (x * 2 ^ b + y) b, e2, bitsOf_mod]

theorem Packs.both {a b : List Byte} {L M : List Bool} (h : Packs a L) (k : Packs b M) (hL : L.length = 8 * a.length) : Packs (a ++ b) (L ++ M) := by
  refine ⟨by rw [List.length_append, List.length_append, h.len, k.len]; have := h.len; omega, fun i => ?_⟩
  rw [bitAt_app, getD_app, ← hL]
  split
  · exact h.bit i
  · exact k.bit _
theorem packs_byte (X : Nat) : Packs [BitVec.ofNat 8 X] (bitsOf X 8) := by
  refine ⟨by rw [bitsOf_len]; rfl, fun k => ?_⟩
  rw [bitsOf_getD]
  unfold bitAt
  by_cases hk : k < 8
  · rw [show k / 8 = 0 by omega, show k % 8 = k by omega]
    have h7 : 7 - k < 8 := by omega
    rw [List.getD_cons_zero, BitVec.getLsbD_ofNat, decide_eq_true h7, decide_eq_true hk]
  · have : k / 8 = (k / 8 - 1) + 1 := by omega
    rw [this]
    simp [hk]
theorem packs_word (X : Nat) (_hX : X < 65536) : Packs [BitVec.ofNat 8 (X / 256), BitVec.ofNat 8 (X % 256)] (bitsOf X 16) := by
  have h := Packs.both (packs_byte (X / 256)) (packs_byte (X % 256)) (by simp [bitsOf_len])
  rw [bitsOf_join _ _ _ _ (by omega)] at h
  rw [show X / 256 * 2 ^ 8 + X % 256 = X by omega] at h
  exact h
theorem packs_hdr (H C K : Nat) (hH : H < 65536) (hC : C < 65536) (hK : K < 65536) : Packs (hdr H C K) (bitsOf H 16 ++ bitsOf C 16 ++ bitsOf K 16) :=
  Packs.both (Packs.both (packs_word H hH) (packs_word C hC) (by simp [bitsOf_len])) (packs_word K hK) (by simp [bitsOf_len])

def nb (b : Bool) : Nat := if b then 1 else 0
theorem nb_lt (b : Bool) : nb b < 2 ^ 1 := by cases b <;> decide
/-- what the Writer has been given -/
theorem header_bits (com sec : Bool) (A F T K : Nat) (hA : A < 2048) (hT : T < 16384) :
    [] ++ bitsOf 0 3 ++ bitsOf (nb com) 1 ++ bitsOf (nb sec) 1 ++ bitsOf A 11 ++ bitsOf F 2 ++ bitsOf T 14 ++ bitsOf K 16 = bitsOf (hd1 com sec A) 16 ++ bitsOf (hd2 F T) 16 ++ bitsOf K 16 := by
  rw [List.nil_append, bitsOf_join _ _ _ _ (nb_lt com), bitsOf_join _ _ _ _ (nb_lt sec), bitsOf_join _ _ _ _ (show A < 2 ^ 11 by omega), List.append_assoc (bitsOf _ _) (bitsOf F 2), bitsOf_join _ _ _ _ (show T < 2 ^ 14 by omega)]
  have e : ((0 * 2 ^ 1 + nb com) * 2 ^ 1 + nb sec) * 2 ^ 11 + A = hd1 com sec A := by cases com <;> cases sec <;> simp [nb, hd1] <;> omega
  rw [e]
  rfl
theorem head_of {bs : List Byte} (com sec : Bool) (A F T K : Nat) (hA : A < 2048) (hF : F < 4) (hT : T < 16384) (hK : K < 65536)
    (h : Packs bs ([] ++ bitsOf 0 3 ++ bitsOf (nb com) 1 ++ bitsOf (nb sec) 1 ++ bitsOf A 11 ++ bitsOf F 2 ++ bitsOf T 14 ++ bitsOf K 16)) : bs = hdr (hd1 com sec A) (hd2 F T) K := by
  rw [header_bits com sec A F T K hA hT] at h
  have hH : hd1 com sec A < 65536 := by unfold hd1; cases com <;> cases sec <;> simp <;> omega
  have hC : hd2 F T < 65536 := by unfold hd2; omega
  exact Packs.unique h (packs_hdr _ _ _ hH hC hK)

/-! ### what a header states -/
def b8 (l : List Byte) (k : Nat) : Nat := (l.getD k 0#8).toNat
theorem b8_lt (l : List Byte) (k : Nat) : b8 l k < 256 := (l.getD k 0#8).isLt
theorem b8_at {l : List Byte} {k : Nat} {x : Byte} (h : l[k]? = some x) : b8 l k = x.toNat := by unfold b8; rw [List.getD_eq_getElem?_getD, h]; rfl
/-- the length in all -/
def tot (l : List Byte) : Nat := 7 + 256 * b8 l 4 + b8 l 5
def siE (l : List Byte) : Int := if l.length < 6 then 3 else if 32 ≤ b8 l 0 then 4 else if 4096 < tot l then 6 else 0
def siN (l : List Byte) : Nat := if l.length < 6 then 0 else if 32 ≤ b8 l 0 then 0 else if 4096 < tot l then 0 else tot l
/-- the packet that the bytes state -/
def rd (l : List Byte) : Pk :=
  ⟨decide (b8 l 0 / 16 % 2 = 1), decide (b8 l 0 / 8 % 2 = 1), ((256 * b8 l 0 + b8 l 1) % 2048 : Nat), ((256 * b8 l 2 + b8 l 3) / 16384 : Nat), ((256 * b8 l 2 + b8 l 3) % 16384 : Nat), (l.drop 6).take (tot l - 6)⟩
def noPk : Pk := ⟨false, false, 0, 0, 0, []⟩
def deE (l : List Byte) : Int := if siE l = 0 then (if l.length < tot l then 3 else if (rd l).ok then 0 else 4) else siE l
def deP (l : List Byte) : Pk := if deE l = 0 then rd l else noPk
def deN (l : List Byte) : Nat := if deE l = 0 then tot l else 0

theorem siE_short {l : List Byte} (h : l.length < 6) : siE l = 3 ∧ siN l = 0 := by unfold siE siN; rw [if_pos h, if_pos h]; exact ⟨rfl, rfl⟩
theorem siE_form {l : List Byte} (h : ¬ l.length < 6) (h2 : 32 ≤ b8 l 0) : siE l = 4 ∧ siN l = 0 := by unfold siE siN; rw [if_neg h, if_pos h2, if_neg h, if_pos h2]; exact ⟨rfl, rfl⟩
theorem siE_long {l : List Byte} (h : ¬ l.length < 6) (h2 : ¬ 32 ≤ b8 l 0) (h3 : 4096 < tot l) : siE l = 6 ∧ siN l = 0 := by
  unfold siE siN; rw [if_neg h, if_neg h2, if_pos h3, if_neg h, if_neg h2, if_pos h3]; exact ⟨rfl, rfl⟩
theorem siE_good {l : List Byte} (h : ¬ l.length < 6) (h2 : ¬ 32 ≤ b8 l 0) (h3 : ¬ 4096 < tot l) : siE l = 0 ∧ siN l = tot l := by
  unfold siE siN; rw [if_neg h, if_neg h2, if_neg h3, if_neg h, if_neg h2, if_neg h3]; exact ⟨rfl, rfl⟩
theorem siE_zero {l : List Byte} (h : siE l = 0) : ¬ l.length < 6 ∧ ¬ 32 ≤ b8 l 0 ∧ ¬ 4096 < tot l := by
  unfold siE at h
  refine ⟨fun c => ?_, fun c => ?_, fun c => ?_⟩
  · rw [if_pos c] at h; cases h
  · by_cases a : l.length < 6
    · rw [if_pos a] at h; cases h
    · rw [if_neg a, if_pos c] at h; cases h
  · by_cases a : l.length < 6
    · rw [if_pos a] at h; cases h
    · by_cases b : 32 ≤ b8 l 0
      · rw [if_neg a, if_pos b] at h; cases h
      · rw [if_neg a, if_neg b, if_pos c] at h; cases h
theorem de_err {l : List Byte} (h : siE l ≠ 0) : deE l = siE l ∧ deP l = noPk ∧ deN l = 0 := by
  have e : deE l = siE l := by unfold deE; rw [if_neg h]
  refine ⟨e, ?_, ?_⟩
  · unfold deP; rw [e, if_neg h]
  · unfold deN; rw [e, if_neg h]
theorem de_short {l : List Byte} (h : siE l = 0) (h2 : l.length < tot l) : deE l = 3 ∧ deP l = noPk ∧ deN l = 0 := by
  have e : deE l = 3 := by unfold deE; rw [if_pos h, if_pos h2]
  exact ⟨e, by unfold deP; rw [e]; rfl, by unfold deN; rw [e]; rfl⟩
theorem de_form {l : List Byte} (h : siE l = 0) (h2 : ¬ l.length < tot l) (h3 : (rd l).ok = false) : deE l = 4 ∧ deP l = noPk ∧ deN l = 0 := by
  have e : deE l = 4 := by unfold deE; rw [if_pos h, if_neg h2, h3]; rfl
  exact ⟨e, by unfold deP; rw [e]; rfl, by unfold deN; rw [e]; rfl⟩
theorem de_good {l : List Byte} (h : siE l = 0) (h2 : ¬ l.length < tot l) (h3 : (rd l).ok = true) : deE l = 0 ∧ deP l = rd l ∧ deN l = tot l := by
  have e : deE l = 0 := by unfold deE; rw [if_pos h, if_neg h2, h3]; rfl
  exact ⟨e, by unfold deP; rw [if_pos e], by unfold deN; rw [if_pos e]⟩
theorem de_zero {l : List Byte} (h : deE l = 0) : siE l = 0 ∧ ¬ l.length < tot l ∧ (rd l).ok = true := by
  unfold deE at h
  by_cases a : siE l = 0
  · by_cases b : l.length < tot l
    · rw [if_pos a, if_pos b] at h; cases h
    · cases c : (rd l).ok with
      | true => exact ⟨a, b, rfl⟩
      | false => rw [if_pos a, if_neg b, c] at h; cases h
  · rw [if_neg a] at h; exact absurd h a

/-! ### the Reader's numbers -/
section
variable {bs : List Byte} {x0 x1 x2 x3 x4 x5 : Byte}
theorem num_piece (p s : Nat) (x : Byte) (hs : p % 8 + s ≤ 8) (hx : bs[p / 8]? = some x) : numAt bs p s = x.toNat * 2 ^ (p % 8) % 256 / 2 ^ (8 - s) := (numAt_piece bs p s x hs hx).symm
theorem num_ver (h0 : bs[0]? = some x0) : numAt bs 0 3 = x0.toNat / 32 := by
  rw [num_piece 0 3 x0 (by decide) h0]
  have := x0.isLt
  simp only [Nat.reduceMod, Nat.reducePow, Nat.reduceSub]
  omega
theorem num_com (h0 : bs[0]? = some x0) : numAt bs 3 1 = x0.toNat / 16 % 2 := by
  rw [num_piece 3 1 x0 (by decide) h0]
  have := x0.isLt
  simp only [Nat.reduceMod, Nat.reducePow, Nat.reduceSub]
  omega
theorem num_sec (h0 : bs[0]? = some x0) : numAt bs 4 1 = x0.toNat / 8 % 2 := by
  rw [num_piece 4 1 x0 (by decide) h0]
  have := x0.isLt
  simp only [Nat.reduceMod, Nat.reducePow, Nat.reduceSub]
  omega
theorem num_ap (h0 : bs[0]? = some x0) (h1 : bs[1]? = some x1) : numAt bs 5 11 = (256 * x0.toNat + x1.toNat) % 2048 := by
  rw [show 11 = 3 + 8 from rfl, numAt_add, num_piece 5 3 x0 (by decide) h0, num_piece (5 + 3) 8 x1 (by decide) h1]
  have := x0.isLt
  have := x1.isLt
  simp only [Nat.reduceMod, Nat.reducePow, Nat.reduceSub, Nat.reduceAdd]
  omega
theorem num_fl (h2 : bs[2]? = some x2) : numAt bs 16 2 = (256 * x2.toNat + x3.toNat) / 16384 := by
  rw [num_piece 16 2 x2 (by decide) h2]
  have := x2.isLt
  have := x3.isLt
  simp only [Nat.reduceMod, Nat.reducePow, Nat.reduceSub]
  omega
theorem num_ct (h2 : bs[2]? = some x2) (h3 : bs[3]? = some x3) : numAt bs 18 14 = (256 * x2.toNat + x3.toNat) % 16384 := by
  rw [show 14 = 6 + 8 from rfl, numAt_add, num_piece 18 6 x2 (by decide) h2, num_piece (18 + 6) 8 x3 (by decide) h3]
  have := x2.isLt
  have := x3.isLt
  simp only [Nat.reduceMod, Nat.reducePow, Nat.reduceSub, Nat.reduceAdd]
  omega
theorem num_len (h4 : bs[4]? = some x4) (h5 : bs[5]? = some x5) : numAt bs 32 16 = 256 * x4.toNat + x5.toNat := by
  rw [show 16 = 8 + 8 from rfl, numAt_add, num_piece 32 8 x4 (by decide) h4, num_piece (32 + 8) 8 x5 (by decide) h5]
  have := x4.isLt
  have := x5.isLt
  simp only [Nat.reduceMod, Nat.reducePow, Nat.reduceSub, Nat.reduceAdd]
  omega
end

/-! ### both ways -/
theorem rd_head {p : Pk} (h : p.Fits) (r : List Byte) : rd (p.head ++ p.d ++ r) = p ∧ tot (p.head ++ p.d ++ r) = 6 + p.d.length ∧ b8 (p.head ++ p.d ++ r) 0 < 32 := by
  obtain ⟨com, sec, ap, fl, ct, d⟩ := p
  obtain ⟨h1, h2, h3, h4, h5, h6, h7, h8⟩ := h
  simp only at h1 h2 h3 h4 h5 h6 h7 h8
  obtain ⟨A, rfl⟩ := Int.eq_ofNat_of_zero_le h1
  obtain ⟨F, rfl⟩ := Int.eq_ofNat_of_zero_le h3
  obtain ⟨T, rfl⟩ := Int.eq_ofNat_of_zero_le h5
  obtain ⟨K, hK⟩ : ∃ K, d.length = K + 1 := ⟨d.length - 1, by omega⟩
  obtain ⟨H, hH⟩ : ∃ H, H = hd1 com sec A := ⟨_, rfl⟩
  obtain ⟨C, hC⟩ : ∃ C, C = hd2 F T := ⟨_, rfl⟩
  have hHl : H < 8192 := by rw [hH]; unfold hd1; cases com <;> cases sec <;> simp <;> omega
  have hCl : C < 65536 := by rw [hC]; unfold hd2; omega
  have e : (Pk.head ⟨com, sec, A, F, T, d⟩ ++ d ++ r) = hdr H C K ++ (d ++ r) := by
    unfold Pk.head
    simp only [Int.toNat_natCast, hK, Nat.add_sub_cancel, List.append_assoc, hH, hC]
  have t0 : b8 (hdr H C K ++ (d ++ r)) 0 = H / 256 := by show (BitVec.ofNat 8 (H / 256)).toNat = _; rw [BitVec.toNat_ofNat]; omega
  have t1 : b8 (hdr H C K ++ (d ++ r)) 1 = H % 256 := by show (BitVec.ofNat 8 (H % 256)).toNat = _; rw [BitVec.toNat_ofNat]; omega
  have t2 : b8 (hdr H C K ++ (d ++ r)) 2 = C / 256 := by show (BitVec.ofNat 8 (C / 256)).toNat = _; rw [BitVec.toNat_ofNat]; omega
  have t3 : b8 (hdr H C K ++ (d ++ r)) 3 = C % 256 := by show (BitVec.ofNat 8 (C % 256)).toNat = _; rw [BitVec.toNat_ofNat]; omega
  have t4 : b8 (hdr H C K ++ (d ++ r)) 4 = K / 256 := by show (BitVec.ofNat 8 (K / 256)).toNat = _; rw [BitVec.toNat_ofNat]; omega
  have t5 : b8 (hdr H C K ++ (d ++ r)) 5 = K % 256 := by show (BitVec.ofNat 8 (K % 256)).toNat = _; rw [BitVec.toNat_ofNat]; omega
  have ht : tot (hdr H C K ++ (d ++ r)) = 7 + K := by unfold tot; rw [t4, t5]; omega
  have hd : ((hdr H C K ++ (d ++ r)).drop 6).take (7 + K - 6) = d := by
    rw [List.drop_left' (hdr_len H C K), show 7 + K - 6 = d.length by omega, List.take_left]
  rw [e]
  refine ⟨?_, by rw [ht, hK]; omega, by rw [t0]; omega⟩
  unfold rd
  rw [ht, hd, t0, t1, t2, t3]
  have q1 : 256 * (H / 256) + H % 256 = H := by omega
  have q2 : 256 * (C / 256) + C % 256 = C := by omega
  rw [q1, q2]
  have q3 : H % 2048 = A := by rw [hH]; unfold hd1; cases com <;> cases sec <;> simp <;> omega
  have q4 : C / 16384 = F := by rw [hC]; unfold hd2; omega
  have q5 : C % 16384 = T := by rw [hC]; unfold hd2; omega
  have q6 : decide (H / 256 / 16 % 2 = 1) = com := by rw [hH]; unfold hd1; cases com <;> cases sec <;> simp <;> omega
  have q7 : decide (H / 256 / 8 % 2 = 1) = sec := by rw [hH]; unfold hd1; cases com <;> cases sec <;> simp <;> omega
  rw [q3, q4, q5, q6, q7]

/-- Decode inverts Encode, whatever follows -/
theorem dec_enc {p : Pk} (h : p.ok = true) (r : List Byte) : deE (p.enc ++ r) = 0 ∧ deP (p.enc ++ r) = p ∧ deN (p.enc ++ r) = p.enc.length := by
  rw [Pk.enc_yes h]
  obtain ⟨h1, h2, h3⟩ := rd_head (Pk.ok_fits h) r
  have hl : (p.head ++ p.d).length = 6 + p.d.length := by rw [List.length_append]; rfl
  have hL : (p.head ++ p.d ++ r).length = 6 + p.d.length + r.length := by rw [List.length_append, hl]
  have hd := (Pk.ok_fits h).2.2.2.2.2.2
  have hs := siE_good (l := p.head ++ p.d ++ r) (by omega) (by omega) (by omega)
  have := de_good hs.1 (by omega) (by rw [h1]; exact h)
  rw [h1, h2] at this
  rw [hl]
  exact this

theorem take_six {l : List Byte} (h : 6 ≤ l.length) : l = BitVec.ofNat 8 (b8 l 0) :: BitVec.ofNat 8 (b8 l 1) :: BitVec.ofNat 8 (b8 l 2) :: BitVec.ofNat 8 (b8 l 3) :: BitVec.ofNat 8 (b8 l 4) :: BitVec.ofNat 8 (b8 l 5) :: l.drop 6 := by
  match l, h with
  | a0 :: a1 :: a2 :: a3 :: a4 :: a5 :: r, _ => simp [b8]
/-- the bytes that Decode consumes are the encoding of the packet that it returns -/
theorem enc_dec {l : List Byte} (h : deE l = 0) : (deP l).ok = true ∧ (deP l).enc = l.take (deN l) ∧ deN l ≤ l.length := by
  obtain ⟨h1, h2, h3⟩ := de_zero h
  obtain ⟨_, e2, e3⟩ := de_good h1 h2 h3
  obtain ⟨s1, s2, s3⟩ := siE_zero h1
  rw [e2, e3]
  refine ⟨h3, ?_, by omega⟩
  rw [Pk.enc_yes h3]
  have b0 := b8_lt l 0
  have b1 := b8_lt l 1
  have b2 := b8_lt l 2
  have b3 := b8_lt l 3
  have b4 := b8_lt l 4
  have b5 := b8_lt l 5
  have hl : (rd l).d.length = tot l - 6 := by
    show ((l.drop 6).take (tot l - 6)).length = _
    rw [List.length_take, List.length_drop]; omega
  have hh : (rd l).head = hdr (256 * b8 l 0 + b8 l 1) (256 * b8 l 2 + b8 l 3) (256 * b8 l 4 + b8 l 5) := by
    unfold Pk.head
    rw [hl]
    have q1 : hd1 (rd l).com (rd l).sec (rd l).ap.toNat = 256 * b8 l 0 + b8 l 1 := by
      unfold hd1
      show (if decide (b8 l 0 / 16 % 2 = 1) = true then 4096 else 0) + (if decide (b8 l 0 / 8 % 2 = 1) = true then 2048 else 0) + (256 * b8 l 0 + b8 l 1) % 2048 = _
      simp only [decide_eq_true_eq]
      split <;> split <;> omega
    have q2 : hd2 (rd l).fl.toNat (rd l).ct.toNat = 256 * b8 l 2 + b8 l 3 := by
      unfold hd2
      show (256 * b8 l 2 + b8 l 3) / 16384 * 16384 + (256 * b8 l 2 + b8 l 3) % 16384 = _
      omega
    have q3 : tot l - 6 - 1 = 256 * b8 l 4 + b8 l 5 := by unfold tot; omega
    rw [q1, q2, q3]
  have e : l.take (tot l) = l.take 6 ++ (l.drop 6).take (tot l - 6) := by
    rw [← List.take_add]
    congr 1
    unfold tot; omega
  rw [e, hh]
  have f : hdr (256 * b8 l 0 + b8 l 1) (256 * b8 l 2 + b8 l 3) (256 * b8 l 4 + b8 l 5) = l.take 6 := by
    have g := take_six (l := l) (by omega)
    unfold hdr
    rw [show (256 * b8 l 0 + b8 l 1) / 256 = b8 l 0 by omega, show (256 * b8 l 0 + b8 l 1) % 256 = b8 l 1 by omega, show (256 * b8 l 2 + b8 l 3) / 256 = b8 l 2 by omega, show (256 * b8 l 2 + b8 l 3) % 256 = b8 l 3 by omega,
      show (256 * b8 l 4 + b8 l 5) / 256 = b8 l 4 by omega, show (256 * b8 l 4 + b8 l 5) % 256 = b8 l 5 by omega]
    conv => rhs; rw [g]
    rfl
  rw [f]
  rfl
end Go.Proofs.Ytcmonalnhdodmaa.Pac
