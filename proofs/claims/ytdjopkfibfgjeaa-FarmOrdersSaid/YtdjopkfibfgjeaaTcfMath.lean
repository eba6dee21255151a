/-
  Plain mathematics of telecommand frames, no Go in sight: when a frame is valid, its header's five bytes, what a header states; both ways fit; errors within 16 bits are detected; directives.
-/
import Derived.Test.YtdjopkfibfgjeaaPacMath
import Derived.Test.YtdjopkfibfgjeaaCrcBurst
namespace Go.Proofs.Ytdjopkfibfgjeaa.Tcf
open Go.Proofs.Ytdjopkfibfgjeaa.Pac

/-- a telecommand frame -/
structure Fr where
  byp : Bool
  con : Bool
  cr : Int
  ch : Int
  sq : Int
  d : List Byte
deriving DecidableEq

/-- numbers and length in range -/
def Fr.Fits (f : Fr) : Prop := 0 ≤ f.cr ∧ f.cr ≤ 1023 ∧ 0 ≤ f.ch ∧ f.ch ≤ 7 ∧ 0 ≤ f.sq ∧ f.sq ≤ 255 ∧ 1 ≤ f.d.length ∧ f.d.length ≤ 1017
instance (f : Fr) : Decidable f.Fits := by unfold Fr.Fits; infer_instance
def Fr.ok (f : Fr) : Bool := decide f.Fits && (f.byp || !f.con)
theorem Fr.ok_no {f : Fr} (h : ¬ f.Fits) : f.ok = false := by unfold Fr.ok; rw [decide_eq_false h]; rfl
theorem Fr.ok_yes {f : Fr} (h : f.Fits) : f.ok = (f.byp || !f.con) := by unfold Fr.ok; rw [decide_eq_true h]; rfl
theorem Fr.ok_fits {f : Fr} (h : f.ok = true) : f.Fits := by
  unfold Fr.ok at h
  simp only [Bool.and_eq_true, decide_eq_true_eq] at h
  exact h.1

/-- the first two bytes' number, the second two's -/
def hd (byp con : Bool) (C : Nat) : Nat := (if byp then 8192 else 0) + (if con then 4096 else 0) + C
def sd (H K : Nat) : Nat := H * 1024 + K
theorem hd_lt (byp con : Bool) (C : Nat) (hC : C < 1024) : hd byp con C < 16384 := by unfold hd; cases byp <;> cases con <;> simp <;> omega
/-- a header of three numbers -/
def hdr5 (H S Q : Nat) : List Byte := [BitVec.ofNat 8 (H / 256), BitVec.ofNat 8 (H % 256), BitVec.ofNat 8 (S / 256), BitVec.ofNat 8 (S % 256), BitVec.ofNat 8 Q]
theorem hdr5_len (H S Q : Nat) : (hdr5 H S Q).length = 5 := rfl
def Fr.head (f : Fr) : List Byte := hdr5 (hd f.byp f.con f.cr.toNat) (sd f.ch.toNat (f.d.length + 6)) f.sq.toNat
theorem Fr.head_len (f : Fr) : f.head.length = 5 := rfl
/-- what Encode hands back -/
def Fr.enc (f : Fr) : List Byte := if f.ok then ap16 (f.head ++ f.d) else []
def Fr.err (f : Fr) : Int := if f.ok then 0 else 1
theorem Fr.enc_yes {f : Fr} (h : f.ok = true) : f.enc = ap16 (f.head ++ f.d) := by unfold Fr.enc; rw [if_pos h]
theorem Fr.enc_no {f : Fr} (h : f.ok = false) : f.enc = [] := by unfold Fr.enc; rw [h]; rfl
theorem Fr.err_yes {f : Fr} (h : f.ok = true) : f.err = 0 := by unfold Fr.err; rw [if_pos h]
theorem Fr.err_no {f : Fr} (h : f.ok = false) : f.err = 1 := by unfold Fr.err; rw [h]; rfl

theorem ap16_len (l : List Byte) : (ap16 l).length = l.length + 2 := by unfold ap16; rw [List.length_append]; rfl
theorem ap16_take (l : List Byte) : (ap16 l).take l.length = l := by unfold ap16; rw [List.take_left]
theorem ck16_ap (l : List Byte) : ck16 (ap16 l) = true := by
  unfold ck16
  rw [decide_eq_true_iff, ap16_len]
  refine ⟨by omega, ?_⟩
  rw [show l.length + 2 - 2 = l.length by omega, ap16_take]
theorem Fr.enc_len {f : Fr} (h : f.ok = true) : f.enc.length = f.d.length + 7 := by
  rw [Fr.enc_yes h, ap16_len, List.length_append, Fr.head_len]
  omega

/-! ### the Writer's bits are the header -/
theorem packs_hdr5 (H S Q : Nat) (hH : H < 65536) (hS : S < 65536) : Packs (hdr5 H S Q) (bitsOf H 16 ++ bitsOf S 16 ++ bitsOf Q 8) :=
  Packs.both (Packs.both (packs_word H hH) (packs_word S hS) (by simp [bitsOf_len])) (packs_byte Q) (by simp [bitsOf_len])
/-- what the Writer has been given -/
theorem header_bits (byp con : Bool) (C H K Q : Nat) (hC : C < 1024) (hK : K < 1024) :
    [] ++ bitsOf 0 2 ++ bitsOf (nb byp) 1 ++ bitsOf (nb con) 1 ++ bitsOf 0 2 ++ bitsOf C 10 ++ bitsOf H 6 ++ bitsOf K 10 ++ bitsOf Q 8 = bitsOf (hd byp con C) 16 ++ bitsOf (sd H K) 16 ++ bitsOf Q 8 := by
  rw [List.nil_append, bitsOf_join _ _ _ _ (nb_lt byp), bitsOf_join _ _ _ _ (nb_lt con), bitsOf_join _ _ _ _ (show 0 < 2 ^ 2 by omega), bitsOf_join _ _ _ _ (show C < 2 ^ 10 by omega), List.append_assoc (bitsOf _ _) (bitsOf H 6), bitsOf_join _ _ _ _ (show K < 2 ^ 10 by omega)]
  have e : (((0 * 2 ^ 1 + nb byp) * 2 ^ 1 + nb con) * 2 ^ 2 + 0) * 2 ^ 10 + C = hd byp con C := by cases byp <;> cases con <;> simp [nb, hd]
  rw [e]
  rfl
theorem head_of {bs : List Byte} (byp con : Bool) (C H K Q : Nat) (hC : C < 1024) (hH : H < 8) (hK : K < 1024)
    (h : Packs bs ([] ++ bitsOf 0 2 ++ bitsOf (nb byp) 1 ++ bitsOf (nb con) 1 ++ bitsOf 0 2 ++ bitsOf C 10 ++ bitsOf H 6 ++ bitsOf K 10 ++ bitsOf Q 8)) : bs = hdr5 (hd byp con C) (sd H K) Q := by
  rw [header_bits byp con C H K Q hC hK] at h
  have h1 := hd_lt byp con C hC
  have h2 : sd H K < 65536 := by unfold sd; omega
  exact Packs.unique h (packs_hdr5 _ _ _ (by omega) h2)

/-! ### what a header states -/
def fst2 (l : List Byte) : Nat := 256 * b8 l 0 + b8 l 1
def snd2 (l : List Byte) : Nat := 256 * b8 l 2 + b8 l 3
/-- the frame that the bytes state -/
def rd (l : List Byte) : Fr :=
  ⟨decide (b8 l 0 / 32 % 2 = 1), decide (b8 l 0 / 16 % 2 = 1), ((fst2 l % 1024 : Nat) : Int), ((snd2 l / 1024 : Nat) : Int), ((b8 l 4 : Nat) : Int), (l.drop 5).take (l.length - 7)⟩
def noFr : Fr := ⟨false, false, 0, 0, 0, []⟩
/-- version and spare are zero -/
def zr (l : List Byte) : Bool := decide (b8 l 0 / 64 = 0) && decide (b8 l 0 / 4 % 4 = 0)
def sz (l : List Byte) : Nat := snd2 l % 1024 + 1
def gd (l : List Byte) : Bool := zr l && decide (sz l = l.length) && (rd l).ok
def deE (l : List Byte) : Int := if l.length < 8 then 3 else if 1024 < l.length then 6 else if ck16 l then (if gd l then 0 else 4) else 5
def deP (l : List Byte) : Fr := if deE l = 0 then rd l else noFr
theorem de_short {l : List Byte} (h : l.length < 8) : deE l = 3 ∧ deP l = noFr := by
  have e : deE l = 3 := by unfold deE; rw [if_pos h]
  exact ⟨e, by unfold deP; rw [e]; rfl⟩
theorem de_long {l : List Byte} (h : 1024 < l.length) : deE l = 6 ∧ deP l = noFr := by
  have e : deE l = 6 := by unfold deE; rw [if_neg (by omega), if_pos h]
  exact ⟨e, by unfold deP; rw [e]; rfl⟩
theorem de_sum {l : List Byte} (h : 8 ≤ l.length) (h2 : l.length ≤ 1024) (h3 : ck16 l = false) : deE l = 5 ∧ deP l = noFr := by
  have e : deE l = 5 := by unfold deE; rw [if_neg (by omega), if_neg (by omega), h3]; rfl
  exact ⟨e, by unfold deP; rw [e]; rfl⟩
theorem de_form {l : List Byte} (h : 8 ≤ l.length) (h2 : l.length ≤ 1024) (h3 : ck16 l = true) (h4 : gd l = false) : deE l = 4 ∧ deP l = noFr := by
  have e : deE l = 4 := by unfold deE; rw [if_neg (by omega), if_neg (by omega), h3, h4]; rfl
  exact ⟨e, by unfold deP; rw [e]; rfl⟩
theorem de_good {l : List Byte} (h : 8 ≤ l.length) (h2 : l.length ≤ 1024) (h3 : ck16 l = true) (h4 : gd l = true) : deE l = 0 ∧ deP l = rd l := by
  have e : deE l = 0 := by unfold deE; rw [if_neg (by omega), if_neg (by omega), h3, h4]; rfl
  exact ⟨e, by unfold deP; rw [if_pos e]⟩
theorem de_zero {l : List Byte} (h : deE l = 0) : 8 ≤ l.length ∧ l.length ≤ 1024 ∧ ck16 l = true ∧ gd l = true := by
  by_cases a : l.length < 8
  · rw [(de_short a).1] at h; cases h
  by_cases b : 1024 < l.length
  · rw [(de_long b).1] at h; cases h
  cases c : ck16 l with
  | false => rw [(de_sum (by omega) (by omega) c).1] at h; cases h
  | true =>
    cases e : gd l with
    | false => rw [(de_form (by omega) (by omega) c e).1] at h; cases h
    | true => exact ⟨by omega, by omega, rfl, rfl⟩

/-! ### the Reader's numbers -/
section
variable {bs : List Byte} {x0 x1 x2 x3 x4 : Byte}
theorem n_ver (h0 : bs[0]? = some x0) : numAt bs 0 2 = x0.toNat / 64 := by
  rw [num_piece 0 2 x0 (by decide) h0]
  have := x0.isLt
  simp only [Nat.reduceMod, Nat.reducePow, Nat.reduceSub]
  omega
theorem n_byp (h0 : bs[0]? = some x0) : numAt bs 2 1 = x0.toNat / 32 % 2 := by
  rw [num_piece 2 1 x0 (by decide) h0]
  have := x0.isLt
  simp only [Nat.reduceMod, Nat.reducePow, Nat.reduceSub]
  omega
theorem n_con (h0 : bs[0]? = some x0) : numAt bs 3 1 = x0.toNat / 16 % 2 := by
  rw [num_piece 3 1 x0 (by decide) h0]
  have := x0.isLt
  simp only [Nat.reduceMod, Nat.reducePow, Nat.reduceSub]
  omega
theorem n_spare (h0 : bs[0]? = some x0) : numAt bs 4 2 = x0.toNat / 4 % 4 := by
  rw [num_piece 4 2 x0 (by decide) h0]
  have := x0.isLt
  simp only [Nat.reduceMod, Nat.reducePow, Nat.reduceSub]
  omega
theorem n_craft (h0 : bs[0]? = some x0) (h1 : bs[1]? = some x1) : numAt bs 6 10 = (256 * x0.toNat + x1.toNat) % 1024 := by
  rw [show 10 = 2 + 8 from rfl, numAt_add, num_piece 6 2 x0 (by decide) h0, num_piece (6 + 2) 8 x1 (by decide) h1]
  have := x0.isLt
  have := x1.isLt
  simp only [Nat.reduceMod, Nat.reducePow, Nat.reduceSub, Nat.reduceAdd]
  omega
theorem n_chan (h2 : bs[2]? = some x2) : numAt bs 16 6 = (256 * x2.toNat + x3.toNat) / 1024 := by
  rw [num_piece 16 6 x2 (by decide) h2]
  have := x2.isLt
  have := x3.isLt
  simp only [Nat.reduceMod, Nat.reducePow, Nat.reduceSub]
  omega
theorem n_len (h2 : bs[2]? = some x2) (h3 : bs[3]? = some x3) : numAt bs 22 10 = (256 * x2.toNat + x3.toNat) % 1024 := by
  rw [show 10 = 2 + 8 from rfl, numAt_add, num_piece 22 2 x2 (by decide) h2, num_piece (22 + 2) 8 x3 (by decide) h3]
  have := x2.isLt
  have := x3.isLt
  simp only [Nat.reduceMod, Nat.reducePow, Nat.reduceSub, Nat.reduceAdd]
  omega
theorem n_seq (h4 : bs[4]? = some x4) : numAt bs 32 8 = x4.toNat := by
  rw [num_piece 32 8 x4 (by decide) h4]
  have := x4.isLt
  simp only [Nat.reduceMod, Nat.reducePow, Nat.reduceSub]
  omega
end

/-! ### both ways -/
theorem rd_len {l : List Byte} (h : 7 ≤ l.length) : (rd l).d.length = l.length - 7 := by
  show ((l.drop 5).take (l.length - 7)).length = _
  rw [List.length_take, List.length_drop]
  omega
theorem take_five {l : List Byte} (h : 5 ≤ l.length) : l.take 5 = [BitVec.ofNat 8 (b8 l 0), BitVec.ofNat 8 (b8 l 1), BitVec.ofNat 8 (b8 l 2), BitVec.ofNat 8 (b8 l 3), BitVec.ofNat 8 (b8 l 4)] := by
  match l, h with
  | a0 :: a1 :: a2 :: a3 :: a4 :: r, _ => simp [b8]
/-- a header is that of the frame that it states just if its spare bits and length are right -/
theorem head_rd {l : List Byte} (h : 8 ≤ l.length) (h2 : l.length ≤ 1024) : (rd l).head = l.take 5 ↔ zr l = true ∧ sz l = l.length := by
  have b0 := b8_lt l 0
  have b1 := b8_lt l 1
  have b2 := b8_lt l 2
  have b3 := b8_lt l 3
  have b4 := b8_lt l 4
  obtain ⟨H, hH⟩ : ∃ H, H = hd (rd l).byp (rd l).con (rd l).cr.toNat := ⟨_, rfl⟩
  obtain ⟨S, hS⟩ : ∃ S, S = sd (rd l).ch.toNat ((rd l).d.length + 6) := ⟨_, rfl⟩
  have eH : H = (if b8 l 0 / 32 % 2 = 1 then 8192 else 0) + (if b8 l 0 / 16 % 2 = 1 then 4096 else 0) + (256 * b8 l 0 + b8 l 1) % 1024 := by
    rw [hH]
    unfold hd
    show (if decide (b8 l 0 / 32 % 2 = 1) = true then 8192 else 0) + (if decide (b8 l 0 / 16 % 2 = 1) = true then 4096 else 0) + (256 * b8 l 0 + b8 l 1) % 1024 = _
    simp only [decide_eq_true_eq]
  have eS : S = (256 * b8 l 2 + b8 l 3) / 1024 * 1024 + (l.length - 7 + 6) := by
    rw [hS, rd_len (by omega)]
    rfl
  have hle : (rd l).head = hdr5 H S (b8 l 4) := by
    unfold Fr.head
    rw [← hH, ← hS]
    rfl
  have hH2 : H < 16384 := by rw [eH]; split <;> split <;> omega
  have hS2 : S < 66560 := by rw [eS]; omega
  rw [hle, take_five (by omega)]
  unfold hdr5
  have key : (H / 256 % 256 = b8 l 0 ∧ H % 256 = b8 l 1 ∧ S / 256 % 256 = b8 l 2 ∧ S % 256 = b8 l 3) ↔ zr l = true ∧ sz l = l.length := by
    unfold zr sz snd2
    simp only [Bool.and_eq_true, decide_eq_true_eq]
    rw [eH, eS]
    constructor
    · rintro ⟨k1, k2, k3, k4⟩
      refine ⟨?_, by omega⟩
      clear k3 k4 eS hS2
      split at k1 <;> split at k1 <;> omega
    · rintro ⟨⟨k1, k2⟩, k3⟩
      refine ⟨?_, ?_, by omega, by omega⟩
      · clear k3 eS hS2; split <;> split <;> omega
      · clear k3 eS hS2; split <;> split <;> omega
  have of8 : ∀ x y : Nat, y < 256 → (BitVec.ofNat 8 x = BitVec.ofNat 8 y ↔ x % 256 = y) := fun x y hy => by
    constructor
    · intro e
      have := congrArg BitVec.toNat e
      simp only [BitVec.toNat_ofNat] at this
      omega
    · intro e
      apply BitVec.eq_of_toNat_eq
      simp only [BitVec.toNat_ofNat]
      omega
  rw [← key]
  simp only [List.cons.injEq, and_true, of8 _ _ b0, of8 _ _ b1, of8 _ _ b2, of8 _ _ b3]
  omega
theorem take_split {l : List Byte} (h : 8 ≤ l.length) : l.take (l.length - 2) = l.take 5 ++ (rd l).d := by
  show _ = l.take 5 ++ (l.drop 5).take (l.length - 7)
  rw [← List.take_add]
  congr 1
  omega
/-- the encoding of the frame that the bytes state is the bytes just if the header is right -/
theorem enc_rd {l : List Byte} (h : 8 ≤ l.length) (h2 : l.length ≤ 1024) (h3 : ck16 l = true) (h4 : (rd l).ok = true) : (rd l).enc = l ↔ zr l = true ∧ sz l = l.length := by
  rw [Fr.enc_yes h4, ← head_rd h h2]
  unfold ck16 at h3
  have hc := (of_decide_eq_true h3).2
  constructor
  · intro e
    have e2 := congrArg (List.take 5) e
    rw [← e2]
    unfold ap16
    rw [List.append_assoc, List.take_left' (Fr.head_len _)]
  · intro e
    rw [e, ← take_split h]
    exact hc
theorem gd_enc {l : List Byte} (h : 8 ≤ l.length) (h2 : l.length ≤ 1024) (h3 : ck16 l = true) (h4 : (rd l).ok = true) : gd l = decide ((rd l).enc = l) := by
  rw [Bool.eq_iff_iff, decide_eq_true_iff, enc_rd h h2 h3 h4]
  unfold gd
  rw [h4, Bool.and_true, Bool.and_eq_true, decide_eq_true_iff]
/-- what is accepted is the encoding of a valid frame -/
theorem enc_dec {l : List Byte} (h : deE l = 0) : (deP l).ok = true ∧ (deP l).enc = l := by
  obtain ⟨h1, h2, h3, h4⟩ := de_zero h
  rw [(de_good h1 h2 h3 h4).2]
  have h5 : (rd l).ok = true := by
    unfold gd at h4
    simp only [Bool.and_eq_true] at h4
    exact h4.2
  refine ⟨h5, ?_⟩
  rw [gd_enc h1 h2 h3 h5] at h4
  exact of_decide_eq_true h4

/-- a header and what follows it state the frame -/
theorem rd_head {f : Fr} (h : f.Fits) (r : List Byte) (hr : r.length = 2) : rd (f.head ++ f.d ++ r) = f := by
  obtain ⟨byp, con, cr, ch, sq, d⟩ := f
  obtain ⟨h1, h2, h3, h4, h5, h6, h7, h8⟩ := h
  simp only at h1 h2 h3 h4 h5 h6 h7 h8
  obtain ⟨C, rfl⟩ := Int.eq_ofNat_of_zero_le h1
  obtain ⟨A, rfl⟩ := Int.eq_ofNat_of_zero_le h3
  obtain ⟨Q, rfl⟩ := Int.eq_ofNat_of_zero_le h5
  obtain ⟨H, hH⟩ : ∃ H, H = hd byp con C := ⟨_, rfl⟩
  obtain ⟨S, hS⟩ : ∃ S, S = sd A (d.length + 6) := ⟨_, rfl⟩
  have hHl : H < 16384 := by rw [hH]; exact hd_lt _ _ _ (by omega)
  have hSl : S < 65536 := by rw [hS]; unfold sd; omega
  have e : (Fr.head ⟨byp, con, C, A, Q, d⟩ ++ d ++ r) = hdr5 H S Q ++ (d ++ r) := by
    unfold Fr.head
    simp only [Int.toNat_natCast, List.append_assoc, hH, hS]
  have hl : (hdr5 H S Q ++ (d ++ r)).length = 7 + d.length := by rw [List.length_append, List.length_append, hr, hdr5_len]; omega
  have t0 : b8 (hdr5 H S Q ++ (d ++ r)) 0 = H / 256 := by show (BitVec.ofNat 8 (H / 256)).toNat = _; rw [BitVec.toNat_ofNat]; omega
  have t1 : b8 (hdr5 H S Q ++ (d ++ r)) 1 = H % 256 := by show (BitVec.ofNat 8 (H % 256)).toNat = _; rw [BitVec.toNat_ofNat]; omega
  have t2 : b8 (hdr5 H S Q ++ (d ++ r)) 2 = S / 256 := by show (BitVec.ofNat 8 (S / 256)).toNat = _; rw [BitVec.toNat_ofNat]; omega
  have t3 : b8 (hdr5 H S Q ++ (d ++ r)) 3 = S % 256 := by show (BitVec.ofNat 8 (S % 256)).toNat = _; rw [BitVec.toNat_ofNat]; omega
  have t4 : b8 (hdr5 H S Q ++ (d ++ r)) 4 = Q := by show (BitVec.ofNat 8 Q).toNat = _; rw [BitVec.toNat_ofNat]; omega
  have hdd : ((hdr5 H S Q ++ (d ++ r)).drop 5).take (7 + d.length - 7) = d := by
    rw [List.drop_left' (hdr5_len H S Q), show 7 + d.length - 7 = d.length by omega, List.take_left]
  rw [e]
  unfold rd fst2 snd2
  rw [hl, hdd, t0, t1, t2, t3, t4]
  have q1 : 256 * (H / 256) + H % 256 = H := by omega
  have q2 : 256 * (S / 256) + S % 256 = S := by omega
  rw [q1, q2]
  have q3 : H % 1024 = C := by rw [hH]; unfold hd; cases byp <;> cases con <;> simp <;> omega
  have q4 : S / 1024 = A := by rw [hS]; unfold sd; omega
  have q6 : decide (H / 256 / 32 % 2 = 1) = byp := by rw [hH]; unfold hd; cases byp <;> cases con <;> simp <;> omega
  have q7 : decide (H / 256 / 16 % 2 = 1) = con := by rw [hH]; unfold hd; cases byp <;> cases con <;> simp <;> omega
  rw [q3, q4, q6, q7]
/-- Decode returns every valid frame from its encoding -/
theorem dec_enc {f : Fr} (h : f.ok = true) : deE f.enc = 0 ∧ deP f.enc = f := by
  have hl := Fr.enc_len h
  have hf := Fr.ok_fits h
  have hd := hf.2.2.2.2.2.2
  have hc : ck16 f.enc = true := by rw [Fr.enc_yes h]; exact ck16_ap _
  have hr : rd f.enc = f := by rw [Fr.enc_yes h]; exact rd_head hf _ rfl
  have hg : gd f.enc = true := by
    rw [gd_enc (by omega) (by omega) hc (by rw [hr]; exact h), hr]
    exact decide_eq_true rfl
  have := de_good (by omega) (by omega) hc hg
  rw [hr] at this
  exact this
/-- errors within 16 consecutive bits are detected -/
theorem dec_near {f : Fr} (h : f.ok = true) {x : List Byte} {i : Nat} (hn : Near f.enc x i 16) (hx : x ≠ f.enc) : deE x = 5 := by
  have hl := Fr.enc_len h
  have hd := (Fr.ok_fits h).2.2.2.2.2.2
  have hxl := hn.1
  cases hc : ck16 x with
  | false => exact (de_sum (by omega) (by omega) hc).1
  | true =>
    rw [Fr.enc_yes h] at hn hx
    exact absurd (near_ck _ _ _ hn hc) hx

/-! ### directives -/
/-- what Directive hands back -/
def dir (byp con : Bool) (d : List Byte) : Int × Int × Bool :=
  if byp && con then (if d = [0#8] then (0, 0, true) else match d with
    | [x, y, z] => if x = 130#8 ∧ y = 0#8 then (1, (z.toNat : Int), true) else (0, 0, false)
    | _ => (0, 0, false)) else (0, 0, false)
theorem dir_off {byp con : Bool} (h : (byp && con) = false) (d : List Byte) : dir byp con d = (0, 0, false) := by unfold dir; rw [h]; rfl
theorem dir_unlock : dir true true [0#8] = (0, 0, true) := rfl
theorem dir_next (z : Byte) : dir true true [130#8, 0#8, z] = (1, (z.toNat : Int), true) := by unfold dir; simp
theorem dir_else {d : List Byte} (h : d ≠ [0#8]) (h2 : ∀ z, d ≠ [130#8, 0#8, z]) : dir true true d = (0, 0, false) := by
  unfold dir
  rw [if_pos (show (true && true) = true from rfl), if_neg h]
  split
  · rename_i x y z
    rw [if_neg]
    rintro ⟨rfl, rfl⟩
    exact h2 z rfl
  · rfl
end Go.Proofs.Ytdjopkfibfgjeaa.Tcf
