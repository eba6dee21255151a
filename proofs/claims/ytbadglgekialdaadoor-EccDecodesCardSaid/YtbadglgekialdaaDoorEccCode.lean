/-
  The code of package ecc: its words, syndromes, parities, repair and decoding; what the program and the reference do, step by step, and that both are the same. No dump is imported.
-/
import Derived.Test.YtbadglgekialdaaDoorEccMath
namespace Go.Proofs.YtbadglgekialdaaDoor.Ecc

theorem xor_eq {a b : Nat} (h : a ^^^ b = 0) : a = b := by
  have : (a ^^^ b) ^^^ b = a := by rw [Nat.xor_assoc, Nat.xor_self, Nat.xor_zero]
  rw [h, Nat.zero_xor] at this
  exact this.symm
def syn (w : Nat) : Nat := xs (fun i => i) w 39
def par (w : Nat) : Nat := xs (fun _ => 1) w 39
theorem lin_syn : Lin syn := lin_xs _ 39
theorem lin_par : Lin par := lin_xs _ 39
theorem syn_lt (w : Nat) : syn w < 64 := xs_lt _ 6 w 39 (fun i hi => by
  show i < 64
  omega)
theorem par_lt (w : Nat) : par w < 2 := xs_lt _ 1 w 39 (fun _ _ => by decide)
theorem par_pop (w : Nat) : par w = pop w 39 % 2 := pop_par w 39
theorem syn_mod (w : Nat) : syn (w % 549755813888) = syn w := xs_congr _ 39 fun i hi => by
  rw [show (549755813888 : Nat) = 2 ^ 39 from rfl, Nat.testBit_mod_two_pow]
  simp [hi]
theorem par_mod (w : Nat) : par (w % 549755813888) = par w := xs_congr _ 39 fun i hi => by
  rw [show (549755813888 : Nat) = 2 ^ 39 from rfl, Nat.testBit_mod_two_pow]
  simp [hi]
theorem syn_pow : ∀ i, i < 39 → syn (2 ^ i) = i := by decide +kernel
theorem par_pow : ∀ i, i < 39 → par (2 ^ i) = 1 := by decide +kernel
theorem syn_zero : syn 0 = 0 := lin_syn.zero

/-! ### the data bits at their positions -/
def msk : Nat → Nat
  | 0 => 8
  | 1 => 224
  | 2 => 65024
  | 3 => 4294836224
  | _ => 541165879296
/-- the word behind the first k runs -/
def spr (d : Nat) : Nat → Nat
  | 0 => 0
  | k + 1 => spr d k ||| ((d <<< (k + 3)) &&& msk k)
def sprL (d : Nat) : Nat := ((((d <<< 3) &&& 8) ^^^ ((d <<< 4) &&& 224)) ^^^ ((d <<< 5) &&& 65024)) ^^^ ((d <<< 6) &&& 4294836224) ^^^ ((d <<< 7) &&& 541165879296)
theorem lin_sprL : Lin sprL :=
  Lin.xor (Lin.xor (Lin.xor (Lin.xor ((lin_and 8).comp (lin_shl 3)) ((lin_and 224).comp (lin_shl 4))) ((lin_and 65024).comp (lin_shl 5))) ((lin_and 4294836224).comp (lin_shl 6))) ((lin_and 541165879296).comp (lin_shl 7))
theorem and_self_mask (a m : Nat) : (a &&& m) &&& m = a &&& m := by rw [Nat.and_assoc, Nat.and_self]
theorem spr_eq (d : Nat) : spr d 5 = sprL d := by
  have e1 : spr d 1 = (d <<< 3) &&& 8 := by
    show 0 ||| _ = _
    rw [Nat.zero_or]
    rfl
  have s2 := or_apart (and_self_mask (d <<< 3) 8) (and_self_mask (d <<< 4) 224) (by decide)
  have s3 := or_apart s2.2 (and_self_mask (d <<< 5) 65024) (by decide)
  have s4 := or_apart s3.2 (and_self_mask (d <<< 6) 4294836224) (by decide)
  have s5 := or_apart s4.2 (and_self_mask (d <<< 7) 541165879296) (by decide)
  have e2 : spr d 2 = ((d <<< 3) &&& 8) ^^^ ((d <<< 4) &&& 224) := by
    rw [← s2.1, ← e1]
    rfl
  have e3 : spr d 3 = (((d <<< 3) &&& 8) ^^^ ((d <<< 4) &&& 224)) ^^^ ((d <<< 5) &&& 65024) := by
    rw [← s3.1, ← e2]
    rfl
  have e4 : spr d 4 = ((((d <<< 3) &&& 8) ^^^ ((d <<< 4) &&& 224)) ^^^ ((d <<< 5) &&& 65024)) ^^^ ((d <<< 6) &&& 4294836224) := by
    rw [← s4.1, ← e3]
    rfl
  show spr d 4 ||| ((d <<< 7) &&& 541165879296) = _
  rw [e4, s5.1]
  rfl
theorem sprL_clear : ∀ k, k < 7 → ∀ d, d < 2 ^ 32 → (sprL d).testBit ((2 ^ k : Nat) / 2) = false := by
  intro k hk d hd
  have h : ∀ i, i < 32 → (sprL (2 ^ i) >>> (2 ^ k / 2)) % 2 ^ 1 = 0 := by
    revert k
    decide +kernel
  have hl : Lin fun d => (sprL d >>> (2 ^ k / 2)) % 2 ^ 1 := (lin_mod 1).comp ((lin_shr (2 ^ k / 2)).comp lin_sprL)
  have := lin_ext hl lin_const 32 h d hd
  rw [Nat.testBit_eq_decide_div_mod_eq, ← Nat.shiftRight_eq_div_pow]
  simp only [decide_eq_false_iff_not]
  omega

/-! ### the check bits -/
def chk (w s : Nat) : Nat → Nat
  | 0 => w
  | k + 1 => chk w s k ||| ((s / 2 ^ k % 2) * 2 ^ (2 ^ k))
theorem chk_xs (w s : Nat) : ∀ n, (∀ k, k < n → w.testBit (2 ^ k) = false) → chk w s n = w ^^^ xs (fun k => 2 ^ (2 ^ k)) s n
  | 0, _ => by
    show w = w ^^^ 0
    rw [Nat.xor_zero]
  | n + 1, h => by
    have ih := chk_xs w s n fun k hk => h k (by omega)
    have hl : xs (fun k => 2 ^ (2 ^ k)) s n < 2 ^ (2 ^ n) := xs_lt _ _ s n fun i hi => Nat.pow_lt_pow_right (by decide) (Nat.pow_lt_pow_right (by decide) hi)
    have hb : (chk w s n).testBit (2 ^ n) = false := by
      rw [ih, Nat.testBit_xor, h n (by omega), Nat.testBit_lt_two_pow hl]
      rfl
    unfold chk xs
    have ht := Nat.toNat_testBit s n
    cases e : s.testBit n with
    | true =>
      rw [e] at ht
      rw [← ht]
      simp only [Bool.toNat_true, Nat.one_mul, if_true]
      rw [or_bit hb, ih, Nat.xor_assoc]
    | false =>
      rw [e] at ht
      rw [← ht]
      simp [ih]
def cks (s : Nat) : Nat := xs (fun k => 2 ^ (2 ^ k)) s 6
theorem lin_cks : Lin cks := lin_xs _ 6

/-! ### code words -/
def encA (d : Nat) : Nat := sprL d ^^^ cks (syn (sprL d))
def enc (d : Nat) : Nat := encA d ^^^ par (encA d)
theorem lin_encA : Lin encA := Lin.xor lin_sprL (lin_cks.comp (lin_syn.comp lin_sprL))
theorem lin_enc : Lin enc := Lin.xor lin_encA (lin_par.comp lin_encA)
theorem sprL_lt (d : Nat) (h : d < 2 ^ 32) : sprL d % 2 ^ 39 = sprL d := lin_ext ((lin_mod 39).comp lin_sprL) lin_sprL 32 (by decide +kernel) d h
theorem encA_even (d : Nat) (h : d < 2 ^ 32) : encA d % 2 ^ 1 = 0 := lin_ext ((lin_mod 1).comp lin_encA) lin_const 32 (by decide +kernel) d h
theorem encA_mod (d : Nat) (h : d < 2 ^ 32) : encA d % 2 ^ 39 = encA d := lin_ext ((lin_mod 39).comp lin_encA) lin_encA 32 (by decide +kernel) d h
theorem enc_mod (d : Nat) (h : d < 2 ^ 32) : enc d % 2 ^ 39 = enc d := lin_ext ((lin_mod 39).comp lin_enc) lin_enc 32 (by decide +kernel) d h
theorem enc_lt (d : Nat) (h : d < 2 ^ 32) : enc d < 549755813888 := by
  have := enc_mod d h
  have h2 : enc d % 2 ^ 39 < 2 ^ 39 := Nat.mod_lt _ (by decide)
  rw [this] at h2
  exact h2
theorem encA_lt (d : Nat) (h : d < 2 ^ 32) : encA d < 549755813888 := by
  have := encA_mod d h
  have h2 : encA d % 2 ^ 39 < 2 ^ 39 := Nat.mod_lt _ (by decide)
  rw [this] at h2
  exact h2
theorem enc_syn (d : Nat) (h : d < 2 ^ 32) : syn (enc d) = 0 := lin_ext (lin_syn.comp lin_enc) lin_const 32 (by decide +kernel) d h
theorem enc_par (d : Nat) (h : d < 2 ^ 32) : par (enc d) = 0 := lin_ext (lin_par.comp lin_enc) lin_const 32 (by decide +kernel) d h
theorem par_join (w : Nat) (h : w % 2 ^ 1 = 0) (b : Nat) (hb : b < 2) : w ||| b = w ^^^ b ∧ w + b = w ^^^ b := by
  have hz : w.testBit 0 = false := by
    rw [Nat.testBit_eq_decide_div_mod_eq]
    simp
    omega
  have : b = 0 ∨ b = 1 := by omega
  rcases this with rfl | rfl
  · simp
  · exact ⟨or_bit (n := 0) hz, add_bit (n := 0) hz⟩

/-! ### the data bits of a word -/
def gat (w : Nat) : Nat → Nat
  | 0 => 0
  | k + 1 => gat w k ||| ((w &&& msk k) >>> (k + 3))
def gatL (w : Nat) : Nat := (((((w &&& 8) >>> 3) ^^^ ((w &&& 224) >>> 4)) ^^^ ((w &&& 65024) >>> 5)) ^^^ ((w &&& 4294836224) >>> 6)) ^^^ ((w &&& 541165879296) >>> 7)
theorem lin_gatL : Lin gatL :=
  Lin.xor (Lin.xor (Lin.xor (Lin.xor ((lin_shr 3).comp (lin_and 8)) ((lin_shr 4).comp (lin_and 224))) ((lin_shr 5).comp (lin_and 65024))) ((lin_shr 6).comp (lin_and 4294836224))) ((lin_shr 7).comp (lin_and 541165879296))
theorem shr_mask (w m s : Nat) : ((w &&& m) >>> s) &&& (m >>> s) = (w &&& m) >>> s := by
  rw [← Nat.shiftRight_and_distrib, and_self_mask]
theorem gat_eq (w : Nat) : gat w 5 = gatL w := by
  have e1 : gat w 1 = (w &&& 8) >>> 3 := by
    show 0 ||| _ = _
    rw [Nat.zero_or]
    rfl
  have s2 := or_apart (shr_mask w 8 3) (shr_mask w 224 4) (by decide)
  have s3 := or_apart s2.2 (shr_mask w 65024 5) (by decide)
  have s4 := or_apart s3.2 (shr_mask w 4294836224 6) (by decide)
  have s5 := or_apart s4.2 (shr_mask w 541165879296 7) (by decide)
  have e2 : gat w 2 = ((w &&& 8) >>> 3) ^^^ ((w &&& 224) >>> 4) := by
    rw [← s2.1, ← e1]
    rfl
  have e3 : gat w 3 = (((w &&& 8) >>> 3) ^^^ ((w &&& 224) >>> 4)) ^^^ ((w &&& 65024) >>> 5) := by
    rw [← s3.1, ← e2]
    rfl
  have e4 : gat w 4 = ((((w &&& 8) >>> 3) ^^^ ((w &&& 224) >>> 4)) ^^^ ((w &&& 65024) >>> 5)) ^^^ ((w &&& 4294836224) >>> 6) := by
    rw [← s4.1, ← e3]
    rfl
  show gat w 4 ||| ((w &&& 541165879296) >>> 7) = _
  rw [e4, s5.1]
  rfl
theorem gatL_lt (w : Nat) (h : w < 2 ^ 64) : gatL w < 4294967296 := by
  have e : gatL w % 2 ^ 32 = gatL w := lin_ext ((lin_mod 32).comp lin_gatL) lin_gatL 64 (by decide +kernel) w h
  have h2 : gatL w % 2 ^ 32 < 2 ^ 32 := Nat.mod_lt _ (by decide)
  rw [e] at h2
  exact h2
theorem gat_enc (d : Nat) (h : d < 2 ^ 32) : gatL (enc d) = d := lin_ext (lin_gatL.comp lin_enc) lin_id 32 (by decide +kernel) d h

/-! ### repair and decoding -/
def flp (w : Nat) (b : Int) : Nat := if 0 ≤ b ∧ b < 39 then w ^^^ 2 ^ b.toNat else w
/-- the results: 0 clean, 1 fixed, 2 bad -/
def kind (w : Nat) : Nat := if w < 549755813888 then if par w = 0 then if syn w = 0 then 0 else 2 else if syn w < 39 then 1 else 2 else 2
def rep (w : Nat) : Nat := if kind w = 1 then w ^^^ 2 ^ syn w else w
def dcd (w : Nat) : Nat := if kind w = 2 then 0 else gatL (rep w)
theorem kind_le (w : Nat) : kind w ≤ 2 := by unfold kind; split <;> (try split) <;> (try split) <;> omega
theorem flp_in (w b : Nat) (h : b < 39) : flp w b = w ^^^ 2 ^ b := by
  unfold flp
  rw [if_pos (by omega)]
  rfl
theorem flp_out (w : Nat) (b : Int) (h : ¬ (0 ≤ b ∧ b < 39)) : flp w b = w := by unfold flp; rw [if_neg h]
theorem flp_back (w : Nat) (b : Int) : flp (flp w b) b = w := by
  unfold flp
  split
  · rw [Nat.xor_assoc, Nat.xor_self, Nat.xor_zero]
  · rfl
theorem flp_lt (w : Nat) (b : Int) (h : w < 2 ^ 64) : flp w b < 2 ^ 64 := by
  unfold flp
  split
  · exact Nat.xor_lt_two_pow h (Nat.pow_lt_pow_right (by decide) (by omega))
  · exact h

theorem kind_enc (d : Nat) (h : d < 2 ^ 32) : kind (enc d) = 0 := by
  unfold kind
  rw [if_pos (enc_lt d h), if_pos (enc_par d h), if_pos (enc_syn d h)]
theorem rep_enc (d : Nat) (h : d < 2 ^ 32) : rep (enc d) = enc d := by
  unfold rep
  rw [kind_enc d h]
  rfl
theorem dcd_enc (d : Nat) (h : d < 2 ^ 32) : dcd (enc d) = d := by
  unfold dcd
  rw [kind_enc d h, rep_enc d h, gat_enc d h]
  rfl
theorem one_lt (w i : Nat) (h : w < 549755813888) (hi : i < 39) : w ^^^ 2 ^ i < 549755813888 :=
  Nat.xor_lt_two_pow (n := 39) h (Nat.pow_lt_pow_right (by decide) hi)
theorem kind_one (d i : Nat) (h : d < 2 ^ 32) (hi : i < 39) : kind (enc d ^^^ 2 ^ i) = 1 := by
  unfold kind
  have e1 : par (enc d ^^^ 2 ^ i) = 1 := by rw [lin_par, enc_par d h, par_pow i hi]; rfl
  have e2 : syn (enc d ^^^ 2 ^ i) = i := by rw [lin_syn, enc_syn d h, syn_pow i hi, Nat.zero_xor]
  rw [if_pos (one_lt _ _ (enc_lt d h) hi), if_neg (by omega), if_pos (by omega)]
theorem rep_one (d i : Nat) (h : d < 2 ^ 32) (hi : i < 39) : rep (enc d ^^^ 2 ^ i) = enc d := by
  have e2 : syn (enc d ^^^ 2 ^ i) = i := by rw [lin_syn, enc_syn d h, syn_pow i hi, Nat.zero_xor]
  unfold rep
  rw [if_pos (kind_one d i h hi), e2, Nat.xor_assoc, Nat.xor_self, Nat.xor_zero]
theorem dcd_one (d i : Nat) (h : d < 2 ^ 32) (hi : i < 39) : dcd (enc d ^^^ 2 ^ i) = d := by
  unfold dcd
  rw [kind_one d i h hi, rep_one d i h hi, gat_enc d h]
  rfl
theorem kind_two (d i j : Nat) (h : d < 2 ^ 32) (hi : i < 39) (hj : j < 39) (hij : i ≠ j) : kind (enc d ^^^ 2 ^ i ^^^ 2 ^ j) = 2 := by
  unfold kind
  have e1 : par (enc d ^^^ 2 ^ i ^^^ 2 ^ j) = 0 := by rw [lin_par, lin_par, enc_par d h, par_pow i hi, par_pow j hj]; rfl
  have e2 : syn (enc d ^^^ 2 ^ i ^^^ 2 ^ j) ≠ 0 := by
    rw [lin_syn, lin_syn, enc_syn d h, syn_pow i hi, syn_pow j hj, Nat.zero_xor]
    intro e
    exact hij (xor_eq e)
  rw [if_pos (one_lt _ _ (one_lt _ _ (enc_lt d h) hi) hj), if_pos e1, if_neg e2]

/-! ### the distance -/
theorem some_one {w : Nat} (h0 : w ≠ 0) (h : w < 549755813888) : ∃ i, i < 39 ∧ w.testBit i = true := by
  obtain ⟨h1, _, h3⟩ := low_one 39 w h0 h
  exact ⟨_, h3, h1⟩
theorem distance {c : Nat} (h0 : c ≠ 0) (h : c < 549755813888) (hs : syn c = 0) (hp : par c = 0) : 4 ≤ pop c 39 := by
  obtain ⟨i, hi, bi⟩ := some_one h0 h
  have h1 := one_lt c i h hi
  have p1 : par (c ^^^ 2 ^ i) = 1 := by rw [lin_par, hp, par_pow i hi]; rfl
  have z1 : c ^^^ 2 ^ i ≠ 0 := fun e => by rw [e, lin_par.zero] at p1; cases p1
  obtain ⟨j, hj, bj⟩ := some_one z1 h1
  have hij : i ≠ j := fun e => by
    subst e
    rw [flip_bit, bi] at bj
    simp at bj
  have h2 := one_lt _ j h1 hj
  have s2 : syn (c ^^^ 2 ^ i ^^^ 2 ^ j) = i ^^^ j := by rw [lin_syn, lin_syn, hs, syn_pow i hi, syn_pow j hj, Nat.zero_xor]
  have z2 : c ^^^ 2 ^ i ^^^ 2 ^ j ≠ 0 := fun e => by
    rw [e, syn_zero] at s2
    exact hij (xor_eq s2.symm)
  have p2 : par (c ^^^ 2 ^ i ^^^ 2 ^ j) = 0 := by rw [lin_par, p1, par_pow j hj]; rfl
  obtain ⟨k, hk, bk⟩ := some_one z2 h2
  have p3 : par (c ^^^ 2 ^ i ^^^ 2 ^ j ^^^ 2 ^ k) = 1 := by rw [lin_par, p2, par_pow k hk]; rfl
  have f1 := pop_flip bi 39 hi
  have f2 := pop_flip bj 39 hj
  have f3 := pop_flip bk 39 hk
  rw [par_pop] at p3
  omega
theorem enc_apart (a b : Nat) (ha : a < 2 ^ 32) (hb : b < 2 ^ 32) (h : a ≠ b) : 4 ≤ pop (enc a ^^^ enc b) 64 := by
  have hx : a ^^^ b < 2 ^ 32 := Nat.xor_lt_two_pow ha hb
  have e : enc a ^^^ enc b = enc (a ^^^ b) := (lin_enc a b).symm
  rw [e]
  have hz : enc (a ^^^ b) ≠ 0 := fun e => by
    have g := gat_enc (a ^^^ b) hx
    rw [e, lin_gatL.zero] at g
    exact h (xor_eq g.symm)
  have := distance hz (enc_lt _ hx) (enc_syn _ hx) (enc_par _ hx)
  rw [show 64 = 39 + 25 from rfl, pop_small (m := 39) (enc_lt _ hx)]
  exact this

/-! ### the reference, position by position -/
def ck (n : Nat) : Bool := n == 0 || n == 1 || n == 2 || n == 4 || n == 8 || n == 16 || n == 32
/-- how many data positions stand below n -/
def kk : Nat → Nat
  | 0 => 0
  | n + 1 => if ck n then kk n else kk n + 1
def rsp (d : Nat) : Nat → Nat
  | 0 => 0
  | n + 1 => if ck n then rsp d n else rsp d n + (d / 2 ^ kk n % 2) * 2 ^ n
def rspX (d : Nat) : Nat → Nat
  | 0 => 0
  | n + 1 => if ck n then rspX d n else rspX d n ^^^ ((d >>> kk n) % 2 ^ 1) <<< n
theorem lin_rspX : ∀ n, Lin fun d => rspX d n
  | 0 => lin_const
  | n + 1 => by
    have ih := lin_rspX n
    unfold rspX
    cases ck n
    · exact Lin.xor ih ((lin_shl n).comp ((lin_mod 1).comp (lin_shr (kk n))))
    · exact ih
theorem put_bit {a n : Nat} (h : a < 2 ^ n) (b : Nat) : a + (b % 2) * 2 ^ n = a ^^^ (b % 2 ^ 1) <<< n ∧ a + (b % 2) * 2 ^ n < 2 ^ (n + 1) := by
  have hp2 : 2 ^ (n + 1) = 2 * 2 ^ n := by rw [Nat.pow_succ, Nat.mul_comm]
  rw [Nat.shiftLeft_eq, Nat.pow_one]
  rcases (show b % 2 = 0 ∨ b % 2 = 1 by omega) with e | e
  · rw [e]; simp; omega
  · rw [e, Nat.one_mul]
    exact ⟨add_two_pow h, by omega⟩
theorem rsp_X (d : Nat) : ∀ n, rsp d n = rspX d n ∧ rsp d n < 2 ^ n
  | 0 => ⟨rfl, Nat.two_pow_pos _⟩
  | n + 1 => by
    obtain ⟨h1, h2⟩ := rsp_X d n
    have hp2 : 2 ^ (n + 1) = 2 * 2 ^ n := by rw [Nat.pow_succ, Nat.mul_comm]
    unfold rsp rspX
    cases ck n
    · obtain ⟨e1, e2⟩ := put_bit h2 (d / 2 ^ kk n)
      rw [← Nat.shiftRight_eq_div_pow] at e1 e2 ⊢
      simp only [Bool.false_eq_true, if_false]
      exact ⟨by rw [e1, h1], e2⟩
    · simp only [if_true]
      exact ⟨h1, by omega⟩
theorem rsp_spr (d : Nat) (h : d < 2 ^ 32) : rsp d 39 = sprL d := by
  rw [(rsp_X d 39).1]
  exact lin_ext (lin_rspX 39) lin_sprL 32 (by decide +kernel) d h
def rck (w s : Nat) : Nat → Nat
  | 0 => w
  | k + 1 => if s / 2 ^ k % 2 = 1 then rck w s k + 2 ^ (2 ^ k) else rck w s k
theorem rck_xs (w s : Nat) : ∀ n, (∀ k, k < n → w.testBit (2 ^ k) = false) → rck w s n = w ^^^ xs (fun k => 2 ^ (2 ^ k)) s n
  | 0, _ => by
    show w = w ^^^ 0
    rw [Nat.xor_zero]
  | n + 1, h => by
    have ih := rck_xs w s n fun k hk => h k (by omega)
    have hl : xs (fun k => 2 ^ (2 ^ k)) s n < 2 ^ (2 ^ n) := xs_lt _ _ s n fun i hi => Nat.pow_lt_pow_right (by decide) (Nat.pow_lt_pow_right (by decide) hi)
    have hb : (rck w s n).testBit (2 ^ n) = false := by
      rw [ih, Nat.testBit_xor, h n (by omega), Nat.testBit_lt_two_pow hl]
      rfl
    unfold rck xs
    have ht := Nat.toNat_testBit s n
    cases e : s.testBit n with
    | true =>
      rw [e] at ht
      rw [← ht]
      simp only [Bool.toNat_true, if_true]
      rw [add_bit hb, ih, Nat.xor_assoc]
    | false =>
      rw [e] at ht
      rw [← ht]
      simp [ih]
theorem clear6 (d : Nat) (h : d < 2 ^ 32) : ∀ k, k < 6 → (sprL d).testBit (2 ^ k) = false := by
  intro k hk
  have := sprL_clear (k + 1) (by omega) d h
  rw [Nat.pow_succ, Nat.mul_div_cancel _ (by decide)] at this
  exact this
theorem rck_enc (d : Nat) (h : d < 2 ^ 32) : rck (sprL d) (syn (sprL d)) 6 = encA d := rck_xs _ _ 6 (clear6 d h)
theorem chk_enc (d : Nat) (h : d < 2 ^ 32) : chk (sprL d) (syn (sprL d)) 6 = encA d := chk_xs _ _ 6 (clear6 d h)
def rda (w : Nat) : Nat → Nat
  | 0 => 0
  | n + 1 => if ck n then rda w n else rda w n + (w / 2 ^ n % 2) * 2 ^ kk n
def rdaX (w : Nat) : Nat → Nat
  | 0 => 0
  | n + 1 => if ck n then rdaX w n else rdaX w n ^^^ ((w >>> n) % 2 ^ 1) <<< kk n
theorem lin_rdaX : ∀ n, Lin fun w => rdaX w n
  | 0 => lin_const
  | n + 1 => by
    have ih := lin_rdaX n
    unfold rdaX
    cases ck n
    · exact Lin.xor ih ((lin_shl (kk n)).comp ((lin_mod 1).comp (lin_shr n)))
    · exact ih
theorem rda_X (w : Nat) : ∀ n, rda w n = rdaX w n ∧ rda w n < 2 ^ kk n
  | 0 => ⟨rfl, Nat.two_pow_pos _⟩
  | n + 1 => by
    obtain ⟨h1, h2⟩ := rda_X w n
    rw [show kk (n + 1) = if ck n then kk n else kk n + 1 from rfl]
    unfold rda rdaX
    cases ck n
    · obtain ⟨e1, e2⟩ := put_bit h2 (w / 2 ^ n)
      rw [← Nat.shiftRight_eq_div_pow] at e1 e2 ⊢
      simp only [Bool.false_eq_true, if_false]
      exact ⟨by rw [e1, h1], e2⟩
    · simp only [if_true]
      exact ⟨h1, h2⟩
theorem rda_gat (w : Nat) (h : w < 2 ^ 64) : rda w 39 = gatL w := by
  rw [(rda_X w 39).1]
  exact lin_ext (lin_rdaX 39) lin_gatL 64 (by decide +kernel) w h
theorem kk_le : ∀ n, n < 40 → kk n ≤ 32 := by decide +kernel
end Go.Proofs.YtbadglgekialdaaDoor.Ecc
