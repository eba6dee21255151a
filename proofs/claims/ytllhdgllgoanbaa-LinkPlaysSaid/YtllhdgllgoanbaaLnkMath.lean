/-
  Plain mathematics of package link: a link's configuration and state, what Send and Receive make of it; one bit of a byte string inverted. No dump is imported.
-/
import Derived.Test.YtllhdgllgoanbaaRngMath
import Derived.Test.YtllhdgllgoanbaaBytes
namespace Go.Proofs.Ytllhdgllgoanbaa.Lnk
open Go.RowKit
open Rng (R)

/-! ### bits -/
/-- bit j of a byte, counted from the most significant -/
def mk (j : Nat) : Byte := 128#8 >>> j
theorem mk_p : ∀ j : Fin 8, (128 / 2 ^ j.val : Int) = ((mk j.val).toNat : Int) := by decide +kernel
theorem mk_r : ∀ j : Fin 8, (2 ^ (7 - j.val) % 256 : Int) = ((mk j.val).toNat : Int) := by decide +kernel
theorem mk_r2 : ∀ j : Fin 8, (2 ^ (7 - j.val) : Int) = ((mk j.val).toNat : Int) := by decide +kernel
theorem xor_b (x y : Byte) : bits .xor .u8 (x.toNat : Int) (y.toNat : Int) = ((x ^^^ y).toNat : Int) := by
  rw [u8_xor_nat _ _ x.isLt y.isLt, BitVec.toNat_xor]
theorem xor_p (x : Byte) {j : Nat} (h : j < 8) : bits .xor .u8 (x.toNat : Int) (128 / 2 ^ j) = ((x ^^^ mk j).toNat : Int) := by
  have := mk_p ⟨j, h⟩
  simp only at this
  rw [this, xor_b]
theorem xor_r (x : Byte) {j : Nat} (h : j < 8) : bits .xor .u8 (x.toNat : Int) (2 ^ (7 - j) % 256) = ((x ^^^ mk j).toNat : Int) := by
  have := mk_r ⟨j, h⟩
  simp only at this
  rw [this, xor_b]
theorem xor_r2 (x : Byte) {j : Nat} (h : j < 8) : bits .xor .u8 (x.toNat : Int) (2 ^ (7 - j)) = ((x ^^^ mk j).toNat : Int) := by
  have := mk_r2 ⟨j, h⟩
  simp only at this
  rw [this, xor_b]
theorem mk_ne (j : Nat) (h : j < 8) : mk j ≠ 0#8 := by
  have : ∀ j : Fin 8, mk j.val ≠ 0#8 := by decide
  exact this ⟨j, h⟩

/-- bit k of b inverted -/
def fb (b : List Byte) (k : Nat) : List Byte := b.set (k / 8) (b.getD (k / 8) 0#8 ^^^ mk (k % 8))
theorem fb_len (b : List Byte) (k : Nat) : (fb b k).length = b.length := by unfold fb; rw [List.length_set]
theorem fb_at {b : List Byte} {k : Nat} {x : Byte} (h : b[k / 8]? = some x) : fb b k = b.set (k / 8) (x ^^^ mk (k % 8)) := by
  unfold fb
  rw [List.getD_eq_getElem?_getD, h]
  rfl
theorem fb_fb (b : List Byte) (k : Nat) : fb (fb b k) k = b := by
  rcases Nat.lt_or_ge (k / 8) b.length with h | h
  · have h1 := List.getElem?_eq_getElem h
    rw [fb_at h1, fb_at (x := b[k / 8] ^^^ mk (k % 8)) (by rw [List.getElem?_set, if_pos rfl, if_pos h]), List.set_set, BitVec.xor_assoc, BitVec.xor_self, BitVec.xor_zero, List.set_getElem_self]
  · unfold fb
    rw [List.set_eq_of_length_le (by rw [List.length_set]; exact h), List.set_eq_of_length_le h]
/-- the two bytes at i behind a flip of bit k -/
theorem fb_xor {b : List Byte} {k i : Nat} {x y : Byte} (hx : b[i]? = some x) (hy : (fb b k)[i]? = some y) : y ^^^ x = if i = k / 8 then mk (k % 8) else 0#8 := by
  have hi := (List.getElem?_eq_some_iff.1 hx).1
  by_cases e : i = k / 8
  · subst e
    rw [fb_at hx, List.getElem?_set, if_pos rfl, if_pos hi] at hy
    injection hy with hy
    rw [if_pos rfl, ← hy, BitVec.xor_comm, ← BitVec.xor_assoc, BitVec.xor_self, BitVec.zero_xor]
  · unfold fb at hy
    rw [List.getElem?_set_ne (fun h => e h.symm), hx] at hy
    injection hy with hy
    rw [if_neg e, hy, BitVec.xor_self]
/-- how many of the low k bits are set -/
def pc (x : Byte) : Nat → Nat
  | 0 => 0
  | k + 1 => pc x k + x.toNat / 2 ^ k % 2
theorem pc_le (x : Byte) : ∀ k, pc x k ≤ k
  | 0 => Nat.le_refl _
  | k + 1 => by have := pc_le x k; have := Nat.mod_lt (x.toNat / 2 ^ k) (show 0 < 2 by decide); unfold pc; omega
theorem pc_mk (j : Nat) (h : j < 8) : pc (mk j) 8 = 1 := by
  have : ∀ j : Fin 8, pc (mk j.val) 8 = 1 := by decide
  exact this ⟨j, h⟩
theorem pc_0 : pc 0#8 8 = 0 := by decide

/-! ### configuration and state -/
structure Cf where
  dl : Int
  ot : List R
  lo : List Int
  fl : List R
def loN (l : List Int) : Bool := l.any fun x => decide (x < 0)
def flN (l : List R) : Bool := l.any fun x => decide (x.1 < 0) || decide (x.2 < 0)
def Cf.ok (c : Cf) : Bool := ((decide (0 ≤ c.dl) && decide (c.dl ≤ 1099511627776)) && !loN c.lo) && !flN c.fl
theorem Cf.ok_dl {c : Cf} (h : c.ok = true) : 0 ≤ c.dl ∧ c.dl ≤ 1099511627776 := by
  unfold Cf.ok at h
  simp only [Bool.and_eq_true, decide_eq_true_eq] at h
  exact h.1.1
theorem Cf.ok_fl {c : Cf} (h : c.ok = true) {x : R} (hx : x ∈ c.fl) : 0 ≤ x.1 ∧ 0 ≤ x.2 := by
  unfold Cf.ok at h
  simp only [Bool.and_eq_true, Bool.not_eq_true', flN, List.any_eq_false, Bool.or_eq_true, decide_eq_true_eq, not_or] at h
  have := h.2 x hx
  omega
structure LS where
  tm : Int
  sn : Nat
  wt : List (Int × List Byte)
deriving DecidableEq
def adv (t now : Int) : Int := if t < now ∧ now ≤ 1099511627776 then now else t
theorem adv_bd {t now : Int} (h0 : 0 ≤ t) (h1 : t ≤ 1099511627776) : 0 ≤ adv t now ∧ adv t now ≤ 1099511627776 := by
  unfold adv
  split <;> omega
/-- the flip f, if it is one of the transmission idx -/
def fl1 (idx : Int) (b : List Byte) (f : R) : List Byte := if f.1 = idx then fb b (f.2.toNat % (8 * b.length)) else b
theorem fl1_len (idx : Int) (b : List Byte) (f : R) : (fl1 idx b f).length = b.length := by
  unfold fl1
  split
  · exact fb_len _ _
  · rfl
def flk (l : List R) (idx : Int) (b : List Byte) (k : Nat) : List Byte := (l.take k).foldl (fl1 idx) b
theorem flk_0 (l : List R) (idx : Int) (b : List Byte) : flk l idx b 0 = b := rfl
theorem flk_s {l : List R} {idx : Int} {b : List Byte} {k : Nat} {f : R} (h : l[k]? = some f) : flk l idx b (k + 1) = fl1 idx (flk l idx b k) f := by
  unfold flk
  rw [List.take_add_one, h, Option.toList_some, List.foldl_append]
  rfl
theorem flk_len (l : List R) (idx : Int) (b : List Byte) : ∀ k, (flk l idx b k).length = b.length := by
  intro k
  unfold flk
  generalize l.take k = m
  induction m generalizing b with
  | nil => rfl
  | cons x m ih => rw [List.foldl_cons, ih, fl1_len]
/-- what arrives of b -/
def dmg (l : List R) (idx : Int) (b : List Byte) : List Byte := if b.length = 0 then b else flk l idx b l.length
theorem dmg_len (l : List R) (idx : Int) (b : List Byte) : (dmg l idx b).length = b.length := by
  unfold dmg
  split
  · rfl
  · exact flk_len _ _ _ _
theorem dmg_0 {l : List R} {idx : Int} {b : List Byte} (h : b.length = 0) : dmg l idx b = b := if_pos h
theorem dmg_1 {l : List R} {idx : Int} {b : List Byte} (h : b.length ≠ 0) : dmg l idx b = flk l idx b l.length := if_neg h
theorem dmg_no (l : List R) (idx : Int) (b : List Byte) (h : ∀ f ∈ l, f.1 ≠ idx) : dmg l idx b = b := by
  unfold dmg
  split
  · rfl
  · unfold flk
    rw [List.take_length]
    induction l with
    | nil => rfl
    | cons x l ih =>
      rw [List.foldl_cons, show fl1 idx b x = b from if_neg (h x (by simp))]
      exact ih (fun f hf => h f (by simp [hf]))
def gone (c : Cf) (t : Int) (sn : Nat) : Bool := Rng.has c.ot t || decide ((sn : Int) ∈ c.lo)
def snd (c : Cf) (now : Int) (b : List Byte) (s : LS) : LS :=
  ⟨adv s.tm now, s.sn + 1, if gone c (adv s.tm now) s.sn = true then s.wt else s.wt ++ [(adv s.tm now + c.dl, dmg c.fl s.sn b)]⟩
/-- how many arrive up to the time t -/
def rn (t : Int) (l : List (Int × List Byte)) : Nat := (l.takeWhile fun x => decide (x.1 ≤ t)).length
def rcS (now : Int) (s : LS) : LS := ⟨adv s.tm now, s.sn, s.wt.drop (rn (adv s.tm now) s.wt)⟩
def rcO (now : Int) (s : LS) : List (List Byte) := (s.wt.take (rn (adv s.tm now) s.wt)).map (·.2)
theorem rn_le (t : Int) (l : List (Int × List Byte)) : rn t l ≤ l.length := by
  unfold rn
  exact (List.takeWhile_sublist _).length_le
/-- the first that does not arrive -/
theorem rn_at {t : Int} {l : List (Int × List Byte)} {k : Nat} (h1 : ∀ x ∈ l.take k, x.1 ≤ t) (h2 : k = l.length ∨ ∃ x, l[k]? = some x ∧ t < x.1) (hk : k ≤ l.length) : rn t l = k := by
  unfold rn
  induction l generalizing k with
  | nil => simp at hk; subst hk; rfl
  | cons y l ih =>
    cases k with
    | zero =>
      rcases h2 with h2 | ⟨x, h2, h3⟩
      · simp at h2
      · simp at h2
        subst h2
        rw [List.takeWhile_cons, if_neg (by simpa using h3)]
        rfl
    | succ k =>
      have hy : y.1 ≤ t := h1 y (by simp)
      rw [List.takeWhile_cons, if_pos (by simpa using hy), List.length_cons, ih (fun x hx => h1 x (by rw [List.take_succ_cons]; exact List.mem_cons_of_mem _ hx)) (by simpa using h2) (by simpa using hk)]
/-- what a link's state keeps -/
structure LS.Ok (s : LS) (N : Nat) : Prop where
  t0 : 0 ≤ s.tm
  t1 : s.tm ≤ 1099511627776
  n : s.sn ≤ N
  w : s.wt.length ≤ s.sn
  d : ∀ x ∈ s.wt, x.2.length ≤ 1000000
def s0 : LS := ⟨0, 0, []⟩
theorem s0_ok : s0.Ok 0 := ⟨by decide, by decide, by decide, by decide, by decide⟩
theorem LS.Ok.snd {s : LS} {N : Nat} (h : s.Ok N) (c : Cf) (now : Int) (b : List Byte) (hb : b.length ≤ 1000000) : (snd c now b s).Ok (N + 1) := by
  obtain ⟨h1, h2, h3, h4, h5⟩ := h
  have := adv_bd (now := now) h1 h2
  refine ⟨this.1, this.2, by unfold Lnk.snd; simp only; omega, ?_, ?_⟩
  · unfold Lnk.snd
    simp only
    split
    · omega
    · rw [List.length_append, List.length_singleton]; omega
  · unfold Lnk.snd
    simp only
    split
    · exact h5
    · intro x hx
      rcases List.mem_append.1 hx with hx | hx
      · exact h5 x hx
      · rw [List.mem_singleton.1 hx]
        show (dmg _ _ _).length ≤ _
        rw [dmg_len]
        exact hb
theorem LS.Ok.rcv {s : LS} {N : Nat} (h : s.Ok N) (now : Int) : (rcS now s).Ok N := by
  obtain ⟨h1, h2, h3, h4, h5⟩ := h
  have := adv_bd (now := now) h1 h2
  refine ⟨this.1, this.2, h3, ?_, fun x hx => h5 x (List.mem_of_mem_drop hx)⟩
  unfold rcS
  simp only [List.length_drop]
  omega
theorem LS.Ok.up {s : LS} {N M : Nat} (h : s.Ok N) (k : N ≤ M) : s.Ok M := ⟨h.t0, h.t1, Nat.le_trans h.n k, h.w, h.d⟩
end Go.Proofs.Ytllhdgllgoanbaa.Lnk
