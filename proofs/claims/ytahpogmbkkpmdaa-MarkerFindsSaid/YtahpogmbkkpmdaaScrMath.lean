/-
  The pseudo-random sequence as mathematics: the window of eight bits that starts at a bit, the bytes, the bits; its rule, its period. No dump is imported.
-/
import Derived.Test.YtahpogmbkkpmdaaBytes
namespace Go.Proofs.Ytahpogmbkkpmdaa.Scr

/-- the bit that follows eight bits -/
def nxb (x : Byte) : Byte := (x ^^^ (x >>> 2) ^^^ (x >>> 4) ^^^ (x >>> 7)) &&& 1#8
/-- the window moves by one bit -/
def stp (x : Byte) : Byte := (x <<< 1) ||| nxb x
def itn : Nat → Byte → Byte
  | 0, x => x
  | n + 1, x => stp (itn n x)
/-- the eight bits from bit i on -/
def wd (i : Nat) : Byte := itn i 255#8
/-- byte k of the sequence -/
def sq (k : Nat) : Byte := wd (8 * k)
def seqb (n : Nat) : List Byte := (List.range n).map sq
/-- bit i of the sequence -/
def bit (i : Nat) : Int := ((wd i).toNat / 128 : Nat)
/-- what Apply returns -/
def app (l : List Byte) : List Byte := List.zipWith (· ^^^ ·) l (seqb l.length)

theorem all_bytes {p : Byte → Prop} (h : ∀ n : Fin 256, p (BitVec.ofFin n)) (x : Byte) : p x := h x.toFin

theorem itn_add (m n : Nat) (x : Byte) : itn (m + n) x = itn m (itn n x) := by
  induction m with
  | zero => rw [Nat.zero_add]; rfl
  | succ m ih => rw [Nat.succ_add]; exact congrArg stp ih
theorem wd_add (i j : Nat) : wd (i + j) = itn j (wd i) := by unfold wd; rw [Nat.add_comm, itn_add]
theorem wd_succ (i : Nat) : wd (i + 1) = stp (wd i) := rfl
theorem wd_255 : wd 255 = 255#8 := by decide +kernel
theorem wd_period (i : Nat) : wd (i + 255) = wd i := by
  rw [Nat.add_comm, wd_add, wd_255]; rfl
theorem wd_periods (i k : Nat) : wd (i + 255 * k) = wd i := by
  induction k with
  | zero => rfl
  | succ k ih => rw [Nat.mul_succ, ← Nat.add_assoc, wd_period, ih]
theorem sq_zero : sq 0 = 255#8 := rfl
theorem sq_succ (k : Nat) : sq (k + 1) = itn 8 (sq k) := by unfold sq; rw [Nat.mul_succ, wd_add]
theorem sq_period (k : Nat) : sq (k + 255) = sq k := by
  unfold sq
  rw [Nat.mul_add, show 8 * 255 = 255 * 8 from rfl, wd_periods]
theorem seqb_len (n : Nat) : (seqb n).length = n := by simp [seqb]
theorem seqb_at {n k : Nat} (h : k < n) : (seqb n)[k]? = some (sq k) := by simp [seqb, h]
theorem seqb_get {n k : Nat} (h : k < (seqb n).length) : (seqb n)[k] = sq k := by simp [seqb]
theorem seqb_succ (n : Nat) : seqb (n + 1) = seqb n ++ [sq n] := by simp [seqb, List.range_succ]
theorem seqb_take {m n : Nat} (h : m ≤ n) : (seqb n).take m = seqb m := by
  unfold seqb
  rw [← List.map_take, List.take_range, Nat.min_eq_left h]

/-! ### bits -/
theorem bit_two (i : Nat) : bit i = 0 ∨ bit i = 1 := by
  unfold bit
  have := (wd i).isLt
  omega
theorem bit_period (i : Nat) : bit (i + 255) = bit i := by unfold bit; rw [wd_period]
theorem bit_first : ∀ i : Fin 8, bit i.val = 1 := by decide +kernel
theorem bit_add (i j : Nat) : bit (i + j) = (((itn j (wd i)).toNat / 128 : Nat) : Int) := by unfold bit; rw [wd_add]
/-- bit j of a byte, the most significant one first, is a bit of the sequence -/
theorem byte_bit (k : Nat) (j : Nat) (hj : j < 8) : ((((sq k).toNat / 2 ^ (7 - j) % 2 : Nat)) : Int) = bit (8 * k + j) := by
  rw [bit_add]
  unfold sq
  generalize wd (8 * k) = x
  revert j
  revert x
  refine all_bytes ?_
  have : ∀ n : Fin 256, ∀ j : Fin 8, ((((BitVec.ofFin n : Byte).toNat / 2 ^ (7 - j.val) % 2 : Nat)) : Int) = (((itn j.val (BitVec.ofFin n)).toNat / 128 : Nat) : Int) := by decide +kernel
  exact fun n j hj => this n ⟨j, hj⟩
/-- what is gathered of byte k behind j of its bits -/
def gat (k j : Nat) : Int := ((sq k).toNat / 2 ^ (8 - j) : Nat)
theorem gat_zero (k : Nat) : gat k 0 = 0 := by
  unfold gat
  have := (sq k).isLt
  rw [show 2 ^ (8 - 0) = 256 from rfl]
  omega
theorem gat_all (k : Nat) : gat k 8 = ((sq k).toNat : Int) := by
  unfold gat
  rw [show 2 ^ (8 - 8) = 1 from rfl, Nat.div_one]
theorem gat_next (k j : Nat) (hj : j < 8) : 2 * gat k j + bit (8 * k + j) = gat k (j + 1) := by
  rw [← byte_bit k j hj]
  unfold gat
  rw [show 8 - j = (7 - j) + 1 by omega, show 8 - (j + 1) = 7 - j by omega, Nat.pow_succ, ← Nat.div_div_eq_div_mul]
  generalize (sq k).toNat / 2 ^ (7 - j) = q
  omega
theorem gat_le (k j : Nat) : 0 ≤ gat k j ∧ gat k j < 256 := by
  unfold gat
  have h1 := (sq k).isLt
  have h2 := Nat.div_le_self (sq k).toNat (2 ^ (8 - j))
  generalize (sq k).toNat / 2 ^ (8 - j) = q at h2
  omega
open Go.RowKit in
/-- the rule of the sequence -/
theorem bit_next (i : Nat) : bits .xor .i64 (bits .xor .i64 (bits .xor .i64 (bit (i + 7)) (bit (i + 5))) (bit (i + 3))) (bit i) = bit (i + 8) := by
  rw [bit_add i 7, bit_add i 5, bit_add i 3, bit_add i 8, show bit i = (((itn 0 (wd i)).toNat / 128 : Nat) : Int) from rfl]
  generalize wd i = x
  revert x
  exact all_bytes (by decide +kernel)

/-! ### what Apply makes -/
theorem app_len (l : List Byte) : (app l).length = l.length := by simp [app, seqb_len]
theorem app_at {l : List Byte} {k : Nat} (h : k < l.length) : (app l)[k]? = some (l[k] ^^^ sq k) := by
  unfold app
  rw [List.getElem?_zipWith, List.getElem?_eq_getElem h, seqb_at h]
/-- what stands in the result when k of its bytes are made -/
def prt (l : List Byte) (k : Nat) : List Byte := (app l).take k ++ (seqb l.length).drop k
theorem prt_len (l : List Byte) (k : Nat) : (prt l k).length = l.length := by
  unfold prt
  rw [List.length_append, List.length_take, List.length_drop, app_len, seqb_len]
  omega
theorem prt_zero (l : List Byte) : prt l 0 = seqb l.length := rfl
theorem prt_all (l : List Byte) : prt l l.length = app l := by
  unfold prt
  rw [List.take_of_length_le (by rw [app_len]; omega), List.drop_eq_nil_of_le (by rw [seqb_len]; omega), List.append_nil]
theorem prt_at {l : List Byte} {k : Nat} (h : k < l.length) : (prt l k)[k]? = some (sq k) := by
  unfold prt
  rw [List.getElem?_append_right (by rw [List.length_take, app_len]; omega), List.length_take, app_len, List.getElem?_drop]
  exact (congrArg _ (by omega)).trans (seqb_at (k := k) h)
theorem prt_set {l : List Byte} {k : Nat} (h : k < l.length) : (prt l k).set k (l[k] ^^^ sq k) = prt l (k + 1) := by
  apply List.ext_getElem?
  intro i
  rw [List.getElem?_set, prt_len]
  by_cases e : k = i
  · subst e
    rw [if_pos rfl, if_pos h]
    unfold prt
    rw [List.getElem?_append_left (by rw [List.length_take, app_len]; omega), List.getElem?_take, if_pos (by omega), app_at h]
  · rw [if_neg e]
    unfold prt
    by_cases e2 : i < k
    · rw [List.getElem?_append_left (by rw [List.length_take, app_len]; omega), List.getElem?_append_left (by rw [List.length_take, app_len]; omega), List.getElem?_take, List.getElem?_take, if_pos e2, if_pos (by omega)]
    · rw [List.getElem?_append_right (by rw [List.length_take, app_len]; omega), List.getElem?_append_right (by rw [List.length_take, app_len]; omega), List.length_take, List.length_take, app_len, List.getElem?_drop, List.getElem?_drop]
      congr 1
      omega
theorem app_snoc {l : List Byte} {k : Nat} (h : k < l.length) : (app l).take k ++ [l[k] ^^^ sq k] = (app l).take (k + 1) := by
  rw [List.take_add_one, app_at h]; rfl
theorem app_app (l : List Byte) : app (app l) = l := by
  apply List.ext_getElem?
  intro i
  by_cases h : i < l.length
  · have h2 : i < (app l).length := by rw [app_len]; exact h
    have h3 := app_at h
    rw [List.getElem?_eq_getElem h2] at h3
    injection h3 with h3
    rw [app_at h2, h3, List.getElem?_eq_getElem h, BitVec.xor_assoc, BitVec.xor_self, BitVec.xor_zero]
  · rw [List.getElem?_eq_none (by rw [app_len, app_len]; omega), List.getElem?_eq_none (by omega)]
theorem seqb_5 : seqb 5 = [255#8, 72#8, 14#8, 192#8, 154#8] := by decide +kernel
theorem app_2 : app [255#8, 73#8] = [0#8, 1#8] := by decide +kernel
end Go.Proofs.Ytahpogmbkkpmdaa.Scr
