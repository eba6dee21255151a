/-
  Plain mathematics of segmentation, no Go in sight: the pieces, the packets that carry them, what a Joiner makes of a packet; what Split returns is put together again.
-/
import Derived.Test.YtfjmlgclgmcjcaaPacMath
import Derived.Test.YtfjmlgclgmcjcaaSerMath
namespace Go.Proofs.Ytfjmlgclgmcjcaa.Par
open Pac (Pk)

/-- the numbers of a packet that may carry something -/
def rng (ap fl ct : Int) : Bool := decide (0 ≤ ap ∧ ap ≤ 2046 ∧ 0 ≤ fl ∧ fl ≤ 3 ∧ 0 ≤ ct ∧ ct ≤ 16383)
theorem rng_idle (fl ct : Int) : rng 2047 fl ct = false := by unfold rng; simp
theorem rng_ok {com sec : Bool} {ap fl ct : Int} (h : ap ≠ 2047) : Pk.ok ⟨com, sec, ap, fl, ct, [0#8]⟩ = rng ap fl ct := by
  cases hr : rng ap fl ct with
  | true =>
    unfold rng at hr
    simp only [decide_eq_true_eq] at hr
    exact Pk.ok_free ⟨by simp only; omega, by simp only; omega, by simp only; omega, by simp only; omega, by simp only; omega, by simp only; omega, by simp, by simp⟩ h
  | false =>
    unfold rng at hr
    simp only [decide_eq_false_iff_not] at hr
    refine Pk.ok_no fun hf => hr ?_
    unfold Pk.Fits at hf
    simp only at hf
    omega
theorem rng_iff {ap fl ct : Int} : rng ap fl ct = true ↔ 0 ≤ ap ∧ ap ≤ 2046 ∧ 0 ≤ fl ∧ fl ≤ 3 ∧ 0 ≤ ct ∧ ct ≤ 16383 := by unfold rng; simp

/-! ### pieces -/
def num (L m : Nat) : Nat := (L + m - 1) / m
theorem num_lt {L m k : Nat} (hm : 0 < m) : k < num L m ↔ k * m < L := by
  unfold num
  rw [← Nat.succ_le_iff, Nat.le_div_iff_mul_le hm, Nat.succ_mul]
  omega
theorem num_pos {L m : Nat} (hm : 0 < m) (hL : 0 < L) : 0 < num L m := (num_lt hm).2 (by omega)
theorem num_end {L m k : Nat} (hm : 0 < m) (hk : k ≤ num L m) (h : ¬ k * m < L) : k = num L m := by
  have := (not_congr (num_lt (L := L) (k := k) hm)).2 h
  omega
theorem num_all {L m : Nat} (hm : 0 < m) : L ≤ num L m * m := by
  have := (not_congr (num_lt (L := L) (k := num L m) hm)).1 (by omega)
  omega
theorem num_le {L m : Nat} (hm : 0 < m) : num L m ≤ L := by
  by_cases h : L < num L m
  · have h1 := (num_lt hm).1 h
    have := Nat.mul_le_mul_left L hm
    omega
  · omega
def piece (d : List Byte) (m k : Nat) : List Byte := (d.drop (k * m)).take m
theorem piece_len (d : List Byte) (m k : Nat) : (piece d m k).length = min m (d.length - k * m) := by unfold piece; rw [List.length_take, List.length_drop]
theorem take_piece (d : List Byte) (m k : Nat) : d.take (k * m) ++ piece d m k = d.take ((k + 1) * m) := by
  unfold piece
  rw [Nat.succ_mul, List.take_add]
theorem take_all {d : List Byte} {m : Nat} (hm : 0 < m) : d.take (num d.length m * m) = d := List.take_of_length_le (num_all hm)

/-! ### Split -/
def spOk (p : Pk) (L : Nat) (most : Int) : Bool := rng p.ap 0 p.ct && decide (1 ≤ most ∧ most ≤ 4090 ∧ 0 < L)
theorem spOk_iff {p : Pk} {L : Nat} {most : Int} : spOk p L most = true ↔ (0 ≤ p.ap ∧ p.ap ≤ 2046 ∧ 0 ≤ p.ct ∧ p.ct ≤ 16383) ∧ 1 ≤ most ∧ most ≤ 4090 ∧ 0 < L := by
  unfold spOk
  rw [Bool.and_eq_true, rng_iff, decide_eq_true_iff]
  omega
/-- packet number i, with piece number k, no flag set yet -/
def mid (p : Pk) (d : List Byte) (m i k : Nat) : Pk := ⟨p.com, p.sec, p.ap, 0, (p.ct + i) % 16384, piece d m k⟩
def flg (i n : Nat) : Int := (if i = 0 then 1 else 0) + (if i + 1 = n then 2 else 0)
def fin (p : Pk) (d : List Byte) (m i : Nat) : Pk := ⟨p.com, p.sec, p.ap, flg i (num d.length m), (p.ct + i) % 16384, piece d m i⟩
/-- the packets that Split returns -/
def spl (p : Pk) (d : List Byte) (m : Nat) : List Pk := (List.range (num d.length m)).map (fin p d m)
def spE (p : Pk) (L : Nat) (most : Int) : Int := if spOk p L most then 0 else 1
def spP (p : Pk) (d : List Byte) (most : Int) : List Pk := if spOk p d.length most then spl p d most.toNat else []
theorem spl_len (p : Pk) (d : List Byte) (m : Nat) : (spl p d m).length = num d.length m := by simp [spl]
theorem spl_at {p : Pk} {d : List Byte} {m i : Nat} (h : i < num d.length m) : (spl p d m)[i]? = some (fin p d m i) := by
  unfold spl
  rw [List.getElem?_map, List.getElem?_range h]; rfl
def mids (p : Pk) (d : List Byte) (m : Nat) (pre : List Nat) : List Pk := pre.mapIdx fun i k => mid p d m i k
theorem mids_nil (p : Pk) (d : List Byte) (m : Nat) : mids p d m [] = [] := rfl
theorem mids_snoc (p : Pk) (d : List Byte) (m : Nat) (pre : List Nat) (k : Nat) : mids p d m (pre ++ [k]) = mids p d m pre ++ [mid p d m pre.length k] := List.mapIdx_concat
theorem mids_len (p : Pk) (d : List Byte) (m : Nat) (pre : List Nat) : (mids p d m pre).length = pre.length := by simp [mids]
theorem mids_at {p : Pk} {d : List Byte} {m n i : Nat} (h : i < n) : (mids p d m (List.range n))[i]? = some (mid p d m i i) := by
  unfold mids
  rw [List.getElem?_mapIdx, List.getElem?_range h]; rfl
theorem sadd_next {c : Int} (h0 : 0 ≤ c) (h1 : c ≤ 16383) : sadd c 1 14 = (c + 1) % 16384 := by
  have hp : pw 14 = 16384 := by decide +kernel
  rw [sadd_ok (vl_iff.2 ⟨by decide, by decide, h0, by rw [hp]; omega⟩), hp]
theorem mid_next (p : Pk) (i : Nat) : sadd ((p.ct + (i : Int)) % 16384) 1 14 = (p.ct + ((i + 1 : Nat) : Int)) % 16384 := by
  rw [sadd_next (by omega) (by omega)]
  omega
/-- the flags set: first the first packet's, then the last one's -/
theorem spl_set {p : Pk} {d : List Byte} {m n : Nat} {x y : Pk} (hn : n = num d.length m) (h0 : 0 < n) (hx : x = { mid p d m 0 0 with fl := 1 }) (hy : y = { mid p d m (n - 1) (n - 1) with fl := flg (n - 1) n }) :
    ((mids p d m (List.range n)).set 0 x).set (n - 1) y = spl p d m := by
  have hlen : (((mids p d m (List.range n)).set 0 x).set (n - 1) y).length = n := by simp [mids_len]
  apply List.ext_getElem?
  intro i
  rcases Nat.lt_or_ge i n with hi | hi
  · rw [spl_at (by omega)]
    by_cases e : i = n - 1
    · subst e
      rw [List.getElem?_set_self (by simp [mids_len]; omega), hy]
      unfold fin mid
      rw [← hn]
    · rw [List.getElem?_set_ne (by omega)]
      by_cases e0 : i = 0
      · subst e0
        rw [List.getElem?_set_self (by simp [mids_len]; omega), hx]
        unfold fin mid flg
        rw [← hn, if_pos rfl, if_neg (by omega)]
        rfl
      · rw [List.getElem?_set_ne (by omega), mids_at hi]
        unfold fin mid flg
        rw [← hn, if_neg e0, if_neg (by omega)]
        rfl
  · rw [List.getElem?_eq_none (by omega), List.getElem?_eq_none (by rw [spl_len]; omega)]
theorem flg_last (n : Nat) (h : 0 < n) : flg (n - 1) n = if n = 1 then 3 else 2 := by
  unfold flg
  by_cases h1 : n = 1
  · subst h1; rfl
  · rw [if_neg (by omega), if_pos (by omega), if_neg h1]; rfl

/-! ### a Joiner -/
/-- a Joiner's limit and message, and what it knows of the packet accepted last -/
structure JS where
  most : Int
  msg : List Byte
  ap : Int
  ct : Int
def tok (p : Pk) : Bool := rng p.ap p.fl p.ct && decide (0 < p.d.length)
def cnt (p : Pk) : Bool := decide (p.fl = 0 ∨ p.fl = 2)
def lst (p : Pk) : Bool := decide (p.fl = 2 ∨ p.fl = 3)
def awt (s : JS) (p : Pk) : Bool := decide (0 < s.msg.length ∧ p.ap = s.ap ∧ p.ct = (s.ct + 1) % 16384)
def bef (s : JS) (p : Pk) : List Byte := if cnt p then s.msg else []
def jnE (s : JS) (p : Pk) : Int := if cnt p && !awt s p then 4 else if s.most - (bef s p).length < p.d.length then 6 else 0
def jnM (s : JS) (p : Pk) : List Byte := if jnE s p = 0 then bef s p ++ p.d else []
def tkE (s : JS) (p : Pk) : Int := if tok p then jnE s p else 1
def tkB (s : JS) (p : Pk) : Bool := tok p && (decide (jnE s p = 0) && lst p)
def tkM (s : JS) (p : Pk) : List Byte := if tkB s p then jnM s p else []
def tkS (s : JS) (p : Pk) : JS := if tok p then (if jnE s p = 0 ∧ lst p = false then ⟨s.most, jnM s p, p.ap, p.ct⟩ else { s with msg := [] }) else s

theorem tok_iff {p : Pk} : tok p = true ↔ (0 ≤ p.ap ∧ p.ap ≤ 2046 ∧ 0 ≤ p.fl ∧ p.fl ≤ 3 ∧ 0 ≤ p.ct ∧ p.ct ≤ 16383) ∧ 0 < p.d.length := by
  unfold tok
  rw [Bool.and_eq_true, rng_iff, decide_eq_true_iff]
theorem tk_bad {s : JS} {p : Pk} (h : tok p = false) : tkE s p = 1 ∧ tkB s p = false ∧ tkM s p = [] ∧ tkS s p = s := by
  have hB : tkB s p = false := by unfold tkB; rw [h]; rfl
  refine ⟨by unfold tkE; rw [h]; rfl, hB, by unfold tkM; rw [hB]; rfl, by unfold tkS; rw [h]; rfl⟩
theorem tk_err {s : JS} {p : Pk} (h : tok p = true) (h2 : jnE s p ≠ 0) : tkE s p = jnE s p ∧ tkB s p = false ∧ tkM s p = [] ∧ tkS s p = { s with msg := [] } := by
  have hB : tkB s p = false := by unfold tkB; rw [decide_eq_false h2]; simp
  refine ⟨by unfold tkE; rw [if_pos h], hB, by unfold tkM; rw [hB]; rfl, by unfold tkS; rw [if_pos h, if_neg (fun e => h2 e.1)]⟩
theorem tk_done {s : JS} {p : Pk} (h : tok p = true) (h2 : jnE s p = 0) (h3 : lst p = true) : tkE s p = 0 ∧ tkB s p = true ∧ tkM s p = bef s p ++ p.d ∧ tkS s p = { s with msg := [] } := by
  have hB : tkB s p = true := by unfold tkB; rw [h, decide_eq_true h2, h3]; rfl
  refine ⟨by unfold tkE; rw [if_pos h, h2], hB, by unfold tkM jnM; rw [if_pos hB, if_pos h2], by unfold tkS; rw [if_pos h, if_neg (fun e => by rw [h3] at e; cases e.2)]⟩
theorem tk_more {s : JS} {p : Pk} (h : tok p = true) (h2 : jnE s p = 0) (h3 : lst p = false) : tkE s p = 0 ∧ tkB s p = false ∧ tkM s p = [] ∧ tkS s p = ⟨s.most, bef s p ++ p.d, p.ap, p.ct⟩ := by
  have hB : tkB s p = false := by unfold tkB; rw [h3]; simp
  refine ⟨by unfold tkE; rw [if_pos h, h2], hB, by unfold tkM; rw [hB]; rfl, by unfold tkS; rw [if_pos h, if_pos ⟨h2, h3⟩]; unfold jnM; rw [if_pos h2]⟩

theorem tkS_most (s : JS) (p : Pk) : (tkS s p).most = s.most := by
  unfold tkS
  split
  · split <;> rfl
  · rfl
theorem bef_len (s : JS) (p : Pk) : (bef s p).length ≤ s.msg.length := by unfold bef; split <;> simp
theorem jnM_len (s : JS) (p : Pk) : (jnM s p).length ≤ s.msg.length + p.d.length := by
  have := bef_len s p
  unfold jnM
  split
  · rw [List.length_append]; omega
  · simp
theorem tkS_len (s : JS) (p : Pk) : (tkS s p).msg.length ≤ s.msg.length + p.d.length := by
  have := jnM_len s p
  unfold tkS
  split
  · split
    · exact this
    · simp
  · omega
theorem tkM_len (s : JS) (p : Pk) : (tkM s p).length ≤ s.msg.length + p.d.length := by
  have := jnM_len s p
  unfold tkM
  split
  · exact this
  · simp
theorem tkS_ct {s : JS} {p : Pk} (h0 : 0 ≤ s.ct) (h1 : s.ct ≤ 16383) : 0 ≤ (tkS s p).ct ∧ (tkS s p).ct ≤ 16383 := by
  unfold tkS
  split
  · rename_i h
    obtain ⟨⟨_, _, _, _, h5, h6⟩, _⟩ := tok_iff.1 h
    split
    · exact ⟨h5, h6⟩
    · exact ⟨h0, h1⟩
  · exact ⟨h0, h1⟩

/-! ### what Split returns is put together again -/
section
variable {p : Pk} {d : List Byte} {m : Nat} {most : Int}
theorem fin_tok {i : Nat} (hm : 0 < m) (hp : 0 ≤ p.ap ∧ p.ap ≤ 2046 ∧ 0 ≤ p.ct ∧ p.ct ≤ 16383) (hi : i < num d.length m) : tok (fin p d m i) = true := by
  have h1 := (num_lt hm).1 hi
  have hl := piece_len d m i
  refine tok_iff.2 ⟨?_, ?_⟩
  · unfold fin flg
    simp only
    refine ⟨hp.1, hp.2.1, ?_, ?_, by omega, by omega⟩
    · split <;> split <;> decide
    · split <;> split <;> decide
  · show 0 < (piece d m i).length
    omega
/-- the state of a Joiner that has taken packets 0 .. i-1 -/
def stt (p : Pk) (d : List Byte) (m : Nat) (most : Int) (i : Nat) (s : JS) : Prop :=
  s.most = most ∧ (0 < i → s.msg = d.take (i * m) ∧ s.ap = p.ap ∧ s.ct = (p.ct + i - 1) % 16384)
theorem flg_cnt (i n : Nat) : decide (flg i n = 0 ∨ flg i n = 2) = decide (i ≠ 0) := by
  unfold flg
  by_cases h : i = 0
  · subst h
    rw [if_pos rfl]
    split <;> rfl
  · rw [if_neg h, decide_eq_true h]
    split <;> rfl
theorem flg_lst (i n : Nat) : decide (flg i n = 2 ∨ flg i n = 3) = decide (i + 1 = n) := by
  unfold flg
  by_cases h : i + 1 = n
  · rw [if_pos h, decide_eq_true h]
    split <;> rfl
  · rw [if_neg h, decide_eq_false h]
    split <;> rfl
theorem cnt_fin (i : Nat) : cnt (fin p d m i) = decide (i ≠ 0) := flg_cnt _ _
theorem lst_fin (i : Nat) : lst (fin p d m i) = decide (i + 1 = num d.length m) := flg_lst _ _
theorem stt_bef {i : Nat} {s : JS} (hs : stt p d m most i s) : bef s (fin p d m i) = d.take (i * m) := by
  unfold bef
  rw [cnt_fin]
  by_cases h : i = 0
  · subst h; simp
  · rw [if_pos (by simpa using h)]
    exact (hs.2 (by omega)).1
theorem stt_awt {i : Nat} {s : JS} (hm : 0 < m) (hs : stt p d m most i s) (hi : i < num d.length m) : (cnt (fin p d m i) && !awt s (fin p d m i)) = false := by
  rw [cnt_fin]
  by_cases h : i = 0
  · subst h; simp
  · obtain ⟨h1, h2, h3⟩ := hs.2 (by omega)
    have hlt := (num_lt hm).1 hi
    have hpos : 1 * 1 ≤ i * m := Nat.mul_le_mul (by omega) hm
    have : awt s (fin p d m i) = true := by
      unfold awt
      rw [decide_eq_true_iff, h1, h2, h3, List.length_take]
      unfold fin
      simp only
      refine ⟨by omega, trivial, by omega⟩
    rw [this]; simp
theorem stt_len {i : Nat} (hm : 0 < m) (hi : i < num d.length m) : (d.take (i * m)).length = i * m ∧ ((d.take (i * m)).length + (fin p d m i).d.length = (d.take ((i + 1) * m)).length) := by
  have hlt := (num_lt hm).1 hi
  refine ⟨by rw [List.length_take]; omega, ?_⟩
  rw [← take_piece, List.length_append]; rfl
/-- a Joiner whose limit is the message's length takes them all -/
theorem back_step {i : Nat} {s : JS} (hm : 0 < m) (hp : 0 ≤ p.ap ∧ p.ap ≤ 2046 ∧ 0 ≤ p.ct ∧ p.ct ≤ 16383) (hs : stt p d m d.length i s) (hi : i < num d.length m) :
    tkE s (fin p d m i) = 0 ∧ tkB s (fin p d m i) = decide (i + 1 = num d.length m) ∧ tkM s (fin p d m i) = (if i + 1 = num d.length m then d else []) ∧
      (i + 1 = num d.length m → (tkS s (fin p d m i)).msg = []) ∧ (i + 1 ≠ num d.length m → stt p d m d.length (i + 1) (tkS s (fin p d m i))) := by
  have ht := fin_tok (d := d) hm hp hi
  have hb := stt_bef hs
  have hj : jnE s (fin p d m i) = 0 := by
    unfold jnE
    rw [stt_awt hm hs hi, hb, hs.1]
    obtain ⟨_, h2⟩ := stt_len (p := p) hm hi
    have h3 : (d.take ((i + 1) * m)).length ≤ d.length := by rw [List.length_take]; omega
    rw [if_neg (by simp), if_neg (by omega)]
  by_cases h : i + 1 = num d.length m
  · obtain ⟨h1, h2, h3, h4⟩ := tk_done ht hj (by rw [lst_fin, decide_eq_true h])
    refine ⟨h1, by rw [h2, decide_eq_true h], ?_, fun _ => by rw [h4], fun e => absurd h e⟩
    rw [h3, hb, if_pos h]
    show d.take (i * m) ++ piece d m i = d
    rw [take_piece, h, take_all hm]
  · obtain ⟨h1, h2, h3, h4⟩ := tk_more ht hj (by rw [lst_fin, decide_eq_false h])
    refine ⟨h1, by rw [h2, decide_eq_false h], by rw [h3, if_neg h], fun e => absurd e h, fun _ => ?_⟩
    rw [h4, hb]
    refine ⟨hs.1, fun _ => ⟨take_piece d m i, rfl, ?_⟩⟩
    show (p.ct + (i : Int)) % 16384 = (p.ct + ((i + 1 : Nat) : Int) - 1) % 16384
    congr 1
    omega
/-- one whose limit is less never completes, and says so at the end -/
theorem long_step {i : Nat} {s : JS} (hm : 0 < m) (hp : 0 ≤ p.ap ∧ p.ap ≤ 2046 ∧ 0 ≤ p.ct ∧ p.ct ≤ 16383) (hs : stt p d m (d.length - 1) i s) (hi : i < num d.length m) :
    tkB s (fin p d m i) = false ∧ (i + 1 = num d.length m → tkE s (fin p d m i) = 6) ∧ (i + 1 ≠ num d.length m → stt p d m (d.length - 1) (i + 1) (tkS s (fin p d m i))) := by
  have ht := fin_tok (d := d) hm hp hi
  have hb := stt_bef hs
  have hlt := (num_lt hm).1 hi
  obtain ⟨_, h2⟩ := stt_len (p := p) hm hi
  by_cases h : i + 1 = num d.length m
  · have hj : jnE s (fin p d m i) = 6 := by
      unfold jnE
      rw [stt_awt hm hs hi, hb, hs.1]
      rw [h, take_all hm] at h2
      rw [if_neg (by simp), if_pos (by omega)]
    obtain ⟨h1, h3, _, _⟩ := tk_err ht (by rw [hj]; decide)
    exact ⟨h3, fun _ => by rw [h1, hj], fun e => absurd h e⟩
  · have hj : jnE s (fin p d m i) = 0 := by
      unfold jnE
      rw [stt_awt hm hs hi, hb, hs.1]
      have h4 := (num_lt (L := d.length) (k := i + 1) hm).1 (by omega)
      rw [List.length_take, List.length_take] at h2
      rw [if_neg (by simp), if_neg (by rw [List.length_take]; omega)]
    obtain ⟨h1, h3, _, h4⟩ := tk_more ht hj (by rw [lst_fin, decide_eq_false h])
    refine ⟨h3, fun e => absurd e h, fun _ => ?_⟩
    rw [h4, hb]
    refine ⟨hs.1, fun _ => ⟨take_piece d m i, rfl, ?_⟩⟩
    show (p.ct + (i : Int)) % 16384 = (p.ct + ((i + 1 : Nat) : Int) - 1) % 16384
    congr 1
    omega
/-- the state of a Joiner that number q never reached, before number i -/
def mss (p : Pk) (d : List Byte) (m q : Nat) (i : Nat) (s : JS) : Prop :=
  (i ≤ q ∧ stt p d m d.length i s ∧ (i = 0 → s.msg = [])) ∨ (i = q + 1 ∧ stt p d m d.length q s ∧ (q = 0 → s.msg = [])) ∨ (q < i ∧ s.msg = [])
theorem miss_no {i : Nat} {s : JS} (hi0 : i ≠ 0) (h : s.msg = [] ∨ ∃ q : Nat, 0 < q ∧ i = q + 1 ∧ s.ct = (p.ct + q - 1) % 16384) (ht : tok (fin p d m i) = true) :
    tkB s (fin p d m i) = false ∧ (tkS s (fin p d m i)).msg = [] := by
  have ha : awt s (fin p d m i) = false := by
    unfold awt
    rw [decide_eq_false_iff_not]
    rintro ⟨h1, _, h3⟩
    rcases h with h | ⟨q, hq, rfl, hc⟩
    · rw [h] at h1; simp at h1
    · rw [hc] at h3
      unfold fin at h3
      simp only at h3
      omega
  have hj : jnE s (fin p d m i) = 4 := by
    unfold jnE
    rw [cnt_fin, ha, if_pos (by simpa using hi0)]
  obtain ⟨_, h2, _, h4⟩ := tk_err ht (by rw [hj]; decide)
  exact ⟨h2, by rw [h4]⟩
theorem miss_step {q i : Nat} {s : JS} (hm : 0 < m) (hp : 0 ≤ p.ap ∧ p.ap ≤ 2046 ∧ 0 ≤ p.ct ∧ p.ct ≤ 16383) (hq : q < num d.length m) (hs : mss p d m q i s) (hi : i < num d.length m) (hne : i ≠ q) :
    tkB s (fin p d m i) = false ∧ mss p d m q (i + 1) (tkS s (fin p d m i)) := by
  have ht := fin_tok (d := d) hm hp hi
  rcases hs with ⟨h1, h2, h3⟩ | ⟨rfl, h2, h3⟩ | ⟨h1, h2⟩
  · obtain ⟨_, b2, _, _, b5⟩ := back_step hm hp h2 hi
    have : i + 1 ≠ num d.length m := by omega
    refine ⟨by rw [b2, decide_eq_false this], .inl ⟨by omega, b5 this, fun e => by omega⟩⟩
  · have := miss_no (p := p) (d := d) (m := m) (i := q + 1) (s := s) (by omega) (by
      rcases Nat.eq_zero_or_pos q with h0 | h0
      · exact .inl (h3 h0)
      · exact .inr ⟨q, h0, rfl, (h2.2 h0).2.2⟩) ht
    exact ⟨this.1, .inr (.inr ⟨by omega, this.2⟩)⟩
  · have := miss_no (p := p) (d := d) (m := m) (i := i) (s := s) (by omega) (.inl h2) ht
    exact ⟨this.1, .inr (.inr ⟨by omega, this.2⟩)⟩
theorem miss_skip {q : Nat} {s : JS} (hs : mss p d m q q s) : mss p d m q (q + 1) s := by
  rcases hs with ⟨_, h2, h3⟩ | ⟨h1, _⟩ | ⟨h1, _⟩
  · exact .inr (.inl ⟨rfl, h2, h3⟩)
  · omega
  · omega
end
end Go.Proofs.Ytfjmlgclgmcjcaa.Par
