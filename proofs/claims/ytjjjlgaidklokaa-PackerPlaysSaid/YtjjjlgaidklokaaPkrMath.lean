/-
  Plain mathematics of the packer: packets that wait, the rest of an idle packet, what Push and Next do; the reference's state beside it.
-/
import Derived.Test.YtjjjlgaidklokaaPacW5
namespace Go.Proofs.Ytjjjlgaidklokaa.Pkr
open Pac

/-- the encoding of one packet that is not idle -/
structure Pkt (l : List Byte) : Prop where
  e : deE l = 0
  n : deN l = l.length
  a : (deP l).ap ≠ 2047
instance (l : List Byte) : Decidable (Pkt l) := decidable_of_iff (deE l = 0 ∧ deN l = l.length ∧ (deP l).ap ≠ 2047) ⟨fun h => ⟨h.1, h.2.1, h.2.2⟩, fun h => ⟨h.e, h.n, h.a⟩⟩

/-- a whole packet is read whatever follows it -/
theorem whole {p : Pk} (h : p.ok = true) (r : List Byte) : deE (p.enc ++ r) = 0 ∧ deP (p.enc ++ r) = p ∧ deN (p.enc ++ r) = p.enc.length ∧ siE (p.enc ++ r) = 0 ∧ siN (p.enc ++ r) = p.enc.length ∧ 7 ≤ p.enc.length ∧ p.enc.length ≤ 4096 := by
  obtain ⟨h1, h2, h3⟩ := dec_enc h r
  obtain ⟨z1, z2, z3⟩ := de_zero h1
  obtain ⟨_, _, g3⟩ := de_good z1 z2 z3
  obtain ⟨s1, s2, s3⟩ := siE_zero z1
  obtain ⟨_, s5⟩ := siE_good s1 s2 s3
  have ht : p.enc.length = tot (p.enc ++ r) := by rw [← h3, g3]
  refine ⟨h1, h2, h3, z1, by rw [s5, ht], ?_, by omega⟩
  rw [ht]; unfold tot; omega
theorem enc_len {p : Pk} (h : p.ok = true) : p.enc.length = 6 + p.d.length := by
  rw [Pk.enc_yes h, List.length_append]; rfl
theorem Pkt.enc {l : List Byte} (h : Pkt l) : (deP l).ok = true ∧ (deP l).enc = l := by
  obtain ⟨h1, h2, _⟩ := enc_dec h.e
  rw [h.n, List.take_length] at h2
  exact ⟨h1, h2⟩
theorem Pkt.whole {l : List Byte} (h : Pkt l) (r : List Byte) : deE (l ++ r) = 0 ∧ (deP (l ++ r)).ap ≠ 2047 ∧ deN (l ++ r) = l.length ∧ siE (l ++ r) = 0 ∧ siN (l ++ r) = l.length ∧ 7 ≤ l.length ∧ l.length ≤ 4096 := by
  obtain ⟨h1, h2⟩ := h.enc
  have := Pkr.whole h1 r
  rw [h2] at this
  exact ⟨this.1, by rw [this.2.1]; exact h.a, this.2.2⟩
theorem Pkt.seven {l : List Byte} (h : Pkt l) : 7 ≤ l.length := (h.whole []).2.2.2.2.2.1
theorem Pkt.most {l : List Byte} (h : Pkt l) : l.length ≤ 4096 := (h.whole []).2.2.2.2.2.2
theorem Pkt.of {p : Pk} (h : p.ok = true) (ha : p.ap ≠ 2047) : Pkt p.enc := by
  have := Pkr.whole h []
  rw [List.append_nil] at this
  exact ⟨this.1, this.2.2.1, by rw [this.2.1]; exact ha⟩

/-- the idle packet that fills m bytes -/
def fil (m : Nat) : List Byte := idV ((max m 7 : Nat) : Int)
theorem fil_idP {m : Nat} (h : m ≤ 4096) : ∃ k, 1 ≤ k ∧ k ≤ 4090 ∧ fil m = (idP k).enc ∧ (max m 7) = 6 + k := by
  obtain ⟨e1, _⟩ := id_yes (s := ((max m 7 : Nat) : Int)) (by omega)
  refine ⟨(((max m 7 : Nat) : Int) - 6).toNat, by omega, by omega, e1, by omega⟩
theorem fil_len {m : Nat} (h : m ≤ 4096) : (fil m).length = max m 7 := by
  obtain ⟨k, h1, h2, h3, h4⟩ := fil_idP h
  rw [h3, h4, enc_len (idP_ok h1 h2)]
  simp [idP]
theorem fil_whole {m : Nat} (h : m ≤ 4096) (r : List Byte) : deE (fil m ++ r) = 0 ∧ (deP (fil m ++ r)).ap = 2047 ∧ deN (fil m ++ r) = max m 7 := by
  obtain ⟨k, h1, h2, h3, h4⟩ := fil_idP h
  have := Pkr.whole (idP_ok h1 h2) r
  rw [h3]
  refine ⟨this.1, by rw [this.2.1]; rfl, ?_⟩
  rw [this.2.2.1, h4, enc_len (idP_ok h1 h2)]
  simp [idP]
/-- the idle packet of seven bytes -/
def sev : List Byte := fil 0
theorem sev_len : sev.length = 7 := fil_len (by omega)
theorem fil_sev {m : Nat} (h : m ≤ 7) : fil m = sev := by unfold fil sev fil; rw [show max m 7 = max 0 7 by omega]
theorem sev_val : sev = [7#8, 255#8, 192#8, 0#8, 0#8, 0#8, 0#8] := by decide +kernel

/-- a packer's state: what is left of an idle packet, of a packet that has begun; the packets behind it -/
structure PS where
  rs : List Byte
  fb : List Byte
  ls : List (List Byte)
/-- the bytes that wait -/
def PS.wt (s : PS) : List Byte := s.fb ++ s.ls.flatten
structure PS.Ok (R : Nat) (s : PS) : Prop where
  p : ∀ x ∈ s.ls, Pkt x
  r : s.rs.length ≤ 6
  w : s.wt.length ≤ R

/-- n bytes are taken -/
def cut : List Byte → List (List Byte) → Nat → List Byte × List (List Byte)
  | f, [], n => (f.drop n, [])
  | f, x :: ls, n => if n ≤ f.length then (f.drop n, x :: ls) else cut x ls (n - f.length)
theorem cut_le {f : List Byte} {ls : List (List Byte)} {n : Nat} (h : n ≤ f.length) : cut f ls n = (f.drop n, ls) := by
  cases ls with
  | nil => rfl
  | cons x ls => unfold cut; rw [if_pos h]
theorem cut_gt {f x : List Byte} {ls : List (List Byte)} {n : Nat} (h : f.length < n) : cut f (x :: ls) n = cut x ls (n - f.length) := by
  conv => lhs; unfold cut
  rw [if_neg (by omega)]
theorem cut_wt (ls : List (List Byte)) : ∀ (f : List Byte) (n : Nat), (cut f ls n).1 ++ (cut f ls n).2.flatten = (f ++ ls.flatten).drop n := by
  induction ls with
  | nil => intro f n; simp [cut]
  | cons x ls ih =>
    intro f n
    by_cases h : n ≤ f.length
    · rw [cut_le h]
      simp only
      rw [List.drop_append_of_le_length h]
    · rw [cut_gt (by omega), ih, List.flatten_cons, List.drop_append (l₁ := f), List.drop_eq_nil_of_le («as» := f) (by omega), List.nil_append]
theorem cut_mem (ls : List (List Byte)) : ∀ (f : List Byte) (n : Nat), ∀ x ∈ (cut f ls n).2, x ∈ ls := by
  induction ls with
  | nil => intro f n x hx; simp [cut] at hx
  | cons y ls ih =>
    intro f n x hx
    by_cases h : n ≤ f.length
    · rw [cut_le h] at hx; exact hx
    · rw [cut_gt (by omega)] at hx; exact List.mem_cons_of_mem _ (ih _ _ _ hx)
theorem cut_add (ls : List (List Byte)) : ∀ (f : List Byte) (j k : Nat), cut (cut f ls j).1 (cut f ls j).2 k = cut f ls (j + k) := by
  induction ls with
  | nil => intro f j k; simp [cut]
  | cons x ls ih =>
    intro f j k
    by_cases h : j ≤ f.length
    · rw [cut_le h]
      simp only
      by_cases h2 : j + k ≤ f.length
      · rw [cut_le h2, cut_le (by rw [List.length_drop]; omega), List.drop_drop]
      · rw [cut_gt (by rw [List.length_drop]; omega), cut_gt (by omega), List.length_drop]
        congr 1
        omega
    · rw [cut_gt (by omega), ih, cut_gt (by omega)]
      congr 1
      omega
/-- where the cut goes through: the packets before it, the one that it parts last -/
theorem cut_split (ls : List (List Byte)) : ∀ (f : List Byte) (n : Nat), f.length < n → n ≤ (f ++ ls.flatten).length →
    ∃ mid y, ls = (mid ++ [y]) ++ (cut f ls n).2 ∧ (cut f ls n).1.length < y.length ∧ n + (cut f ls n).1.length = f.length + (mid ++ [y]).flatten.length := by
  induction ls with
  | nil => intro f n h1 h2; simp at h2; omega
  | cons x ls ih =>
    intro f n h1 h2
    rw [cut_gt h1]
    rw [List.flatten_cons, List.length_append, List.length_append] at h2
    by_cases h : n - f.length ≤ x.length
    · rw [cut_le h]
      exact ⟨[], x, by simp, by simp only [List.length_drop]; omega, by simp; omega⟩
    · obtain ⟨mid, y, e1, e2, e3⟩ := ih x (n - f.length) (by omega) (by rw [List.length_append]; omega)
      refine ⟨x :: mid, y, ?_, e2, ?_⟩
      · rw [List.cons_append, List.cons_append, ← e1]
      · rw [List.cons_append, List.flatten_cons, List.length_append]; omega

/-- what Push answers and leaves -/
def psE (R : Nat) (l : List Byte) (s : PS) : Int := if Pkt l then (if R < s.wt.length + l.length then 7 else 0) else 1
def psS (R : Nat) (l : List Byte) (s : PS) : PS := if psE R l s = 0 then { s with ls := s.ls ++ [l] } else s
theorem push_wt (s : PS) (l : List Byte) : PS.wt { s with ls := s.ls ++ [l] } = s.wt ++ l := by
  unfold PS.wt
  simp
theorem ps_no {R : Nat} {l : List Byte} {s : PS} (h : ¬ Pkt l) : psE R l s = 1 ∧ psS R l s = s := by
  have e : psE R l s = 1 := by unfold psE; rw [if_neg h]
  exact ⟨e, by unfold psS; rw [e]; rfl⟩
theorem ps_full {R : Nat} {l : List Byte} {s : PS} (h : Pkt l) (h2 : R < s.wt.length + l.length) : psE R l s = 7 ∧ psS R l s = s := by
  have e : psE R l s = 7 := by unfold psE; rw [if_pos h, if_pos h2]
  exact ⟨e, by unfold psS; rw [e]; rfl⟩
theorem ps_yes {R : Nat} {l : List Byte} {s : PS} (h : Pkt l) (h2 : ¬ R < s.wt.length + l.length) : psE R l s = 0 ∧ psS R l s = { s with ls := s.ls ++ [l] } := by
  have e : psE R l s = 0 := by unfold psE; rw [if_pos h, if_neg h2]
  exact ⟨e, by unfold psS; rw [if_pos e]⟩
theorem PS.Ok.push {R : Nat} {s : PS} (h : s.Ok R) {l : List Byte} (hl : Pkt l) (h2 : ¬ R < s.wt.length + l.length) : PS.Ok R { s with ls := s.ls ++ [l] } :=
  ⟨fun x hx => by
    rcases List.mem_append.1 hx with h1 | h1
    · exact h.p x h1
    · rw [List.mem_singleton.1 h1]; exact hl, h.r, by rw [push_wt, List.length_append]; omega⟩

/-- n bytes of the rest are taken; of what waits; an idle packet is begun -/
def PS.rest (s : PS) (n : Nat) : PS := { s with rs := s.rs.drop n }
def PS.take (s : PS) (n : Nat) : PS := { s with fb := (cut s.fb s.ls (min n s.wt.length)).1, ls := (cut s.fb s.ls (min n s.wt.length)).2 }
def PS.idle (s : PS) (m : Nat) : PS := { s with rs := if m = 0 then s.rs else (fil m).drop m }
theorem PS.take_wt (s : PS) (n : Nat) : (s.take n).wt = s.wt.drop n := by
  have h : (s.take n).wt = s.wt.drop (min n s.wt.length) := cut_wt _ _ _
  rw [h]
  by_cases hn : n ≤ s.wt.length
  · rw [Nat.min_eq_left hn]
  · rw [Nat.min_eq_right (by omega), List.drop_eq_nil_of_le (Nat.le_refl _), List.drop_eq_nil_of_le (by omega)]
theorem PS.Ok.rest {R n : Nat} {s : PS} (h : s.Ok R) : (s.rest n).Ok R := ⟨h.p, by show (s.rs.drop n).length ≤ 6; rw [List.length_drop]; have := h.r; omega, h.w⟩
theorem PS.Ok.take {R n : Nat} {s : PS} (h : s.Ok R) : (s.take n).Ok R :=
  ⟨fun x hx => h.p x (cut_mem _ _ _ x hx), h.r, by rw [PS.take_wt, List.length_drop]; have := h.w; omega⟩
theorem fil_drop {m : Nat} (h0 : 0 < m) (h : m ≤ 4096) : ((fil m).drop m).length = 7 - m := by rw [List.length_drop, fil_len h]; omega
theorem PS.Ok.idle {R m : Nat} {s : PS} (h : s.Ok R) (hm : m ≤ 4096) : (s.idle m).Ok R := by
  refine ⟨h.p, ?_, h.w⟩
  show (if m = 0 then s.rs else (fil m).drop m).length ≤ 6
  by_cases h0 : m = 0
  · rw [if_pos h0]; exact h.r
  · rw [if_neg h0, fil_drop (by omega) hm]; omega

/-- what Next leaves, the data field, the pointer -/
def nxA (Z : Nat) (s : PS) : Nat := Z - (s.rs.take Z).length
def nxB (Z : Nat) (s : PS) : Nat := nxA Z s - (s.wt.take (nxA Z s)).length
def nxS (Z : Nat) (s : PS) : PS := ((s.rest Z).take (nxA Z s)).idle (nxB Z s)
def nxF (Z : Nat) (s : PS) : List Byte := s.rs.take Z ++ s.wt.take (nxA Z s) ++ (fil (nxB Z s)).take (nxB Z s)
def nxP (Z : Nat) (s : PS) : Nat := if Z ≤ s.rs.length + s.fb.length then 2047 else s.rs.length + s.fb.length
theorem nxB_le (Z : Nat) (s : PS) : nxB Z s ≤ Z := by unfold nxB nxA; omega
theorem nxF_len {Z : Nat} {s : PS} (h : Z ≤ 1012) : (nxF Z s).length = Z := by
  have h1 := nxB_le Z s
  have h2 : (s.rs.take Z).length ≤ Z := by rw [List.length_take]; omega
  have h3 : (s.wt.take (nxA Z s)).length ≤ nxA Z s := by rw [List.length_take]; omega
  have h4 : ((fil (nxB Z s)).take (nxB Z s)).length = nxB Z s := by rw [List.length_take, fil_len (by omega)]; omega
  unfold nxF
  rw [List.length_append, List.length_append, h4]
  have : nxB Z s = nxA Z s - (s.wt.take (nxA Z s)).length := rfl
  have : nxA Z s = Z - (s.rs.take Z).length := rfl
  omega
theorem PS.Ok.next {R Z : Nat} {s : PS} (h : s.Ok R) (hZ : Z ≤ 1012) : (nxS Z s).Ok R := (h.rest.take).idle (by have := nxB_le Z s; omega)
theorem nx_wt (Z : Nat) (s : PS) : (nxS Z s).wt = s.wt.drop (nxA Z s) := PS.take_wt (s.rest Z) _

/-! ### the loop of takeWaiting -/
/-- end is where the bytes F end, behind which the packets S wait; what is to be taken are n bytes -/
structure Tw (s : PS) (n : Nat) (F : List Byte) (S : List (List Byte)) (e : Nat) : Prop where
  le : F.length ≤ e
  fit : s.wt.drop e = S.flatten
  el : e ≤ s.wt.length
  lo : e - F.length ≤ n
  c : cut s.fb s.ls n = cut F S (n - (e - F.length))
  p : ∀ x ∈ S, Pkt x
theorem Tw.start {R : Nat} {s : PS} (h : s.Ok R) (n : Nat) : Tw s n s.fb s.ls s.fb.length :=
  ⟨Nat.le_refl _, by unfold PS.wt; rw [List.drop_left], by unfold PS.wt; rw [List.length_append]; omega, by omega, by rw [Nat.sub_self, Nat.sub_zero], h.p⟩
theorem Tw.step {s : PS} {n e : Nat} {F : List Byte} {S : List (List Byte)} (h : Tw s n F S e) (hn : n ≤ s.wt.length) (he : e < n) :
    ∃ x S', S = x :: S' ∧ siN (s.wt.drop e) = x.length ∧ siE (s.wt.drop e) = 0 ∧ Tw s n x S' (e + x.length) ∧ 7 ≤ x.length ∧ x.length ≤ 4096 := by
  obtain ⟨h1, h2, h3, h4, h5, h6⟩ := h
  cases S with
  | nil =>
    have := congrArg List.length h2
    rw [List.length_drop] at this
    simp at this
    omega
  | cons x S' =>
    have hx := h6 x (by simp)
    obtain ⟨_, _, _, w4, w5, w6, w7⟩ := hx.whole S'.flatten
    rw [← List.flatten_cons, ← h2] at w4 w5
    have hl : (s.wt.drop e).length = x.length + S'.flatten.length := by rw [h2, List.flatten_cons, List.length_append]
    rw [List.length_drop] at hl
    refine ⟨x, S', rfl, w5, w4, ⟨by omega, ?_, by omega, by omega, ?_, fun y hy => h6 y (List.mem_cons_of_mem _ hy)⟩, w6, w7⟩
    · rw [← List.drop_drop, h2, List.flatten_cons, List.drop_left]
    · rw [h5, cut_gt (by omega)]
      congr 1
      omega
theorem Tw.stop {s : PS} {n e : Nat} {F : List Byte} {S : List (List Byte)} (h : Tw s n F S e) (he : n ≤ e) : (cut s.fb s.ls n).1.length = e - n := by
  rw [h.c, cut_le (by have := h.lo; have := h.le; omega)]
  simp only [List.length_drop]
  have := h.lo
  have := h.le
  omega

/-! ### the reference's state -/
/-- the reference's list and the number of bytes taken of its first packet -/
def RK (Lr : List (List Byte)) (Tk : Nat) (f : List Byte) (ls : List (List Byte)) : Prop :=
  (Tk = 0 ∧ f = [] ∧ ls = Lr) ∨ ∃ x, 0 < Tk ∧ Tk < x.length ∧ Lr = x :: ls ∧ f = x.drop Tk
structure RR (Re : Nat) (Lr : List (List Byte)) (Tk : Nat) (s : PS) : Prop where
  r : Re ≤ 6
  rs : s.rs = sev.drop (7 - Re)
  k : RK Lr Tk s.fb s.ls
  p : ∀ x ∈ Lr, Pkt x
theorem RR.rl {Re Tk : Nat} {Lr : List (List Byte)} {s : PS} (h : RR Re Lr Tk s) : s.rs.length = Re := by
  rw [h.rs, List.length_drop, sev_len]; have := h.r; omega
theorem RK.flat {Lr ls : List (List Byte)} {Tk : Nat} {f : List Byte} (h : RK Lr Tk f ls) : Lr.flatten.drop Tk = f ++ ls.flatten ∧ Tk ≤ Lr.flatten.length := by
  rcases h with ⟨rfl, rfl, rfl⟩ | ⟨x, h1, h2, rfl, rfl⟩
  · exact ⟨by simp, Nat.zero_le _⟩
  · rw [List.flatten_cons, List.drop_append_of_le_length (by omega), List.length_append]
    exact ⟨rfl, by omega⟩
theorem RR.left {Re Tk : Nat} {Lr : List (List Byte)} {s : PS} (h : RR Re Lr Tk s) : Tk + s.wt.length = Lr.flatten.length := by
  obtain ⟨h1, h2⟩ := h.k.flat
  have := congrArg List.length h1
  rw [List.length_drop] at this
  unfold PS.wt
  omega
theorem RR.start : RR 0 [] 0 ⟨[], [], []⟩ := ⟨by omega, by rw [Nat.sub_zero, List.drop_eq_nil_of_le (by rw [sev_len]; omega)], .inl ⟨rfl, rfl, rfl⟩, fun x hx => by cases hx⟩
theorem RR.push {Re Tk : Nat} {Lr : List (List Byte)} {s : PS} (h : RR Re Lr Tk s) {l : List Byte} (hl : Pkt l) : RR Re (Lr ++ [l]) Tk { s with ls := s.ls ++ [l] } := by
  refine ⟨h.r, h.rs, ?_, fun x hx => ?_⟩
  · rcases h.k with ⟨h1, h2, h3⟩ | ⟨x, h1, h2, h3, h4⟩
    · exact .inl ⟨h1, h2, by rw [h3]⟩
    · exact .inr ⟨x, h1, h2, by rw [h3]; rfl, h4⟩
  · rcases List.mem_append.1 hx with h1 | h1
    · exact h.p x h1
    · rw [List.mem_singleton.1 h1]; exact hl

/-- the pointer as the reference has it so far: n bytes are out, f is what is left of the packet that has begun -/
def Pt (Z P n Tk : Nat) (f : List Byte) (fst : Nat) : Prop :=
  (fst = 2047 ∧ n ≤ P ∧ (Tk = 0 → n = Z ∨ n = P) ∧ (Tk ≠ 0 → n = Z ∨ n + f.length = P)) ∨ (fst = P ∧ P < Z)
theorem Pt.step {Z P n Tk fst k xl : Nat} {f f' : List Byte} (h : Pt Z P n Tk f fst) (hZ : Z ≤ 1012) (hn : n < Z) (hk : k = min (xl - Tk) (Z - n)) (hT : Tk < xl) (hf : Tk ≠ 0 → f.length = xl - Tk) (hf' : f'.length = xl - Tk - k) :
    Pt Z P (n + k) (if Tk + k = xl then 0 else Tk + k) f' (if Tk = 0 ∧ fst = 2047 then n else fst) := by
  rcases h with ⟨a1, a2, a3, a4⟩ | ⟨a1, a2⟩
  · by_cases h0 : Tk = 0
    · rw [show (if Tk = 0 ∧ fst = 2047 then n else fst) = n from if_pos (And.intro h0 a1)]
      have := a3 h0
      exact .inr ⟨by omega, by omega⟩
    · rw [show (if Tk = 0 ∧ fst = 2047 then n else fst) = fst from if_neg (fun c => h0 c.1)]
      have := a4 h0
      have := hf h0
      refine .inl ⟨a1, by omega, fun hz => ?_, fun hz => ?_⟩
      · by_cases hq : Tk + k = xl
        · omega
        · rw [if_neg hq] at hz; omega
      · by_cases hq : Tk + k = xl
        · rw [if_pos hq] at hz; exact absurd rfl hz
        · omega
  · rw [show (if Tk = 0 ∧ fst = 2047 then n else fst) = fst from if_neg (fun c => by have := c.2; omega)]
    exact .inr ⟨a1, a2⟩
/-- the reference's loop: j bytes of what waits have been taken -/
structure RL (Z : Nat) (s : PS) (out : List Byte) (Lr : List (List Byte)) (Tk fst : Nat) : Prop where
  ex : ∃ j, out = s.rs.take Z ++ s.wt.take j ∧ j ≤ s.wt.length ∧ RK Lr Tk (cut s.fb s.ls j).1 (cut s.fb s.ls j).2 ∧ Pt Z (s.rs.length + s.fb.length) out.length Tk (cut s.fb s.ls j).1 fst
  z : out.length ≤ Z
  p : ∀ x ∈ Lr, Pkt x
theorem RL.start {Z Re Tk : Nat} {Lr : List (List Byte)} {s : PS} (h : RR Re Lr Tk s) : RL Z s (s.rs.take Z) Lr Tk 2047 := by
  refine ⟨⟨0, by simp, Nat.zero_le _, ?_, .inl ⟨rfl, ?_, fun h0 => ?_, fun h0 => ?_⟩⟩, by rw [List.length_take]; omega, h.p⟩
  · rw [cut_le (Nat.zero_le _)]; exact h.k
  · rw [List.length_take]; omega
  · rcases h.k with ⟨h1, h2, h3⟩ | ⟨x, h1, _⟩
    · rw [h2, List.length_take]; simp only [List.length_nil]; omega
    · omega
  · rw [cut_le (Nat.zero_le _), List.length_take]
    simp only [List.drop_zero]
    omega
theorem RL.step {Z Tk fst : Nat} {s : PS} {out x : List Byte} {L : List (List Byte)} (hZ : Z ≤ 1012) (h : RL Z s out (x :: L) Tk fst) (hn : out.length < Z) {k : Nat} (hk : k = min (x.length - Tk) (Z - out.length)) :
    Tk < x.length ∧ x.length ≤ 4096 ∧ 0 < k ∧ k ≤ x.length - Tk ∧ k + out.length ≤ Z ∧
    RL Z s (out ++ (x.drop Tk).take k) (if Tk + k = x.length then L else x :: L) (if Tk + k = x.length then 0 else Tk + k) (if Tk = 0 ∧ fst = 2047 then out.length else fst) := by
  obtain ⟨⟨j, h1, h2, h3, h4⟩, h5, h6⟩ := h
  have hx := h6 x (by simp)
  have h7 := hx.seven
  have hT : Tk < x.length := by
    rcases h3 with ⟨a, _, _⟩ | ⟨y, _, a, b, _⟩
    · omega
    · cases b; exact a
  have hk0 : 0 < k := by omega
  have hw : (cut s.fb s.ls j).1 ++ (cut s.fb s.ls j).2.flatten = s.wt.drop j := cut_wt _ _ _
  have ha := cut_add s.ls s.fb j k
  obtain ⟨f, hf⟩ : ∃ f, (cut s.fb s.ls j).1 = f := ⟨_, rfl⟩
  obtain ⟨ls, hls⟩ : ∃ ls, (cut s.fb s.ls j).2 = ls := ⟨_, rfl⟩
  rw [hf, hls] at h3 hw ha
  rw [hf] at h4
  have hb : ∃ r, s.wt.drop j = x.drop Tk ++ r := by
    rw [← hw]
    rcases h3 with ⟨rfl, rfl, rfl⟩ | ⟨y, _, _, b, rfl⟩
    · exact ⟨L.flatten, by simp⟩
    · cases b; exact ⟨_, rfl⟩
  have hbl : (x.drop Tk).length = x.length - Tk := List.length_drop
  have hc : cut f ls k = ((x.drop Tk).drop k, L) := by
    rcases h3 with ⟨rfl, rfl, rfl⟩ | ⟨y, _, _, b, rfl⟩
    · rw [cut_gt (by simpa using hk0), List.length_nil, Nat.sub_zero, cut_le (by omega)]; simp
    · cases b; rw [cut_le (by omega)]
  rw [ha] at hc
  have hj : j + k ≤ s.wt.length := by
    obtain ⟨r, hr⟩ := hb
    have := congrArg List.length hr
    rw [List.length_append, List.length_drop, hbl] at this
    omega
  have ht : s.wt.take (j + k) = s.wt.take j ++ (x.drop Tk).take k := by
    obtain ⟨r, hr⟩ := hb
    rw [List.take_add, hr, List.take_append_of_le_length (by omega)]
  have hlen : (out ++ (x.drop Tk).take k).length = out.length + k := by rw [List.length_append, List.length_take, hbl]; omega
  refine ⟨hT, hx.most, hk0, by omega, by omega, ⟨j + k, by rw [ht, h1, List.append_assoc], hj, ?_, ?_⟩, by rw [hlen]; omega, ?_⟩
  · rw [hc]
    by_cases hq : Tk + k = x.length
    · rw [if_pos hq, if_pos hq]
      exact .inl ⟨rfl, by simp only; rw [List.drop_drop, List.drop_eq_nil_of_le (by omega)], rfl⟩
    · rw [if_neg hq, if_neg hq]
      exact .inr ⟨x, by omega, by omega, rfl, by simp only; rw [List.drop_drop]⟩
  · rw [hc, hlen]
    simp only
    have hdl : ((x.drop Tk).drop k).length = x.length - Tk - k := by rw [List.length_drop, hbl]
    have hfl : Tk ≠ 0 → f.length = x.length - Tk := fun h0 => by
      rcases h3 with ⟨a, _, _⟩ | ⟨y, _, _, b, rfl⟩
      · exact absurd a h0
      · cases b; exact hbl
    exact h4.step hZ hn hk hT hfl hdl
  · intro y hy
    by_cases hq : Tk + k = x.length
    · rw [if_pos hq] at hy; exact h6 y (List.mem_cons_of_mem _ hy)
    · rw [if_neg hq] at hy; exact h6 y hy
/-- the loop ends: the data field is full -/
theorem RL.full {Z Re Tk fst : Nat} {s : PS} {out : List Byte} {Lr Lr0 : List (List Byte)} {Tk0 : Nat} (h0 : RR Re Lr0 Tk0 s) (h : RL Z s out Lr Tk fst) (hn : out.length = Z) :
    nxF Z s = out ∧ nxP Z s = fst ∧ RR (Re - min Re Z) Lr Tk (nxS Z s) := by
  obtain ⟨⟨j, h1, h2, h3, h4⟩, h5, h6⟩ := h
  have hr := h0.rl
  have hlt : (s.rs.take Z).length = min Z Re := by rw [List.length_take, hr]
  have hA : nxA Z s = j := by
    have := congrArg List.length h1
    rw [List.length_append, hn, hlt, List.length_take] at this
    unfold nxA
    omega
  have hB : nxB Z s = 0 := by unfold nxB; rw [hA, List.length_take]; omega
  refine ⟨by unfold nxF; rw [hA, hB, List.take_zero, List.append_nil, h1], ?_, ⟨by have := h0.r; omega, ?_, ?_, h6⟩⟩
  · unfold nxP
    rw [hn] at h4
    rcases h4 with ⟨a1, a2, _⟩ | ⟨a1, a2⟩
    · rw [if_pos a2, a1]
    · rw [if_neg (by omega), a1]
  · show (nxS Z s).rs = _
    unfold nxS
    rw [hB]
    show s.rs.drop Z = _
    rw [h0.rs, List.drop_drop]
    have := h0.r
    by_cases hz : Re ≤ Z
    · rw [List.drop_eq_nil_of_le (by rw [sev_len]; omega), List.drop_eq_nil_of_le (by rw [sev_len]; omega)]
    · congr 1; omega
  · show RK Lr Tk (cut s.fb s.ls (min (nxA Z s) s.wt.length)).1 (cut s.fb s.ls (min (nxA Z s) s.wt.length)).2
    rw [hA, Nat.min_eq_left h2]
    exact h3
/-- the loop ends: nothing waits any more -/
theorem RL.idle {Z Re Tk fst : Nat} {s : PS} {out : List Byte} {Lr0 : List (List Byte)} {Tk0 : Nat} (hZ : Z ≤ 1012) (h0 : RR Re Lr0 Tk0 s) (h : RL Z s out [] Tk fst) (hn : out.length < Z) :
    nxF Z s = out ++ (fil (Z - out.length)).take (Z - out.length) ∧ nxP Z s = (if fst = 2047 then out.length else fst) ∧ RR (7 - (Z - out.length)) [] Tk (nxS Z s) ∧ Tk = 0 := by
  obtain ⟨⟨j, h1, h2, h3, h4⟩, h5, h6⟩ := h
  have hr := h0.rl
  have hlt : (s.rs.take Z).length = min Z Re := by rw [List.length_take, hr]
  have hk : Tk = 0 ∧ (cut s.fb s.ls j).1 = [] ∧ (cut s.fb s.ls j).2 = [] := by
    rcases h3 with h3 | ⟨y, _, _, b, _⟩
    · exact h3
    · cases b
  obtain ⟨rfl, k1, k2⟩ := hk
  have hw : (cut s.fb s.ls j).1 ++ (cut s.fb s.ls j).2.flatten = s.wt.drop j := cut_wt _ _ _
  rw [k1, k2] at hw
  have hj : j = s.wt.length := by
    have := congrArg List.length hw
    rw [List.length_drop] at this
    simp at this
    omega
  have hol : out.length = min Z Re + s.wt.length := by rw [h1, List.length_append, hlt, List.length_take]; omega
  have hA : nxA Z s = Z - min Z Re := by unfold nxA; rw [hlt]
  have hB : nxB Z s = Z - out.length := by unfold nxB; rw [hA, List.length_take]; omega
  have ho : s.rs.take Z ++ s.wt.take (nxA Z s) = out := by
    rw [h1, hj, List.take_of_length_le (l := s.wt) (i := s.wt.length) (Nat.le_refl _), List.take_of_length_le (l := s.wt) (i := nxA Z s) (by omega)]
  refine ⟨by unfold nxF; rw [ho, hB], ?_, ⟨by omega, ?_, ?_, fun x hx => by cases hx⟩, rfl⟩
  · unfold nxP
    rcases h4 with ⟨a1, a2, a3, _⟩ | ⟨a1, a2⟩
    · rw [if_neg (by have := a3 rfl; omega), if_pos a1]
      have := a3 rfl
      omega
    · rw [if_neg (by omega), if_neg (by omega), a1]
  · show (if nxB Z s = 0 then s.rs.drop Z else (fil (nxB Z s)).drop (nxB Z s)) = _
    rw [if_neg (by omega), hB]
    by_cases h7 : Z - out.length ≤ 7
    · rw [fil_sev h7]
      congr 1
      omega
    · rw [List.drop_eq_nil_of_le (by rw [fil_len (by omega)]; omega), List.drop_eq_nil_of_le (by rw [sev_len]; omega)]
  · show RK [] 0 (cut s.fb s.ls (min (nxA Z s) s.wt.length)).1 (cut s.fb s.ls (min (nxA Z s) s.wt.length)).2
    rw [hA, Nat.min_eq_right (by omega), ← hj, k1, k2]
    exact .inl ⟨rfl, rfl, rfl⟩
end Go.Proofs.Ytjjjlgaidklokaa.Pkr
