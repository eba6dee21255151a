/-
  Plain mathematics of package source, no Go in sight: what New fixes (Kc), the state of a sending end (SS), one step for each call.
-/
import Derived.Test.YtaaikmncdgfkmaaPduMath
import Derived.Test.YtaaikmncdgfkmaaRngMath
import Derived.Test.YtaaikmncdgfkmaaFsmMath
namespace Go.Proofs.Ytaaikmncdgfkmaa.Src
open Go.Proofs.Ytaaikmncdgfkmaa.Pdu (Pd)
open Go.Proofs.Ytaaikmncdgfkmaa.Rng (R Canon Asc add rmv nrm)
open Go.Proofs.Ytaaikmncdgfkmaa.Fsm (ps)

structure Kc where
  sr : Int
  nm : Int
  cl : Int
  na : List Byte
  da : List Byte
  ch : Int
  tt : Int
  rt : Int
/-- what is asked of a configuration -/
def cfg (ch tt rt : Int) : Bool := decide ((1 ≤ ch ∧ ch ≤ 512) ∧ (1 ≤ tt ∧ tt ≤ 1048576) ∧ 0 ≤ rt ∧ rt ≤ 255)
def Kc.mta (K : Kc) : Pd := ⟨1, K.sr, K.nm, K.cl, K.na, (K.da.length : Int), 0, [], 0, 0, []⟩
def Kc.pce (K : Kc) (a b : Nat) : Pd := ⟨2, K.sr, K.nm, 0, [], 0, (a : Int), (K.da.drop a).take (b - a), 0, 0, []⟩
def Kc.eof (K : Kc) (c : Int) : Pd := ⟨3, K.sr, K.nm, K.cl, [], (K.da.length : Int), 0, [], (ps 0 K.da).toNat, c, []⟩
def Kc.akd (K : Kc) : Pd := ⟨7, K.sr, K.nm, 0, [], 0, 0, [], 0, 0, []⟩
/-- New accepts it -/
def Kc.acc (K : Kc) : Bool := Pdu.ok K.mta && cfg K.ch K.tt K.rt
structure Kc.Ok (K : Kc) : Prop where
  s0 : 0 ≤ K.sr
  s1 : K.sr ≤ 15
  n0 : 0 ≤ K.nm
  n1 : K.nm ≤ 65535
  c : K.cl = 1 ∨ K.cl = 2
  d : K.da.length ≤ 65536
  h0 : 1 ≤ K.ch
  h1 : K.ch ≤ 512
  t0 : 1 ≤ K.tt
  t1 : K.tt ≤ 1048576
  r0 : 0 ≤ K.rt
  r1 : K.rt ≤ 255
theorem Kc.acc_ok {K : Kc} (h : K.acc = true) : K.Ok := by
  unfold Kc.acc at h
  rw [Bool.and_eq_true] at h
  obtain ⟨h1, h2⟩ := h
  unfold cfg at h2
  have h2 := of_decide_eq_true h2
  unfold Pdu.ok at h1
  rw [Bool.and_eq_true, Bool.and_eq_true] at h1
  obtain ⟨h3, h4, _⟩ := h1
  unfold Pdu.vid at h3
  rw [Bool.and_eq_true, Pdu.wi_iff, Pdu.wi_iff] at h3
  have h5 : (Pdu.vcl K.cl && (Pdu.wi (K.da.length : Int) 65536 && Pdu.vna K.na)) = true := h4
  rw [Bool.and_eq_true, Bool.and_eq_true, Pdu.vcl_iff, Pdu.wi_iff] at h5
  obtain ⟨⟨a1, a2⟩, a3, a4⟩ := h3
  obtain ⟨b1, ⟨b2, b3⟩, b4⟩ := h5
  obtain ⟨⟨c1, c2⟩, ⟨c3, c4⟩, c5, c6⟩ := h2
  exact ⟨a1, a2, a3, a4, b1, by omega, c1, c2, c3, c4, c5, c6⟩

structure SS where
  ph : Int
  su : Bool
  co : Int
  ms : Bool
  po : Nat
  mr : Bool
  rq : List R
  ea : Bool
  ad : Bool
  ti : Int
  re : Int
  nw : Int
def ss0 : SS := ⟨1, false, 0, false, 0, false, [], false, false, 0, 0, 0⟩
/-- requests within a file of N bytes -/
def Win (N : Nat) (l : List R) : Prop := ∀ r ∈ l, 0 ≤ r.1 ∧ r.2 ≤ N
structure SS.Ok (K : Kc) (s : SS) : Prop where
  p1 : 1 ≤ s.ph
  p7 : s.ph ≤ 7
  c12 : s.ph = 1 ∨ s.ph = 2 → s.co = 0
  c4 : s.ph = 4 → s.co = 17
  c0 : 0 ≤ s.co
  c17 : s.co ≤ 17
  po : s.po ≤ K.da.length
  can : Canon s.rq
  win : Win K.da.length s.rq
  t0 : 0 ≤ s.ti
  t1 : s.ti ≤ s.nw
  n1 : s.nw ≤ 1099511627776
  r0 : 0 ≤ s.re
  r1 : s.re ≤ K.rt
theorem ss0_ok {K : Kc} (h : K.Ok) : ss0.Ok K := ⟨by decide, by decide, fun _ => rfl, (fun h => nomatch h), by decide, by decide, Nat.zero_le _, Rng.Canon.nil, (fun _ h => nomatch h), by decide, by decide, by decide, by decide, h.r0⟩

/-! ### requests -/
theorem Canon.pos {l : List R} (h : Canon l) {r : R} (hr : r ∈ l) : r.1 < r.2 := by
  obtain ⟨lo, h⟩ := h
  exact (h.low r hr).2
theorem asc_len : ∀ {l : List R} {lo : Int} {N : Nat}, Asc lo l → -1 ≤ lo → (∀ r ∈ l, r.2 ≤ N) → (l.length : Int) ≤ max 0 (N - lo)
  | [], _, _, _, _, _ => by simp; omega
  | x :: l, lo, N, h, h0, hw => by
    obtain ⟨h1, h2, h3⟩ := h
    have hx := hw x (by simp)
    have := asc_len (N := N) h3 (by omega) (fun r hr => hw r (by simp [hr]))
    simp only [List.length_cons]
    omega
theorem asc_low : ∀ {l : List R} {lo : Int}, Asc lo l → (∀ r ∈ l, 0 ≤ r.1) → Asc (-1) l
  | [], _, _, _ => trivial
  | x :: l, lo, h, hw => ⟨by have := hw x (by simp); omega, h.2.1, h.2.2⟩
theorem Win.len {l : List R} {N : Nat} (h : Canon l) (hw : Win N l) : l.length ≤ N + 1 := by
  obtain ⟨lo, h⟩ := h
  have := asc_len (N := N) (asc_low h (fun r hr => (hw r hr).1)) (by omega) (fun r hr => (hw r hr).2)
  omega
theorem Win.in64 {l : List R} {N : Nat} (hN : N ≤ 65536) (h : Canon l) (hw : Win N l) : Rng.In64 l := fun r hr => by
  have := hw r hr
  have := Canon.pos h hr
  omega
theorem win_iff {l : List R} {N : Nat} (h : Canon l) : Win N l ↔ ∀ n, Rng.mem l n → 0 ≤ n ∧ n < N := by
  constructor
  · rintro hw n ⟨r, hr, h1, h2⟩
    have := hw r hr
    omega
  · intro hm r hr
    have hp := Canon.pos h hr
    have h1 := hm r.1 ⟨r, hr, Int.le_refl _, hp⟩
    have h2 := hm (r.2 - 1) ⟨r, hr, by omega, by omega⟩
    omega
theorem add_win {l : List R} {N : Nat} {g : R} (h : Canon l) (hw : Win N l) (h1 : 0 ≤ g.1) (h2 : g.2 ≤ N) : Win N (add l g) := by
  rw [win_iff (Rng.add_canon l g)]
  intro n hn
  rw [Rng.add_mem] at hn
  rcases hn with hn | hn
  · exact (win_iff h).1 hw n hn
  · omega
theorem rmv_win {l : List R} {N : Nat} {g : R} (h : Canon l) (hw : Win N l) : Win N (rmv l g) := by
  rw [win_iff (Rng.rmv_canon g h)]
  intro n hn
  rw [Rng.rmv_mem] at hn
  exact (win_iff h).1 hw n hn.1
/-- the first piece of what is requested -/
def fst1 (ch : Int) : List R → R
  | [] => (0, 0)
  | r :: _ => (r.1, min r.2 (r.1 + ch))
theorem fst1_pos {ch : Int} {l : List R} {N : Nat} (hc : 1 ≤ ch) (h : Canon l) (hw : Win N l) (hl : l ≠ []) : 0 ≤ (fst1 ch l).1 ∧ (fst1 ch l).1 < (fst1 ch l).2 ∧ (fst1 ch l).2 ≤ N ∧ (fst1 ch l).2 ≤ (fst1 ch l).1 + ch := by
  cases l with
  | nil => exact (hl rfl).elim
  | cons r l =>
    have h1 := hw r (by simp)
    have h2 := Canon.pos h (r := r) (by simp)
    simp only [fst1]
    omega
/-- the program's way: the first of the ranges with the 'ch' smallest numbers -/
theorem hd_fst {ch : Int} {l : List R} {N : Nat} (hN : N ≤ 65536) (hc : 1 ≤ ch) (h : Canon l) (hw : Win N l) (hl : l ≠ []) : ∃ r, Rng.hd (nrm l) ch.toNat = fst1 ch l :: r := by
  rw [Rng.nrm_self h]
  cases l with
  | nil => exact (hl rfl).elim
  | cons x l =>
    have h1 := hw x (by simp)
    have h2 := Canon.pos h (r := x) (by simp)
    have h3 := Rng.len_of h2 (by omega) (by omega)
    unfold Rng.hd
    rw [if_neg (by omega)]
    split
    · refine ⟨[], ?_⟩
      simp only [fst1]
      rw [Int.min_eq_right (by omega), Int.toNat_of_nonneg (by omega)]
    · refine ⟨Rng.hd l (ch.toNat - Rng.len x), ?_⟩
      simp only [fst1]
      rw [Int.min_eq_left (by omega)]

/-! ### the calls -/
def SS.opn (s : SS) : Bool := decide (s.ph = 1 ∨ s.ph = 2)
def adv (n : Int) (s : SS) : SS := if s.nw < n ∧ n ≤ 1099511627776 then { s with nw := n } else s
def SS.restart (s : SS) : SS := { s with ti := s.nw, re := 0 }
def akS (s : SS) : SS := { s with ad := false, ph := if s.ph = 3 then (if s.co = 0 then 5 else 6) else s.ph }
def anP (K : Kc) (s : SS) : Pd := K.pce (fst1 K.ch s.rq).1.toNat (fst1 K.ch s.rq).2.toNat
def anS (K : Kc) (s : SS) : SS := { s with rq := rmv s.rq (fst1 K.ch s.rq) }
/-- where the next piece ends -/
def nxe (K : Kc) (s : SS) : Nat := min (s.po + K.ch.toNat) K.da.length
def prP (K : Kc) (s : SS) : Pd := if s.ms = false then K.mta else if s.po < K.da.length then K.pce s.po (nxe K s) else K.eof s.co
def prS (K : Kc) (s : SS) : SS :=
  if s.ms = false then { s with ms := true }
  else if s.po < K.da.length then { s with po := nxe K s }
  else if K.cl = 1 then { s with ph := 5 } else { s with ph := 2, ti := s.nw, re := 0 }
def rpO (K : Kc) (s : SS) : Pd × Bool := if s.ea = true ∨ s.nw - s.ti < K.tt ∨ s.re = K.rt then (Pd.none, false) else (K.eof s.co, true)
def rpS (K : Kc) (s : SS) : SS :=
  if s.ea = true ∨ s.nw - s.ti < K.tt then s
  else if s.re = K.rt then { s with ph := 6, co := 10 } else { s with re := s.re + 1, ti := s.nw }
/-- Next when the time is known -/
def nxO (K : Kc) (s : SS) : Pd × Bool :=
  if s.su = true then (Pd.none, false)
  else if s.ad = true then (K.akd, true)
  else if s.ph = 4 then (K.eof s.co, true)
  else if s.opn = false then (Pd.none, false)
  else if s.mr = true then (K.mta, true)
  else if s.rq ≠ [] then (anP K s, true)
  else if s.ph = 1 then (prP K s, true)
  else rpO K s
def nxS (K : Kc) (s : SS) : SS :=
  if s.su = true then s
  else if s.ad = true then akS s
  else if s.ph = 4 then { s with ph := 7 }
  else if s.opn = false then s
  else if s.mr = true then { s with mr := false }
  else if s.rq ≠ [] then anS K s
  else if s.ph = 1 then prS K s
  else rpS K s
/-- Take's parts -/
def aeO (s : SS) : Int := if s.ph = 1 then 12 else 0
def aeS (s : SS) : SS := if s.ph = 2 then { s with ea := true } else s
def lstTo (g : List R) : Int := match g.getLast? with | some r => r.2 | none => 0
def nk1 (p : Bool × List R) (g : R) : Bool × List R := if g.1 = 0 ∧ g.2 = 0 then (true, p.2) else (p.1, add p.2 g)
def nkS (g : List R) (s : SS) : SS := { s with mr := (g.foldl nk1 (s.mr, s.rq)).1, rq := (g.foldl nk1 (s.mr, s.rq)).2, ti := s.nw, re := 0 }
def naO (K : Kc) (g : List R) : Int := if (K.da.length : Int) < lstTo g then 4 else 0
def naS (K : Kc) (g : List R) (s : SS) : SS := if (K.da.length : Int) < lstTo g ∨ s.opn = false then s else nkS g s
def fiS (c : Int) (s : SS) : SS := if s.ph = 3 then s else if s.opn = true then { s with ad := true, ph := 3, co := c, mr := false, rq := [] } else { s with ad := true }
/-- a unit of the receiver's of this transaction -/
def mine (K : Kc) (p : Pd) : Bool := Pdu.ok p && (decide (p.sr = K.sr ∧ p.nm = K.nm) && decide (p.kd = 4 ∨ p.kd = 5 ∨ p.kd = 6))
def taO (K : Kc) (p : Pd) (s : SS) : Int :=
  if mine K p = false then 1 else if K.cl = 1 then 12
  else if p.kd = 6 then aeO s else if p.kd = 4 then naO K p.ga else 0
def taS (K : Kc) (p : Pd) (s : SS) : SS :=
  if mine K p = false then s else if K.cl = 1 then s
  else if p.kd = 6 then aeS s else if p.kd = 4 then naS K p.ga s else fiS p.co s
def suO (s : SS) : Int := if s.su = true ∨ s.opn = false then 12 else 0
def suS (s : SS) : SS := if s.su = true ∨ s.opn = false then s else { s with su := true }
def reO (s : SS) : Int := if s.su = false then 12 else 0
def reS (s : SS) : SS := if s.su = false then s else { s with su := false, ti := s.nw }
def caO (s : SS) : Int := if s.opn = false then 12 else 0
def caS (K : Kc) (s : SS) : SS := if s.opn = false then s else { s with co := 17, mr := false, rq := [], su := false, ph := if K.cl = 1 then 7 else 4 }
def sta (s : SS) : Int := if s.su = true then 3 else if s.ph = 1 then 1 else if s.ph = 5 then 4 else if s.ph = 6 then 5 else if s.ph = 7 then 6 else 2

/-! ### what the calls keep -/
theorem opn_iff {s : SS} : s.opn = true ↔ s.ph = 1 ∨ s.ph = 2 := by unfold SS.opn; exact decide_eq_true_iff
theorem opn_false {s : SS} : s.opn = false ↔ ¬ (s.ph = 1 ∨ s.ph = 2) := by rw [← opn_iff]; cases s.opn <;> simp
section
variable {K : Kc} {s : SS}
theorem adv_ok (h : s.Ok K) (n : Int) : (adv n s).Ok K := by
  unfold adv
  split
  · rename_i hn
    obtain ⟨a, b, c, d, e, f, g, i, j, k, l, m, o, p⟩ := h
    exact ⟨a, b, c, d, e, f, g, i, j, k, by show s.ti ≤ n; omega, hn.2, o, p⟩
  · exact h
theorem rmv_ok (h : s.Ok K) (g : R) : SS.Ok K { s with rq := rmv s.rq g } := by
  obtain ⟨a, b, c, d, e, f, g', i, j, k, l, m, o, p⟩ := h
  exact ⟨a, b, c, d, e, f, g', Rng.rmv_canon g i, rmv_win i j, k, l, m, o, p⟩
theorem nxS_ok (hK : K.Ok) (h : s.Ok K) : (nxS K s).Ok K := by
  obtain ⟨a, b, c, d, e, f, g, i, j, k, l, m, o, p⟩ := id h
  unfold nxS
  split
  · exact h
  split
  · unfold akS
    refine ⟨?_, ?_, ?_, ?_, e, f, g, i, j, k, l, m, o, p⟩ <;> simp only <;> split <;> try (split) <;> first | omega | exact c | exact d
    all_goals omega
  split
  · exact ⟨(by simp), (by simp), (fun h => by simp at h), (fun h => by simp at h), e, f, g, i, j, k, l, m, o, p⟩
  split
  · exact h
  split
  · exact ⟨a, b, c, d, e, f, g, i, j, k, l, m, o, p⟩
  split
  · exact rmv_ok h _
  split
  · rename_i h1
    unfold prS
    split
    · exact ⟨a, b, c, d, e, f, g, i, j, k, l, m, o, p⟩
    split
    · exact ⟨a, b, c, d, e, f, by show nxe K s ≤ _; unfold nxe; omega, i, j, k, l, m, o, p⟩
    split
    · exact ⟨(by simp), (by simp), (fun h => by simp at h), (fun h => by simp at h), e, f, g, i, j, k, l, m, o, p⟩
    · exact ⟨(by simp), (by simp), fun _ => c (.inl h1), (fun h => by simp at h), e, f, g, i, j, by show 0 ≤ s.nw; omega, Int.le_refl _, m, Int.le_refl _, hK.r0⟩
  · unfold rpS
    split
    · exact h
    split
    · exact ⟨(by simp), (by simp), (fun h => by simp at h), (fun h => by simp at h), (by simp), (by simp), g, i, j, k, l, m, o, p⟩
    · exact ⟨a, b, c, d, e, f, g, i, j, by show 0 ≤ s.nw; omega, Int.le_refl _, m, by show 0 ≤ s.re + 1; omega, by show s.re + 1 ≤ K.rt; omega⟩
theorem suS_ok (h : s.Ok K) : (suS s).Ok K := by
  unfold suS
  split
  · exact h
  · obtain ⟨a, b, c, d, e, f, g, i, j, k, l, m, o, p⟩ := h
    exact ⟨a, b, c, d, e, f, g, i, j, k, l, m, o, p⟩
theorem reS_ok (h : s.Ok K) : (reS s).Ok K := by
  unfold reS
  split
  · exact h
  · obtain ⟨a, b, c, d, e, f, g, i, j, k, l, m, o, p⟩ := h
    exact ⟨a, b, c, d, e, f, g, i, j, by show 0 ≤ s.nw; omega, Int.le_refl _, m, o, p⟩
theorem caS_ok (h : s.Ok K) : (caS K s).Ok K := by
  unfold caS
  split
  · exact h
  · obtain ⟨a, b, c, d, e, f, g, i, j, k, l, m, o, p⟩ := h
    refine ⟨?_, ?_, ?_, fun _ => rfl, (by simp), (by simp), g, Rng.Canon.nil, (fun _ h => nomatch h), k, l, m, o, p⟩ <;> simp only <;> split <;> omega
theorem fiS_ok (h : s.Ok K) {x : Int} (h0 : 0 ≤ x) (h1 : x ≤ 17) : (fiS x s).Ok K := by
  obtain ⟨a, b, c, d, e, f, g, i, j, k, l, m, o, p⟩ := id h
  unfold fiS
  split
  · exact h
  split
  · exact ⟨(by simp), (by simp), (fun h => by simp at h), (fun h => by simp at h), h0, h1, g, Rng.Canon.nil, (fun _ h => nomatch h), k, l, m, o, p⟩
  · exact ⟨a, b, c, d, e, f, g, i, j, k, l, m, o, p⟩
theorem aeS_ok (h : s.Ok K) : (aeS s).Ok K := by
  unfold aeS
  split
  · obtain ⟨a, b, c, d, e, f, g, i, j, k, l, m, o, p⟩ := h
    exact ⟨a, b, c, d, e, f, g, i, j, k, l, m, o, p⟩
  · exact h
/-- the gaps of a valid Nak, all within the file -/
def Gin (N : Nat) (g : List R) : Prop := ∀ x ∈ g, (x.1 = 0 ∧ x.2 = 0) ∨ (0 ≤ x.1 ∧ x.1 < x.2 ∧ x.2 ≤ N)
theorem nk_ok {N : Nat} : ∀ {g : List R} {p : Bool × List R}, Gin N g → Canon p.2 → Win N p.2 → Canon (g.foldl nk1 p).2 ∧ Win N (g.foldl nk1 p).2
  | [], p, _, h1, h2 => ⟨h1, h2⟩
  | x :: g, p, hg, h1, h2 => by
    rw [List.foldl_cons]
    have hx := hg x (by simp)
    refine nk_ok (fun y hy => hg y (by simp [hy])) ?_ ?_ <;> unfold nk1 <;> split
    · exact h1
    · exact Rng.add_canon _ _
    · exact h2
    · rcases hx with hx | hx
      · omega
      · exact add_win h1 h2 hx.1 hx.2.2
theorem nkS_ok (hK : K.Ok) (h : s.Ok K) {g : List R} (hg : Gin K.da.length g) : (nkS g s).Ok K := by
  obtain ⟨a, b, c, d, e, f, g', i, j, k, l, m, o, p⟩ := h
  have h1 := nk_ok (p := (s.mr, s.rq)) hg i j
  exact ⟨a, b, c, d, e, f, g', h1.1, h1.2, by show 0 ≤ s.nw; omega, Int.le_refl _, m, Int.le_refl _, hK.r0⟩
theorem gok_asc : ∀ {g : List R} {last : Int}, Pdu.gok false last g = true → (∀ x ∈ g, last < x.1 ∧ x.1 < x.2 ∧ x.2 ≤ 65536) ∧ g.Pairwise (fun a b => a.2 < b.1)
  | [], _, _ => ⟨(fun _ h => nomatch h), .nil⟩
  | x :: g, last, h => by
    have h : (if false = true ∧ x.1 = 0 ∧ x.2 = 0 then Pdu.gok false last g else Pdu.gap1 last x && Pdu.gok false x.2 g) = true := h
    rw [if_neg (by simp), Bool.and_eq_true] at h
    have h1 := of_decide_eq_true h.1
    obtain ⟨h2, h3⟩ := gok_asc h.2
    refine ⟨fun y hy => ?_, List.Pairwise.cons (fun y hy => (h2 y hy).1) h3⟩
    rcases List.mem_cons.1 hy with rfl | hy
    · exact h1
    · have := h2 y hy; omega
theorem vga_in {g : List R} (h : Pdu.vga g = true) : g ≠ [] ∧ (∀ x ∈ g, (x.1 = 0 ∧ x.2 = 0) ∨ (0 ≤ x.1 ∧ x.1 < x.2 ∧ x.2 ≤ 65536)) ∧ ∀ x ∈ g, x.2 ≤ lstTo g := by
  unfold Pdu.vga at h
  rw [Bool.and_eq_true] at h
  have hl := of_decide_eq_true h.1
  have hne : g ≠ [] := by intro e; subst e; simp at hl
  have key : ∀ {l : List R} {last : Int}, Pdu.gok false last l = true → ∀ x ∈ l, x.2 ≤ lstTo l := by
    intro l
    induction l with
    | nil => intro _ _ x hx; cases hx
    | cons y l ih =>
      intro last hl x hx
      obtain ⟨h2, h3⟩ := gok_asc hl
      have hl' : Pdu.gok false y.2 l = true := by
        have hl : (if false = true ∧ y.1 = 0 ∧ y.2 = 0 then Pdu.gok false last l else Pdu.gap1 last y && Pdu.gok false y.2 l) = true := hl
        rw [if_neg (by simp), Bool.and_eq_true] at hl
        exact hl.2
      cases l with
      | nil =>
        simp at hx
        subst hx
        simp [lstTo]
      | cons z l =>
        have e : lstTo (y :: z :: l) = lstTo (z :: l) := by simp [lstTo]
        rw [e]
        rcases List.mem_cons.1 hx with rfl | hx
        · have h4 := (List.pairwise_cons.1 h3).1 z (by simp)
          have h5 := ih hl' z (by simp)
          have h6 := (h2 z (by simp)).2.1
          omega
        · exact ih hl' x hx
  refine ⟨hne, ?_⟩
  cases g with
  | nil => exact (hne rfl).elim
  | cons x g =>
    have h2 : (if true = true ∧ x.1 = 0 ∧ x.2 = 0 then Pdu.gok false (-1) g else Pdu.gap1 (-1) x && Pdu.gok false x.2 g) = true := h.2
    split at h2
    · rename_i hx
      obtain ⟨h3, h4⟩ := gok_asc h2
      refine ⟨fun y hy => ?_, fun y hy => ?_⟩
      · rcases List.mem_cons.1 hy with rfl | hy
        · exact .inl hx.2
        · have := h3 y hy; exact .inr (by omega)
      · cases g with
        | nil =>
          simp at hy
          subst hy
          simp [lstTo]
        | cons z g =>
          have e : lstTo (x :: z :: g) = lstTo (z :: g) := by simp [lstTo]
          rw [e]
          rcases List.mem_cons.1 hy with rfl | hy
          · have h5 := key h2 z (by simp)
            have h6 := h3 z (by simp)
            omega
          · exact key h2 y hy
    · have h5 : Pdu.gok false (-1) (x :: g) = true := by
        show (if false = true ∧ x.1 = 0 ∧ x.2 = 0 then Pdu.gok false (-1) g else Pdu.gap1 (-1) x && Pdu.gok false x.2 g) = true
        rw [if_neg (by simp)]
        exact h2
      obtain ⟨h3, _⟩ := gok_asc h5
      exact ⟨fun y hy => .inr (by have := h3 y hy; omega), key h5⟩
theorem vga_gin {g : List R} {N : Nat} (h : Pdu.vga g = true) (h1 : ¬ (N : Int) < lstTo g) : Gin N g := fun x hx => by
  obtain ⟨_, h2, h3⟩ := vga_in h
  have h4 := h3 x hx
  rcases h2 x hx with h | h
  · exact .inl h
  · exact .inr (by omega)
theorem naS_ok (hK : K.Ok) (h : s.Ok K) {g : List R} (hg : Pdu.vga g = true) : (naS K g s).Ok K := by
  unfold naS
  split
  · exact h
  · rename_i hn
    exact nkS_ok hK h (vga_gin hg (fun hc => hn (.inl hc)))
theorem mine_vga {p : Pd} (h : mine K p = true) (hk : p.kd = 4) : Pdu.vga p.ga = true := by
  unfold mine at h
  rw [Bool.and_eq_true] at h
  have h1 := h.1
  unfold Pdu.ok at h1
  rw [Bool.and_eq_true, Bool.and_eq_true] at h1
  have h2 := h1.2.1
  unfold Pdu.used at h2
  rw [hk] at h2
  exact h2
theorem mine_co {p : Pd} (h : mine K p = true) (hk : p.kd = 5) : 0 ≤ p.co ∧ p.co ≤ 17 := by
  unfold mine at h
  rw [Bool.and_eq_true] at h
  have h1 := h.1
  unfold Pdu.ok at h1
  rw [Bool.and_eq_true, Bool.and_eq_true] at h1
  have h2 := h1.2.1
  unfold Pdu.used at h2
  rw [hk] at h2
  exact Pdu.wi_iff.1 h2
theorem mine_kd {p : Pd} (h : mine K p = true) : p.kd = 4 ∨ p.kd = 5 ∨ p.kd = 6 := by
  unfold mine at h
  rw [Bool.and_eq_true, Bool.and_eq_true] at h
  exact of_decide_eq_true h.2.2
theorem taS_ok (hK : K.Ok) (h : s.Ok K) (p : Pd) : (taS K p s).Ok K := by
  unfold taS
  split
  · exact h
  rename_i hm
  have hm : mine K p = true := by simpa using hm
  split
  · exact h
  split
  · exact aeS_ok h
  split
  · rename_i hk
    exact naS_ok hK h (mine_vga hm hk)
  · have hk : p.kd = 5 := by have := mine_kd hm; omega
    have := mine_co hm hk
    exact fiS_ok h this.1 this.2
end
end Go.Proofs.Ytaaikmncdgfkmaa.Src
