/-
  Plain mathematics of package pdu, no Go in sight: a unit; when it is valid; its encoding; what a reader takes; both ways.
-/
import Derived.Test.YtaaikmncdgfkmaaOctMath
namespace Go.Proofs.Ytaaikmncdgfkmaa.Pdu

theorem be_mod (k : Nat) : ∀ n m : Nat, n % 256 ^ k = m % 256 ^ k → be n k = be m k := by
  induction k with
  | zero => intro n m _; rfl
  | succ k ih =>
    intro n m h
    have h1 : n % 256 ^ k = m % 256 ^ k := by
      have e := congrArg (· % 256 ^ k) h
      simp only [Nat.pow_succ] at e
      rwa [Nat.mod_mul_right_mod, Nat.mod_mul_right_mod] at e
    have h2 : n / 256 ^ k % 256 = m / 256 ^ k % 256 := by
      rw [Nat.pow_succ] at h
      rw [← Nat.mod_mul_right_div_self, ← Nat.mod_mul_right_div_self, h]
    show BitVec.ofNat 8 (n / 256 ^ k) :: be n k = BitVec.ofNat 8 (m / 256 ^ k) :: be m k
    rw [ih n m h1]
    congr 1
    apply BitVec.eq_of_toNat_eq
    rw [BitVec.toNat_ofNat, BitVec.toNat_ofNat]
    exact h2
theorem foldl_be (k : Nat) : ∀ n a : Nat, (be n k).foldl (fun n x => n * 256 + x.toNat) a = a * 256 ^ k + n % 256 ^ k := by
  induction k with
  | zero => intro n a; simp [be, Nat.mod_one]
  | succ k ih =>
    intro n a
    show (be n k).foldl _ (a * 256 + (BitVec.ofNat 8 (n / 256 ^ k)).toNat) = _
    have e : n % (256 ^ k * 256) = n % 256 ^ k + 256 ^ k * (n / 256 ^ k % 256) := Nat.mod_mul
    rw [ih, BitVec.toNat_ofNat, show (2 : Nat) ^ 8 = 256 from rfl, Nat.pow_succ, e]
    generalize n / 256 ^ k % 256 = q
    rw [Nat.add_mul, Nat.mul_assoc, Nat.mul_comm 256 (256 ^ k), Nat.mul_comm q]
    omega
theorem beV_be {n k : Nat} (h : n < 256 ^ k) : beV (be n k) = n := by
  unfold beV
  rw [foldl_be, Nat.mod_eq_of_lt h]
  omega
theorem foldl_acc (b : List Byte) : ∀ a : Nat, b.foldl (fun n x => n * 256 + x.toNat) a = a * 256 ^ b.length + beV b := by
  induction b with
  | nil => intro a; simp [beV]
  | cons x t ih =>
    intro a
    show t.foldl _ (a * 256 + x.toNat) = a * 256 ^ (t.length + 1) + t.foldl _ (0 * 256 + x.toNat)
    rw [ih, ih, Nat.pow_succ, Nat.add_mul, Nat.mul_assoc, Nat.mul_comm 256 (256 ^ t.length)]
    simp only [Nat.zero_mul, Nat.zero_add]
    omega
theorem be_beV (b : List Byte) : be (beV b) b.length = b := by
  induction b with
  | nil => rfl
  | cons x t ih =>
    have e : beV (x :: t) = x.toNat * 256 ^ t.length + beV t := by
      show t.foldl _ (0 * 256 + x.toNat) = _
      rw [foldl_acc]
      simp
    have hl := beV_lt t
    have hx := x.isLt
    have hp : 0 < 256 ^ t.length := Nat.pow_pos (by decide)
    show BitVec.ofNat 8 (beV (x :: t) / 256 ^ t.length) :: be (beV (x :: t)) t.length = x :: t
    have e1 : beV (x :: t) / 256 ^ t.length = x.toNat := by
      rw [e, Nat.mul_comm, Nat.mul_add_div hp, Nat.div_eq_of_lt hl, Nat.add_zero]
    have e2 : be (beV (x :: t)) t.length = be (beV t) t.length := be_mod _ _ _ (by rw [e, Nat.mul_comm, Nat.mul_add_mod])
    rw [e1, e2, ih]
    simp

/-! ### a unit -/
structure Pd where
  kd : Int
  sr : Int
  nm : Int
  cl : Int
  na : List Byte
  sz : Int
  of : Int
  da : List Byte
  su : Nat
  co : Int
  ga : List (Int × Int)
def Pd.none : Pd := ⟨0, 0, 0, 0, [], 0, 0, [], 0, 0, []⟩

/-! ### when it is valid -/
def wi (n m : Int) : Bool := decide (0 ≤ n ∧ n ≤ m)
def vcl (c : Int) : Bool := decide (c = 1 ∨ c = 2)
def vch (x : Byte) : Bool := decide (33 ≤ x.toNat ∧ x.toNat ≤ 126)
def vna (l : List Byte) : Bool := decide (1 ≤ l.length ∧ l.length ≤ 64) && l.all vch
def vpc (of : Int) (n : Nat) : Bool := decide ((1 ≤ n ∧ n ≤ 512) ∧ 0 ≤ of ∧ of ≤ 65536 - (n : Int))
/-- what is asked of a gap behind one that ends at 'last' -/
def gap1 (last : Int) (g : Int × Int) : Bool := decide (last < g.1 ∧ g.1 < g.2 ∧ g.2 ≤ 65536)
def gok : Bool → Int → List (Int × Int) → Bool
  | _, _, [] => true
  | f, last, g :: r => if f = true ∧ g.1 = 0 ∧ g.2 = 0 then gok false last r else gap1 last g && gok false g.2 r
def vga (l : List (Int × Int)) : Bool := decide (1 ≤ l.length ∧ l.length ≤ 16) && gok true (-1) l
def vid (p : Pd) : Bool := wi p.sr 15 && wi p.nm 65535
def used (p : Pd) : Bool :=
  if p.kd = 1 then vcl p.cl && (wi p.sz 65536 && vna p.na)
  else if p.kd = 2 then vpc p.of p.da.length
  else if p.kd = 3 then vcl p.cl && (wi p.sz 65536 && wi p.co 17)
  else if p.kd = 4 then vga p.ga
  else if p.kd = 5 then wi p.co 17
  else decide (p.kd = 6 ∨ p.kd = 7)
def unu (p : Pd) : Pd :=
  if p.kd = 1 then { p with cl := 0, sz := 0, na := [] }
  else if p.kd = 2 then { p with of := 0, da := [] }
  else if p.kd = 3 then { p with cl := 0, sz := 0, su := 0, co := 0 }
  else if p.kd = 4 then { p with ga := [] }
  else if p.kd = 5 then { p with co := 0 }
  else p
def zer (p : Pd) : Bool := decide (p.cl = 0 ∧ p.na = [] ∧ p.sz = 0 ∧ p.of = 0 ∧ p.da = [] ∧ p.su = 0 ∧ p.co = 0 ∧ p.ga = [])
def ok (p : Pd) : Bool := vid p && (used p && zer (unu p))

/-! ### its encoding -/
def gs : List (Int × Int) → List Byte
  | [] => []
  | g :: r => encI g.1 ++ (encI g.2 ++ gs r)
def hd (p : Pd) : List Byte := be p.kd.toNat 1 ++ (be p.sr.toNat 1 ++ be p.nm.toNat 2)
def bd (p : Pd) : List Byte :=
  if p.kd = 1 then be p.cl.toNat 1 ++ (encI p.sz ++ encB p.na)
  else if p.kd = 2 then encI p.of ++ encB p.da
  else if p.kd = 3 then be p.cl.toNat 1 ++ (encI p.sz ++ (be p.su 4 ++ be p.co.toNat 1))
  else if p.kd = 4 then encI (p.ga.length : Int) ++ gs p.ga
  else if p.kd = 5 then be p.co.toNat 1
  else []
def enc (p : Pd) : List Byte := hd p ++ bd p
/-- what Encode hands back: the bytes, the number of the answer -/
def enO (p : Pd) : List Byte := if ok p then enc p else []
def enE (p : Pd) : Int := if ok p then 0 else 1

/-! ### what a reader takes -/
def tU (k : Nat) (l : List Byte) : Option (Nat × List Byte) := (tkU l (k : Int)).map fun v => (v.1, l.drop v.2)
def tI (l : List Byte) : Option (Int × List Byte) := (tkI l).map fun v => (v.1, l.drop v.2)
def tC (m : Int) (l : List Byte) : Option (Int × List Byte) := (tkC l m).map fun v => (v.1, l.drop v.2)
def tB (m : Int) (l : List Byte) : Option (List Byte × List Byte) := (tkB l m).map fun v => (v.1, l.drop v.2)
theorem rd_tU (k : Nat) (l : List Byte) : rd 0 (fun l => tkU l (k : Int)) (some l) = match tU k l with | some (v, r) => (v, some r) | none => (0, none) := by
  unfold rd tU
  cases h : tkU l (k : Int) <;> simp [h]
theorem rd_tI (l : List Byte) : rd 0 tkI (some l) = match tI l with | some (v, r) => (v, some r) | none => (0, none) := by
  unfold rd tI
  cases h : tkI l <;> simp [h]
theorem rd_tC (m : Int) (l : List Byte) : rd 0 (fun l => tkC l m) (some l) = match tC m l with | some (v, r) => (v, some r) | none => (0, none) := by
  unfold rd tC
  cases h : tkC l m <;> simp [h]
theorem rd_tB (m : Int) (l : List Byte) : rd [] (fun l => tkB l m) (some l) = match tB m l with | some (v, r) => (v, some r) | none => ([], none) := by
  unfold rd tB
  cases h : tkB l m <;> simp [h]

theorem tU_some {k n : Nat} {l r : List Byte} (h : tU k l = some (n, r)) : n < 256 ^ k ∧ l = be n k ++ r := by
  unfold tU tkU at h
  split at h
  · rename_i hc
    simp only [Option.map_some, Option.some.injEq, Prod.mk.injEq, Int.toNat_natCast] at h
    obtain ⟨rfl, rfl⟩ := h
    have hl : (l.take k).length = k := by rw [List.length_take]; omega
    have h1 := be_beV (l.take k)
    have h2 := beV_lt (l.take k)
    rw [hl] at h1 h2
    exact ⟨h2, by rw [h1, List.take_append_drop]⟩
  · cases h
theorem tU_enc {k n : Nat} (r : List Byte) (hk : 1 ≤ k ∧ k ≤ 8) (h : n < 256 ^ k) : tU k (be n k ++ r) = some (n, r) := by
  have hl := be_len n k
  have ht : (be n k ++ r).take k = be n k := by
    have := List.take_left (l₁ := be n k) (l₂ := r)
    rwa [hl] at this
  have hd' : (be n k ++ r).drop k = r := by
    have := List.drop_left (l₁ := be n k) (l₂ := r)
    rwa [hl] at this
  unfold tU tkU
  rw [if_pos ⟨by omega, by omega, by rw [List.length_append, hl]; omega⟩]
  simp only [Option.map_some, Int.toNat_natCast]
  rw [ht, hd', beV_be h]
theorem tI_some {n : Int} {l r : List Byte} (h : tI l = some (n, r)) : -9223372036854775808 ≤ n ∧ n ≤ 9223372036854775807 ∧ l = encI n ++ r := by
  unfold tI at h
  cases hd : tkI l with
  | none => rw [hd] at h; cases h
  | some p =>
    obtain ⟨m, k⟩ := p
    rw [hd] at h
    simp only [Option.map_some, Option.some.injEq, Prod.mk.injEq] at h
    obtain ⟨rfl, rfl⟩ := h
    obtain ⟨h1, h2, _, _, h5⟩ := tkI_some hd
    exact ⟨h1, h2, by rw [h5, List.take_append_drop]⟩
theorem tI_enc {n : Int} (r : List Byte) (h : -9223372036854775808 ≤ n ∧ n ≤ 9223372036854775807) : tI (encI n ++ r) = some (n, r) := by
  unfold tI
  rw [tkI_enc r h]
  simp
theorem tC_tI {m n : Int} {l r : List Byte} (h : tC m l = some (n, r)) : tI l = some (n, r) ∧ 0 ≤ n ∧ n ≤ m := by
  unfold tC at h
  cases hd : tkC l m with
  | none => rw [hd] at h; cases h
  | some p =>
    obtain ⟨v, k⟩ := p
    rw [hd] at h
    simp only [Option.map_some, Option.some.injEq, Prod.mk.injEq] at h
    obtain ⟨rfl, rfl⟩ := h
    obtain ⟨h1, h2, h3⟩ := tkC_some hd
    exact ⟨by unfold tI; rw [h1]; rfl, h2, h3⟩
theorem tC_enc {m n : Int} (r : List Byte) (h0 : 0 ≤ n) (hm : n ≤ m) (h : n ≤ 9223372036854775807) : tC m (encI n ++ r) = some (n, r) := by
  unfold tC tkC
  rw [tkI_enc r ⟨by omega, h⟩]
  simp only [Option.bind_some]
  rw [if_neg (by omega)]
  simp
theorem tB_some {m : Int} {x l r : List Byte} (h : tB m l = some (x, r)) : l = encB x ++ r ∧ (x.length : Int) ≤ m := by
  unfold tB at h
  cases hd : tkB l m with
  | none => rw [hd] at h; cases h
  | some p =>
    obtain ⟨v, k⟩ := p
    rw [hd] at h
    simp only [Option.map_some, Option.some.injEq, Prod.mk.injEq] at h
    obtain ⟨rfl, rfl⟩ := h
    obtain ⟨n, j, h1, h2, h3, h4⟩ := tkB_some hd
    obtain ⟨h5, h6, h7⟩ := tkC_some h1
    obtain ⟨_, _, _, _, h8⟩ := tkI_some h5
    have hv : v.length = n := by rw [h3, List.length_take, List.length_drop]; omega
    refine ⟨?_, by rw [hv]; exact h7⟩
    unfold encB
    rw [hv, h8, h3, h4, List.append_assoc, ← List.drop_drop, List.take_append_drop, List.take_append_drop]
theorem tB_enc {m : Int} {x : List Byte} (r : List Byte) (h1 : (x.length : Int) ≤ m) (h2 : x.length ≤ 9223372036854775807) : tB m (encB x ++ r) = some (x, r) := by
  unfold tB
  rw [tkB_enc x r m h1 h2]
  simp

/-- the gaps, n of them -/
def tG : Nat → List Byte → Option (List (Int × Int) × List Byte)
  | 0, l => some ([], l)
  | n + 1, l => (tI l).bind fun a => (tI a.2).bind fun b => (tG n b.2).map fun r => ((a.1, b.1) :: r.1, r.2)
theorem tG_some : ∀ {n : Nat} {g : List (Int × Int)} {l r : List Byte}, tG n l = some (g, r) → g.length = n ∧ l = gs g ++ r ∧ ∀ x ∈ g, (-9223372036854775808 ≤ x.1 ∧ x.1 ≤ 9223372036854775807) ∧ -9223372036854775808 ≤ x.2 ∧ x.2 ≤ 9223372036854775807
  | 0, g, l, r, h => by
    simp only [tG, Option.some.injEq, Prod.mk.injEq] at h
    obtain ⟨rfl, rfl⟩ := h
    exact ⟨rfl, rfl, fun x hx => nomatch hx⟩
  | n + 1, g, l, r, h => by
    unfold tG at h
    cases ha : tI l with
    | none => rw [ha] at h; cases h
    | some a =>
      obtain ⟨a, l1⟩ := a
      rw [ha] at h
      simp only [Option.bind_some] at h
      cases hb : tI l1 with
      | none => rw [hb] at h; cases h
      | some b =>
        obtain ⟨b, l2⟩ := b
        rw [hb] at h
        simp only [Option.bind_some] at h
        cases hc : tG n l2 with
        | none => rw [hc] at h; cases h
        | some c =>
          obtain ⟨c, l3⟩ := c
          rw [hc] at h
          simp only [Option.map_some, Option.some.injEq, Prod.mk.injEq] at h
          obtain ⟨rfl, rfl⟩ := h
          obtain ⟨h1, h2, h3⟩ := tI_some ha
          obtain ⟨h4, h5, h6⟩ := tI_some hb
          obtain ⟨h7, h8, h9⟩ := tG_some hc
          refine ⟨by simp [h7], by rw [h3, h6, h8]; simp [gs], fun x hx => ?_⟩
          rcases List.mem_cons.1 hx with rfl | hx
          · exact ⟨⟨h1, h2⟩, h4, h5⟩
          · exact h9 x hx
theorem tG_enc : ∀ (g : List (Int × Int)) (r : List Byte), (∀ x ∈ g, (-9223372036854775808 ≤ x.1 ∧ x.1 ≤ 9223372036854775807) ∧ -9223372036854775808 ≤ x.2 ∧ x.2 ≤ 9223372036854775807) → tG g.length (gs g ++ r) = some (g, r)
  | [], r, _ => rfl
  | x :: g, r, h => by
    have hx := h x (by simp)
    have ih := tG_enc g r (fun y hy => h y (by simp [hy]))
    show (tI (gs (x :: g) ++ r)).bind _ = _
    have e : gs (x :: g) ++ r = encI x.1 ++ (encI x.2 ++ (gs g ++ r)) := by simp [gs]
    rw [e, tI_enc _ hx.1]
    simp only [Option.bind_some]
    rw [tI_enc _ hx.2]
    simp only [Option.bind_some]
    rw [ih]
    simp

def pH (l : List Byte) : Option (Pd × List Byte) :=
  (tU 1 l).bind fun a => (tU 1 a.2).bind fun b => (tU 2 b.2).map fun c => (⟨(a.1 : Int), (b.1 : Int), (c.1 : Int), 0, [], 0, 0, [], 0, 0, []⟩, c.2)
def pB (p : Pd) (l : List Byte) : Option (Pd × List Byte) :=
  if p.kd = 1 then (tU 1 l).bind fun a => (tI a.2).bind fun b => (tB 64 b.2).map fun c => ({ p with cl := (a.1 : Int), sz := b.1, na := c.1 }, c.2)
  else if p.kd = 2 then (tI l).bind fun a => (tB 512 a.2).map fun b => ({ p with of := a.1, da := b.1 }, b.2)
  else if p.kd = 3 then (tU 1 l).bind fun a => (tI a.2).bind fun b => (tU 4 b.2).bind fun c => (tU 1 c.2).map fun d => ({ p with cl := (a.1 : Int), sz := b.1, su := c.1, co := (d.1 : Int) }, d.2)
  else if p.kd = 4 then (tC 16 l).bind fun a => (tG a.1.toNat a.2).map fun b => ({ p with ga := b.1 }, b.2)
  else if p.kd = 5 then (tU 1 l).map fun a => ({ p with co := (a.1 : Int) }, a.2)
  else some (p, l)
/-- what 'unit' makes of bytes -/
def prs (l : List Byte) : Option (Pd × List Byte) := (pH l).bind fun p => pB p.1 p.2
/-- what Decode makes of them -/
def dd (l : List Byte) : Option Pd := (prs l).bind fun p => if p.2 = [] ∧ ok p.1 = true then some p.1 else none
def deP (l : List Byte) : Pd := (dd l).getD Pd.none
def deE (l : List Byte) : Int := if (dd l).isSome then 0 else 4

/-! ### both ways -/
theorem wi_iff {n m : Int} : wi n m = true ↔ 0 ≤ n ∧ n ≤ m := by unfold wi; exact decide_eq_true_iff
theorem vcl_iff {c : Int} : vcl c = true ↔ c = 1 ∨ c = 2 := by unfold vcl; exact decide_eq_true_iff
theorem be1 (n : Int) : ∃ x, be n.toNat 1 = [x] := ⟨_, rfl⟩
theorem pH_some {p : Pd} {l r : List Byte} (h : pH l = some (p, r)) : l = hd p ++ r ∧ 0 ≤ p.kd ∧ p.kd < 256 ∧ 0 ≤ p.sr ∧ p.sr < 256 ∧ 0 ≤ p.nm ∧ p.nm < 65536 ∧ p = ⟨p.kd, p.sr, p.nm, 0, [], 0, 0, [], 0, 0, []⟩ := by
  unfold pH at h
  cases ha : tU 1 l with
  | none => rw [ha] at h; cases h
  | some a =>
    obtain ⟨a, l1⟩ := a
    rw [ha] at h
    simp only [Option.bind_some] at h
    cases hb : tU 1 l1 with
    | none => rw [hb] at h; cases h
    | some b =>
      obtain ⟨b, l2⟩ := b
      rw [hb] at h
      simp only [Option.bind_some] at h
      cases hc : tU 2 l2 with
      | none => rw [hc] at h; cases h
      | some c =>
        obtain ⟨c, l3⟩ := c
        rw [hc] at h
        simp only [Option.map_some, Option.some.injEq, Prod.mk.injEq] at h
        obtain ⟨rfl, rfl⟩ := h
        obtain ⟨h1, h2⟩ := tU_some ha
        obtain ⟨h3, h4⟩ := tU_some hb
        obtain ⟨h5, h6⟩ := tU_some hc
        have q1 : a < 256 := h1
        have q3 : b < 256 := h3
        have q5 : c < 65536 := h5
        clear h1 h3 h5
        exact ⟨by rw [h2, h4, h6]; simp [hd], Int.natCast_nonneg _, Int.ofNat_lt.2 q1, Int.natCast_nonneg _, Int.ofNat_lt.2 q3, Int.natCast_nonneg _, Int.ofNat_lt.2 q5, rfl⟩
theorem pB_some {p q : Pd} {l r : List Byte} (h : pB p l = some (q, r)) : l = bd q ++ r ∧ q.kd = p.kd ∧ q.sr = p.sr ∧ q.nm = p.nm := by
  unfold pB at h
  split at h
  · rename_i hk
    cases ha : tU 1 l with
    | none => rw [ha] at h; cases h
    | some a =>
      obtain ⟨a, l1⟩ := a
      rw [ha] at h
      simp only [Option.bind_some] at h
      cases hb : tI l1 with
      | none => rw [hb] at h; cases h
      | some b =>
        obtain ⟨b, l2⟩ := b
        rw [hb] at h
        simp only [Option.bind_some] at h
        cases hc : tB 64 l2 with
        | none => rw [hc] at h; cases h
        | some c =>
          obtain ⟨c, l3⟩ := c
          rw [hc] at h
          simp only [Option.map_some, Option.some.injEq, Prod.mk.injEq] at h
          obtain ⟨rfl, rfl⟩ := h
          obtain ⟨h1, h2⟩ := tU_some ha
          obtain ⟨_, _, h4⟩ := tI_some hb
          obtain ⟨h6, _⟩ := tB_some hc
          exact ⟨by rw [h2, h4, h6]; simp [bd, hk], rfl, rfl, rfl⟩
  rename_i hk1
  split at h
  · rename_i hk
    cases hb : tI l with
    | none => rw [hb] at h; cases h
    | some b =>
      obtain ⟨b, l2⟩ := b
      rw [hb] at h
      simp only [Option.bind_some] at h
      cases hc : tB 512 l2 with
      | none => rw [hc] at h; cases h
      | some c =>
        obtain ⟨c, l3⟩ := c
        rw [hc] at h
        simp only [Option.map_some, Option.some.injEq, Prod.mk.injEq] at h
        obtain ⟨rfl, rfl⟩ := h
        obtain ⟨_, _, h4⟩ := tI_some hb
        obtain ⟨h6, _⟩ := tB_some hc
        exact ⟨by rw [h4, h6]; simp [bd, hk], rfl, rfl, rfl⟩
  rename_i hk2
  split at h
  · rename_i hk
    cases ha : tU 1 l with
    | none => rw [ha] at h; cases h
    | some a =>
      obtain ⟨a, l1⟩ := a
      rw [ha] at h
      simp only [Option.bind_some] at h
      cases hb : tI l1 with
      | none => rw [hb] at h; cases h
      | some b =>
        obtain ⟨b, l2⟩ := b
        rw [hb] at h
        simp only [Option.bind_some] at h
        cases hc : tU 4 l2 with
        | none => rw [hc] at h; cases h
        | some c =>
          obtain ⟨c, l3⟩ := c
          rw [hc] at h
          simp only [Option.bind_some] at h
          cases hd : tU 1 l3 with
          | none => rw [hd] at h; cases h
          | some d =>
            obtain ⟨d, l4⟩ := d
            rw [hd] at h
            simp only [Option.map_some, Option.some.injEq, Prod.mk.injEq] at h
            obtain ⟨rfl, rfl⟩ := h
            obtain ⟨_, h2⟩ := tU_some ha
            obtain ⟨_, _, h4⟩ := tI_some hb
            obtain ⟨_, h6⟩ := tU_some hc
            obtain ⟨_, h8⟩ := tU_some hd
            exact ⟨by rw [h2, h4, h6, h8]; simp [bd, hk], rfl, rfl, rfl⟩
  rename_i hk3
  split at h
  · rename_i hk
    cases ha : tC 16 l with
    | none => rw [ha] at h; cases h
    | some a =>
      obtain ⟨a, l1⟩ := a
      rw [ha] at h
      simp only [Option.bind_some] at h
      cases hb : tG a.toNat l1 with
      | none => rw [hb] at h; cases h
      | some b =>
        obtain ⟨b, l2⟩ := b
        rw [hb] at h
        simp only [Option.map_some, Option.some.injEq, Prod.mk.injEq] at h
        obtain ⟨rfl, rfl⟩ := h
        obtain ⟨h1, h2, _⟩ := tC_tI ha
        obtain ⟨_, _, h4⟩ := tI_some h1
        obtain ⟨h5, h6, _⟩ := tG_some hb
        refine ⟨?_, rfl, rfl, rfl⟩
        have e : ((b.length : Nat) : Int) = a := by omega
        rw [h4, h6]
        simp only [bd, hk]
        simp [e]
  rename_i hk4
  split at h
  · rename_i hk
    cases ha : tU 1 l with
    | none => rw [ha] at h; cases h
    | some a =>
      obtain ⟨a, l1⟩ := a
      rw [ha] at h
      simp only [Option.map_some, Option.some.injEq, Prod.mk.injEq] at h
      obtain ⟨rfl, rfl⟩ := h
      obtain ⟨_, h2⟩ := tU_some ha
      exact ⟨by rw [h2]; simp [bd, hk], rfl, rfl, rfl⟩
  rename_i hk5
  simp only [Option.some.injEq, Prod.mk.injEq] at h
  obtain ⟨rfl, rfl⟩ := h
  exact ⟨by simp [bd, hk1, hk2, hk3, hk4, hk5], rfl, rfl, rfl⟩
/-- what is read is the encoding of what it is read as -/
theorem prs_some {q : Pd} {l r : List Byte} (h : prs l = some (q, r)) : l = enc q ++ r := by
  unfold prs at h
  cases ha : pH l with
  | none => rw [ha] at h; cases h
  | some a =>
    obtain ⟨p, l1⟩ := a
    rw [ha] at h
    simp only [Option.bind_some] at h
    obtain ⟨h1, _, _, _, _, _, _, _⟩ := pH_some ha
    obtain ⟨h9, h10, h11, h12⟩ := pB_some h
    rw [h1, h9]
    simp [enc, hd, h10, h11, h12]

theorem gok_bounds : ∀ {l : List (Int × Int)} {f : Bool} {k : Int}, -1 ≤ k → gok f k l = true → ∀ x ∈ l, (-9223372036854775808 ≤ x.1 ∧ x.1 ≤ 9223372036854775807) ∧ -9223372036854775808 ≤ x.2 ∧ x.2 ≤ 9223372036854775807
  | [], _, _, _, _, _, hx => nomatch hx
  | g :: l, f, k, hk, h, x, hx => by
    unfold gok at h
    split at h
    · rename_i h0
      rcases List.mem_cons.1 hx with rfl | hx
      · omega
      · exact gok_bounds hk h x hx
    · simp only [Bool.and_eq_true] at h
      have h1 := of_decide_eq_true h.1
      rcases List.mem_cons.1 hx with rfl | hx
      · omega
      · exact gok_bounds (by omega) h.2 x hx
/-- a valid unit, field by field -/
theorem ok_cases {p : Pd} (h : ok p = true) : (0 ≤ p.sr ∧ p.sr ≤ 15) ∧ (0 ≤ p.nm ∧ p.nm ≤ 65535) ∧
    ((p.kd = 1 ∧ (p.cl = 1 ∨ p.cl = 2) ∧ (0 ≤ p.sz ∧ p.sz ≤ 65536) ∧ vna p.na = true ∧ p = ⟨1, p.sr, p.nm, p.cl, p.na, p.sz, 0, [], 0, 0, []⟩) ∨
     (p.kd = 2 ∧ vpc p.of p.da.length = true ∧ p = ⟨2, p.sr, p.nm, 0, [], 0, p.of, p.da, 0, 0, []⟩) ∨
     (p.kd = 3 ∧ (p.cl = 1 ∨ p.cl = 2) ∧ (0 ≤ p.sz ∧ p.sz ≤ 65536) ∧ (0 ≤ p.co ∧ p.co ≤ 17) ∧ p = ⟨3, p.sr, p.nm, p.cl, [], p.sz, 0, [], p.su, p.co, []⟩) ∨
     (p.kd = 4 ∧ vga p.ga = true ∧ p = ⟨4, p.sr, p.nm, 0, [], 0, 0, [], 0, 0, p.ga⟩) ∨
     (p.kd = 5 ∧ (0 ≤ p.co ∧ p.co ≤ 17) ∧ p = ⟨5, p.sr, p.nm, 0, [], 0, 0, [], 0, p.co, []⟩) ∨
     ((p.kd = 6 ∨ p.kd = 7) ∧ p = ⟨p.kd, p.sr, p.nm, 0, [], 0, 0, [], 0, 0, []⟩)) := by
  obtain ⟨kd, sr, nm, cl, na, sz, of, da, su, co, ga⟩ := p
  simp only [ok, vid, Bool.and_eq_true, wi_iff] at h
  obtain ⟨⟨h1, h2⟩, h3, h4⟩ := h
  refine ⟨h1, h2, ?_⟩
  have h4' := of_decide_eq_true h4
  clear h4
  simp only [used] at h3
  simp only [unu] at h4'
  split at h3
  · rename_i hk
    subst hk
    simp only [Bool.and_eq_true, wi_iff, vcl_iff, if_true] at h3 h4'
    obtain ⟨_, _, _, rfl, rfl, rfl, rfl, rfl⟩ := h4'
    exact .inl ⟨rfl, h3.1, h3.2.1, h3.2.2, rfl⟩
  rename_i hk1
  rw [if_neg hk1] at h4'
  split at h3
  · rename_i hk
    subst hk
    simp only [if_true] at h4'
    obtain ⟨rfl, rfl, rfl, _, _, rfl, rfl, rfl⟩ := h4'
    exact .inr (.inl ⟨rfl, h3, rfl⟩)
  rename_i hk2
  rw [if_neg hk2] at h4'
  split at h3
  · rename_i hk
    subst hk
    simp only [Bool.and_eq_true, wi_iff, vcl_iff, if_true] at h3 h4'
    obtain ⟨_, rfl, _, rfl, rfl, _, _, rfl⟩ := h4'
    exact .inr (.inr (.inl ⟨rfl, h3.1, h3.2.1, h3.2.2, rfl⟩))
  rename_i hk3
  rw [if_neg hk3] at h4'
  split at h3
  · rename_i hk
    subst hk
    simp only [if_true] at h4'
    obtain ⟨rfl, rfl, rfl, rfl, rfl, rfl, rfl, _⟩ := h4'
    exact .inr (.inr (.inr (.inl ⟨rfl, h3, rfl⟩)))
  rename_i hk4
  rw [if_neg hk4] at h4'
  split at h3
  · rename_i hk
    subst hk
    simp only [wi_iff, if_true] at h3 h4'
    obtain ⟨rfl, rfl, rfl, rfl, rfl, rfl, _, rfl⟩ := h4'
    exact .inr (.inr (.inr (.inr (.inl ⟨rfl, h3, rfl⟩))))
  rename_i hk5
  rw [if_neg hk5] at h4'
  obtain ⟨rfl, rfl, rfl, rfl, rfl, rfl, rfl, rfl⟩ := h4'
  exact .inr (.inr (.inr (.inr (.inr ⟨of_decide_eq_true h3, rfl⟩))))
/-- the encoding of a valid unit is read back, whatever follows it -/
theorem prs_enc {p : Pd} (r : List Byte) (h : ok p = true) (hs : p.su < 256 ^ 4) : prs (enc p ++ r) = some (p, r) := by
  obtain ⟨h1, h2, hc⟩ := ok_cases h
  have hk : 1 ≤ p.kd ∧ p.kd ≤ 7 := by omega
  have e1 : pH (enc p ++ r) = some (⟨p.kd, p.sr, p.nm, 0, [], 0, 0, [], 0, 0, []⟩, bd p ++ r) := by
    have e : enc p ++ r = be p.kd.toNat 1 ++ (be p.sr.toNat 1 ++ (be p.nm.toNat 2 ++ (bd p ++ r))) := by simp [enc, hd]
    unfold pH
    rw [e, tU_enc _ (by decide) (by omega)]
    simp only [Option.bind_some]
    rw [tU_enc _ (by decide) (by omega)]
    simp only [Option.bind_some]
    rw [tU_enc _ (by decide) (by omega)]
    simp only [Option.map_some, Option.some.injEq, Prod.mk.injEq, and_true]
    rw [Int.toNat_of_nonneg (by omega), Int.toNat_of_nonneg (by omega), Int.toNat_of_nonneg (by omega)]
  unfold prs
  rw [e1]
  simp only [Option.bind_some]
  rcases hc with ⟨k, c1, c2, c3, e⟩ | ⟨k, c1, e⟩ | ⟨k, c1, c2, c3, e⟩ | ⟨k, c1, e⟩ | ⟨k, c1, e⟩ | ⟨k, e⟩
  · have hl := of_decide_eq_true (Bool.and_eq_true_iff.1 c3).1
    unfold pB bd
    simp only [k, if_true, List.append_assoc]
    rw [tU_enc _ (by decide) (by omega)]
    simp only [Option.bind_some]
    rw [tI_enc _ (by omega)]
    simp only [Option.bind_some]
    rw [tB_enc _ (by omega) (by omega)]
    simp only [Option.map_some, Option.some.injEq, Prod.mk.injEq, and_true]
    rw [Int.toNat_of_nonneg (by omega)]
    exact e.symm
  · have hl := of_decide_eq_true c1
    unfold pB bd
    simp only [k, (eq_false (by decide) : (((2 : Int) = 1)) = False), if_true, if_false, List.append_assoc]
    rw [tI_enc _ (by omega)]
    simp only [Option.bind_some]
    rw [tB_enc _ (by omega) (by omega)]
    simp only [Option.map_some, Option.some.injEq, Prod.mk.injEq, and_true]
    exact e.symm
  · unfold pB bd
    simp only [k, (eq_false (by decide) : (((3 : Int) = 1)) = False), (eq_false (by decide) : (((3 : Int) = 2)) = False), if_true, if_false, List.append_assoc]
    rw [tU_enc _ (by decide) (by omega)]
    simp only [Option.bind_some]
    rw [tI_enc _ (by omega)]
    simp only [Option.bind_some]
    rw [tU_enc _ (by decide) hs]
    simp only [Option.bind_some]
    rw [tU_enc _ (by decide) (by omega)]
    simp only [Option.map_some, Option.some.injEq, Prod.mk.injEq, and_true]
    rw [Int.toNat_of_nonneg (by omega), Int.toNat_of_nonneg (by omega)]
    exact e.symm
  · have hl := Bool.and_eq_true_iff.1 c1
    have h3 := of_decide_eq_true hl.1
    have h4 := gok_bounds (by omega) hl.2
    unfold pB bd
    simp only [k, (eq_false (by decide) : (((4 : Int) = 1)) = False), (eq_false (by decide) : (((4 : Int) = 2)) = False), (eq_false (by decide) : (((4 : Int) = 3)) = False), if_true, if_false, List.append_assoc]
    rw [tC_enc _ (by omega) (by omega) (by omega)]
    simp only [Option.bind_some, Int.toNat_natCast]
    rw [tG_enc _ _ h4]
    simp only [Option.map_some, Option.some.injEq, Prod.mk.injEq, and_true]
    exact e.symm
  · unfold pB bd
    simp only [k, (eq_false (by decide) : (((5 : Int) = 1)) = False), (eq_false (by decide) : (((5 : Int) = 2)) = False), (eq_false (by decide) : (((5 : Int) = 3)) = False), (eq_false (by decide) : (((5 : Int) = 4)) = False), if_true, if_false]
    rw [tU_enc _ (by decide) (by omega)]
    simp only [Option.map_some, Option.some.injEq, Prod.mk.injEq, and_true]
    rw [Int.toNat_of_nonneg (by omega)]
    exact e.symm
  · unfold pB bd
    simp only
    rw [if_neg (by omega), if_neg (by omega), if_neg (by omega), if_neg (by omega), if_neg (by omega), if_neg (by omega), if_neg (by omega), if_neg (by omega), if_neg (by omega), if_neg (by omega)]
    simp only [List.nil_append, Option.some.injEq, Prod.mk.injEq, and_true]
    exact e.symm
theorem dd_enc {p : Pd} (h : ok p = true) (hs : p.su < 256 ^ 4) : dd (enc p) = some p := by
  have e := prs_enc [] h hs
  rw [List.append_nil] at e
  unfold dd
  rw [e]
  simp [h]
theorem dd_more {p : Pd} {r : List Byte} (h : ok p = true) (hs : p.su < 256 ^ 4) (hr : r ≠ []) : dd (enc p ++ r) = none := by
  unfold dd
  rw [prs_enc r h hs]
  simp [hr]
theorem dd_some {p : Pd} {l : List Byte} (h : dd l = some p) : ok p = true ∧ enc p = l := by
  unfold dd at h
  cases ha : prs l with
  | none => rw [ha] at h; cases h
  | some a =>
    obtain ⟨q, r⟩ := a
    rw [ha] at h
    simp only [Option.bind_some] at h
    split at h
    · rename_i hc
      injection h with h
      subst h
      have e := prs_some ha
      rw [hc.1, List.append_nil] at e
      exact ⟨hc.2, e.symm⟩
    · cases h
end Go.Proofs.Ytaaikmncdgfkmaa.Pdu
