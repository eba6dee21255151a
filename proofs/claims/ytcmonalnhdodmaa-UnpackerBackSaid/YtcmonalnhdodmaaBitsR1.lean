/-
  The walk of Get of package bits' Reader.
-/
import Derived.Test.YtcmonalnhdodmaaBitsR0
namespace Go.Proofs.Ytcmonalnhdodmaa
open Go.RowKit

/-- may Get read k bits? -/
def getBad (bs : List Byte) (p : Nat) (bad : Bool) (k : Int) : Prop := bad = true ∨ k < 0 ∨ 64 < k ∨ (leftR bs p bad : Int) < k
instance (bs : List Byte) (p : Nat) (bad : Bool) (k : Int) : Decidable (getBad bs p bad k) := by unfold getBad; infer_instance
def getP (bs : List Byte) (p : Nat) (bad : Bool) (k : Int) : Nat := if getBad bs p bad k then p else p + k.toNat
def getB (bs : List Byte) (p : Nat) (bad : Bool) (k : Int) : Bool := decide (getBad bs p bad k)
def getV (bs : List Byte) (p : Nat) (bad : Bool) (k : Int) : Nat := if getBad bs p bad k then 0 else numAt bs p k.toNat

theorem min_of' (a d : Nat) (hd : d < 8) : ∃ s : Nat, (if 8 - (d : Int) < (a : Int) then 8 - (d : Int) else (a : Int)) = (s : Int) ∧ s ≤ a ∧ d + s ≤ 8 ∧ (0 < a → 0 < s) := by
  refine ⟨min a (8 - d), ?_, by omega, by omega, by omega⟩
  split <;> omega

theorem or_shift (a s b : Nat) (hb : b < 2 ^ s) (hab : a * 2 ^ s + b < 2 ^ 64) : bits .or .u64 (IntKind.u64.wrap ((a : Int) * 2 ^ s)) (b : Int) = ((a * 2 ^ s + b : Nat) : Int) := by
  have h1 : ((a : Int) * 2 ^ s) = ((a * 2 ^ s : Nat) : Int) := by rw [Int.natCast_mul, Int.natCast_pow]; rfl
  have h2 : IntKind.u64.wrap ((a * 2 ^ s : Nat) : Int) = ((a * 2 ^ s : Nat) : Int) := by
    simp [IntKind.wrap, IntKind.bits, IntKind.signed]
    rw [h1]
    omega
  rw [h1, h2, u64_or_nat _ _ (by omega) (by omega)]
  congr 1
  rw [Nat.mul_comm, ← Nat.two_pow_add_eq_or_of_lt hb]

theorem wrap_small (a : Nat) (h : a < 2 ^ 64) : IntKind.u64.wrap (a : Int) = (a : Int) := by
  simp [IntKind.wrap, IntKind.bits, IntKind.signed]
  omega
theorem get_num (bs : List Byte) (p j s d : Nat) (x : Byte) (hs : d + s ≤ 8) (hd : d = (p + j) % 8) (hx : bs[(p + j) / 8]? = some x) (hj : j + s ≤ 64) :
    bits .or .u64 (IntKind.u64.wrap ((numAt bs p j : Int) * 2 ^ s)) (IntKind.u64.wrap ((x.toNat : Int) * 2 ^ d % 256 / 2 ^ (8 - s))) = (numAt bs p (j + s) : Int) := by
  subst hd
  have h1 := numAt_piece bs (p + j) s x hs hx
  have h2 : (x.toNat : Int) * 2 ^ ((p + j) % 8) % 256 / 2 ^ (8 - s) = ((numAt bs (p + j) s : Nat) : Int) := by
    rw [← h1, Int.natCast_ediv, Int.natCast_emod, Int.natCast_mul, Int.natCast_pow, Int.natCast_pow]
    rfl
  have h3 := numAt_lt bs (p + j) s
  have h4 : 2 ^ s ≤ 2 ^ 64 := Nat.pow_le_pow_right (by decide) (by omega)
  have h5 := numAt_lt bs p (j + s)
  have h6 : 2 ^ (j + s) ≤ 2 ^ 64 := Nat.pow_le_pow_right (by decide) hj
  have h7 := numAt_add bs p j s
  rw [h2, wrap_small _ (by omega), or_shift _ _ _ h3 (by omega), h7]

set_option maxHeartbeats 1000000 in
theorem get_ok (w : World) (base g : Nat) (r : Option Nat) (bs : List Byte) (p k : Nat) (h : RAt w base g r bs p false) (hL : bs.length < 1000000) (hk : k ≤ 64) (hpk : p + k ≤ 8 * bs.length) :
    Calls Try.prog 59 #[.pointer (some ⟨g, 0, none⟩), .int .i64 (k : Int)] w fun e w' => e = .returned (.int .u64 (numAt bs p k : Int)) ∧ RAt w' base g r bs (p + k) false ∧ Only [g] w w' := by
  have hw := works_any w base g r bs p false h
  have hl := left_any w base g r bs p false h hL
  have hl2 : leftR bs p false = 8 * bs.length - p := rfl
  obtain ⟨q, hq⟩ : ∃ q, q = leftR bs p false := ⟨_, rfl⟩
  rw [← hq] at hl
  have hkq : k ≤ q := by omega
  clear hq hl2
  go_enter Try.func59, Try.ntmps59
  go_wp2_with (first
    | (go_at_call 60; refine hw.mono ?_; rintro e w' ⟨rfl, rfl⟩)
    | (go_at_call 52; refine (valid_yes _ _ (by omega) (by omega)).mono ?_; rintro e w' ⟨rfl, rfl⟩)
    | (go_at_call 61; refine hl.mono ?_; rintro e w' ⟨rfl, a, rfl⟩))
  clear hl hw
  go_loopg [1, 5] k (fun j i t wr => j ≤ k ∧ i = .int .i64 (j : Int) ∧ t = .int .u64 (numAt bs p (k - j) : Int) ∧ RAt wr base g r bs (p + (k - j)) false ∧ Only [g] w wr)
  case atStart => exact ⟨Nat.le_refl _, rfl, by rw [Nat.sub_self]; rfl, by rw [Nat.sub_self]; exact h.draws a, (Only.refl _ _).draws a⟩
  case round =>
    obtain ⟨hj, rfl, rfl, hR, hO⟩ := hrel
    by_cases hj0 : gk = 0
    · subst hj0
      go_wp2
      go_ret
      exact ⟨rfl, hR, hO⟩
    · obtain ⟨v, hc, ho, hv, hp2⟩ := hR
      obtain ⟨P, hP⟩ : ∃ P, P = p + (k - gk) := ⟨_, rfl⟩
      rw [← hP] at hc
      have hPl : P + gk ≤ 8 * bs.length := by omega
      obtain ⟨m, hm⟩ : ∃ m, bs.length = m + 1 := ⟨bs.length - 1, by omega⟩
      obtain ⟨gr, c, rfl, hgb, hgl, hmc, hcm, hcells, hfree⟩ := ho.form_len hm
      obtain ⟨E, hE⟩ : ∃ E, E = P / 8 := ⟨_, rfl⟩
      obtain ⟨d, hd⟩ : ∃ d, d = P % 8 := ⟨_, rfl⟩
      obtain ⟨x, hx⟩ : ∃ x, bs[E]? = some x := ⟨_, List.getElem?_eq_getElem (by omega)⟩
      have c2 := hc.cell 2
      have c3 := hc.cell 3
      have f3 := hc.free 3
      simp at c2 c3
      have c4 := hcells E x hx
      have hd8 : d < 8 := by omega
      have hEm : (E : Int) < (m : Int) + 1 := by omega
      have hE0 : (0 : Int) ≤ (E : Int) := Int.natCast_nonneg _
      have hPb : P < 8000000 := by omega
      have hdI : (P : Int) % 8 = (d : Int) := by omega
      have hEI : (P : Int) / 8 = (E : Int) := by omega
      obtain ⟨s, hmin, hsg, hsd, hs0⟩ := min_of' gk d hd8
      have hs1 := hs0 (by omega)
      obtain ⟨N, hN⟩ : ∃ N, N = numAt bs p (k - gk) := ⟨_, rfl⟩
      rw [← hN]
      have HB := Lib.hid (And.intro hP (And.intro hE (And.intro hd (And.intro hx (And.intro hm hN)))))
      clear hP hE hd hx hm hN hcells hfree hs0
      unfold maxLen at hcm
      go_wp2
      clear hmin
      go_quiet (fail)
      go_wp2
      go_roundg (gk - s)
      case measure => omega
      case rel =>
        obtain ⟨hP, hE, hd, hx, hm, hN⟩ := HB.out
        have e1 : k - (gk - s) = (k - gk) + s := by omega
        have e2 : ((gk : Int) - (s : Int)) = ((gk - s : Nat) : Int) := by omega
        have e3 : ((P : Int) + (s : Int)) = ((p + (k - gk + s) : Nat) : Int) := by omega
        rw [e1, e2, e3, hN, get_num bs p (k - gk) s d x hsd (by rw [← hP]; exact hd) (by rw [← hP, ← hE]; exact hx) (by omega)]
        have hRP : RAt wr base g r bs P false := ⟨_, hc, ho, hv, by omega⟩
        exact ⟨by omega, rfl, rfl, (hRP.draws nq).moved _ (by omega), (hO.draws nq).put (.inl (by simp)) _⟩

set_option maxHeartbeats 1000000 in
theorem get_any (w : World) (base g : Nat) (r : Option Nat) (bs : List Byte) (p : Nat) (bad : Bool) (k : Int) (h : RAt w base g r bs p bad) (hL : bs.length < 1000000) (hk : (Lit.int .i64 k).wf = true) :
    Calls Try.prog 59 #[.pointer (some ⟨g, 0, none⟩), .int .i64 k] w fun e w' => e = .returned (.int .u64 (getV bs p bad k : Int)) ∧ RAt w' base g r bs (getP bs p bad k) (getB bs p bad k) ∧ Only [g] w w' := by
  have hw := works_any w base g r bs p bad h
  have hl := left_any w base g r bs p bad h hL
  have hb := i64_bounds hk
  have hf1 : w.frozen? ⟨g, 1, none⟩ = false := by obtain ⟨v, hc, _⟩ := h; exact hc.free 1
  have hc1 : w.cell? ⟨g, 1, none⟩ = some (.bool bad) := by
    obtain ⟨v, hc, _⟩ := h
    have := hc.cell 1
    simpa using this
  by_cases hgood : getBad bs p bad k
  · have hs : getP bs p bad k = p ∧ getB bs p bad k = true ∧ getV bs p bad k = 0 := by simp [getP, getB, getV, hgood]
    rw [hs.1, hs.2.1, hs.2.2]
    clear hs
    cases bad with
    | true =>
      clear hgood
      go_enter Try.func59, Try.ntmps59
      go_wp2_with (go_at_call 60; refine hw.mono ?_; rintro e w' ⟨rfl, rfl⟩)
      go_ret
      exact ⟨rfl, h, Only.refl _ _⟩
    | false =>
      by_cases h0 : k < 0 ∨ 64 < k
      · clear hgood hl
        go_enter Try.func59, Try.ntmps59
        go_wp2_with (first
          | (go_at_call 60; refine hw.mono ?_; rintro e w' ⟨rfl, rfl⟩)
          | (go_at_call 52; refine (valid_no _ _ h0).mono ?_; rintro e w' ⟨rfl, rfl⟩))
        go_ret
        exact ⟨rfl, h.failed, (Only.refl _ _).put (.inl (by simp)) _⟩
      · obtain ⟨q, hq⟩ : ∃ q, q = leftR bs p false := ⟨_, rfl⟩
        have h1 : (q : Int) < k := by
          rw [hq]
          unfold getBad at hgood
          simp at hgood
          omega
        rw [← hq] at hl
        have h2 : 0 ≤ k := by omega
        have h3 : k ≤ 64 := by omega
        clear hgood hq h0
        go_enter Try.func59, Try.ntmps59
        go_wp2_with (first
          | (go_at_call 60; refine hw.mono ?_; rintro e w' ⟨rfl, rfl⟩)
          | (go_at_call 52; refine (valid_yes _ _ h2 h3).mono ?_; rintro e w' ⟨rfl, rfl⟩)
          | (go_at_call 61; refine hl.mono ?_; rintro e w' ⟨rfl, a, rfl⟩))
        go_ret
        exact ⟨rfl, (h.draws a).failed, ((Only.refl _ _).draws a).put (.inl (by simp)) _⟩
  · have hs : getP bs p bad k = p + k.toNat ∧ getB bs p bad k = false ∧ getV bs p bad k = numAt bs p k.toNat := by simp [getP, getB, getV, hgood]
    rw [hs.1, hs.2.1, hs.2.2]
    unfold getBad at hgood
    have hbad : bad = false := by cases bad <;> simp at hgood ⊢
    subst hbad
    have hl2 : leftR bs p false = 8 * bs.length - p := rfl
    have hp : p ≤ 8 * bs.length := by obtain ⟨v, _, _, _, hp⟩ := h; exact hp
    rw [hl2] at hgood
    simp at hgood
    obtain ⟨K, rfl⟩ := Int.eq_ofNat_of_zero_le hgood.1
    rw [Int.toNat_natCast]
    exact get_ok w base g r bs p K h hL (by omega) (by omega)
end Go.Proofs.Ytcmonalnhdodmaa
