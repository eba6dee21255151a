/-
  Plain mathematics of package pdu: what is asked of a unit of each kind, one by one.
-/
import Derived.Test.YtaaikmncdgfkmaaPduMath
namespace Go.Proofs.Ytaaikmncdgfkmaa.Pdu

section
variable {sr nm cl sz of co : Int} {na da : List Byte} {su : Nat} {ga : List (Int × Int)}
theorem vpc_iff {n : Nat} : vpc of n = true ↔ (1 ≤ n ∧ n ≤ 512) ∧ 0 ≤ of ∧ of ≤ 65536 - (n : Int) := by unfold vpc; exact decide_eq_true_iff
theorem ok_k1 : ok ⟨1, sr, nm, cl, na, sz, of, da, su, co, ga⟩ = true ↔ ((0 ≤ sr ∧ sr ≤ 15) ∧ 0 ≤ nm ∧ nm ≤ 65535) ∧ (cl = 1 ∨ cl = 2) ∧ (0 ≤ sz ∧ sz ≤ 65536) ∧ vna na = true ∧ co = 0 ∧ su = 0 ∧ ga = [] ∧ of = 0 ∧ da = [] := by
  simp only [ok, vid, used, unu, zer, if_true, Bool.and_eq_true, wi_iff, vcl_iff, decide_eq_true_eq, true_and]
  constructor
  · rintro ⟨a, ⟨b, c, d⟩, e, f, g, h, i⟩
    exact ⟨a, b, c, d, h, g, i, e, f⟩
  · rintro ⟨a, b, c, d, h, g, i, e, f⟩
    exact ⟨a, ⟨b, c, d⟩, e, f, g, h, i⟩
theorem ok_k2 : ok ⟨2, sr, nm, cl, na, sz, of, da, su, co, ga⟩ = true ↔ ((0 ≤ sr ∧ sr ≤ 15) ∧ 0 ≤ nm ∧ nm ≤ 65535) ∧ cl = 0 ∧ sz = 0 ∧ na = [] ∧ co = 0 ∧ su = 0 ∧ ga = [] ∧ (1 ≤ da.length ∧ da.length ≤ 512) ∧ 0 ≤ of ∧ of ≤ 65536 - (da.length : Int) := by
  simp only [ok, vid, used, unu, zer, if_true, if_false, (eq_false (by decide) : ((2 : Int) = 1) = False), Bool.and_eq_true, wi_iff, vpc_iff, decide_eq_true_eq, true_and]
  constructor
  · rintro ⟨a, b, c, d, e, f, g, h⟩
    exact ⟨a, c, e, d, g, f, h, b⟩
  · rintro ⟨a, c, e, d, g, f, h, b⟩
    exact ⟨a, b, c, d, e, f, g, h⟩
theorem ok_k3 : ok ⟨3, sr, nm, cl, na, sz, of, da, su, co, ga⟩ = true ↔ ((0 ≤ sr ∧ sr ≤ 15) ∧ 0 ≤ nm ∧ nm ≤ 65535) ∧ (cl = 1 ∨ cl = 2) ∧ (0 ≤ sz ∧ sz ≤ 65536) ∧ na = [] ∧ (0 ≤ co ∧ co ≤ 17) ∧ ga = [] ∧ of = 0 ∧ da = [] := by
  simp only [ok, vid, used, unu, zer, if_true, if_false, (eq_false (by decide) : ((3 : Int) = 1) = False), (eq_false (by decide) : ((3 : Int) = 2) = False), Bool.and_eq_true, wi_iff, vcl_iff, decide_eq_true_eq, true_and]
  constructor
  · rintro ⟨a, ⟨b, c, d⟩, e, f, g, h⟩
    exact ⟨a, b, c, e, d, h, f, g⟩
  · rintro ⟨a, b, c, e, d, h, f, g⟩
    exact ⟨a, ⟨b, c, d⟩, e, f, g, h⟩
theorem ok_k4 : ok ⟨4, sr, nm, cl, na, sz, of, da, su, co, ga⟩ = true ↔ ((0 ≤ sr ∧ sr ≤ 15) ∧ 0 ≤ nm ∧ nm ≤ 65535) ∧ cl = 0 ∧ sz = 0 ∧ na = [] ∧ co = 0 ∧ su = 0 ∧ vga ga = true ∧ of = 0 ∧ da = [] := by
  simp only [ok, vid, used, unu, zer, if_true, if_false, (eq_false (by decide) : ((4 : Int) = 1) = False), (eq_false (by decide) : ((4 : Int) = 2) = False), (eq_false (by decide) : ((4 : Int) = 3) = False), Bool.and_eq_true, wi_iff, decide_eq_true_eq, and_true]
  constructor
  · rintro ⟨a, b, c, d, e, f, g, h, i⟩
    exact ⟨a, c, e, d, i, h, b, f, g⟩
  · rintro ⟨a, c, e, d, i, h, b, f, g⟩
    exact ⟨a, b, c, d, e, f, g, h, i⟩
theorem ok_k5 : ok ⟨5, sr, nm, cl, na, sz, of, da, su, co, ga⟩ = true ↔ ((0 ≤ sr ∧ sr ≤ 15) ∧ 0 ≤ nm ∧ nm ≤ 65535) ∧ cl = 0 ∧ sz = 0 ∧ na = [] ∧ (0 ≤ co ∧ co ≤ 17) ∧ su = 0 ∧ ga = [] ∧ of = 0 ∧ da = [] := by
  simp only [ok, vid, used, unu, zer, if_true, if_false, (eq_false (by decide) : ((5 : Int) = 1) = False), (eq_false (by decide) : ((5 : Int) = 2) = False), (eq_false (by decide) : ((5 : Int) = 3) = False), (eq_false (by decide) : ((5 : Int) = 4) = False), Bool.and_eq_true, wi_iff, decide_eq_true_eq, true_and]
  constructor
  · rintro ⟨a, b, c, d, e, f, g, h, i⟩
    exact ⟨a, c, e, d, b, h, i, f, g⟩
  · rintro ⟨a, c, e, d, b, h, i, f, g⟩
    exact ⟨a, b, c, d, e, f, g, h, i⟩
theorem ok_k6 {kd : Int} (hk : kd = 6 ∨ kd = 7) : ok ⟨kd, sr, nm, cl, na, sz, of, da, su, co, ga⟩ = true ↔ ((0 ≤ sr ∧ sr ≤ 15) ∧ 0 ≤ nm ∧ nm ≤ 65535) ∧ cl = 0 ∧ sz = 0 ∧ na = [] ∧ co = 0 ∧ su = 0 ∧ ga = [] ∧ of = 0 ∧ da = [] := by
  have e1 : (kd = 1) = False := eq_false (by omega)
  have e2 : (kd = 2) = False := eq_false (by omega)
  have e3 : (kd = 3) = False := eq_false (by omega)
  have e4 : (kd = 4) = False := eq_false (by omega)
  have e5 : (kd = 5) = False := eq_false (by omega)
  simp only [ok, vid, used, unu, zer, e1, e2, e3, e4, e5, if_false, hk, Bool.and_eq_true, wi_iff, decide_eq_true_eq, true_and]
  constructor
  · rintro ⟨a, b, c, d, e, f, g, h, i⟩
    exact ⟨a, b, d, c, h, g, i, e, f⟩
  · rintro ⟨a, b, d, c, h, g, i, e, f⟩
    exact ⟨a, b, c, d, e, f, g, h, i⟩
theorem ok_no {p : Pd} (h : ok p = true → False) : ok p = false := by
  cases hh : ok p with
  | false => rfl
  | true => exact (h hh).elim
theorem ok_kd {p : Pd} (h : ok p = true) : (1 ≤ p.kd ∧ p.kd ≤ 7) ∧ (0 ≤ p.sr ∧ p.sr ≤ 15) ∧ 0 ≤ p.nm ∧ p.nm ≤ 65535 := by
  obtain ⟨h1, h2, h3⟩ := ok_cases h
  exact ⟨by omega, h1, h2⟩
end
end Go.Proofs.Ytaaikmncdgfkmaa.Pdu
