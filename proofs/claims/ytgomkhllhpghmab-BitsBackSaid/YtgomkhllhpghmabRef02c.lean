/-
  The walks of the reference of chapter 2: its Reader.
-/
import Derived.Test.YtgomkhllhpghmabRef02
namespace Go.Proofs.Ytgomkhllhpghmab
open Go.RowKit

/-- block g is a reference Reader over the bytes bs, which came in at A -/
def YAt (w : World) (g : Nat) (A : Option Addr) (c : Nat) (bs : List Byte) (p : Nat) (bad : Bool) : Prop :=
  Cel w g 42 #[.slice A bs.length c, .int .i64 (p : Int), .bool bad] ∧ p ≤ 8 * bs.length
section
variable {w w' : World} {g : Nat} {A : Option Addr} {c : Nat} {bs : List Byte} {p : Nat} {bad : Bool} {S : List Nat}
theorem YAt.only (h : YAt w g A c bs p bad) (k : Only S w w') (hg : g ∉ S) : YAt w' g A c bs p bad := ⟨h.1.only k hg, h.2⟩
theorem YAt.draws (h : YAt w g A c bs p bad) (n : Nat) : YAt (w.drewN n) g A c bs p bad := h
theorem YAt.moved (h : YAt w g A c bs p bad) (q : Nat) (hq : q ≤ 8 * bs.length) : YAt (w.setCell ⟨g, 1, none⟩ (.int .i64 (q : Int))) g A c bs q bad := by
  have := h.1.put 1 (.int .i64 (q : Int))
  refine ⟨?_, hq⟩
  unfold Cel
  simpa [Cel] using this
theorem YAt.failed (h : YAt w g A c bs p bad) : YAt (w.setCell ⟨g, 2, none⟩ (.bool true)) g A c bs p true := by
  have := h.1.put 2 (.bool true)
  refine ⟨?_, h.2⟩
  unfold Cel
  simpa [Cel] using this
end

set_option maxHeartbeats 400000 in
theorem xleft_any (w : World) (g : Nat) (A : Option Addr) (c : Nat) (bs : List Byte) (p : Nat) (bad : Bool) (h : YAt w g A c bs p bad) (hL : bs.length < 1000000) :
    Calls Try.prog 23 #[.pointer (some ⟨g, 0, none⟩)] w fun e w' => e = .returned (.int .i64 (leftR bs p bad : Int)) ∧ ∃ n, w' = w.drewN n := by
  obtain ⟨hc, hp⟩ := h
  have c0 := hc.cell 0
  have c1 := hc.cell 1
  have c2 := hc.cell 2
  simp at c0 c1 c2
  clear hc
  cases bad with
  | true =>
    go_enter Try.func23, Try.ntmps23
    go_wp2
    go_ret
    exact ⟨rfl, 0, rfl⟩
  | false =>
    go_enter Try.func23, Try.ntmps23
    go_wp2
    go_quiet (fail)
    go_wp2
    go_ret
    exact ⟨ret_int (by unfold leftR; simp; omega), nq, rfl⟩

set_option maxHeartbeats 1000000 in
theorem xskip_any (w : World) (g : Nat) (A : Option Addr) (c : Nat) (bs : List Byte) (p : Nat) (bad : Bool) (k : Int) (h : YAt w g A c bs p bad) (hL : bs.length < 1000000) (hk : (Lit.int .i64 k).wf = true) :
    Calls Try.prog 19 #[.pointer (some ⟨g, 0, none⟩), .int .i64 k] w fun e w' => e = .returned (.tuple #[]) ∧ YAt w' g A c bs (skipP bs p bad k) (skipB bs p bad k) ∧ Only [g] w w' := by
  have hl := xleft_any w g A c bs p bad h hL
  have hb := i64_bounds hk
  have hp := h.2
  have c1 := h.1.cell 1
  have c2 := h.1.cell 2
  have f1 := h.1.free 1
  have f2 := h.1.free 2
  simp at c1 c2
  have hlt : 8 * bs.length < 8000000 := by omega
  by_cases hgood : bad = true ∨ k < 0 ∨ (leftR bs p bad : Int) < k
  · have hs : skipP bs p bad k = p ∧ skipB bs p bad k = true := by simp only [skipP, skipB, hgood, if_true, decide_true, and_self]
    rw [hs.1, hs.2]
    clear hs
    by_cases h0 : k < 0
    · clear hgood hl
      go_enter Try.func19, Try.ntmps19
      go_wp2
      go_end0
      exact ⟨rfl, h.failed, (Only.refl _ _).put (.inl (by simp)) _⟩
    · obtain ⟨q, hq⟩ : ∃ q, q = leftR bs p bad := ⟨_, rfl⟩
      rw [← hq] at hl hgood
      by_cases h1 : (q : Int) < k
      · clear hgood hq
        go_enter Try.func19, Try.ntmps19
        go_wp2_with (go_at_call 23; refine hl.mono ?_; rintro e w' ⟨rfl, a, rfl⟩)
        go_end0
        exact ⟨rfl, (h.draws a).failed, ((Only.refl _ _).draws a).put (.inl (by simp)) _⟩
      · have hbad : bad = true := by
          rcases hgood with h | h | h
          · exact h
          · exact absurd h h0
          · exact absurd h h1
        subst hbad
        clear hgood hq
        go_enter Try.func19, Try.ntmps19
        go_wp2_with (go_at_call 23; refine hl.mono ?_; rintro e w' ⟨rfl, a, rfl⟩)
        go_end0
        exact ⟨rfl, h.draws a, (Only.refl _ _).draws a⟩
  · have hs : skipP bs p bad k = p + k.toNat ∧ skipB bs p bad k = false := by simp only [skipP, skipB, hgood, if_false, decide_false, and_self]
    rw [hs.1, hs.2]
    clear hs
    have hbad : bad = false := by cases bad <;> simp at hgood ⊢
    subst hbad
    have hl2 : leftR bs p false = 8 * bs.length - p := rfl
    obtain ⟨q, hq⟩ : ∃ q, q = leftR bs p false := ⟨_, rfl⟩
    rw [← hq] at hl hgood
    have h0 : ¬ k < 0 := fun e => hgood (.inr (.inl e))
    have h1 : ¬ (q : Int) < k := fun e => hgood (.inr (.inr e))
    obtain ⟨K, rfl⟩ := Int.eq_ofNat_of_zero_le (Int.not_lt.1 h0)
    rw [Int.toNat_natCast]
    have hpk : p + K ≤ 8 * bs.length := by omega
    clear hgood hq hl2 h0
    go_enter Try.func19, Try.ntmps19
    go_wp2_with (go_at_call 23; refine hl.mono ?_; rintro e w' ⟨rfl, a, rfl⟩)
    go_end0
    exact ⟨rfl, (h.draws a).moved (p + K) hpk, ((Only.refl _ _).draws a).put (.inl (by simp)) _⟩

theorem num_step (bs : List Byte) (p j d : Nat) (x : Byte) (hd : d = (p + j) % 8) (hx : bs[(p + j) / 8]? = some x) :
    ((x.toNat : Int) / 2 ^ (7 - d)).tmod 2 = ((bitAt bs (p + j)).toNat : Int) := by
  subst hd
  have h1 := bitAt_byte bs (p + j) x hx
  have h2 : (x.toNat : Int) / 2 ^ (7 - (p + j) % 8) = ((x.toNat / 2 ^ (7 - (p + j) % 8) : Nat) : Int) := by
    rw [Int.natCast_ediv, Int.natCast_pow]; rfl
  rw [h2, Int.tmod_eq_emod_of_nonneg (Int.natCast_nonneg _)]
  omega

set_option maxHeartbeats 1000000 in
theorem xget_ok (w : World) (g : Nat) (A : Option Addr) (c : Nat) (bs : List Byte) (p k : Nat) (h : YAt w g A c bs p false) (hL : bs.length < 1000000) (hk : k ≤ 64) (hpk : p + k ≤ 8 * bs.length) (hbs : Bs w g A bs) :
    Calls Try.prog 21 #[.pointer (some ⟨g, 0, none⟩), .int .i64 (k : Int)] w fun e w' => e = .returned (.int .u64 (numAt bs p k : Int)) ∧ YAt w' g A c bs (p + k) false ∧ Only [g] w w' := by
  have hl := xleft_any w g A c bs p false h hL
  have hl2 : leftR bs p false = 8 * bs.length - p := rfl
  obtain ⟨q, hq⟩ : ∃ q, q = leftR bs p false := ⟨_, rfl⟩
  rw [← hq] at hl
  have hkq : k ≤ q := by omega
  have c2 := h.1.cell 2
  simp at c2
  have hg := h.1.lt
  clear hq hl2
  go_enter Try.func21, Try.ntmps21
  go_wp2_with (go_at_call 23; refine hl.mono ?_; rintro e w' ⟨rfl, a, rfl⟩)
  clear hl
  go_loopg [5, 6] k (fun j t i wr => ∃ m : Nat, m + j = k ∧ i = .int .i64 (m : Int) ∧ t = .int .u64 (numAt bs p m : Int) ∧ YAt wr g A c bs (p + m) false ∧ Only [g] w wr)
  case atStart => exact ⟨0, by omega, rfl, rfl, h.draws a, (Only.refl _ _).draws a⟩
  case round =>
    obtain ⟨m, hm, rfl, rfl, hY, hO⟩ := hrel
    by_cases hlt : m < k
    · obtain ⟨P, hP⟩ : ∃ P, P = p + m := ⟨_, rfl⟩
      rw [← hP] at hY
      have d0 := hY.1.cell 0
      have d1 := hY.1.cell 1
      have f1 := hY.1.free 1
      simp at d0 d1
      obtain ⟨E, hE⟩ : ∃ E, E = P / 8 := ⟨_, rfl⟩
      obtain ⟨d, hd⟩ : ∃ d, d = P % 8 := ⟨_, rfl⟩
      obtain ⟨b, off, rfl, hbg, hcell⟩ := (hbs.only hO (Nat.le_of_lt hg) (by simp)).at_ (k := E) (by omega)
      obtain ⟨x, hx⟩ : ∃ x, x = bs[E]'(by omega) := ⟨_, rfl⟩
      rw [← hx] at hcell
      have hx2 : bs[E]? = some x := by rw [hx]; exact List.getElem?_eq_getElem (by omega)
      have hd8 : d < 8 := by omega
      have hEm : (E : Int) < (bs.length : Int) := by omega
      have hE0 : (0 : Int) ≤ (E : Int) := Int.natCast_nonneg _
      have hPb : P < 8000000 := by omega
      have hdI : (P : Int) % 8 = (d : Int) := by omega
      have hEI : (P : Int) / 8 = (E : Int) := by omega
      have hnl := numAt_lt bs p (m + 1)
      have hpw : 2 ^ (m + 1) ≤ 2 ^ 64 := Nat.pow_le_pow_right (by decide) (by omega)
      have hns : numAt bs p (m + 1) = 2 * numAt bs p m + (bitAt bs (p + m)).toNat := rfl
      have hst := num_step bs p m d x (by rw [← hP]; exact hd) (by rw [← hP, ← hE]; exact hx2)
      obtain ⟨N, hN⟩ : ∃ N, N = numAt bs p m := ⟨_, rfl⟩
      rw [← hN] at hns
      rw [← hN]
      obtain ⟨y, hy⟩ : ∃ y, y = (bitAt bs (p + m)).toNat := ⟨_, rfl⟩
      rw [← hy] at hns hst
      have hy1 : y ≤ 1 := by rw [hy]; exact Bool.toNat_le _
      have hN2 : 2 * N + y < 18446744073709551616 := by omega
      have HB := Lib.hid (And.intro hP (And.intro hN (And.intro hy hns)))
      clear hP hE hd hx hx2 hN hy hns hnl hpw
      go_wp2
      go_quiet (fail)
      go_wp2
      go_roundg (gk - 1)
      case measure => omega
      case rel =>
        obtain ⟨hP, hN, hy, hns⟩ := HB.out
        have e1 : ((P : Int) + 1) = ((p + (m + 1) : Nat) : Int) := by omega
        have e2 : (2 * (N : Int) + (y : Int)) = ((numAt bs p (m + 1) : Nat) : Int) := by omega
        rw [e1, e2]
        exact ⟨m + 1, by omega, by go_num, rfl, (hY.draws nq).moved _ (by omega), (hO.draws nq).put (.inl (by simp)) _⟩
    · have hmk : m = k := by omega
      rw [hmk] at hY
      have HM := Lib.hid hmk
      clear hmk
      go_wp2
      go_ret
      exact ⟨ret_int (by rw [HM.out]), hY, hO⟩

set_option maxHeartbeats 1000000 in
theorem xget_any (w : World) (g : Nat) (A : Option Addr) (c : Nat) (bs : List Byte) (p : Nat) (bad : Bool) (k : Int) (h : YAt w g A c bs p bad) (hL : bs.length < 1000000) (hk : (Lit.int .i64 k).wf = true) (hbs : Bs w g A bs) :
    Calls Try.prog 21 #[.pointer (some ⟨g, 0, none⟩), .int .i64 k] w fun e w' => e = .returned (.int .u64 (getV bs p bad k : Int)) ∧ YAt w' g A c bs (getP bs p bad k) (getB bs p bad k) ∧ Only [g] w w' := by
  have hl := xleft_any w g A c bs p bad h hL
  have hb := i64_bounds hk
  have c2 := h.1.cell 2
  have f2 := h.1.free 2
  simp at c2
  by_cases hgood : getBad bs p bad k
  · have hs : getP bs p bad k = p ∧ getB bs p bad k = true ∧ getV bs p bad k = 0 := by simp [getP, getB, getV, hgood]
    rw [hs.1, hs.2.1, hs.2.2]
    clear hs
    unfold getBad at hgood
    by_cases h0 : k < 0
    · clear hgood hl
      go_enter Try.func21, Try.ntmps21
      go_wp2
      go_ret
      exact ⟨rfl, h.failed, (Only.refl _ _).put (.inl (by simp)) _⟩
    by_cases h6 : 64 < k
    · clear hgood hl
      go_enter Try.func21, Try.ntmps21
      go_wp2
      go_ret
      exact ⟨rfl, h.failed, (Only.refl _ _).put (.inl (by simp)) _⟩
    obtain ⟨q, hq⟩ : ∃ q, q = leftR bs p bad := ⟨_, rfl⟩
    rw [← hq] at hl hgood
    by_cases h1 : (q : Int) < k
    · clear hgood hq
      go_enter Try.func21, Try.ntmps21
      go_wp2_with (go_at_call 23; refine hl.mono ?_; rintro e w' ⟨rfl, a, rfl⟩)
      go_ret
      exact ⟨rfl, (h.draws a).failed, ((Only.refl _ _).draws a).put (.inl (by simp)) _⟩
    · have hbad : bad = true := by
        rcases hgood with h | h | h | h
        · exact h
        · exact absurd h h0
        · exact absurd h h6
        · exact absurd h h1
      subst hbad
      clear hgood hq
      go_enter Try.func21, Try.ntmps21
      go_wp2_with (go_at_call 23; refine hl.mono ?_; rintro e w' ⟨rfl, a, rfl⟩)
      go_ret
      exact ⟨rfl, h.draws a, (Only.refl _ _).draws a⟩
  · have hs : getP bs p bad k = p + k.toNat ∧ getB bs p bad k = false ∧ getV bs p bad k = numAt bs p k.toNat := by simp [getP, getB, getV, hgood]
    rw [hs.1, hs.2.1, hs.2.2]
    unfold getBad at hgood
    have hbad : bad = false := by cases bad <;> simp at hgood ⊢
    subst hbad
    have hl2 : leftR bs p false = 8 * bs.length - p := rfl
    have hp := h.2
    rw [hl2] at hgood
    simp at hgood
    obtain ⟨K, rfl⟩ := Int.eq_ofNat_of_zero_le hgood.1
    rw [Int.toNat_natCast]
    exact xget_ok w g A c bs p K h hL (by omega) (by omega) hbs
end Go.Proofs.Ytgomkhllhpghmab
