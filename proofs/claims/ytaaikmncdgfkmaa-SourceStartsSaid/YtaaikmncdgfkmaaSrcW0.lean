/-
  Package source: works, open, advance, restart, forget, within, validConfig.
-/
import Derived.Test.YtaaikmncdgfkmaaSrcH
import Derived.Deep.QuietTactic
import Derived.BigQuiet
import Derived.BigRegion
namespace Go.Proofs.Ytaaikmncdgfkmaa.Src
open Go.RowKit
open Go.Proofs.Ytaaikmncdgfkmaa.Pdu (Pd)
open Go.Proofs.Ytaaikmncdgfkmaa.Rng (R)

section
variable {K : Kc} {s : SS} {A : Option Addr} {n c : Nat} {g : Nat} {w : World}
set_option maxHeartbeats 400000 in
theorem swithin_any (x a b : Int) (w : World) : Calls Try.prog 42 #[.int .i64 x, .int .i64 a, .int .i64 b] w fun e w' => e = .returned (.bool (decide (a ≤ x ∧ x ≤ b))) ∧ w = w' := by
  by_cases h1 : a ≤ x
  · by_cases h2 : x ≤ b
    · rw [decide_eq_true (And.intro h1 h2)]
      go_enter Try.func42, Try.ntmps42
      go_wp2
      go_ret
      exact ⟨rfl, rfl⟩
    · rw [decide_eq_false (fun h : a ≤ x ∧ x ≤ b => h2 h.2)]
      go_enter Try.func42, Try.ntmps42
      go_wp2
      go_ret
      exact ⟨rfl, rfl⟩
  · rw [decide_eq_false (fun h : a ≤ x ∧ x ≤ b => h1 h.1)]
    go_enter Try.func42, Try.ntmps42
    go_wp2
    go_ret
    exact ⟨rfl, rfl⟩
set_option maxHeartbeats 400000 in
theorem sworks_any (h : FC w g K s A n c) (h1 : 1 ≤ s.ph) :
    Calls Try.prog 25 #[.pointer (some ⟨g, 0, none⟩)] w fun e w' => e = .returned (.bool true) ∧ w = w' := by
  have c8 := h.c8
  have z1 : (s.ph != 0) = true := by simp; omega
  have z2 : (s.ph == 0) = false := by simp; omega
  clear h
  go_enter Try.func25, Try.ntmps25
  go_wp2
  go_ret
  exact ⟨rfl, rfl⟩
/-- a nil pointer, a sending end that New did not return -/
def Idle (w : World) (p : Value) : Prop := p = .pointer none ∨ ∃ g, p = .pointer (some ⟨g, 0, none⟩) ∧ w.cell? ⟨g, 8, none⟩ = some (.int .i64 0)
set_option maxHeartbeats 400000 in
theorem sworks_idle (w : World) (p : Value) (h : Idle w p) :
    Calls Try.prog 25 #[p] w fun e w' => e = .returned (.bool false) ∧ w = w' := by
  rcases h with rfl | ⟨g, rfl, c0⟩
  · go_enter Try.func25, Try.ntmps25
    go_wp2
    go_ret
    exact ⟨rfl, rfl⟩
  · go_enter Try.func25, Try.ntmps25
    go_wp2
    go_ret
    exact ⟨rfl, rfl⟩
set_option maxHeartbeats 400000 in
theorem sopen_any (h : FC w g K s A n c) :
    Calls Try.prog 29 #[.pointer (some ⟨g, 0, none⟩)] w fun e w' => e = .returned (.bool s.opn) ∧ w = w' := by
  have c8 := h.c8
  clear h
  obtain ⟨ph, hp⟩ : ∃ ph, ph = s.ph := ⟨_, rfl⟩
  unfold SS.opn
  rw [← hp] at c8 ⊢
  clear hp
  by_cases h1 : ph = 1
  · subst h1
    rw [show decide ((1 : Int) = 1 ∨ (1 : Int) = 2) = true from rfl]
    go_enter Try.func29, Try.ntmps29
    go_wp2
    go_ret
    exact ⟨rfl, rfl⟩
  by_cases h2 : ph = 2
  · subst h2
    rw [show decide ((2 : Int) = 1 ∨ (2 : Int) = 2) = true from rfl]
    go_enter Try.func29, Try.ntmps29
    go_wp2
    go_ret
    exact ⟨rfl, rfl⟩
  rw [decide_eq_false (by omega)]
  have z1 : (ph == 1) = false := by simpa using h1
  have z2 : (ph == 2) = false := by simpa using h2
  clear h1 h2
  go_enter Try.func29, Try.ntmps29
  go_wp2
  go_ret
  exact ⟨rfl, rfl⟩
set_option maxHeartbeats 1000000 in
theorem sadvance_any (h : FX w g K s A n c) (m : Int) :
    Calls Try.prog 26 #[.pointer (some ⟨g, 0, none⟩), .int .i64 m] w fun e w' => e = .returned (.tuple #[]) ∧ FX w' g K (adv m s) A n c ∧ Only [g] w w' := by
  have c19 := h.cel.c19
  have f19 := h.cel.free 19
  by_cases h1 : s.nw < m
  · by_cases h2 : m ≤ 1099511627776
    · rw [show adv m s = { s with nw := m } from if_pos ⟨h1, h2⟩]
      have HE := Lib.hid (And.intro (FX.mk (h.cel.nw m) (h.q.keep (h.cel.kr_put 19 _))) (put_only w g 19 (.int .i64 m)))
      obtain ⟨q, hq⟩ : ∃ q, q = s.nw := ⟨_, rfl⟩
      rw [← hq] at c19 h1
      clear h hq
      go_enter Try.func26, Try.ntmps26
      go_wp2
      go_end0
      exact ⟨rfl, HE.out⟩
    · rw [show adv m s = s from if_neg (fun k => h2 k.2)]
      have HE := Lib.hid h
      obtain ⟨q, hq⟩ : ∃ q, q = s.nw := ⟨_, rfl⟩
      rw [← hq] at c19 h1
      clear h hq
      go_enter Try.func26, Try.ntmps26
      go_wp2
      go_end0
      exact ⟨rfl, HE.out, Only.refl _ _⟩
  · rw [show adv m s = s from if_neg (fun k => h1 k.1)]
    have HE := Lib.hid h
    obtain ⟨q, hq⟩ : ∃ q, q = s.nw := ⟨_, rfl⟩
    rw [← hq] at c19 h1
    clear h hq
    go_enter Try.func26, Try.ntmps26
    go_wp2
    go_end0
    exact ⟨rfl, HE.out, Only.refl _ _⟩
set_option maxHeartbeats 1000000 in
theorem srestart_any (h : FX w g K s A n c) :
    Calls Try.prog 50 #[.pointer (some ⟨g, 0, none⟩)] w fun e w' => e = .returned (.tuple #[]) ∧ FX w' g K { s with ti := s.nw, re := 0 } A n c ∧ Only [g] w w' := by
  have c19 := h.cel.c19
  have c17 := h.cel.c17
  have c18 := h.cel.c18
  have f17 := h.cel.free 17
  have f18 := h.cel.free 18
  have o := only_then (put_only w g 17 (.int .i64 s.nw)) (put_only _ g 18 (.int .i64 0))
  have HE' := And.intro (FX.mk ((h.cel.ti s.nw).re 0) (h.q.keep (h.cel.kr o))) o
  obtain ⟨q, hq⟩ : ∃ q, q = s.nw := ⟨_, rfl⟩
  rw [← hq] at c19 HE' ⊢
  have HE := Lib.hid HE'
  clear h hq o HE'
  go_enter Try.func50, Try.ntmps50
  go_wp2
  go_end0
  exact ⟨rfl, HE.out⟩
set_option maxHeartbeats 1000000 in
theorem sforget_any (h : FX w g K s A n c) :
    Calls Try.prog 53 #[.pointer (some ⟨g, 0, none⟩)] w fun e w' => e = .returned (.tuple #[]) ∧ FX w' g K { s with mr := false, rq := [] } none 0 0 ∧ Only [g] w w' := by
  have c13 := h.cel.c13
  have c14 := h.cel.c14
  have f13 := h.cel.free 13
  have f14 := h.cel.free 14
  have o := only_then (put_only w g 13 (.bool false)) (put_only _ g 14 (.slice none 0 0))
  have HE := Lib.hid (And.intro (FX.mk ((h.cel.mr false).rq [] none 0 0) (Gq.zero _)) o)
  clear h o
  go_enter Try.func53, Try.ntmps53
  go_wp2
  go_end0
  exact ⟨rfl, HE.out⟩
end
set_option maxHeartbeats 2000000 in
theorem sconfig_any (ch tt rt : Int) (w : World) : Calls Try.prog 22 #[.agg #[.int .i64 ch, .int .i64 tt, .int .i64 rt]] w fun e w' => e = .returned (.bool (cfg ch tt rt)) ∧ Below w.heap.size w w' := by
  have u1 := fun W => swithin_any ch 1 512 W
  have u2 := fun W => swithin_any tt 1 1048576 W
  have u3 := fun W => swithin_any rt 0 255 W
  have hb0 := bel_new w (.cells #[.int .i64 ch, .int .i64 tt, .int .i64 rt] 26)
  have e : cfg ch tt rt = (decide (1 ≤ ch ∧ ch ≤ 512) && (decide (1 ≤ tt ∧ tt ≤ 1048576) && decide (0 ≤ rt ∧ rt ≤ 255))) := by
    unfold cfg
    rw [Bool.eq_iff_iff]
    simp only [Bool.and_eq_true, decide_eq_true_eq]
  rw [e]
  clear e
  obtain ⟨D1, h1⟩ : ∃ D, decide (1 ≤ ch ∧ ch ≤ 512) = D := ⟨_, rfl⟩
  obtain ⟨D2, h2⟩ : ∃ D, decide (1 ≤ tt ∧ tt ≤ 1048576) = D := ⟨_, rfl⟩
  obtain ⟨D3, h3⟩ : ∃ D, decide (0 ≤ rt ∧ rt ≤ 255) = D := ⟨_, rfl⟩
  rw [h1, h2, h3]
  rw [h1] at u1
  rw [h2] at u2
  rw [h3] at u3
  clear h1 h2 h3
  cases D1 with
  | false =>
    rw [Bool.false_and]
    go_enter Try.func22, Try.ntmps22
    go_wp2_with fail
    refine (u1 _).mono ?_
    rintro e w1 ⟨rfl, rfl⟩
    go_wp2
    go_ret
    exact ⟨rfl, hb0⟩
  | true =>
    rw [Bool.true_and]
    cases D2 with
    | false =>
      rw [Bool.false_and]
      go_enter Try.func22, Try.ntmps22
      go_wp2_with fail
      refine (u1 _).mono ?_
      rintro e w1 ⟨rfl, rfl⟩
      go_wp2_with fail
      refine (u2 _).mono ?_
      rintro e w1 ⟨rfl, rfl⟩
      go_wp2
      go_ret
      exact ⟨rfl, hb0⟩
    | true =>
      rw [Bool.true_and]
      go_enter Try.func22, Try.ntmps22
      go_wp2_with fail
      refine (u1 _).mono ?_
      rintro e w1 ⟨rfl, rfl⟩
      go_wp2_with fail
      refine (u2 _).mono ?_
      rintro e w1 ⟨rfl, rfl⟩
      go_wp2_with fail
      refine (u3 _).mono ?_
      rintro e w1 ⟨rfl, rfl⟩
      go_wp2
      go_ret
      exact ⟨rfl, hb0⟩
end Go.Proofs.Ytaaikmncdgfkmaa.Src
