/-
  Package link: works, advance, Sent, Pending; what is nil or a zero value.
-/
import Derived.Test.YtllhdgllgoanbaaLnkW1
namespace Go.Proofs.Ytllhdgllgoanbaa.Lnk
open Go.RowKit Go.Proofs.Ytllhdgllgoanbaa.Row
open Rng (R)

section
variable {c : Cf} {Ao Al Af : Option Addr} {no co nl cl nf cf base g : Nat} {w w' : World} {v : Value} {ts : List Tq} {s : LS}
theorem LC.turn (h : LC w base g v ts c s Ao no co Al nl cl Af nf cf) (k : Only [g] w w') {t : Int} {n : Nat} (hc : Cel w' g 61 #[.bool true, I c.dl, .slice Ao no co, .slice Al nl cl, .slice Af nf cf, I t, I (n : Int), v]) :
    LC w' base g v ts c ⟨t, n, s.wt⟩ Ao no co Al nl cl Af nf cf := by
  have hq := h.kq (k.more (fun x hx => .inl (by simp at hx; simp [hx])))
  exact ⟨hc, h.ch.keep hq, Row.Os.only h.os k (fun i hi hm => h.off (by rw [hi, List.mem_singleton.1 hm])), h.tp, fun t ht => (h.dq t ht).keep hq, h.ok⟩

set_option maxHeartbeats 400000 in
theorem works_c {b : Bool} (h : w.cell? ⟨g, 0, none⟩ = some (.bool b)) :
    Calls Try.prog 24 #[.pointer (some ⟨g, 0, none⟩)] w fun e w' => e = .returned (.bool b) ∧ w = w' := by
  go_enter Try.func24, Try.ntmps24
  go_wp2
  go_ret
  exact ⟨rfl, rfl⟩
set_option maxHeartbeats 400000 in
theorem works_nil (w : World) : Calls Try.prog 24 #[.pointer none] w fun e w' => e = .returned (.bool false) ∧ w = w' := by
  go_enter Try.func24, Try.ntmps24
  go_wp2
  go_ret
  exact ⟨rfl, rfl⟩
theorem LC.works (h : LC w base g v ts c s Ao no co Al nl cl Af nf cf) : Calls Try.prog 24 #[.pointer (some ⟨g, 0, none⟩)] w fun e w' => e = .returned (.bool true) ∧ w = w' := works_c (h.cel.cell 0)

set_option maxHeartbeats 1000000 in
theorem adv_any (h : LC w base g v ts c s Ao no co Al nl cl Af nf cf) (now : Int) :
    Calls Try.prog 25 #[.pointer (some ⟨g, 0, none⟩), I now] w fun e w' => e = .returned (.tuple #[]) ∧ LC w' base g v ts c ⟨adv s.tm now, s.sn, s.wt⟩ Ao no co Al nl cl Af nf cf ∧ Only [g] w w' := by
  have c5 := h.cel.cell 5
  have f5 := h.cel.free 5
  simp at c5
  by_cases h1 : s.tm < now
  · have t1 := decide_eq_true h1
    by_cases h2 : now ≤ 1099511627776
    · have t2 := decide_eq_true h2
      have e : adv s.tm now = now := if_pos ⟨h1, h2⟩
      rw [e]
      have k : Only [g] w (w.setCell ⟨g, 5, none⟩ (I now)) := (Only.refl _ _).put (.inl (by simp)) _
      have H := Lib.hid (And.intro (h.turn (t := now) (n := s.sn) k (h.cel.put 5 (I now))) k)
      obtain ⟨t, hT⟩ : ∃ t, s.tm = t := ⟨_, rfl⟩
      rw [hT] at c5 t1
      clear h h1 h2 e k hT
      go_enter Try.func25, Try.ntmps25
      go_wp2
      go_end0
      exact ⟨rfl, H.out⟩
    · have t2 := decide_eq_false h2
      have e : adv s.tm now = s.tm := if_neg (fun q => h2 q.2)
      have H := Lib.hid (show LC w base g v ts c ⟨adv s.tm now, s.sn, s.wt⟩ Ao no co Al nl cl Af nf cf by rw [e]; exact h)
      obtain ⟨t, hT⟩ : ∃ t, s.tm = t := ⟨_, rfl⟩
      rw [hT] at c5 t1
      clear h h1 h2 e hT
      go_enter Try.func25, Try.ntmps25
      go_wp2
      go_end0
      exact ⟨rfl, H.out, Only.refl _ _⟩
  · have t1 := decide_eq_false h1
    have e : adv s.tm now = s.tm := if_neg (fun q => h1 q.1)
    have H := Lib.hid (show LC w base g v ts c ⟨adv s.tm now, s.sn, s.wt⟩ Ao no co Al nl cl Af nf cf by rw [e]; exact h)
    obtain ⟨t, hT⟩ : ∃ t, s.tm = t := ⟨_, rfl⟩
    rw [hT] at c5 t1
    clear h h1 e hT
    go_enter Try.func25, Try.ntmps25
    go_wp2
    go_end0
    exact ⟨rfl, H.out, Only.refl _ _⟩
end

section
variable {c : Cf} {base g : Nat} {r : Option Nat} {w : World} {s : LS}
set_option maxHeartbeats 400000 in
theorem sent_any (h : LW w base g r c s) : Calls Try.prog 17 #[.pointer (some ⟨g, 0, none⟩)] w fun e w' => e = .returned (I (s.sn : Int)) ∧ w = w' := by
  obtain ⟨v, ts, Ao, no, co, Al, nl, cl, Af, nf, cf, hc, _⟩ := h
  have hw := hc.works
  have c6 := hc.cel.cell 6
  simp at c6
  clear hc
  go_enter Try.func17, Try.ntmps17
  go_wp2_with fail
  refine hw.mono ?_
  rintro e w1 ⟨rfl, rfl⟩
  go_wp2
  go_ret
  exact ⟨rfl, rfl⟩
set_option maxHeartbeats 400000 in
theorem pend_any (h : LW w base g r c s) {n : Nat} (hn : s.wt.length = n) : Calls Try.prog 18 #[.pointer (some ⟨g, 0, none⟩)] w fun e w' => e = .returned (I (n : Int)) ∧ w = w' := by
  obtain ⟨v, ts, Ao, no, co, Al, nl, cl, Af, nf, cf, hc, _⟩ := h
  have hw := hc.works
  have c7 := hc.cel.cell 7
  obtain ⟨A, k, rfl, _⟩ := hc.os.reads_len encT_ok (hc.len.trans hn)
  simp at c7
  clear hc hn
  go_enter Try.func18, Try.ntmps18
  go_wp2_with fail
  refine hw.mono ?_
  rintro e w1 ⟨rfl, rfl⟩
  go_wp2
  go_ret
  exact ⟨rfl, rfl⟩
end

set_option maxHeartbeats 400000 in
theorem sent_nil (w : World) : Calls Try.prog 17 #[.pointer none] w fun e w' => e = .returned (I 0) ∧ w = w' := by
  have hw := works_nil w
  go_enter Try.func17, Try.ntmps17
  go_wp2_with fail
  refine hw.mono ?_
  rintro e w1 ⟨rfl, rfl⟩
  go_wp2
  go_ret
  exact ⟨rfl, rfl⟩
set_option maxHeartbeats 400000 in
theorem sent_zero {g : Nat} {w : World} (h : w.cell? ⟨g, 0, none⟩ = some (.bool false)) : Calls Try.prog 17 #[.pointer (some ⟨g, 0, none⟩)] w fun e w' => e = .returned (I 0) ∧ w = w' := by
  have hw := works_c h
  clear h
  go_enter Try.func17, Try.ntmps17
  go_wp2_with fail
  refine hw.mono ?_
  rintro e w1 ⟨rfl, rfl⟩
  go_wp2
  go_ret
  exact ⟨rfl, rfl⟩

set_option maxHeartbeats 400000 in
theorem pend_nil (w : World) : Calls Try.prog 18 #[.pointer none] w fun e w' => e = .returned (I 0) ∧ w = w' := by
  have hw := works_nil w
  go_enter Try.func18, Try.ntmps18
  go_wp2_with fail
  refine hw.mono ?_
  rintro e w1 ⟨rfl, rfl⟩
  go_wp2
  go_ret
  exact ⟨rfl, rfl⟩
set_option maxHeartbeats 400000 in
theorem pend_zero {g : Nat} {w : World} (h : w.cell? ⟨g, 0, none⟩ = some (.bool false)) : Calls Try.prog 18 #[.pointer (some ⟨g, 0, none⟩)] w fun e w' => e = .returned (I 0) ∧ w = w' := by
  have hw := works_c h
  clear h
  go_enter Try.func18, Try.ntmps18
  go_wp2_with fail
  refine hw.mono ?_
  rintro e w1 ⟨rfl, rfl⟩
  go_wp2
  go_ret
  exact ⟨rfl, rfl⟩

set_option maxHeartbeats 400000 in
theorem clone_nil (w : World) : Calls Try.prog 16 #[.pointer none] w fun e w' => e = .returned (.pointer none) ∧ w = w' := by
  have hw := works_nil w
  go_enter Try.func16, Try.ntmps16
  go_wp2_with fail
  refine hw.mono ?_
  rintro e w1 ⟨rfl, rfl⟩
  go_wp2
  go_ret
  exact ⟨rfl, rfl⟩
set_option maxHeartbeats 400000 in
theorem clone_zero {g : Nat} {w : World} (h : w.cell? ⟨g, 0, none⟩ = some (.bool false)) : Calls Try.prog 16 #[.pointer (some ⟨g, 0, none⟩)] w fun e w' => e = .returned (.pointer none) ∧ w = w' := by
  have hw := works_c h
  clear h
  go_enter Try.func16, Try.ntmps16
  go_wp2_with fail
  refine hw.mono ?_
  rintro e w1 ⟨rfl, rfl⟩
  go_wp2
  go_ret
  exact ⟨rfl, rfl⟩

set_option maxHeartbeats 400000 in
theorem send_nil (w : World) (now : Int) (a : Option Addr) (n c : Nat) : Calls Try.prog 11 #[.pointer none, I now, .slice a n c] w fun e w' => e = .returned (.int .i64 2) ∧ w = w' := by
  have hw := works_nil w
  go_enter Try.func11, Try.ntmps11
  go_wp2_with fail
  refine hw.mono ?_
  rintro e w1 ⟨rfl, rfl⟩
  go_wp2
  go_ret
  exact ⟨rfl, rfl⟩
set_option maxHeartbeats 400000 in
theorem send_zero {g : Nat} {w : World} (h : w.cell? ⟨g, 0, none⟩ = some (.bool false)) (now : Int) (a : Option Addr) (n c : Nat) : Calls Try.prog 11 #[.pointer (some ⟨g, 0, none⟩), I now, .slice a n c] w fun e w' => e = .returned (.int .i64 2) ∧ w = w' := by
  have hw := works_c h
  clear h
  go_enter Try.func11, Try.ntmps11
  go_wp2_with fail
  refine hw.mono ?_
  rintro e w1 ⟨rfl, rfl⟩
  go_wp2
  go_ret
  exact ⟨rfl, rfl⟩

set_option maxHeartbeats 400000 in
theorem recv_nil (w : World) (now : Int) : Calls Try.prog 13 #[.pointer none, I now] w fun e w' => e = .returned (.slice none 0 0) ∧ w = w' := by
  have hw := works_nil w
  go_enter Try.func13, Try.ntmps13
  go_wp2_with fail
  refine hw.mono ?_
  rintro e w1 ⟨rfl, rfl⟩
  go_wp2
  go_ret
  exact ⟨rfl, rfl⟩
set_option maxHeartbeats 400000 in
theorem recv_zero {g : Nat} {w : World} (h : w.cell? ⟨g, 0, none⟩ = some (.bool false)) (now : Int) : Calls Try.prog 13 #[.pointer (some ⟨g, 0, none⟩), I now] w fun e w' => e = .returned (.slice none 0 0) ∧ w = w' := by
  have hw := works_c h
  clear h
  go_enter Try.func13, Try.ntmps13
  go_wp2_with fail
  refine hw.mono ?_
  rintro e w1 ⟨rfl, rfl⟩
  go_wp2
  go_ret
  exact ⟨rfl, rfl⟩

end Go.Proofs.Ytllhdgllgoanbaa.Lnk
