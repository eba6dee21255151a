/-
  The walks of package octets' Reader: Blob; a nil Reader and a zero value.
-/
import Derived.Test.YtjjfamkljcipgaaOctR1
namespace Go.Proofs.Ytjjfamkljcipgaa
open Go.RowKit

set_option maxHeartbeats 1000000 in
theorem orblob_ok (w : World) (B g : Nat) (st : Option (List Byte)) (m : List Byte) (n : Nat) (most : Int) (hL : lftO st < 1000000) (h : OR w B g st) (hc : rd 0 (fun l => tkC l most) st = ((n : Int), some m)) (hn : n ≤ m.length) (hm : m.length < 1000000) :
    Calls Try.prog 69 #[.pointer (some ⟨g, 0, none⟩), .int .i64 most] w fun e w' => (∃ v s, e = .returned v ∧ Ow w' s 5 v (m.take n)) ∧ OR w' B g (some (m.drop n)) ∧ Only [g] w w' := by
  have hi := orcount_any w B g st most h hL
  rw [hc] at hi
  clear hc h hL
  go_enter Try.func69, Try.ntmps69
  go_wp2_with fail
  refine hi.mono ?_
  rintro e w1 ⟨rfl, hR, hO⟩
  clear hi
  go_wp2_with fail
  refine (orWorks _ B g _ hR).mono ?_
  rintro e w2 ⟨rfl, rfl⟩
  obtain ⟨c, A, c2⟩ : ∃ c A, w1.cell? ⟨g, 2, none⟩ = some (.slice A m.length c) := by
    obtain ⟨A, l, c, hc, _, _, _, _, _, _, hm⟩ := hR
    obtain rfl := hm m rfl
    have c2 := hc.cell 2
    simp at c2
    exact ⟨c, A, c2⟩
  have hnm : ¬ ((m.length : Int) < (n : Int)) := by omega
  have hnm2 : decide ((m.length : Int) < (n : Int)) = false := decide_eq_false hnm
  have ht := orTake w1 B g m n (n : Int) rfl hR hn
  clear hR
  go_wp2_with (first
    | (go_at_call 71; refine ht.mono ?_; rintro e w3 ⟨A1, c1, rfl, hb, hn1, h1, h2, hR, hO3⟩)
    | (go_at_call 48; refine (clone_any A1 (m.take n) _ c1 _ (Lib.hid (List.length_take_of_le hn)) (hb.more (by have := hR.lt; omega)) hn1 (by omega)).mono ?_; rintro e w4 ⟨v, rfl, hown, hbel⟩))
  go_ret
  exact ⟨⟨v, _, rfl, hown⟩, hR.below hbel, (hO.trans hO3 (by simp)).trans (Only.of_below (S := []) hbel) (by simp)⟩

set_option maxHeartbeats 1000000 in
theorem orblob_long (w : World) (B g : Nat) (st : Option (List Byte)) (m : List Byte) (n : Int) (most : Int) (hL : lftO st < 1000000) (h : OR w B g st) (hc : rd 0 (fun l => tkC l most) st = (n, some m)) (hn : (m.length : Int) < n) :
    Calls Try.prog 69 #[.pointer (some ⟨g, 0, none⟩), .int .i64 most] w fun e w' => e = .returned (.slice none 0 0) ∧ OR w' B g none ∧ Only [g] w w' := by
  have hi := orcount_any w B g st most h hL
  rw [hc] at hi
  clear hc h hL
  go_enter Try.func69, Try.ntmps69
  go_wp2_with fail
  refine hi.mono ?_
  rintro e w1 ⟨rfl, hR, hO⟩
  clear hi
  go_wp2_with fail
  refine (orWorks _ B g _ hR).mono ?_
  rintro e w2 ⟨rfl, rfl⟩
  obtain ⟨c, A, c2⟩ : ∃ c A, w1.cell? ⟨g, 2, none⟩ = some (.slice A m.length c) := by
    obtain ⟨A, l, c, hc, _, _, _, _, _, _, hm⟩ := hR
    obtain rfl := hm m rfl
    have c2 := hc.cell 2
    simp at c2
    exact ⟨c, A, c2⟩
  obtain ⟨f1, c1⟩ := hR.flag
  go_wp2
  go_ret
  exact ⟨rfl, hR.failed, hO.put (.inl (by simp)) _⟩

set_option maxHeartbeats 1000000 in
theorem orblob_dead (w : World) (B g : Nat) (st : Option (List Byte)) (n most : Int) (hL : lftO st < 1000000) (h : OR w B g st) (hc : rd 0 (fun l => tkC l most) st = (n, none)) :
    Calls Try.prog 69 #[.pointer (some ⟨g, 0, none⟩), .int .i64 most] w fun e w' => e = .returned (.slice none 0 0) ∧ OR w' B g none ∧ Only [g] w w' := by
  have hi := orcount_any w B g st most h hL
  rw [hc] at hi
  clear hc h hL
  go_enter Try.func69, Try.ntmps69
  go_wp2_with (first
    | (go_at_call 74; refine hi.mono ?_; rintro e w1 ⟨rfl, hR, hO⟩)
    | (go_at_call 60; refine (orWorks _ B g _ hR).mono ?_; rintro e w2 ⟨rfl, rfl⟩))
  go_ret
  exact ⟨rfl, hR, hO⟩

theorem orblob_any (w : World) (B g : Nat) (st : Option (List Byte)) (most : Int) (h : OR w B g st) (hL : lftO st < 1000000) :
    Calls Try.prog 69 #[.pointer (some ⟨g, 0, none⟩), .int .i64 most] w fun e w' => (∃ v s, e = .returned v ∧ Ow w' s 5 v (rd [] (fun l => tkB l most) st).1) ∧ OR w' B g (rd [] (fun l => tkB l most) st).2 ∧ Only [g] w w' := by
  cases st with
  | none =>
    refine (orblob_dead w B g none 0 most hL h rfl).mono fun e w' ⟨h1, h2, h3⟩ => ⟨⟨_, 0, h1, World.ownsRow_nil _ _ _ _⟩, h2, h3⟩
  | some l =>
    have hl : l.length < 1000000 := hL
    cases hc : tkC l most with
    | none =>
      have hb : tkB l most = none := by unfold tkB; rw [hc]; rfl
      rw [rd_bad hb]
      exact (orblob_dead w B g (some l) 0 most hL h (rd_bad hc)).mono fun e w' ⟨h1, h2, h3⟩ => ⟨⟨_, 0, h1, World.ownsRow_nil _ _ _ _⟩, h2, h3⟩
    | some p =>
      obtain ⟨n, k⟩ := p
      obtain ⟨ht, hn0, _⟩ := tkC_some hc
      have hk := (tkI_some ht).2.2.2.1
      obtain ⟨N, rfl⟩ := Int.eq_ofNat_of_zero_le hn0
      by_cases hlen : (l.length : Int) - (k : Int) < (N : Int)
      · have hb : tkB l most = none := by unfold tkB; rw [hc]; simp only [Option.bind_some]; rw [if_pos hlen]
        rw [rd_bad hb]
        exact (orblob_long w B g (some l) (l.drop k) N most hL h (rd_ok hc) (by rw [List.length_drop]; omega)).mono fun e w' ⟨h1, h2, h3⟩ => ⟨⟨_, 0, h1, World.ownsRow_nil _ _ _ _⟩, h2, h3⟩
      · have hb : tkB l most = some ((l.drop k).take N, k + N) := by unfold tkB; rw [hc]; simp only [Option.bind_some]; rw [if_neg hlen, Int.toNat_natCast]
        rw [rd_ok hb, ← List.drop_drop]
        exact orblob_ok w B g (some l) (l.drop k) N most hL h (rd_ok hc) (by rw [List.length_drop]; omega) (by rw [List.length_drop]; omega)

/-! ### nil and zero -/
def ZOR (w : World) (g : Nat) : Prop := Cel w g 74 #[.bool false, .bool false, .slice none 0 0]
set_option maxHeartbeats 400000 in
theorem or_works_zero (w : World) (g : Nat) (h : ZOR w g) : Calls Try.prog 60 #[.pointer (some ⟨g, 0, none⟩)] w fun e w' => e = .returned (.bool false) ∧ w = w' := by
  have c0 := Cel.cell h 0
  simp at c0
  go_enter Try.func60, Try.ntmps60
  go_wp2
  go_ret
  exact ⟨rfl, rfl⟩
/-- a pointer whose Reader does not work -/
def Idle3 (w : World) (a : Option Addr) : Prop := a = none ∨ ∃ g, a = some ⟨g, 0, none⟩ ∧ ZOR w g
theorem or_works_idle {w : World} {a : Option Addr} (h : Idle3 w a) : Calls Try.prog 60 #[.pointer a] w fun e w' => e = .returned (.bool false) ∧ w = w' := by
  rcases h with rfl | ⟨g, rfl, h⟩
  · exact or_works_nil w
  · exact or_works_zero w g h
set_option maxHeartbeats 400000 in
theorem or_left_idle {w : World} {a : Option Addr} (h : Idle3 w a) : Calls Try.prog 40 #[.pointer a] w fun e w' => e = .returned (.int .i64 0) ∧ w = w' := by
  go_enter Try.func40, Try.ntmps40
  go_wp2_with (go_at_call 60; refine (or_works_idle h).mono ?_; rintro e w' ⟨rfl, rfl⟩)
  go_ret
  exact ⟨rfl, rfl⟩
end Go.Proofs.Ytjjfamkljcipgaa
