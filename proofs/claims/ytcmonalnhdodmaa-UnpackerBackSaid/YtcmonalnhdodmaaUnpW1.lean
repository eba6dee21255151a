/-
  Package unpacker: fits, idle.
-/
import Derived.Test.YtcmonalnhdodmaaUnpW0
import Derived.Test.YtcmonalnhdodmaaCat
namespace Go.Proofs.Ytcmonalnhdodmaa.Unp
open Go.RowKit
open Pac (bel_new siE siN tot size_any decode_any deE deP deN siE_good siE_zero siE_short)

theorem w64_small {Q : Nat} (h : Q ≤ 1000000) : wrap64 (Q : Int) = (Q : Int) := by unfold wrap64; omega
theorem concat_rd {w : World} {A1 A2 : Option Addr} {l1 l2 : List Byte} {n1 n2 c1 c2 Bp N : Nat} (h1 : Rd w A1 l1 n1 c1) (h2 : Rd w A2 l2 n2 c2) (b1 : n1 ≤ 1000000) (b2 : n2 ≤ 1000000) (h0 : 0 < n1) (hN : n1 + n2 = N) (hp : Cel w Bp 26 #[.slice A1 n1 c1, .slice A2 n2 c2]) :
    Calls Try.prog 48 #[.slice (some ⟨Bp, 0, none⟩) 2 2] w fun e w' => ∃ A c, e = .returned (.slice A N c) ∧ Rd w' A (l1 ++ l2) N c ∧ Below w.heap.size w w' := by
  obtain ⟨e1, q1, q2, _⟩ := h1
  obtain ⟨e2, r1, r2, _⟩ := h2
  subst e1 e2
  refine (Cat.concat_any l1 l2 w A1 A2 c1 c2 Bp q1 q2 r1 r2 (by omega) (by omega) h0 hp).mono ?_
  rintro e w' ⟨v, rfl, o, b⟩
  obtain ⟨A, c, rfl, hr⟩ := Rd.of (n := N) o (by rw [List.length_append]; exact hN)
  exact ⟨A, c, rfl, hr, b⟩

section
variable {w : World} {g n c : Nat} {s : US} {A : Option Addr} {F : List Nat}
set_option maxHeartbeats 2000000 in
theorem ufits_uc (h : UC w g s A n c) (hok : Rok s.rs) (h0 : 0 < n) (f : Int) {a : Option Addr} {d : List Byte} {m cd : Nat} (hd : Rd w a d m cd) (hm : m ≤ 1000000) :
    Calls Try.prog 29 #[.pointer (some ⟨g, 0, none⟩), .int .i64 f, .slice a m cd] w fun e w' => e = .returned (.bool (fts s.rs f d)) ∧ Below w.heap.size w w' := by
  have hl := h.m.1
  have hlen := hok.len
  have hdl := hd.len
  have hr := Md.rd h.m
  obtain ⟨k1, hk1⟩ : ∃ k1, k1 = min n 6 := ⟨_, rfl⟩
  obtain ⟨k2, hk2⟩ : ∃ k2, k2 = min m 6 := ⟨_, rfl⟩
  have x1 := fun W => ubegin_any A n c k1 W hk1 hr.le
  have x2 := fun W => ubegin_any a m cd k2 W hk2 hd.le
  have q1 : s.rs.take k1 = s.rs.take 6 := by
    by_cases hq : 6 ≤ n
    · rw [show k1 = 6 by omega]
    · rw [List.take_of_length_le (by omega), List.take_of_length_le (by omega)]
  have q2 : d.take k2 = d.take 6 := by
    by_cases hq : 6 ≤ m
    · rw [show k2 = 6 by omega]
    · rw [List.take_of_length_le (by omega), List.take_of_length_le (by omega)]
  have r1 := Rd.head hr k1 (by omega)
  have r2 := Rd.head hd k2 (by omega)
  rw [q1] at r1
  rw [q2] at r2
  obtain ⟨W1, hW1⟩ : ∃ W1, W1 = w.alloc (.cells #[.slice A k1 c, .slice a k2 cd] 26) := ⟨_, rfl⟩
  have b1 : Below w.heap.size w W1 := by rw [hW1]; exact bel_new _ _
  have hp1 : Cel W1 w.heap.size 26 #[.slice A k1 c, .slice a k2 cd] := by rw [hW1]; exact Cel.new _ _ _
  obtain ⟨K, hK⟩ : ∃ K, k1 + k2 = K := ⟨_, rfl⟩
  have x3 := concat_rd (r1.later b1) (r2.later b1) (by omega) (by omega) (by omega) hK hp1
  obtain ⟨e1, e2⟩ := si_app (r := s.rs) (d := d)
  have c4 := h.u.cell 4
  have hgl := h.u.lt
  simp at c4
  have hsh := hok.short (d := d)
  obtain ⟨E, hE⟩ : ∃ E, siE (s.rs ++ d) = E := ⟨_, rfl⟩
  obtain ⟨N, hN⟩ : ∃ N, siN (s.rs ++ d) = N := ⟨_, rfl⟩
  rw [hE] at e1
  rw [hN] at e2
  have x4 : ∀ A3 c3 W, Rd W A3 (s.rs.take 6 ++ d.take 6) K c3 → Calls Try.prog 47 #[.slice A3 K c3] W fun e w' => e = .returned (.tuple #[.int .i64 (N : Int), .int .i64 E]) ∧ Below W.heap.size W w' := fun A3 c3 W hW => by
    have := size_any A3 _ K c3 W (Lib.hid hW.len) hW.bs hW.nil hW.le hW.max
    rw [e1, e2] at this
    exact this
  have hcase := siE_cases (s.rs ++ d)
  rw [hE] at hcase
  by_cases h3 : E = 3
  · have ef : fts s.rs f d = (f == 2047) := by unfold fts; rw [hE, if_pos h3]; rfl
    rw [ef]
    obtain ⟨t, ht⟩ : ∃ t, (f == 2047) = t := ⟨_, rfl⟩
    rw [ht]
    subst h3
    clear h hok hl hlen hdl hr r1 r2 q1 q2 hp1 e1 e2 hE hN hcase ef hsh hk1 hk2 hK hd
    go_enter Try.func29, Try.ntmps29
    go_wp2_with fail
    refine (x1 _).mono ?_
    rintro e w1 ⟨rfl, rfl⟩
    go_wp2_with fail
    refine (x2 _).mono ?_
    rintro e w1 ⟨rfl, rfl⟩
    go_wp2_with fail
    rw [← hW1]
    refine x3.mono ?_
    rintro e w3 ⟨A3, c3, rfl, r3, b3⟩
    go_wp2_with fail
    refine (x4 _ _ _ r3).mono ?_
    rintro e w4 ⟨rfl, b4⟩
    go_wp2
    go_ret
    have b13 := b1.trans (b3.mono b1.size)
    exact ⟨rfl, b13.trans (b4.mono b13.size)⟩
  · have t3 : (E == 3) = false := by simpa using h3
    by_cases hz : E = 0
    · subst hz
      have hg := siE_zero hE
      have hN2 : N = tot (s.rs ++ d) := by rw [← hN, (siE_good hg.1 hg.2.1 hg.2.2).2]
      rw [← hN2] at hsh
      obtain ⟨Q, hQ⟩ : ∃ Q, N - n = Q := ⟨_, rfl⟩
      have hQ1 : (N : Int) - (n : Int) = (Q : Int) := by omega
      have hQb : Q ≤ 4096 := by have := hg.2.2; omega
      have t4 : ((0 : Int) != 0) = false := by decide
      have t4' : ((0 : Int) == 3) = false := by decide
      by_cases hf : m ≤ Q
      · have ef : fts s.rs f d = (f == 2047) := by
          unfold fts
          rw [hE, if_neg h3, if_neg (fun k => k rfl), ← hN2, if_pos (by rw [List.length_append]; omega)]
          rfl
        rw [ef]
        obtain ⟨t, ht⟩ : ∃ t, (f == 2047) = t := ⟨_, rfl⟩
        rw [ht]
        have hQ2 : wrap64 (Q : Int) = (Q : Int) := w64_small (by omega)
        have t5 : decide ((m : Int) ≤ (Q : Int)) = true := by simpa using hf
        have t5' : decide (m ≤ Q) = true := by simpa using hf
        clear h hok hl hlen hdl hr r1 r2 q1 q2 hp1 e1 e2 hE hN hcase ef hsh hk1 hk2 hK hd hg hN2 hQ hf h3 t3
        go_enter Try.func29, Try.ntmps29
        go_wp2_with fail
        refine (x1 _).mono ?_
        rintro e w1 ⟨rfl, rfl⟩
        go_wp2_with fail
        refine (x2 _).mono ?_
        rintro e w1 ⟨rfl, rfl⟩
        go_wp2_with fail
        rw [← hW1]
        refine x3.mono ?_
        rintro e w3 ⟨A3, c3, rfl, r3, b3⟩
        go_wp2_with fail
        refine (x4 _ _ _ r3).mono ?_
        rintro e w4 ⟨rfl, b4⟩
        have b13 := b1.trans (b3.mono b1.size)
        have b14 := b13.trans (b4.mono b13.size)
        have d4 := (b14.cell (p := ⟨g, 4, none⟩) hgl).trans c4
        have HB := Lib.hid b14
        clear c4 b1 b3 b4 b13 b14 r3
        go_wp2
        go_ret
        exact ⟨rfl, HB.out⟩
      · have ef : fts s.rs f d = (f == (Q : Int)) := by
          unfold fts
          rw [hE, if_neg h3, if_neg (fun k => k rfl), ← hN2, if_neg (by rw [List.length_append]; omega), hl, hQ]
          rfl
        rw [ef]
        obtain ⟨t, ht⟩ : ∃ t, (f == (Q : Int)) = t := ⟨_, rfl⟩
        rw [ht]
        have hQ2 : wrap64 (Q : Int) = (Q : Int) := w64_small (by omega)
        have t5 : decide ((m : Int) ≤ (Q : Int)) = false := by simpa using hf
        have t5' : decide (m ≤ Q) = false := by simpa using hf
        clear h hok hl hlen hdl hr r1 r2 q1 q2 hp1 e1 e2 hE hN hcase ef hsh hk1 hk2 hK hd hg hN2 hQ hf h3 t3
        go_enter Try.func29, Try.ntmps29
        go_wp2_with fail
        refine (x1 _).mono ?_
        rintro e w1 ⟨rfl, rfl⟩
        go_wp2_with fail
        refine (x2 _).mono ?_
        rintro e w1 ⟨rfl, rfl⟩
        go_wp2_with fail
        rw [← hW1]
        refine x3.mono ?_
        rintro e w3 ⟨A3, c3, rfl, r3, b3⟩
        go_wp2_with fail
        refine (x4 _ _ _ r3).mono ?_
        rintro e w4 ⟨rfl, b4⟩
        have b13 := b1.trans (b3.mono b1.size)
        have b14 := b13.trans (b4.mono b13.size)
        have d4 := (b14.cell (p := ⟨g, 4, none⟩) hgl).trans c4
        have HB := Lib.hid b14
        clear c4 b1 b3 b4 b13 b14 r3
        go_wp2
        go_ret
        exact ⟨rfl, HB.out⟩
    · have ef : fts s.rs f d = false := by unfold fts; rw [hE, if_neg h3, if_pos hz]
      rw [ef]
      have t4 : (E != 0) = true := by simpa using hz
      clear h hok hl hlen hdl hr r1 r2 q1 q2 hp1 e1 e2 hE hN hcase ef hsh hk1 hk2 hK hd h3 hz
      go_enter Try.func29, Try.ntmps29
      go_wp2_with fail
      refine (x1 _).mono ?_
      rintro e w1 ⟨rfl, rfl⟩
      go_wp2_with fail
      refine (x2 _).mono ?_
      rintro e w1 ⟨rfl, rfl⟩
      go_wp2_with fail
      rw [← hW1]
      refine x3.mono ?_
      rintro e w3 ⟨A3, c3, rfl, r3, b3⟩
      go_wp2_with fail
      refine (x4 _ _ _ r3).mono ?_
      rintro e w4 ⟨rfl, b4⟩
      go_wp2
      go_ret
      have b13 := b1.trans (b3.mono b1.size)
      exact ⟨rfl, b13.trans (b4.mono b13.size)⟩
end

set_option maxHeartbeats 1000000 in
theorem uidle_rd (w : World) (a : Option Addr) (l : List Byte) (n c : Nat) (h : Rd w a l n c) {b : Bool} (hb : (!decide (deE l = 0) || decide ((deP l).ap = 2047)) = b) :
    Calls Try.prog 50 #[.slice a n c] w fun e w' => e = .returned (.bool b) ∧ Below w.heap.size w w' := by
  have hd := decode_any a l n c w (Lib.hid h.len) h.bs h.nil h.le h.max
  obtain ⟨N, hN⟩ : ∃ N, deN l = N := ⟨_, rfl⟩
  obtain ⟨E, hE⟩ : ∃ E, deE l = E := ⟨_, rfl⟩
  obtain ⟨P, hP⟩ : ∃ P, deP l = P := ⟨_, rfl⟩
  obtain ⟨com, sec, ap, fl, ct, d⟩ := P
  rw [hN, hE, hP] at hd
  rw [hE, hP] at hb
  by_cases h1 : E = 0
  · have t1 : (E != 0) = false := by simpa using h1
    have e : b = (ap == 2047) := by rw [← hb, decide_eq_true h1]; rfl
    subst e
    obtain ⟨t, ht⟩ : ∃ t, (ap == 2047) = t := ⟨_, rfl⟩
    rw [ht]
    clear h hN hE hP h1 hb
    go_enter Try.func50, Try.ntmps50
    go_wp2_with fail
    refine hd.mono ?_
    rintro e w2 ⟨v, rfl, o2, b2⟩
    obtain ⟨A2, c2, rfl, _⟩ := o2.reads
    have HB := Lib.hid (b2.alloc b2.size (.cells #[.bool com, .bool sec, .int .i64 ap, .int .i64 fl, .int .i64 ct, .slice A2 d.length c2] 56))
    clear o2 b2 hd
    go_wp2
    go_ret
    exact ⟨rfl, HB.out⟩
  · have t1 : (E != 0) = true := by simpa using h1
    have e : b = true := by rw [← hb, decide_eq_false h1]; rfl
    subst e
    clear h hN hE hP h1 hb
    go_enter Try.func50, Try.ntmps50
    go_wp2_with fail
    refine hd.mono ?_
    rintro e w2 ⟨v, rfl, o2, b2⟩
    obtain ⟨A2, c2, rfl, _⟩ := o2.reads
    have HB := Lib.hid (b2.alloc b2.size (.cells #[.bool com, .bool sec, .int .i64 ap, .int .i64 fl, .int .i64 ct, .slice A2 d.length c2] 56))
    clear o2 b2 hd
    go_wp2
    go_ret
    exact ⟨rfl, HB.out⟩
end Go.Proofs.Ytcmonalnhdodmaa.Unp
