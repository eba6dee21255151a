/-
  Package unpacker: what it is to be an Unpacker; New, works, Lost, permitted, beginning, follow; what is nil or a zero value.
-/
import Derived.Deep.QuietTactic
import Derived.BigQuiet
import Derived.BigRegion
import Derived.Test.YtcmonalnhdodmaaUnpMath
import Derived.Test.YtcmonalnhdodmaaOfH
import Derived.Test.YtcmonalnhdodmaaSerW
namespace Go.Proofs.Ytcmonalnhdodmaa.Unp
open Go.RowKit
open Pac (bel_new)

/-- block g is an Unpacker of New in state s; its rest is (A, n, c) -/
structure UC (w : World) (g : Nat) (s : US) (A : Option Addr) (n c : Nat) : Prop where
  u : Cel w g 48 #[.bool true, .bool s.bg, .int .i64 (s.ex : Int), .int .i64 (s.lo : Int), .slice A n c]
  m : Md w 0 5 A n c s.rs
/-- its blocks -/
def fam (g : Nat) (A : Option Addr) : List Nat := g :: blkA A
structure UW (w : World) (g : Nat) (F : List Nat) (s : US) : Prop where
  ex : ∃ A n c, UC w g s A n c ∧ F = fam g A
  ok : s.Ok

section
variable {w w' : World} {g n c : Nat} {s : US} {A : Option Addr} {F S : List Nat}
theorem UC.only (h : UC w g s A n c) (k : Only S w w') (hd : ∀ x ∈ fam g A, x ∉ S) : UC w' g s A n c :=
  ⟨h.u.only k (hd g (by simp [fam])), h.m.only k (fun x hx => hd x (by simp [fam, hx]))⟩
theorem UC.lt (h : UC w g s A n c) : ∀ x ∈ fam g A, x < w.heap.size := fun x hx => by
  rcases List.mem_cons.1 hx with rfl | hx
  · exact h.u.lt
  · exact (h.m.lt x hx).2
theorem UC.draws (h : UC w g s A n c) (m : Nat) : UC (w.drewN m) g s A n c := ⟨h.u, h.m⟩
theorem UC.below (h : UC w g s A n c) (k : Below w.heap.size w w') : UC w' g s A n c := h.only (S := []) (Only.of_below k) (by simp)
theorem UC.gr (h : UC w g s A n c) : g ∉ blkA A := Md.off h.m h.u (by decide)
theorem UW.only (h : UW w g F s) (k : Only S w w') (hd : ∀ x ∈ F, x ∉ S) : UW w' g F s := by
  obtain ⟨⟨A, n, c, hc, rfl⟩, h1⟩ := h
  exact ⟨⟨A, n, c, hc.only k hd, rfl⟩, h1⟩
theorem UW.below (h : UW w g F s) (k : Below w.heap.size w w') : UW w' g F s := h.only (S := []) (Only.of_below k) (by simp)
theorem UW.lt (h : UW w g F s) : ∀ x ∈ F, x < w.heap.size := by
  obtain ⟨⟨A, n, c, hc, rfl⟩, _⟩ := h
  exact hc.lt
theorem UW.mem (h : UW w g F s) : g ∈ F := by
  obtain ⟨⟨A, n, c, hc, rfl⟩, _⟩ := h
  simp [fam]
/-- the rest is another -/
theorem UC.setr (h : UC w g s A n c) {A3 : Option Addr} {n3 c3 : Nat} {r : List Byte} (hm : Md w 0 5 A3 n3 c3 r) : UC (w.setCell ⟨g, 4, none⟩ (.slice A3 n3 c3)) g { s with rs := r } A3 n3 c3 := by
  have k := set_only w g 4 (.slice A3 n3 c3)
  have hg := Md.off hm h.u (by decide)
  exact ⟨h.u.put 4 _, hm.only k (fun x hx hm => hg (List.mem_singleton.1 hm ▸ hx))⟩
end

set_option maxHeartbeats 400000 in
theorem unew_any (w : World) :
    Calls Try.prog 9 #[] w fun e w' => e = .returned (.pointer (some ⟨w.heap.size, 0, none⟩)) ∧ UW w' w.heap.size [w.heap.size] US0 ∧ Below w.heap.size w w' := by
  go_enter Try.func9, Try.ntmps9
  go_wp2
  go_ret
  exact ⟨rfl, ⟨⟨none, 0, 0, ⟨Cel.new _ _ _, Md.nil_ _ _ _⟩, rfl⟩, US0_ok⟩, bel_new _ _⟩

section
variable {w : World} {g n c : Nat} {s : US} {A : Option Addr} {F : List Nat}
set_option maxHeartbeats 400000 in
theorem uworks_uc (h : UC w g s A n c) : Calls Try.prog 24 #[.pointer (some ⟨g, 0, none⟩)] w fun e w' => e = .returned (.bool true) ∧ w = w' := by
  have c0 := h.u.cell 0
  simp at c0
  clear h
  go_enter Try.func24, Try.ntmps24
  go_wp2
  go_ret
  exact ⟨rfl, rfl⟩
/-- no Unpacker: nil, or a zero value -/
def Dead (w : World) (p : Option Addr) : Prop := p = none ∨ ∃ g, p = some ⟨g, 0, none⟩ ∧ w.cell? ⟨g, 0, none⟩ = some (.bool false) ∧ g < w.heap.size
theorem Dead.below {w' : World} {p : Option Addr} (h : Dead w p) (k : Below w.heap.size w w') : Dead w' p := by
  rcases h with h | ⟨g, e, hc, hl⟩
  · exact .inl h
  · exact .inr ⟨g, e, by rw [k.cell (p := ⟨g, 0, none⟩) hl]; exact hc, Nat.lt_of_lt_of_le hl k.size⟩
set_option maxHeartbeats 400000 in
theorem uworks_dead (w : World) (p : Option Addr) (h : Dead w p) : Calls Try.prog 24 #[.pointer p] w fun e w' => e = .returned (.bool false) ∧ w = w' := by
  rcases h with rfl | ⟨g, rfl, hc, _⟩
  · go_enter Try.func24, Try.ntmps24
    go_wp2
    go_ret
    exact ⟨rfl, rfl⟩
  · go_enter Try.func24, Try.ntmps24
    go_wp2
    go_ret
    exact ⟨rfl, rfl⟩
set_option maxHeartbeats 400000 in
theorem ulost_uc (h : UC w g s A n c) : Calls Try.prog 14 #[.pointer (some ⟨g, 0, none⟩)] w fun e w' => e = .returned (.int .i64 (s.lo : Int)) ∧ w = w' := by
  have hw := uworks_uc h
  have c3 := h.u.cell 3
  simp at c3
  clear h
  go_enter Try.func14, Try.ntmps14
  go_wp2_with fail
  refine hw.mono ?_
  rintro e w1 ⟨rfl, rfl⟩
  go_wp2
  go_ret
  exact ⟨rfl, rfl⟩
theorem ulost_any (h : UW w g F s) : Calls Try.prog 14 #[.pointer (some ⟨g, 0, none⟩)] w fun e w' => e = .returned (.int .i64 (s.lo : Int)) ∧ w = w' := by
  obtain ⟨⟨A, n, c, hc, rfl⟩, _⟩ := h
  exact ulost_uc hc
set_option maxHeartbeats 400000 in
theorem ulost_dead (w : World) (p : Option Addr) (h : Dead w p) : Calls Try.prog 14 #[.pointer p] w fun e w' => e = .returned (.int .i64 0) ∧ w = w' := by
  go_enter Try.func14, Try.ntmps14
  go_wp2_with fail
  refine (uworks_dead _ _ h).mono ?_
  rintro e w1 ⟨rfl, rfl⟩
  go_wp2
  go_ret
  exact ⟨rfl, rfl⟩
set_option maxHeartbeats 400000 in
theorem uclone_dead (w : World) (p : Option Addr) (h : Dead w p) : Calls Try.prog 10 #[.pointer p] w fun e w' => e = .returned (.pointer none) ∧ w = w' := by
  go_enter Try.func10, Try.ntmps10
  go_wp2_with fail
  refine (uworks_dead _ _ h).mono ?_
  rintro e w1 ⟨rfl, rfl⟩
  go_wp2
  go_ret
  exact ⟨rfl, rfl⟩

/-- the pointer may be one -/
def Ptr (f : Int) (n : Nat) : Prop := (0 ≤ f ∧ f < (n : Int)) ∨ f = 2047 ∨ f = 2046
instance (f : Int) (n : Nat) : Decidable (Ptr f n) := by unfold Ptr; infer_instance
set_option maxHeartbeats 1000000 in
theorem uperm_any (f : Int) (a : Option Addr) (n c : Nat) (w : World) :
    Calls Try.prog 27 #[.int .i64 f, .slice a n c] w fun e w' => e = .returned (.bool (decide (Ptr f n))) ∧ w = w' := by
  obtain ⟨b, hb⟩ : ∃ b, decide (Ptr f n) = b := ⟨_, rfl⟩
  rw [hb]
  by_cases h1 : 0 ≤ f
  · have t1 : decide ((0 : Int) ≤ f) = true := by simpa using h1
    by_cases h2 : f < (n : Int)
    · have t2 : decide (f < (n : Int)) = true := by simpa using h2
      have e : b = true := by rw [← hb]; exact decide_eq_true (.inl ⟨h1, h2⟩)
      subst e
      clear hb h1 h2
      go_enter Try.func27, Try.ntmps27
      go_wp2
      go_ret
      exact ⟨rfl, rfl⟩
    · have t2 : decide (f < (n : Int)) = false := by simpa using h2
      by_cases h3 : f = 2047
      · have t3 : (f == 2047) = true := by simpa using h3
        have e : b = true := by rw [← hb]; exact decide_eq_true (.inr (.inl h3))
        subst e
        clear hb h1 h2 h3
        go_enter Try.func27, Try.ntmps27
        go_wp2
        go_ret
        exact ⟨rfl, rfl⟩
      · have t3 : (f == 2047) = false := by simpa using h3
        have e : b = (f == 2046) := by
          rw [← hb, Bool.eq_iff_iff, decide_eq_true_eq, beq_iff_eq]
          unfold Ptr; omega
        subst e
        obtain ⟨t, ht⟩ : ∃ t, (f == 2046) = t := ⟨_, rfl⟩
        rw [ht]
        clear hb h1 h2 h3
        go_enter Try.func27, Try.ntmps27
        go_wp2
        go_ret
        exact ⟨rfl, rfl⟩
  · have t1 : decide ((0 : Int) ≤ f) = false := by simpa using h1
    have t3 : (f == 2047) = false := by simp; omega
    have t4 : (f == 2046) = false := by simp; omega
    have e : b = false := by rw [← hb]; exact decide_eq_false (by unfold Ptr; omega)
    subst e
    clear hb h1
    go_enter Try.func27, Try.ntmps27
    go_wp2
    go_ret
    exact ⟨rfl, rfl⟩

set_option maxHeartbeats 400000 in
theorem ubegin_any (a : Option Addr) (n c k : Nat) (w : World) (hk : k = min n 6) (hc : n ≤ c) :
    Calls Try.prog 49 #[.slice a n c] w fun e w' => e = .returned (.slice a k c) ∧ w = w' := by
  have m1 : min (n : Int) 6 = (k : Int) := by omega
  have m2 : (if (n : Int) < 6 then (n : Int) else 6) = (k : Int) := by split <;> omega
  have m3 : (if 6 < (n : Int) then (6 : Int) else (n : Int)) = (k : Int) := by split <;> omega
  have m4 : (if n < 6 then (n : Int) else 6) = (k : Int) := by split <;> omega
  have m5 : (if 6 < n then (6 : Int) else (n : Int)) = (k : Int) := by split <;> omega
  have s1 : (k : Int) ≤ (c : Int) := by omega
  have s2 : k ≤ c := by omega
  clear hk hc
  go_enter Try.func49, Try.ntmps49
  go_wp2
  go_ret
  exact ⟨rfl, rfl⟩

set_option maxHeartbeats 1000000 in
theorem ufollow_uc (h : UC w g s A n c) (he : s.ex < 256) (hlo : s.lo ≤ 1000000000000) (ct : Nat) (hct : ct < 256) :
    Calls Try.prog 28 #[.pointer (some ⟨g, 0, none⟩), .int .i64 (ct : Int)] w fun e w' => e = .returned (.tuple #[]) ∧ (∃ A' n' c', UC w' g (flw s ct) A' n' c' ∧ ∀ x ∈ blkA A', x ∈ blkA A) ∧ Only [g] w w' := by
  have ha := fun W => add_any (ct : Int) 1 8 W
  have hp : pw 8 = 256 := rfl
  obtain ⟨N, hN⟩ : ∃ N, (ct + 1) % 256 = N := ⟨_, rfl⟩
  have e1 : sadd (ct : Int) 1 8 = (N : Int) := by
    rw [sadd_ok (vl_iff.2 ⟨by omega, by omega, by omega, by rw [hp]; omega⟩), hp]; omega
  simp only [e1] at ha
  have c1 := h.u.cell 1
  have c2 := h.u.cell 2
  have c3 := h.u.cell 3
  have c4 := h.u.cell 4
  have f1 := h.u.free 1
  have f2 := h.u.free 2
  have f3 := h.u.free 3
  have f4 := h.u.free 4
  simp at c1 c2 c3 c4
  obtain ⟨bg, ex, lo, rs⟩ := s
  simp only at he hlo c1 c2 c3 c4
  cases bg with
  | false =>
    have e2 : flw ⟨false, ex, lo, rs⟩ ct = ⟨true, N, lo, rs⟩ := by unfold flw dst; simp [hN]
    rw [e2]
    have k : Only [g] w ((w.setCell ⟨g, 1, none⟩ (.bool true)).setCell ⟨g, 2, none⟩ (.int .i64 (N : Int))) := set_then (set_only w g 1 _) 2 _
    have q1 : Cel _ g 48 #[.bool true, .bool true, .int .i64 (ex : Int), .int .i64 (lo : Int), .slice A n c] := h.u.put 1 (.bool true)
    have HF := Lib.hid (show UC _ g ⟨true, N, lo, rs⟩ A n c from ⟨q1.put 2 (.int .i64 (N : Int)), h.m.only k (fun x hx hm => h.gr (List.mem_singleton.1 hm ▸ hx))⟩)
    have HK := Lib.hid k
    clear h k q1 hN e1 e2
    go_enter Try.func28, Try.ntmps28
    go_wp2_with fail
    refine (ha _).mono ?_
    rintro e w1 ⟨rfl, rfl⟩
    go_wp2
    go_end0
    exact ⟨rfl, ⟨_, _, _, HF.out, fun x hx => hx⟩, HK.out⟩
  | true =>
    have hd := fun W => distance_any (ex : Int) (ct : Int) 8 W
    obtain ⟨D, hD⟩ : ∃ D, (ct + 256 - ex) % 256 = D := ⟨_, rfl⟩
    have e3 : sdist (ex : Int) (ct : Int) 8 = (D : Int) := by
      rw [sdist_ok (vl_iff.2 ⟨by omega, by omega, by omega, by rw [hp]; omega⟩) (vl_iff.2 ⟨by omega, by omega, by omega, by rw [hp]; omega⟩), hp]; omega
    simp only [e3] at hd
    by_cases h0 : D = 0
    · have e2 : flw ⟨true, ex, lo, rs⟩ ct = ⟨true, N, lo, rs⟩ := by unfold flw dst; simp [hN, hD, h0]
      rw [e2]
      subst h0
      have t1 : decide ((0 : Int) < ((0 : Nat) : Int)) = false := by simp
      have k : Only [g] w ((w.setCell ⟨g, 1, none⟩ (.bool true)).setCell ⟨g, 2, none⟩ (.int .i64 (N : Int))) := set_then (set_only w g 1 _) 2 _
      have q1 : Cel _ g 48 #[.bool true, .bool true, .int .i64 (ex : Int), .int .i64 (lo : Int), .slice A n c] := h.u.put 1 (.bool true)
      have HF := Lib.hid (show UC _ g ⟨true, N, lo, rs⟩ A n c from ⟨q1.put 2 (.int .i64 (N : Int)), h.m.only k (fun x hx hm => h.gr (List.mem_singleton.1 hm ▸ hx))⟩)
      have HK := Lib.hid k
      clear h k q1 hN e1 e2 hD e3
      go_enter Try.func28, Try.ntmps28
      go_wp2_with fail
      refine (hd _).mono ?_
      rintro e w1 ⟨rfl, rfl⟩
      go_wp2_with fail
      refine (ha _).mono ?_
      rintro e w1 ⟨rfl, rfl⟩
      go_wp2
      go_end0
      exact ⟨rfl, ⟨_, _, _, HF.out, fun x hx => hx⟩, HK.out⟩
    · obtain ⟨L, hL⟩ : ∃ L, lo + D = L := ⟨_, rfl⟩
      have e2 : flw ⟨true, ex, lo, rs⟩ ct = ⟨true, N, L, []⟩ := by unfold flw dst; simp [hN, hD, h0, hL]
      rw [e2]
      have hD2 : D < 256 := by omega
      have t1 : decide ((0 : Int) < (D : Int)) = true := by simp; omega
      have t1' : decide (0 < D) = true := by simp; omega
      have hL1 : (lo : Int) + (D : Int) = (L : Int) := by omega
      have hL2 : wrap64 (L : Int) = (L : Int) := by unfold wrap64; omega
      have k : Only [g] w ((((w.setCell ⟨g, 3, none⟩ (.int .i64 (L : Int))).setCell ⟨g, 4, none⟩ (.slice none 0 0)).setCell ⟨g, 1, none⟩ (.bool true)).setCell ⟨g, 2, none⟩ (.int .i64 (N : Int))) := set_then (set_then (set_then (set_only w g 3 _) 4 _) 1 _) 2 _
      have q1 : Cel _ g 48 #[.bool true, .bool true, .int .i64 (ex : Int), .int .i64 (L : Int), .slice A n c] := h.u.put 3 (.int .i64 (L : Int))
      have q2 : Cel _ g 48 #[.bool true, .bool true, .int .i64 (ex : Int), .int .i64 (L : Int), .slice none 0 0] := q1.put 4 (.slice none 0 0)
      have q3 : Cel _ g 48 #[.bool true, .bool true, .int .i64 (ex : Int), .int .i64 (L : Int), .slice none 0 0] := q2.put 1 (.bool true)
      have HF := Lib.hid (show UC _ g ⟨true, N, L, []⟩ none 0 0 from ⟨q3.put 2 (.int .i64 (N : Int)), Md.nil_ _ _ _⟩)
      have HK := Lib.hid k
      clear h k q1 q2 q3 hN e1 e2 hD e3 hL h0 hD2
      go_enter Try.func28, Try.ntmps28
      go_wp2_with fail
      refine (hd _).mono ?_
      rintro e w1 ⟨rfl, rfl⟩
      go_wp2_with fail
      refine (ha _).mono ?_
      rintro e w1 ⟨rfl, rfl⟩
      go_wp2
      go_end0
      exact ⟨rfl, ⟨_, _, _, HF.out, fun x hx => nomatch hx⟩, HK.out⟩
end
end Go.Proofs.Ytcmonalnhdodmaa.Unp
