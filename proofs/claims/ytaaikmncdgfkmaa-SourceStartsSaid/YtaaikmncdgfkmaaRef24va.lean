/-
  The reference of layer 24: Valid, kind 1.
  The reference of layer 24: Valid, kind 2.
-/
import Derived.Test.YtaaikmncdgfkmaaPduW4
import Derived.Test.YtaaikmncdgfkmaaPduMath2
namespace Go.Proofs.Ytaaikmncdgfkmaa.Pdu
open Go.RowKit Go.Proofs.Ytaaikmncdgfkmaa.Row

set_option maxRecDepth 100000 in
set_option maxHeartbeats 8000000 in
theorem rvalid_k1 (sr nm cl : Int) (na : List Byte) (sz of : Int) (da : List Byte) (su : Nat) (co : Int) (ga : List R) (A : Option Addr) (n a : Nat) (G : Option Addr) (m c : Nat) (w : World) (h : Px w ⟨1, sr, nm, cl, na, sz, of, da, su, co, ga⟩ A n a G m c) (hh : ((0 ≤ sr ∧ sr ≤ 15) ∧ 0 ≤ nm ∧ nm ≤ 65535)) :
    Calls Try.prog 23 #[.agg #[I 1, I sr, I nm, I cl, .string (str na), I sz, I of, .slice A n a, .int .u32 (su : Int), I co, .slice G m c]] w fun e w' => e = .returned (.bool (ok ⟨1, sr, nm, cl, na, sz, of, da, su, co, ga⟩)) ∧ Below w.heap.size w w' := by
  have hb0 := bel_new w (.cells #[I 1, I sr, I nm, I cl, .string (str na), I sz, I of, .slice A n a, .int .u32 (su : Int), I co, .slice G m c] 45)
  have hda := h.b.len
  have hga := h.g.len
  simp only at hda hga
  have uc := fun W => rclassed_any 1 W
  rw [show decide ((1 : Int) = 1 ∨ (1 : Int) = 3) = true by decide] at uc
  have ud := fun W => rcoded_any 1 W
  rw [show decide ((1 : Int) = 3 ∨ (1 : Int) = 5) = false by decide] at ud
  have p1 : decide (sr < 0) = false := decide_eq_false (by omega)
  have p2 : decide (15 < sr) = false := decide_eq_false (by omega)
  have p3 : decide (nm < 0) = false := decide_eq_false (by omega)
  have p4 : decide (65535 < nm) = false := decide_eq_false (by omega)
  obtain ⟨N, hN⟩ : ∃ N, na.length = N := ⟨_, rfl⟩
  have un := fun W => rnamed_any na N W (Lib.hid hN)
  by_cases z0 : cl < 1
  · rw [ok_no (fun q => by have q' := ok_k1.1 q; omega)]
    have f0_0 : decide (cl < 1) = true := decide_eq_true (by omega)
    clear h hda hga hh z0 hN
    go_enter Try.func23, Try.ntmps23
    go_wp2_with fail
    refine (uc _).mono ?_
    rintro e w1 ⟨rfl, rfl⟩
    go_wp2
    go_ret
    exact ⟨rfl, hb0⟩
  have f0_0 : decide (cl < 1) = false := decide_eq_false (by omega)
  by_cases z1 : 2 < cl
  · rw [ok_no (fun q => by have q' := ok_k1.1 q; omega)]
    have f1_0 : decide (2 < cl) = true := decide_eq_true (by omega)
    clear h hda hga hh z0 z1 hN
    go_enter Try.func23, Try.ntmps23
    go_wp2_with fail
    refine (uc _).mono ?_
    rintro e w1 ⟨rfl, rfl⟩
    go_wp2
    go_ret
    exact ⟨rfl, hb0⟩
  have f1_0 : decide (2 < cl) = false := decide_eq_false (by omega)
  by_cases z2 : sz < 0
  · rw [ok_no (fun q => by have q' := ok_k1.1 q; omega)]
    have f2_0 : decide (sz < 0) = true := decide_eq_true (by omega)
    clear h hda hga hh z0 z1 z2 hN
    go_enter Try.func23, Try.ntmps23
    go_wp2_with fail
    refine (uc _).mono ?_
    rintro e w1 ⟨rfl, rfl⟩
    go_wp2
    go_ret
    exact ⟨rfl, hb0⟩
  have f2_0 : decide (sz < 0) = false := decide_eq_false (by omega)
  by_cases z3 : 65536 < sz
  · rw [ok_no (fun q => by have q' := ok_k1.1 q; omega)]
    have f3_0 : decide (65536 < sz) = true := decide_eq_true (by omega)
    clear h hda hga hh z0 z1 z2 z3 hN
    go_enter Try.func23, Try.ntmps23
    go_wp2_with fail
    refine (uc _).mono ?_
    rintro e w1 ⟨rfl, rfl⟩
    go_wp2
    go_ret
    exact ⟨rfl, hb0⟩
  have f3_0 : decide (65536 < sz) = false := decide_eq_false (by omega)
  obtain ⟨D4, hD4⟩ : ∃ D, vna na = D := ⟨_, rfl⟩
  simp only [hD4] at un
  cases D4 with
  | false =>
    rw [ok_no (fun q => by have q' := ok_k1.1 q; rw [hD4] at q'; simp at q')]
    clear h hda hga hh z0 z1 z2 z3 hD4 hN
    go_enter Try.func23, Try.ntmps23
    go_wp2_with fail
    refine (uc _).mono ?_
    rintro e w1 ⟨rfl, rfl⟩
    go_wp2_with fail
    refine (uc _).mono ?_
    rintro e w1 ⟨rfl, rfl⟩
    go_wp2_with fail
    refine (un _).mono ?_
    rintro e w1 ⟨rfl, rfl⟩
    go_wp2
    go_ret
    exact ⟨rfl, hb0⟩
  | true =>
    have z4 := hD4
    clear hD4
    by_cases z5 : ¬ co = 0
    · rw [ok_no (fun q => by have q' := ok_k1.1 q; omega)]
      have f5_0 : (co != 0) = true := by simpa using z5
      clear h hda hga hh z0 z1 z2 z3 z4 z5 hN
      go_enter Try.func23, Try.ntmps23
      go_wp2_with fail
      refine (uc _).mono ?_
      rintro e w1 ⟨rfl, rfl⟩
      go_wp2_with fail
      refine (uc _).mono ?_
      rintro e w1 ⟨rfl, rfl⟩
      go_wp2_with fail
      refine (un _).mono ?_
      rintro e w1 ⟨rfl, rfl⟩
      go_wp2_with fail
      refine (ud _).mono ?_
      rintro e w1 ⟨rfl, rfl⟩
      go_wp2_with fail
      refine (ud _).mono ?_
      rintro e w1 ⟨rfl, rfl⟩
      go_wp2
      go_ret
      exact ⟨rfl, hb0⟩
    have f5_0 : (co != 0) = false := by simpa using z5
    by_cases z6 : ¬ su = 0
    · rw [ok_no (fun q => by have q' := ok_k1.1 q; omega)]
      have f6_0 : ((su : Int) != 0) = true := by simp; omega
      have f6_1 : (su != 0) = true := by simpa using z6
      clear h hda hga hh z0 z1 z2 z3 z4 z5 z6 hN
      go_enter Try.func23, Try.ntmps23
      go_wp2_with fail
      refine (uc _).mono ?_
      rintro e w1 ⟨rfl, rfl⟩
      go_wp2_with fail
      refine (uc _).mono ?_
      rintro e w1 ⟨rfl, rfl⟩
      go_wp2_with fail
      refine (un _).mono ?_
      rintro e w1 ⟨rfl, rfl⟩
      go_wp2_with fail
      refine (ud _).mono ?_
      rintro e w1 ⟨rfl, rfl⟩
      go_wp2_with fail
      refine (ud _).mono ?_
      rintro e w1 ⟨rfl, rfl⟩
      go_wp2
      go_ret
      exact ⟨rfl, hb0⟩
    have f6_0 : ((su : Int) != 0) = false := by rw [Decidable.not_not.1 z6]; rfl
    have f6_1 : (su != 0) = false := by rw [Decidable.not_not.1 z6]; rfl
    by_cases z7 : 0 < m
    · rw [ok_no (fun q => by have q' := ok_k1.1 q; have q2 := q'.2.2.2.2.2.2.1; rw [q2] at hga; simp at hga; omega)]
      have f7_0 : decide ((0 : Int) < (m : Int)) = true := decide_eq_true (by omega)
      have f7_1 : decide (0 < m) = true := decide_eq_true (by omega)
      clear h hda hga hh z0 z1 z2 z3 z4 z5 z6 z7 hN
      go_enter Try.func23, Try.ntmps23
      go_wp2_with fail
      refine (uc _).mono ?_
      rintro e w1 ⟨rfl, rfl⟩
      go_wp2_with fail
      refine (uc _).mono ?_
      rintro e w1 ⟨rfl, rfl⟩
      go_wp2_with fail
      refine (un _).mono ?_
      rintro e w1 ⟨rfl, rfl⟩
      go_wp2_with fail
      refine (ud _).mono ?_
      rintro e w1 ⟨rfl, rfl⟩
      go_wp2_with fail
      refine (ud _).mono ?_
      rintro e w1 ⟨rfl, rfl⟩
      go_wp2
      go_ret
      exact ⟨rfl, hb0⟩
    have f7_0 : decide ((0 : Int) < (m : Int)) = false := decide_eq_false (by omega)
    have f7_1 : decide (0 < m) = false := decide_eq_false (by omega)
    by_cases z8 : ¬ of = 0
    · rw [ok_no (fun q => by have q' := ok_k1.1 q; omega)]
      have f8_0 : (of == 0) = false := by simpa using z8
      clear h hda hga hh z0 z1 z2 z3 z4 z5 z6 z7 z8 hN
      go_enter Try.func23, Try.ntmps23
      go_wp2_with fail
      refine (uc _).mono ?_
      rintro e w1 ⟨rfl, rfl⟩
      go_wp2_with fail
      refine (uc _).mono ?_
      rintro e w1 ⟨rfl, rfl⟩
      go_wp2_with fail
      refine (un _).mono ?_
      rintro e w1 ⟨rfl, rfl⟩
      go_wp2_with fail
      refine (ud _).mono ?_
      rintro e w1 ⟨rfl, rfl⟩
      go_wp2_with fail
      refine (ud _).mono ?_
      rintro e w1 ⟨rfl, rfl⟩
      go_wp2
      go_ret
      exact ⟨rfl, hb0⟩
    have f8_0 : (of == 0) = true := by simpa using z8
    by_cases zl : n = 0
    · rw [show ok ⟨1, sr, nm, cl, na, sz, of, da, su, co, ga⟩ = true from ok_k1.2 (by exact ⟨hh, by omega, by omega, z4, by omega, by omega, (List.eq_nil_of_length_eq_zero (by omega)), by omega, (List.eq_nil_of_length_eq_zero (by omega))⟩)]
      have g1 : ((n : Int) == 0) = true := by rw [zl]; rfl
      have g2 : (n == 0) = true := by rw [zl]; rfl
      clear h hda hga hh zl z0 z1 z2 z3 z4 z5 z6 z7 z8 hN
      go_enter Try.func23, Try.ntmps23
      go_wp2_with fail
      refine (uc _).mono ?_
      rintro e w1 ⟨rfl, rfl⟩
      go_wp2_with fail
      refine (uc _).mono ?_
      rintro e w1 ⟨rfl, rfl⟩
      go_wp2_with fail
      refine (un _).mono ?_
      rintro e w1 ⟨rfl, rfl⟩
      go_wp2_with fail
      refine (ud _).mono ?_
      rintro e w1 ⟨rfl, rfl⟩
      go_wp2_with fail
      refine (ud _).mono ?_
      rintro e w1 ⟨rfl, rfl⟩
      go_wp2
      go_ret
      exact ⟨rfl, hb0⟩
    · rw [ok_no (fun q => by have q' := ok_k1.1 q; have q2 : da = [] := q'.2.2.2.2.2.2.2.2; rw [q2] at hda; simp at hda; omega)]
      have g1 : ((n : Int) == 0) = false := by simp; omega
      have g2 : (n == 0) = false := by simp; omega
      clear h hda hga hh zl z0 z1 z2 z3 z4 z5 z6 z7 z8 hN
      go_enter Try.func23, Try.ntmps23
      go_wp2_with fail
      refine (uc _).mono ?_
      rintro e w1 ⟨rfl, rfl⟩
      go_wp2_with fail
      refine (uc _).mono ?_
      rintro e w1 ⟨rfl, rfl⟩
      go_wp2_with fail
      refine (un _).mono ?_
      rintro e w1 ⟨rfl, rfl⟩
      go_wp2_with fail
      refine (ud _).mono ?_
      rintro e w1 ⟨rfl, rfl⟩
      go_wp2_with fail
      refine (ud _).mono ?_
      rintro e w1 ⟨rfl, rfl⟩
      go_wp2
      go_ret
      exact ⟨rfl, hb0⟩
end Go.Proofs.Ytaaikmncdgfkmaa.Pdu
namespace Go.Proofs.Ytaaikmncdgfkmaa.Pdu
open Go.RowKit Go.Proofs.Ytaaikmncdgfkmaa.Row

set_option maxRecDepth 100000 in
set_option maxHeartbeats 8000000 in
theorem rvalid_k2 (sr nm cl : Int) (na : List Byte) (sz of : Int) (da : List Byte) (su : Nat) (co : Int) (ga : List R) (A : Option Addr) (n a : Nat) (G : Option Addr) (m c : Nat) (w : World) (h : Px w ⟨2, sr, nm, cl, na, sz, of, da, su, co, ga⟩ A n a G m c) (hh : ((0 ≤ sr ∧ sr ≤ 15) ∧ 0 ≤ nm ∧ nm ≤ 65535)) :
    Calls Try.prog 23 #[.agg #[I 2, I sr, I nm, I cl, .string (str na), I sz, I of, .slice A n a, .int .u32 (su : Int), I co, .slice G m c]] w fun e w' => e = .returned (.bool (ok ⟨2, sr, nm, cl, na, sz, of, da, su, co, ga⟩)) ∧ Below w.heap.size w w' := by
  have hb0 := bel_new w (.cells #[I 2, I sr, I nm, I cl, .string (str na), I sz, I of, .slice A n a, .int .u32 (su : Int), I co, .slice G m c] 45)
  have hda := h.b.len
  have hga := h.g.len
  simp only at hda hga
  have uc := fun W => rclassed_any 2 W
  rw [show decide ((2 : Int) = 1 ∨ (2 : Int) = 3) = false by decide] at uc
  have ud := fun W => rcoded_any 2 W
  rw [show decide ((2 : Int) = 3 ∨ (2 : Int) = 5) = false by decide] at ud
  have p1 : decide (sr < 0) = false := decide_eq_false (by omega)
  have p2 : decide (15 < sr) = false := decide_eq_false (by omega)
  have p3 : decide (nm < 0) = false := decide_eq_false (by omega)
  have p4 : decide (65535 < nm) = false := decide_eq_false (by omega)
  by_cases z0 : ¬ cl = 0
  · rw [ok_no (fun q => by have q' := ok_k2.1 q; omega)]
    have f0_0 : (cl != 0) = true := by simpa using z0
    clear h hda hga hh z0
    go_enter Try.func23, Try.ntmps23
    go_wp2_with fail
    refine (uc _).mono ?_
    rintro e w1 ⟨rfl, rfl⟩
    go_wp2_with fail
    refine (uc _).mono ?_
    rintro e w1 ⟨rfl, rfl⟩
    go_wp2
    go_ret
    exact ⟨rfl, hb0⟩
  have f0_0 : (cl != 0) = false := by simpa using z0
  by_cases z1 : ¬ sz = 0
  · rw [ok_no (fun q => by have q' := ok_k2.1 q; omega)]
    have f1_0 : (sz != 0) = true := by simpa using z1
    clear h hda hga hh z0 z1
    go_enter Try.func23, Try.ntmps23
    go_wp2_with fail
    refine (uc _).mono ?_
    rintro e w1 ⟨rfl, rfl⟩
    go_wp2_with fail
    refine (uc _).mono ?_
    rintro e w1 ⟨rfl, rfl⟩
    go_wp2
    go_ret
    exact ⟨rfl, hb0⟩
  have f1_0 : (sz != 0) = false := by simpa using z1
  by_cases z2 : ¬ na = []
  · rw [ok_no (fun q => by have q' := ok_k2.1 q; exact z2 q'.2.2.2.1)]
    have f2_0 : (str na).toList.isEmpty = false := by rw [str_toList]; simpa using z2
    clear h hda hga hh z0 z1 z2
    go_enter Try.func23, Try.ntmps23
    go_wp2_with fail
    refine (uc _).mono ?_
    rintro e w1 ⟨rfl, rfl⟩
    go_wp2_with fail
    refine (uc _).mono ?_
    rintro e w1 ⟨rfl, rfl⟩
    go_wp2
    go_ret
    exact ⟨rfl, hb0⟩
  have f2_0 : (str na).toList.isEmpty = true := by rw [str_toList, Decidable.not_not.1 z2]; rfl
  by_cases z3 : ¬ co = 0
  · rw [ok_no (fun q => by have q' := ok_k2.1 q; omega)]
    have f3_0 : (co != 0) = true := by simpa using z3
    clear h hda hga hh z0 z1 z2 z3
    go_enter Try.func23, Try.ntmps23
    go_wp2_with fail
    refine (uc _).mono ?_
    rintro e w1 ⟨rfl, rfl⟩
    go_wp2_with fail
    refine (uc _).mono ?_
    rintro e w1 ⟨rfl, rfl⟩
    go_wp2_with fail
    refine (ud _).mono ?_
    rintro e w1 ⟨rfl, rfl⟩
    go_wp2_with fail
    refine (ud _).mono ?_
    rintro e w1 ⟨rfl, rfl⟩
    go_wp2
    go_ret
    exact ⟨rfl, hb0⟩
  have f3_0 : (co != 0) = false := by simpa using z3
  by_cases z4 : ¬ su = 0
  · rw [ok_no (fun q => by have q' := ok_k2.1 q; omega)]
    have f4_0 : ((su : Int) != 0) = true := by simp; omega
    have f4_1 : (su != 0) = true := by simpa using z4
    clear h hda hga hh z0 z1 z2 z3 z4
    go_enter Try.func23, Try.ntmps23
    go_wp2_with fail
    refine (uc _).mono ?_
    rintro e w1 ⟨rfl, rfl⟩
    go_wp2_with fail
    refine (uc _).mono ?_
    rintro e w1 ⟨rfl, rfl⟩
    go_wp2_with fail
    refine (ud _).mono ?_
    rintro e w1 ⟨rfl, rfl⟩
    go_wp2_with fail
    refine (ud _).mono ?_
    rintro e w1 ⟨rfl, rfl⟩
    go_wp2
    go_ret
    exact ⟨rfl, hb0⟩
  have f4_0 : ((su : Int) != 0) = false := by rw [Decidable.not_not.1 z4]; rfl
  have f4_1 : (su != 0) = false := by rw [Decidable.not_not.1 z4]; rfl
  by_cases z5 : 0 < m
  · rw [ok_no (fun q => by have q' := ok_k2.1 q; have q2 := q'.2.2.2.2.2.2.1; rw [q2] at hga; simp at hga; omega)]
    have f5_0 : decide ((0 : Int) < (m : Int)) = true := decide_eq_true (by omega)
    have f5_1 : decide (0 < m) = true := decide_eq_true (by omega)
    clear h hda hga hh z0 z1 z2 z3 z4 z5
    go_enter Try.func23, Try.ntmps23
    go_wp2_with fail
    refine (uc _).mono ?_
    rintro e w1 ⟨rfl, rfl⟩
    go_wp2_with fail
    refine (uc _).mono ?_
    rintro e w1 ⟨rfl, rfl⟩
    go_wp2_with fail
    refine (ud _).mono ?_
    rintro e w1 ⟨rfl, rfl⟩
    go_wp2_with fail
    refine (ud _).mono ?_
    rintro e w1 ⟨rfl, rfl⟩
    go_wp2
    go_ret
    exact ⟨rfl, hb0⟩
  have f5_0 : decide ((0 : Int) < (m : Int)) = false := decide_eq_false (by omega)
  have f5_1 : decide (0 < m) = false := decide_eq_false (by omega)
  by_cases z6 : n < 1
  · rw [ok_no (fun q => by have q' := ok_k2.1 q; omega)]
    have f6_0 : decide ((1 : Int) ≤ (n : Int)) = false := decide_eq_false (by omega)
    have f6_1 : decide (1 ≤ n) = false := decide_eq_false (by omega)
    clear h hda hga hh z0 z1 z2 z3 z4 z5 z6
    go_enter Try.func23, Try.ntmps23
    go_wp2_with fail
    refine (uc _).mono ?_
    rintro e w1 ⟨rfl, rfl⟩
    go_wp2_with fail
    refine (uc _).mono ?_
    rintro e w1 ⟨rfl, rfl⟩
    go_wp2_with fail
    refine (ud _).mono ?_
    rintro e w1 ⟨rfl, rfl⟩
    go_wp2_with fail
    refine (ud _).mono ?_
    rintro e w1 ⟨rfl, rfl⟩
    go_wp2
    go_ret
    exact ⟨rfl, hb0⟩
  have f6_0 : decide ((1 : Int) ≤ (n : Int)) = true := decide_eq_true (by omega)
  have f6_1 : decide (1 ≤ n) = true := decide_eq_true (by omega)
  by_cases z7 : 512 < n
  · rw [ok_no (fun q => by have q' := ok_k2.1 q; omega)]
    have f7_0 : decide ((n : Int) ≤ 512) = false := decide_eq_false (by omega)
    have f7_1 : decide (n ≤ 512) = false := decide_eq_false (by omega)
    clear h hda hga hh z0 z1 z2 z3 z4 z5 z6 z7
    go_enter Try.func23, Try.ntmps23
    go_wp2_with fail
    refine (uc _).mono ?_
    rintro e w1 ⟨rfl, rfl⟩
    go_wp2_with fail
    refine (uc _).mono ?_
    rintro e w1 ⟨rfl, rfl⟩
    go_wp2_with fail
    refine (ud _).mono ?_
    rintro e w1 ⟨rfl, rfl⟩
    go_wp2_with fail
    refine (ud _).mono ?_
    rintro e w1 ⟨rfl, rfl⟩
    go_wp2
    go_ret
    exact ⟨rfl, hb0⟩
  have f7_0 : decide ((n : Int) ≤ 512) = true := decide_eq_true (by omega)
  have f7_1 : decide (n ≤ 512) = true := decide_eq_true (by omega)
  by_cases z8 : of < 0
  · rw [ok_no (fun q => by have q' := ok_k2.1 q; omega)]
    have f8_0 : decide (0 ≤ of) = false := decide_eq_false (by omega)
    clear h hda hga hh z0 z1 z2 z3 z4 z5 z6 z7 z8
    go_enter Try.func23, Try.ntmps23
    go_wp2_with fail
    refine (uc _).mono ?_
    rintro e w1 ⟨rfl, rfl⟩
    go_wp2_with fail
    refine (uc _).mono ?_
    rintro e w1 ⟨rfl, rfl⟩
    go_wp2_with fail
    refine (ud _).mono ?_
    rintro e w1 ⟨rfl, rfl⟩
    go_wp2_with fail
    refine (ud _).mono ?_
    rintro e w1 ⟨rfl, rfl⟩
    go_wp2
    go_ret
    exact ⟨rfl, hb0⟩
  have f8_0 : decide (0 ≤ of) = true := decide_eq_true (by omega)
  have HN := Lib.hid (show n ≤ 512 by omega)
  by_cases zl : of ≤ 65536 - (n : Int)
  · rw [show ok ⟨2, sr, nm, cl, na, sz, of, da, su, co, ga⟩ = true from ok_k2.2 (by exact ⟨hh, by omega, by omega, (Decidable.not_not.1 z2), by omega, by omega, (List.eq_nil_of_length_eq_zero (by omega)), by omega, by omega, by omega⟩)]
    have g1 : decide (of ≤ 65536 - (n : Int)) = true := decide_eq_true zl
    clear h hda hga hh zl z0 z1 z2 z3 z4 z5 z6 z7 z8
    go_enter Try.func23, Try.ntmps23
    go_wp2_with fail
    refine (uc _).mono ?_
    rintro e w1 ⟨rfl, rfl⟩
    go_wp2_with fail
    refine (uc _).mono ?_
    rintro e w1 ⟨rfl, rfl⟩
    go_wp2_with fail
    refine (ud _).mono ?_
    rintro e w1 ⟨rfl, rfl⟩
    go_wp2_with fail
    refine (ud _).mono ?_
    rintro e w1 ⟨rfl, rfl⟩
    go_wp2
    go_ret
    exact ⟨ret_bool (by have hn := HN.out; rw [show RowKit.wrap64 (65536 - (n : Int)) = 65536 - (n : Int) by unfold RowKit.wrap64; omega]; exact g1), hb0⟩
  · rw [ok_no (fun q => by have q' := ok_k2.1 q; omega)]
    have g1 : decide (of ≤ 65536 - (n : Int)) = false := decide_eq_false zl
    clear h hda hga hh zl z0 z1 z2 z3 z4 z5 z6 z7 z8
    go_enter Try.func23, Try.ntmps23
    go_wp2_with fail
    refine (uc _).mono ?_
    rintro e w1 ⟨rfl, rfl⟩
    go_wp2_with fail
    refine (uc _).mono ?_
    rintro e w1 ⟨rfl, rfl⟩
    go_wp2_with fail
    refine (ud _).mono ?_
    rintro e w1 ⟨rfl, rfl⟩
    go_wp2_with fail
    refine (ud _).mono ?_
    rintro e w1 ⟨rfl, rfl⟩
    go_wp2
    go_ret
    exact ⟨ret_bool (by have hn := HN.out; rw [show RowKit.wrap64 (65536 - (n : Int)) = 65536 - (n : Int) by unfold RowKit.wrap64; omega]; exact g1), hb0⟩
end Go.Proofs.Ytaaikmncdgfkmaa.Pdu
