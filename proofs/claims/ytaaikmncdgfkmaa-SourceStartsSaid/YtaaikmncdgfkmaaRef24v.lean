/-
  The reference of layer 24: Valid, kind 5.
  The reference of layer 24: Valid, kind 6.
  The reference of layer 24: Valid, kind 7.
  The reference of layer 24: Valid, every unit.
-/
import Derived.Test.YtaaikmncdgfkmaaPduW4
import Derived.Test.YtaaikmncdgfkmaaPduMath2
import Derived.Test.YtaaikmncdgfkmaaRef24va
import Derived.Test.YtaaikmncdgfkmaaRef24vb
namespace Go.Proofs.Ytaaikmncdgfkmaa.Pdu
open Go.RowKit Go.Proofs.Ytaaikmncdgfkmaa.Row

set_option maxRecDepth 100000 in
set_option maxHeartbeats 8000000 in
theorem rvalid_k5 (sr nm cl : Int) (na : List Byte) (sz of : Int) (da : List Byte) (su : Nat) (co : Int) (ga : List R) (A : Option Addr) (n a : Nat) (G : Option Addr) (m c : Nat) (w : World) (h : Px w ⟨5, sr, nm, cl, na, sz, of, da, su, co, ga⟩ A n a G m c) (hh : ((0 ≤ sr ∧ sr ≤ 15) ∧ 0 ≤ nm ∧ nm ≤ 65535)) :
    Calls Try.prog 23 #[.agg #[I 5, I sr, I nm, I cl, .string (str na), I sz, I of, .slice A n a, .int .u32 (su : Int), I co, .slice G m c]] w fun e w' => e = .returned (.bool (ok ⟨5, sr, nm, cl, na, sz, of, da, su, co, ga⟩)) ∧ Below w.heap.size w w' := by
  have hb0 := bel_new w (.cells #[I 5, I sr, I nm, I cl, .string (str na), I sz, I of, .slice A n a, .int .u32 (su : Int), I co, .slice G m c] 45)
  have hda := h.b.len
  have hga := h.g.len
  simp only at hda hga
  have uc := fun W => rclassed_any 5 W
  rw [show decide ((5 : Int) = 1 ∨ (5 : Int) = 3) = false by decide] at uc
  have ud := fun W => rcoded_any 5 W
  rw [show decide ((5 : Int) = 3 ∨ (5 : Int) = 5) = true by decide] at ud
  have p1 : decide (sr < 0) = false := decide_eq_false (by omega)
  have p2 : decide (15 < sr) = false := decide_eq_false (by omega)
  have p3 : decide (nm < 0) = false := decide_eq_false (by omega)
  have p4 : decide (65535 < nm) = false := decide_eq_false (by omega)
  by_cases z0 : ¬ cl = 0
  · rw [ok_no (fun q => by have q' := ok_k5.1 q; omega)]
    have f0_0 : (cl != 0) = true := by simpa using z0
    clear h hda hga hh z0
    go_enter Try.func23, Try.ntmps23
    go_wp2_with fail
    refine (uc _).mono ?_
    rintro e w1 ⟨rfl, rfl⟩
    go_wp2_with fail
    refine (uc _).mono ?_
    rintro e w1 ⟨rfl, rfl⟩
    go_wp2
    go_ret
    exact ⟨rfl, hb0⟩
  have f0_0 : (cl != 0) = false := by simpa using z0
  by_cases z1 : ¬ sz = 0
  · rw [ok_no (fun q => by have q' := ok_k5.1 q; omega)]
    have f1_0 : (sz != 0) = true := by simpa using z1
    clear h hda hga hh z0 z1
    go_enter Try.func23, Try.ntmps23
    go_wp2_with fail
    refine (uc _).mono ?_
    rintro e w1 ⟨rfl, rfl⟩
    go_wp2_with fail
    refine (uc _).mono ?_
    rintro e w1 ⟨rfl, rfl⟩
    go_wp2
    go_ret
    exact ⟨rfl, hb0⟩
  have f1_0 : (sz != 0) = false := by simpa using z1
  by_cases z2 : ¬ na = []
  · rw [ok_no (fun q => by have q' := ok_k5.1 q; exact z2 q'.2.2.2.1)]
    have f2_0 : (str na).toList.isEmpty = false := by rw [str_toList]; simpa using z2
    clear h hda hga hh z0 z1 z2
    go_enter Try.func23, Try.ntmps23
    go_wp2_with fail
    refine (uc _).mono ?_
    rintro e w1 ⟨rfl, rfl⟩
    go_wp2_with fail
    refine (uc _).mono ?_
    rintro e w1 ⟨rfl, rfl⟩
    go_wp2
    go_ret
    exact ⟨rfl, hb0⟩
  have f2_0 : (str na).toList.isEmpty = true := by rw [str_toList, Decidable.not_not.1 z2]; rfl
  by_cases z3 : co < 0
  · rw [ok_no (fun q => by have q' := ok_k5.1 q; omega)]
    have f3_0 : decide (co < 0) = true := decide_eq_true (by omega)
    clear h hda hga hh z0 z1 z2 z3
    go_enter Try.func23, Try.ntmps23
    go_wp2_with fail
    refine (uc _).mono ?_
    rintro e w1 ⟨rfl, rfl⟩
    go_wp2_with fail
    refine (uc _).mono ?_
    rintro e w1 ⟨rfl, rfl⟩
    go_wp2_with fail
    refine (ud _).mono ?_
    rintro e w1 ⟨rfl, rfl⟩
    go_wp2
    go_ret
    exact ⟨rfl, hb0⟩
  have f3_0 : decide (co < 0) = false := decide_eq_false (by omega)
  by_cases z4 : 17 < co
  · rw [ok_no (fun q => by have q' := ok_k5.1 q; omega)]
    have f4_0 : decide (17 < co) = true := decide_eq_true (by omega)
    clear h hda hga hh z0 z1 z2 z3 z4
    go_enter Try.func23, Try.ntmps23
    go_wp2_with fail
    refine (uc _).mono ?_
    rintro e w1 ⟨rfl, rfl⟩
    go_wp2_with fail
    refine (uc _).mono ?_
    rintro e w1 ⟨rfl, rfl⟩
    go_wp2_with fail
    refine (ud _).mono ?_
    rintro e w1 ⟨rfl, rfl⟩
    go_wp2
    go_ret
    exact ⟨rfl, hb0⟩
  have f4_0 : decide (17 < co) = false := decide_eq_false (by omega)
  by_cases z5 : ¬ su = 0
  · rw [ok_no (fun q => by have q' := ok_k5.1 q; omega)]
    have f5_0 : ((su : Int) != 0) = true := by simp; omega
    have f5_1 : (su != 0) = true := by simpa using z5
    clear h hda hga hh z0 z1 z2 z3 z4 z5
    go_enter Try.func23, Try.ntmps23
    go_wp2_with fail
    refine (uc _).mono ?_
    rintro e w1 ⟨rfl, rfl⟩
    go_wp2_with fail
    refine (uc _).mono ?_
    rintro e w1 ⟨rfl, rfl⟩
    go_wp2_with fail
    refine (ud _).mono ?_
    rintro e w1 ⟨rfl, rfl⟩
    go_wp2_with fail
    refine (ud _).mono ?_
    rintro e w1 ⟨rfl, rfl⟩
    go_wp2
    go_ret
    exact ⟨rfl, hb0⟩
  have f5_0 : ((su : Int) != 0) = false := by rw [Decidable.not_not.1 z5]; rfl
  have f5_1 : (su != 0) = false := by rw [Decidable.not_not.1 z5]; rfl
  by_cases z6 : 0 < m
  · rw [ok_no (fun q => by have q' := ok_k5.1 q; have q2 := q'.2.2.2.2.2.2.1; rw [q2] at hga; simp at hga; omega)]
    have f6_0 : decide ((0 : Int) < (m : Int)) = true := decide_eq_true (by omega)
    have f6_1 : decide (0 < m) = true := decide_eq_true (by omega)
    clear h hda hga hh z0 z1 z2 z3 z4 z5 z6
    go_enter Try.func23, Try.ntmps23
    go_wp2_with fail
    refine (uc _).mono ?_
    rintro e w1 ⟨rfl, rfl⟩
    go_wp2_with fail
    refine (uc _).mono ?_
    rintro e w1 ⟨rfl, rfl⟩
    go_wp2_with fail
    refine (ud _).mono ?_
    rintro e w1 ⟨rfl, rfl⟩
    go_wp2_with fail
    refine (ud _).mono ?_
    rintro e w1 ⟨rfl, rfl⟩
    go_wp2
    go_ret
    exact ⟨rfl, hb0⟩
  have f6_0 : decide ((0 : Int) < (m : Int)) = false := decide_eq_false (by omega)
  have f6_1 : decide (0 < m) = false := decide_eq_false (by omega)
  by_cases z7 : ¬ of = 0
  · rw [ok_no (fun q => by have q' := ok_k5.1 q; omega)]
    have f7_0 : (of == 0) = false := by simpa using z7
    clear h hda hga hh z0 z1 z2 z3 z4 z5 z6 z7
    go_enter Try.func23, Try.ntmps23
    go_wp2_with fail
    refine (uc _).mono ?_
    rintro e w1 ⟨rfl, rfl⟩
    go_wp2_with fail
    refine (uc _).mono ?_
    rintro e w1 ⟨rfl, rfl⟩
    go_wp2_with fail
    refine (ud _).mono ?_
    rintro e w1 ⟨rfl, rfl⟩
    go_wp2_with fail
    refine (ud _).mono ?_
    rintro e w1 ⟨rfl, rfl⟩
    go_wp2
    go_ret
    exact ⟨rfl, hb0⟩
  have f7_0 : (of == 0) = true := by simpa using z7
  by_cases zl : n = 0
  · rw [show ok ⟨5, sr, nm, cl, na, sz, of, da, su, co, ga⟩ = true from ok_k5.2 (by exact ⟨hh, by omega, by omega, (Decidable.not_not.1 z2), by omega, by omega, (List.eq_nil_of_length_eq_zero (by omega)), by omega, (List.eq_nil_of_length_eq_zero (by omega))⟩)]
    have g1 : ((n : Int) == 0) = true := by rw [zl]; rfl
    have g2 : (n == 0) = true := by rw [zl]; rfl
    clear h hda hga hh zl z0 z1 z2 z3 z4 z5 z6 z7
    go_enter Try.func23, Try.ntmps23
    go_wp2_with fail
    refine (uc _).mono ?_
    rintro e w1 ⟨rfl, rfl⟩
    go_wp2_with fail
    refine (uc _).mono ?_
    rintro e w1 ⟨rfl, rfl⟩
    go_wp2_with fail
    refine (ud _).mono ?_
    rintro e w1 ⟨rfl, rfl⟩
    go_wp2_with fail
    refine (ud _).mono ?_
    rintro e w1 ⟨rfl, rfl⟩
    go_wp2
    go_ret
    exact ⟨rfl, hb0⟩
  · rw [ok_no (fun q => by have q' := ok_k5.1 q; have q2 : da = [] := q'.2.2.2.2.2.2.2.2; rw [q2] at hda; simp at hda; omega)]
    have g1 : ((n : Int) == 0) = false := by simp; omega
    have g2 : (n == 0) = false := by simp; omega
    clear h hda hga hh zl z0 z1 z2 z3 z4 z5 z6 z7
    go_enter Try.func23, Try.ntmps23
    go_wp2_with fail
    refine (uc _).mono ?_
    rintro e w1 ⟨rfl, rfl⟩
    go_wp2_with fail
    refine (uc _).mono ?_
    rintro e w1 ⟨rfl, rfl⟩
    go_wp2_with fail
    refine (ud _).mono ?_
    rintro e w1 ⟨rfl, rfl⟩
    go_wp2_with fail
    refine (ud _).mono ?_
    rintro e w1 ⟨rfl, rfl⟩
    go_wp2
    go_ret
    exact ⟨rfl, hb0⟩
end Go.Proofs.Ytaaikmncdgfkmaa.Pdu
namespace Go.Proofs.Ytaaikmncdgfkmaa.Pdu
open Go.RowKit Go.Proofs.Ytaaikmncdgfkmaa.Row

set_option maxRecDepth 100000 in
set_option maxHeartbeats 8000000 in
theorem rvalid_k6 (sr nm cl : Int) (na : List Byte) (sz of : Int) (da : List Byte) (su : Nat) (co : Int) (ga : List R) (A : Option Addr) (n a : Nat) (G : Option Addr) (m c : Nat) (w : World) (h : Px w ⟨6, sr, nm, cl, na, sz, of, da, su, co, ga⟩ A n a G m c) (hh : ((0 ≤ sr ∧ sr ≤ 15) ∧ 0 ≤ nm ∧ nm ≤ 65535)) :
    Calls Try.prog 23 #[.agg #[I 6, I sr, I nm, I cl, .string (str na), I sz, I of, .slice A n a, .int .u32 (su : Int), I co, .slice G m c]] w fun e w' => e = .returned (.bool (ok ⟨6, sr, nm, cl, na, sz, of, da, su, co, ga⟩)) ∧ Below w.heap.size w w' := by
  have hb0 := bel_new w (.cells #[I 6, I sr, I nm, I cl, .string (str na), I sz, I of, .slice A n a, .int .u32 (su : Int), I co, .slice G m c] 45)
  have hda := h.b.len
  have hga := h.g.len
  simp only at hda hga
  have uc := fun W => rclassed_any 6 W
  rw [show decide ((6 : Int) = 1 ∨ (6 : Int) = 3) = false by decide] at uc
  have ud := fun W => rcoded_any 6 W
  rw [show decide ((6 : Int) = 3 ∨ (6 : Int) = 5) = false by decide] at ud
  have p1 : decide (sr < 0) = false := decide_eq_false (by omega)
  have p2 : decide (15 < sr) = false := decide_eq_false (by omega)
  have p3 : decide (nm < 0) = false := decide_eq_false (by omega)
  have p4 : decide (65535 < nm) = false := decide_eq_false (by omega)
  by_cases z0 : ¬ cl = 0
  · rw [ok_no (fun q => by have q' := (ok_k6 (.inl rfl)).1 q; omega)]
    have f0_0 : (cl != 0) = true := by simpa using z0
    clear h hda hga hh z0
    go_enter Try.func23, Try.ntmps23
    go_wp2_with fail
    refine (uc _).mono ?_
    rintro e w1 ⟨rfl, rfl⟩
    go_wp2_with fail
    refine (uc _).mono ?_
    rintro e w1 ⟨rfl, rfl⟩
    go_wp2
    go_ret
    exact ⟨rfl, hb0⟩
  have f0_0 : (cl != 0) = false := by simpa using z0
  by_cases z1 : ¬ sz = 0
  · rw [ok_no (fun q => by have q' := (ok_k6 (.inl rfl)).1 q; omega)]
    have f1_0 : (sz != 0) = true := by simpa using z1
    clear h hda hga hh z0 z1
    go_enter Try.func23, Try.ntmps23
    go_wp2_with fail
    refine (uc _).mono ?_
    rintro e w1 ⟨rfl, rfl⟩
    go_wp2_with fail
    refine (uc _).mono ?_
    rintro e w1 ⟨rfl, rfl⟩
    go_wp2
    go_ret
    exact ⟨rfl, hb0⟩
  have f1_0 : (sz != 0) = false := by simpa using z1
  by_cases z2 : ¬ na = []
  · rw [ok_no (fun q => by have q' := (ok_k6 (.inl rfl)).1 q; exact z2 q'.2.2.2.1)]
    have f2_0 : (str na).toList.isEmpty = false := by rw [str_toList]; simpa using z2
    clear h hda hga hh z0 z1 z2
    go_enter Try.func23, Try.ntmps23
    go_wp2_with fail
    refine (uc _).mono ?_
    rintro e w1 ⟨rfl, rfl⟩
    go_wp2_with fail
    refine (uc _).mono ?_
    rintro e w1 ⟨rfl, rfl⟩
    go_wp2
    go_ret
    exact ⟨rfl, hb0⟩
  have f2_0 : (str na).toList.isEmpty = true := by rw [str_toList, Decidable.not_not.1 z2]; rfl
  by_cases z3 : ¬ co = 0
  · rw [ok_no (fun q => by have q' := (ok_k6 (.inl rfl)).1 q; omega)]
    have f3_0 : (co != 0) = true := by simpa using z3
    clear h hda hga hh z0 z1 z2 z3
    go_enter Try.func23, Try.ntmps23
    go_wp2_with fail
    refine (uc _).mono ?_
    rintro e w1 ⟨rfl, rfl⟩
    go_wp2_with fail
    refine (uc _).mono ?_
    rintro e w1 ⟨rfl, rfl⟩
    go_wp2_with fail
    refine (ud _).mono ?_
    rintro e w1 ⟨rfl, rfl⟩
    go_wp2_with fail
    refine (ud _).mono ?_
    rintro e w1 ⟨rfl, rfl⟩
    go_wp2
    go_ret
    exact ⟨rfl, hb0⟩
  have f3_0 : (co != 0) = false := by simpa using z3
  by_cases z4 : ¬ su = 0
  · rw [ok_no (fun q => by have q' := (ok_k6 (.inl rfl)).1 q; omega)]
    have f4_0 : ((su : Int) != 0) = true := by simp; omega
    have f4_1 : (su != 0) = true := by simpa using z4
    clear h hda hga hh z0 z1 z2 z3 z4
    go_enter Try.func23, Try.ntmps23
    go_wp2_with fail
    refine (uc _).mono ?_
    rintro e w1 ⟨rfl, rfl⟩
    go_wp2_with fail
    refine (uc _).mono ?_
    rintro e w1 ⟨rfl, rfl⟩
    go_wp2_with fail
    refine (ud _).mono ?_
    rintro e w1 ⟨rfl, rfl⟩
    go_wp2_with fail
    refine (ud _).mono ?_
    rintro e w1 ⟨rfl, rfl⟩
    go_wp2
    go_ret
    exact ⟨rfl, hb0⟩
  have f4_0 : ((su : Int) != 0) = false := by rw [Decidable.not_not.1 z4]; rfl
  have f4_1 : (su != 0) = false := by rw [Decidable.not_not.1 z4]; rfl
  by_cases z5 : 0 < m
  · rw [ok_no (fun q => by have q' := (ok_k6 (.inl rfl)).1 q; have q2 := q'.2.2.2.2.2.2.1; rw [q2] at hga; simp at hga; omega)]
    have f5_0 : decide ((0 : Int) < (m : Int)) = true := decide_eq_true (by omega)
    have f5_1 : decide (0 < m) = true := decide_eq_true (by omega)
    clear h hda hga hh z0 z1 z2 z3 z4 z5
    go_enter Try.func23, Try.ntmps23
    go_wp2_with fail
    refine (uc _).mono ?_
    rintro e w1 ⟨rfl, rfl⟩
    go_wp2_with fail
    refine (uc _).mono ?_
    rintro e w1 ⟨rfl, rfl⟩
    go_wp2_with fail
    refine (ud _).mono ?_
    rintro e w1 ⟨rfl, rfl⟩
    go_wp2_with fail
    refine (ud _).mono ?_
    rintro e w1 ⟨rfl, rfl⟩
    go_wp2
    go_ret
    exact ⟨rfl, hb0⟩
  have f5_0 : decide ((0 : Int) < (m : Int)) = false := decide_eq_false (by omega)
  have f5_1 : decide (0 < m) = false := decide_eq_false (by omega)
  by_cases z6 : ¬ of = 0
  · rw [ok_no (fun q => by have q' := (ok_k6 (.inl rfl)).1 q; omega)]
    have f6_0 : (of == 0) = false := by simpa using z6
    clear h hda hga hh z0 z1 z2 z3 z4 z5 z6
    go_enter Try.func23, Try.ntmps23
    go_wp2_with fail
    refine (uc _).mono ?_
    rintro e w1 ⟨rfl, rfl⟩
    go_wp2_with fail
    refine (uc _).mono ?_
    rintro e w1 ⟨rfl, rfl⟩
    go_wp2_with fail
    refine (ud _).mono ?_
    rintro e w1 ⟨rfl, rfl⟩
    go_wp2_with fail
    refine (ud _).mono ?_
    rintro e w1 ⟨rfl, rfl⟩
    go_wp2
    go_ret
    exact ⟨rfl, hb0⟩
  have f6_0 : (of == 0) = true := by simpa using z6
  by_cases zl : n = 0
  · rw [show ok ⟨6, sr, nm, cl, na, sz, of, da, su, co, ga⟩ = true from (ok_k6 (.inl rfl)).2 (by exact ⟨hh, by omega, by omega, (Decidable.not_not.1 z2), by omega, by omega, (List.eq_nil_of_length_eq_zero (by omega)), by omega, (List.eq_nil_of_length_eq_zero (by omega))⟩)]
    have g1 : ((n : Int) == 0) = true := by rw [zl]; rfl
    have g2 : (n == 0) = true := by rw [zl]; rfl
    clear h hda hga hh zl z0 z1 z2 z3 z4 z5 z6
    go_enter Try.func23, Try.ntmps23
    go_wp2_with fail
    refine (uc _).mono ?_
    rintro e w1 ⟨rfl, rfl⟩
    go_wp2_with fail
    refine (uc _).mono ?_
    rintro e w1 ⟨rfl, rfl⟩
    go_wp2_with fail
    refine (ud _).mono ?_
    rintro e w1 ⟨rfl, rfl⟩
    go_wp2_with fail
    refine (ud _).mono ?_
    rintro e w1 ⟨rfl, rfl⟩
    go_wp2
    go_ret
    exact ⟨rfl, hb0⟩
  · rw [ok_no (fun q => by have q' := (ok_k6 (.inl rfl)).1 q; have q2 : da = [] := q'.2.2.2.2.2.2.2.2; rw [q2] at hda; simp at hda; omega)]
    have g1 : ((n : Int) == 0) = false := by simp; omega
    have g2 : (n == 0) = false := by simp; omega
    clear h hda hga hh zl z0 z1 z2 z3 z4 z5 z6
    go_enter Try.func23, Try.ntmps23
    go_wp2_with fail
    refine (uc _).mono ?_
    rintro e w1 ⟨rfl, rfl⟩
    go_wp2_with fail
    refine (uc _).mono ?_
    rintro e w1 ⟨rfl, rfl⟩
    go_wp2_with fail
    refine (ud _).mono ?_
    rintro e w1 ⟨rfl, rfl⟩
    go_wp2_with fail
    refine (ud _).mono ?_
    rintro e w1 ⟨rfl, rfl⟩
    go_wp2
    go_ret
    exact ⟨rfl, hb0⟩
end Go.Proofs.Ytaaikmncdgfkmaa.Pdu
namespace Go.Proofs.Ytaaikmncdgfkmaa.Pdu
open Go.RowKit Go.Proofs.Ytaaikmncdgfkmaa.Row

set_option maxRecDepth 100000 in
set_option maxHeartbeats 8000000 in
theorem rvalid_k7 (sr nm cl : Int) (na : List Byte) (sz of : Int) (da : List Byte) (su : Nat) (co : Int) (ga : List R) (A : Option Addr) (n a : Nat) (G : Option Addr) (m c : Nat) (w : World) (h : Px w ⟨7, sr, nm, cl, na, sz, of, da, su, co, ga⟩ A n a G m c) (hh : ((0 ≤ sr ∧ sr ≤ 15) ∧ 0 ≤ nm ∧ nm ≤ 65535)) :
    Calls Try.prog 23 #[.agg #[I 7, I sr, I nm, I cl, .string (str na), I sz, I of, .slice A n a, .int .u32 (su : Int), I co, .slice G m c]] w fun e w' => e = .returned (.bool (ok ⟨7, sr, nm, cl, na, sz, of, da, su, co, ga⟩)) ∧ Below w.heap.size w w' := by
  have hb0 := bel_new w (.cells #[I 7, I sr, I nm, I cl, .string (str na), I sz, I of, .slice A n a, .int .u32 (su : Int), I co, .slice G m c] 45)
  have hda := h.b.len
  have hga := h.g.len
  simp only at hda hga
  have uc := fun W => rclassed_any 7 W
  rw [show decide ((7 : Int) = 1 ∨ (7 : Int) = 3) = false by decide] at uc
  have ud := fun W => rcoded_any 7 W
  rw [show decide ((7 : Int) = 3 ∨ (7 : Int) = 5) = false by decide] at ud
  have p1 : decide (sr < 0) = false := decide_eq_false (by omega)
  have p2 : decide (15 < sr) = false := decide_eq_false (by omega)
  have p3 : decide (nm < 0) = false := decide_eq_false (by omega)
  have p4 : decide (65535 < nm) = false := decide_eq_false (by omega)
  by_cases z0 : ¬ cl = 0
  · rw [ok_no (fun q => by have q' := (ok_k6 (.inr rfl)).1 q; omega)]
    have f0_0 : (cl != 0) = true := by simpa using z0
    clear h hda hga hh z0
    go_enter Try.func23, Try.ntmps23
    go_wp2_with fail
    refine (uc _).mono ?_
    rintro e w1 ⟨rfl, rfl⟩
    go_wp2_with fail
    refine (uc _).mono ?_
    rintro e w1 ⟨rfl, rfl⟩
    go_wp2
    go_ret
    exact ⟨rfl, hb0⟩
  have f0_0 : (cl != 0) = false := by simpa using z0
  by_cases z1 : ¬ sz = 0
  · rw [ok_no (fun q => by have q' := (ok_k6 (.inr rfl)).1 q; omega)]
    have f1_0 : (sz != 0) = true := by simpa using z1
    clear h hda hga hh z0 z1
    go_enter Try.func23, Try.ntmps23
    go_wp2_with fail
    refine (uc _).mono ?_
    rintro e w1 ⟨rfl, rfl⟩
    go_wp2_with fail
    refine (uc _).mono ?_
    rintro e w1 ⟨rfl, rfl⟩
    go_wp2
    go_ret
    exact ⟨rfl, hb0⟩
  have f1_0 : (sz != 0) = false := by simpa using z1
  by_cases z2 : ¬ na = []
  · rw [ok_no (fun q => by have q' := (ok_k6 (.inr rfl)).1 q; exact z2 q'.2.2.2.1)]
    have f2_0 : (str na).toList.isEmpty = false := by rw [str_toList]; simpa using z2
    clear h hda hga hh z0 z1 z2
    go_enter Try.func23, Try.ntmps23
    go_wp2_with fail
    refine (uc _).mono ?_
    rintro e w1 ⟨rfl, rfl⟩
    go_wp2_with fail
    refine (uc _).mono ?_
    rintro e w1 ⟨rfl, rfl⟩
    go_wp2
    go_ret
    exact ⟨rfl, hb0⟩
  have f2_0 : (str na).toList.isEmpty = true := by rw [str_toList, Decidable.not_not.1 z2]; rfl
  by_cases z3 : ¬ co = 0
  · rw [ok_no (fun q => by have q' := (ok_k6 (.inr rfl)).1 q; omega)]
    have f3_0 : (co != 0) = true := by simpa using z3
    clear h hda hga hh z0 z1 z2 z3
    go_enter Try.func23, Try.ntmps23
    go_wp2_with fail
    refine (uc _).mono ?_
    rintro e w1 ⟨rfl, rfl⟩
    go_wp2_with fail
    refine (uc _).mono ?_
    rintro e w1 ⟨rfl, rfl⟩
    go_wp2_with fail
    refine (ud _).mono ?_
    rintro e w1 ⟨rfl, rfl⟩
    go_wp2_with fail
    refine (ud _).mono ?_
    rintro e w1 ⟨rfl, rfl⟩
    go_wp2
    go_ret
    exact ⟨rfl, hb0⟩
  have f3_0 : (co != 0) = false := by simpa using z3
  by_cases z4 : ¬ su = 0
  · rw [ok_no (fun q => by have q' := (ok_k6 (.inr rfl)).1 q; omega)]
    have f4_0 : ((su : Int) != 0) = true := by simp; omega
    have f4_1 : (su != 0) = true := by simpa using z4
    clear h hda hga hh z0 z1 z2 z3 z4
    go_enter Try.func23, Try.ntmps23
    go_wp2_with fail
    refine (uc _).mono ?_
    rintro e w1 ⟨rfl, rfl⟩
    go_wp2_with fail
    refine (uc _).mono ?_
    rintro e w1 ⟨rfl, rfl⟩
    go_wp2_with fail
    refine (ud _).mono ?_
    rintro e w1 ⟨rfl, rfl⟩
    go_wp2_with fail
    refine (ud _).mono ?_
    rintro e w1 ⟨rfl, rfl⟩
    go_wp2
    go_ret
    exact ⟨rfl, hb0⟩
  have f4_0 : ((su : Int) != 0) = false := by rw [Decidable.not_not.1 z4]; rfl
  have f4_1 : (su != 0) = false := by rw [Decidable.not_not.1 z4]; rfl
  by_cases z5 : 0 < m
  · rw [ok_no (fun q => by have q' := (ok_k6 (.inr rfl)).1 q; have q2 := q'.2.2.2.2.2.2.1; rw [q2] at hga; simp at hga; omega)]
    have f5_0 : decide ((0 : Int) < (m : Int)) = true := decide_eq_true (by omega)
    have f5_1 : decide (0 < m) = true := decide_eq_true (by omega)
    clear h hda hga hh z0 z1 z2 z3 z4 z5
    go_enter Try.func23, Try.ntmps23
    go_wp2_with fail
    refine (uc _).mono ?_
    rintro e w1 ⟨rfl, rfl⟩
    go_wp2_with fail
    refine (uc _).mono ?_
    rintro e w1 ⟨rfl, rfl⟩
    go_wp2_with fail
    refine (ud _).mono ?_
    rintro e w1 ⟨rfl, rfl⟩
    go_wp2_with fail
    refine (ud _).mono ?_
    rintro e w1 ⟨rfl, rfl⟩
    go_wp2
    go_ret
    exact ⟨rfl, hb0⟩
  have f5_0 : decide ((0 : Int) < (m : Int)) = false := decide_eq_false (by omega)
  have f5_1 : decide (0 < m) = false := decide_eq_false (by omega)
  by_cases z6 : ¬ of = 0
  · rw [ok_no (fun q => by have q' := (ok_k6 (.inr rfl)).1 q; omega)]
    have f6_0 : (of == 0) = false := by simpa using z6
    clear h hda hga hh z0 z1 z2 z3 z4 z5 z6
    go_enter Try.func23, Try.ntmps23
    go_wp2_with fail
    refine (uc _).mono ?_
    rintro e w1 ⟨rfl, rfl⟩
    go_wp2_with fail
    refine (uc _).mono ?_
    rintro e w1 ⟨rfl, rfl⟩
    go_wp2_with fail
    refine (ud _).mono ?_
    rintro e w1 ⟨rfl, rfl⟩
    go_wp2_with fail
    refine (ud _).mono ?_
    rintro e w1 ⟨rfl, rfl⟩
    go_wp2
    go_ret
    exact ⟨rfl, hb0⟩
  have f6_0 : (of == 0) = true := by simpa using z6
  by_cases zl : n = 0
  · rw [show ok ⟨7, sr, nm, cl, na, sz, of, da, su, co, ga⟩ = true from (ok_k6 (.inr rfl)).2 (by exact ⟨hh, by omega, by omega, (Decidable.not_not.1 z2), by omega, by omega, (List.eq_nil_of_length_eq_zero (by omega)), by omega, (List.eq_nil_of_length_eq_zero (by omega))⟩)]
    have g1 : ((n : Int) == 0) = true := by rw [zl]; rfl
    have g2 : (n == 0) = true := by rw [zl]; rfl
    clear h hda hga hh zl z0 z1 z2 z3 z4 z5 z6
    go_enter Try.func23, Try.ntmps23
    go_wp2_with fail
    refine (uc _).mono ?_
    rintro e w1 ⟨rfl, rfl⟩
    go_wp2_with fail
    refine (uc _).mono ?_
    rintro e w1 ⟨rfl, rfl⟩
    go_wp2_with fail
    refine (ud _).mono ?_
    rintro e w1 ⟨rfl, rfl⟩
    go_wp2_with fail
    refine (ud _).mono ?_
    rintro e w1 ⟨rfl, rfl⟩
    go_wp2
    go_ret
    exact ⟨rfl, hb0⟩
  · rw [ok_no (fun q => by have q' := (ok_k6 (.inr rfl)).1 q; have q2 : da = [] := q'.2.2.2.2.2.2.2.2; rw [q2] at hda; simp at hda; omega)]
    have g1 : ((n : Int) == 0) = false := by simp; omega
    have g2 : (n == 0) = false := by simp; omega
    clear h hda hga hh zl z0 z1 z2 z3 z4 z5 z6
    go_enter Try.func23, Try.ntmps23
    go_wp2_with fail
    refine (uc _).mono ?_
    rintro e w1 ⟨rfl, rfl⟩
    go_wp2_with fail
    refine (uc _).mono ?_
    rintro e w1 ⟨rfl, rfl⟩
    go_wp2_with fail
    refine (ud _).mono ?_
    rintro e w1 ⟨rfl, rfl⟩
    go_wp2_with fail
    refine (ud _).mono ?_
    rintro e w1 ⟨rfl, rfl⟩
    go_wp2
    go_ret
    exact ⟨rfl, hb0⟩
end Go.Proofs.Ytaaikmncdgfkmaa.Pdu
namespace Go.Proofs.Ytaaikmncdgfkmaa.Pdu
open Go.RowKit Go.Proofs.Ytaaikmncdgfkmaa.Row

set_option maxRecDepth 100000 in
set_option maxHeartbeats 8000000 in
theorem rvalid_bad (kd : Int) (sr nm cl : Int) (na : List Byte) (sz of : Int) (da : List Byte) (su : Nat) (co : Int) (ga : List R) (A : Option Addr) (n a : Nat) (G : Option Addr) (m c : Nat) (w : World) (h : ¬ ((1 ≤ kd ∧ kd ≤ 7) ∧ (0 ≤ sr ∧ sr ≤ 15) ∧ 0 ≤ nm ∧ nm ≤ 65535)) :
    Calls Try.prog 23 #[.agg #[I kd, I sr, I nm, I cl, .string (str na), I sz, I of, .slice A n a, .int .u32 (su : Int), I co, .slice G m c]] w fun e w' => e = .returned (.bool (ok ⟨kd, sr, nm, cl, na, sz, of, da, su, co, ga⟩)) ∧ Below w.heap.size w w' := by
  rw [ok_no (fun q => h (ok_kd q))]
  have hb0 := bel_new w (.cells #[I kd, I sr, I nm, I cl, .string (str na), I sz, I of, .slice A n a, .int .u32 (su : Int), I co, .slice G m c] 45)
  by_cases z0 : kd < 1
  · have f0 := decide_eq_true z0
    clear h z0
    go_enter Try.func23, Try.ntmps23
    go_wp2
    go_ret
    exact ⟨rfl, hb0⟩
  have f0 := decide_eq_false z0
  by_cases z1 : 7 < kd
  · have f1 := decide_eq_true z1
    clear h z0 z1
    go_enter Try.func23, Try.ntmps23
    go_wp2
    go_ret
    exact ⟨rfl, hb0⟩
  have f1 := decide_eq_false z1
  by_cases z2 : sr < 0
  · have f2 := decide_eq_true z2
    clear h z0 z1 z2
    go_enter Try.func23, Try.ntmps23
    go_wp2
    go_ret
    exact ⟨rfl, hb0⟩
  have f2 := decide_eq_false z2
  by_cases z3 : 15 < sr
  · have f3 := decide_eq_true z3
    clear h z0 z1 z2 z3
    go_enter Try.func23, Try.ntmps23
    go_wp2
    go_ret
    exact ⟨rfl, hb0⟩
  have f3 := decide_eq_false z3
  by_cases z4 : nm < 0
  · have f4 := decide_eq_true z4
    clear h z0 z1 z2 z3 z4
    go_enter Try.func23, Try.ntmps23
    go_wp2
    go_ret
    exact ⟨rfl, hb0⟩
  have f4 := decide_eq_false z4
  by_cases z5 : 65535 < nm
  · have f5 := decide_eq_true z5
    clear h z0 z1 z2 z3 z4 z5
    go_enter Try.func23, Try.ntmps23
    go_wp2
    go_ret
    exact ⟨rfl, hb0⟩
  have f5 := decide_eq_false z5
  exact (h (by omega)).elim
theorem rvalid_any (kd : Int) (sr nm cl : Int) (na : List Byte) (sz of : Int) (da : List Byte) (su : Nat) (co : Int) (ga : List R) (A : Option Addr) (n a : Nat) (G : Option Addr) (m c : Nat) (w : World) (h : Px w ⟨kd, sr, nm, cl, na, sz, of, da, su, co, ga⟩ A n a G m c) :
    Calls Try.prog 23 #[.agg #[I kd, I sr, I nm, I cl, .string (str na), I sz, I of, .slice A n a, .int .u32 (su : Int), I co, .slice G m c]] w fun e w' => e = .returned (.bool (ok ⟨kd, sr, nm, cl, na, sz, of, da, su, co, ga⟩)) ∧ Below w.heap.size w w' := by
  by_cases hh : (1 ≤ kd ∧ kd ≤ 7) ∧ (0 ≤ sr ∧ sr ≤ 15) ∧ 0 ≤ nm ∧ nm ≤ 65535
  · obtain ⟨hk, hr⟩ := hh
    have : kd = 1 ∨ kd = 2 ∨ kd = 3 ∨ kd = 4 ∨ kd = 5 ∨ kd = 6 ∨ kd = 7 := by omega
    rcases this with rfl | rfl | rfl | rfl | rfl | rfl | rfl
    · exact rvalid_k1 sr nm cl na sz of da su co ga A n a G m c w h hr
    · exact rvalid_k2 sr nm cl na sz of da su co ga A n a G m c w h hr
    · exact rvalid_k3 sr nm cl na sz of da su co ga A n a G m c w h hr
    · exact rvalid_k4 sr nm cl na sz of da su co ga A n a G m c w h hr
    · exact rvalid_k5 sr nm cl na sz of da su co ga A n a G m c w h hr
    · exact rvalid_k6 sr nm cl na sz of da su co ga A n a G m c w h hr
    · exact rvalid_k7 sr nm cl na sz of da su co ga A n a G m c w h hr
  · exact rvalid_bad kd sr nm cl na sz of da su co ga A n a G m c w hh
end Go.Proofs.Ytaaikmncdgfkmaa.Pdu
