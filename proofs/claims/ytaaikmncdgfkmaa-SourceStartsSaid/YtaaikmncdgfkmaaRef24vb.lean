/-
  The reference of layer 24: Valid, kind 3.
  The reference of layer 24: Valid, kind 4.
-/
import Derived.Test.YtaaikmncdgfkmaaPduW4
import Derived.Test.YtaaikmncdgfkmaaPduMath2
namespace Go.Proofs.Ytaaikmncdgfkmaa.Pdu
open Go.RowKit Go.Proofs.Ytaaikmncdgfkmaa.Row

set_option maxRecDepth 100000 in
set_option maxHeartbeats 8000000 in
theorem rvalid_k3 (sr nm cl : Int) (na : List Byte) (sz of : Int) (da : List Byte) (su : Nat) (co : Int) (ga : List R) (A : Option Addr) (n a : Nat) (G : Option Addr) (m c : Nat) (w : World) (h : Px w ⟨3, sr, nm, cl, na, sz, of, da, su, co, ga⟩ A n a G m c) (hh : ((0 ≤ sr ∧ sr ≤ 15) ∧ 0 ≤ nm ∧ nm ≤ 65535)) :
    Calls Try.prog 23 #[.agg #[I 3, I sr, I nm, I cl, .string (str na), I sz, I of, .slice A n a, .int .u32 (su : Int), I co, .slice G m c]] w fun e w' => e = .returned (.bool (ok ⟨3, sr, nm, cl, na, sz, of, da, su, co, ga⟩)) ∧ Below w.heap.size w w' := by
  have hb0 := bel_new w (.cells #[I 3, I sr, I nm, I cl, .string (str na), I sz, I of, .slice A n a, .int .u32 (su : Int), I co, .slice G m c] 45)
  have hda := h.b.len
  have hga := h.g.len
  simp only at hda hga
  have uc := fun W => rclassed_any 3 W
  rw [show decide ((3 : Int) = 1 ∨ (3 : Int) = 3) = true by decide] at uc
  have ud := fun W => rcoded_any 3 W
  rw [show decide ((3 : Int) = 3 ∨ (3 : Int) = 5) = true by decide] at ud
  have p1 : decide (sr < 0) = false := decide_eq_false (by omega)
  have p2 : decide (15 < sr) = false := decide_eq_false (by omega)
  have p3 : decide (nm < 0) = false := decide_eq_false (by omega)
  have p4 : decide (65535 < nm) = false := decide_eq_false (by omega)
  by_cases z0 : cl < 1
  · rw [ok_no (fun q => by have q' := ok_k3.1 q; omega)]
    have f0_0 : decide (cl < 1) = true := decide_eq_true (by omega)
    clear h hda hga hh z0
    go_enter Try.func23, Try.ntmps23
    go_wp2_with fail
    refine (uc _).mono ?_
    rintro e w1 ⟨rfl, rfl⟩
    go_wp2
    go_ret
    exact ⟨rfl, hb0⟩
  have f0_0 : decide (cl < 1) = false := decide_eq_false (by omega)
  by_cases z1 : 2 < cl
  · rw [ok_no (fun q => by have q' := ok_k3.1 q; omega)]
    have f1_0 : decide (2 < cl) = true := decide_eq_true (by omega)
    clear h hda hga hh z0 z1
    go_enter Try.func23, Try.ntmps23
    go_wp2_with fail
    refine (uc _).mono ?_
    rintro e w1 ⟨rfl, rfl⟩
    go_wp2
    go_ret
    exact ⟨rfl, hb0⟩
  have f1_0 : decide (2 < cl) = false := decide_eq_false (by omega)
  by_cases z2 : sz < 0
  · rw [ok_no (fun q => by have q' := ok_k3.1 q; omega)]
    have f2_0 : decide (sz < 0) = true := decide_eq_true (by omega)
    clear h hda hga hh z0 z1 z2
    go_enter Try.func23, Try.ntmps23
    go_wp2_with fail
    refine (uc _).mono ?_
    rintro e w1 ⟨rfl, rfl⟩
    go_wp2
    go_ret
    exact ⟨rfl, hb0⟩
  have f2_0 : decide (sz < 0) = false := decide_eq_false (by omega)
  by_cases z3 : 65536 < sz
  · rw [ok_no (fun q => by have q' := ok_k3.1 q; omega)]
    have f3_0 : decide (65536 < sz) = true := decide_eq_true (by omega)
    clear h hda hga hh z0 z1 z2 z3
    go_enter Try.func23, Try.ntmps23
    go_wp2_with fail
    refine (uc _).mono ?_
    rintro e w1 ⟨rfl, rfl⟩
    go_wp2
    go_ret
    exact ⟨rfl, hb0⟩
  have f3_0 : decide (65536 < sz) = false := decide_eq_false (by omega)
  by_cases z4 : ¬ na = []
  · rw [ok_no (fun q => by have q' := ok_k3.1 q; exact z4 q'.2.2.2.1)]
    have f4_0 : (str na).toList.isEmpty = false := by rw [str_toList]; simpa using z4
    clear h hda hga hh z0 z1 z2 z3 z4
    go_enter Try.func23, Try.ntmps23
    go_wp2_with fail
    refine (uc _).mono ?_
    rintro e w1 ⟨rfl, rfl⟩
    go_wp2_with fail
    refine (uc _).mono ?_
    rintro e w1 ⟨rfl, rfl⟩
    go_wp2
    go_ret
    exact ⟨rfl, hb0⟩
  have f4_0 : (str na).toList.isEmpty = true := by rw [str_toList, Decidable.not_not.1 z4]; rfl
  by_cases z5 : co < 0
  · rw [ok_no (fun q => by have q' := ok_k3.1 q; omega)]
    have f5_0 : decide (co < 0) = true := decide_eq_true (by omega)
    clear h hda hga hh z0 z1 z2 z3 z4 z5
    go_enter Try.func23, Try.ntmps23
    go_wp2_with fail
    refine (uc _).mono ?_
    rintro e w1 ⟨rfl, rfl⟩
    go_wp2_with fail
    refine (uc _).mono ?_
    rintro e w1 ⟨rfl, rfl⟩
    go_wp2_with fail
    refine (ud _).mono ?_
    rintro e w1 ⟨rfl, rfl⟩
    go_wp2
    go_ret
    exact ⟨rfl, hb0⟩
  have f5_0 : decide (co < 0) = false := decide_eq_false (by omega)
  by_cases z6 : 17 < co
  · rw [ok_no (fun q => by have q' := ok_k3.1 q; omega)]
    have f6_0 : decide (17 < co) = true := decide_eq_true (by omega)
    clear h hda hga hh z0 z1 z2 z3 z4 z5 z6
    go_enter Try.func23, Try.ntmps23
    go_wp2_with fail
    refine (uc _).mono ?_
    rintro e w1 ⟨rfl, rfl⟩
    go_wp2_with fail
    refine (uc _).mono ?_
    rintro e w1 ⟨rfl, rfl⟩
    go_wp2_with fail
    refine (ud _).mono ?_
    rintro e w1 ⟨rfl, rfl⟩
    go_wp2
    go_ret
    exact ⟨rfl, hb0⟩
  have f6_0 : decide (17 < co) = false := decide_eq_false (by omega)
  by_cases z7 : 0 < m
  · rw [ok_no (fun q => by have q' := ok_k3.1 q; have q2 := q'.2.2.2.2.2.1; rw [q2] at hga; simp at hga; omega)]
    have f7_0 : decide ((0 : Int) < (m : Int)) = true := decide_eq_true (by omega)
    have f7_1 : decide (0 < m) = true := decide_eq_true (by omega)
    clear h hda hga hh z0 z1 z2 z3 z4 z5 z6 z7
    go_enter Try.func23, Try.ntmps23
    go_wp2_with fail
    refine (uc _).mono ?_
    rintro e w1 ⟨rfl, rfl⟩
    go_wp2_with fail
    refine (uc _).mono ?_
    rintro e w1 ⟨rfl, rfl⟩
    go_wp2_with fail
    refine (ud _).mono ?_
    rintro e w1 ⟨rfl, rfl⟩
    go_wp2_with fail
    refine (ud _).mono ?_
    rintro e w1 ⟨rfl, rfl⟩
    go_wp2
    go_ret
    exact ⟨rfl, hb0⟩
  have f7_0 : decide ((0 : Int) < (m : Int)) = false := decide_eq_false (by omega)
  have f7_1 : decide (0 < m) = false := decide_eq_false (by omega)
  by_cases z8 : ¬ of = 0
  · rw [ok_no (fun q => by have q' := ok_k3.1 q; omega)]
    have f8_0 : (of == 0) = false := by simpa using z8
    clear h hda hga hh z0 z1 z2 z3 z4 z5 z6 z7 z8
    go_enter Try.func23, Try.ntmps23
    go_wp2_with fail
    refine (uc _).mono ?_
    rintro e w1 ⟨rfl, rfl⟩
    go_wp2_with fail
    refine (uc _).mono ?_
    rintro e w1 ⟨rfl, rfl⟩
    go_wp2_with fail
    refine (ud _).mono ?_
    rintro e w1 ⟨rfl, rfl⟩
    go_wp2_with fail
    refine (ud _).mono ?_
    rintro e w1 ⟨rfl, rfl⟩
    go_wp2
    go_ret
    exact ⟨rfl, hb0⟩
  have f8_0 : (of == 0) = true := by simpa using z8
  by_cases zl : n = 0
  · rw [show ok ⟨3, sr, nm, cl, na, sz, of, da, su, co, ga⟩ = true from ok_k3.2 (by exact ⟨hh, by omega, by omega, (Decidable.not_not.1 z4), by omega, (List.eq_nil_of_length_eq_zero (by omega)), by omega, (List.eq_nil_of_length_eq_zero (by omega))⟩)]
    have g1 : ((n : Int) == 0) = true := by rw [zl]; rfl
    have g2 : (n == 0) = true := by rw [zl]; rfl
    clear h hda hga hh zl z0 z1 z2 z3 z4 z5 z6 z7 z8
    go_enter Try.func23, Try.ntmps23
    go_wp2_with fail
    refine (uc _).mono ?_
    rintro e w1 ⟨rfl, rfl⟩
    go_wp2_with fail
    refine (uc _).mono ?_
    rintro e w1 ⟨rfl, rfl⟩
    go_wp2_with fail
    refine (ud _).mono ?_
    rintro e w1 ⟨rfl, rfl⟩
    go_wp2_with fail
    refine (ud _).mono ?_
    rintro e w1 ⟨rfl, rfl⟩
    go_wp2
    go_ret
    exact ⟨rfl, hb0⟩
  · rw [ok_no (fun q => by have q' := ok_k3.1 q; have q2 : da = [] := q'.2.2.2.2.2.2.2; rw [q2] at hda; simp at hda; omega)]
    have g1 : ((n : Int) == 0) = false := by simp; omega
    have g2 : (n == 0) = false := by simp; omega
    clear h hda hga hh zl z0 z1 z2 z3 z4 z5 z6 z7 z8
    go_enter Try.func23, Try.ntmps23
    go_wp2_with fail
    refine (uc _).mono ?_
    rintro e w1 ⟨rfl, rfl⟩
    go_wp2_with fail
    refine (uc _).mono ?_
    rintro e w1 ⟨rfl, rfl⟩
    go_wp2_with fail
    refine (ud _).mono ?_
    rintro e w1 ⟨rfl, rfl⟩
    go_wp2_with fail
    refine (ud _).mono ?_
    rintro e w1 ⟨rfl, rfl⟩
    go_wp2
    go_ret
    exact ⟨rfl, hb0⟩
end Go.Proofs.Ytaaikmncdgfkmaa.Pdu
namespace Go.Proofs.Ytaaikmncdgfkmaa.Pdu
open Go.RowKit Go.Proofs.Ytaaikmncdgfkmaa.Row

set_option maxRecDepth 100000 in
set_option maxHeartbeats 8000000 in
theorem rvalid_k4 (sr nm cl : Int) (na : List Byte) (sz of : Int) (da : List Byte) (su : Nat) (co : Int) (ga : List R) (A : Option Addr) (n a : Nat) (G : Option Addr) (m c : Nat) (w : World) (h : Px w ⟨4, sr, nm, cl, na, sz, of, da, su, co, ga⟩ A n a G m c) (hh : ((0 ≤ sr ∧ sr ≤ 15) ∧ 0 ≤ nm ∧ nm ≤ 65535)) :
    Calls Try.prog 23 #[.agg #[I 4, I sr, I nm, I cl, .string (str na), I sz, I of, .slice A n a, .int .u32 (su : Int), I co, .slice G m c]] w fun e w' => e = .returned (.bool (ok ⟨4, sr, nm, cl, na, sz, of, da, su, co, ga⟩)) ∧ Below w.heap.size w w' := by
  have hb0 := bel_new w (.cells #[I 4, I sr, I nm, I cl, .string (str na), I sz, I of, .slice A n a, .int .u32 (su : Int), I co, .slice G m c] 45)
  have hda := h.b.len
  have hga := h.g.len
  simp only at hda hga
  have uc := fun W => rclassed_any 4 W
  rw [show decide ((4 : Int) = 1 ∨ (4 : Int) = 3) = false by decide] at uc
  have ud := fun W => rcoded_any 4 W
  rw [show decide ((4 : Int) = 3 ∨ (4 : Int) = 5) = false by decide] at ud
  have p1 : decide (sr < 0) = false := decide_eq_false (by omega)
  have p2 : decide (15 < sr) = false := decide_eq_false (by omega)
  have p3 : decide (nm < 0) = false := decide_eq_false (by omega)
  have p4 : decide (65535 < nm) = false := decide_eq_false (by omega)
  have hC0 := Cel.new w 45 #[I 4, I sr, I nm, I cl, .string (str na), I sz, I of, .slice A n a, .int .u32 (su : Int), I co, .slice G m c]
  have ug := fun W (q : Below w.heap.size w W) => rgaps_any G ga m c W (h.g.later q)
  by_cases z0 : ¬ cl = 0
  · rw [ok_no (fun q => by have q' := ok_k4.1 q; omega)]
    have f0_0 : (cl != 0) = true := by simpa using z0
    clear h hda hga hh z0
    go_enter Try.func23, Try.ntmps23
    go_wp2_with fail
    refine (uc _).mono ?_
    rintro e w1 ⟨rfl, rfl⟩
    go_wp2_with fail
    refine (uc _).mono ?_
    rintro e w1 ⟨rfl, rfl⟩
    go_wp2
    go_ret
    exact ⟨rfl, hb0⟩
  have f0_0 : (cl != 0) = false := by simpa using z0
  by_cases z1 : ¬ sz = 0
  · rw [ok_no (fun q => by have q' := ok_k4.1 q; omega)]
    have f1_0 : (sz != 0) = true := by simpa using z1
    clear h hda hga hh z0 z1
    go_enter Try.func23, Try.ntmps23
    go_wp2_with fail
    refine (uc _).mono ?_
    rintro e w1 ⟨rfl, rfl⟩
    go_wp2_with fail
    refine (uc _).mono ?_
    rintro e w1 ⟨rfl, rfl⟩
    go_wp2
    go_ret
    exact ⟨rfl, hb0⟩
  have f1_0 : (sz != 0) = false := by simpa using z1
  by_cases z2 : ¬ na = []
  · rw [ok_no (fun q => by have q' := ok_k4.1 q; exact z2 q'.2.2.2.1)]
    have f2_0 : (str na).toList.isEmpty = false := by rw [str_toList]; simpa using z2
    clear h hda hga hh z0 z1 z2
    go_enter Try.func23, Try.ntmps23
    go_wp2_with fail
    refine (uc _).mono ?_
    rintro e w1 ⟨rfl, rfl⟩
    go_wp2_with fail
    refine (uc _).mono ?_
    rintro e w1 ⟨rfl, rfl⟩
    go_wp2
    go_ret
    exact ⟨rfl, hb0⟩
  have f2_0 : (str na).toList.isEmpty = true := by rw [str_toList, Decidable.not_not.1 z2]; rfl
  by_cases z3 : ¬ co = 0
  · rw [ok_no (fun q => by have q' := ok_k4.1 q; omega)]
    have f3_0 : (co != 0) = true := by simpa using z3
    clear h hda hga hh z0 z1 z2 z3
    go_enter Try.func23, Try.ntmps23
    go_wp2_with fail
    refine (uc _).mono ?_
    rintro e w1 ⟨rfl, rfl⟩
    go_wp2_with fail
    refine (uc _).mono ?_
    rintro e w1 ⟨rfl, rfl⟩
    go_wp2_with fail
    refine (ud _).mono ?_
    rintro e w1 ⟨rfl, rfl⟩
    go_wp2_with fail
    refine (ud _).mono ?_
    rintro e w1 ⟨rfl, rfl⟩
    go_wp2
    go_ret
    exact ⟨rfl, hb0⟩
  have f3_0 : (co != 0) = false := by simpa using z3
  by_cases z4 : ¬ su = 0
  · rw [ok_no (fun q => by have q' := ok_k4.1 q; omega)]
    have f4_0 : ((su : Int) != 0) = true := by simp; omega
    have f4_1 : (su != 0) = true := by simpa using z4
    clear h hda hga hh z0 z1 z2 z3 z4
    go_enter Try.func23, Try.ntmps23
    go_wp2_with fail
    refine (uc _).mono ?_
    rintro e w1 ⟨rfl, rfl⟩
    go_wp2_with fail
    refine (uc _).mono ?_
    rintro e w1 ⟨rfl, rfl⟩
    go_wp2_with fail
    refine (ud _).mono ?_
    rintro e w1 ⟨rfl, rfl⟩
    go_wp2_with fail
    refine (ud _).mono ?_
    rintro e w1 ⟨rfl, rfl⟩
    go_wp2
    go_ret
    exact ⟨rfl, hb0⟩
  have f4_0 : ((su : Int) != 0) = false := by rw [Decidable.not_not.1 z4]; rfl
  have f4_1 : (su != 0) = false := by rw [Decidable.not_not.1 z4]; rfl
  obtain ⟨D5, hD5⟩ : ∃ D, vga ga = D := ⟨_, rfl⟩
  simp only [hD5] at ug
  cases D5 with
  | false =>
    rw [ok_no (fun q => by have q' := ok_k4.1 q; rw [hD5] at q'; simp at q')]
    clear h hda hga hh z0 z1 z2 z3 z4 hD5
    go_enter Try.func23, Try.ntmps23
    go_wp2_with fail
    refine (uc _).mono ?_
    rintro e w1 ⟨rfl, rfl⟩
    go_wp2_with fail
    refine (uc _).mono ?_
    rintro e w1 ⟨rfl, rfl⟩
    go_wp2_with fail
    refine (ud _).mono ?_
    rintro e w1 ⟨rfl, rfl⟩
    go_wp2_with fail
    refine (ud _).mono ?_
    rintro e w1 ⟨rfl, rfl⟩
    go_wp2_with fail
    refine (ug _ hb0).mono ?_
    rintro e w1 ⟨rfl, hb1⟩
    have hC1 := Cel.on hC0 hb1
    have c0 := hC1.cell 0
    have c5 := hC1.cell 5
    have c6 := hC1.cell 6
    have c7 := hC1.cell 7
    simp only [List.getElem?_toArray, List.getElem?_cons_zero, List.getElem?_cons_succ] at c0 c5 c6 c7
    clear hC0 hC1
    go_wp2
    go_ret
    exact ⟨rfl, hb0.trans (hb1.mono hb0.size)⟩
  | true =>
    have z5 := hD5
    clear hD5
    by_cases z6 : ¬ of = 0
    · rw [ok_no (fun q => by have q' := ok_k4.1 q; omega)]
      have f6_0 : (of == 0) = false := by simpa using z6
      clear h hda hga hh z0 z1 z2 z3 z4 z5 z6
      go_enter Try.func23, Try.ntmps23
      go_wp2_with fail
      refine (uc _).mono ?_
      rintro e w1 ⟨rfl, rfl⟩
      go_wp2_with fail
      refine (uc _).mono ?_
      rintro e w1 ⟨rfl, rfl⟩
      go_wp2_with fail
      refine (ud _).mono ?_
      rintro e w1 ⟨rfl, rfl⟩
      go_wp2_with fail
      refine (ud _).mono ?_
      rintro e w1 ⟨rfl, rfl⟩
      go_wp2_with fail
      refine (ug _ hb0).mono ?_
      rintro e w1 ⟨rfl, hb1⟩
      have hC1 := Cel.on hC0 hb1
      have c0 := hC1.cell 0
      have c5 := hC1.cell 5
      have c6 := hC1.cell 6
      have c7 := hC1.cell 7
      simp only [List.getElem?_toArray, List.getElem?_cons_zero, List.getElem?_cons_succ] at c0 c5 c6 c7
      clear hC0 hC1
      go_wp2
      go_ret
      exact ⟨rfl, hb0.trans (hb1.mono hb0.size)⟩
    have f6_0 : (of == 0) = true := by simpa using z6
    by_cases zl : n = 0
    · rw [show ok ⟨4, sr, nm, cl, na, sz, of, da, su, co, ga⟩ = true from ok_k4.2 (by exact ⟨hh, by omega, by omega, (Decidable.not_not.1 z2), by omega, by omega, z5, by omega, (List.eq_nil_of_length_eq_zero (by omega))⟩)]
      have g1 : ((n : Int) == 0) = true := by rw [zl]; rfl
      have g2 : (n == 0) = true := by rw [zl]; rfl
      clear h hda hga hh zl z0 z1 z2 z3 z4 z5 z6
      go_enter Try.func23, Try.ntmps23
      go_wp2_with fail
      refine (uc _).mono ?_
      rintro e w1 ⟨rfl, rfl⟩
      go_wp2_with fail
      refine (uc _).mono ?_
      rintro e w1 ⟨rfl, rfl⟩
      go_wp2_with fail
      refine (ud _).mono ?_
      rintro e w1 ⟨rfl, rfl⟩
      go_wp2_with fail
      refine (ud _).mono ?_
      rintro e w1 ⟨rfl, rfl⟩
      go_wp2_with fail
      refine (ug _ hb0).mono ?_
      rintro e w1 ⟨rfl, hb1⟩
      have hC1 := Cel.on hC0 hb1
      have c0 := hC1.cell 0
      have c5 := hC1.cell 5
      have c6 := hC1.cell 6
      have c7 := hC1.cell 7
      simp only [List.getElem?_toArray, List.getElem?_cons_zero, List.getElem?_cons_succ] at c0 c5 c6 c7
      clear hC0 hC1
      go_wp2
      go_ret
      exact ⟨rfl, hb0.trans (hb1.mono hb0.size)⟩
    · rw [ok_no (fun q => by have q' := ok_k4.1 q; have q2 : da = [] := q'.2.2.2.2.2.2.2.2; rw [q2] at hda; simp at hda; omega)]
      have g1 : ((n : Int) == 0) = false := by simp; omega
      have g2 : (n == 0) = false := by simp; omega
      clear h hda hga hh zl z0 z1 z2 z3 z4 z5 z6
      go_enter Try.func23, Try.ntmps23
      go_wp2_with fail
      refine (uc _).mono ?_
      rintro e w1 ⟨rfl, rfl⟩
      go_wp2_with fail
      refine (uc _).mono ?_
      rintro e w1 ⟨rfl, rfl⟩
      go_wp2_with fail
      refine (ud _).mono ?_
      rintro e w1 ⟨rfl, rfl⟩
      go_wp2_with fail
      refine (ud _).mono ?_
      rintro e w1 ⟨rfl, rfl⟩
      go_wp2_with fail
      refine (ug _ hb0).mono ?_
      rintro e w1 ⟨rfl, hb1⟩
      have hC1 := Cel.on hC0 hb1
      have c0 := hC1.cell 0
      have c5 := hC1.cell 5
      have c6 := hC1.cell 6
      have c7 := hC1.cell 7
      simp only [List.getElem?_toArray, List.getElem?_cons_zero, List.getElem?_cons_succ] at c0 c5 c6 c7
      clear hC0 hC1
      go_wp2
      go_ret
      exact ⟨rfl, hb0.trans (hb1.mono hb0.size)⟩
end Go.Proofs.Ytaaikmncdgfkmaa.Pdu
