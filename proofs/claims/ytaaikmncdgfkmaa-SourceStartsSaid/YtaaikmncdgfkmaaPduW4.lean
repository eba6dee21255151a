/-
  Package pdu: zero, Valid.
-/
import Derived.Test.YtaaikmncdgfkmaaPduW3
namespace Go.Proofs.Ytaaikmncdgfkmaa.Pdu
open Go.RowKit Go.Proofs.Ytaaikmncdgfkmaa.Row

theorem str_nil : (str []).toList = [] := by simp [str_toList]
set_option maxRecDepth 100000 in
set_option maxHeartbeats 4000000 in
theorem pzero_any (kd sr nm cl : Int) (na : List Byte) (sz of : Int) (da : List Byte) (su : Nat) (co : Int) (ga : List R) (A : Option Addr) (n a : Nat) (G : Option Addr) (m c : Nat) (w : World) (h : Px w ⟨kd, sr, nm, cl, na, sz, of, da, su, co, ga⟩ A n a G m c) :
    Calls Try.prog 40 #[.agg #[I kd, I sr, I nm, I cl, .string (str na), I sz, I of, .slice A n a, .int .u32 (su : Int), I co, .slice G m c]] w fun e w' => e = .returned (.bool (zer ⟨kd, sr, nm, cl, na, sz, of, da, su, co, ga⟩)) ∧ Below w.heap.size w w' := by
  have hb0 := bel_new w (.cells #[I kd, I sr, I nm, I cl, .string (str na), I sz, I of, .slice A n a, .int .u32 (su : Int), I co, .slice G m c] 45)
  have hda := h.b.len
  have hga := h.g.len
  simp only at hda hga
  clear h
  by_cases zcl : cl = 0
  case neg =>
    rw [show zer ⟨kd, sr, nm, cl, na, sz, of, da, su, co, ga⟩ = false from decide_eq_false (fun q => zcl q.1)]
    have tcl := show (cl == 0) = false by simpa using zcl
    clear hda hga zcl 
    go_enter Try.func40, Try.ntmps40
    go_wp2
    go_ret
    exact ⟨rfl, hb0⟩
  have tcl := show (cl == 0) = true by simpa using zcl
  by_cases zna : na = []
  case neg =>
    rw [show zer ⟨kd, sr, nm, cl, na, sz, of, da, su, co, ga⟩ = false from decide_eq_false (fun q => zna q.2.1)]
    have tna := show ((str na).toList == []) = false by have := str_beq na []; rw [str_nil] at this; rw [this]; simpa using zna
    clear hda hga zna zcl
    go_enter Try.func40, Try.ntmps40
    go_wp2
    go_ret
    exact ⟨rfl, hb0⟩
  have tna := show ((str na).toList == []) = true by rw [zna, str_nil]; rfl
  by_cases zsz : sz = 0
  case neg =>
    rw [show zer ⟨kd, sr, nm, cl, na, sz, of, da, su, co, ga⟩ = false from decide_eq_false (fun q => zsz q.2.2.1)]
    have tsz := show (sz == 0) = false by simpa using zsz
    clear hda hga zsz zcl zna
    go_enter Try.func40, Try.ntmps40
    go_wp2
    go_ret
    exact ⟨rfl, hb0⟩
  have tsz := show (sz == 0) = true by simpa using zsz
  by_cases zof : of = 0
  case neg =>
    rw [show zer ⟨kd, sr, nm, cl, na, sz, of, da, su, co, ga⟩ = false from decide_eq_false (fun q => zof q.2.2.2.1)]
    have tof := show (of == 0) = false by simpa using zof
    clear hda hga zof zcl zna zsz
    go_enter Try.func40, Try.ntmps40
    go_wp2
    go_ret
    exact ⟨rfl, hb0⟩
  have tof := show (of == 0) = true by simpa using zof
  by_cases zda : da = []
  case neg =>
    rw [show zer ⟨kd, sr, nm, cl, na, sz, of, da, su, co, ga⟩ = false from decide_eq_false (fun q => zda q.2.2.2.2.1)]
    have tda := show ((n : Int) == 0) = false by have := List.length_pos_iff.2 zda; simp; omega
    have t4b : (n == 0) = false := by have := List.length_pos_iff.2 zda; simp; omega
    clear hda hga zda zcl zna zsz zof
    go_enter Try.func40, Try.ntmps40
    go_wp2
    go_ret
    exact ⟨rfl, hb0⟩
  have tda := show ((n : Int) == 0) = true by rw [zda] at hda; rw [← hda]; rfl
  have t4b : (n == 0) = true := by rw [zda] at hda; rw [← hda]; rfl
  by_cases zsu : su = 0
  case neg =>
    rw [show zer ⟨kd, sr, nm, cl, na, sz, of, da, su, co, ga⟩ = false from decide_eq_false (fun q => zsu q.2.2.2.2.2.1)]
    have tsu := show ((su : Int) == 0) = false by simp; omega
    have t5b : (su == 0) = false := by simpa using zsu
    clear hda hga zsu zcl zna zsz zof zda
    go_enter Try.func40, Try.ntmps40
    go_wp2
    go_ret
    exact ⟨rfl, hb0⟩
  have tsu := show ((su : Int) == 0) = true by rw [zsu]; rfl
  have t5b : (su == 0) = true := by simpa using zsu
  by_cases zco : co = 0
  case neg =>
    rw [show zer ⟨kd, sr, nm, cl, na, sz, of, da, su, co, ga⟩ = false from decide_eq_false (fun q => zco q.2.2.2.2.2.2.1)]
    have tco := show (co == 0) = false by simpa using zco
    clear hda hga zco zcl zna zsz zof zda zsu
    go_enter Try.func40, Try.ntmps40
    go_wp2
    go_ret
    exact ⟨rfl, hb0⟩
  have tco := show (co == 0) = true by simpa using zco
  by_cases zga : ga = []
  case neg =>
    rw [show zer ⟨kd, sr, nm, cl, na, sz, of, da, su, co, ga⟩ = false from decide_eq_false (fun q => zga q.2.2.2.2.2.2.2)]
    have tga := show ((m : Int) == 0) = false by have := List.length_pos_iff.2 zga; simp; omega
    have t7b : (m == 0) = false := by have := List.length_pos_iff.2 zga; simp; omega
    clear hda hga zga zcl zna zsz zof zda zsu zco
    go_enter Try.func40, Try.ntmps40
    go_wp2
    go_ret
    exact ⟨rfl, hb0⟩
  have tga := show ((m : Int) == 0) = true by rw [zga] at hga; rw [← hga]; rfl
  have t7b : (m == 0) = true := by rw [zga] at hga; rw [← hga]; rfl
  rw [show zer ⟨kd, sr, nm, cl, na, sz, of, da, su, co, ga⟩ = true from decide_eq_true ⟨zcl, zna, zsz, zof, zda, zsu, zco, zga⟩]
  clear hda hga zcl zna zsz zof zda zsu zco zga
  go_enter Try.func40, Try.ntmps40
  go_wp2
  go_ret
  exact ⟨rfl, hb0⟩

set_option maxRecDepth 100000 in
set_option maxHeartbeats 4000000 in
theorem pvalid_any (kd sr nm cl : Int) (na : List Byte) (sz of : Int) (da : List Byte) (su : Nat) (co : Int) (ga : List R) (A : Option Addr) (n a : Nat) (G : Option Addr) (m c : Nat) (w : World) (h : Px w ⟨kd, sr, nm, cl, na, sz, of, da, su, co, ga⟩ A n a G m c) :
    Calls Try.prog 20 #[.agg #[I kd, I sr, I nm, I cl, .string (str na), I sz, I of, .slice A n a, .int .u32 (su : Int), I co, .slice G m c]] w fun e w' => e = .returned (.bool (ok ⟨kd, sr, nm, cl, na, sz, of, da, su, co, ga⟩)) ∧ Below w.heap.size w w' := by
  have hb0 := bel_new w (.cells #[I kd, I sr, I nm, I cl, .string (str na), I sz, I of, .slice A n a, .int .u32 (su : Int), I co, .slice G m c] 45)
  have hC0 := Cel.new w 45 #[I kd, I sr, I nm, I cl, .string (str na), I sz, I of, .slice A n a, .int .u32 (su : Int), I co, .slice G m c]
  have ui := fun W => pid_any sr nm W
  have uu := fun W (q : Below w.heap.size w W) => pused_any kd sr nm cl na sz of da su co ga A n a G m c W (h.later q)
  have un := fun W (q : Below w.heap.size w W) => punused_any kd sr nm cl na sz of da su co ga A n a G m c W (h.later q)
  obtain ⟨D1, h1⟩ : ∃ D, vid ⟨kd, sr, nm, cl, na, sz, of, da, su, co, ga⟩ = D := ⟨_, rfl⟩
  obtain ⟨D2, h2⟩ : ∃ D, used ⟨kd, sr, nm, cl, na, sz, of, da, su, co, ga⟩ = D := ⟨_, rfl⟩
  have h1' : (wi sr 15 && wi nm 65535) = D1 := h1
  rw [show ok ⟨kd, sr, nm, cl, na, sz, of, da, su, co, ga⟩ = (D1 && (D2 && zer (unu ⟨kd, sr, nm, cl, na, sz, of, da, su, co, ga⟩))) by rw [← h1, ← h2]; rfl]
  simp only [h1'] at ui
  simp only [h2] at uu
  clear h1 h2 h1' h
  cases D1 with
  | false =>
    rw [Bool.false_and]
    clear uu un
    go_enter Try.func20, Try.ntmps20
    go_wp2_with fail
    refine (ui _).mono ?_
    rintro e w1 ⟨rfl, hb1⟩
    go_wp2
    go_ret
    exact ⟨rfl, hb0.trans (hb1.mono hb0.size)⟩
  | true =>
    rw [Bool.true_and]
    cases D2 with
    | false =>
      rw [Bool.false_and]
      clear un
      go_enter Try.func20, Try.ntmps20
      go_wp2_with fail
      refine (ui _).mono ?_
      rintro e w1 ⟨rfl, hb1⟩
      have b1 := hb0.trans (hb1.mono hb0.size)
      have hC1 := Cel.on hC0 hb1
      have uu' := uu w1 b1
      have c0 := hC1.cell 0
      have c1 := hC1.cell 1
      have c2 := hC1.cell 2
      have c3 := hC1.cell 3
      have c4 := hC1.cell 4
      have c5 := hC1.cell 5
      have c6 := hC1.cell 6
      have c7 := hC1.cell 7
      have c8 := hC1.cell 8
      have c9 := hC1.cell 9
      have c10 := hC1.cell 10
      simp at c0 c1 c2 c3 c4 c5 c6 c7 c8 c9 c10
      clear uu ui hC0 hC1
      go_wp2_with fail
      refine uu'.mono ?_
      rintro e w2 ⟨rfl, hb2⟩
      go_wp2
      go_ret
      exact ⟨rfl, b1.trans (hb2.mono b1.size)⟩
    | true =>
      rw [Bool.true_and]
      go_enter Try.func20, Try.ntmps20
      go_wp2_with fail
      refine (ui _).mono ?_
      rintro e w1 ⟨rfl, hb1⟩
      have b1 := hb0.trans (hb1.mono hb0.size)
      have hC1 := Cel.on hC0 hb1
      have uu' := uu w1 b1
      have c0 := hC1.cell 0
      have c1 := hC1.cell 1
      have c2 := hC1.cell 2
      have c3 := hC1.cell 3
      have c4 := hC1.cell 4
      have c5 := hC1.cell 5
      have c6 := hC1.cell 6
      have c7 := hC1.cell 7
      have c8 := hC1.cell 8
      have c9 := hC1.cell 9
      have c10 := hC1.cell 10
      simp at c0 c1 c2 c3 c4 c5 c6 c7 c8 c9 c10
      clear uu ui
      go_wp2_with fail
      refine uu'.mono ?_
      rintro e w2 ⟨rfl, hb2⟩
      have b2 := b1.trans (hb2.mono b1.size)
      have hC2 := Cel.on hC1 hb2
      clear c0 c1 c2 c3 c4 c5 c6 c7 c8 c9 c10
      have c0 := hC2.cell 0
      have c1 := hC2.cell 1
      have c2 := hC2.cell 2
      have c3 := hC2.cell 3
      have c4 := hC2.cell 4
      have c5 := hC2.cell 5
      have c6 := hC2.cell 6
      have c7 := hC2.cell 7
      have c8 := hC2.cell 8
      have c9 := hC2.cell 9
      have c10 := hC2.cell 10
      simp at c0 c1 c2 c3 c4 c5 c6 c7 c8 c9 c10
      have un' := un w2 b2
      clear un uu' hC0 hC1 hC2
      go_wp2_with fail
      refine un'.mono ?_
      rintro e w3 ⟨⟨cl', na', sz', of', da', su', co', ga', A', n', a', G', m', c', rfl, hu, hp⟩, hb3⟩
      have uz := pzero_any kd sr nm cl' na' sz' of' da' su' co' ga' A' n' a' G' m' c' w3 (hp.later hb3)
      rw [← hu] at uz
      have HU := Lib.hid hu
      clear hu hp c0 c1 c2 c3 c4 c5 c6 c7 c8 c9 c10 un'
      go_wp2_with fail
      refine uz.mono ?_
      rintro e w4 ⟨rfl, hb4⟩
      have b3 := b2.trans (hb3.mono b2.size)
      go_wp2
      go_ret
      exact ⟨rfl, b3.trans (hb4.mono b3.size)⟩
end Go.Proofs.Ytaaikmncdgfkmaa.Pdu
