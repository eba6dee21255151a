/-
  Package pdu: validUsed, zero, unused, Valid.
-/
import Derived.Test.YtaaikmncdgfkmaaPduW2
namespace Go.Proofs.Ytaaikmncdgfkmaa.Pdu
open Go.RowKit Go.Proofs.Ytaaikmncdgfkmaa.Row

set_option maxRecDepth 100000 in
set_option maxHeartbeats 4000000 in
theorem pused_any (kd sr nm cl : Int) (na : List Byte) (sz of : Int) (da : List Byte) (su : Nat) (co : Int) (ga : List R) (A : Option Addr) (n a : Nat) (G : Option Addr) (m c : Nat) (w : World) (h : Px w ⟨kd, sr, nm, cl, na, sz, of, da, su, co, ga⟩ A n a G m c) :
    Calls Try.prog 39 #[.agg #[I kd, I sr, I nm, I cl, .string (str na), I sz, I of, .slice A n a, .int .u32 (su : Int), I co, .slice G m c]] w fun e w' => e = .returned (.bool (used ⟨kd, sr, nm, cl, na, sz, of, da, su, co, ga⟩)) ∧ Below w.heap.size w w' := by
  obtain ⟨N, hN⟩ : ∃ N, na.length = N := ⟨_, rfl⟩
  have un := fun W => pname_any na N W (Lib.hid hN)
  have uc := fun W => pclass_any cl W
  have us := fun W => pwithin_any sz 65536 W
  have ug := fun W (q : Below w.heap.size w W) => pgaps_any G ga m c W (h.g.later q)
  have hda := h.b.len
  simp only at hda
  have up := fun W => ppiece_any of n W
  have ue := fun W => pcode_any co W
  have hb0 := bel_new w (.cells #[I kd, I sr, I nm, I cl, .string (str na), I sz, I of, .slice A n a, .int .u32 (su : Int), I co, .slice G m c] 45)
  by_cases k1 : kd = 1
  · subst k1
    rw [show used ⟨1, sr, nm, cl, na, sz, of, da, su, co, ga⟩ = (vcl cl && (wi sz 65536 && vna na)) by simp [used]]
    obtain ⟨D1, h1⟩ : ∃ D, vcl cl = D := ⟨_, rfl⟩
    obtain ⟨D2, h2⟩ : ∃ D, wi sz 65536 = D := ⟨_, rfl⟩
    rw [h1] at uc ⊢
    rw [h2] at us ⊢
    clear h1 h2 ug up ue h hN hda
    cases D1 with
    | false =>
      rw [Bool.false_and]
      go_enter Try.func39, Try.ntmps39
      go_wp2_with fail
      refine (uc _).mono ?_
      rintro e w1 ⟨rfl, rfl⟩
      go_wp2
      go_ret
      exact ⟨rfl, hb0⟩
    | true =>
      rw [Bool.true_and]
      cases D2 with
      | false =>
        rw [Bool.false_and]
        go_enter Try.func39, Try.ntmps39
        go_wp2_with fail
        refine (uc _).mono ?_
        rintro e w1 ⟨rfl, rfl⟩
        go_wp2_with fail
        refine (us _).mono ?_
        rintro e w1 ⟨rfl, rfl⟩
        go_wp2
        go_ret
        exact ⟨rfl, hb0⟩
      | true =>
        rw [Bool.true_and]
        go_enter Try.func39, Try.ntmps39
        go_wp2_with fail
        refine (uc _).mono ?_
        rintro e w1 ⟨rfl, rfl⟩
        go_wp2_with fail
        refine (us _).mono ?_
        rintro e w1 ⟨rfl, rfl⟩
        go_wp2_with fail
        refine (un _).mono ?_
        rintro e w1 ⟨rfl, hb1⟩
        go_wp2
        go_ret
        exact ⟨rfl, hb0.trans (hb1.mono hb0.size)⟩
  have t1 : (kd == 1) = false := by simpa using k1
  by_cases k2 : kd = 2
  · subst k2
    rw [show used ⟨2, sr, nm, cl, na, sz, of, da, su, co, ga⟩ = vpc of n by simp [used, hda]]
    clear k1 uc us ug ue un h hN hda
    go_enter Try.func39, Try.ntmps39
    go_wp2_with fail
    refine (up _).mono ?_
    rintro e w1 ⟨rfl, rfl⟩
    go_wp2
    go_ret
    exact ⟨rfl, hb0⟩
  have t2 : (kd == 2) = false := by simpa using k2
  by_cases k3 : kd = 3
  · subst k3
    rw [show used ⟨3, sr, nm, cl, na, sz, of, da, su, co, ga⟩ = (vcl cl && (wi sz 65536 && wi co 17)) by simp [used]]
    obtain ⟨D1, h1⟩ : ∃ D, vcl cl = D := ⟨_, rfl⟩
    obtain ⟨D2, h2⟩ : ∃ D, wi sz 65536 = D := ⟨_, rfl⟩
    rw [h1] at uc ⊢
    rw [h2] at us ⊢
    clear h1 h2 ug up un h hN hda k1 k2
    cases D1 with
    | false =>
      rw [Bool.false_and]
      go_enter Try.func39, Try.ntmps39
      go_wp2_with fail
      refine (uc _).mono ?_
      rintro e w1 ⟨rfl, rfl⟩
      go_wp2
      go_ret
      exact ⟨rfl, hb0⟩
    | true =>
      rw [Bool.true_and]
      cases D2 with
      | false =>
        rw [Bool.false_and]
        go_enter Try.func39, Try.ntmps39
        go_wp2_with fail
        refine (uc _).mono ?_
        rintro e w1 ⟨rfl, rfl⟩
        go_wp2_with fail
        refine (us _).mono ?_
        rintro e w1 ⟨rfl, rfl⟩
        go_wp2
        go_ret
        exact ⟨rfl, hb0⟩
      | true =>
        rw [Bool.true_and]
        go_enter Try.func39, Try.ntmps39
        go_wp2_with fail
        refine (uc _).mono ?_
        rintro e w1 ⟨rfl, rfl⟩
        go_wp2_with fail
        refine (us _).mono ?_
        rintro e w1 ⟨rfl, rfl⟩
        go_wp2_with fail
        refine (ue _).mono ?_
        rintro e w1 ⟨rfl, rfl⟩
        go_wp2
        go_ret
        exact ⟨rfl, hb0⟩
  have t3 : (kd == 3) = false := by simpa using k3
  by_cases k4 : kd = 4
  · subst k4
    rw [show used ⟨4, sr, nm, cl, na, sz, of, da, su, co, ga⟩ = vga ga by simp [used]]
    have ug' := ug _ hb0
    clear k1 k2 k3 uc us up ue un h hN hda ug
    go_enter Try.func39, Try.ntmps39
    go_wp2_with fail
    refine ug'.mono ?_
    rintro e w1 ⟨rfl, hb1⟩
    go_wp2
    go_ret
    exact ⟨rfl, hb0.trans (hb1.mono hb0.size)⟩
  have t4 : (kd == 4) = false := by simpa using k4
  by_cases k5 : kd = 5
  · subst k5
    rw [show used ⟨5, sr, nm, cl, na, sz, of, da, su, co, ga⟩ = wi co 17 by simp [used]]
    clear k1 k2 k3 k4 uc us up ug un h hN hda
    go_enter Try.func39, Try.ntmps39
    go_wp2_with fail
    refine (ue _).mono ?_
    rintro e w1 ⟨rfl, rfl⟩
    go_wp2
    go_ret
    exact ⟨rfl, hb0⟩
  have t5 : (kd == 5) = false := by simpa using k5
  by_cases k6 : kd = 6
  · subst k6
    rw [show used ⟨6, sr, nm, cl, na, sz, of, da, su, co, ga⟩ = true by simp [used]]
    clear k1 k2 k3 k4 k5 uc us up ug un ue h hN hda
    go_enter Try.func39, Try.ntmps39
    go_wp2
    go_ret
    exact ⟨rfl, hb0⟩
  have t6 : (kd == 6) = false := by simpa using k6
  by_cases k7 : kd = 7
  · subst k7
    rw [show used ⟨7, sr, nm, cl, na, sz, of, da, su, co, ga⟩ = true by simp [used]]
    clear k1 k2 k3 k4 k5 k6 uc us up ug un ue h hN hda
    go_enter Try.func39, Try.ntmps39
    go_wp2
    go_ret
    exact ⟨rfl, hb0⟩
  have t7 : (kd == 7) = false := by simpa using k7
  rw [show used ⟨kd, sr, nm, cl, na, sz, of, da, su, co, ga⟩ = false by simp [used, k1, k2, k3, k4, k5, k6, k7]]
  clear k1 k2 k3 k4 k5 k6 k7 uc us up ug un ue h hN hda
  go_enter Try.func39, Try.ntmps39
  go_wp2
  go_ret
  exact ⟨rfl, hb0⟩

theorem Cel_two (w : World) (o : Obj) (t : TypeId) (cs : Array Value) : Cel ((w.alloc o).alloc (.cells cs t)) (w.heap.size + 1) t cs := by
  have := Cel.new (w.alloc o) t cs
  simpa using this
theorem un_results {tmps : Array Value} {W : World} {g : Nat} {x0 x1 x2 x3 x4 x5 x6 x7 x8 x9 x10 : Value} (h2 : tmps.getD 2 undef = .pointer (some ⟨g, 0, none⟩)) (hC : Cel W g 45 #[x0, x1, x2, x3, x4, x5, x6, x7, x8, x9, x10]) :
    (results Try.f41 tmps).run Try.prog W = .ok (.agg #[x0, x1, x2, x3, x4, x5, x6, x7, x8, x9, x10]) W := by
  have c0 := hC.cell 0
  have c1 := hC.cell 1
  have c2 := hC.cell 2
  have c3 := hC.cell 3
  have c4 := hC.cell 4
  have c5 := hC.cell 5
  have c6 := hC.cell 6
  have c7 := hC.cell 7
  have c8 := hC.cell 8
  have c9 := hC.cell 9
  have c10 := hC.cell 10
  simp at c0 c1 c2 c3 c4 c5 c6 c7 c8 c9 c10
  simp only [Array.getD_eq_getD_getElem?] at h2
  simp [results, Try.results41, go_sem, h2, c0, c1, c2, c3, c4, c5, c6, c7, c8, c9, c10]

/-- a slice that is left or taken away -/
def Lft (b : Bool) (A : Option Addr) (n a : Nat) (A' : Option Addr) (n' a' : Nat) : Prop := (A', n', a') = if b then (none, 0, 0) else (A, n, a)
set_option maxRecDepth 100000 in
set_option maxHeartbeats 4000000 in
theorem punused_any (kd sr nm cl : Int) (na : List Byte) (sz of : Int) (da : List Byte) (su : Nat) (co : Int) (ga : List R) (A : Option Addr) (n a : Nat) (G : Option Addr) (m c : Nat) (w : World) (h : Px w ⟨kd, sr, nm, cl, na, sz, of, da, su, co, ga⟩ A n a G m c) :
    Calls Try.prog 41 #[.agg #[I kd, I sr, I nm, I cl, .string (str na), I sz, I of, .slice A n a, .int .u32 (su : Int), I co, .slice G m c]] w fun e w' => (∃ (cl' : Int) (na' : List Byte) (sz' of' : Int) (da' : List Byte) (su' : Nat) (co' : Int) (ga' : List R) (A' : Option Addr) (n' a' : Nat) (G' : Option Addr) (m' c' : Nat),
      e = .returned (.agg #[I kd, I sr, I nm, I cl', .string (str na'), I sz', I of', .slice A' n' a', .int .u32 (su' : Int), I co', .slice G' m' c']) ∧ unu ⟨kd, sr, nm, cl, na, sz, of, da, su, co, ga⟩ = ⟨kd, sr, nm, cl', na', sz', of', da', su', co', ga'⟩ ∧ Px w ⟨kd, sr, nm, cl', na', sz', of', da', su', co', ga'⟩ A' n' a' G' m' c') ∧ Below w.heap.size w w' := by
  have hs := h.s
  simp only at hs
  have hz : (.string (str []) : Value) = .string ⟨#[]⟩ := rfl
  by_cases k1 : kd = 1
  · subst k1
    have e1 : unu ⟨1, sr, nm, cl, na, sz, of, da, su, co, ga⟩ = ⟨1, sr, nm, 0, [], 0, of, da, su, co, ga⟩ := by simp [unu]
    have HU := Lib.hid e1
    have HP := Lib.hid (show Px w ⟨1, sr, nm, 0, [], 0, of, da, su, co, ga⟩ A n a G m c from ⟨h.b, h.g, hs⟩)
    clear h e1 hs 
    go_enter Try.func41, Try.ntmps41
    go_wp2
    exact bodyPost_ret (un_results rfl (Cel_two _ _ _ _)) rfl ⟨⟨0, [], 0, of, da, su, co, ga, A, n, a, G, m, c, rfl, HU.out, HP.out⟩, (bel_new _ _).alloc (bel_new _ _).size _⟩
  have t1 : (kd == 1) = false := by simpa using k1
  by_cases k2 : kd = 2
  · subst k2
    have e1 : unu ⟨2, sr, nm, cl, na, sz, of, da, su, co, ga⟩ = ⟨2, sr, nm, cl, na, sz, 0, [], su, co, ga⟩ := by simp [unu]
    have HU := Lib.hid e1
    have HP := Lib.hid (show Px w ⟨2, sr, nm, cl, na, sz, 0, [], su, co, ga⟩ none 0 0 G m c from ⟨Bx.zero w, h.g, hs⟩)
    clear h e1 hs k1
    go_enter Try.func41, Try.ntmps41
    go_wp2
    exact bodyPost_ret (un_results rfl (Cel_two _ _ _ _)) rfl ⟨⟨cl, na, sz, 0, [], su, co, ga, none, 0, 0, G, m, c, rfl, HU.out, HP.out⟩, (bel_new _ _).alloc (bel_new _ _).size _⟩
  have t2 : (kd == 2) = false := by simpa using k2
  by_cases k3 : kd = 3
  · subst k3
    have e1 : unu ⟨3, sr, nm, cl, na, sz, of, da, su, co, ga⟩ = ⟨3, sr, nm, 0, na, 0, of, da, 0, 0, ga⟩ := by simp [unu]
    have HU := Lib.hid e1
    have HP := Lib.hid (show Px w ⟨3, sr, nm, 0, na, 0, of, da, 0, 0, ga⟩ A n a G m c from ⟨h.b, h.g, (show 0 < 4294967296 by decide)⟩)
    clear h e1 hs k1 k2
    go_enter Try.func41, Try.ntmps41
    go_wp2
    exact bodyPost_ret (un_results rfl (Cel_two _ _ _ _)) rfl ⟨⟨0, na, 0, of, da, 0, 0, ga, A, n, a, G, m, c, rfl, HU.out, HP.out⟩, (bel_new _ _).alloc (bel_new _ _).size _⟩
  have t3 : (kd == 3) = false := by simpa using k3
  by_cases k4 : kd = 4
  · subst k4
    have e1 : unu ⟨4, sr, nm, cl, na, sz, of, da, su, co, ga⟩ = ⟨4, sr, nm, cl, na, sz, of, da, su, co, []⟩ := by simp [unu]
    have HU := Lib.hid e1
    have HP := Lib.hid (show Px w ⟨4, sr, nm, cl, na, sz, of, da, su, co, []⟩ A n a none 0 0 from ⟨h.b, Gx.zero w, hs⟩)
    clear h e1 hs k1 k2 k3
    go_enter Try.func41, Try.ntmps41
    go_wp2
    exact bodyPost_ret (un_results rfl (Cel_two _ _ _ _)) rfl ⟨⟨cl, na, sz, of, da, su, co, [], A, n, a, none, 0, 0, rfl, HU.out, HP.out⟩, (bel_new _ _).alloc (bel_new _ _).size _⟩
  have t4 : (kd == 4) = false := by simpa using k4
  by_cases k5 : kd = 5
  · subst k5
    have e1 : unu ⟨5, sr, nm, cl, na, sz, of, da, su, co, ga⟩ = ⟨5, sr, nm, cl, na, sz, of, da, su, 0, ga⟩ := by simp [unu]
    have HU := Lib.hid e1
    have HP := Lib.hid (show Px w ⟨5, sr, nm, cl, na, sz, of, da, su, 0, ga⟩ A n a G m c from ⟨h.b, h.g, hs⟩)
    clear h e1 hs k1 k2 k3 k4
    go_enter Try.func41, Try.ntmps41
    go_wp2
    exact bodyPost_ret (un_results rfl (Cel_two _ _ _ _)) rfl ⟨⟨cl, na, sz, of, da, su, 0, ga, A, n, a, G, m, c, rfl, HU.out, HP.out⟩, (bel_new _ _).alloc (bel_new _ _).size _⟩
  have t5 : (kd == 5) = false := by simpa using k5
  have HU := Lib.hid (show unu ⟨kd, sr, nm, cl, na, sz, of, da, su, co, ga⟩ = ⟨kd, sr, nm, cl, na, sz, of, da, su, co, ga⟩ by simp [unu, k1, k2, k3, k4, k5])
  have HP := Lib.hid h
  clear h hs k1 k2 k3 k4 k5
  go_enter Try.func41, Try.ntmps41
  go_wp2
  exact bodyPost_ret (un_results rfl (Cel_two _ _ _ _)) rfl ⟨⟨cl, na, sz, of, da, su, co, ga, A, n, a, G, m, c, rfl, HU.out, HP.out⟩, (bel_new _ _).alloc (bel_new _ _).size _⟩
end Go.Proofs.Ytaaikmncdgfkmaa.Pdu
