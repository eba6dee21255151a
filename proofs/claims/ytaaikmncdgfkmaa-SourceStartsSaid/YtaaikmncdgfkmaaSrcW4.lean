/-
  Package source: Next.
-/
import Derived.Test.YtaaikmncdgfkmaaSrcW3
namespace Go.Proofs.Ytaaikmncdgfkmaa.Src
open Go.RowKit
open Go.Proofs.Ytaaikmncdgfkmaa.Pdu (Pd)
open Go.Proofs.Ytaaikmncdgfkmaa.Rng (R)
open Go.Proofs.Ytaaikmncdgfkmaa.Fsm (ps)
section
variable {K : Kc} {s : SS} {A : Option Addr} {n c : Nat} {g : Nat} {w : World}
set_option maxRecDepth 100000 in
set_option maxHeartbeats 4000000 in
theorem snx_su (m : Int) (S : SS) (hS : S = adv m s) (h : FX w g K s A n c) (_hK0 : K.Ok) (ok : s.Ok K) (_oS : S.Ok K) (e1 : S.su = true) :
    Calls Try.prog 13 #[.pointer (some ⟨g, 0, none⟩), .int .i64 m] w fun e w' => ( ∃ kd sr nm cl na sz of da su co A0 n0 a0, e = .returned (.tuple #[.agg #[.int .i64 kd, .int .i64 sr, .int .i64 nm, .int .i64 cl, .string (str na), .int .i64 sz, .int .i64 of, .slice A0 n0 a0, .int .u32 ((su : Nat) : Int), .int .i64 co, .slice none 0 0], .bool false]) ∧ UR w w' Pd.none kd sr nm cl na sz of da su co A0 n0 a0) ∧ FW w' g K S ∧ Only [g] w w' := by
  obtain ⟨W, hW, hu, hb, hs⟩ := unit_box w
  have h1 := h.below hb
  have o0 : Only [g] w W := Only.of_below hb
  have hne : w.heap.size ≠ g := (Cel.apart (t := TS) h1.cel hu (by decide)).symm
  have hwk := sworks_any h1.cel ok.p1
  have hav := sadvance_any h1 m
  rw [← hS] at hav
  have HH := Lib.hid (And.intro hu (And.intro o0 hne))
  clear h h1 hu hb hs ok hne o0 hS
  go_enter Try.func13, Try.ntmps13
  go_upto_region 1 with fail
  rw [← hW]
  clear hW
  go_wp2_with fail
  refine hwk.mono ?_
  rintro e w1 ⟨rfl, rfl⟩
  clear hwk
  go_wp2_with fail
  refine hav.mono ?_
  rintro e W1 ⟨rfl, x1, k1⟩
  obtain ⟨hu, o0, hne⟩ := HH.out
  have o1 := only_then o0 k1
  have u1 := hu.only k1 (by simpa using hne)
  clear hav HH hu o0 k1
  have c9 := x1.cel.c9
  rw [e1] at c9
  clear e1
  have HE := Lib.hid (fin_box x1 o1 (Nat.le_refl _) u1)
  obtain ⟨d0, d1, d2, d3, d4, d5, d6, d7, d8, d9, d10, ff⟩ := Ub.of u1
  have i0 := ff 0
  have i1 := ff 1
  have i2 := ff 2
  have i3 := ff 3
  have i4 := ff 4
  have i5 := ff 5
  have i6 := ff 6
  have i7 := ff 7
  have i8 := ff 8
  have i9 := ff 9
  have i10 := ff 10
  clear ff
  clear x1 o1 u1 hne
  go_wp2
  have e := HE.out
  exact bodyPost_ret (nxt_results rfl rfl (e _ _ _ _ _ _ _ _ _ _ _).1) rfl ⟨⟨0, 0, 0, 0, [], 0, 0, [], 0, 0, none, 0, 0, rfl, rfl, By.zero _ _, by decide⟩, ⟨_, _, _, (e _ _ _ _ _ _ _ _ _ _ _).2.1⟩, (e _ _ _ _ _ _ _ _ _ _ _).2.2⟩
set_option maxRecDepth 100000 in
set_option maxHeartbeats 4000000 in
theorem snx_ad (m : Int) (S : SS) (hS : S = adv m s) (h : FX w g K s A n c) (_hK0 : K.Ok) (ok : s.Ok K) (_oS : S.Ok K) (e1 : S.su = false) (e2 : S.ad = true) :
    Calls Try.prog 13 #[.pointer (some ⟨g, 0, none⟩), .int .i64 m] w fun e w' => ( ∃ kd sr nm cl na sz of da su co A0 n0 a0, e = .returned (.tuple #[.agg #[.int .i64 kd, .int .i64 sr, .int .i64 nm, .int .i64 cl, .string (str na), .int .i64 sz, .int .i64 of, .slice A0 n0 a0, .int .u32 ((su : Nat) : Int), .int .i64 co, .slice none 0 0], .bool true]) ∧ UR w w' K.akd kd sr nm cl na sz of da su co A0 n0 a0) ∧ FW w' g K (akS S) ∧ Only [g] w w' := by
  obtain ⟨W, hW, hu, hb, hs⟩ := unit_box w
  have h1 := h.below hb
  have o0 : Only [g] w W := Only.of_below hb
  have hne : w.heap.size ≠ g := (Cel.apart (t := TS) h1.cel hu (by decide)).symm
  have hwk := sworks_any h1.cel ok.p1
  have hav := sadvance_any h1 m
  rw [← hS] at hav
  have HH := Lib.hid (And.intro hu (And.intro o0 hne))
  clear h h1 hu hb hs ok hne o0 hS
  go_enter Try.func13, Try.ntmps13
  go_upto_region 1 with fail
  rw [← hW]
  clear hW
  go_wp2_with fail
  refine hwk.mono ?_
  rintro e w1 ⟨rfl, rfl⟩
  clear hwk
  go_wp2_with fail
  refine hav.mono ?_
  rintro e W1 ⟨rfl, x1, k1⟩
  obtain ⟨hu, o0, hne⟩ := HH.out
  have o1 := only_then o0 k1
  have u1 := hu.only k1 (by simpa using hne)
  clear hav HH hu o0 k1
  have c9 := x1.cel.c9
  rw [e1] at c9
  have c16 := x1.cel.c16
  rw [e2] at c16
  clear e1 e2
  have hp := sack_any x1
  go_wp2_with fail
  refine hp.mono ?_
  rintro e w10 ⟨rfl, x10, k10⟩
  have u10 := u1.only k10 (by simpa using hne)
  have o10 := only_then o1 k10
  have HE := Lib.hid (And.intro (fin_box x10 o10 (Nat.le_refl _) u10) u10)
  obtain ⟨d0, d1, d2, d3, d4, d5, d6, d7, d8, d9, d10, ff⟩ := Ub.of u10
  have i0 := ff 0
  have i1 := ff 1
  have i2 := ff 2
  have i3 := ff 3
  have i4 := ff 4
  have i5 := ff 5
  have i6 := ff 6
  have i7 := ff 7
  have i8 := ff 8
  have i9 := ff 9
  have i10 := ff 10
  clear ff
  clear x10 u10 o10 x1 u1 o1 hp k10 hne c9 c16
  go_wp2
  obtain ⟨e, f⟩ := HE.out
  exact bodyPost_ret (nxt_results rfl rfl (e _ _ _ _ _ _ _ _ _ _ _).1) rfl ⟨⟨7, K.sr, K.nm, 0, [], 0, 0, [], 0, 0, none, 0, 0, rfl, rfl, By.zero _ _, by decide⟩, ⟨_, _, _, (e _ _ _ _ _ _ _ _ _ _ _).2.1⟩, (e _ _ _ _ _ _ _ _ _ _ _).2.2⟩
set_option maxRecDepth 100000 in
set_option maxHeartbeats 4000000 in
theorem snx_can (m : Int) (S : SS) (hS : S = adv m s) (h : FX w g K s A n c) (hK0 : K.Ok) (ok : s.Ok K) (_oS : S.Ok K) (e1 : S.su = false) (e2 : S.ad = false) (e3 : S.ph = 4) :
    Calls Try.prog 13 #[.pointer (some ⟨g, 0, none⟩), .int .i64 m] w fun e w' => ( ∃ kd sr nm cl na sz of da su co A0 n0 a0, e = .returned (.tuple #[.agg #[.int .i64 kd, .int .i64 sr, .int .i64 nm, .int .i64 cl, .string (str na), .int .i64 sz, .int .i64 of, .slice A0 n0 a0, .int .u32 ((su : Nat) : Int), .int .i64 co, .slice none 0 0], .bool true]) ∧ UR w w' (K.eof S.co) kd sr nm cl na sz of da su co A0 n0 a0) ∧ FW w' g K { S with ph := 7 } ∧ Only [g] w w' := by
  obtain ⟨W, hW, hu, hb, hs⟩ := unit_box w
  have h1 := h.below hb
  have o0 : Only [g] w W := Only.of_below hb
  have hne : w.heap.size ≠ g := (Cel.apart (t := TS) h1.cel hu (by decide)).symm
  have hwk := sworks_any h1.cel ok.p1
  have hav := sadvance_any h1 m
  rw [← hS] at hav
  have HH := Lib.hid (And.intro hu (And.intro o0 hne))
  clear h h1 hu hb hs ok hne o0 hS
  go_enter Try.func13, Try.ntmps13
  go_upto_region 1 with fail
  rw [← hW]
  clear hW
  go_wp2_with fail
  refine hwk.mono ?_
  rintro e w1 ⟨rfl, rfl⟩
  clear hwk
  go_wp2_with fail
  refine hav.mono ?_
  rintro e W1 ⟨rfl, x1, k1⟩
  obtain ⟨hu, o0, hne⟩ := HH.out
  have o1 := only_then o0 k1
  have u1 := hu.only k1 (by simpa using hne)
  clear hav HH hu o0 k1
  have c9 := x1.cel.c9
  rw [e1] at c9
  have c16 := x1.cel.c16
  rw [e2] at c16
  have c8 := x1.cel.c8
  rw [e3] at c8
  have f8 := x1.cel.free 8
  clear e1 e2 e3
  have x9 := FX.mk (x1.cel.ph 7) (x1.q.keep (x1.cel.kr_put 8 _))
  have o9 := only_then o1 (put_only W1 g 8 (.int .i64 7))
  have u9 := u1.only (put_only W1 g 8 (.int .i64 7)) (by simpa using hne)
  obtain ⟨W9, hW9⟩ : ∃ W9, W9 = W1.setCell ⟨g, 8, none⟩ (.int .i64 7) := ⟨_, rfl⟩
  rw [← hW9] at x9 o9 u9
  have hp := seof_any x9.cel (by have := hK0.d; omega)
  clear x1 o1 u1 hne
  go_upto_region 10 with fail
  rw [← hW9]
  clear hW9 c8 f8 c9 c16
  go_wp2_with fail
  refine hp.mono ?_
  rintro e w10 ⟨rfl, hb10⟩
  have x10 := x9.below hb10
  have u10 := Cel.on u9 hb10
  have o10 := o9.trans (Only.of_below (S := []) hb10) (by simp)
  have HE := Lib.hid (And.intro (fin_box x10 o10 (Nat.le_refl _) u10) u10)
  obtain ⟨d0, d1, d2, d3, d4, d5, d6, d7, d8, d9, d10, ff⟩ := Ub.of u10
  have i0 := ff 0
  have i1 := ff 1
  have i2 := ff 2
  have i3 := ff 3
  have i4 := ff 4
  have i5 := ff 5
  have i6 := ff 6
  have i7 := ff 7
  have i8 := ff 8
  have i9 := ff 9
  have i10 := ff 10
  clear ff
  clear x10 u10 o10 hb10 x9 u9 o9 hp
  go_wp2
  obtain ⟨e, f⟩ := HE.out
  exact bodyPost_ret (nxt_results rfl rfl (e _ _ _ _ _ _ _ _ _ _ _).1) rfl ⟨⟨3, K.sr, K.nm, K.cl, [], (K.da.length : Int), 0, [], (ps 0 K.da).toNat, S.co, none, 0, 0, rfl, rfl, By.zero _ _, (ps 0 K.da).isLt⟩, ⟨_, _, _, (e _ _ _ _ _ _ _ _ _ _ _).2.1⟩, (e _ _ _ _ _ _ _ _ _ _ _).2.2⟩
set_option maxRecDepth 100000 in
set_option maxHeartbeats 4000000 in
theorem snx_cl (m : Int) (S : SS) (hS : S = adv m s) (h : FX w g K s A n c) (_hK0 : K.Ok) (ok : s.Ok K) (_oS : S.Ok K) (e1 : S.su = false) (e2 : S.ad = false) (e3 : ¬ S.ph = 4) (e4 : S.opn = false) :
    Calls Try.prog 13 #[.pointer (some ⟨g, 0, none⟩), .int .i64 m] w fun e w' => ( ∃ kd sr nm cl na sz of da su co A0 n0 a0, e = .returned (.tuple #[.agg #[.int .i64 kd, .int .i64 sr, .int .i64 nm, .int .i64 cl, .string (str na), .int .i64 sz, .int .i64 of, .slice A0 n0 a0, .int .u32 ((su : Nat) : Int), .int .i64 co, .slice none 0 0], .bool false]) ∧ UR w w' Pd.none kd sr nm cl na sz of da su co A0 n0 a0) ∧ FW w' g K S ∧ Only [g] w w' := by
  obtain ⟨W, hW, hu, hb, hs⟩ := unit_box w
  have h1 := h.below hb
  have o0 : Only [g] w W := Only.of_below hb
  have hne : w.heap.size ≠ g := (Cel.apart (t := TS) h1.cel hu (by decide)).symm
  have hwk := sworks_any h1.cel ok.p1
  have hav := sadvance_any h1 m
  rw [← hS] at hav
  have HH := Lib.hid (And.intro hu (And.intro o0 hne))
  clear h h1 hu hb hs ok hne o0 hS
  go_enter Try.func13, Try.ntmps13
  go_upto_region 1 with fail
  rw [← hW]
  clear hW
  go_wp2_with fail
  refine hwk.mono ?_
  rintro e w1 ⟨rfl, rfl⟩
  clear hwk
  go_wp2_with fail
  refine hav.mono ?_
  rintro e W1 ⟨rfl, x1, k1⟩
  obtain ⟨hu, o0, hne⟩ := HH.out
  have o1 := only_then o0 k1
  have u1 := hu.only k1 (by simpa using hne)
  clear hav HH hu o0 k1
  have c9 := x1.cel.c9
  rw [e1] at c9
  have c16 := x1.cel.c16
  rw [e2] at c16
  have c8 := x1.cel.c8
  have hop := fun (X : World) (hx : FC X g K S A n c) => sopen_any hx
  rw [e4] at hop
  have hop1 := hop W1 x1.cel
  obtain ⟨ph, hph⟩ : ∃ ph, ph = S.ph := ⟨_, rfl⟩
  rw [← hph] at c8 e3
  have z4 : (ph == 4) = false := by simpa using e3
  clear hop
  clear e1 e2 e3 e4 hph
  go_wp2_with fail
  refine hop1.mono ?_
  rintro e w2 ⟨rfl, rfl⟩
  clear hop1
  have HE := Lib.hid (fin_box x1 o1 (Nat.le_refl _) u1)
  obtain ⟨d0, d1, d2, d3, d4, d5, d6, d7, d8, d9, d10, ff⟩ := Ub.of u1
  have i0 := ff 0
  have i1 := ff 1
  have i2 := ff 2
  have i3 := ff 3
  have i4 := ff 4
  have i5 := ff 5
  have i6 := ff 6
  have i7 := ff 7
  have i8 := ff 8
  have i9 := ff 9
  have i10 := ff 10
  clear ff
  clear x1 o1 u1 hne c9 c16 c8 z4
  go_wp2
  have e := HE.out
  exact bodyPost_ret (nxt_results rfl rfl (e _ _ _ _ _ _ _ _ _ _ _).1) rfl ⟨⟨0, 0, 0, 0, [], 0, 0, [], 0, 0, none, 0, 0, rfl, rfl, By.zero _ _, by decide⟩, ⟨_, _, _, (e _ _ _ _ _ _ _ _ _ _ _).2.1⟩, (e _ _ _ _ _ _ _ _ _ _ _).2.2⟩
set_option maxRecDepth 100000 in
set_option maxHeartbeats 4000000 in
theorem snx_mr (m : Int) (S : SS) (hS : S = adv m s) (h : FX w g K s A n c) (_hK0 : K.Ok) (ok : s.Ok K) (_oS : S.Ok K) (e1 : S.su = false) (e2 : S.ad = false) (e3 : ¬ S.ph = 4) (e4 : S.opn = true) (e5 : S.mr = true) :
    Calls Try.prog 13 #[.pointer (some ⟨g, 0, none⟩), .int .i64 m] w fun e w' => ( ∃ kd sr nm cl na sz of da su co A0 n0 a0, e = .returned (.tuple #[.agg #[.int .i64 kd, .int .i64 sr, .int .i64 nm, .int .i64 cl, .string (str na), .int .i64 sz, .int .i64 of, .slice A0 n0 a0, .int .u32 ((su : Nat) : Int), .int .i64 co, .slice none 0 0], .bool true]) ∧ UR w w' K.mta kd sr nm cl na sz of da su co A0 n0 a0) ∧ FW w' g K { S with mr := false } ∧ Only [g] w w' := by
  obtain ⟨W, hW, hu, hb, hs⟩ := unit_box w
  have h1 := h.below hb
  have o0 : Only [g] w W := Only.of_below hb
  have hne : w.heap.size ≠ g := (Cel.apart (t := TS) h1.cel hu (by decide)).symm
  have hwk := sworks_any h1.cel ok.p1
  have hav := sadvance_any h1 m
  rw [← hS] at hav
  have HH := Lib.hid (And.intro hu (And.intro o0 hne))
  clear h h1 hu hb hs ok hne o0 hS
  go_enter Try.func13, Try.ntmps13
  go_upto_region 1 with fail
  rw [← hW]
  clear hW
  go_wp2_with fail
  refine hwk.mono ?_
  rintro e w1 ⟨rfl, rfl⟩
  clear hwk
  go_wp2_with fail
  refine hav.mono ?_
  rintro e W1 ⟨rfl, x1, k1⟩
  obtain ⟨hu, o0, hne⟩ := HH.out
  have o1 := only_then o0 k1
  have u1 := hu.only k1 (by simpa using hne)
  clear hav HH hu o0 k1
  have c9 := x1.cel.c9
  rw [e1] at c9
  have c16 := x1.cel.c16
  rw [e2] at c16
  have c8 := x1.cel.c8
  have hop := fun (X : World) (hx : FC X g K S A n c) => sopen_any hx
  rw [e4] at hop
  have hop1 := hop W1 x1.cel
  obtain ⟨ph, hph⟩ : ∃ ph, ph = S.ph := ⟨_, rfl⟩
  rw [← hph] at c8 e3
  have z4 : (ph == 4) = false := by simpa using e3
  clear hop
  have c13 := x1.cel.c13
  rw [e5] at c13
  have f13 := x1.cel.free 13
  clear e1 e2 e3 e4 e5 hph
  have x9 := FX.mk (x1.cel.mr false) (x1.q.keep (x1.cel.kr_put 13 _))
  have o9 := only_then o1 (put_only W1 g 13 (.bool false))
  have u9 := u1.only (put_only W1 g 13 (.bool false)) (by simpa using hne)
  obtain ⟨W9, hW9⟩ : ∃ W9, W9 = W1.setCell ⟨g, 13, none⟩ (.bool false) := ⟨_, rfl⟩
  rw [← hW9] at x9 o9 u9
  have hp := smeta_any x9.cel
  clear x1 o1 u1 hne
  go_wp2_with fail
  refine hop1.mono ?_
  rintro e w2 ⟨rfl, rfl⟩
  clear hop1
  go_upto_region 15 with fail
  rw [← hW9]
  clear hW9 c8 c9 c16 z4 c13 f13
  go_wp2_with fail
  refine hp.mono ?_
  rintro e w10 ⟨rfl, hb10⟩
  have x10 := x9.below hb10
  have u10 := Cel.on u9 hb10
  have o10 := o9.trans (Only.of_below (S := []) hb10) (by simp)
  have HE := Lib.hid (And.intro (fin_box x10 o10 (Nat.le_refl _) u10) u10)
  obtain ⟨d0, d1, d2, d3, d4, d5, d6, d7, d8, d9, d10, ff⟩ := Ub.of u10
  have i0 := ff 0
  have i1 := ff 1
  have i2 := ff 2
  have i3 := ff 3
  have i4 := ff 4
  have i5 := ff 5
  have i6 := ff 6
  have i7 := ff 7
  have i8 := ff 8
  have i9 := ff 9
  have i10 := ff 10
  clear ff
  clear x10 u10 o10 hb10 x9 u9 o9 hp
  go_wp2
  obtain ⟨e, f⟩ := HE.out
  exact bodyPost_ret (nxt_results rfl rfl (e _ _ _ _ _ _ _ _ _ _ _).1) rfl ⟨⟨1, K.sr, K.nm, K.cl, K.na, (K.da.length : Int), 0, [], 0, 0, none, 0, 0, rfl, rfl, By.zero _ _, by decide⟩, ⟨_, _, _, (e _ _ _ _ _ _ _ _ _ _ _).2.1⟩, (e _ _ _ _ _ _ _ _ _ _ _).2.2⟩
set_option maxRecDepth 100000 in
set_option maxHeartbeats 4000000 in
theorem snx_an (m : Int) (S : SS) (hS : S = adv m s) (h : FX w g K s A n c) (hK0 : K.Ok) (ok : s.Ok K) (oS : S.Ok K) (e1 : S.su = false) (e2 : S.ad = false) (e3 : ¬ S.ph = 4) (e4 : S.opn = true) (e5 : S.mr = false) (e6 : S.rq ≠ []) :
    Calls Try.prog 13 #[.pointer (some ⟨g, 0, none⟩), .int .i64 m] w fun e w' => ( ∃ kd sr nm cl na sz of da su co A0 n0 a0, e = .returned (.tuple #[.agg #[.int .i64 kd, .int .i64 sr, .int .i64 nm, .int .i64 cl, .string (str na), .int .i64 sz, .int .i64 of, .slice A0 n0 a0, .int .u32 ((su : Nat) : Int), .int .i64 co, .slice none 0 0], .bool true]) ∧ UR w w' (anP K S) kd sr nm cl na sz of da su co A0 n0 a0) ∧ FW w' g K (anS K S) ∧ Only [g] w w' := by
  obtain ⟨W, hW, hu, hb, hs⟩ := unit_box w
  have h1 := h.below hb
  have o0 : Only [g] w W := Only.of_below hb
  have hne : w.heap.size ≠ g := (Cel.apart (t := TS) h1.cel hu (by decide)).symm
  have hwk := sworks_any h1.cel ok.p1
  have hav := sadvance_any h1 m
  rw [← hS] at hav
  have HH := Lib.hid (And.intro hu (And.intro o0 hne))
  clear h h1 hu hb hs ok hne o0 hS
  go_enter Try.func13, Try.ntmps13
  go_upto_region 1 with fail
  rw [← hW]
  clear hW
  go_wp2_with fail
  refine hwk.mono ?_
  rintro e w1 ⟨rfl, rfl⟩
  clear hwk
  go_wp2_with fail
  refine hav.mono ?_
  rintro e W1 ⟨rfl, x1, k1⟩
  obtain ⟨hu, o0, hne⟩ := HH.out
  have o1 := only_then o0 k1
  have u1 := hu.only k1 (by simpa using hne)
  clear hav HH hu o0 k1
  have c9 := x1.cel.c9
  rw [e1] at c9
  have c16 := x1.cel.c16
  rw [e2] at c16
  have c8 := x1.cel.c8
  have hop := fun (X : World) (hx : FC X g K S A n c) => sopen_any hx
  rw [e4] at hop
  have hop1 := hop W1 x1.cel
  obtain ⟨ph, hph⟩ : ∃ ph, ph = S.ph := ⟨_, rfl⟩
  rw [← hph] at c8 e3
  have z4 : (ph == 4) = false := by simpa using e3
  clear hop
  have c13 := x1.cel.c13
  rw [e5] at c13
  have c14 := x1.cel.c14
  have hn := x1.q.len
  have hn0 : 0 < n := by rw [← hn]; exact List.length_pos_iff.2 e6
  have z5 : decide ((0 : Int) < (n : Int)) = true := decide_eq_true (by omega)
  have z6 : decide (0 < n) = true := decide_eq_true hn0
  have hp := sanswer_any x1 hK0 oS e6
  clear e1 e2 e3 e4 e5 e6 hph hn
  go_wp2_with fail
  refine hop1.mono ?_
  rintro e w2 ⟨rfl, rfl⟩
  clear hop1
  go_wp2_with fail
  refine hp.mono ?_
  rintro e w10 ⟨⟨a, b, m', A0, c0, rfl, hf, by0⟩, ⟨A', n', c', x10⟩, k10⟩
  have u10 := u1.only k10 (by simpa using hne)
  have o10 := only_then o1 k10
  have HE := Lib.hid (And.intro (fin_box x10 o10 (Nat.le_refl _) u10) (And.intro u10 (And.intro (by0.more o1.size) hf)))
  obtain ⟨d0, d1, d2, d3, d4, d5, d6, d7, d8, d9, d10, ff⟩ := Ub.of u10
  have i0 := ff 0
  have i1 := ff 1
  have i2 := ff 2
  have i3 := ff 3
  have i4 := ff 4
  have i5 := ff 5
  have i6 := ff 6
  have i7 := ff 7
  have i8 := ff 8
  have i9 := ff 9
  have i10 := ff 10
  clear ff
  clear x10 u10 o10 x1 u1 o1 hp k10 hne by0 hf c9 c16 c8 c13 c14 z4 z5 z6 hn0
  go_wp2
  obtain ⟨e, f, k, hf⟩ := HE.out
  have hq : anP K S = ⟨2, K.sr, K.nm, 0, [], 0, (a : Int), (K.da.drop a).take (b - a), 0, 0, []⟩ := by
    unfold anP
    rw [hf]
    rfl
  exact bodyPost_ret (nxt_results rfl rfl (e _ _ _ _ _ _ _ _ _ _ _).1) rfl ⟨⟨2, K.sr, K.nm, 0, [], 0, (a : Int), _, 0, 0, A0, m', c0, rfl, hq, k.only (box_only _ _ _ _ _ _ _ _ _ _ _) (not_byte f (by decide)), by decide⟩, ⟨_, _, _, (e _ _ _ _ _ _ _ _ _ _ _).2.1⟩, (e _ _ _ _ _ _ _ _ _ _ _).2.2⟩
set_option maxRecDepth 100000 in
set_option maxHeartbeats 4000000 in
theorem snx_pr (m : Int) (S : SS) (hS : S = adv m s) (h : FX w g K s A n c) (hK0 : K.Ok) (ok : s.Ok K) (_oS : S.Ok K) (e1 : S.su = false) (e2 : S.ad = false) (e3 : ¬ S.ph = 4) (e4 : S.opn = true) (e5 : S.mr = false) (e6 : S.rq = []) (e7 : S.ph = 1) :
    Calls Try.prog 13 #[.pointer (some ⟨g, 0, none⟩), .int .i64 m] w fun e w' => ( ∃ kd sr nm cl na sz of da su co A0 n0 a0, e = .returned (.tuple #[.agg #[.int .i64 kd, .int .i64 sr, .int .i64 nm, .int .i64 cl, .string (str na), .int .i64 sz, .int .i64 of, .slice A0 n0 a0, .int .u32 ((su : Nat) : Int), .int .i64 co, .slice none 0 0], .bool true]) ∧ UR w w' (prP K S) kd sr nm cl na sz of da su co A0 n0 a0) ∧ FW w' g K (prS K S) ∧ Only [g] w w' := by
  obtain ⟨W, hW, hu, hb, hs⟩ := unit_box w
  have h1 := h.below hb
  have o0 : Only [g] w W := Only.of_below hb
  have hne : w.heap.size ≠ g := (Cel.apart (t := TS) h1.cel hu (by decide)).symm
  have hwk := sworks_any h1.cel ok.p1
  have hav := sadvance_any h1 m
  rw [← hS] at hav
  have HH := Lib.hid (And.intro hu (And.intro o0 hne))
  clear h h1 hu hb hs ok hne o0 hS
  go_enter Try.func13, Try.ntmps13
  go_upto_region 1 with fail
  rw [← hW]
  clear hW
  go_wp2_with fail
  refine hwk.mono ?_
  rintro e w1 ⟨rfl, rfl⟩
  clear hwk
  go_wp2_with fail
  refine hav.mono ?_
  rintro e W1 ⟨rfl, x1, k1⟩
  obtain ⟨hu, o0, hne⟩ := HH.out
  have o1 := only_then o0 k1
  have u1 := hu.only k1 (by simpa using hne)
  clear hav HH hu o0 k1
  have c9 := x1.cel.c9
  rw [e1] at c9
  have c16 := x1.cel.c16
  rw [e2] at c16
  have c8 := x1.cel.c8
  have hop := fun (X : World) (hx : FC X g K S A n c) => sopen_any hx
  rw [e4] at hop
  have hop1 := hop W1 x1.cel
  obtain ⟨ph, hph⟩ : ∃ ph, ph = S.ph := ⟨_, rfl⟩
  rw [← hph] at c8 e3
  have z4 : (ph == 4) = false := by simpa using e3
  clear hop
  have c13 := x1.cel.c13
  rw [e5] at c13
  have c14 := x1.cel.c14
  have hn := x1.q.len
  have hn0 : n = 0 := by rw [← hn, e6]; rfl
  subst hn0
  clear hn
  have hp := sproceed_any x1 hK0
  have z7 : (ph == 1) = true := by rw [hph, e7]; rfl
  clear e1 e2 e3 e4 e5 e6 e7 hph
  go_wp2_with fail
  refine hop1.mono ?_
  rintro e w2 ⟨rfl, rfl⟩
  clear hop1
  go_wp2_with fail
  refine hp.mono ?_
  rintro e w10 ⟨⟨kd, sr, nm, cl, na, sz, of, da, su, co, A0, n0, a0, rfl, r0⟩, ⟨A', n', c', x10⟩, k10⟩
  have u10 := u1.only k10 (by simpa using hne)
  have o10 := only_then o1 k10
  have HE := Lib.hid (And.intro (fin_box x10 o10 (Nat.le_refl _) u10) (And.intro u10 (r0.more o1.size)))
  obtain ⟨d0, d1, d2, d3, d4, d5, d6, d7, d8, d9, d10, ff⟩ := Ub.of u10
  have i0 := ff 0
  have i1 := ff 1
  have i2 := ff 2
  have i3 := ff 3
  have i4 := ff 4
  have i5 := ff 5
  have i6 := ff 6
  have i7 := ff 7
  have i8 := ff 8
  have i9 := ff 9
  have i10 := ff 10
  clear ff
  clear x10 u10 o10 x1 u1 o1 hp k10 hne r0 c9 c16 c8 c13 c14 z4 z7
  go_wp2
  obtain ⟨e, f, k⟩ := HE.out
  exact bodyPost_ret (nxt_results rfl rfl (e _ _ _ _ _ _ _ _ _ _ _).1) rfl ⟨⟨kd, sr, nm, cl, na, sz, of, da, su, co, A0, n0, a0, rfl, k.only (box_only _ _ _ _ _ _ _ _ _ _ _) (not_byte f (by decide))⟩, ⟨_, _, _, (e _ _ _ _ _ _ _ _ _ _ _).2.1⟩, (e _ _ _ _ _ _ _ _ _ _ _).2.2⟩
set_option maxRecDepth 100000 in
set_option maxHeartbeats 4000000 in
theorem snx_rp (m : Int) (S : SS) (hS : S = adv m s) (h : FX w g K s A n c) (hK0 : K.Ok) (ok : s.Ok K) (oS : S.Ok K) (e1 : S.su = false) (e2 : S.ad = false) (e3 : ¬ S.ph = 4) (e4 : S.opn = true) (e5 : S.mr = false) (e6 : S.rq = []) (e7 : ¬ S.ph = 1) (F : Bool) (hF : (rpO K S).2 = F) :
    Calls Try.prog 13 #[.pointer (some ⟨g, 0, none⟩), .int .i64 m] w fun e w' => ( ∃ kd sr nm cl na sz of da su co A0 n0 a0, e = .returned (.tuple #[.agg #[.int .i64 kd, .int .i64 sr, .int .i64 nm, .int .i64 cl, .string (str na), .int .i64 sz, .int .i64 of, .slice A0 n0 a0, .int .u32 ((su : Nat) : Int), .int .i64 co, .slice none 0 0], .bool F]) ∧ UR w w' (rpO K S).1 kd sr nm cl na sz of da su co A0 n0 a0) ∧ FW w' g K (rpS K S) ∧ Only [g] w w' := by
  obtain ⟨W, hW, hu, hb, hs⟩ := unit_box w
  have h1 := h.below hb
  have o0 : Only [g] w W := Only.of_below hb
  have hne : w.heap.size ≠ g := (Cel.apart (t := TS) h1.cel hu (by decide)).symm
  have hwk := sworks_any h1.cel ok.p1
  have hav := sadvance_any h1 m
  rw [← hS] at hav
  have HH := Lib.hid (And.intro hu (And.intro o0 hne))
  clear h h1 hu hb hs ok hne o0 hS
  go_enter Try.func13, Try.ntmps13
  go_upto_region 1 with fail
  rw [← hW]
  clear hW
  go_wp2_with fail
  refine hwk.mono ?_
  rintro e w1 ⟨rfl, rfl⟩
  clear hwk
  go_wp2_with fail
  refine hav.mono ?_
  rintro e W1 ⟨rfl, x1, k1⟩
  obtain ⟨hu, o0, hne⟩ := HH.out
  have o1 := only_then o0 k1
  have u1 := hu.only k1 (by simpa using hne)
  clear hav HH hu o0 k1
  have c9 := x1.cel.c9
  rw [e1] at c9
  have c16 := x1.cel.c16
  rw [e2] at c16
  have c8 := x1.cel.c8
  have hop := fun (X : World) (hx : FC X g K S A n c) => sopen_any hx
  rw [e4] at hop
  have hop1 := hop W1 x1.cel
  obtain ⟨ph, hph⟩ : ∃ ph, ph = S.ph := ⟨_, rfl⟩
  rw [← hph] at c8 e3
  have z4 : (ph == 4) = false := by simpa using e3
  clear hop
  have c13 := x1.cel.c13
  rw [e5] at c13
  have c14 := x1.cel.c14
  have hn := x1.q.len
  have hn0 : n = 0 := by rw [← hn, e6]; rfl
  subst hn0
  clear hn
  have hp := srepeat_any x1 hK0 oS
  rw [hF] at hp
  have z7 : (ph == 1) = false := by rw [hph]; simpa using e7
  clear e1 e2 e3 e4 e5 e6 e7 hph hF
  go_wp2_with fail
  refine hop1.mono ?_
  rintro e w2 ⟨rfl, rfl⟩
  clear hop1
  go_wp2_with fail
  refine hp.mono ?_
  rintro e w10 ⟨⟨kd, sr, nm, cl, na, sz, of, da, su, co, A0, n0, a0, rfl, r0⟩, ⟨A', n', c', x10⟩, k10⟩
  have u10 := u1.only k10 (by simpa using hne)
  have o10 := only_then o1 k10
  have HE := Lib.hid (And.intro (fin_box x10 o10 (Nat.le_refl _) u10) (And.intro u10 (r0.more o1.size)))
  obtain ⟨d0, d1, d2, d3, d4, d5, d6, d7, d8, d9, d10, ff⟩ := Ub.of u10
  have i0 := ff 0
  have i1 := ff 1
  have i2 := ff 2
  have i3 := ff 3
  have i4 := ff 4
  have i5 := ff 5
  have i6 := ff 6
  have i7 := ff 7
  have i8 := ff 8
  have i9 := ff 9
  have i10 := ff 10
  clear ff
  clear x10 u10 o10 x1 u1 o1 hp k10 hne r0 c9 c16 c8 c13 c14 z4 z7
  go_wp2
  obtain ⟨e, f, k⟩ := HE.out
  exact bodyPost_ret (nxt_results rfl rfl (e _ _ _ _ _ _ _ _ _ _ _).1) rfl ⟨⟨kd, sr, nm, cl, na, sz, of, da, su, co, A0, n0, a0, rfl, k.only (box_only _ _ _ _ _ _ _ _ _ _ _) (not_byte f (by decide))⟩, ⟨_, _, _, (e _ _ _ _ _ _ _ _ _ _ _).2.1⟩, (e _ _ _ _ _ _ _ _ _ _ _).2.2⟩
theorem snext_any (m : Int) (h : FW w g K s) (hK0 : K.Ok) (ok : s.Ok K) :
    Calls Try.prog 13 #[.pointer (some ⟨g, 0, none⟩), .int .i64 m] w fun e w' => ( ∃ kd sr nm cl na sz of da su co A0 n0 a0, e = .returned (.tuple #[.agg #[.int .i64 kd, .int .i64 sr, .int .i64 nm, .int .i64 cl, .string (str na), .int .i64 sz, .int .i64 of, .slice A0 n0 a0, .int .u32 ((su : Nat) : Int), .int .i64 co, .slice none 0 0], .bool (nxO K (adv m s)).2]) ∧ UR w w' (nxO K (adv m s)).1 kd sr nm cl na sz of da su co A0 n0 a0) ∧ FW w' g K (nxS K (adv m s)) ∧ Only [g] w w' := by
  obtain ⟨A, n, c, h⟩ := h
  have oS := adv_ok ok m
  obtain ⟨S, hS⟩ : ∃ S, S = adv m s := ⟨_, rfl⟩
  rw [← hS] at oS ⊢
  unfold nxO nxS
  by_cases e1 : S.su = true
  · rw [if_pos e1, if_pos e1]
    exact snx_su m S hS h hK0 ok oS e1
  rw [if_neg e1, if_neg e1]
  have e1 : S.su = false := by simpa using e1
  by_cases e2 : S.ad = true
  · rw [if_pos e2, if_pos e2]
    exact snx_ad m S hS h hK0 ok oS e1 e2
  rw [if_neg e2, if_neg e2]
  have e2 : S.ad = false := by simpa using e2
  by_cases e3 : S.ph = 4
  · rw [if_pos e3, if_pos e3]
    exact snx_can m S hS h hK0 ok oS e1 e2 e3
  rw [if_neg e3, if_neg e3]
  by_cases e4 : S.opn = false
  · rw [if_pos e4, if_pos e4]
    exact snx_cl m S hS h hK0 ok oS e1 e2 e3 e4
  rw [if_neg e4, if_neg e4]
  have e4 : S.opn = true := by simpa using e4
  by_cases e5 : S.mr = true
  · rw [if_pos e5, if_pos e5]
    exact snx_mr m S hS h hK0 ok oS e1 e2 e3 e4 e5
  rw [if_neg e5, if_neg e5]
  have e5 : S.mr = false := by simpa using e5
  by_cases e6 : S.rq ≠ []
  · rw [if_pos e6, if_pos e6]
    exact snx_an m S hS h hK0 ok oS e1 e2 e3 e4 e5 e6
  rw [if_neg e6, if_neg e6]
  have e6 : S.rq = [] := by simpa using e6
  by_cases e7 : S.ph = 1
  · rw [if_pos e7, if_pos e7]
    exact snx_pr m S hS h hK0 ok oS e1 e2 e3 e4 e5 e6 e7
  · rw [if_neg e7, if_neg e7]
    exact snx_rp m S hS h hK0 ok oS e1 e2 e3 e4 e5 e6 e7 _ rfl
end
end Go.Proofs.Ytaaikmncdgfkmaa.Src
