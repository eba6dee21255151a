/-
  Package source: Take.
-/
import Derived.Test.YtaaikmncdgfkmaaSrcW5
import Derived.Test.YtaaikmncdgfkmaaPduW4
namespace Go.Proofs.Ytaaikmncdgfkmaa.Src
open Go.RowKit
open Go.Proofs.Ytaaikmncdgfkmaa.Pdu (Pd Gx Bx Px fwd)
open Go.Proofs.Ytaaikmncdgfkmaa.Rng (R)
section
variable {K : Kc} {s : SS} {A : Option Addr} {n c : Nat} {g : Nat} {w : World}
theorem Px.only1 {w w' : World} {p : Pd} {A G : Option Addr} {n a m c g : Nat} (h : Px w p A n a G m c) (k : Only [g] w w') (hA : Off A g) (hG : Off G g) : Px w' p A n a G m c :=
  ⟨⟨h.b.len, fun hl => by
    obtain ⟨b, off, e, hb, hc⟩ := h.b.bs hl
    exact ⟨b, off, e, Nat.lt_of_lt_of_le hb k.size, fun i x hx => cell_only k hb (hA b off e) (hc i x hx)⟩, h.b.nil, h.b.le, h.b.max⟩,
   ⟨h.g.len, fun hl => by
    obtain ⟨b, off, e, hb, hc⟩ := h.g.rs hl
    exact ⟨b, off, e, Nat.lt_of_lt_of_le hb k.size, fun i x hx j u hu => cell_only k hb (hG b off e) (hc i x hx j u hu)⟩, h.g.nil, h.g.le, h.g.max⟩, h.s⟩
theorem fwd_kd {k : Int} : fwd k = false ↔ ¬ (k = 1 ∨ k = 2 ∨ k = 3 ∨ k = 7) := by
  unfold fwd
  simp
theorem ok_kd {p : Pd} (h : Pdu.ok p = true) : 1 ≤ p.kd ∧ p.kd ≤ 7 := by
  unfold Pdu.ok at h
  rw [Bool.and_eq_true, Bool.and_eq_true] at h
  have h2 := h.2.1
  unfold Pdu.used at h2
  split at h2
  · omega
  split at h2
  · omega
  split at h2
  · omega
  split at h2
  · omega
  split at h2
  · omega
  · have := of_decide_eq_true h2; omega
set_option maxRecDepth 100000 in
set_option maxHeartbeats 4000000 in
theorem stk_inv (mt : Int) (kd sr nm cl : Int) (na : List Byte) (sz of : Int) (da : List Byte) (su : Nat) (co : Int) (ga : List R) (A0 : Option Addr) (n0 a0 : Nat) (G : Option Addr) (m a : Nat) (S : SS) (hS : S = adv mt s) (h : FX w g K s A n c) (ok : s.Ok K) (hp : Px w ⟨kd, sr, nm, cl, na, sz, of, da, su, co, ga⟩ A0 n0 a0 G m a) (hA : Off A0 g) (hG : Off G g) (hok : Pdu.ok ⟨kd, sr, nm, cl, na, sz, of, da, su, co, ga⟩ = false) :
    Calls Try.prog 18 #[.pointer (some ⟨g, 0, none⟩), .agg #[.int .i64 kd, .int .i64 sr, .int .i64 nm, .int .i64 cl, .string (str na), .int .i64 sz, .int .i64 of, .slice A0 n0 a0, .int .u32 (su : Int), .int .i64 co, .slice G m a], .int .i64 mt] w fun e w' => e = .returned (.int .i64 1) ∧ FW w' g K S ∧ Only [g] w w' := by
  have h0 := bel_new w (.cells #[.int .i64 kd, .int .i64 sr, .int .i64 nm, .int .i64 cl, .string (str na), .int .i64 sz, .int .i64 of, .slice A0 n0 a0, .int .u32 (su : Int), .int .i64 co, .slice G m a] 45)
  have hu := Cel.new w 45 #[.int .i64 kd, .int .i64 sr, .int .i64 nm, .int .i64 cl, .string (str na), .int .i64 sz, .int .i64 of, .slice A0 n0 a0, .int .u32 (su : Int), .int .i64 co, .slice G m a]
  have hx1 := h.below h0
  have hp1 := hp.later h0
  have o0 : Only [g] w (w.alloc (.cells #[.int .i64 kd, .int .i64 sr, .int .i64 nm, .int .i64 cl, .string (str na), .int .i64 sz, .int .i64 of, .slice A0 n0 a0, .int .u32 (su : Int), .int .i64 co, .slice G m a] 45)) := Only.of_below h0
  have hne : w.heap.size ≠ g := by have := h.cel.lt; omega
  obtain ⟨W, hW⟩ : ∃ W, W = w.alloc (.cells #[.int .i64 kd, .int .i64 sr, .int .i64 nm, .int .i64 cl, .string (str na), .int .i64 sz, .int .i64 of, .slice A0 n0 a0, .int .u32 (su : Int), .int .i64 co, .slice G m a] 45) := ⟨_, rfl⟩
  rw [← hW] at hx1 hu hp1 o0
  have hwk := sworks_any hx1.cel ok.p1
  have hav := sadvance_any hx1 mt
  rw [← hS] at hav
  have HH := Lib.hid (And.intro hu (And.intro o0 (And.intro hne (And.intro hp1 (And.intro hA hG)))))
  clear h hx1 hu ok hne o0 hS h0 hp hp1 hA hG
  go_enter Try.func18, Try.ntmps18
  go_upto_region 1 with fail
  rw [← hW]
  clear hW
  go_wp2_with fail
  refine hwk.mono ?_
  rintro e w1 ⟨rfl, rfl⟩
  clear hwk
  go_wp2_with fail
  refine hav.mono ?_
  rintro e W1 ⟨rfl, x1, k1⟩
  obtain ⟨hu, o0, hne, hp1, hA, hG⟩ := HH.out
  have o1 := only_then o0 k1
  have u1 := hu.only k1 (by simpa using hne)
  have hp2 := Px.only1 hp1 k1 hA hG
  have hl := u1.lt
  have hlg := x1.cel.lt
  have r0 : ∀ p : Later W1, p.W.cell? ⟨w.heap.size, 0, none⟩ = some (.int .i64 kd) := later_cell (u1.cell 0) hl
  have r1 : ∀ p : Later W1, p.W.cell? ⟨w.heap.size, 1, none⟩ = some (.int .i64 sr) := later_cell (u1.cell 1) hl
  have r2 : ∀ p : Later W1, p.W.cell? ⟨w.heap.size, 2, none⟩ = some (.int .i64 nm) := later_cell (u1.cell 2) hl
  have r3 : ∀ p : Later W1, p.W.cell? ⟨w.heap.size, 3, none⟩ = some (.int .i64 cl) := later_cell (u1.cell 3) hl
  have r4 : ∀ p : Later W1, p.W.cell? ⟨w.heap.size, 4, none⟩ = some (.string (str na)) := later_cell (u1.cell 4) hl
  have r5 : ∀ p : Later W1, p.W.cell? ⟨w.heap.size, 5, none⟩ = some (.int .i64 sz) := later_cell (u1.cell 5) hl
  have r6 : ∀ p : Later W1, p.W.cell? ⟨w.heap.size, 6, none⟩ = some (.int .i64 of) := later_cell (u1.cell 6) hl
  have r7 : ∀ p : Later W1, p.W.cell? ⟨w.heap.size, 7, none⟩ = some (.slice A0 n0 a0) := later_cell (u1.cell 7) hl
  have r8 : ∀ p : Later W1, p.W.cell? ⟨w.heap.size, 8, none⟩ = some (.int .u32 (su : Int)) := later_cell (u1.cell 8) hl
  have r9 : ∀ p : Later W1, p.W.cell? ⟨w.heap.size, 9, none⟩ = some (.int .i64 co) := later_cell (u1.cell 9) hl
  have r10 : ∀ p : Later W1, p.W.cell? ⟨w.heap.size, 10, none⟩ = some (.slice G m a) := later_cell (u1.cell 10) hl
  have g0 : ∀ p : Later W1, p.W.cell? ⟨g, 0, none⟩ = some (.int .i64 K.sr) := later_cell x1.cel.c0 hlg
  have g1 : ∀ p : Later W1, p.W.cell? ⟨g, 1, none⟩ = some (.int .i64 K.nm) := later_cell x1.cel.c1 hlg
  have hval : ∀ p : Later W1, _ := fun p => Pdu.pvalid_any kd sr nm cl na sz of da su co ga A0 n0 a0 G m a p.W (hp2.later p.h)
  have hfw : ∀ p : Later W1, _ := fun p => Pdu.pfwd_any kd p.W
  rw [hok] at hval
  have HX := Lib.hid (And.intro x1 (And.intro o1 (And.intro u1 (And.intro hp2 (And.intro hA hG)))))
  clear hav HH hu o0 k1 x1 o1 hp1 hp2 u1 hl hlg hA hG hne
  go_wp2_with fail
  refine wp_region_later (by kernel_rfl) (by kernel_rfl) ?_
  repeat (go_big_quiet_step ((first
    | (go_at_call 20; exact later_of (hval _))
    | (go_at_call 34; exact later_same (hfw _)))))
  refine wpQuiet_nil ?_
  rintro _ ⟨⟨w5, hb5⟩, rfl⟩
  obtain ⟨x1, o1, u1, hp2, hA, hG⟩ := HX.out
  have x5 := x1.below hb5
  have o5 := o1.trans (Only.of_below (S := []) hb5) (by simp)
  clear r0 r1 r2 r3 r4 r5 r6 r7 r8 r9 r10 g0 g1 hval hfw HX
  have HE := Lib.hid (And.intro x5 o5)
  clear x1 o1 u1 hp2 hA hG x5 o5 hb5
  go_wp2
  go_ret
  exact ⟨rfl, ⟨_, _, _, HE.out.1⟩, HE.out.2⟩
set_option maxRecDepth 100000 in
set_option maxHeartbeats 4000000 in
theorem stk_sr (mt : Int) (kd sr nm cl : Int) (na : List Byte) (sz of : Int) (da : List Byte) (su : Nat) (co : Int) (ga : List R) (A0 : Option Addr) (n0 a0 : Nat) (G : Option Addr) (m a : Nat) (S : SS) (hS : S = adv mt s) (h : FX w g K s A n c) (ok : s.Ok K) (hp : Px w ⟨kd, sr, nm, cl, na, sz, of, da, su, co, ga⟩ A0 n0 a0 G m a) (hA : Off A0 g) (hG : Off G g) (hok : Pdu.ok ⟨kd, sr, nm, cl, na, sz, of, da, su, co, ga⟩ = true) (h1 : ¬ sr = K.sr) :
    Calls Try.prog 18 #[.pointer (some ⟨g, 0, none⟩), .agg #[.int .i64 kd, .int .i64 sr, .int .i64 nm, .int .i64 cl, .string (str na), .int .i64 sz, .int .i64 of, .slice A0 n0 a0, .int .u32 (su : Int), .int .i64 co, .slice G m a], .int .i64 mt] w fun e w' => e = .returned (.int .i64 1) ∧ FW w' g K S ∧ Only [g] w w' := by
  have h0 := bel_new w (.cells #[.int .i64 kd, .int .i64 sr, .int .i64 nm, .int .i64 cl, .string (str na), .int .i64 sz, .int .i64 of, .slice A0 n0 a0, .int .u32 (su : Int), .int .i64 co, .slice G m a] 45)
  have hu := Cel.new w 45 #[.int .i64 kd, .int .i64 sr, .int .i64 nm, .int .i64 cl, .string (str na), .int .i64 sz, .int .i64 of, .slice A0 n0 a0, .int .u32 (su : Int), .int .i64 co, .slice G m a]
  have hx1 := h.below h0
  have hp1 := hp.later h0
  have o0 : Only [g] w (w.alloc (.cells #[.int .i64 kd, .int .i64 sr, .int .i64 nm, .int .i64 cl, .string (str na), .int .i64 sz, .int .i64 of, .slice A0 n0 a0, .int .u32 (su : Int), .int .i64 co, .slice G m a] 45)) := Only.of_below h0
  have hne : w.heap.size ≠ g := by have := h.cel.lt; omega
  obtain ⟨W, hW⟩ : ∃ W, W = w.alloc (.cells #[.int .i64 kd, .int .i64 sr, .int .i64 nm, .int .i64 cl, .string (str na), .int .i64 sz, .int .i64 of, .slice A0 n0 a0, .int .u32 (su : Int), .int .i64 co, .slice G m a] 45) := ⟨_, rfl⟩
  rw [← hW] at hx1 hu hp1 o0
  have hwk := sworks_any hx1.cel ok.p1
  have hav := sadvance_any hx1 mt
  rw [← hS] at hav
  have HH := Lib.hid (And.intro hu (And.intro o0 (And.intro hne (And.intro hp1 (And.intro hA hG)))))
  have z1 : (sr == K.sr) = false := by simpa using h1
  clear h1
  clear h hx1 hu ok hne o0 hS h0 hp hp1 hA hG
  go_enter Try.func18, Try.ntmps18
  go_upto_region 1 with fail
  rw [← hW]
  clear hW
  go_wp2_with fail
  refine hwk.mono ?_
  rintro e w1 ⟨rfl, rfl⟩
  clear hwk
  go_wp2_with fail
  refine hav.mono ?_
  rintro e W1 ⟨rfl, x1, k1⟩
  obtain ⟨hu, o0, hne, hp1, hA, hG⟩ := HH.out
  have o1 := only_then o0 k1
  have u1 := hu.only k1 (by simpa using hne)
  have hp2 := Px.only1 hp1 k1 hA hG
  have hl := u1.lt
  have hlg := x1.cel.lt
  have r0 : ∀ p : Later W1, p.W.cell? ⟨w.heap.size, 0, none⟩ = some (.int .i64 kd) := later_cell (u1.cell 0) hl
  have r1 : ∀ p : Later W1, p.W.cell? ⟨w.heap.size, 1, none⟩ = some (.int .i64 sr) := later_cell (u1.cell 1) hl
  have r2 : ∀ p : Later W1, p.W.cell? ⟨w.heap.size, 2, none⟩ = some (.int .i64 nm) := later_cell (u1.cell 2) hl
  have r3 : ∀ p : Later W1, p.W.cell? ⟨w.heap.size, 3, none⟩ = some (.int .i64 cl) := later_cell (u1.cell 3) hl
  have r4 : ∀ p : Later W1, p.W.cell? ⟨w.heap.size, 4, none⟩ = some (.string (str na)) := later_cell (u1.cell 4) hl
  have r5 : ∀ p : Later W1, p.W.cell? ⟨w.heap.size, 5, none⟩ = some (.int .i64 sz) := later_cell (u1.cell 5) hl
  have r6 : ∀ p : Later W1, p.W.cell? ⟨w.heap.size, 6, none⟩ = some (.int .i64 of) := later_cell (u1.cell 6) hl
  have r7 : ∀ p : Later W1, p.W.cell? ⟨w.heap.size, 7, none⟩ = some (.slice A0 n0 a0) := later_cell (u1.cell 7) hl
  have r8 : ∀ p : Later W1, p.W.cell? ⟨w.heap.size, 8, none⟩ = some (.int .u32 (su : Int)) := later_cell (u1.cell 8) hl
  have r9 : ∀ p : Later W1, p.W.cell? ⟨w.heap.size, 9, none⟩ = some (.int .i64 co) := later_cell (u1.cell 9) hl
  have r10 : ∀ p : Later W1, p.W.cell? ⟨w.heap.size, 10, none⟩ = some (.slice G m a) := later_cell (u1.cell 10) hl
  have g0 : ∀ p : Later W1, p.W.cell? ⟨g, 0, none⟩ = some (.int .i64 K.sr) := later_cell x1.cel.c0 hlg
  have g1 : ∀ p : Later W1, p.W.cell? ⟨g, 1, none⟩ = some (.int .i64 K.nm) := later_cell x1.cel.c1 hlg
  have hval : ∀ p : Later W1, _ := fun p => Pdu.pvalid_any kd sr nm cl na sz of da su co ga A0 n0 a0 G m a p.W (hp2.later p.h)
  have hfw : ∀ p : Later W1, _ := fun p => Pdu.pfwd_any kd p.W
  rw [hok] at hval
  have HX := Lib.hid (And.intro x1 (And.intro o1 (And.intro u1 (And.intro hp2 (And.intro hA hG)))))
  clear hav HH hu o0 k1 x1 o1 hp1 hp2 u1 hl hlg hA hG hne
  go_wp2_with fail
  refine wp_region_later (by kernel_rfl) (by kernel_rfl) ?_
  repeat (go_big_quiet_step ((first
    | (go_at_call 20; exact later_of (hval _))
    | (go_at_call 34; exact later_same (hfw _)))))
  refine wpQuiet_nil ?_
  rintro _ ⟨⟨w5, hb5⟩, rfl⟩
  obtain ⟨x1, o1, u1, hp2, hA, hG⟩ := HX.out
  have x5 := x1.below hb5
  have o5 := o1.trans (Only.of_below (S := []) hb5) (by simp)
  clear r0 r1 r2 r3 r4 r5 r6 r7 r8 r9 r10 g0 g1 hval hfw HX
  have HE := Lib.hid (And.intro x5 o5)
  clear x1 o1 u1 hp2 hA hG x5 o5 hb5
  go_wp2
  go_ret
  exact ⟨rfl, ⟨_, _, _, HE.out.1⟩, HE.out.2⟩
set_option maxRecDepth 100000 in
set_option maxHeartbeats 4000000 in
theorem stk_nm (mt : Int) (kd sr nm cl : Int) (na : List Byte) (sz of : Int) (da : List Byte) (su : Nat) (co : Int) (ga : List R) (A0 : Option Addr) (n0 a0 : Nat) (G : Option Addr) (m a : Nat) (S : SS) (hS : S = adv mt s) (h : FX w g K s A n c) (ok : s.Ok K) (hp : Px w ⟨kd, sr, nm, cl, na, sz, of, da, su, co, ga⟩ A0 n0 a0 G m a) (hA : Off A0 g) (hG : Off G g) (hok : Pdu.ok ⟨kd, sr, nm, cl, na, sz, of, da, su, co, ga⟩ = true) (h1 : sr = K.sr) (h2 : ¬ nm = K.nm) :
    Calls Try.prog 18 #[.pointer (some ⟨g, 0, none⟩), .agg #[.int .i64 kd, .int .i64 sr, .int .i64 nm, .int .i64 cl, .string (str na), .int .i64 sz, .int .i64 of, .slice A0 n0 a0, .int .u32 (su : Int), .int .i64 co, .slice G m a], .int .i64 mt] w fun e w' => e = .returned (.int .i64 1) ∧ FW w' g K S ∧ Only [g] w w' := by
  have h0 := bel_new w (.cells #[.int .i64 kd, .int .i64 sr, .int .i64 nm, .int .i64 cl, .string (str na), .int .i64 sz, .int .i64 of, .slice A0 n0 a0, .int .u32 (su : Int), .int .i64 co, .slice G m a] 45)
  have hu := Cel.new w 45 #[.int .i64 kd, .int .i64 sr, .int .i64 nm, .int .i64 cl, .string (str na), .int .i64 sz, .int .i64 of, .slice A0 n0 a0, .int .u32 (su : Int), .int .i64 co, .slice G m a]
  have hx1 := h.below h0
  have hp1 := hp.later h0
  have o0 : Only [g] w (w.alloc (.cells #[.int .i64 kd, .int .i64 sr, .int .i64 nm, .int .i64 cl, .string (str na), .int .i64 sz, .int .i64 of, .slice A0 n0 a0, .int .u32 (su : Int), .int .i64 co, .slice G m a] 45)) := Only.of_below h0
  have hne : w.heap.size ≠ g := by have := h.cel.lt; omega
  obtain ⟨W, hW⟩ : ∃ W, W = w.alloc (.cells #[.int .i64 kd, .int .i64 sr, .int .i64 nm, .int .i64 cl, .string (str na), .int .i64 sz, .int .i64 of, .slice A0 n0 a0, .int .u32 (su : Int), .int .i64 co, .slice G m a] 45) := ⟨_, rfl⟩
  rw [← hW] at hx1 hu hp1 o0
  have hwk := sworks_any hx1.cel ok.p1
  have hav := sadvance_any hx1 mt
  rw [← hS] at hav
  have HH := Lib.hid (And.intro hu (And.intro o0 (And.intro hne (And.intro hp1 (And.intro hA hG)))))
  have z0 : (sr == K.sr) = true := by rw [h1]; simp
  have z1 : (nm == K.nm) = false := by simpa using h2
  clear h1 h2
  clear h hx1 hu ok hne o0 hS h0 hp hp1 hA hG
  go_enter Try.func18, Try.ntmps18
  go_upto_region 1 with fail
  rw [← hW]
  clear hW
  go_wp2_with fail
  refine hwk.mono ?_
  rintro e w1 ⟨rfl, rfl⟩
  clear hwk
  go_wp2_with fail
  refine hav.mono ?_
  rintro e W1 ⟨rfl, x1, k1⟩
  obtain ⟨hu, o0, hne, hp1, hA, hG⟩ := HH.out
  have o1 := only_then o0 k1
  have u1 := hu.only k1 (by simpa using hne)
  have hp2 := Px.only1 hp1 k1 hA hG
  have hl := u1.lt
  have hlg := x1.cel.lt
  have r0 : ∀ p : Later W1, p.W.cell? ⟨w.heap.size, 0, none⟩ = some (.int .i64 kd) := later_cell (u1.cell 0) hl
  have r1 : ∀ p : Later W1, p.W.cell? ⟨w.heap.size, 1, none⟩ = some (.int .i64 sr) := later_cell (u1.cell 1) hl
  have r2 : ∀ p : Later W1, p.W.cell? ⟨w.heap.size, 2, none⟩ = some (.int .i64 nm) := later_cell (u1.cell 2) hl
  have r3 : ∀ p : Later W1, p.W.cell? ⟨w.heap.size, 3, none⟩ = some (.int .i64 cl) := later_cell (u1.cell 3) hl
  have r4 : ∀ p : Later W1, p.W.cell? ⟨w.heap.size, 4, none⟩ = some (.string (str na)) := later_cell (u1.cell 4) hl
  have r5 : ∀ p : Later W1, p.W.cell? ⟨w.heap.size, 5, none⟩ = some (.int .i64 sz) := later_cell (u1.cell 5) hl
  have r6 : ∀ p : Later W1, p.W.cell? ⟨w.heap.size, 6, none⟩ = some (.int .i64 of) := later_cell (u1.cell 6) hl
  have r7 : ∀ p : Later W1, p.W.cell? ⟨w.heap.size, 7, none⟩ = some (.slice A0 n0 a0) := later_cell (u1.cell 7) hl
  have r8 : ∀ p : Later W1, p.W.cell? ⟨w.heap.size, 8, none⟩ = some (.int .u32 (su : Int)) := later_cell (u1.cell 8) hl
  have r9 : ∀ p : Later W1, p.W.cell? ⟨w.heap.size, 9, none⟩ = some (.int .i64 co) := later_cell (u1.cell 9) hl
  have r10 : ∀ p : Later W1, p.W.cell? ⟨w.heap.size, 10, none⟩ = some (.slice G m a) := later_cell (u1.cell 10) hl
  have g0 : ∀ p : Later W1, p.W.cell? ⟨g, 0, none⟩ = some (.int .i64 K.sr) := later_cell x1.cel.c0 hlg
  have g1 : ∀ p : Later W1, p.W.cell? ⟨g, 1, none⟩ = some (.int .i64 K.nm) := later_cell x1.cel.c1 hlg
  have hval : ∀ p : Later W1, _ := fun p => Pdu.pvalid_any kd sr nm cl na sz of da su co ga A0 n0 a0 G m a p.W (hp2.later p.h)
  have hfw : ∀ p : Later W1, _ := fun p => Pdu.pfwd_any kd p.W
  rw [hok] at hval
  have HX := Lib.hid (And.intro x1 (And.intro o1 (And.intro u1 (And.intro hp2 (And.intro hA hG)))))
  clear hav HH hu o0 k1 x1 o1 hp1 hp2 u1 hl hlg hA hG hne
  go_wp2_with fail
  refine wp_region_later (by kernel_rfl) (by kernel_rfl) ?_
  repeat (go_big_quiet_step ((first
    | (go_at_call 20; exact later_of (hval _))
    | (go_at_call 34; exact later_same (hfw _)))))
  refine wpQuiet_nil ?_
  rintro _ ⟨⟨w5, hb5⟩, rfl⟩
  obtain ⟨x1, o1, u1, hp2, hA, hG⟩ := HX.out
  have x5 := x1.below hb5
  have o5 := o1.trans (Only.of_below (S := []) hb5) (by simp)
  clear r0 r1 r2 r3 r4 r5 r6 r7 r8 r9 r10 g0 g1 hval hfw HX
  have HE := Lib.hid (And.intro x5 o5)
  clear x1 o1 u1 hp2 hA hG x5 o5 hb5
  go_wp2
  go_ret
  exact ⟨rfl, ⟨_, _, _, HE.out.1⟩, HE.out.2⟩
set_option maxRecDepth 100000 in
set_option maxHeartbeats 4000000 in
theorem stk_fwd (mt : Int) (kd sr nm cl : Int) (na : List Byte) (sz of : Int) (da : List Byte) (su : Nat) (co : Int) (ga : List R) (A0 : Option Addr) (n0 a0 : Nat) (G : Option Addr) (m a : Nat) (S : SS) (hS : S = adv mt s) (h : FX w g K s A n c) (ok : s.Ok K) (hp : Px w ⟨kd, sr, nm, cl, na, sz, of, da, su, co, ga⟩ A0 n0 a0 G m a) (hA : Off A0 g) (hG : Off G g) (hok : Pdu.ok ⟨kd, sr, nm, cl, na, sz, of, da, su, co, ga⟩ = true) (h1 : sr = K.sr) (h2 : nm = K.nm) (h3 : fwd kd = true) :
    Calls Try.prog 18 #[.pointer (some ⟨g, 0, none⟩), .agg #[.int .i64 kd, .int .i64 sr, .int .i64 nm, .int .i64 cl, .string (str na), .int .i64 sz, .int .i64 of, .slice A0 n0 a0, .int .u32 (su : Int), .int .i64 co, .slice G m a], .int .i64 mt] w fun e w' => e = .returned (.int .i64 1) ∧ FW w' g K S ∧ Only [g] w w' := by
  have h0 := bel_new w (.cells #[.int .i64 kd, .int .i64 sr, .int .i64 nm, .int .i64 cl, .string (str na), .int .i64 sz, .int .i64 of, .slice A0 n0 a0, .int .u32 (su : Int), .int .i64 co, .slice G m a] 45)
  have hu := Cel.new w 45 #[.int .i64 kd, .int .i64 sr, .int .i64 nm, .int .i64 cl, .string (str na), .int .i64 sz, .int .i64 of, .slice A0 n0 a0, .int .u32 (su : Int), .int .i64 co, .slice G m a]
  have hx1 := h.below h0
  have hp1 := hp.later h0
  have o0 : Only [g] w (w.alloc (.cells #[.int .i64 kd, .int .i64 sr, .int .i64 nm, .int .i64 cl, .string (str na), .int .i64 sz, .int .i64 of, .slice A0 n0 a0, .int .u32 (su : Int), .int .i64 co, .slice G m a] 45)) := Only.of_below h0
  have hne : w.heap.size ≠ g := by have := h.cel.lt; omega
  obtain ⟨W, hW⟩ : ∃ W, W = w.alloc (.cells #[.int .i64 kd, .int .i64 sr, .int .i64 nm, .int .i64 cl, .string (str na), .int .i64 sz, .int .i64 of, .slice A0 n0 a0, .int .u32 (su : Int), .int .i64 co, .slice G m a] 45) := ⟨_, rfl⟩
  rw [← hW] at hx1 hu hp1 o0
  have hwk := sworks_any hx1.cel ok.p1
  have hav := sadvance_any hx1 mt
  rw [← hS] at hav
  have HH := Lib.hid (And.intro hu (And.intro o0 (And.intro hne (And.intro hp1 (And.intro hA hG)))))
  have z0 : (sr == K.sr) = true := by rw [h1]; simp
  have z1 : (nm == K.nm) = true := by rw [h2]; simp
  clear h1 h2
  clear h hx1 hu ok hne o0 hS h0 hp hp1 hA hG
  go_enter Try.func18, Try.ntmps18
  go_upto_region 1 with fail
  rw [← hW]
  clear hW
  go_wp2_with fail
  refine hwk.mono ?_
  rintro e w1 ⟨rfl, rfl⟩
  clear hwk
  go_wp2_with fail
  refine hav.mono ?_
  rintro e W1 ⟨rfl, x1, k1⟩
  obtain ⟨hu, o0, hne, hp1, hA, hG⟩ := HH.out
  have o1 := only_then o0 k1
  have u1 := hu.only k1 (by simpa using hne)
  have hp2 := Px.only1 hp1 k1 hA hG
  have hl := u1.lt
  have hlg := x1.cel.lt
  have r0 : ∀ p : Later W1, p.W.cell? ⟨w.heap.size, 0, none⟩ = some (.int .i64 kd) := later_cell (u1.cell 0) hl
  have r1 : ∀ p : Later W1, p.W.cell? ⟨w.heap.size, 1, none⟩ = some (.int .i64 sr) := later_cell (u1.cell 1) hl
  have r2 : ∀ p : Later W1, p.W.cell? ⟨w.heap.size, 2, none⟩ = some (.int .i64 nm) := later_cell (u1.cell 2) hl
  have r3 : ∀ p : Later W1, p.W.cell? ⟨w.heap.size, 3, none⟩ = some (.int .i64 cl) := later_cell (u1.cell 3) hl
  have r4 : ∀ p : Later W1, p.W.cell? ⟨w.heap.size, 4, none⟩ = some (.string (str na)) := later_cell (u1.cell 4) hl
  have r5 : ∀ p : Later W1, p.W.cell? ⟨w.heap.size, 5, none⟩ = some (.int .i64 sz) := later_cell (u1.cell 5) hl
  have r6 : ∀ p : Later W1, p.W.cell? ⟨w.heap.size, 6, none⟩ = some (.int .i64 of) := later_cell (u1.cell 6) hl
  have r7 : ∀ p : Later W1, p.W.cell? ⟨w.heap.size, 7, none⟩ = some (.slice A0 n0 a0) := later_cell (u1.cell 7) hl
  have r8 : ∀ p : Later W1, p.W.cell? ⟨w.heap.size, 8, none⟩ = some (.int .u32 (su : Int)) := later_cell (u1.cell 8) hl
  have r9 : ∀ p : Later W1, p.W.cell? ⟨w.heap.size, 9, none⟩ = some (.int .i64 co) := later_cell (u1.cell 9) hl
  have r10 : ∀ p : Later W1, p.W.cell? ⟨w.heap.size, 10, none⟩ = some (.slice G m a) := later_cell (u1.cell 10) hl
  have g0 : ∀ p : Later W1, p.W.cell? ⟨g, 0, none⟩ = some (.int .i64 K.sr) := later_cell x1.cel.c0 hlg
  have g1 : ∀ p : Later W1, p.W.cell? ⟨g, 1, none⟩ = some (.int .i64 K.nm) := later_cell x1.cel.c1 hlg
  have hval : ∀ p : Later W1, _ := fun p => Pdu.pvalid_any kd sr nm cl na sz of da su co ga A0 n0 a0 G m a p.W (hp2.later p.h)
  have hfw : ∀ p : Later W1, _ := fun p => Pdu.pfwd_any kd p.W
  rw [hok] at hval
  rw [h3] at hfw
  have HX := Lib.hid (And.intro x1 (And.intro o1 (And.intro u1 (And.intro hp2 (And.intro hA hG)))))
  clear hav HH hu o0 k1 x1 o1 hp1 hp2 u1 hl hlg hA hG hne
  go_wp2_with fail
  refine wp_region_later (by kernel_rfl) (by kernel_rfl) ?_
  repeat (go_big_quiet_step ((first
    | (go_at_call 20; exact later_of (hval _))
    | (go_at_call 34; exact later_same (hfw _)))))
  refine wpQuiet_nil ?_
  rintro _ ⟨⟨w5, hb5⟩, rfl⟩
  obtain ⟨x1, o1, u1, hp2, hA, hG⟩ := HX.out
  have x5 := x1.below hb5
  have o5 := o1.trans (Only.of_below (S := []) hb5) (by simp)
  clear r0 r1 r2 r3 r4 r5 r6 r7 r8 r9 r10 g0 g1 hval hfw HX
  have HE := Lib.hid (And.intro x5 o5)
  clear x1 o1 u1 hp2 hA hG x5 o5 hb5
  go_wp2
  go_ret
  exact ⟨rfl, ⟨_, _, _, HE.out.1⟩, HE.out.2⟩
set_option maxRecDepth 100000 in
set_option maxHeartbeats 4000000 in
theorem stk_one (mt : Int) (kd sr nm cl : Int) (na : List Byte) (sz of : Int) (da : List Byte) (su : Nat) (co : Int) (ga : List R) (A0 : Option Addr) (n0 a0 : Nat) (G : Option Addr) (m a : Nat) (S : SS) (hS : S = adv mt s) (h : FX w g K s A n c) (ok : s.Ok K) (hp : Px w ⟨kd, sr, nm, cl, na, sz, of, da, su, co, ga⟩ A0 n0 a0 G m a) (hA : Off A0 g) (hG : Off G g) (hok : Pdu.ok ⟨kd, sr, nm, cl, na, sz, of, da, su, co, ga⟩ = true) (h1 : sr = K.sr) (h2 : nm = K.nm) (h3 : fwd kd = false) (h4 : K.cl = 1) :
    Calls Try.prog 18 #[.pointer (some ⟨g, 0, none⟩), .agg #[.int .i64 kd, .int .i64 sr, .int .i64 nm, .int .i64 cl, .string (str na), .int .i64 sz, .int .i64 of, .slice A0 n0 a0, .int .u32 (su : Int), .int .i64 co, .slice G m a], .int .i64 mt] w fun e w' => e = .returned (.int .i64 12) ∧ FW w' g K S ∧ Only [g] w w' := by
  have h0 := bel_new w (.cells #[.int .i64 kd, .int .i64 sr, .int .i64 nm, .int .i64 cl, .string (str na), .int .i64 sz, .int .i64 of, .slice A0 n0 a0, .int .u32 (su : Int), .int .i64 co, .slice G m a] 45)
  have hu := Cel.new w 45 #[.int .i64 kd, .int .i64 sr, .int .i64 nm, .int .i64 cl, .string (str na), .int .i64 sz, .int .i64 of, .slice A0 n0 a0, .int .u32 (su : Int), .int .i64 co, .slice G m a]
  have hx1 := h.below h0
  have hp1 := hp.later h0
  have o0 : Only [g] w (w.alloc (.cells #[.int .i64 kd, .int .i64 sr, .int .i64 nm, .int .i64 cl, .string (str na), .int .i64 sz, .int .i64 of, .slice A0 n0 a0, .int .u32 (su : Int), .int .i64 co, .slice G m a] 45)) := Only.of_below h0
  have hne : w.heap.size ≠ g := by have := h.cel.lt; omega
  obtain ⟨W, hW⟩ : ∃ W, W = w.alloc (.cells #[.int .i64 kd, .int .i64 sr, .int .i64 nm, .int .i64 cl, .string (str na), .int .i64 sz, .int .i64 of, .slice A0 n0 a0, .int .u32 (su : Int), .int .i64 co, .slice G m a] 45) := ⟨_, rfl⟩
  rw [← hW] at hx1 hu hp1 o0
  have hwk := sworks_any hx1.cel ok.p1
  have hav := sadvance_any hx1 mt
  rw [← hS] at hav
  have HH := Lib.hid (And.intro hu (And.intro o0 (And.intro hne (And.intro hp1 (And.intro hA hG)))))
  have z0 : (sr == K.sr) = true := by rw [h1]; simp
  have z1 : (nm == K.nm) = true := by rw [h2]; simp
  clear h1 h2
  clear h hx1 hu ok hne o0 hS h0 hp hp1 hA hG
  go_enter Try.func18, Try.ntmps18
  go_upto_region 1 with fail
  rw [← hW]
  clear hW
  go_wp2_with fail
  refine hwk.mono ?_
  rintro e w1 ⟨rfl, rfl⟩
  clear hwk
  go_wp2_with fail
  refine hav.mono ?_
  rintro e W1 ⟨rfl, x1, k1⟩
  obtain ⟨hu, o0, hne, hp1, hA, hG⟩ := HH.out
  have o1 := only_then o0 k1
  have u1 := hu.only k1 (by simpa using hne)
  have hp2 := Px.only1 hp1 k1 hA hG
  have hl := u1.lt
  have hlg := x1.cel.lt
  have r0 : ∀ p : Later W1, p.W.cell? ⟨w.heap.size, 0, none⟩ = some (.int .i64 kd) := later_cell (u1.cell 0) hl
  have r1 : ∀ p : Later W1, p.W.cell? ⟨w.heap.size, 1, none⟩ = some (.int .i64 sr) := later_cell (u1.cell 1) hl
  have r2 : ∀ p : Later W1, p.W.cell? ⟨w.heap.size, 2, none⟩ = some (.int .i64 nm) := later_cell (u1.cell 2) hl
  have r3 : ∀ p : Later W1, p.W.cell? ⟨w.heap.size, 3, none⟩ = some (.int .i64 cl) := later_cell (u1.cell 3) hl
  have r4 : ∀ p : Later W1, p.W.cell? ⟨w.heap.size, 4, none⟩ = some (.string (str na)) := later_cell (u1.cell 4) hl
  have r5 : ∀ p : Later W1, p.W.cell? ⟨w.heap.size, 5, none⟩ = some (.int .i64 sz) := later_cell (u1.cell 5) hl
  have r6 : ∀ p : Later W1, p.W.cell? ⟨w.heap.size, 6, none⟩ = some (.int .i64 of) := later_cell (u1.cell 6) hl
  have r7 : ∀ p : Later W1, p.W.cell? ⟨w.heap.size, 7, none⟩ = some (.slice A0 n0 a0) := later_cell (u1.cell 7) hl
  have r8 : ∀ p : Later W1, p.W.cell? ⟨w.heap.size, 8, none⟩ = some (.int .u32 (su : Int)) := later_cell (u1.cell 8) hl
  have r9 : ∀ p : Later W1, p.W.cell? ⟨w.heap.size, 9, none⟩ = some (.int .i64 co) := later_cell (u1.cell 9) hl
  have r10 : ∀ p : Later W1, p.W.cell? ⟨w.heap.size, 10, none⟩ = some (.slice G m a) := later_cell (u1.cell 10) hl
  have g0 : ∀ p : Later W1, p.W.cell? ⟨g, 0, none⟩ = some (.int .i64 K.sr) := later_cell x1.cel.c0 hlg
  have g1 : ∀ p : Later W1, p.W.cell? ⟨g, 1, none⟩ = some (.int .i64 K.nm) := later_cell x1.cel.c1 hlg
  have hval : ∀ p : Later W1, _ := fun p => Pdu.pvalid_any kd sr nm cl na sz of da su co ga A0 n0 a0 G m a p.W (hp2.later p.h)
  have hfw : ∀ p : Later W1, _ := fun p => Pdu.pfwd_any kd p.W
  rw [hok] at hval
  rw [h3] at hfw
  have HX := Lib.hid (And.intro x1 (And.intro o1 (And.intro u1 (And.intro hp2 (And.intro hA hG)))))
  clear hav HH hu o0 k1 x1 o1 hp1 hp2 u1 hl hlg hA hG hne
  go_wp2_with fail
  refine wp_region_later (by kernel_rfl) (by kernel_rfl) ?_
  repeat (go_big_quiet_step ((first
    | (go_at_call 20; exact later_of (hval _))
    | (go_at_call 34; exact later_same (hfw _)))))
  refine wpQuiet_nil ?_
  rintro _ ⟨⟨w5, hb5⟩, rfl⟩
  obtain ⟨x1, o1, u1, hp2, hA, hG⟩ := HX.out
  have x5 := x1.below hb5
  have o5 := o1.trans (Only.of_below (S := []) hb5) (by simp)
  clear r0 r1 r2 r3 r4 r5 r6 r7 r8 r9 r10 g0 g1 hval hfw HX
  have c2 := x5.cel.c2
  rw [h4] at c2
  clear h4
  have HE := Lib.hid (And.intro x5 o5)
  clear x1 o1 u1 hp2 hA hG x5 o5 hb5
  go_wp2
  go_ret
  exact ⟨rfl, ⟨_, _, _, HE.out.1⟩, HE.out.2⟩
set_option maxRecDepth 100000 in
set_option maxHeartbeats 4000000 in
theorem stk_ack (mt : Int) (sr nm cl : Int) (na : List Byte) (sz of : Int) (da : List Byte) (su : Nat) (co : Int) (ga : List R) (A0 : Option Addr) (n0 a0 : Nat) (G : Option Addr) (m a : Nat) (S : SS) (hS : S = adv mt s) (h : FX w g K s A n c) (ok : s.Ok K) (hp : Px w ⟨6, sr, nm, cl, na, sz, of, da, su, co, ga⟩ A0 n0 a0 G m a) (hA : Off A0 g) (hG : Off G g) (hok : Pdu.ok ⟨6, sr, nm, cl, na, sz, of, da, su, co, ga⟩ = true) (h1 : sr = K.sr) (h2 : nm = K.nm) (h4 : ¬ K.cl = 1) :
    Calls Try.prog 18 #[.pointer (some ⟨g, 0, none⟩), .agg #[.int .i64 6, .int .i64 sr, .int .i64 nm, .int .i64 cl, .string (str na), .int .i64 sz, .int .i64 of, .slice A0 n0 a0, .int .u32 (su : Int), .int .i64 co, .slice G m a], .int .i64 mt] w fun e w' => e = .returned (.int .i64 (aeO S)) ∧ FW w' g K (aeS S) ∧ Only [g] w w' := by
  have h0 := bel_new w (.cells #[.int .i64 6, .int .i64 sr, .int .i64 nm, .int .i64 cl, .string (str na), .int .i64 sz, .int .i64 of, .slice A0 n0 a0, .int .u32 (su : Int), .int .i64 co, .slice G m a] 45)
  have hu := Cel.new w 45 #[.int .i64 6, .int .i64 sr, .int .i64 nm, .int .i64 cl, .string (str na), .int .i64 sz, .int .i64 of, .slice A0 n0 a0, .int .u32 (su : Int), .int .i64 co, .slice G m a]
  have hx1 := h.below h0
  have hp1 := hp.later h0
  have o0 : Only [g] w (w.alloc (.cells #[.int .i64 6, .int .i64 sr, .int .i64 nm, .int .i64 cl, .string (str na), .int .i64 sz, .int .i64 of, .slice A0 n0 a0, .int .u32 (su : Int), .int .i64 co, .slice G m a] 45)) := Only.of_below h0
  have hne : w.heap.size ≠ g := by have := h.cel.lt; omega
  obtain ⟨W, hW⟩ : ∃ W, W = w.alloc (.cells #[.int .i64 6, .int .i64 sr, .int .i64 nm, .int .i64 cl, .string (str na), .int .i64 sz, .int .i64 of, .slice A0 n0 a0, .int .u32 (su : Int), .int .i64 co, .slice G m a] 45) := ⟨_, rfl⟩
  rw [← hW] at hx1 hu hp1 o0
  have hwk := sworks_any hx1.cel ok.p1
  have hav := sadvance_any hx1 mt
  rw [← hS] at hav
  have HH := Lib.hid (And.intro hu (And.intro o0 (And.intro hne (And.intro hp1 (And.intro hA hG)))))
  have z0 : (sr == K.sr) = true := by rw [h1]; simp
  have z1 : (nm == K.nm) = true := by rw [h2]; simp
  clear h1 h2
  clear h hx1 hu ok hne o0 hS h0 hp hp1 hA hG
  go_enter Try.func18, Try.ntmps18
  go_upto_region 1 with fail
  rw [← hW]
  clear hW
  go_wp2_with fail
  refine hwk.mono ?_
  rintro e w1 ⟨rfl, rfl⟩
  clear hwk
  go_wp2_with fail
  refine hav.mono ?_
  rintro e W1 ⟨rfl, x1, k1⟩
  obtain ⟨hu, o0, hne, hp1, hA, hG⟩ := HH.out
  have o1 := only_then o0 k1
  have u1 := hu.only k1 (by simpa using hne)
  have hp2 := Px.only1 hp1 k1 hA hG
  have hl := u1.lt
  have hlg := x1.cel.lt
  have r0 : ∀ p : Later W1, p.W.cell? ⟨w.heap.size, 0, none⟩ = some (.int .i64 6) := later_cell (u1.cell 0) hl
  have r1 : ∀ p : Later W1, p.W.cell? ⟨w.heap.size, 1, none⟩ = some (.int .i64 sr) := later_cell (u1.cell 1) hl
  have r2 : ∀ p : Later W1, p.W.cell? ⟨w.heap.size, 2, none⟩ = some (.int .i64 nm) := later_cell (u1.cell 2) hl
  have r3 : ∀ p : Later W1, p.W.cell? ⟨w.heap.size, 3, none⟩ = some (.int .i64 cl) := later_cell (u1.cell 3) hl
  have r4 : ∀ p : Later W1, p.W.cell? ⟨w.heap.size, 4, none⟩ = some (.string (str na)) := later_cell (u1.cell 4) hl
  have r5 : ∀ p : Later W1, p.W.cell? ⟨w.heap.size, 5, none⟩ = some (.int .i64 sz) := later_cell (u1.cell 5) hl
  have r6 : ∀ p : Later W1, p.W.cell? ⟨w.heap.size, 6, none⟩ = some (.int .i64 of) := later_cell (u1.cell 6) hl
  have r7 : ∀ p : Later W1, p.W.cell? ⟨w.heap.size, 7, none⟩ = some (.slice A0 n0 a0) := later_cell (u1.cell 7) hl
  have r8 : ∀ p : Later W1, p.W.cell? ⟨w.heap.size, 8, none⟩ = some (.int .u32 (su : Int)) := later_cell (u1.cell 8) hl
  have r9 : ∀ p : Later W1, p.W.cell? ⟨w.heap.size, 9, none⟩ = some (.int .i64 co) := later_cell (u1.cell 9) hl
  have r10 : ∀ p : Later W1, p.W.cell? ⟨w.heap.size, 10, none⟩ = some (.slice G m a) := later_cell (u1.cell 10) hl
  have g0 : ∀ p : Later W1, p.W.cell? ⟨g, 0, none⟩ = some (.int .i64 K.sr) := later_cell x1.cel.c0 hlg
  have g1 : ∀ p : Later W1, p.W.cell? ⟨g, 1, none⟩ = some (.int .i64 K.nm) := later_cell x1.cel.c1 hlg
  have hval : ∀ p : Later W1, _ := fun p => Pdu.pvalid_any 6 sr nm cl na sz of da su co ga A0 n0 a0 G m a p.W (hp2.later p.h)
  have hfw : ∀ p : Later W1, _ := fun p => Pdu.pfwd_any 6 p.W
  have h3 : fwd 6 = false := by decide
  rw [hok] at hval
  rw [h3] at hfw
  have HX := Lib.hid (And.intro x1 (And.intro o1 (And.intro u1 (And.intro hp2 (And.intro hA hG)))))
  clear hav HH hu o0 k1 x1 o1 hp1 hp2 u1 hl hlg hA hG hne
  go_wp2_with fail
  refine wp_region_later (by kernel_rfl) (by kernel_rfl) ?_
  repeat (go_big_quiet_step ((first
    | (go_at_call 20; exact later_of (hval _))
    | (go_at_call 34; exact later_same (hfw _)))))
  refine wpQuiet_nil ?_
  rintro _ ⟨⟨w5, hb5⟩, rfl⟩
  obtain ⟨x1, o1, u1, hp2, hA, hG⟩ := HX.out
  have x5 := x1.below hb5
  have o5 := o1.trans (Only.of_below (S := []) hb5) (by simp)
  clear r0 r1 r2 r3 r4 r5 r6 r7 r8 r9 r10 g0 g1 hval hfw HX
  have u5 := Cel.on u1 hb5
  have hp5 := hp2.later hb5
  have c2 := x5.cel.c2
  obtain ⟨kl, hkl⟩ : ∃ kl, kl = K.cl := ⟨_, rfl⟩
  rw [← hkl] at c2 h4
  have z4 : (kl == 1) = false := by simpa using h4
  clear h4 hkl
  have d0 := u5.cell 0
  have ha := sackeof_any x5
  clear x1 o1 u1 hp2 hA hG hb5 u5 hp5 x5
  go_wp2_with fail
  refine ha.mono ?_
  rintro e w6 ⟨rfl, x6, k6⟩
  have HE := Lib.hid (And.intro x6 (only_then o5 k6))
  clear x6 k6 o5 ha
  go_wp2
  go_ret
  exact ⟨rfl, ⟨_, _, _, HE.out.1⟩, HE.out.2⟩
set_option maxRecDepth 100000 in
set_option maxHeartbeats 4000000 in
theorem stk_nak (mt : Int) (sr nm cl : Int) (na : List Byte) (sz of : Int) (da : List Byte) (su : Nat) (co : Int) (ga : List R) (A0 : Option Addr) (n0 a0 : Nat) (G : Option Addr) (m a : Nat) (S : SS) (hS : S = adv mt s) (h : FX w g K s A n c) (ok : s.Ok K) (hp : Px w ⟨4, sr, nm, cl, na, sz, of, da, su, co, ga⟩ A0 n0 a0 G (m + 1) a) (hA : Off A0 g) (hG : Off G g) (hok : Pdu.ok ⟨4, sr, nm, cl, na, sz, of, da, su, co, ga⟩ = true) (h1 : sr = K.sr) (h2 : nm = K.nm) (h4 : ¬ K.cl = 1) (hK0 : K.Ok) (oS : S.Ok K) (hv : Pdu.vga ga = true) :
    Calls Try.prog 18 #[.pointer (some ⟨g, 0, none⟩), .agg #[.int .i64 4, .int .i64 sr, .int .i64 nm, .int .i64 cl, .string (str na), .int .i64 sz, .int .i64 of, .slice A0 n0 a0, .int .u32 (su : Int), .int .i64 co, .slice G (m + 1) a], .int .i64 mt] w fun e w' => e = .returned (.int .i64 (naO K ga)) ∧ FW w' g K (naS K ga S) ∧ Only [g] w w' := by
  have h0 := bel_new w (.cells #[.int .i64 4, .int .i64 sr, .int .i64 nm, .int .i64 cl, .string (str na), .int .i64 sz, .int .i64 of, .slice A0 n0 a0, .int .u32 (su : Int), .int .i64 co, .slice G (m + 1) a] 45)
  have hu := Cel.new w 45 #[.int .i64 4, .int .i64 sr, .int .i64 nm, .int .i64 cl, .string (str na), .int .i64 sz, .int .i64 of, .slice A0 n0 a0, .int .u32 (su : Int), .int .i64 co, .slice G (m + 1) a]
  have hx1 := h.below h0
  have hp1 := hp.later h0
  have o0 : Only [g] w (w.alloc (.cells #[.int .i64 4, .int .i64 sr, .int .i64 nm, .int .i64 cl, .string (str na), .int .i64 sz, .int .i64 of, .slice A0 n0 a0, .int .u32 (su : Int), .int .i64 co, .slice G (m + 1) a] 45)) := Only.of_below h0
  have hne : w.heap.size ≠ g := by have := h.cel.lt; omega
  obtain ⟨W, hW⟩ : ∃ W, W = w.alloc (.cells #[.int .i64 4, .int .i64 sr, .int .i64 nm, .int .i64 cl, .string (str na), .int .i64 sz, .int .i64 of, .slice A0 n0 a0, .int .u32 (su : Int), .int .i64 co, .slice G (m + 1) a] 45) := ⟨_, rfl⟩
  rw [← hW] at hx1 hu hp1 o0
  have hwk := sworks_any hx1.cel ok.p1
  have hav := sadvance_any hx1 mt
  rw [← hS] at hav
  have HH := Lib.hid (And.intro hu (And.intro o0 (And.intro hne (And.intro hp1 (And.intro hA hG)))))
  have z0 : (sr == K.sr) = true := by rw [h1]; simp
  have z1 : (nm == K.nm) = true := by rw [h2]; simp
  clear h1 h2
  clear h hx1 hu ok hne o0 hS h0 hp hp1 hA hG
  go_enter Try.func18, Try.ntmps18
  go_upto_region 1 with fail
  rw [← hW]
  clear hW
  go_wp2_with fail
  refine hwk.mono ?_
  rintro e w1 ⟨rfl, rfl⟩
  clear hwk
  go_wp2_with fail
  refine hav.mono ?_
  rintro e W1 ⟨rfl, x1, k1⟩
  obtain ⟨hu, o0, hne, hp1, hA, hG⟩ := HH.out
  have o1 := only_then o0 k1
  have u1 := hu.only k1 (by simpa using hne)
  have hp2 := Px.only1 hp1 k1 hA hG
  have hl := u1.lt
  have hlg := x1.cel.lt
  have r0 : ∀ p : Later W1, p.W.cell? ⟨w.heap.size, 0, none⟩ = some (.int .i64 4) := later_cell (u1.cell 0) hl
  have r1 : ∀ p : Later W1, p.W.cell? ⟨w.heap.size, 1, none⟩ = some (.int .i64 sr) := later_cell (u1.cell 1) hl
  have r2 : ∀ p : Later W1, p.W.cell? ⟨w.heap.size, 2, none⟩ = some (.int .i64 nm) := later_cell (u1.cell 2) hl
  have r3 : ∀ p : Later W1, p.W.cell? ⟨w.heap.size, 3, none⟩ = some (.int .i64 cl) := later_cell (u1.cell 3) hl
  have r4 : ∀ p : Later W1, p.W.cell? ⟨w.heap.size, 4, none⟩ = some (.string (str na)) := later_cell (u1.cell 4) hl
  have r5 : ∀ p : Later W1, p.W.cell? ⟨w.heap.size, 5, none⟩ = some (.int .i64 sz) := later_cell (u1.cell 5) hl
  have r6 : ∀ p : Later W1, p.W.cell? ⟨w.heap.size, 6, none⟩ = some (.int .i64 of) := later_cell (u1.cell 6) hl
  have r7 : ∀ p : Later W1, p.W.cell? ⟨w.heap.size, 7, none⟩ = some (.slice A0 n0 a0) := later_cell (u1.cell 7) hl
  have r8 : ∀ p : Later W1, p.W.cell? ⟨w.heap.size, 8, none⟩ = some (.int .u32 (su : Int)) := later_cell (u1.cell 8) hl
  have r9 : ∀ p : Later W1, p.W.cell? ⟨w.heap.size, 9, none⟩ = some (.int .i64 co) := later_cell (u1.cell 9) hl
  have r10 : ∀ p : Later W1, p.W.cell? ⟨w.heap.size, 10, none⟩ = some (.slice G (m + 1) a) := later_cell (u1.cell 10) hl
  have g0 : ∀ p : Later W1, p.W.cell? ⟨g, 0, none⟩ = some (.int .i64 K.sr) := later_cell x1.cel.c0 hlg
  have g1 : ∀ p : Later W1, p.W.cell? ⟨g, 1, none⟩ = some (.int .i64 K.nm) := later_cell x1.cel.c1 hlg
  have hval : ∀ p : Later W1, _ := fun p => Pdu.pvalid_any 4 sr nm cl na sz of da su co ga A0 n0 a0 G (m + 1) a p.W (hp2.later p.h)
  have hfw : ∀ p : Later W1, _ := fun p => Pdu.pfwd_any 4 p.W
  have h3 : fwd 4 = false := by decide
  rw [hok] at hval
  rw [h3] at hfw
  have HX := Lib.hid (And.intro x1 (And.intro o1 (And.intro u1 (And.intro hp2 (And.intro hA hG)))))
  clear hav HH hu o0 k1 x1 o1 hp1 hp2 u1 hl hlg hA hG hne
  go_wp2_with fail
  refine wp_region_later (by kernel_rfl) (by kernel_rfl) ?_
  repeat (go_big_quiet_step ((first
    | (go_at_call 20; exact later_of (hval _))
    | (go_at_call 34; exact later_same (hfw _)))))
  refine wpQuiet_nil ?_
  rintro _ ⟨⟨w5, hb5⟩, rfl⟩
  obtain ⟨x1, o1, u1, hp2, hA, hG⟩ := HX.out
  have x5 := x1.below hb5
  have o5 := o1.trans (Only.of_below (S := []) hb5) (by simp)
  clear r0 r1 r2 r3 r4 r5 r6 r7 r8 r9 r10 g0 g1 hval hfw HX
  have u5 := Cel.on u1 hb5
  have hp5 := hp2.later hb5
  have c2 := x5.cel.c2
  obtain ⟨kl, hkl⟩ : ∃ kl, kl = K.cl := ⟨_, rfl⟩
  rw [← hkl] at c2 h4
  have z4 : (kl == 1) = false := by simpa using h4
  clear h4 hkl
  have d0 := u5.cell 0
  have d9 := u5.cell 10
  have hn := snak_any x5 hK0 oS ga G m a hp5.g hG hv
  clear x1 o1 u1 hp2 hA hG hb5 u5 hp5 x5 hv oS
  go_wp2_with fail
  refine hn.mono ?_
  rintro e w6 ⟨rfl, ⟨_, _, _, x6⟩, k6⟩
  have HE := Lib.hid (And.intro x6 (only_then o5 k6))
  clear x6 k6 o5 hn
  go_wp2
  go_ret
  exact ⟨rfl, ⟨_, _, _, HE.out.1⟩, HE.out.2⟩
set_option maxRecDepth 100000 in
set_option maxHeartbeats 4000000 in
theorem stk_fin (mt : Int) (sr nm cl : Int) (na : List Byte) (sz of : Int) (da : List Byte) (su : Nat) (co : Int) (ga : List R) (A0 : Option Addr) (n0 a0 : Nat) (G : Option Addr) (m a : Nat) (S : SS) (hS : S = adv mt s) (h : FX w g K s A n c) (ok : s.Ok K) (hp : Px w ⟨5, sr, nm, cl, na, sz, of, da, su, co, ga⟩ A0 n0 a0 G m a) (hA : Off A0 g) (hG : Off G g) (hok : Pdu.ok ⟨5, sr, nm, cl, na, sz, of, da, su, co, ga⟩ = true) (h1 : sr = K.sr) (h2 : nm = K.nm) (h4 : ¬ K.cl = 1) :
    Calls Try.prog 18 #[.pointer (some ⟨g, 0, none⟩), .agg #[.int .i64 5, .int .i64 sr, .int .i64 nm, .int .i64 cl, .string (str na), .int .i64 sz, .int .i64 of, .slice A0 n0 a0, .int .u32 (su : Int), .int .i64 co, .slice G m a], .int .i64 mt] w fun e w' => e = .returned (.int .i64 0) ∧ FW w' g K (fiS co S) ∧ Only [g] w w' := by
  have h0 := bel_new w (.cells #[.int .i64 5, .int .i64 sr, .int .i64 nm, .int .i64 cl, .string (str na), .int .i64 sz, .int .i64 of, .slice A0 n0 a0, .int .u32 (su : Int), .int .i64 co, .slice G m a] 45)
  have hu := Cel.new w 45 #[.int .i64 5, .int .i64 sr, .int .i64 nm, .int .i64 cl, .string (str na), .int .i64 sz, .int .i64 of, .slice A0 n0 a0, .int .u32 (su : Int), .int .i64 co, .slice G m a]
  have hx1 := h.below h0
  have hp1 := hp.later h0
  have o0 : Only [g] w (w.alloc (.cells #[.int .i64 5, .int .i64 sr, .int .i64 nm, .int .i64 cl, .string (str na), .int .i64 sz, .int .i64 of, .slice A0 n0 a0, .int .u32 (su : Int), .int .i64 co, .slice G m a] 45)) := Only.of_below h0
  have hne : w.heap.size ≠ g := by have := h.cel.lt; omega
  obtain ⟨W, hW⟩ : ∃ W, W = w.alloc (.cells #[.int .i64 5, .int .i64 sr, .int .i64 nm, .int .i64 cl, .string (str na), .int .i64 sz, .int .i64 of, .slice A0 n0 a0, .int .u32 (su : Int), .int .i64 co, .slice G m a] 45) := ⟨_, rfl⟩
  rw [← hW] at hx1 hu hp1 o0
  have hwk := sworks_any hx1.cel ok.p1
  have hav := sadvance_any hx1 mt
  rw [← hS] at hav
  have HH := Lib.hid (And.intro hu (And.intro o0 (And.intro hne (And.intro hp1 (And.intro hA hG)))))
  have z0 : (sr == K.sr) = true := by rw [h1]; simp
  have z1 : (nm == K.nm) = true := by rw [h2]; simp
  clear h1 h2
  clear h hx1 hu ok hne o0 hS h0 hp hp1 hA hG
  go_enter Try.func18, Try.ntmps18
  go_upto_region 1 with fail
  rw [← hW]
  clear hW
  go_wp2_with fail
  refine hwk.mono ?_
  rintro e w1 ⟨rfl, rfl⟩
  clear hwk
  go_wp2_with fail
  refine hav.mono ?_
  rintro e W1 ⟨rfl, x1, k1⟩
  obtain ⟨hu, o0, hne, hp1, hA, hG⟩ := HH.out
  have o1 := only_then o0 k1
  have u1 := hu.only k1 (by simpa using hne)
  have hp2 := Px.only1 hp1 k1 hA hG
  have hl := u1.lt
  have hlg := x1.cel.lt
  have r0 : ∀ p : Later W1, p.W.cell? ⟨w.heap.size, 0, none⟩ = some (.int .i64 5) := later_cell (u1.cell 0) hl
  have r1 : ∀ p : Later W1, p.W.cell? ⟨w.heap.size, 1, none⟩ = some (.int .i64 sr) := later_cell (u1.cell 1) hl
  have r2 : ∀ p : Later W1, p.W.cell? ⟨w.heap.size, 2, none⟩ = some (.int .i64 nm) := later_cell (u1.cell 2) hl
  have r3 : ∀ p : Later W1, p.W.cell? ⟨w.heap.size, 3, none⟩ = some (.int .i64 cl) := later_cell (u1.cell 3) hl
  have r4 : ∀ p : Later W1, p.W.cell? ⟨w.heap.size, 4, none⟩ = some (.string (str na)) := later_cell (u1.cell 4) hl
  have r5 : ∀ p : Later W1, p.W.cell? ⟨w.heap.size, 5, none⟩ = some (.int .i64 sz) := later_cell (u1.cell 5) hl
  have r6 : ∀ p : Later W1, p.W.cell? ⟨w.heap.size, 6, none⟩ = some (.int .i64 of) := later_cell (u1.cell 6) hl
  have r7 : ∀ p : Later W1, p.W.cell? ⟨w.heap.size, 7, none⟩ = some (.slice A0 n0 a0) := later_cell (u1.cell 7) hl
  have r8 : ∀ p : Later W1, p.W.cell? ⟨w.heap.size, 8, none⟩ = some (.int .u32 (su : Int)) := later_cell (u1.cell 8) hl
  have r9 : ∀ p : Later W1, p.W.cell? ⟨w.heap.size, 9, none⟩ = some (.int .i64 co) := later_cell (u1.cell 9) hl
  have r10 : ∀ p : Later W1, p.W.cell? ⟨w.heap.size, 10, none⟩ = some (.slice G m a) := later_cell (u1.cell 10) hl
  have g0 : ∀ p : Later W1, p.W.cell? ⟨g, 0, none⟩ = some (.int .i64 K.sr) := later_cell x1.cel.c0 hlg
  have g1 : ∀ p : Later W1, p.W.cell? ⟨g, 1, none⟩ = some (.int .i64 K.nm) := later_cell x1.cel.c1 hlg
  have hval : ∀ p : Later W1, _ := fun p => Pdu.pvalid_any 5 sr nm cl na sz of da su co ga A0 n0 a0 G m a p.W (hp2.later p.h)
  have hfw : ∀ p : Later W1, _ := fun p => Pdu.pfwd_any 5 p.W
  have h3 : fwd 5 = false := by decide
  rw [hok] at hval
  rw [h3] at hfw
  have HX := Lib.hid (And.intro x1 (And.intro o1 (And.intro u1 (And.intro hp2 (And.intro hA hG)))))
  clear hav HH hu o0 k1 x1 o1 hp1 hp2 u1 hl hlg hA hG hne
  go_wp2_with fail
  refine wp_region_later (by kernel_rfl) (by kernel_rfl) ?_
  repeat (go_big_quiet_step ((first
    | (go_at_call 20; exact later_of (hval _))
    | (go_at_call 34; exact later_same (hfw _)))))
  refine wpQuiet_nil ?_
  rintro _ ⟨⟨w5, hb5⟩, rfl⟩
  obtain ⟨x1, o1, u1, hp2, hA, hG⟩ := HX.out
  have x5 := x1.below hb5
  have o5 := o1.trans (Only.of_below (S := []) hb5) (by simp)
  clear r0 r1 r2 r3 r4 r5 r6 r7 r8 r9 r10 g0 g1 hval hfw HX
  have u5 := Cel.on u1 hb5
  have hp5 := hp2.later hb5
  have c2 := x5.cel.c2
  obtain ⟨kl, hkl⟩ : ∃ kl, kl = K.cl := ⟨_, rfl⟩
  rw [← hkl] at c2 h4
  have z4 : (kl == 1) = false := by simpa using h4
  clear h4 hkl
  have d0 := u5.cell 0
  have d8 := u5.cell 9
  have hn := sfin_any x5 co
  clear x1 o1 u1 hp2 hA hG hb5 u5 hp5 x5
  go_wp2_with fail
  refine hn.mono ?_
  rintro e w6 ⟨rfl, ⟨_, _, _, x6⟩, k6⟩
  have HE := Lib.hid (And.intro x6 (only_then o5 k6))
  clear x6 k6 o5 hn
  go_wp2
  go_ret
  exact ⟨rfl, ⟨_, _, _, HE.out.1⟩, HE.out.2⟩
theorem stake_any (mt : Int) (kd sr nm cl : Int) (na : List Byte) (sz of : Int) (da : List Byte) (su : Nat) (co : Int) (ga : List R) (A0 : Option Addr) (n0 a0 : Nat) (G : Option Addr) (m a : Nat) (h : FW w g K s) (hK0 : K.Ok) (ok : s.Ok K) (hp : Px w ⟨kd, sr, nm, cl, na, sz, of, da, su, co, ga⟩ A0 n0 a0 G m a) (hA : Off A0 g) (hG : Off G g) :
    Calls Try.prog 18 #[.pointer (some ⟨g, 0, none⟩), .agg #[.int .i64 kd, .int .i64 sr, .int .i64 nm, .int .i64 cl, .string (str na), .int .i64 sz, .int .i64 of, .slice A0 n0 a0, .int .u32 (su : Int), .int .i64 co, .slice G m a], .int .i64 mt] w fun e w' => e = .returned (.int .i64 (taO K ⟨kd, sr, nm, cl, na, sz, of, da, su, co, ga⟩ (adv mt s))) ∧ FW w' g K (taS K ⟨kd, sr, nm, cl, na, sz, of, da, su, co, ga⟩ (adv mt s)) ∧ Only [g] w w' := by
  obtain ⟨A, n, c, h⟩ := h
  have oS := adv_ok ok mt
  obtain ⟨S, hS⟩ : ∃ S, S = adv mt s := ⟨_, rfl⟩
  rw [← hS] at oS ⊢
  unfold taO taS mine
  cases hok : Pdu.ok ⟨kd, sr, nm, cl, na, sz, of, da, su, co, ga⟩ with
  | false =>
    simp only [Bool.false_and, if_true]
    exact stk_inv mt _ _ _ _ _ _ _ _ _ _ _ _ _ _ _ _ _ S hS h ok hp hA hG hok
  | true =>
    rw [Bool.true_and]
    dsimp only
    by_cases h1 : sr = K.sr
    · by_cases h2 : nm = K.nm
      · rw [decide_eq_true (And.intro h1 h2), Bool.true_and]
        have hk := ok_kd hok
        dsimp only at hk
        cases h3 : fwd kd with
        | true =>
          have h3' := of_decide_eq_true (show decide (kd = 1 ∨ kd = 2 ∨ kd = 3 ∨ kd = 7) = true from h3)
          rw [decide_eq_false (by omega)]
          simp only [if_true]
          exact stk_fwd mt _ _ _ _ _ _ _ _ _ _ _ _ _ _ _ _ _ S hS h ok hp hA hG hok h1 h2 h3
        | false =>
          have h3' := of_decide_eq_false (show decide (kd = 1 ∨ kd = 2 ∨ kd = 3 ∨ kd = 7) = false from h3)
          rw [decide_eq_true (by omega)]
          simp only [Bool.true_eq_false, if_false]
          by_cases h4 : K.cl = 1
          · rw [if_pos h4, if_pos h4]
            exact stk_one mt _ _ _ _ _ _ _ _ _ _ _ _ _ _ _ _ _ S hS h ok hp hA hG hok h1 h2 h3 h4
          rw [if_neg h4, if_neg h4]
          by_cases h5 : kd = 6
          · subst h5
            rw [if_pos rfl, if_pos rfl]
            exact stk_ack mt _ _ _ _ _ _ _ _ _ _ _ _ _ _ _ _ S hS h ok hp hA hG hok h1 h2 h4
          rw [if_neg h5, if_neg h5]
          by_cases h6 : kd = 4
          · subst h6
            rw [if_pos rfl, if_pos rfl]
            have hv : Pdu.vga ga = true := mine_vga (K := K) (p := ⟨4, sr, nm, cl, na, sz, of, da, su, co, ga⟩) (by unfold mine; rw [hok]; simp [h1, h2]) rfl
            obtain ⟨m', rfl⟩ : ∃ m', m = m' + 1 := by
              have h7 := hp.g.len
              have h8 := (vga_in hv).1
              have h9 := List.length_pos_iff.2 h8
              dsimp only at h7
              exact ⟨m - 1, by omega⟩
            exact stk_nak mt _ _ _ _ _ _ _ _ _ _ _ _ _ _ _ _ S hS h ok hp hA hG hok h1 h2 h4 hK0 oS hv
          · rw [if_neg h6, if_neg h6]
            have h7 : kd = 5 := by omega
            subst h7
            exact stk_fin mt _ _ _ _ _ _ _ _ _ _ _ _ _ _ _ _ S hS h ok hp hA hG hok h1 h2 h4
      · rw [decide_eq_false (fun h : sr = K.sr ∧ nm = K.nm => h2 h.2)]
        simp only [Bool.false_and, if_true]
        exact stk_nm mt _ _ _ _ _ _ _ _ _ _ _ _ _ _ _ _ _ S hS h ok hp hA hG hok h1 h2
    · rw [decide_eq_false (fun h : sr = K.sr ∧ nm = K.nm => h1 h.1)]
      simp only [Bool.false_and, if_true]
      exact stk_sr mt _ _ _ _ _ _ _ _ _ _ _ _ _ _ _ _ _ S hS h ok hp hA hG hok h1
end
end Go.Proofs.Ytaaikmncdgfkmaa.Src
