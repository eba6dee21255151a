/-
  The reference of layer 20: Take where it does nothing; Take.
-/
import Derived.Test.YtcmonalnhdodmaaRef20d
namespace Go.Proofs.Ytcmonalnhdodmaa.Unp
open Go.RowKit Go.Proofs.Ytcmonalnhdodmaa.Row Lst
open Pac (bel_new)

section
variable {w : World} {A a : Option Addr} {n c m cd : Nat} {r : RU} {d : List Byte} {ct f : Int}
set_option maxRecDepth 100000 in
set_option maxHeartbeats 2000000 in
theorem xtake_bad (hok : r.Ok) (hr : Rd w A r.rs n c) (hl : d.length = m) (hA : ¬ Arg ct f d) :
    Calls Try.prog 12 #[.agg #[.bool r.st, .int .i64 (r.nx : Int), .int .i64 (r.lo : Int), .bool r.sp, .slice A n c], .int .i64 ct, .int .i64 f, .slice a m cd] w fun e w' =>
      ∃ (r' : RU) (A' : Option Addr) (n' c' : Nat) (R : Value), e = .returned (.tuple #[.agg #[.bool r'.st, .int .i64 (r'.nx : Int), .int .i64 (r'.lo : Int), .bool r'.sp, .slice A' n' c'], R]) ∧ XtOut w A r.us [] r' A' n' c' R w' := by
  have hX1 := Xs.start w r A n c
  have HR := Lib.hid (And.intro hr hok)
  obtain ⟨st, nx, lo, sp, rs⟩ := r
  clear hr hok
  obtain ⟨W1, hW1⟩ : ∃ W1, W1 = (w.alloc (.cells #[.bool st, .int .i64 (nx : Int), .int .i64 (lo : Int), .bool sp, .slice A n c] 28)).alloc (.cells #[.bool false, .int .i64 0, .int .i64 0, .bool false, .slice none 0 0] 28) := ⟨_, rfl⟩
  have HX1 : Hid (Xs w ⟨st, nx, lo, sp, rs⟩ A n c W1) := Lib.hid (by rw [hW1]; exact hX1)
  clear hX1
  have c0 := HX1.out.p.cell 0
  have c1 := HX1.out.p.cell 1
  have c2 := HX1.out.p.cell 2
  have c3 := HX1.out.p.cell 3
  have c4 := HX1.out.p.cell 4
  simp [RU.cs] at c0 c1 c2 c3 c4
  have y0 := HX1.out.z.cell 0
  have y1 := HX1.out.z.cell 1
  have y2 := HX1.out.z.cell 2
  have y3 := HX1.out.z.cell 3
  have y4 := HX1.out.z.cell 4
  simp at y0 y1 y2 y3 y4
  have f0 := HX1.out.z.free 0
  have f1 := HX1.out.z.free 1
  have f2 := HX1.out.z.free 2
  have f3 := HX1.out.z.free 3
  have f4 := HX1.out.z.free 4
  have q5 := put5_cel HX1.out.z (.bool st) (.int .i64 (nx : Int)) (.int .i64 (lo : Int)) (.bool sp) (.slice A n c)
  have k5 := put5_only W1 (w.heap.size + 1) (.bool st) (.int .i64 (nx : Int)) (.int .i64 (lo : Int)) (.bool sp) (.slice A n c)
  have b5 := HX1.out.b.trans (k5.below HX1.out.b.size (by simp))
  unfold put5 at q5 b5
  have HF := Lib.hid (And.intro q5 b5)
  clear q5 k5 b5
  by_cases h1 : ct < 0
  · have u1 : decide (ct < 0) = true := by simpa using h1
    clear h1 hA hl
    go_enter Try.func12, Try.ntmps12
    go_upto_region 1 with fail
    rw [← hW1]
    clear hW1
    go_wp2
    refine bodyPost_ret (xt_results rfl rfl HF.out.1) rfl ⟨⟨st, nx, lo, sp, rs⟩, A, n, c, _, rfl, ⟨HR.out.1.later HF.out.2, rfl, HR.out.2, ⟨[], LO.nil_ _ _ _ _⟩, fun x hx => .inl hx, HF.out.2⟩⟩
  · have u1 : decide (ct < 0) = false := by simpa using h1
    by_cases h2 : 255 < ct
    · have u2 : decide (255 < ct) = true := by simpa using h2
      clear h1 h2 hA hl
      go_enter Try.func12, Try.ntmps12
      go_upto_region 1 with fail
      rw [← hW1]
      clear hW1
      go_wp2
      refine bodyPost_ret (xt_results rfl rfl HF.out.1) rfl ⟨⟨st, nx, lo, sp, rs⟩, A, n, c, _, rfl, ⟨HR.out.1.later HF.out.2, rfl, HR.out.2, ⟨[], LO.nil_ _ _ _ _⟩, fun x hx => .inl hx, HF.out.2⟩⟩
    · have u2 : decide (255 < ct) = false := by simpa using h2
      by_cases h3 : f < 0
      · have u3 : decide (f < 0) = true := by simpa using h3
        clear h1 h2 h3 hA hl
        go_enter Try.func12, Try.ntmps12
        go_upto_region 1 with fail
        rw [← hW1]
        clear hW1
        go_wp2
        refine bodyPost_ret (xt_results rfl rfl HF.out.1) rfl ⟨⟨st, nx, lo, sp, rs⟩, A, n, c, _, rfl, ⟨HR.out.1.later HF.out.2, rfl, HR.out.2, ⟨[], LO.nil_ _ _ _ _⟩, fun x hx => .inl hx, HF.out.2⟩⟩
      · have u3 : decide (f < 0) = false := by simpa using h3
        have h4 : (m : Int) ≤ f ∧ f ≠ 2047 ∧ f ≠ 2046 := by unfold Arg at hA; rw [hl] at hA; omega
        have u4 : decide ((m : Int) ≤ f) = true := by simpa using h4.1
        have u5 : (f != 2047) = true := by simpa using h4.2.1
        have u6 : (f != 2046) = true := by simpa using h4.2.2
        clear h1 h2 h3 h4 hA hl
        go_enter Try.func12, Try.ntmps12
        go_upto_region 1 with fail
        rw [← hW1]
        clear hW1
        go_wp2
        refine bodyPost_ret (xt_results rfl rfl HF.out.1) rfl ⟨⟨st, nx, lo, sp, rs⟩, A, n, c, _, rfl, ⟨HR.out.1.later HF.out.2, rfl, HR.out.2, ⟨[], LO.nil_ _ _ _ _⟩, fun x hx => .inl hx, HF.out.2⟩⟩
/-- Take of the reference -/
theorem xtake_any (hok : r.Ok) (hlo : r.lo ≤ 1000000000000) (hr : Rd w A r.rs n c) (hd : Rd w a d m cd) (hm : m ≤ 1000000) (ct f : Int) :
    Calls Try.prog 12 #[.agg #[.bool r.st, .int .i64 (r.nx : Int), .int .i64 (r.lo : Int), .bool r.sp, .slice A n c], .int .i64 ct, .int .i64 f, .slice a m cd] w fun e w' =>
      ∃ (r' : RU) (A' : Option Addr) (n' c' : Nat) (R : Value), e = .returned (.tuple #[.agg #[.bool r'.st, .int .i64 (r'.nx : Int), .int .i64 (r'.lo : Int), .bool r'.sp, .slice A' n' c'], R]) ∧ XtOut w A (tkS r.us ct f d) (tkO r.us ct f d) r' A' n' c' R w' := by
  by_cases hA : Arg ct f d
  · have hA2 := hA
    unfold Arg at hA2
    rw [hd.len] at hA2
    obtain ⟨C, rfl⟩ : ∃ C : Nat, ct = (C : Int) := ⟨ct.toNat, by omega⟩
    obtain ⟨fn, rfl⟩ : ∃ fn : Nat, f = (fn : Int) := ⟨f.toNat, by omega⟩
    exact xtake_ok hok hlo hr hd hm (by omega) (by omega)
  · have e1 : tkS r.us ct f d = r.us := by unfold tkS; rw [if_neg hA]
    have e2 : tkO r.us ct f d = [] := by unfold tkO; rw [if_neg hA]
    rw [e1, e2]
    exact xtake_bad hok hr hd.len hA
end
end Go.Proofs.Ytcmonalnhdodmaa.Unp
