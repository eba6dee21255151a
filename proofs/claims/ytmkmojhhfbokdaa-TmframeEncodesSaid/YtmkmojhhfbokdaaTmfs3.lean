/-
  Ref15b Ref18b Ref18c Ref18d Ref18e Ref18f Later Law18a Law18b Law18c CrcFlip, one after another.
-/
import Derived.Test.YtmkmojhhfbokdaaTmfs2
import Derived.BigQuiet
import Derived.Below

/-
  The walk of the reference's Decode of layer 15.
-/
namespace Go.Proofs.Ytmkmojhhfbokdaa.Clc
open Go.RowKit Go.Proofs.Ytmkmojhhfbokdaa.Pac

theorem zde_results {tmps : Array Value} {W : World} {g : Nat} {e : Int} {ch : Int} {lk wt rt : Bool} {bp nx : Int} (h2 : tmps.getD 2 undef = .pointer (some ⟨g, 0, none⟩)) (h3 : tmps.getD 3 undef = .int .i64 e)
    (hC : Cel W g 24 #[.int .i64 ch, .bool lk, .bool wt, .bool rt, .int .i64 bp, .int .i64 nx]) :
    (results Try.f32 tmps).run Try.prog W = .ok (.tuple #[.agg #[.int .i64 ch, .bool lk, .bool wt, .bool rt, .int .i64 bp, .int .i64 nx], .int .i64 e]) W := by
  have c0 := hC.cell 0
  have c1 := hC.cell 1
  have c2 := hC.cell 2
  have c3 := hC.cell 3
  have c4 := hC.cell 4
  have c5 := hC.cell 5
  simp at c0 c1 c2 c3 c4 c5
  simp only [Array.getD_eq_getD_getElem?] at h2 h3
  simp [results, Try.results32, go_sem, h2, h3, c0, c1, c2, c3, c4, c5]

set_option maxHeartbeats 2000000 in
theorem zdecode_short (a : Option Addr) (n c : Nat) (w : World) (h : n < 4) :
    Calls Try.prog 32 #[.slice a n c] w fun e w' => e = .returned (.tuple #[.agg #[.int .i64 0, .bool false, .bool false, .bool false, .int .i64 0, .int .i64 0], .int .i64 3]) ∧ Below w.heap.size w w' := by
  have b0 := bel_new w (.cells #[.int .i64 0, .bool false, .bool false, .bool false, .int .i64 0, .int .i64 0] 24)
  have hR0 := Cel.new w 24 #[.int .i64 0, .bool false, .bool false, .bool false, .int .i64 0, .int .i64 0]
  have g1 : decide ((n : Int) < 4) = true := by simp; omega
  have g2 : decide (n < 4) = true := by simp; omega
  clear h
  have c0 := hR0.cell 0
  have c1 := hR0.cell 1
  have c2 := hR0.cell 2
  have c3 := hR0.cell 3
  have c4 := hR0.cell 4
  have c5 := hR0.cell 5
  simp at c0 c1 c2 c3 c4 c5
  have f0 := hR0.free 0
  have f1 := hR0.free 1
  have f2 := hR0.free 2
  have f3 := hR0.free 3
  have f4 := hR0.free 4
  have f5 := hR0.free 5
  go_enter Try.func32, Try.ntmps32
  go_wp2
  exact bodyPost_ret (zde_results rfl rfl hR0) rfl ⟨rfl, b0⟩

set_option maxHeartbeats 2000000 in
theorem zdecode_long (a : Option Addr) (n c : Nat) (w : World) (h : 4 < n) :
    Calls Try.prog 32 #[.slice a n c] w fun e w' => e = .returned (.tuple #[.agg #[.int .i64 0, .bool false, .bool false, .bool false, .int .i64 0, .int .i64 0], .int .i64 6]) ∧ Below w.heap.size w w' := by
  have b0 := bel_new w (.cells #[.int .i64 0, .bool false, .bool false, .bool false, .int .i64 0, .int .i64 0] 24)
  have hR0 := Cel.new w 24 #[.int .i64 0, .bool false, .bool false, .bool false, .int .i64 0, .int .i64 0]
  have g1 : decide ((n : Int) < 4) = false := by simp; omega
  have g2 : decide (n < 4) = false := by simp; omega
  have g3 : decide ((4 : Int) < (n : Int)) = true := by simp; omega
  have g4 : decide (4 < n) = true := by simp; omega
  clear h
  have c0 := hR0.cell 0
  have c1 := hR0.cell 1
  have c2 := hR0.cell 2
  have c3 := hR0.cell 3
  have c4 := hR0.cell 4
  have c5 := hR0.cell 5
  simp at c0 c1 c2 c3 c4 c5
  have f0 := hR0.free 0
  have f1 := hR0.free 1
  have f2 := hR0.free 2
  have f3 := hR0.free 3
  have f4 := hR0.free 4
  have f5 := hR0.free 5
  go_enter Try.func32, Try.ntmps32
  go_wp2
  exact bodyPost_ret (zde_results rfl rfl hR0) rfl ⟨rfl, b0⟩

set_option maxHeartbeats 2000000 in
theorem zdecode_bad (a : Option Addr) (l : List Byte) (c : Nat) (w : World) (hD : Rd w a l 4 c) (hok : (rd l).ok = false) :
    Calls Try.prog 32 #[.slice a 4 c] w fun e w' => e = .returned (.tuple #[.agg #[.int .i64 0, .bool false, .bool false, .bool false, .int .i64 0, .int .i64 0], .int .i64 4]) ∧ Below w.heap.size w w' := by
  have b0 := bel_new w (.cells #[.int .i64 0, .bool false, .bool false, .bool false, .int .i64 0, .int .i64 0] 24)
  have hR0 := Cel.new w 24 #[.int .i64 0, .bool false, .bool false, .bool false, .int .i64 0, .int .i64 0]
  have hlen := hD.len
  obtain ⟨b, off, rfl, hltb, hcell⟩ := hD.at_ (by decide)
  have hat : ∀ k, k < 4 → w.cell? ⟨b, off + k, none⟩ = some (.int .u8 ((b8 l k : Nat) : Int)) := fun k hk => by
    have hx : l[k]? = some (l[k]'(by omega)) := List.getElem?_eq_getElem (by omega)
    rw [hcell k _ hx, b8_at hx]
  have k1 := hat 1 (by decide)
  have k2 := (b0.cell (p := ⟨b, off + 2, none⟩) hltb).trans (hat 2 (by decide))
  have k3 := hat 3 (by decide)
  have z1 := b8_lt l 1
  have z2 := b8_lt l 2
  have z3 := b8_lt l 3
  obtain ⟨Y1, q1⟩ : ∃ Y, Y = b8 l 1 := ⟨_, rfl⟩
  obtain ⟨Y2, q2⟩ : ∃ Y, Y = b8 l 2 := ⟨_, rfl⟩
  obtain ⟨Y3, q3⟩ : ∃ Y, Y = b8 l 3 := ⟨_, rfl⟩
  have hrd : rd l = ⟨((b8 l 1 / 4 : Nat) : Int), decide (b8 l 2 / 32 % 2 = 1), decide (b8 l 2 / 16 % 2 = 1), decide (b8 l 2 / 8 % 2 = 1), ((b8 l 2 / 2 % 4 : Nat) : Int), ((b8 l 3 : Nat) : Int)⟩ := rfl
  rw [← q1, ← q2, ← q3] at hrd
  rw [← q1] at k1 z1
  rw [← q2] at k2 z2
  rw [← q3] at k3 z3
  have HL := Lib.hid hlen
  obtain ⟨C, qC⟩ : ∃ C, C = Y1 / 4 := ⟨_, rfl⟩
  obtain ⟨D1, qD1⟩ : ∃ D, D = Y2 / 32 := ⟨_, rfl⟩
  obtain ⟨D2, qD2⟩ : ∃ D, D = Y2 / 16 := ⟨_, rfl⟩
  obtain ⟨D3, qD3⟩ : ∃ D, D = Y2 / 8 := ⟨_, rfl⟩
  obtain ⟨D4, qD4⟩ : ∃ D, D = Y2 / 2 := ⟨_, rfl⟩
  obtain ⟨m1, qm1⟩ : ∃ m, m = D1 % 2 := ⟨_, rfl⟩
  obtain ⟨m2, qm2⟩ : ∃ m, m = D2 % 2 := ⟨_, rfl⟩
  obtain ⟨m3, qm3⟩ : ∃ m, m = D3 % 2 := ⟨_, rfl⟩
  obtain ⟨B, qB⟩ : ∃ B, B = D4 % 4 := ⟨_, rfl⟩
  obtain ⟨lk, qlk⟩ : ∃ b, b = decide (m1 = 1) := ⟨_, rfl⟩
  obtain ⟨wt, qwt⟩ : ∃ b, b = decide (m2 = 1) := ⟨_, rfl⟩
  obtain ⟨rt, qrt⟩ : ∃ b, b = decide (m3 = 1) := ⟨_, rfl⟩
  rw [← qC, ← qD1, ← qD2, ← qD3, ← qD4, ← qm1, ← qm2, ← qm3, ← qB, ← qlk, ← qwt, ← qrt] at hrd
  have i1 := from_u64 Y1 (by omega)
  have i3 := from_u64 Y3 (by omega)
  have i2 : IntKind.i64.wrap (Y2 : Int) = (Y2 : Int) := from_u64 Y2 (by omega)
  have a1 : IntKind.i64.wrap ((Y1 : Int) / 4) = (C : Int) := by rw [i64_in (by omega) (by omega)]; omega
  have a2 : IntKind.i64.wrap ((Y2 : Int) / 32) = (D1 : Int) := by rw [i64_in (by omega) (by omega)]; omega
  have a3 : IntKind.i64.wrap ((Y2 : Int) / 16) = (D2 : Int) := by rw [i64_in (by omega) (by omega)]; omega
  have a4 : IntKind.i64.wrap ((Y2 : Int) / 8) = (D3 : Int) := by rw [i64_in (by omega) (by omega)]; omega
  have a5 : IntKind.i64.wrap ((Y2 : Int) / 2) = (D4 : Int) := by rw [i64_in (by omega) (by omega)]; omega
  have t1 : (Y1 : Int).tdiv 4 = (Y1 : Int) / 4 := Int.tdiv_eq_ediv_of_nonneg (by omega)
  have u1 : (D1 : Int).tmod 2 = (m1 : Int) := by rw [Int.tmod_eq_emod_of_nonneg (by omega)]; omega
  have u2 : (D2 : Int).tmod 2 = (m2 : Int) := by rw [Int.tmod_eq_emod_of_nonneg (by omega)]; omega
  have u3 : (D3 : Int).tmod 2 = (m3 : Int) := by rw [Int.tmod_eq_emod_of_nonneg (by omega)]; omega
  have u4 : (D4 : Int).tmod 4 = (B : Int) := by rw [Int.tmod_eq_emod_of_nonneg (by omega)]; omega
  have v1 : (D1 : Int) % 2 = (m1 : Int) := by omega
  have v2 : (D2 : Int) % 2 = (m2 : Int) := by omega
  have v3 : (D3 : Int) % 2 = (m3 : Int) := by omega
  have v4 : (D4 : Int) % 4 = (B : Int) := by omega
  have j1 : ((m1 : Int) == 1) = lk := by rw [qlk, Bool.eq_iff_iff]; simp; omega
  have j2 : ((m2 : Int) == 1) = wt := by rw [qwt, Bool.eq_iff_iff]; simp; omega
  have j3 : ((m3 : Int) == 1) = rt := by rw [qrt, Bool.eq_iff_iff]; simp; omega
  rw [hrd] at hok
  have hen := fun W => zencode_any (C : Int) lk wt rt (B : Int) (Y3 : Int) W
  clear q1 q2 q3 hat hcell hlen qC qD1 qD2 qD3 qD4 qm1 qm2 qm3 qB qlk qwt qrt
  simp only [Cw.err_no hok, Cw.enc_no hok] at hen
  have hel : ([] : List Byte).length = 0 := rfl
  clear hrd hok
  go_enter Try.func32, Try.ntmps32
  go_wp2_with fail
  refine wp_region_held_drew (S := (fun w' => w'.cell? ⟨b, off + 1, none⟩ = some (.int .u8 (Y1 : Int)) ∧ w'.cell? ⟨b, off + 3, none⟩ = some (.int .u8 (Y3 : Int)))) (by kernel_rfl) (⟨(b0.cell (p := ⟨b, off + 1, none⟩) hltb).trans k1, (b0.cell (p := ⟨b, off + 3, none⟩) hltb).trans k3⟩) (fun hHeld => ?_)
  refine wpAnyH_here 0 (v := ?_) rfl (by kernel_rfl) (by kernel_rfl) (by kernel_rfl) (fun _ _ _ h => h) (Or.inl ⟨by rfl, ?_⟩) hHeld ?_
  rotate_left
  · intro w hSw; (try dsimp only at hSw); go_simp; all_goals (with_reducible rfl)
  try simp only [Act.put, List.setIfInBounds_toArray, List.set_cons_zero, List.set_cons_succ]
  refine wpAnyH_here 1 (v := ?_) rfl (by kernel_rfl) (by kernel_rfl) (by kernel_rfl) (fun _ _ _ h => h) (Or.inl ⟨by rfl, ?_⟩) hHeld ?_
  rotate_left
  · intro w hSw; (try dsimp only at hSw); go_simp; all_goals (with_reducible rfl)
  try simp only [Act.put, List.setIfInBounds_toArray, List.set_cons_zero, List.set_cons_succ]
  refine wpAnyH_here 2 (v := ?_) rfl (by kernel_rfl) (by kernel_rfl) (by kernel_rfl) (fun _ _ _ h => h) (Or.inl ⟨by rfl, ?_⟩) hHeld ?_
  rotate_left
  · intro w hSw; (try dsimp only at hSw); go_simp; all_goals (with_reducible rfl)
  try simp only [Act.put, List.setIfInBounds_toArray, List.set_cons_zero, List.set_cons_succ]
  refine wpAnyH_here 3 (v := ?_) rfl (by kernel_rfl) (by kernel_rfl) (by kernel_rfl) (fun _ _ _ h => h) (Or.inl ⟨by rfl, ?_⟩) hHeld ?_
  rotate_left
  · intro w hSw; (try dsimp only at hSw); go_simp; all_goals (with_reducible rfl)
  try simp only [Act.put, List.setIfInBounds_toArray, List.set_cons_zero, List.set_cons_succ]
  refine wpAnyH_here 4 (v := ?_) rfl (by kernel_rfl) (by kernel_rfl) (by kernel_rfl) (fun _ _ _ h => h) (Or.inl ⟨by rfl, ?_⟩) hHeld ?_
  rotate_left
  · intro w hSw; (try dsimp only at hSw); go_simp; all_goals (with_reducible rfl)
  try simp only [Act.put, List.setIfInBounds_toArray, List.set_cons_zero, List.set_cons_succ]
  refine wpAnyH_here 5 (v := ?_) rfl (by kernel_rfl) (by kernel_rfl) (by kernel_rfl) (fun _ _ _ h => h) (Or.inl ⟨by rfl, ?_⟩) hHeld ?_
  rotate_left
  · intro w hSw; (try dsimp only at hSw); go_simp; all_goals (with_reducible rfl)
  try simp only [Act.put, List.setIfInBounds_toArray, List.set_cons_zero, List.set_cons_succ]
  refine wpAnyH_here 6 (v := ?_) rfl (by kernel_rfl) (by kernel_rfl) (by kernel_rfl) (fun _ _ _ h => h) (Or.inl ⟨by rfl, ?_⟩) hHeld ?_
  rotate_left
  · intro w hSw; (try dsimp only at hSw); go_simp; all_goals (with_reducible rfl)
  try simp only [Act.put, List.setIfInBounds_toArray, List.set_cons_zero, List.set_cons_succ]
  refine wpAnyH_here 7 (v := ?_) rfl (by kernel_rfl) (by kernel_rfl) (by kernel_rfl) (fun _ _ _ h => h) (Or.inl ⟨by rfl, ?_⟩) hHeld ?_
  rotate_left
  · intro w hSw; (try dsimp only at hSw); go_simp; all_goals (with_reducible rfl)
  try simp only [Act.put, List.setIfInBounds_toArray, List.set_cons_zero, List.set_cons_succ]
  refine wpAnyH_here 8 (v := ?_) rfl (by kernel_rfl) (by kernel_rfl) (by kernel_rfl) (fun _ _ _ h => h) (Or.inl ⟨by rfl, ?_⟩) hHeld ?_
  rotate_left
  · intro w hSw; (try dsimp only at hSw); go_simp; all_goals (with_reducible rfl)
  try simp only [Act.put, List.setIfInBounds_toArray, List.set_cons_zero, List.set_cons_succ]
  refine wpAnyH_here 9 (v := ?_) rfl (by kernel_rfl) (by kernel_rfl) (by kernel_rfl) (fun _ _ _ h => h) (Or.inl ⟨by rfl, ?_⟩) hHeld ?_
  rotate_left
  · intro w hSw; (try dsimp only at hSw); go_simp; all_goals (with_reducible rfl)
  try simp only [Act.put, List.setIfInBounds_toArray, List.set_cons_zero, List.set_cons_succ]
  refine wpAnyH_here 10 (v := ?_) rfl (by kernel_rfl) (by kernel_rfl) (by kernel_rfl) (fun _ _ _ h => h) (Or.inl ⟨by rfl, ?_⟩) hHeld ?_
  rotate_left
  · intro w hSw; (try dsimp only at hSw); go_simp; all_goals (with_reducible rfl)
  try simp only [Act.put, List.setIfInBounds_toArray, List.set_cons_zero, List.set_cons_succ]
  refine wpAnyH_here 11 (v := ?_) rfl (by kernel_rfl) (by kernel_rfl) (by kernel_rfl) (fun _ _ _ h => h) (Or.inl ⟨by rfl, ?_⟩) hHeld ?_
  rotate_left
  · intro w hSw; (try dsimp only at hSw); go_simp; all_goals (with_reducible rfl)
  try simp only [Act.put, List.setIfInBounds_toArray, List.set_cons_zero, List.set_cons_succ]
  refine wpAnyH_here 12 (v := ?_) rfl (by kernel_rfl) (by kernel_rfl) (by kernel_rfl) (fun _ _ _ h => h) (Or.inl ⟨by rfl, ?_⟩) hHeld ?_
  rotate_left
  · intro w hSw; (try dsimp only at hSw); go_simp; all_goals (with_reducible rfl)
  try simp only [Act.put, List.setIfInBounds_toArray, List.set_cons_zero, List.set_cons_succ]
  refine wpAnyH_here 13 (v := ?_) rfl (by kernel_rfl) (by kernel_rfl) (by kernel_rfl) (fun _ _ _ h => h) (Or.inl ⟨by rfl, ?_⟩) hHeld ?_
  rotate_left
  · intro w hSw; (try dsimp only at hSw); go_simp; all_goals (with_reducible rfl)
  try simp only [Act.put, List.setIfInBounds_toArray, List.set_cons_zero, List.set_cons_succ]
  refine wpAnyH_here 14 (v := ?_) rfl (by kernel_rfl) (by kernel_rfl) (by kernel_rfl) (fun _ _ _ h => h) (Or.inl ⟨by rfl, ?_⟩) hHeld ?_
  rotate_left
  · intro w hSw; (try dsimp only at hSw); go_simp; all_goals (with_reducible rfl)
  try simp only [Act.put, List.setIfInBounds_toArray, List.set_cons_zero, List.set_cons_succ]
  refine wpAnyH_here 15 (v := ?_) rfl (by kernel_rfl) (by kernel_rfl) (by kernel_rfl) (fun _ _ _ h => h) (Or.inl ⟨by rfl, ?_⟩) hHeld ?_
  rotate_left
  · intro w hSw; (try dsimp only at hSw); go_simp; all_goals (with_reducible rfl)
  try simp only [Act.put, List.setIfInBounds_toArray, List.set_cons_zero, List.set_cons_succ]
  refine wpAnyH_here 16 (v := ?_) rfl (by kernel_rfl) (by kernel_rfl) (by kernel_rfl) (fun _ _ _ h => h) (Or.inl ⟨by rfl, ?_⟩) hHeld ?_
  rotate_left
  · intro w hSw; (try dsimp only at hSw); go_simp; all_goals (with_reducible rfl)
  try simp only [Act.put, List.setIfInBounds_toArray, List.set_cons_zero, List.set_cons_succ]
  refine wpAnyH_here 17 (v := ?_) rfl (by kernel_rfl) (by kernel_rfl) (by kernel_rfl) (fun _ _ _ h => h) (Or.inl ⟨by rfl, ?_⟩) hHeld ?_
  rotate_left
  · intro w hSw; (try dsimp only at hSw); go_simp; all_goals (with_reducible rfl)
  try simp only [Act.put, List.setIfInBounds_toArray, List.set_cons_zero, List.set_cons_succ]
  refine wpAnyH_here 18 (v := ?_) rfl (by kernel_rfl) (by kernel_rfl) (by kernel_rfl) (fun _ _ _ h => h) (Or.inl ⟨by rfl, ?_⟩) hHeld ?_
  rotate_left
  · intro w hSw; (try dsimp only at hSw); go_simp; all_goals (with_reducible rfl)
  try simp only [Act.put, List.setIfInBounds_toArray, List.set_cons_zero, List.set_cons_succ]
  refine wpAnyH_here 19 (v := ?_) rfl (by kernel_rfl) (by kernel_rfl) (by kernel_rfl) (fun _ _ _ h => h) (Or.inl ⟨by rfl, ?_⟩) hHeld ?_
  rotate_left
  · intro w hSw; (try dsimp only at hSw); go_simp; all_goals (with_reducible rfl)
  try simp only [Act.put, List.setIfInBounds_toArray, List.set_cons_zero, List.set_cons_succ]
  refine wpAnyH_here 20 (v := ?_) rfl (by kernel_rfl) (by kernel_rfl) (by kernel_rfl) (fun _ _ _ h => h) (Or.inl ⟨by rfl, ?_⟩) hHeld ?_
  rotate_left
  · intro w hSw; (try dsimp only at hSw); go_simp; all_goals (with_reducible rfl)
  try simp only [Act.put, List.setIfInBounds_toArray, List.set_cons_zero, List.set_cons_succ]
  refine wpAnyH_here 21 (v := ?_) rfl (by kernel_rfl) (by kernel_rfl) (by kernel_rfl) (fun _ _ _ h => h) (Or.inl ⟨by rfl, ?_⟩) hHeld ?_
  rotate_left
  · intro w hSw; (try dsimp only at hSw); go_simp; all_goals (with_reducible rfl)
  try simp only [Act.put, List.setIfInBounds_toArray, List.set_cons_zero, List.set_cons_succ]
  refine wpAnyH_here 22 (v := ?_) rfl (by kernel_rfl) (by kernel_rfl) (by kernel_rfl) (fun _ _ _ h => h) (Or.inl ⟨by rfl, ?_⟩) hHeld ?_
  rotate_left
  · intro w hSw; (try dsimp only at hSw); go_simp; all_goals (with_reducible rfl)
  try simp only [Act.put, List.setIfInBounds_toArray, List.set_cons_zero, List.set_cons_succ]
  refine wpAnyH_here 23 (v := ?_) rfl (by kernel_rfl) (by kernel_rfl) (by kernel_rfl) (fun _ _ _ h => h) (Or.inl ⟨by rfl, ?_⟩) hHeld ?_
  rotate_left
  · intro w hSw; (try dsimp only at hSw); go_simp; all_goals (with_reducible rfl)
  try simp only [Act.put, List.setIfInBounds_toArray, List.set_cons_zero, List.set_cons_succ]
  refine wpAnyH_here 24 (v := ?_) rfl (by kernel_rfl) (by kernel_rfl) (by kernel_rfl) (fun _ _ _ h => h) (Or.inl ⟨by rfl, ?_⟩) hHeld ?_
  rotate_left
  · intro w hSw; (try dsimp only at hSw); go_simp; all_goals (with_reducible rfl)
  try simp only [Act.put, List.setIfInBounds_toArray, List.set_cons_zero, List.set_cons_succ]
  have HB : Below w.heap.size w ((w.alloc (.cells #[.int .i64 0, .bool false, .bool false, .bool false, .int .i64 0, .int .i64 0] 24)).alloc (.cells #[.int .i64 0, .bool false, .bool false, .bool false, .int .i64 0, .int .i64 0] 24)).drew := (b0.alloc b0.size _).drew
  refine wpAnyH_alone 25 rfl (by kernel_rfl) (fun K hK => ?_)
  go_simp
  skip
  refine hK.out _ _ (⟨(HB.cell (p := ⟨b, off + 1, none⟩) hltb).trans k1, (HB.cell (p := ⟨b, off + 3, none⟩) hltb).trans k3⟩) (fun hHeld => ?_)
  clear hK K
  try simp only [Act.put, List.setIfInBounds_toArray, List.set_cons_zero, List.set_cons_succ]
  obtain ⟨W1, hW1⟩ : ∃ W1, W1 = ((w.alloc (.cells #[.int .i64 0, .bool false, .bool false, .bool false, .int .i64 0, .int .i64 0] 24)).alloc (.cells #[.int .i64 0, .bool false, .bool false, .bool false, .int .i64 0, .int .i64 0] 24)).drew := ⟨_, rfl⟩
  have hP1 : Cel W1 (w.heap.size + 1) 24 #[.int .i64 0, .bool false, .bool false, .bool false, .int .i64 0, .int .i64 0] := by
    rw [hW1]
    have e : (w.alloc (.cells #[.int .i64 0, .bool false, .bool false, .bool false, .int .i64 0, .int .i64 0] 24)).heap.size = w.heap.size + 1 := by simp
    have h := Cel.new (w.alloc (.cells #[.int .i64 0, .bool false, .bool false, .bool false, .int .i64 0, .int .i64 0] 24)) 24 #[.int .i64 0, .bool false, .bool false, .bool false, .int .i64 0, .int .i64 0]
    rw [e] at h
    exact h
  have hR1 : Cel W1 w.heap.size 24 #[.int .i64 0, .bool false, .bool false, .bool false, .int .i64 0, .int .i64 0] := by rw [hW1]; exact Cel.later hR0 (bel_new _ _).drew
  have hB1 : Below w.heap.size w W1 := by rw [hW1]; exact HB
  rw [← hW1] at hHeld ⊢
  clear hW1 HB hR0 b0 k2
  have c0 := hP1.cell 0
  have c1 := hP1.cell 1
  have c2 := hP1.cell 2
  have c3 := hP1.cell 3
  have c4 := hP1.cell 4
  have c5 := hP1.cell 5
  simp at c0 c1 c2 c3 c4 c5
  have f0 := hP1.free 0
  have f1 := hP1.free 1
  have f2 := hP1.free 2
  have f3 := hP1.free 3
  have f4 := hP1.free 4
  have f5 := hP1.free 5
  refine wpAnyH_alone 26 rfl (by kernel_rfl) (fun K hK => ?_)
  go_simp
  skip
  refine hK.out _ _ (⟨((put6_below hB1 (Nat.le_succ _) (.int .i64 (C : Int)) (.bool lk) (.bool wt) (.bool rt) (.int .i64 (B : Int)) (.int .i64 (Y3 : Int))).cell (p := ⟨b, off + 1, none⟩) hltb).trans k1, ((put6_below hB1 (Nat.le_succ _) (.int .i64 (C : Int)) (.bool lk) (.bool wt) (.bool rt) (.int .i64 (B : Int)) (.int .i64 (Y3 : Int))).cell (p := ⟨b, off + 3, none⟩) hltb).trans k3⟩) (fun hHeld => ?_)
  clear hK K
  try simp only [Act.put, List.setIfInBounds_toArray, List.set_cons_zero, List.set_cons_succ]
  refine wpAnyH_done (by kernel_rfl) ?_ _
  obtain ⟨W2, hW2⟩ : ∃ W2, W2 = put6 W1 (w.heap.size + 1) (.int .i64 (C : Int)) (.bool lk) (.bool wt) (.bool rt) (.int .i64 (B : Int)) (.int .i64 (Y3 : Int)) := ⟨_, rfl⟩
  have hP2 : Cel W2 (w.heap.size + 1) 24 #[.int .i64 (C : Int), .bool lk, .bool wt, .bool rt, .int .i64 (B : Int), .int .i64 (Y3 : Int)] := by rw [hW2]; exact put6_cel hP1 _ _ _ _ _ _
  have hR2 : Cel W2 w.heap.size 24 #[.int .i64 0, .bool false, .bool false, .bool false, .int .i64 0, .int .i64 0] := by rw [hW2]; exact hR1.only (put6_only _ _ _ _ _ _ _ _) (by simp)
  have hB2 : Below w.heap.size w W2 := by rw [hW2]; exact put6_below hB1 (Nat.le_succ _) _ _ _ _ _ _
  unfold put6 at hW2
  clear c0 c1 c2 c3 c4 c5 f0 f1 f2 f3 f4 f5 hP1 hR1 hB1 k1 k3 hHeld
  rw [← hW2]
  clear hW2
  have c0 := hP2.cell 0
  have c1 := hP2.cell 1
  have c2 := hP2.cell 2
  have c3 := hP2.cell 3
  have c4 := hP2.cell 4
  have c5 := hP2.cell 5
  simp at c0 c1 c2 c3 c4 c5
  go_wp2_with fail
  refine (hen W2).mono ?_
  rintro e w5 ⟨v, rfl, hown, hb5⟩
  obtain ⟨A5, c5', rfl, r5⟩ := Rd.of hown hel
  have hR5 := Cel.later hR2 hb5
  have hP5 := Cel.later hP2 hb5
  have bel5 := hB2.trans (hb5.mono hB2.size)
  have hD5 := hD.later bel5
  clear hen hown hb5 hR2 hP2 hB2 c0 c1 c2 c3 c4 c5 hD
  clear r5 hD5
  have c0 := hR5.cell 0
  have c1 := hR5.cell 1
  have c2 := hR5.cell 2
  have c3 := hR5.cell 3
  have c4 := hR5.cell 4
  have c5 := hR5.cell 5
  simp at c0 c1 c2 c3 c4 c5
  have f0 := hR5.free 0
  have f1 := hR5.free 1
  have f2 := hR5.free 2
  have f3 := hR5.free 3
  have f4 := hR5.free 4
  have f5 := hR5.free 5
  go_wp2
  exact bodyPost_ret (zde_results rfl rfl (put6_cel hR5 (.int .i64 0) (.bool false) (.bool false) (.bool false) (.int .i64 0) (.int .i64 0))) rfl ⟨rfl, put6_below bel5 (Nat.le_refl _) _ _ _ _ _ _⟩

set_option maxHeartbeats 2000000 in
theorem zdecode_form (a : Option Addr) (l : List Byte) (c : Nat) (w : World) (hD : Rd w a l 4 c) (hok : (rd l).ok = true) (hne : (rd l).enc ≠ l) :
    Calls Try.prog 32 #[.slice a 4 c] w fun e w' => e = .returned (.tuple #[.agg #[.int .i64 0, .bool false, .bool false, .bool false, .int .i64 0, .int .i64 0], .int .i64 4]) ∧ Below w.heap.size w w' := by
  have b0 := bel_new w (.cells #[.int .i64 0, .bool false, .bool false, .bool false, .int .i64 0, .int .i64 0] 24)
  have hR0 := Cel.new w 24 #[.int .i64 0, .bool false, .bool false, .bool false, .int .i64 0, .int .i64 0]
  have hlen := hD.len
  obtain ⟨b, off, rfl, hltb, hcell⟩ := hD.at_ (by decide)
  have hat : ∀ k, k < 4 → w.cell? ⟨b, off + k, none⟩ = some (.int .u8 ((b8 l k : Nat) : Int)) := fun k hk => by
    have hx : l[k]? = some (l[k]'(by omega)) := List.getElem?_eq_getElem (by omega)
    rw [hcell k _ hx, b8_at hx]
  have k1 := hat 1 (by decide)
  have k2 := (b0.cell (p := ⟨b, off + 2, none⟩) hltb).trans (hat 2 (by decide))
  have k3 := hat 3 (by decide)
  have z1 := b8_lt l 1
  have z2 := b8_lt l 2
  have z3 := b8_lt l 3
  obtain ⟨Y1, q1⟩ : ∃ Y, Y = b8 l 1 := ⟨_, rfl⟩
  obtain ⟨Y2, q2⟩ : ∃ Y, Y = b8 l 2 := ⟨_, rfl⟩
  obtain ⟨Y3, q3⟩ : ∃ Y, Y = b8 l 3 := ⟨_, rfl⟩
  have hrd : rd l = ⟨((b8 l 1 / 4 : Nat) : Int), decide (b8 l 2 / 32 % 2 = 1), decide (b8 l 2 / 16 % 2 = 1), decide (b8 l 2 / 8 % 2 = 1), ((b8 l 2 / 2 % 4 : Nat) : Int), ((b8 l 3 : Nat) : Int)⟩ := rfl
  rw [← q1, ← q2, ← q3] at hrd
  rw [← q1] at k1 z1
  rw [← q2] at k2 z2
  rw [← q3] at k3 z3
  have HL := Lib.hid hlen
  obtain ⟨C, qC⟩ : ∃ C, C = Y1 / 4 := ⟨_, rfl⟩
  obtain ⟨D1, qD1⟩ : ∃ D, D = Y2 / 32 := ⟨_, rfl⟩
  obtain ⟨D2, qD2⟩ : ∃ D, D = Y2 / 16 := ⟨_, rfl⟩
  obtain ⟨D3, qD3⟩ : ∃ D, D = Y2 / 8 := ⟨_, rfl⟩
  obtain ⟨D4, qD4⟩ : ∃ D, D = Y2 / 2 := ⟨_, rfl⟩
  obtain ⟨m1, qm1⟩ : ∃ m, m = D1 % 2 := ⟨_, rfl⟩
  obtain ⟨m2, qm2⟩ : ∃ m, m = D2 % 2 := ⟨_, rfl⟩
  obtain ⟨m3, qm3⟩ : ∃ m, m = D3 % 2 := ⟨_, rfl⟩
  obtain ⟨B, qB⟩ : ∃ B, B = D4 % 4 := ⟨_, rfl⟩
  obtain ⟨lk, qlk⟩ : ∃ b, b = decide (m1 = 1) := ⟨_, rfl⟩
  obtain ⟨wt, qwt⟩ : ∃ b, b = decide (m2 = 1) := ⟨_, rfl⟩
  obtain ⟨rt, qrt⟩ : ∃ b, b = decide (m3 = 1) := ⟨_, rfl⟩
  rw [← qC, ← qD1, ← qD2, ← qD3, ← qD4, ← qm1, ← qm2, ← qm3, ← qB, ← qlk, ← qwt, ← qrt] at hrd
  have i1 := from_u64 Y1 (by omega)
  have i3 := from_u64 Y3 (by omega)
  have i2 : IntKind.i64.wrap (Y2 : Int) = (Y2 : Int) := from_u64 Y2 (by omega)
  have a1 : IntKind.i64.wrap ((Y1 : Int) / 4) = (C : Int) := by rw [i64_in (by omega) (by omega)]; omega
  have a2 : IntKind.i64.wrap ((Y2 : Int) / 32) = (D1 : Int) := by rw [i64_in (by omega) (by omega)]; omega
  have a3 : IntKind.i64.wrap ((Y2 : Int) / 16) = (D2 : Int) := by rw [i64_in (by omega) (by omega)]; omega
  have a4 : IntKind.i64.wrap ((Y2 : Int) / 8) = (D3 : Int) := by rw [i64_in (by omega) (by omega)]; omega
  have a5 : IntKind.i64.wrap ((Y2 : Int) / 2) = (D4 : Int) := by rw [i64_in (by omega) (by omega)]; omega
  have t1 : (Y1 : Int).tdiv 4 = (Y1 : Int) / 4 := Int.tdiv_eq_ediv_of_nonneg (by omega)
  have u1 : (D1 : Int).tmod 2 = (m1 : Int) := by rw [Int.tmod_eq_emod_of_nonneg (by omega)]; omega
  have u2 : (D2 : Int).tmod 2 = (m2 : Int) := by rw [Int.tmod_eq_emod_of_nonneg (by omega)]; omega
  have u3 : (D3 : Int).tmod 2 = (m3 : Int) := by rw [Int.tmod_eq_emod_of_nonneg (by omega)]; omega
  have u4 : (D4 : Int).tmod 4 = (B : Int) := by rw [Int.tmod_eq_emod_of_nonneg (by omega)]; omega
  have v1 : (D1 : Int) % 2 = (m1 : Int) := by omega
  have v2 : (D2 : Int) % 2 = (m2 : Int) := by omega
  have v3 : (D3 : Int) % 2 = (m3 : Int) := by omega
  have v4 : (D4 : Int) % 4 = (B : Int) := by omega
  have j1 : ((m1 : Int) == 1) = lk := by rw [qlk, Bool.eq_iff_iff]; simp; omega
  have j2 : ((m2 : Int) == 1) = wt := by rw [qwt, Bool.eq_iff_iff]; simp; omega
  have j3 : ((m3 : Int) == 1) = rt := by rw [qrt, Bool.eq_iff_iff]; simp; omega
  rw [hrd] at hok
  have hen := fun W => zencode_any (C : Int) lk wt rt (B : Int) (Y3 : Int) W
  clear q1 q2 q3 hat hcell hlen qC qD1 qD2 qD3 qD4 qm1 qm2 qm3 qB qlk qwt qrt
  rw [hrd] at hne
  have hel := Cw.enc_len hok
  obtain ⟨E, hE⟩ : ∃ E, E = Cw.enc ⟨(C : Int), lk, wt, rt, (B : Int), (Y3 : Int)⟩ := ⟨_, rfl⟩
  simp only [Cw.err_yes hok, ← hE] at hen
  rw [← hE] at hel hne
  have y3 := str_beq E l
  rw [decide_eq_false hne] at y3
  have y4 : ((str E).toList != (str l).toList) = true := by unfold bne; rw [y3]; rfl
  clear hE hok hne hrd
  go_enter Try.func32, Try.ntmps32
  go_wp2_with fail
  refine wp_region_held_drew (S := (fun w' => w'.cell? ⟨b, off + 1, none⟩ = some (.int .u8 (Y1 : Int)) ∧ w'.cell? ⟨b, off + 3, none⟩ = some (.int .u8 (Y3 : Int)))) (by kernel_rfl) (⟨(b0.cell (p := ⟨b, off + 1, none⟩) hltb).trans k1, (b0.cell (p := ⟨b, off + 3, none⟩) hltb).trans k3⟩) (fun hHeld => ?_)
  refine wpAnyH_here 0 (v := ?_) rfl (by kernel_rfl) (by kernel_rfl) (by kernel_rfl) (fun _ _ _ h => h) (Or.inl ⟨by rfl, ?_⟩) hHeld ?_
  rotate_left
  · intro w hSw; (try dsimp only at hSw); go_simp; all_goals (with_reducible rfl)
  try simp only [Act.put, List.setIfInBounds_toArray, List.set_cons_zero, List.set_cons_succ]
  refine wpAnyH_here 1 (v := ?_) rfl (by kernel_rfl) (by kernel_rfl) (by kernel_rfl) (fun _ _ _ h => h) (Or.inl ⟨by rfl, ?_⟩) hHeld ?_
  rotate_left
  · intro w hSw; (try dsimp only at hSw); go_simp; all_goals (with_reducible rfl)
  try simp only [Act.put, List.setIfInBounds_toArray, List.set_cons_zero, List.set_cons_succ]
  refine wpAnyH_here 2 (v := ?_) rfl (by kernel_rfl) (by kernel_rfl) (by kernel_rfl) (fun _ _ _ h => h) (Or.inl ⟨by rfl, ?_⟩) hHeld ?_
  rotate_left
  · intro w hSw; (try dsimp only at hSw); go_simp; all_goals (with_reducible rfl)
  try simp only [Act.put, List.setIfInBounds_toArray, List.set_cons_zero, List.set_cons_succ]
  refine wpAnyH_here 3 (v := ?_) rfl (by kernel_rfl) (by kernel_rfl) (by kernel_rfl) (fun _ _ _ h => h) (Or.inl ⟨by rfl, ?_⟩) hHeld ?_
  rotate_left
  · intro w hSw; (try dsimp only at hSw); go_simp; all_goals (with_reducible rfl)
  try simp only [Act.put, List.setIfInBounds_toArray, List.set_cons_zero, List.set_cons_succ]
  refine wpAnyH_here 4 (v := ?_) rfl (by kernel_rfl) (by kernel_rfl) (by kernel_rfl) (fun _ _ _ h => h) (Or.inl ⟨by rfl, ?_⟩) hHeld ?_
  rotate_left
  · intro w hSw; (try dsimp only at hSw); go_simp; all_goals (with_reducible rfl)
  try simp only [Act.put, List.setIfInBounds_toArray, List.set_cons_zero, List.set_cons_succ]
  refine wpAnyH_here 5 (v := ?_) rfl (by kernel_rfl) (by kernel_rfl) (by kernel_rfl) (fun _ _ _ h => h) (Or.inl ⟨by rfl, ?_⟩) hHeld ?_
  rotate_left
  · intro w hSw; (try dsimp only at hSw); go_simp; all_goals (with_reducible rfl)
  try simp only [Act.put, List.setIfInBounds_toArray, List.set_cons_zero, List.set_cons_succ]
  refine wpAnyH_here 6 (v := ?_) rfl (by kernel_rfl) (by kernel_rfl) (by kernel_rfl) (fun _ _ _ h => h) (Or.inl ⟨by rfl, ?_⟩) hHeld ?_
  rotate_left
  · intro w hSw; (try dsimp only at hSw); go_simp; all_goals (with_reducible rfl)
  try simp only [Act.put, List.setIfInBounds_toArray, List.set_cons_zero, List.set_cons_succ]
  refine wpAnyH_here 7 (v := ?_) rfl (by kernel_rfl) (by kernel_rfl) (by kernel_rfl) (fun _ _ _ h => h) (Or.inl ⟨by rfl, ?_⟩) hHeld ?_
  rotate_left
  · intro w hSw; (try dsimp only at hSw); go_simp; all_goals (with_reducible rfl)
  try simp only [Act.put, List.setIfInBounds_toArray, List.set_cons_zero, List.set_cons_succ]
  refine wpAnyH_here 8 (v := ?_) rfl (by kernel_rfl) (by kernel_rfl) (by kernel_rfl) (fun _ _ _ h => h) (Or.inl ⟨by rfl, ?_⟩) hHeld ?_
  rotate_left
  · intro w hSw; (try dsimp only at hSw); go_simp; all_goals (with_reducible rfl)
  try simp only [Act.put, List.setIfInBounds_toArray, List.set_cons_zero, List.set_cons_succ]
  refine wpAnyH_here 9 (v := ?_) rfl (by kernel_rfl) (by kernel_rfl) (by kernel_rfl) (fun _ _ _ h => h) (Or.inl ⟨by rfl, ?_⟩) hHeld ?_
  rotate_left
  · intro w hSw; (try dsimp only at hSw); go_simp; all_goals (with_reducible rfl)
  try simp only [Act.put, List.setIfInBounds_toArray, List.set_cons_zero, List.set_cons_succ]
  refine wpAnyH_here 10 (v := ?_) rfl (by kernel_rfl) (by kernel_rfl) (by kernel_rfl) (fun _ _ _ h => h) (Or.inl ⟨by rfl, ?_⟩) hHeld ?_
  rotate_left
  · intro w hSw; (try dsimp only at hSw); go_simp; all_goals (with_reducible rfl)
  try simp only [Act.put, List.setIfInBounds_toArray, List.set_cons_zero, List.set_cons_succ]
  refine wpAnyH_here 11 (v := ?_) rfl (by kernel_rfl) (by kernel_rfl) (by kernel_rfl) (fun _ _ _ h => h) (Or.inl ⟨by rfl, ?_⟩) hHeld ?_
  rotate_left
  · intro w hSw; (try dsimp only at hSw); go_simp; all_goals (with_reducible rfl)
  try simp only [Act.put, List.setIfInBounds_toArray, List.set_cons_zero, List.set_cons_succ]
  refine wpAnyH_here 12 (v := ?_) rfl (by kernel_rfl) (by kernel_rfl) (by kernel_rfl) (fun _ _ _ h => h) (Or.inl ⟨by rfl, ?_⟩) hHeld ?_
  rotate_left
  · intro w hSw; (try dsimp only at hSw); go_simp; all_goals (with_reducible rfl)
  try simp only [Act.put, List.setIfInBounds_toArray, List.set_cons_zero, List.set_cons_succ]
  refine wpAnyH_here 13 (v := ?_) rfl (by kernel_rfl) (by kernel_rfl) (by kernel_rfl) (fun _ _ _ h => h) (Or.inl ⟨by rfl, ?_⟩) hHeld ?_
  rotate_left
  · intro w hSw; (try dsimp only at hSw); go_simp; all_goals (with_reducible rfl)
  try simp only [Act.put, List.setIfInBounds_toArray, List.set_cons_zero, List.set_cons_succ]
  refine wpAnyH_here 14 (v := ?_) rfl (by kernel_rfl) (by kernel_rfl) (by kernel_rfl) (fun _ _ _ h => h) (Or.inl ⟨by rfl, ?_⟩) hHeld ?_
  rotate_left
  · intro w hSw; (try dsimp only at hSw); go_simp; all_goals (with_reducible rfl)
  try simp only [Act.put, List.setIfInBounds_toArray, List.set_cons_zero, List.set_cons_succ]
  refine wpAnyH_here 15 (v := ?_) rfl (by kernel_rfl) (by kernel_rfl) (by kernel_rfl) (fun _ _ _ h => h) (Or.inl ⟨by rfl, ?_⟩) hHeld ?_
  rotate_left
  · intro w hSw; (try dsimp only at hSw); go_simp; all_goals (with_reducible rfl)
  try simp only [Act.put, List.setIfInBounds_toArray, List.set_cons_zero, List.set_cons_succ]
  refine wpAnyH_here 16 (v := ?_) rfl (by kernel_rfl) (by kernel_rfl) (by kernel_rfl) (fun _ _ _ h => h) (Or.inl ⟨by rfl, ?_⟩) hHeld ?_
  rotate_left
  · intro w hSw; (try dsimp only at hSw); go_simp; all_goals (with_reducible rfl)
  try simp only [Act.put, List.setIfInBounds_toArray, List.set_cons_zero, List.set_cons_succ]
  refine wpAnyH_here 17 (v := ?_) rfl (by kernel_rfl) (by kernel_rfl) (by kernel_rfl) (fun _ _ _ h => h) (Or.inl ⟨by rfl, ?_⟩) hHeld ?_
  rotate_left
  · intro w hSw; (try dsimp only at hSw); go_simp; all_goals (with_reducible rfl)
  try simp only [Act.put, List.setIfInBounds_toArray, List.set_cons_zero, List.set_cons_succ]
  refine wpAnyH_here 18 (v := ?_) rfl (by kernel_rfl) (by kernel_rfl) (by kernel_rfl) (fun _ _ _ h => h) (Or.inl ⟨by rfl, ?_⟩) hHeld ?_
  rotate_left
  · intro w hSw; (try dsimp only at hSw); go_simp; all_goals (with_reducible rfl)
  try simp only [Act.put, List.setIfInBounds_toArray, List.set_cons_zero, List.set_cons_succ]
  refine wpAnyH_here 19 (v := ?_) rfl (by kernel_rfl) (by kernel_rfl) (by kernel_rfl) (fun _ _ _ h => h) (Or.inl ⟨by rfl, ?_⟩) hHeld ?_
  rotate_left
  · intro w hSw; (try dsimp only at hSw); go_simp; all_goals (with_reducible rfl)
  try simp only [Act.put, List.setIfInBounds_toArray, List.set_cons_zero, List.set_cons_succ]
  refine wpAnyH_here 20 (v := ?_) rfl (by kernel_rfl) (by kernel_rfl) (by kernel_rfl) (fun _ _ _ h => h) (Or.inl ⟨by rfl, ?_⟩) hHeld ?_
  rotate_left
  · intro w hSw; (try dsimp only at hSw); go_simp; all_goals (with_reducible rfl)
  try simp only [Act.put, List.setIfInBounds_toArray, List.set_cons_zero, List.set_cons_succ]
  refine wpAnyH_here 21 (v := ?_) rfl (by kernel_rfl) (by kernel_rfl) (by kernel_rfl) (fun _ _ _ h => h) (Or.inl ⟨by rfl, ?_⟩) hHeld ?_
  rotate_left
  · intro w hSw; (try dsimp only at hSw); go_simp; all_goals (with_reducible rfl)
  try simp only [Act.put, List.setIfInBounds_toArray, List.set_cons_zero, List.set_cons_succ]
  refine wpAnyH_here 22 (v := ?_) rfl (by kernel_rfl) (by kernel_rfl) (by kernel_rfl) (fun _ _ _ h => h) (Or.inl ⟨by rfl, ?_⟩) hHeld ?_
  rotate_left
  · intro w hSw; (try dsimp only at hSw); go_simp; all_goals (with_reducible rfl)
  try simp only [Act.put, List.setIfInBounds_toArray, List.set_cons_zero, List.set_cons_succ]
  refine wpAnyH_here 23 (v := ?_) rfl (by kernel_rfl) (by kernel_rfl) (by kernel_rfl) (fun _ _ _ h => h) (Or.inl ⟨by rfl, ?_⟩) hHeld ?_
  rotate_left
  · intro w hSw; (try dsimp only at hSw); go_simp; all_goals (with_reducible rfl)
  try simp only [Act.put, List.setIfInBounds_toArray, List.set_cons_zero, List.set_cons_succ]
  refine wpAnyH_here 24 (v := ?_) rfl (by kernel_rfl) (by kernel_rfl) (by kernel_rfl) (fun _ _ _ h => h) (Or.inl ⟨by rfl, ?_⟩) hHeld ?_
  rotate_left
  · intro w hSw; (try dsimp only at hSw); go_simp; all_goals (with_reducible rfl)
  try simp only [Act.put, List.setIfInBounds_toArray, List.set_cons_zero, List.set_cons_succ]
  have HB : Below w.heap.size w ((w.alloc (.cells #[.int .i64 0, .bool false, .bool false, .bool false, .int .i64 0, .int .i64 0] 24)).alloc (.cells #[.int .i64 0, .bool false, .bool false, .bool false, .int .i64 0, .int .i64 0] 24)).drew := (b0.alloc b0.size _).drew
  refine wpAnyH_alone 25 rfl (by kernel_rfl) (fun K hK => ?_)
  go_simp
  skip
  refine hK.out _ _ (⟨(HB.cell (p := ⟨b, off + 1, none⟩) hltb).trans k1, (HB.cell (p := ⟨b, off + 3, none⟩) hltb).trans k3⟩) (fun hHeld => ?_)
  clear hK K
  try simp only [Act.put, List.setIfInBounds_toArray, List.set_cons_zero, List.set_cons_succ]
  obtain ⟨W1, hW1⟩ : ∃ W1, W1 = ((w.alloc (.cells #[.int .i64 0, .bool false, .bool false, .bool false, .int .i64 0, .int .i64 0] 24)).alloc (.cells #[.int .i64 0, .bool false, .bool false, .bool false, .int .i64 0, .int .i64 0] 24)).drew := ⟨_, rfl⟩
  have hP1 : Cel W1 (w.heap.size + 1) 24 #[.int .i64 0, .bool false, .bool false, .bool false, .int .i64 0, .int .i64 0] := by
    rw [hW1]
    have e : (w.alloc (.cells #[.int .i64 0, .bool false, .bool false, .bool false, .int .i64 0, .int .i64 0] 24)).heap.size = w.heap.size + 1 := by simp
    have h := Cel.new (w.alloc (.cells #[.int .i64 0, .bool false, .bool false, .bool false, .int .i64 0, .int .i64 0] 24)) 24 #[.int .i64 0, .bool false, .bool false, .bool false, .int .i64 0, .int .i64 0]
    rw [e] at h
    exact h
  have hR1 : Cel W1 w.heap.size 24 #[.int .i64 0, .bool false, .bool false, .bool false, .int .i64 0, .int .i64 0] := by rw [hW1]; exact Cel.later hR0 (bel_new _ _).drew
  have hB1 : Below w.heap.size w W1 := by rw [hW1]; exact HB
  rw [← hW1] at hHeld ⊢
  clear hW1 HB hR0 b0 k2
  have c0 := hP1.cell 0
  have c1 := hP1.cell 1
  have c2 := hP1.cell 2
  have c3 := hP1.cell 3
  have c4 := hP1.cell 4
  have c5 := hP1.cell 5
  simp at c0 c1 c2 c3 c4 c5
  have f0 := hP1.free 0
  have f1 := hP1.free 1
  have f2 := hP1.free 2
  have f3 := hP1.free 3
  have f4 := hP1.free 4
  have f5 := hP1.free 5
  refine wpAnyH_alone 26 rfl (by kernel_rfl) (fun K hK => ?_)
  go_simp
  skip
  refine hK.out _ _ (⟨((put6_below hB1 (Nat.le_succ _) (.int .i64 (C : Int)) (.bool lk) (.bool wt) (.bool rt) (.int .i64 (B : Int)) (.int .i64 (Y3 : Int))).cell (p := ⟨b, off + 1, none⟩) hltb).trans k1, ((put6_below hB1 (Nat.le_succ _) (.int .i64 (C : Int)) (.bool lk) (.bool wt) (.bool rt) (.int .i64 (B : Int)) (.int .i64 (Y3 : Int))).cell (p := ⟨b, off + 3, none⟩) hltb).trans k3⟩) (fun hHeld => ?_)
  clear hK K
  try simp only [Act.put, List.setIfInBounds_toArray, List.set_cons_zero, List.set_cons_succ]
  refine wpAnyH_done (by kernel_rfl) ?_ _
  obtain ⟨W2, hW2⟩ : ∃ W2, W2 = put6 W1 (w.heap.size + 1) (.int .i64 (C : Int)) (.bool lk) (.bool wt) (.bool rt) (.int .i64 (B : Int)) (.int .i64 (Y3 : Int)) := ⟨_, rfl⟩
  have hP2 : Cel W2 (w.heap.size + 1) 24 #[.int .i64 (C : Int), .bool lk, .bool wt, .bool rt, .int .i64 (B : Int), .int .i64 (Y3 : Int)] := by rw [hW2]; exact put6_cel hP1 _ _ _ _ _ _
  have hR2 : Cel W2 w.heap.size 24 #[.int .i64 0, .bool false, .bool false, .bool false, .int .i64 0, .int .i64 0] := by rw [hW2]; exact hR1.only (put6_only _ _ _ _ _ _ _ _) (by simp)
  have hB2 : Below w.heap.size w W2 := by rw [hW2]; exact put6_below hB1 (Nat.le_succ _) _ _ _ _ _ _
  unfold put6 at hW2
  clear c0 c1 c2 c3 c4 c5 f0 f1 f2 f3 f4 f5 hP1 hR1 hB1 k1 k3 hHeld
  rw [← hW2]
  clear hW2
  have c0 := hP2.cell 0
  have c1 := hP2.cell 1
  have c2 := hP2.cell 2
  have c3 := hP2.cell 3
  have c4 := hP2.cell 4
  have c5 := hP2.cell 5
  simp at c0 c1 c2 c3 c4 c5
  go_wp2_with fail
  refine (hen W2).mono ?_
  rintro e w5 ⟨v, rfl, hown, hb5⟩
  obtain ⟨A5, c5', rfl, r5⟩ := Rd.of hown hel
  have hR5 := Cel.later hR2 hb5
  have hP5 := Cel.later hP2 hb5
  have bel5 := hB2.trans (hb5.mono hB2.size)
  have hD5 := hD.later bel5
  clear hen hown hb5 hR2 hP2 hB2 c0 c1 c2 c3 c4 c5 hD
  have s1 := r5.conv (Below.refl _ _)
  have s2 := hD5.conv (Below.refl _ _)
  clear r5 hD5
  have c0 := hR5.cell 0
  have c1 := hR5.cell 1
  have c2 := hR5.cell 2
  have c3 := hR5.cell 3
  have c4 := hR5.cell 4
  have c5 := hR5.cell 5
  simp at c0 c1 c2 c3 c4 c5
  have f0 := hR5.free 0
  have f1 := hR5.free 1
  have f2 := hR5.free 2
  have f3 := hR5.free 3
  have f4 := hR5.free 4
  have f5 := hR5.free 5
  go_wp2
  exact bodyPost_ret (zde_results rfl rfl (put6_cel hR5 (.int .i64 0) (.bool false) (.bool false) (.bool false) (.int .i64 0) (.int .i64 0))) rfl ⟨rfl, put6_below bel5 (Nat.le_refl _) _ _ _ _ _ _⟩

set_option maxHeartbeats 2000000 in
theorem zdecode_good (a : Option Addr) (l : List Byte) (c : Nat) (w : World) (hD : Rd w a l 4 c) (hok : (rd l).ok = true) (hne : (rd l).enc = l) :
    Calls Try.prog 32 #[.slice a 4 c] w fun e w' => e = .returned (.tuple #[.agg #[.int .i64 (rd l).ch, .bool (rd l).lk, .bool (rd l).wt, .bool (rd l).rt, .int .i64 (rd l).bp, .int .i64 (rd l).nx], .int .i64 0]) ∧ Below w.heap.size w w' := by
  have b0 := bel_new w (.cells #[.int .i64 0, .bool false, .bool false, .bool false, .int .i64 0, .int .i64 0] 24)
  have hR0 := Cel.new w 24 #[.int .i64 0, .bool false, .bool false, .bool false, .int .i64 0, .int .i64 0]
  have hlen := hD.len
  obtain ⟨b, off, rfl, hltb, hcell⟩ := hD.at_ (by decide)
  have hat : ∀ k, k < 4 → w.cell? ⟨b, off + k, none⟩ = some (.int .u8 ((b8 l k : Nat) : Int)) := fun k hk => by
    have hx : l[k]? = some (l[k]'(by omega)) := List.getElem?_eq_getElem (by omega)
    rw [hcell k _ hx, b8_at hx]
  have k1 := hat 1 (by decide)
  have k2 := (b0.cell (p := ⟨b, off + 2, none⟩) hltb).trans (hat 2 (by decide))
  have k3 := hat 3 (by decide)
  have z1 := b8_lt l 1
  have z2 := b8_lt l 2
  have z3 := b8_lt l 3
  obtain ⟨Y1, q1⟩ : ∃ Y, Y = b8 l 1 := ⟨_, rfl⟩
  obtain ⟨Y2, q2⟩ : ∃ Y, Y = b8 l 2 := ⟨_, rfl⟩
  obtain ⟨Y3, q3⟩ : ∃ Y, Y = b8 l 3 := ⟨_, rfl⟩
  have hrd : rd l = ⟨((b8 l 1 / 4 : Nat) : Int), decide (b8 l 2 / 32 % 2 = 1), decide (b8 l 2 / 16 % 2 = 1), decide (b8 l 2 / 8 % 2 = 1), ((b8 l 2 / 2 % 4 : Nat) : Int), ((b8 l 3 : Nat) : Int)⟩ := rfl
  rw [← q1, ← q2, ← q3] at hrd
  rw [← q1] at k1 z1
  rw [← q2] at k2 z2
  rw [← q3] at k3 z3
  have HL := Lib.hid hlen
  obtain ⟨C, qC⟩ : ∃ C, C = Y1 / 4 := ⟨_, rfl⟩
  obtain ⟨D1, qD1⟩ : ∃ D, D = Y2 / 32 := ⟨_, rfl⟩
  obtain ⟨D2, qD2⟩ : ∃ D, D = Y2 / 16 := ⟨_, rfl⟩
  obtain ⟨D3, qD3⟩ : ∃ D, D = Y2 / 8 := ⟨_, rfl⟩
  obtain ⟨D4, qD4⟩ : ∃ D, D = Y2 / 2 := ⟨_, rfl⟩
  obtain ⟨m1, qm1⟩ : ∃ m, m = D1 % 2 := ⟨_, rfl⟩
  obtain ⟨m2, qm2⟩ : ∃ m, m = D2 % 2 := ⟨_, rfl⟩
  obtain ⟨m3, qm3⟩ : ∃ m, m = D3 % 2 := ⟨_, rfl⟩
  obtain ⟨B, qB⟩ : ∃ B, B = D4 % 4 := ⟨_, rfl⟩
  obtain ⟨lk, qlk⟩ : ∃ b, b = decide (m1 = 1) := ⟨_, rfl⟩
  obtain ⟨wt, qwt⟩ : ∃ b, b = decide (m2 = 1) := ⟨_, rfl⟩
  obtain ⟨rt, qrt⟩ : ∃ b, b = decide (m3 = 1) := ⟨_, rfl⟩
  rw [← qC, ← qD1, ← qD2, ← qD3, ← qD4, ← qm1, ← qm2, ← qm3, ← qB, ← qlk, ← qwt, ← qrt] at hrd
  have i1 := from_u64 Y1 (by omega)
  have i3 := from_u64 Y3 (by omega)
  have i2 : IntKind.i64.wrap (Y2 : Int) = (Y2 : Int) := from_u64 Y2 (by omega)
  have a1 : IntKind.i64.wrap ((Y1 : Int) / 4) = (C : Int) := by rw [i64_in (by omega) (by omega)]; omega
  have a2 : IntKind.i64.wrap ((Y2 : Int) / 32) = (D1 : Int) := by rw [i64_in (by omega) (by omega)]; omega
  have a3 : IntKind.i64.wrap ((Y2 : Int) / 16) = (D2 : Int) := by rw [i64_in (by omega) (by omega)]; omega
  have a4 : IntKind.i64.wrap ((Y2 : Int) / 8) = (D3 : Int) := by rw [i64_in (by omega) (by omega)]; omega
  have a5 : IntKind.i64.wrap ((Y2 : Int) / 2) = (D4 : Int) := by rw [i64_in (by omega) (by omega)]; omega
  have t1 : (Y1 : Int).tdiv 4 = (Y1 : Int) / 4 := Int.tdiv_eq_ediv_of_nonneg (by omega)
  have u1 : (D1 : Int).tmod 2 = (m1 : Int) := by rw [Int.tmod_eq_emod_of_nonneg (by omega)]; omega
  have u2 : (D2 : Int).tmod 2 = (m2 : Int) := by rw [Int.tmod_eq_emod_of_nonneg (by omega)]; omega
  have u3 : (D3 : Int).tmod 2 = (m3 : Int) := by rw [Int.tmod_eq_emod_of_nonneg (by omega)]; omega
  have u4 : (D4 : Int).tmod 4 = (B : Int) := by rw [Int.tmod_eq_emod_of_nonneg (by omega)]; omega
  have v1 : (D1 : Int) % 2 = (m1 : Int) := by omega
  have v2 : (D2 : Int) % 2 = (m2 : Int) := by omega
  have v3 : (D3 : Int) % 2 = (m3 : Int) := by omega
  have v4 : (D4 : Int) % 4 = (B : Int) := by omega
  have j1 : ((m1 : Int) == 1) = lk := by rw [qlk, Bool.eq_iff_iff]; simp; omega
  have j2 : ((m2 : Int) == 1) = wt := by rw [qwt, Bool.eq_iff_iff]; simp; omega
  have j3 : ((m3 : Int) == 1) = rt := by rw [qrt, Bool.eq_iff_iff]; simp; omega
  rw [hrd] at hok
  have hen := fun W => zencode_any (C : Int) lk wt rt (B : Int) (Y3 : Int) W
  clear q1 q2 q3 hat hcell hlen qC qD1 qD2 qD3 qD4 qm1 qm2 qm3 qB qlk qwt qrt
  rw [hrd] at hne
  have hel := Cw.enc_len hok
  obtain ⟨E, hE⟩ : ∃ E, E = Cw.enc ⟨(C : Int), lk, wt, rt, (B : Int), (Y3 : Int)⟩ := ⟨_, rfl⟩
  simp only [Cw.err_yes hok, ← hE] at hen
  rw [← hE] at hel hne
  have y3 := str_beq E l
  rw [decide_eq_true hne] at y3
  have y4 : ((str E).toList != (str l).toList) = false := by unfold bne; rw [y3]; rfl
  clear hE hok hne
  rw [hrd]
  clear hrd
  go_enter Try.func32, Try.ntmps32
  go_wp2_with fail
  refine wp_region_held_drew (S := (fun w' => w'.cell? ⟨b, off + 1, none⟩ = some (.int .u8 (Y1 : Int)) ∧ w'.cell? ⟨b, off + 3, none⟩ = some (.int .u8 (Y3 : Int)))) (by kernel_rfl) (⟨(b0.cell (p := ⟨b, off + 1, none⟩) hltb).trans k1, (b0.cell (p := ⟨b, off + 3, none⟩) hltb).trans k3⟩) (fun hHeld => ?_)
  refine wpAnyH_here 0 (v := ?_) rfl (by kernel_rfl) (by kernel_rfl) (by kernel_rfl) (fun _ _ _ h => h) (Or.inl ⟨by rfl, ?_⟩) hHeld ?_
  rotate_left
  · intro w hSw; (try dsimp only at hSw); go_simp; all_goals (with_reducible rfl)
  try simp only [Act.put, List.setIfInBounds_toArray, List.set_cons_zero, List.set_cons_succ]
  refine wpAnyH_here 1 (v := ?_) rfl (by kernel_rfl) (by kernel_rfl) (by kernel_rfl) (fun _ _ _ h => h) (Or.inl ⟨by rfl, ?_⟩) hHeld ?_
  rotate_left
  · intro w hSw; (try dsimp only at hSw); go_simp; all_goals (with_reducible rfl)
  try simp only [Act.put, List.setIfInBounds_toArray, List.set_cons_zero, List.set_cons_succ]
  refine wpAnyH_here 2 (v := ?_) rfl (by kernel_rfl) (by kernel_rfl) (by kernel_rfl) (fun _ _ _ h => h) (Or.inl ⟨by rfl, ?_⟩) hHeld ?_
  rotate_left
  · intro w hSw; (try dsimp only at hSw); go_simp; all_goals (with_reducible rfl)
  try simp only [Act.put, List.setIfInBounds_toArray, List.set_cons_zero, List.set_cons_succ]
  refine wpAnyH_here 3 (v := ?_) rfl (by kernel_rfl) (by kernel_rfl) (by kernel_rfl) (fun _ _ _ h => h) (Or.inl ⟨by rfl, ?_⟩) hHeld ?_
  rotate_left
  · intro w hSw; (try dsimp only at hSw); go_simp; all_goals (with_reducible rfl)
  try simp only [Act.put, List.setIfInBounds_toArray, List.set_cons_zero, List.set_cons_succ]
  refine wpAnyH_here 4 (v := ?_) rfl (by kernel_rfl) (by kernel_rfl) (by kernel_rfl) (fun _ _ _ h => h) (Or.inl ⟨by rfl, ?_⟩) hHeld ?_
  rotate_left
  · intro w hSw; (try dsimp only at hSw); go_simp; all_goals (with_reducible rfl)
  try simp only [Act.put, List.setIfInBounds_toArray, List.set_cons_zero, List.set_cons_succ]
  refine wpAnyH_here 5 (v := ?_) rfl (by kernel_rfl) (by kernel_rfl) (by kernel_rfl) (fun _ _ _ h => h) (Or.inl ⟨by rfl, ?_⟩) hHeld ?_
  rotate_left
  · intro w hSw; (try dsimp only at hSw); go_simp; all_goals (with_reducible rfl)
  try simp only [Act.put, List.setIfInBounds_toArray, List.set_cons_zero, List.set_cons_succ]
  refine wpAnyH_here 6 (v := ?_) rfl (by kernel_rfl) (by kernel_rfl) (by kernel_rfl) (fun _ _ _ h => h) (Or.inl ⟨by rfl, ?_⟩) hHeld ?_
  rotate_left
  · intro w hSw; (try dsimp only at hSw); go_simp; all_goals (with_reducible rfl)
  try simp only [Act.put, List.setIfInBounds_toArray, List.set_cons_zero, List.set_cons_succ]
  refine wpAnyH_here 7 (v := ?_) rfl (by kernel_rfl) (by kernel_rfl) (by kernel_rfl) (fun _ _ _ h => h) (Or.inl ⟨by rfl, ?_⟩) hHeld ?_
  rotate_left
  · intro w hSw; (try dsimp only at hSw); go_simp; all_goals (with_reducible rfl)
  try simp only [Act.put, List.setIfInBounds_toArray, List.set_cons_zero, List.set_cons_succ]
  refine wpAnyH_here 8 (v := ?_) rfl (by kernel_rfl) (by kernel_rfl) (by kernel_rfl) (fun _ _ _ h => h) (Or.inl ⟨by rfl, ?_⟩) hHeld ?_
  rotate_left
  · intro w hSw; (try dsimp only at hSw); go_simp; all_goals (with_reducible rfl)
  try simp only [Act.put, List.setIfInBounds_toArray, List.set_cons_zero, List.set_cons_succ]
  refine wpAnyH_here 9 (v := ?_) rfl (by kernel_rfl) (by kernel_rfl) (by kernel_rfl) (fun _ _ _ h => h) (Or.inl ⟨by rfl, ?_⟩) hHeld ?_
  rotate_left
  · intro w hSw; (try dsimp only at hSw); go_simp; all_goals (with_reducible rfl)
  try simp only [Act.put, List.setIfInBounds_toArray, List.set_cons_zero, List.set_cons_succ]
  refine wpAnyH_here 10 (v := ?_) rfl (by kernel_rfl) (by kernel_rfl) (by kernel_rfl) (fun _ _ _ h => h) (Or.inl ⟨by rfl, ?_⟩) hHeld ?_
  rotate_left
  · intro w hSw; (try dsimp only at hSw); go_simp; all_goals (with_reducible rfl)
  try simp only [Act.put, List.setIfInBounds_toArray, List.set_cons_zero, List.set_cons_succ]
  refine wpAnyH_here 11 (v := ?_) rfl (by kernel_rfl) (by kernel_rfl) (by kernel_rfl) (fun _ _ _ h => h) (Or.inl ⟨by rfl, ?_⟩) hHeld ?_
  rotate_left
  · intro w hSw; (try dsimp only at hSw); go_simp; all_goals (with_reducible rfl)
  try simp only [Act.put, List.setIfInBounds_toArray, List.set_cons_zero, List.set_cons_succ]
  refine wpAnyH_here 12 (v := ?_) rfl (by kernel_rfl) (by kernel_rfl) (by kernel_rfl) (fun _ _ _ h => h) (Or.inl ⟨by rfl, ?_⟩) hHeld ?_
  rotate_left
  · intro w hSw; (try dsimp only at hSw); go_simp; all_goals (with_reducible rfl)
  try simp only [Act.put, List.setIfInBounds_toArray, List.set_cons_zero, List.set_cons_succ]
  refine wpAnyH_here 13 (v := ?_) rfl (by kernel_rfl) (by kernel_rfl) (by kernel_rfl) (fun _ _ _ h => h) (Or.inl ⟨by rfl, ?_⟩) hHeld ?_
  rotate_left
  · intro w hSw; (try dsimp only at hSw); go_simp; all_goals (with_reducible rfl)
  try simp only [Act.put, List.setIfInBounds_toArray, List.set_cons_zero, List.set_cons_succ]
  refine wpAnyH_here 14 (v := ?_) rfl (by kernel_rfl) (by kernel_rfl) (by kernel_rfl) (fun _ _ _ h => h) (Or.inl ⟨by rfl, ?_⟩) hHeld ?_
  rotate_left
  · intro w hSw; (try dsimp only at hSw); go_simp; all_goals (with_reducible rfl)
  try simp only [Act.put, List.setIfInBounds_toArray, List.set_cons_zero, List.set_cons_succ]
  refine wpAnyH_here 15 (v := ?_) rfl (by kernel_rfl) (by kernel_rfl) (by kernel_rfl) (fun _ _ _ h => h) (Or.inl ⟨by rfl, ?_⟩) hHeld ?_
  rotate_left
  · intro w hSw; (try dsimp only at hSw); go_simp; all_goals (with_reducible rfl)
  try simp only [Act.put, List.setIfInBounds_toArray, List.set_cons_zero, List.set_cons_succ]
  refine wpAnyH_here 16 (v := ?_) rfl (by kernel_rfl) (by kernel_rfl) (by kernel_rfl) (fun _ _ _ h => h) (Or.inl ⟨by rfl, ?_⟩) hHeld ?_
  rotate_left
  · intro w hSw; (try dsimp only at hSw); go_simp; all_goals (with_reducible rfl)
  try simp only [Act.put, List.setIfInBounds_toArray, List.set_cons_zero, List.set_cons_succ]
  refine wpAnyH_here 17 (v := ?_) rfl (by kernel_rfl) (by kernel_rfl) (by kernel_rfl) (fun _ _ _ h => h) (Or.inl ⟨by rfl, ?_⟩) hHeld ?_
  rotate_left
  · intro w hSw; (try dsimp only at hSw); go_simp; all_goals (with_reducible rfl)
  try simp only [Act.put, List.setIfInBounds_toArray, List.set_cons_zero, List.set_cons_succ]
  refine wpAnyH_here 18 (v := ?_) rfl (by kernel_rfl) (by kernel_rfl) (by kernel_rfl) (fun _ _ _ h => h) (Or.inl ⟨by rfl, ?_⟩) hHeld ?_
  rotate_left
  · intro w hSw; (try dsimp only at hSw); go_simp; all_goals (with_reducible rfl)
  try simp only [Act.put, List.setIfInBounds_toArray, List.set_cons_zero, List.set_cons_succ]
  refine wpAnyH_here 19 (v := ?_) rfl (by kernel_rfl) (by kernel_rfl) (by kernel_rfl) (fun _ _ _ h => h) (Or.inl ⟨by rfl, ?_⟩) hHeld ?_
  rotate_left
  · intro w hSw; (try dsimp only at hSw); go_simp; all_goals (with_reducible rfl)
  try simp only [Act.put, List.setIfInBounds_toArray, List.set_cons_zero, List.set_cons_succ]
  refine wpAnyH_here 20 (v := ?_) rfl (by kernel_rfl) (by kernel_rfl) (by kernel_rfl) (fun _ _ _ h => h) (Or.inl ⟨by rfl, ?_⟩) hHeld ?_
  rotate_left
  · intro w hSw; (try dsimp only at hSw); go_simp; all_goals (with_reducible rfl)
  try simp only [Act.put, List.setIfInBounds_toArray, List.set_cons_zero, List.set_cons_succ]
  refine wpAnyH_here 21 (v := ?_) rfl (by kernel_rfl) (by kernel_rfl) (by kernel_rfl) (fun _ _ _ h => h) (Or.inl ⟨by rfl, ?_⟩) hHeld ?_
  rotate_left
  · intro w hSw; (try dsimp only at hSw); go_simp; all_goals (with_reducible rfl)
  try simp only [Act.put, List.setIfInBounds_toArray, List.set_cons_zero, List.set_cons_succ]
  refine wpAnyH_here 22 (v := ?_) rfl (by kernel_rfl) (by kernel_rfl) (by kernel_rfl) (fun _ _ _ h => h) (Or.inl ⟨by rfl, ?_⟩) hHeld ?_
  rotate_left
  · intro w hSw; (try dsimp only at hSw); go_simp; all_goals (with_reducible rfl)
  try simp only [Act.put, List.setIfInBounds_toArray, List.set_cons_zero, List.set_cons_succ]
  refine wpAnyH_here 23 (v := ?_) rfl (by kernel_rfl) (by kernel_rfl) (by kernel_rfl) (fun _ _ _ h => h) (Or.inl ⟨by rfl, ?_⟩) hHeld ?_
  rotate_left
  · intro w hSw; (try dsimp only at hSw); go_simp; all_goals (with_reducible rfl)
  try simp only [Act.put, List.setIfInBounds_toArray, List.set_cons_zero, List.set_cons_succ]
  refine wpAnyH_here 24 (v := ?_) rfl (by kernel_rfl) (by kernel_rfl) (by kernel_rfl) (fun _ _ _ h => h) (Or.inl ⟨by rfl, ?_⟩) hHeld ?_
  rotate_left
  · intro w hSw; (try dsimp only at hSw); go_simp; all_goals (with_reducible rfl)
  try simp only [Act.put, List.setIfInBounds_toArray, List.set_cons_zero, List.set_cons_succ]
  have HB : Below w.heap.size w ((w.alloc (.cells #[.int .i64 0, .bool false, .bool false, .bool false, .int .i64 0, .int .i64 0] 24)).alloc (.cells #[.int .i64 0, .bool false, .bool false, .bool false, .int .i64 0, .int .i64 0] 24)).drew := (b0.alloc b0.size _).drew
  refine wpAnyH_alone 25 rfl (by kernel_rfl) (fun K hK => ?_)
  go_simp
  skip
  refine hK.out _ _ (⟨(HB.cell (p := ⟨b, off + 1, none⟩) hltb).trans k1, (HB.cell (p := ⟨b, off + 3, none⟩) hltb).trans k3⟩) (fun hHeld => ?_)
  clear hK K
  try simp only [Act.put, List.setIfInBounds_toArray, List.set_cons_zero, List.set_cons_succ]
  obtain ⟨W1, hW1⟩ : ∃ W1, W1 = ((w.alloc (.cells #[.int .i64 0, .bool false, .bool false, .bool false, .int .i64 0, .int .i64 0] 24)).alloc (.cells #[.int .i64 0, .bool false, .bool false, .bool false, .int .i64 0, .int .i64 0] 24)).drew := ⟨_, rfl⟩
  have hP1 : Cel W1 (w.heap.size + 1) 24 #[.int .i64 0, .bool false, .bool false, .bool false, .int .i64 0, .int .i64 0] := by
    rw [hW1]
    have e : (w.alloc (.cells #[.int .i64 0, .bool false, .bool false, .bool false, .int .i64 0, .int .i64 0] 24)).heap.size = w.heap.size + 1 := by simp
    have h := Cel.new (w.alloc (.cells #[.int .i64 0, .bool false, .bool false, .bool false, .int .i64 0, .int .i64 0] 24)) 24 #[.int .i64 0, .bool false, .bool false, .bool false, .int .i64 0, .int .i64 0]
    rw [e] at h
    exact h
  have hR1 : Cel W1 w.heap.size 24 #[.int .i64 0, .bool false, .bool false, .bool false, .int .i64 0, .int .i64 0] := by rw [hW1]; exact Cel.later hR0 (bel_new _ _).drew
  have hB1 : Below w.heap.size w W1 := by rw [hW1]; exact HB
  rw [← hW1] at hHeld ⊢
  clear hW1 HB hR0 b0 k2
  have c0 := hP1.cell 0
  have c1 := hP1.cell 1
  have c2 := hP1.cell 2
  have c3 := hP1.cell 3
  have c4 := hP1.cell 4
  have c5 := hP1.cell 5
  simp at c0 c1 c2 c3 c4 c5
  have f0 := hP1.free 0
  have f1 := hP1.free 1
  have f2 := hP1.free 2
  have f3 := hP1.free 3
  have f4 := hP1.free 4
  have f5 := hP1.free 5
  refine wpAnyH_alone 26 rfl (by kernel_rfl) (fun K hK => ?_)
  go_simp
  skip
  refine hK.out _ _ (⟨((put6_below hB1 (Nat.le_succ _) (.int .i64 (C : Int)) (.bool lk) (.bool wt) (.bool rt) (.int .i64 (B : Int)) (.int .i64 (Y3 : Int))).cell (p := ⟨b, off + 1, none⟩) hltb).trans k1, ((put6_below hB1 (Nat.le_succ _) (.int .i64 (C : Int)) (.bool lk) (.bool wt) (.bool rt) (.int .i64 (B : Int)) (.int .i64 (Y3 : Int))).cell (p := ⟨b, off + 3, none⟩) hltb).trans k3⟩) (fun hHeld => ?_)
  clear hK K
  try simp only [Act.put, List.setIfInBounds_toArray, List.set_cons_zero, List.set_cons_succ]
  refine wpAnyH_done (by kernel_rfl) ?_ _
  obtain ⟨W2, hW2⟩ : ∃ W2, W2 = put6 W1 (w.heap.size + 1) (.int .i64 (C : Int)) (.bool lk) (.bool wt) (.bool rt) (.int .i64 (B : Int)) (.int .i64 (Y3 : Int)) := ⟨_, rfl⟩
  have hP2 : Cel W2 (w.heap.size + 1) 24 #[.int .i64 (C : Int), .bool lk, .bool wt, .bool rt, .int .i64 (B : Int), .int .i64 (Y3 : Int)] := by rw [hW2]; exact put6_cel hP1 _ _ _ _ _ _
  have hR2 : Cel W2 w.heap.size 24 #[.int .i64 0, .bool false, .bool false, .bool false, .int .i64 0, .int .i64 0] := by rw [hW2]; exact hR1.only (put6_only _ _ _ _ _ _ _ _) (by simp)
  have hB2 : Below w.heap.size w W2 := by rw [hW2]; exact put6_below hB1 (Nat.le_succ _) _ _ _ _ _ _
  unfold put6 at hW2
  clear c0 c1 c2 c3 c4 c5 f0 f1 f2 f3 f4 f5 hP1 hR1 hB1 k1 k3 hHeld
  rw [← hW2]
  clear hW2
  have c0 := hP2.cell 0
  have c1 := hP2.cell 1
  have c2 := hP2.cell 2
  have c3 := hP2.cell 3
  have c4 := hP2.cell 4
  have c5 := hP2.cell 5
  simp at c0 c1 c2 c3 c4 c5
  go_wp2_with fail
  refine (hen W2).mono ?_
  rintro e w5 ⟨v, rfl, hown, hb5⟩
  obtain ⟨A5, c5', rfl, r5⟩ := Rd.of hown hel
  have hR5 := Cel.later hR2 hb5
  have hP5 := Cel.later hP2 hb5
  have bel5 := hB2.trans (hb5.mono hB2.size)
  have hD5 := hD.later bel5
  clear hen hown hb5 hR2 hP2 hB2 c0 c1 c2 c3 c4 c5 hD
  have s1 := r5.conv (Below.refl _ _)
  have s2 := hD5.conv (Below.refl _ _)
  clear r5 hD5
  have c0 := hR5.cell 0
  have c1 := hR5.cell 1
  have c2 := hR5.cell 2
  have c3 := hR5.cell 3
  have c4 := hR5.cell 4
  have c5 := hR5.cell 5
  simp at c0 c1 c2 c3 c4 c5
  have f0 := hR5.free 0
  have f1 := hR5.free 1
  have f2 := hR5.free 2
  have f3 := hR5.free 3
  have f4 := hR5.free 4
  have f5 := hR5.free 5
  have p0 := hP5.cell 0
  have p1 := hP5.cell 1
  have p2 := hP5.cell 2
  have p3 := hP5.cell 3
  have p4 := hP5.cell 4
  have p5 := hP5.cell 5
  simp at p0 p1 p2 p3 p4 p5
  have q0 := hP5.free 0
  have q1 := hP5.free 1
  have q2 := hP5.free 2
  have q3 := hP5.free 3
  have q4 := hP5.free 4
  have q5 := hP5.free 5
  go_wp2
  exact bodyPost_ret (zde_results rfl rfl (put6_cel hR5 (.int .i64 (C : Int)) (.bool lk) (.bool wt) (.bool rt) (.int .i64 (B : Int)) (.int .i64 (Y3 : Int)))) rfl ⟨rfl, put6_below bel5 (Nat.le_refl _) _ _ _ _ _ _⟩

theorem zdecode_any (a : Option Addr) (l : List Byte) (n c : Nat) (w : World) (hD : Rd w a l n c) :
    Calls Try.prog 32 #[.slice a n c] w fun e w' => e = .returned (.tuple #[.agg #[.int .i64 (deP l).ch, .bool (deP l).lk, .bool (deP l).wt, .bool (deP l).rt, .int .i64 (deP l).bp, .int .i64 (deP l).nx], .int .i64 (deE l)]) ∧ Below w.heap.size w w' := by
  have hln := hD.len
  by_cases h1 : n < 4
  · obtain ⟨e1, e2⟩ := de_short (l := l) (by omega)
    rw [e1, e2]
    exact zdecode_short a n c w h1
  by_cases h2 : 4 < n
  · obtain ⟨e1, e2⟩ := de_long (l := l) (by omega)
    rw [e1, e2]
    exact zdecode_long a n c w h2
  obtain rfl : n = 4 := by omega
  cases hok : (rd l).ok with
  | false =>
    have hg : gd l = false := by unfold gd; rw [hok, Bool.and_false]
    obtain ⟨e1, e2⟩ := de_form (l := l) hln hg
    rw [e1, e2]
    exact zdecode_bad a l c w hD hok
  | true =>
    have hg := gd_enc hln hok
    by_cases he : (rd l).enc = l
    · rw [decide_eq_true he] at hg
      obtain ⟨e1, e2⟩ := de_good (l := l) hln hg
      rw [e1, e2]
      exact zdecode_good a l c w hD hok he
    · rw [decide_eq_false he] at hg
      obtain ⟨e1, e2⟩ := de_form (l := l) hln hg
      rw [e1, e2]
      exact zdecode_form a l c w hD hok he
end Go.Proofs.Ytmkmojhhfbokdaa.Clc

/-
  The walk of the reference of layer 18: Decode.
-/
namespace Go.Proofs.Ytmkmojhhfbokdaa.Tmf
open Go.RowKit Go.Proofs.Ytmkmojhhfbokdaa.Pac
open Clc (Cw)

/-- a checksum is right just if the last two bytes are its number -/
theorem ck_sum {l : List Byte} {N : Nat} {x y : Byte} (hN : l.length = N + 2) (hx : l[N]? = some x) (hy : l[N + 1]? = some y) : ck16 l = decide ((up16 0xffff#16 (l.take N)).toNat = 256 * x.toNat + y.toNat) := by
  obtain ⟨r, hr⟩ : ∃ r, r = up16 0xffff#16 (l.take N) := ⟨_, rfl⟩
  have hl : l = l.take N ++ [x, y] := by
    apply List.ext_getElem?
    intro i
    rw [List.getElem?_append, List.length_take, hN]
    by_cases h : i < N
    · rw [if_pos (by omega), List.getElem?_take, if_pos h]
    · rw [if_neg (by omega)]
      have e : min N (N + 2) = N := by omega
      rw [e]
      by_cases h1 : i = N
      · subst h1; rw [hx]; simp
      by_cases h2 : i = N + 1
      · subst h2; rw [hy]; simp
      · rw [List.getElem?_eq_none (by omega), List.getElem?_eq_none (by simp; omega)]
  have hrl := r.isLt
  have hxl := x.isLt
  have hyl := y.isLt
  have key : ap16 (l.take (l.length - 2)) = l ↔ r.toNat = 256 * x.toNat + y.toNat := by
    rw [show l.length - 2 = N by omega]
    unfold ap16
    rw [← hr]
    conv => lhs; rhs; rw [hl]
    rw [List.append_cancel_left_eq]
    unfold crcb
    simp only [List.cons.injEq, and_true]
    rw [← BitVec.toNat_inj, ← BitVec.toNat_inj, BitVec.toNat_setWidth, BitVec.toNat_setWidth, BitVec.toNat_ushiftRight, Nat.shiftRight_eq_div_pow]
    omega
  rw [Bool.eq_iff_iff, decide_eq_true_iff, ← hr, ← key]
  unfold ck16
  rw [decide_eq_true_iff]
  exact ⟨fun h => h.2, fun h => ⟨by omega, h⟩⟩

theorem rde_results {tmps : Array Value} {W : World} {g : Nat} {z : Int} {cr ch ma ct fi : Int} {v : Value} {wc : Int} {lk wt rt : Bool} {wb wn : Int} (h2 : tmps.getD 2 undef = .pointer (some ⟨g, 0, none⟩)) (h3 : tmps.getD 3 undef = .int .i64 z)
    (hC : Cel W g 26 #[.int .i64 cr, .int .i64 ch, .int .i64 ma, .int .i64 ct, .int .i64 fi, v, .int .i64 wc, .bool lk, .bool wt, .bool rt, .int .i64 wb, .int .i64 wn]) :
    (results Try.f14 tmps).run Try.prog W = .ok (.tuple #[.agg #[.int .i64 cr, .int .i64 ch, .int .i64 ma, .int .i64 ct, .int .i64 fi, v, .int .i64 wc, .bool lk, .bool wt, .bool rt, .int .i64 wb, .int .i64 wn], .int .i64 z]) W := by
  have c0 := hC.cell 0
  have c1 := hC.cell 1
  have c2 := hC.cell 2
  have c3 := hC.cell 3
  have c4 := hC.cell 4
  have c5 := hC.cell 5
  have c6 := hC.cell 6
  have c7 := hC.cell 7
  have c8 := hC.cell 8
  have c9 := hC.cell 9
  have c10 := hC.cell 10
  have c11 := hC.cell 11
  simp at c0 c1 c2 c3 c4 c5 c6 c7 c8 c9 c10 c11
  simp only [Array.getD_eq_getD_getElem?] at h2 h3
  simp [results, Try.results14, go_sem, h2, h3, c0, c1, c2, c3, c4, c5, c6, c7, c8, c9, c10, c11]

set_option maxHeartbeats 2000000 in
theorem rdecode_short (a : Option Addr) (n c : Nat) (w : World) (h : n < 13) :
    Calls Try.prog 14 #[.slice a n c] w fun e w' => e = .returned (.tuple #[.agg #[.int .i64 0, .int .i64 0, .int .i64 0, .int .i64 0, .int .i64 0, .slice none 0 0, .int .i64 0, .bool false, .bool false, .bool false, .int .i64 0, .int .i64 0], .int .i64 3]) ∧ Below w.heap.size w w' := by
  have b0 := bel_new w (.cells #[.int .i64 0, .int .i64 0, .int .i64 0, .int .i64 0, .int .i64 0, .slice none 0 0, .int .i64 0, .bool false, .bool false, .bool false, .int .i64 0, .int .i64 0] 26)
  have hR0 := Cel.new w 26 #[.int .i64 0, .int .i64 0, .int .i64 0, .int .i64 0, .int .i64 0, .slice none 0 0, .int .i64 0, .bool false, .bool false, .bool false, .int .i64 0, .int .i64 0]
  have g1 : decide ((n : Int) < 13) = true := by simp; omega
  have g2 : decide (n < 13) = true := by simp; omega
  have c0 := hR0.cell 0
  have c1 := hR0.cell 1
  have c2 := hR0.cell 2
  have c3 := hR0.cell 3
  have c4 := hR0.cell 4
  have c5 := hR0.cell 5
  have c6 := hR0.cell 6
  have c7 := hR0.cell 7
  have c8 := hR0.cell 8
  have c9 := hR0.cell 9
  have c10 := hR0.cell 10
  have c11 := hR0.cell 11
  simp at c0 c1 c2 c3 c4 c5 c6 c7 c8 c9 c10 c11
  have f0 := hR0.free 0
  have f1 := hR0.free 1
  have f2 := hR0.free 2
  have f3 := hR0.free 3
  have f4 := hR0.free 4
  have f5 := hR0.free 5
  have f6 := hR0.free 6
  have f7 := hR0.free 7
  have f8 := hR0.free 8
  have f9 := hR0.free 9
  have f10 := hR0.free 10
  have f11 := hR0.free 11
  go_enter Try.func14, Try.ntmps14
  go_wp2
  exact bodyPost_ret (rde_results rfl rfl hR0) rfl ⟨rfl, b0⟩

set_option maxHeartbeats 2000000 in
theorem rdecode_long (a : Option Addr) (n c : Nat) (w : World) (h : 1024 < n) :
    Calls Try.prog 14 #[.slice a n c] w fun e w' => e = .returned (.tuple #[.agg #[.int .i64 0, .int .i64 0, .int .i64 0, .int .i64 0, .int .i64 0, .slice none 0 0, .int .i64 0, .bool false, .bool false, .bool false, .int .i64 0, .int .i64 0], .int .i64 6]) ∧ Below w.heap.size w w' := by
  have b0 := bel_new w (.cells #[.int .i64 0, .int .i64 0, .int .i64 0, .int .i64 0, .int .i64 0, .slice none 0 0, .int .i64 0, .bool false, .bool false, .bool false, .int .i64 0, .int .i64 0] 26)
  have hR0 := Cel.new w 26 #[.int .i64 0, .int .i64 0, .int .i64 0, .int .i64 0, .int .i64 0, .slice none 0 0, .int .i64 0, .bool false, .bool false, .bool false, .int .i64 0, .int .i64 0]
  have g1 : decide ((n : Int) < 13) = false := by simp; omega
  have g2 : decide (n < 13) = false := by simp; omega
  have g3 : decide ((1024 : Int) < (n : Int)) = true := by simp; omega
  have g4 : decide (1024 < n) = true := by simp; omega
  have c0 := hR0.cell 0
  have c1 := hR0.cell 1
  have c2 := hR0.cell 2
  have c3 := hR0.cell 3
  have c4 := hR0.cell 4
  have c5 := hR0.cell 5
  have c6 := hR0.cell 6
  have c7 := hR0.cell 7
  have c8 := hR0.cell 8
  have c9 := hR0.cell 9
  have c10 := hR0.cell 10
  have c11 := hR0.cell 11
  simp at c0 c1 c2 c3 c4 c5 c6 c7 c8 c9 c10 c11
  have f0 := hR0.free 0
  have f1 := hR0.free 1
  have f2 := hR0.free 2
  have f3 := hR0.free 3
  have f4 := hR0.free 4
  have f5 := hR0.free 5
  have f6 := hR0.free 6
  have f7 := hR0.free 7
  have f8 := hR0.free 8
  have f9 := hR0.free 9
  have f10 := hR0.free 10
  have f11 := hR0.free 11
  go_enter Try.func14, Try.ntmps14
  go_wp2
  exact bodyPost_ret (rde_results rfl rfl hR0) rfl ⟨rfl, b0⟩

set_option maxHeartbeats 4000000 in
theorem rdecode_sum (a : Option Addr) (l : List Byte) (n c : Nat) (w : World) (hD : Rd w a l n c) (h : 13 ≤ n) (h2 : n ≤ 1024) (hck : ck16 l = false) :
    Calls Try.prog 14 #[.slice a n c] w fun e w' => e = .returned (.tuple #[.agg #[.int .i64 0, .int .i64 0, .int .i64 0, .int .i64 0, .int .i64 0, .slice none 0 0, .int .i64 0, .bool false, .bool false, .bool false, .int .i64 0, .int .i64 0], .int .i64 5]) ∧ Below w.heap.size w w' := by
  have b0 := bel_new w (.cells #[.int .i64 0, .int .i64 0, .int .i64 0, .int .i64 0, .int .i64 0, .slice none 0 0, .int .i64 0, .bool false, .bool false, .bool false, .int .i64 0, .int .i64 0] 26)
  have hR0 := Cel.new w 26 #[.int .i64 0, .int .i64 0, .int .i64 0, .int .i64 0, .int .i64 0, .slice none 0 0, .int .i64 0, .bool false, .bool false, .bool false, .int .i64 0, .int .i64 0]
  have g1 : decide ((n : Int) < 13) = false := by simp; omega
  have g2 : decide (n < 13) = false := by simp; omega
  have g3 : decide ((1024 : Int) < (n : Int)) = false := by simp; omega
  have g4 : decide (1024 < n) = false := by simp; omega
  have hln := hD.len
  have hle := hD.le
  have hmx := hD.max
  obtain ⟨b, off, rfl⟩ : ∃ b off, a = some ⟨b, off, none⟩ := by obtain ⟨b, off, h, _⟩ := hD.at_ (by omega); exact ⟨b, off, h⟩
  obtain ⟨m, hm⟩ : ∃ m, n = m + 12 := ⟨n - 12, by omega⟩
  obtain ⟨E, hE⟩ : ∃ E, E = m + 6 := ⟨_, rfl⟩
  obtain ⟨N, hN⟩ : ∃ N, N = m + 10 := ⟨_, rfl⟩
  obtain ⟨N3, hN3⟩ : ∃ N3, N3 = N + 1 := ⟨_, rfl⟩
  obtain ⟨x, hx⟩ : ∃ x, l[N]? = some x := ⟨l[N]'(by omega), List.getElem?_eq_getElem (by omega)⟩
  obtain ⟨y, hy⟩ : ∃ y, l[N3]? = some y := ⟨l[N3]'(by omega), List.getElem?_eq_getElem (by omega)⟩
  have hsum := ck_sum (l := l) (N := N) (x := x) (y := y) (by omega) hx (by rw [← hN3]; exact hy)
  rw [hck] at hsum
  obtain ⟨W1, hW1⟩ : ∃ W1, W1 = w.alloc (.cells #[.int .i64 0, .int .i64 0, .int .i64 0, .int .i64 0, .int .i64 0, .slice none 0 0, .int .i64 0, .bool false, .bool false, .bool false, .int .i64 0, .int .i64 0] 26) := ⟨_, rfl⟩
  rw [← hW1] at b0 hR0
  have hD1 := hD.later b0
  have hat : ∀ i z, l[i]? = some z → W1.cell? ⟨b, off + i, none⟩ = some (B8 z) := by
    obtain ⟨b', off', he, _, hc⟩ := hD1.at_ (by omega)
    injection he with he
    injection he with he1 he2
    subst he1 he2
    exact hc
  have d1 : W1.cell? ⟨b, off + N, none⟩ = some (.int .u8 (x.toNat : Int)) := hat N x hx
  have d2 : W1.cell? ⟨b, off + N3, none⟩ = some (.int .u8 (y.toNat : Int)) := hat N3 y hy
  have hs := rsum16_len (some ⟨b, off, none⟩) (l.take N) N c W1.heap.size W1 (by rw [List.length_take]; omega) (hD1.head N (by omega)).bs (by omega)
  have hrl := (up16 0xffff#16 (l.take N)).isLt
  obtain ⟨SM, hSM⟩ : ∃ SM, SM = (up16 0xffff#16 (l.take N)).toNat := ⟨_, rfl⟩
  obtain ⟨X, hX⟩ : ∃ X, X = x.toNat := ⟨_, rfl⟩
  obtain ⟨Y, hY⟩ : ∃ Y, Y = y.toNat := ⟨_, rfl⟩
  have hXl := x.isLt
  have hYl := y.isLt
  rw [← hX] at d1 hsum hXl
  rw [← hY] at d2 hsum hYl
  rw [← hSM] at hs hsum hrl
  obtain ⟨P1, hP1⟩ : ∃ P1, P1 = 256 * X := ⟨_, rfl⟩
  obtain ⟨P2, hP2⟩ : ∃ P2, P2 = P1 + Y := ⟨_, rfl⟩
  have o1 := Clc.i64_in (x := (SM : Int)) (by omega) (by omega)
  have o2 := Clc.i64_in (x := (X : Int)) (by omega) (by omega)
  have o3 := Clc.i64_in (x := (Y : Int)) (by omega) (by omega)
  have o4 : (256 : Int) * (X : Int) = (P1 : Int) := by omega
  have o5 := Clc.i64_in (x := (P1 : Int)) (by omega) (by omega)
  have o6 : (P1 : Int) + (Y : Int) = (P2 : Int) := by omega
  have o7 := Clc.i64_in (x := (P2 : Int)) (by omega) (by omega)
  have o8 : (N : Int) + 1 = (N3 : Int) := by omega
  have o9 := Clc.i64_in (x := (N3 : Int)) (by omega) (by omega)
  have j1 : ((SM : Int) != (P2 : Int)) = true := by
    have := of_decide_eq_false hsum.symm
    simp; omega
  have g5 : (n : Int) - 2 = (N : Int) := by omega
  have g6 : (N : Int) < (n : Int) := by omega
  have g7 : (N3 : Int) < (n : Int) := by omega
  have g8 : N < n := by omega
  have g9 : N3 < n := by omega
  have ga : (N : Int) ≤ (c : Int) := by omega
  have gb : N ≤ c := by omega
  clear hsum hck hD hD1 hat hx hy hln hle hmx hN hN3 hE hm hX hY hSM hP1 hP2
  go_enter Try.func14, Try.ntmps14
  go_wp2_with fail
  rw [← hW1]
  clear hW1
  refine hs.mono ?_
  rintro e w' ⟨rfl, rfl⟩
  clear hs
  go_wp2_with fail
  refine wp_region_held_drew (S := (fun w' => w'.cell? ⟨b, off + N, none⟩ = some (.int .u8 (X : Int)) ∧ w'.cell? ⟨b, off + N3, none⟩ = some (.int .u8 (Y : Int)))) (by kernel_rfl) ⟨d1, d2⟩ (fun hHeld => ?_)
  refine wpAnyH_here 0 (v := ?_) rfl (by kernel_rfl) (by kernel_rfl) (by kernel_rfl) (fun _ _ _ h => h) (Or.inl ⟨by rfl, ?_⟩) hHeld ?_
  rotate_left
  · intro w hSw; (try dsimp only at hSw); go_simp; all_goals (with_reducible rfl)
  try simp only [Act.put, List.setIfInBounds_toArray, List.set_cons_zero, List.set_cons_succ]
  refine wpAnyH_here 1 (v := ?_) rfl (by kernel_rfl) (by kernel_rfl) (by kernel_rfl) (fun _ _ _ h => h) (Or.inl ⟨by rfl, ?_⟩) hHeld ?_
  rotate_left
  · intro w hSw; (try dsimp only at hSw); go_simp; all_goals (with_reducible rfl)
  try simp only [Act.put, List.setIfInBounds_toArray, List.set_cons_zero, List.set_cons_succ]
  refine wpAnyH_here 2 (v := ?_) rfl (by kernel_rfl) (by kernel_rfl) (by kernel_rfl) (fun _ _ _ h => h) (Or.inl ⟨by rfl, ?_⟩) hHeld ?_
  rotate_left
  · intro w hSw; (try dsimp only at hSw); go_simp; all_goals (with_reducible rfl)
  try simp only [Act.put, List.setIfInBounds_toArray, List.set_cons_zero, List.set_cons_succ]
  refine wpAnyH_here 3 (v := ?_) rfl (by kernel_rfl) (by kernel_rfl) (by kernel_rfl) (fun _ _ _ h => h) (Or.inl ⟨by rfl, ?_⟩) hHeld ?_
  rotate_left
  · intro w hSw; (try dsimp only at hSw); go_simp; all_goals (with_reducible rfl)
  try simp only [Act.put, List.setIfInBounds_toArray, List.set_cons_zero, List.set_cons_succ]
  refine wpAnyH_here 4 (v := ?_) rfl (by kernel_rfl) (by kernel_rfl) (by kernel_rfl) (fun _ _ _ h => h) (Or.inl ⟨by rfl, ?_⟩) hHeld ?_
  rotate_left
  · intro w hSw; (try dsimp only at hSw); go_simp; all_goals (with_reducible rfl)
  try simp only [Act.put, List.setIfInBounds_toArray, List.set_cons_zero, List.set_cons_succ]
  refine wpAnyH_here 5 (v := ?_) rfl (by kernel_rfl) (by kernel_rfl) (by kernel_rfl) (fun _ _ _ h => h) (Or.inl ⟨by rfl, ?_⟩) hHeld ?_
  rotate_left
  · intro w hSw; (try dsimp only at hSw); go_simp; all_goals (with_reducible rfl)
  try simp only [Act.put, List.setIfInBounds_toArray, List.set_cons_zero, List.set_cons_succ]
  refine wpAnyH_here 6 (v := ?_) rfl (by kernel_rfl) (by kernel_rfl) (by kernel_rfl) (fun _ _ _ h => h) (Or.inl ⟨by rfl, ?_⟩) hHeld ?_
  rotate_left
  · intro w hSw; (try dsimp only at hSw); go_simp; all_goals (with_reducible rfl)
  try simp only [Act.put, List.setIfInBounds_toArray, List.set_cons_zero, List.set_cons_succ]
  refine wpAnyH_here 7 (v := ?_) rfl (by kernel_rfl) (by kernel_rfl) (by kernel_rfl) (fun _ _ _ h => h) (Or.inl ⟨by rfl, ?_⟩) hHeld ?_
  rotate_left
  · intro w hSw; (try dsimp only at hSw); go_simp; all_goals (with_reducible rfl)
  try simp only [Act.put, List.setIfInBounds_toArray, List.set_cons_zero, List.set_cons_succ]
  refine wpAnyH_here 8 (v := ?_) rfl (by kernel_rfl) (by kernel_rfl) (by kernel_rfl) (fun _ _ _ h => h) (Or.inl ⟨by rfl, ?_⟩) hHeld ?_
  rotate_left
  · intro w hSw; (try dsimp only at hSw); go_simp; all_goals (with_reducible rfl)
  try simp only [Act.put, List.setIfInBounds_toArray, List.set_cons_zero, List.set_cons_succ]
  refine wpAnyH_here 9 (v := ?_) rfl (by kernel_rfl) (by kernel_rfl) (by kernel_rfl) (fun _ _ _ h => h) (Or.inl ⟨by rfl, ?_⟩) hHeld ?_
  rotate_left
  · intro w hSw; (try dsimp only at hSw); go_simp; all_goals (with_reducible rfl)
  try simp only [Act.put, List.setIfInBounds_toArray, List.set_cons_zero, List.set_cons_succ]
  refine wpAnyH_here 10 (v := ?_) rfl (by kernel_rfl) (by kernel_rfl) (by kernel_rfl) (fun _ _ _ h => h) (Or.inl ⟨by rfl, ?_⟩) hHeld ?_
  rotate_left
  · intro w hSw; (try dsimp only at hSw); go_simp; all_goals (with_reducible rfl)
  try simp only [Act.put, List.setIfInBounds_toArray, List.set_cons_zero, List.set_cons_succ]
  refine wpAnyH_here 11 (v := ?_) rfl (by kernel_rfl) (by kernel_rfl) (by kernel_rfl) (fun _ _ _ h => h) (Or.inl ⟨by rfl, ?_⟩) hHeld ?_
  rotate_left
  · intro w hSw; (try dsimp only at hSw); go_simp; all_goals (with_reducible rfl)
  try simp only [Act.put, List.setIfInBounds_toArray, List.set_cons_zero, List.set_cons_succ]
  refine wpAnyH_here 12 (v := ?_) rfl (by kernel_rfl) (by kernel_rfl) (by kernel_rfl) (fun _ _ _ h => h) (Or.inl ⟨by rfl, ?_⟩) hHeld ?_
  rotate_left
  · intro w hSw; (try dsimp only at hSw); go_simp; all_goals (with_reducible rfl)
  try simp only [Act.put, List.setIfInBounds_toArray, List.set_cons_zero, List.set_cons_succ]
  refine wpAnyH_here 13 (v := ?_) rfl (by kernel_rfl) (by kernel_rfl) (by kernel_rfl) (fun _ _ _ h => h) (Or.inl ⟨by rfl, ?_⟩) hHeld ?_
  rotate_left
  · intro w hSw; (try dsimp only at hSw); go_simp; all_goals (with_reducible rfl)
  try simp only [Act.put, List.setIfInBounds_toArray, List.set_cons_zero, List.set_cons_succ]
  refine wpAnyH_here 14 (v := ?_) rfl (by kernel_rfl) (by kernel_rfl) (by kernel_rfl) (fun _ _ _ h => h) (Or.inl ⟨by rfl, ?_⟩) hHeld ?_
  rotate_left
  · intro w hSw; (try dsimp only at hSw); go_simp; all_goals (with_reducible rfl)
  try simp only [Act.put, List.setIfInBounds_toArray, List.set_cons_zero, List.set_cons_succ]
  refine wpAnyH_here 15 (v := ?_) rfl (by kernel_rfl) (by kernel_rfl) (by kernel_rfl) (fun _ _ _ h => h) (Or.inl ⟨by rfl, ?_⟩) hHeld ?_
  rotate_left
  · intro w hSw; (try dsimp only at hSw); go_simp; all_goals (with_reducible rfl)
  try simp only [Act.put, List.setIfInBounds_toArray, List.set_cons_zero, List.set_cons_succ]
  refine wpAnyH_done (by kernel_rfl) ?_ _
  obtain ⟨w2, hw2⟩ : ∃ w2, w2 = W1.drew := ⟨_, rfl⟩
  rw [← hw2]
  have hR2 : Cel w2 w.heap.size 26 #[.int .i64 0, .int .i64 0, .int .i64 0, .int .i64 0, .int .i64 0, .slice none 0 0, .int .i64 0, .bool false, .bool false, .bool false, .int .i64 0, .int .i64 0] := by rw [hw2]; exact hR0.draws 1
  have bel2 : Below w.heap.size w w2 := by rw [hw2]; exact b0.drew
  have hlt2 := hR2.lt
  clear hw2 hR0 b0 d1 d2 o1 o2 o3 o4 o5 o6 o7 o8 o9
  have c0 := hR2.cell 0
  have c1 := hR2.cell 1
  have c2 := hR2.cell 2
  have c3 := hR2.cell 3
  have c4 := hR2.cell 4
  have c5 := hR2.cell 5
  have c6 := hR2.cell 6
  have c7 := hR2.cell 7
  have c8 := hR2.cell 8
  have c9 := hR2.cell 9
  have c10 := hR2.cell 10
  have c11 := hR2.cell 11
  simp at c0 c1 c2 c3 c4 c5 c6 c7 c8 c9 c10 c11
  have f0 := hR2.free 0
  have f1 := hR2.free 1
  have f2 := hR2.free 2
  have f3 := hR2.free 3
  have f4 := hR2.free 4
  have f5 := hR2.free 5
  have f6 := hR2.free 6
  have f7 := hR2.free 7
  have f8 := hR2.free 8
  have f9 := hR2.free 9
  have f10 := hR2.free 10
  have f11 := hR2.free 11
  go_wp2
  exact bodyPost_ret (rde_results rfl rfl (put12_cel hR2 (.int .i64 0) (.int .i64 0) (.int .i64 0) (.int .i64 0) (.int .i64 0) (.slice none 0 0) (.int .i64 0) (.bool false) (.bool false) (.bool false) (.int .i64 0) (.int .i64 0))) rfl ⟨rfl, put12_below bel2 (Nat.le_refl _) _ _ _ _ _ _ _ _ _ _ _ _⟩

end Go.Proofs.Ytmkmojhhfbokdaa.Tmf

/-
  The walk of the reference of layer 18: Decode, bytes whose control word is wrong.
-/
namespace Go.Proofs.Ytmkmojhhfbokdaa.Tmf
open Go.RowKit Go.Proofs.Ytmkmojhhfbokdaa.Pac
open Clc (Cw)

set_option maxHeartbeats 4000000 in
theorem rdecode_err (a : Option Addr) (l : List Byte) (n c : Nat) (w : World) (hD : Rd w a l n c) (h : 13 ≤ n) (h2 : n ≤ 1024) (hck : ck16 l = true) (herr : Clc.deE (ctl l) ≠ 0) :
    Calls Try.prog 14 #[.slice a n c] w fun e w' => e = .returned (.tuple #[.agg #[.int .i64 0, .int .i64 0, .int .i64 0, .int .i64 0, .int .i64 0, .slice none 0 0, .int .i64 0, .bool false, .bool false, .bool false, .int .i64 0, .int .i64 0], .int .i64 4]) ∧ Below w.heap.size w w' := by
  have b0 := bel_new w (.cells #[.int .i64 0, .int .i64 0, .int .i64 0, .int .i64 0, .int .i64 0, .slice none 0 0, .int .i64 0, .bool false, .bool false, .bool false, .int .i64 0, .int .i64 0] 26)
  have hR0 := Cel.new w 26 #[.int .i64 0, .int .i64 0, .int .i64 0, .int .i64 0, .int .i64 0, .slice none 0 0, .int .i64 0, .bool false, .bool false, .bool false, .int .i64 0, .int .i64 0]
  have g1 : decide ((n : Int) < 13) = false := by simp; omega
  have g2 : decide (n < 13) = false := by simp; omega
  have g3 : decide ((1024 : Int) < (n : Int)) = false := by simp; omega
  have g4 : decide (1024 < n) = false := by simp; omega
  have hln := hD.len
  have hle := hD.le
  have hmx := hD.max
  obtain ⟨b, off, rfl⟩ : ∃ b off, a = some ⟨b, off, none⟩ := by obtain ⟨b, off, h, _⟩ := hD.at_ (by omega); exact ⟨b, off, h⟩
  obtain ⟨m, hm⟩ : ∃ m, n = m + 12 := ⟨n - 12, by omega⟩
  obtain ⟨E, hE⟩ : ∃ E, E = m + 6 := ⟨_, rfl⟩
  obtain ⟨N, hN⟩ : ∃ N, N = m + 10 := ⟨_, rfl⟩
  obtain ⟨N3, hN3⟩ : ∃ N3, N3 = N + 1 := ⟨_, rfl⟩
  obtain ⟨x, hx⟩ : ∃ x, l[N]? = some x := ⟨l[N]'(by omega), List.getElem?_eq_getElem (by omega)⟩
  obtain ⟨y, hy⟩ : ∃ y, l[N3]? = some y := ⟨l[N3]'(by omega), List.getElem?_eq_getElem (by omega)⟩
  have hsum := ck_sum (l := l) (N := N) (x := x) (y := y) (by omega) hx (by rw [← hN3]; exact hy)
  rw [hck] at hsum
  obtain ⟨W1, hW1⟩ : ∃ W1, W1 = w.alloc (.cells #[.int .i64 0, .int .i64 0, .int .i64 0, .int .i64 0, .int .i64 0, .slice none 0 0, .int .i64 0, .bool false, .bool false, .bool false, .int .i64 0, .int .i64 0] 26) := ⟨_, rfl⟩
  rw [← hW1] at b0 hR0
  have hD1 := hD.later b0
  have hat : ∀ i z, l[i]? = some z → W1.cell? ⟨b, off + i, none⟩ = some (B8 z) := by
    obtain ⟨b', off', he, _, hc⟩ := hD1.at_ (by omega)
    injection he with he
    injection he with he1 he2
    subst he1 he2
    exact hc
  have d1 : W1.cell? ⟨b, off + N, none⟩ = some (.int .u8 (x.toNat : Int)) := hat N x hx
  have d2 : W1.cell? ⟨b, off + N3, none⟩ = some (.int .u8 (y.toNat : Int)) := hat N3 y hy
  have hs := rsum16_len (some ⟨b, off, none⟩) (l.take N) N c W1.heap.size W1 (by rw [List.length_take]; omega) (hD1.head N (by omega)).bs (by omega)
  have hrl := (up16 0xffff#16 (l.take N)).isLt
  obtain ⟨SM, hSM⟩ : ∃ SM, SM = (up16 0xffff#16 (l.take N)).toNat := ⟨_, rfl⟩
  obtain ⟨X, hX⟩ : ∃ X, X = x.toNat := ⟨_, rfl⟩
  obtain ⟨Y, hY⟩ : ∃ Y, Y = y.toNat := ⟨_, rfl⟩
  have hXl := x.isLt
  have hYl := y.isLt
  rw [← hX] at d1 hsum hXl
  rw [← hY] at d2 hsum hYl
  rw [← hSM] at hs hsum hrl
  obtain ⟨P1, hP1⟩ : ∃ P1, P1 = 256 * X := ⟨_, rfl⟩
  obtain ⟨P2, hP2⟩ : ∃ P2, P2 = P1 + Y := ⟨_, rfl⟩
  have o1 := Clc.i64_in (x := (SM : Int)) (by omega) (by omega)
  have o2 := Clc.i64_in (x := (X : Int)) (by omega) (by omega)
  have o3 := Clc.i64_in (x := (Y : Int)) (by omega) (by omega)
  have o4 : (256 : Int) * (X : Int) = (P1 : Int) := by omega
  have o5 := Clc.i64_in (x := (P1 : Int)) (by omega) (by omega)
  have o6 : (P1 : Int) + (Y : Int) = (P2 : Int) := by omega
  have o7 := Clc.i64_in (x := (P2 : Int)) (by omega) (by omega)
  have o8 : (N : Int) + 1 = (N3 : Int) := by omega
  have o9 := Clc.i64_in (x := (N3 : Int)) (by omega) (by omega)
  have j1 : ((SM : Int) != (P2 : Int)) = false := by
    have := of_decide_eq_true hsum.symm
    simp; omega
  have g5 : (n : Int) - 2 = (N : Int) := by omega
  have g6 : (N : Int) < (n : Int) := by omega
  have g7 : (N3 : Int) < (n : Int) := by omega
  have g8 : N < n := by omega
  have g9 : N3 < n := by omega
  have ga : (N : Int) ≤ (c : Int) := by omega
  have gb : N ≤ c := by omega
  have hctl : ctl l = (l.drop E).take 4 := by unfold ctl; rw [hln, show n - 6 = E by omega]
  have hzd := fun W (hW : Rd W (some ⟨b, off, none⟩) l n c) => Clc.zdecode_any (some ⟨b, off + E, none⟩) (ctl l) 4 (c - E) W (by rw [hctl]; exact hW.sub E 4 (by omega))
  have hx8 : ∀ k, k < 6 → ∃ x, l[k]? = some x ∧ b8 l k = x.toNat := fun k hk => ⟨l[k]'(by omega), List.getElem?_eq_getElem (by omega), b8_at (List.getElem?_eq_getElem (by omega))⟩
  obtain ⟨x0, t0, e0⟩ := hx8 0 (by decide)
  obtain ⟨x1, t1, e1⟩ := hx8 1 (by decide)
  obtain ⟨x2, t2, e2⟩ := hx8 2 (by decide)
  obtain ⟨x3, t3, e3⟩ := hx8 3 (by decide)
  obtain ⟨x4, t4, e4⟩ := hx8 4 (by decide)
  obtain ⟨x5, t5, e5⟩ := hx8 5 (by decide)
  have hC : numAt l 2 10 = b8 l 0 % 64 * 16 + b8 l 1 / 16 := by rw [e0, e1]; exact n_craft t0 t1
  have hA : numAt l 12 3 = b8 l 1 / 2 % 8 := by rw [e1]; exact n_chan t1
  have hM : numAt l 16 8 = b8 l 2 := by rw [e2]; exact n_mast t2
  have hQ : numAt l 24 8 = b8 l 3 := by rw [e3]; exact n_count t3
  have hF : numAt l 37 11 = b8 l 4 % 8 * 256 + b8 l 5 := by rw [e4, e5]; exact n_first t4 t5
  have z0 := b8_lt l 0
  have z1 := b8_lt l 1
  have z2 := b8_lt l 2
  have z3 := b8_lt l 3
  have z4 := b8_lt l 4
  have z5 := b8_lt l 5
  obtain ⟨C, qC⟩ : ∃ C, C = b8 l 0 % 64 * 16 + b8 l 1 / 16 := ⟨_, rfl⟩
  obtain ⟨A, qA⟩ : ∃ A, A = b8 l 1 / 2 % 8 := ⟨_, rfl⟩
  obtain ⟨M, qM⟩ : ∃ M, M = b8 l 2 := ⟨_, rfl⟩
  obtain ⟨Q, qQ⟩ : ∃ Q, Q = b8 l 3 := ⟨_, rfl⟩
  obtain ⟨F, qF⟩ : ∃ F, F = b8 l 4 % 8 * 256 + b8 l 5 := ⟨_, rfl⟩
  rw [← qC] at hC
  rw [← qA] at hA
  rw [← qM] at hM
  rw [← qQ] at hQ
  rw [← qF] at hF
  have rC : (rd l).cr = (C : Int) := by rw [qC]; rfl
  have rA : (rd l).ch = (A : Int) := by rw [qA]; rfl
  have rM : (rd l).ma = (M : Int) := by rw [qM]; rfl
  have rQ : (rd l).ct = (Q : Int) := by rw [qQ]; rfl
  have rF : (rd l).fi = (F : Int) := by rw [qF]; rfl
  have wC := from_u64 C (by omega)
  have wA := from_u64 A (by omega)
  have wM := from_u64 M (by omega)
  have wQ := from_u64 Q (by omega)
  have wF := from_u64 F (by omega)
  have hdd : (rd l).d = (l.drop 6).take m := by show (l.drop 6).take (l.length - 12) = _; rw [hln, show n - 12 = m by omega]
  have hdl : (rd l).d.length = m := by rw [rd_len (by omega), hln]; omega
  have hsub := fun W (hW : Rd W (some ⟨b, off, none⟩) l n c) => hW.sub 6 m (by omega)
  rw [← hdd] at hsub
  have hcw : (rd l).cw = Clc.deP (ctl l) := rfl
  rw [← hcw] at hzd
  have hok := rd_ok (l := l) (by omega) (by omega)
  have hen := fun W (p : Option Addr) (k : Nat) (hW : Rd W p (rd l).d m k) => rencode_any (rd l).cr (rd l).ch (rd l).ma (rd l).ct (rd l).fi p (rd l).d m k (rd l).cw.ch (rd l).cw.lk (rd l).cw.wt (rd l).cw.rt (rd l).cw.bp (rd l).cw.nx W (Lib.hid hW.len) hW.bs hW.nil (Nat.le_trans hW.le hW.max)
  have hfr : (⟨(rd l).cr, (rd l).ch, (rd l).ma, (rd l).ct, (rd l).fi, (rd l).d, ⟨(rd l).cw.ch, (rd l).cw.lk, (rd l).cw.wt, (rd l).cw.rt, (rd l).cw.bp, (rd l).cw.nx⟩⟩ : Fr) = rd l := rfl
  rw [hfr, Fr.err_yes hok] at hen
  have hel : (rd l).enc.length = n := by rw [Fr.enc_len hok, hdl]; omega
  obtain ⟨er, her⟩ : ∃ er, er = Clc.deE (ctl l) := ⟨_, rfl⟩
  rw [← her] at hzd herr
  have j2 : (er != 0) = true := by simpa using herr
  obtain ⟨EN, hEN⟩ : ∃ EN, EN = (rd l).enc := ⟨_, rfl⟩
  rw [← hEN] at hen hel
  rw [rC, rA, rM, rQ, rF] at hen
  obtain ⟨d, hdE⟩ : ∃ d, d = (rd l).d := ⟨_, rfl⟩
  obtain ⟨cw, hcE⟩ : ∃ cw, cw = (rd l).cw := ⟨_, rfl⟩
  rw [← hdE] at hen hdl hsub
  rw [← hcE] at hzd hen
  obtain ⟨wc, lk, wt, rt, wb, wn⟩ := cw
  simp only at hzd hen
  have HL := Lib.hid hdl
  have HN := Lib.hid hel
  have HH := Lib.hid (And.intro hC (And.intro hA (And.intro hM (And.intro hQ hF))))
  have HLN := Lib.hid hln
  have g0 : 13 ≤ n ∧ n ≤ 1024 := ⟨h, h2⟩
  have HG := Lib.hid g0
  have gc : (N : Int) - 4 = (E : Int) := by omega
  have gd := Clc.i64_in (x := (E : Int)) (by omega) (by omega)
  have q1 : (if c = E then (some ⟨b, off, none⟩ : Option Addr) else some ⟨b, off + E, none⟩) = some ⟨b, off + E, none⟩ := if_neg (by omega)
  have q2 : N - E = 4 := by omega
  have q3 : (E : Int) ≤ (N : Int) := by omega
  have q6 : E ≤ N := by omega
  have q9 : (if c = 6 then (some ⟨b, off, none⟩ : Option Addr) else some ⟨b, off + 6, none⟩) = some ⟨b, off + 6, none⟩ := if_neg (by omega)
  have qa : E - 6 = m := by omega
  have qb : (6 : Int) ≤ (E : Int) := by omega
  have qc : 6 ≤ E := by omega
  have qd : (E : Int) ≤ (c : Int) := by omega
  have qe : E ≤ c := by omega
  have qf : max (E : Int) 0 = (E : Int) := by omega
  have hm47 : m ≤ 1024 := by omega
  have HD := Lib.hid hD
  clear hD hsum hck hD1 hat hx hy hln hle hmx hN hN3 hE hm hX hY hSM hP1 hP2 hctl hx8 t0 e0 z0 t1 e1 z1 t2 e2 z2 t3 e3 z3 t4 e4 z4 t5 e5 z5 hC hA hM hQ hF qC qA qM qQ qF rC rA rM rQ rF hdd hdl hcw hok hfr hel hEN hdE hcE h h2 g0 herr her
  go_enter Try.func14, Try.ntmps14
  go_wp2_with fail
  rw [← hW1]
  clear hW1
  refine hs.mono ?_
  rintro e w' ⟨rfl, rfl⟩
  clear hs
  go_wp2_with fail
  refine wp_region_held_drew (S := (fun w' => w'.cell? ⟨b, off + N, none⟩ = some (.int .u8 (X : Int)) ∧ w'.cell? ⟨b, off + N3, none⟩ = some (.int .u8 (Y : Int)))) (by kernel_rfl) ⟨d1, d2⟩ (fun hHeld => ?_)
  refine wpAnyH_here 0 (v := ?_) rfl (by kernel_rfl) (by kernel_rfl) (by kernel_rfl) (fun _ _ _ h => h) (Or.inl ⟨by rfl, ?_⟩) hHeld ?_
  rotate_left
  · intro w hSw; (try dsimp only at hSw); go_simp; all_goals (with_reducible rfl)
  try simp only [Act.put, List.setIfInBounds_toArray, List.set_cons_zero, List.set_cons_succ]
  refine wpAnyH_here 1 (v := ?_) rfl (by kernel_rfl) (by kernel_rfl) (by kernel_rfl) (fun _ _ _ h => h) (Or.inl ⟨by rfl, ?_⟩) hHeld ?_
  rotate_left
  · intro w hSw; (try dsimp only at hSw); go_simp; all_goals (with_reducible rfl)
  try simp only [Act.put, List.setIfInBounds_toArray, List.set_cons_zero, List.set_cons_succ]
  refine wpAnyH_here 2 (v := ?_) rfl (by kernel_rfl) (by kernel_rfl) (by kernel_rfl) (fun _ _ _ h => h) (Or.inl ⟨by rfl, ?_⟩) hHeld ?_
  rotate_left
  · intro w hSw; (try dsimp only at hSw); go_simp; all_goals (with_reducible rfl)
  try simp only [Act.put, List.setIfInBounds_toArray, List.set_cons_zero, List.set_cons_succ]
  refine wpAnyH_here 3 (v := ?_) rfl (by kernel_rfl) (by kernel_rfl) (by kernel_rfl) (fun _ _ _ h => h) (Or.inl ⟨by rfl, ?_⟩) hHeld ?_
  rotate_left
  · intro w hSw; (try dsimp only at hSw); go_simp; all_goals (with_reducible rfl)
  try simp only [Act.put, List.setIfInBounds_toArray, List.set_cons_zero, List.set_cons_succ]
  refine wpAnyH_here 4 (v := ?_) rfl (by kernel_rfl) (by kernel_rfl) (by kernel_rfl) (fun _ _ _ h => h) (Or.inl ⟨by rfl, ?_⟩) hHeld ?_
  rotate_left
  · intro w hSw; (try dsimp only at hSw); go_simp; all_goals (with_reducible rfl)
  try simp only [Act.put, List.setIfInBounds_toArray, List.set_cons_zero, List.set_cons_succ]
  refine wpAnyH_here 5 (v := ?_) rfl (by kernel_rfl) (by kernel_rfl) (by kernel_rfl) (fun _ _ _ h => h) (Or.inl ⟨by rfl, ?_⟩) hHeld ?_
  rotate_left
  · intro w hSw; (try dsimp only at hSw); go_simp; all_goals (with_reducible rfl)
  try simp only [Act.put, List.setIfInBounds_toArray, List.set_cons_zero, List.set_cons_succ]
  refine wpAnyH_here 6 (v := ?_) rfl (by kernel_rfl) (by kernel_rfl) (by kernel_rfl) (fun _ _ _ h => h) (Or.inl ⟨by rfl, ?_⟩) hHeld ?_
  rotate_left
  · intro w hSw; (try dsimp only at hSw); go_simp; all_goals (with_reducible rfl)
  try simp only [Act.put, List.setIfInBounds_toArray, List.set_cons_zero, List.set_cons_succ]
  refine wpAnyH_here 7 (v := ?_) rfl (by kernel_rfl) (by kernel_rfl) (by kernel_rfl) (fun _ _ _ h => h) (Or.inl ⟨by rfl, ?_⟩) hHeld ?_
  rotate_left
  · intro w hSw; (try dsimp only at hSw); go_simp; all_goals (with_reducible rfl)
  try simp only [Act.put, List.setIfInBounds_toArray, List.set_cons_zero, List.set_cons_succ]
  refine wpAnyH_here 8 (v := ?_) rfl (by kernel_rfl) (by kernel_rfl) (by kernel_rfl) (fun _ _ _ h => h) (Or.inl ⟨by rfl, ?_⟩) hHeld ?_
  rotate_left
  · intro w hSw; (try dsimp only at hSw); go_simp; all_goals (with_reducible rfl)
  try simp only [Act.put, List.setIfInBounds_toArray, List.set_cons_zero, List.set_cons_succ]
  refine wpAnyH_here 9 (v := ?_) rfl (by kernel_rfl) (by kernel_rfl) (by kernel_rfl) (fun _ _ _ h => h) (Or.inl ⟨by rfl, ?_⟩) hHeld ?_
  rotate_left
  · intro w hSw; (try dsimp only at hSw); go_simp; all_goals (with_reducible rfl)
  try simp only [Act.put, List.setIfInBounds_toArray, List.set_cons_zero, List.set_cons_succ]
  refine wpAnyH_here 10 (v := ?_) rfl (by kernel_rfl) (by kernel_rfl) (by kernel_rfl) (fun _ _ _ h => h) (Or.inl ⟨by rfl, ?_⟩) hHeld ?_
  rotate_left
  · intro w hSw; (try dsimp only at hSw); go_simp; all_goals (with_reducible rfl)
  try simp only [Act.put, List.setIfInBounds_toArray, List.set_cons_zero, List.set_cons_succ]
  refine wpAnyH_here 11 (v := ?_) rfl (by kernel_rfl) (by kernel_rfl) (by kernel_rfl) (fun _ _ _ h => h) (Or.inl ⟨by rfl, ?_⟩) hHeld ?_
  rotate_left
  · intro w hSw; (try dsimp only at hSw); go_simp; all_goals (with_reducible rfl)
  try simp only [Act.put, List.setIfInBounds_toArray, List.set_cons_zero, List.set_cons_succ]
  refine wpAnyH_here 12 (v := ?_) rfl (by kernel_rfl) (by kernel_rfl) (by kernel_rfl) (fun _ _ _ h => h) (Or.inl ⟨by rfl, ?_⟩) hHeld ?_
  rotate_left
  · intro w hSw; (try dsimp only at hSw); go_simp; all_goals (with_reducible rfl)
  try simp only [Act.put, List.setIfInBounds_toArray, List.set_cons_zero, List.set_cons_succ]
  refine wpAnyH_here 13 (v := ?_) rfl (by kernel_rfl) (by kernel_rfl) (by kernel_rfl) (fun _ _ _ h => h) (Or.inl ⟨by rfl, ?_⟩) hHeld ?_
  rotate_left
  · intro w hSw; (try dsimp only at hSw); go_simp; all_goals (with_reducible rfl)
  try simp only [Act.put, List.setIfInBounds_toArray, List.set_cons_zero, List.set_cons_succ]
  refine wpAnyH_here 14 (v := ?_) rfl (by kernel_rfl) (by kernel_rfl) (by kernel_rfl) (fun _ _ _ h => h) (Or.inl ⟨by rfl, ?_⟩) hHeld ?_
  rotate_left
  · intro w hSw; (try dsimp only at hSw); go_simp; all_goals (with_reducible rfl)
  try simp only [Act.put, List.setIfInBounds_toArray, List.set_cons_zero, List.set_cons_succ]
  refine wpAnyH_here 15 (v := ?_) rfl (by kernel_rfl) (by kernel_rfl) (by kernel_rfl) (fun _ _ _ h => h) (Or.inl ⟨by rfl, ?_⟩) hHeld ?_
  rotate_left
  · intro w hSw; (try dsimp only at hSw); go_simp; all_goals (with_reducible rfl)
  try simp only [Act.put, List.setIfInBounds_toArray, List.set_cons_zero, List.set_cons_succ]
  refine wpAnyH_done (by kernel_rfl) ?_ _
  obtain ⟨w2, hw2⟩ : ∃ w2, w2 = W1.drew := ⟨_, rfl⟩
  rw [← hw2]
  have hR2 : Cel w2 w.heap.size 26 #[.int .i64 0, .int .i64 0, .int .i64 0, .int .i64 0, .int .i64 0, .slice none 0 0, .int .i64 0, .bool false, .bool false, .bool false, .int .i64 0, .int .i64 0] := by rw [hw2]; exact hR0.draws 1
  have bel2 : Below w.heap.size w w2 := by rw [hw2]; exact b0.drew
  have hlt2 := hR2.lt
  clear hw2 hR0 b0 d1 d2 o1 o2 o3 o4 o5 o6 o7 o8 o9
  have HB2 := HD.out.later bel2
  obtain ⟨W3, hW3⟩ : ∃ W3, W3 = (w2.alloc (.cells #[.slice (some ⟨b, off, none⟩) n c, .int .i64 0, .bool false] 55)).alloc (.cells #[.int .i64 0, .int .i64 0, .int .i64 0, .int .i64 0, .int .i64 0, .slice none 0 0, .int .i64 0, .bool false, .bool false, .bool false, .int .i64 0, .int .i64 0] 26) := ⟨_, rfl⟩
  have s0 : YS 26 w2.heap.size w2 w2.heap.size (w2.heap.size + 1) (some ⟨b, off, none⟩) c l 0 #[.int .i64 0, .int .i64 0, .int .i64 0, .int .i64 0, .int .i64 0, .slice none 0 0, .int .i64 0, .bool false, .bool false, .bool false, .int .i64 0, .int .i64 0] W3 := by
    rw [hW3]
    have b1 := bel_new w2 (.cells #[.slice (some ⟨b, off, none⟩) n c, .int .i64 0, .bool false] 55)
    refine ⟨⟨?_, Nat.zero_le _⟩, ?_, b1.alloc b1.size _, Nat.le_refl _, Nat.le_succ _, by omega⟩
    · rw [HLN.out]
      exact Cel.later (Cel.new _ _ _) (bel_new _ _)
    · have := Cel.new (w2.alloc (.cells #[.slice (some ⟨b, off, none⟩) n c, .int .i64 0, .bool false] 55)) 26 #[.int .i64 0, .int .i64 0, .int .i64 0, .int .i64 0, .int .i64 0, .slice none 0 0, .int .i64 0, .bool false, .bool false, .bool false, .int .i64 0, .int .i64 0]
      simpa using this
  go_wp2_with fail
  rw [← hW3]
  clear hW3
  refine (s0.skip 2 2 rfl (by have := HLN.out; have := HG.out; omega) (by have := HLN.out; have := HG.out; omega)).mono ?_
  rintro e v1 ⟨rfl, s1⟩
  clear s0
  go_wp2_with fail
  refine (s1.get HB2.bs 10 10 C rfl HH.out.1 (by have := HLN.out; have := HG.out; omega) (by decide) (by have := HLN.out; have := HG.out; omega)).mono ?_
  rintro e v2 ⟨rfl, s2⟩
  clear s1
  have fr := s2.cel.free 0
  have ce := s2.cel.cell 0
  simp at ce
  go_wp2_with fail
  clear fr ce
  refine ((s2.put 0 (.int .i64 (C : Int))).get HB2.bs 3 3 A rfl HH.out.2.1 (by have := HLN.out; have := HG.out; omega) (by decide) (by have := HLN.out; have := HG.out; omega)).mono ?_
  rintro e v3 ⟨rfl, s3⟩
  clear s2
  have fr := s3.cel.free 1
  have ce := s3.cel.cell 1
  simp at ce
  go_wp2_with fail
  clear fr ce
  refine ((s3.put 1 (.int .i64 (A : Int))).skip 1 1 rfl (by have := HLN.out; have := HG.out; omega) (by have := HLN.out; have := HG.out; omega)).mono ?_
  rintro e v4 ⟨rfl, s4⟩
  clear s3
  go_wp2_with fail
  refine (s4.get HB2.bs 8 8 M rfl HH.out.2.2.1 (by have := HLN.out; have := HG.out; omega) (by decide) (by have := HLN.out; have := HG.out; omega)).mono ?_
  rintro e v5 ⟨rfl, s5⟩
  clear s4
  have fr := s5.cel.free 2
  have ce := s5.cel.cell 2
  simp at ce
  go_wp2_with fail
  clear fr ce
  refine ((s5.put 2 (.int .i64 (M : Int))).get HB2.bs 8 8 Q rfl HH.out.2.2.2.1 (by have := HLN.out; have := HG.out; omega) (by decide) (by have := HLN.out; have := HG.out; omega)).mono ?_
  rintro e v6 ⟨rfl, s6⟩
  clear s5
  have fr := s6.cel.free 3
  have ce := s6.cel.cell 3
  simp at ce
  go_wp2_with fail
  clear fr ce
  refine ((s6.put 3 (.int .i64 (Q : Int))).skip 5 5 rfl (by have := HLN.out; have := HG.out; omega) (by have := HLN.out; have := HG.out; omega)).mono ?_
  rintro e v7 ⟨rfl, s7⟩
  clear s6
  go_wp2_with fail
  refine (s7.get HB2.bs 11 11 F rfl HH.out.2.2.2.2 (by have := HLN.out; have := HG.out; omega) (by decide) (by have := HLN.out; have := HG.out; omega)).mono ?_
  rintro e v8 ⟨rfl, s8⟩
  clear s7
  have fr := s8.cel.free 4
  have ce := s8.cel.cell 4
  simp at ce
  have s9 := s8.put 4 (.int .i64 (F : Int))
  simp only [List.setIfInBounds_toArray, List.set_cons_zero, List.set_cons_succ] at s9
  obtain ⟨W9, hW9⟩ : ∃ W9, W9 = v8.setCell ⟨w2.heap.size + 1, 4, none⟩ (.int .i64 (F : Int)) := ⟨_, rfl⟩
  rw [← hW9] at s9
  go_wp2_with fail
  rw [← hW9]
  clear hW9 fr ce s8
  have hF9 := s9.cel
  have bel9 := s9.bel
  have b9 := bel9.drew
  have hz9 := bel9.size
  have ce5 := hF9.cell 5
  simp at ce5
  clear s9
  refine wp_region_held_drew (S := fun _ => True) (by kernel_rfl) trivial (fun hHeld => ?_)
  refine wpAnyH_here 0 (v := ?_) rfl (by kernel_rfl) (by kernel_rfl) (by kernel_rfl) (fun _ _ _ h => h) (Or.inl ⟨by rfl, ?_⟩) hHeld ?_
  rotate_left
  · intro w hSw; (try dsimp only at hSw); go_simp; all_goals (with_reducible rfl)
  try simp only [Act.put, List.setIfInBounds_toArray, List.set_cons_zero, List.set_cons_succ]
  refine wpAnyH_here 2 (v := ?_) rfl (by kernel_rfl) (by kernel_rfl) (by kernel_rfl) (fun _ _ _ h => h) (Or.inl ⟨by rfl, ?_⟩) hHeld ?_
  rotate_left
  · intro w hSw; (try dsimp only at hSw); go_simp; all_goals (with_reducible rfl)
  try simp only [Act.put, List.setIfInBounds_toArray, List.set_cons_zero, List.set_cons_succ]
  refine wpAnyH_here 3 (v := ?_) rfl (by kernel_rfl) (by kernel_rfl) (by kernel_rfl) (fun _ _ _ h => h) (Or.inl ⟨by rfl, ?_⟩) hHeld ?_
  rotate_left
  · intro w hSw; (try dsimp only at hSw); go_simp; all_goals (with_reducible rfl)
  try simp only [Act.put, List.setIfInBounds_toArray, List.set_cons_zero, List.set_cons_succ]
  refine wpAnyH_here 4 (v := ?_) rfl (by kernel_rfl) (by kernel_rfl) (by kernel_rfl) (fun _ _ _ h => h) (Or.inl ⟨by rfl, ?_⟩) hHeld ?_
  rotate_left
  · intro w hSw; (try dsimp only at hSw); go_simp; all_goals (with_reducible rfl)
  try simp only [Act.put, List.setIfInBounds_toArray, List.set_cons_zero, List.set_cons_succ]
  refine wpAnyH_here 5 (v := ?_) rfl (by kernel_rfl) (by kernel_rfl) (by kernel_rfl) (fun _ _ _ h => h) (Or.inl ⟨by rfl, ?_⟩) hHeld ?_
  rotate_left
  · intro w hSw; (try dsimp only at hSw); go_simp; all_goals (with_reducible rfl)
  try simp only [Act.put, List.setIfInBounds_toArray, List.set_cons_zero, List.set_cons_succ]
  refine wpAnyH_alone 1 rfl (by kernel_rfl) (fun K hK => ?_)
  go_simp
  skip
  refine hK.out _ _ (trivial) (fun hHeld => ?_)
  clear hK K
  try simp only [Act.put, List.setIfInBounds_toArray, List.set_cons_zero, List.set_cons_succ]
  refine wpAnyH_alone 6 rfl (by kernel_rfl) (fun K' hK' => ?_)
  refine step_app _ is_bytes rfl (.tmp 65) (.tmp 69) rfl (v := .slice none 0 0) (m := []) rfl (Ow_nil _ w2.heap.size) (l := d) (A := some ⟨b, off + 6, none⟩) (c := c - 6) (by rw [HL.out]; rfl) ((hsub w2 HB2).bs.below b9) (fun h => nomatch h) (by rw [HL.out]; simp; omega) b9.size ?_
  intro v5 w5 hown5 hgr
  have bel5 := b9.grown hgr b9.size (fun k hk => nomatch hk)
  have hF5 := (hF9.draws 1).only (Only.of_grown hgr) (by simp [Value.ownBlock])
  obtain ⟨A5, c5', rfl, _⟩ := hown5.reads_len (n := m) (by simpa using HL.out)
  rw [List.nil_append] at hown5
  refine hK'.out _ _ trivial (fun hHeld => ?_)
  clear hK' K'
  try simp only [Act.put, List.setIfInBounds_toArray, List.set_cons_zero, List.set_cons_succ]
  have fr5 := hF5.free 5
  have ce5 := hF5.cell 5
  simp at ce5
  refine wpAnyH_here 7 (v := ?_) rfl (by kernel_rfl) (by kernel_rfl) (by kernel_rfl) (fun _ _ _ h => h) (Or.inl ⟨by rfl, ?_⟩) hHeld ?_
  rotate_left
  · intro w hSw; (try dsimp only at hSw); go_simp; all_goals (with_reducible rfl)
  try simp only [Act.put, List.setIfInBounds_toArray, List.set_cons_zero, List.set_cons_succ]
  refine wpAnyH_alone 8 rfl (by kernel_rfl) (fun K hK => ?_)
  go_simp
  skip
  refine hK.out _ _ (trivial) (fun hHeld => ?_)
  clear hK K
  try simp only [Act.put, List.setIfInBounds_toArray, List.set_cons_zero, List.set_cons_succ]
  refine wpAnyH_done (by kernel_rfl) ?_ _
  clear fr5 ce5
  obtain ⟨W6, hW6⟩ : ∃ W6, W6 = w5.setCell ⟨w2.heap.size + 1, 5, none⟩ (.slice A5 m c5') := ⟨_, rfl⟩
  have hO6 : Only [w2.heap.size + 1] w5 W6 := by rw [hW6]; exact set_only _ _ 5 _
  have hF6 := hF5.put 5 (.slice A5 m c5')
  simp only [List.setIfInBounds_toArray, List.set_cons_zero, List.set_cons_succ] at hF6
  rw [← hW6] at hF6
  have hown6 := hown5.only hO6 (fun i hi => by
    intro hmem
    rw [List.mem_singleton] at hmem
    exact hown5.apart hF5 (by decide) (by rw [hi, hmem]))
  have bel6 := bel5.trans (hO6.below bel5.size (by simp))
  rw [← hW6]
  clear hW6 hO6 hF5 hown5 bel5 hF9 b9 bel9
  go_wp2_with fail
  refine (hzd W6 (HB2.later bel6)).mono ?_
  rintro e w7 ⟨rfl, hb7⟩
  have hF7 := Cel.later hF6 hb7
  have hown7 := hown6.below hb7
  have bel7 := bel6.trans (hb7.mono bel6.size)
  clear hzd hF6 hown6 bel6 hb7
  obtain ⟨W8, hW8⟩ : ∃ W8, W8 = w7.alloc (.cells #[.int .i64 wc, .bool lk, .bool wt, .bool rt, .int .i64 wb, .int .i64 wn] 24) := ⟨_, rfl⟩
  have hK8 : Cel W8 w7.heap.size 24 #[.int .i64 wc, .bool lk, .bool wt, .bool rt, .int .i64 wb, .int .i64 wn] := by rw [hW8]; exact Cel.new _ _ _
  have b8' : Below w7.heap.size w7 W8 := by rw [hW8]; exact bel_new _ _
  have hF8 := Cel.later hF7 b8'
  have hown8 := hown7.below b8'
  have bel8 := bel7.trans (b8'.mono bel7.size)
  have hlt7 := hF7.lt
  go_upto_region 21 with fail
  rw [← hW8]
  clear hW8 b8' hF7 hown7 bel7
  have k0 := hK8.cell 0
  have k1 := hK8.cell 1
  have k2 := hK8.cell 2
  have k3 := hK8.cell 3
  have k4 := hK8.cell 4
  have k5 := hK8.cell 5
  simp at k0 k1 k2 k3 k4 k5
  have p6 := hF8.cell 6
  have p7 := hF8.cell 7
  have p8 := hF8.cell 8
  have p9 := hF8.cell 9
  have p10 := hF8.cell 10
  have p11 := hF8.cell 11
  simp at p6 p7 p8 p9 p10 p11
  have pf6 := hF8.free 6
  have pf7 := hF8.free 7
  have pf8 := hF8.free 8
  have pf9 := hF8.free 9
  have pf10 := hF8.free 10
  have pf11 := hF8.free 11
  obtain ⟨Wa, hWa⟩ : ∃ Wa, Wa = (((((W8.setCell ⟨w2.heap.size + 1, 6, none⟩ (.int .i64 wc)).setCell ⟨w2.heap.size + 1, 7, none⟩ (.bool lk)).setCell ⟨w2.heap.size + 1, 8, none⟩ (.bool wt)).setCell ⟨w2.heap.size + 1, 9, none⟩ (.bool rt)).setCell ⟨w2.heap.size + 1, 10, none⟩ (.int .i64 wb)).setCell ⟨w2.heap.size + 1, 11, none⟩ (.int .i64 wn) := ⟨_, rfl⟩
  have hOa : Only [w2.heap.size + 1] W8 Wa := by rw [hWa]; exact set_then (set_then (set_then (set_then (set_then (set_only _ _ 6 _) 7 _) 8 _) 9 _) 10 _) 11 _
  have hFa : Cel Wa (w2.heap.size + 1) 26 #[.int .i64 (C : Int), .int .i64 (A : Int), .int .i64 (M : Int), .int .i64 (Q : Int), .int .i64 (F : Int), .slice A5 m c5', .int .i64 wc, .bool lk, .bool wt, .bool rt, .int .i64 wb, .int .i64 wn] := by rw [hWa]; exact ((((((hF8).put 6 _).put 7 _).put 8 _).put 9 _).put 10 _).put 11 _
  have howna := hown8.only hOa (fun i hi => by
    intro hmem
    rw [List.mem_singleton] at hmem
    exact hown8.apart hF8 (by decide) (by rw [hi, hmem]))
  have bela := bel8.trans (hOa.below bel8.size (by simp))
  go_upto_region 22 with fail
  rw [← hWa]
  clear hWa hOa hF8 hown8 bel8 hK8 k0 k1 k2 k3 k4 k5 p6 pf6 p7 pf7 p8 pf8 p9 pf9 p10 pf10 p11 pf11
  have p0 := hFa.cell 0
  have p1 := hFa.cell 1
  have p2 := hFa.cell 2
  have p3 := hFa.cell 3
  have p4 := hFa.cell 4
  have p5 := hFa.cell 5
  have p6 := hFa.cell 6
  have p7 := hFa.cell 7
  have p8 := hFa.cell 8
  have p9 := hFa.cell 9
  have p10 := hFa.cell 10
  have p11 := hFa.cell 11
  simp at p0 p1 p2 p3 p4 p5 p6 p7 p8 p9 p10 p11
  have hRda : Rd Wa A5 d m c5' := by
    obtain ⟨A', c', e, r⟩ := Rd.of howna HL.out
    injection e with e1 _ e3
    subst e1 e3
    exact r
  go_wp2_with fail
  refine (hen Wa A5 c5' hRda).mono ?_
  rintro e wb' ⟨vb, rfl, hownb, hbb⟩
  obtain ⟨Ab, cb', rfl, rb⟩ := Rd.of hownb HN.out
  have hFb := Cel.later hFa hbb
  have hownd := howna.below hbb
  have belb := bela.trans (hbb.mono bela.size)
  have hRb := Cel.later hR2 belb
  have belw := bel2.trans (belb.mono bel2.size)
  have hDb := HD.out.later belw
  have sv1 := rb.conv (Below.refl _ _)
  have sv2 := hDb.conv (Below.refl _ _)
  clear hen hownb hbb hFa howna bela rb hDb hRda p0 p1 p2 p3 p4 p5 p6 p7 p8 p9 p10 p11
  have c0 := hRb.cell 0
  have c1 := hRb.cell 1
  have c2 := hRb.cell 2
  have c3 := hRb.cell 3
  have c4 := hRb.cell 4
  have c5 := hRb.cell 5
  have c6 := hRb.cell 6
  have c7 := hRb.cell 7
  have c8 := hRb.cell 8
  have c9 := hRb.cell 9
  have c10 := hRb.cell 10
  have c11 := hRb.cell 11
  simp at c0 c1 c2 c3 c4 c5 c6 c7 c8 c9 c10 c11
  have f0 := hRb.free 0
  have f1 := hRb.free 1
  have f2 := hRb.free 2
  have f3 := hRb.free 3
  have f4 := hRb.free 4
  have f5 := hRb.free 5
  have f6 := hRb.free 6
  have f7 := hRb.free 7
  have f8 := hRb.free 8
  have f9 := hRb.free 9
  have f10 := hRb.free 10
  have f11 := hRb.free 11
  clear hFb hownd
  go_wp2
  exact bodyPost_ret (rde_results rfl rfl (put12_cel hRb (.int .i64 0) (.int .i64 0) (.int .i64 0) (.int .i64 0) (.int .i64 0) (.slice none 0 0) (.int .i64 0) (.bool false) (.bool false) (.bool false) (.int .i64 0) (.int .i64 0))) rfl ⟨rfl, put12_below belw (Nat.le_refl _) _ _ _ _ _ _ _ _ _ _ _ _⟩

end Go.Proofs.Ytmkmojhhfbokdaa.Tmf

/-
  The walk of the reference of layer 18: Decode, bytes whose header is wrong.
-/
namespace Go.Proofs.Ytmkmojhhfbokdaa.Tmf
open Go.RowKit Go.Proofs.Ytmkmojhhfbokdaa.Pac
open Clc (Cw)

set_option maxHeartbeats 4000000 in
theorem rdecode_form (a : Option Addr) (l : List Byte) (n c : Nat) (w : World) (hD : Rd w a l n c) (h : 13 ≤ n) (h2 : n ≤ 1024) (hck : ck16 l = true) (hhf : hf l = false) (herr : Clc.deE (ctl l) = 0) :
    Calls Try.prog 14 #[.slice a n c] w fun e w' => e = .returned (.tuple #[.agg #[.int .i64 0, .int .i64 0, .int .i64 0, .int .i64 0, .int .i64 0, .slice none 0 0, .int .i64 0, .bool false, .bool false, .bool false, .int .i64 0, .int .i64 0], .int .i64 4]) ∧ Below w.heap.size w w' := by
  have b0 := bel_new w (.cells #[.int .i64 0, .int .i64 0, .int .i64 0, .int .i64 0, .int .i64 0, .slice none 0 0, .int .i64 0, .bool false, .bool false, .bool false, .int .i64 0, .int .i64 0] 26)
  have hR0 := Cel.new w 26 #[.int .i64 0, .int .i64 0, .int .i64 0, .int .i64 0, .int .i64 0, .slice none 0 0, .int .i64 0, .bool false, .bool false, .bool false, .int .i64 0, .int .i64 0]
  have g1 : decide ((n : Int) < 13) = false := by simp; omega
  have g2 : decide (n < 13) = false := by simp; omega
  have g3 : decide ((1024 : Int) < (n : Int)) = false := by simp; omega
  have g4 : decide (1024 < n) = false := by simp; omega
  have hln := hD.len
  have hle := hD.le
  have hmx := hD.max
  obtain ⟨b, off, rfl⟩ : ∃ b off, a = some ⟨b, off, none⟩ := by obtain ⟨b, off, h, _⟩ := hD.at_ (by omega); exact ⟨b, off, h⟩
  obtain ⟨m, hm⟩ : ∃ m, n = m + 12 := ⟨n - 12, by omega⟩
  obtain ⟨E, hE⟩ : ∃ E, E = m + 6 := ⟨_, rfl⟩
  obtain ⟨N, hN⟩ : ∃ N, N = m + 10 := ⟨_, rfl⟩
  obtain ⟨N3, hN3⟩ : ∃ N3, N3 = N + 1 := ⟨_, rfl⟩
  obtain ⟨x, hx⟩ : ∃ x, l[N]? = some x := ⟨l[N]'(by omega), List.getElem?_eq_getElem (by omega)⟩
  obtain ⟨y, hy⟩ : ∃ y, l[N3]? = some y := ⟨l[N3]'(by omega), List.getElem?_eq_getElem (by omega)⟩
  have hsum := ck_sum (l := l) (N := N) (x := x) (y := y) (by omega) hx (by rw [← hN3]; exact hy)
  rw [hck] at hsum
  obtain ⟨W1, hW1⟩ : ∃ W1, W1 = w.alloc (.cells #[.int .i64 0, .int .i64 0, .int .i64 0, .int .i64 0, .int .i64 0, .slice none 0 0, .int .i64 0, .bool false, .bool false, .bool false, .int .i64 0, .int .i64 0] 26) := ⟨_, rfl⟩
  rw [← hW1] at b0 hR0
  have hD1 := hD.later b0
  have hat : ∀ i z, l[i]? = some z → W1.cell? ⟨b, off + i, none⟩ = some (B8 z) := by
    obtain ⟨b', off', he, _, hc⟩ := hD1.at_ (by omega)
    injection he with he
    injection he with he1 he2
    subst he1 he2
    exact hc
  have d1 : W1.cell? ⟨b, off + N, none⟩ = some (.int .u8 (x.toNat : Int)) := hat N x hx
  have d2 : W1.cell? ⟨b, off + N3, none⟩ = some (.int .u8 (y.toNat : Int)) := hat N3 y hy
  have hs := rsum16_len (some ⟨b, off, none⟩) (l.take N) N c W1.heap.size W1 (by rw [List.length_take]; omega) (hD1.head N (by omega)).bs (by omega)
  have hrl := (up16 0xffff#16 (l.take N)).isLt
  obtain ⟨SM, hSM⟩ : ∃ SM, SM = (up16 0xffff#16 (l.take N)).toNat := ⟨_, rfl⟩
  obtain ⟨X, hX⟩ : ∃ X, X = x.toNat := ⟨_, rfl⟩
  obtain ⟨Y, hY⟩ : ∃ Y, Y = y.toNat := ⟨_, rfl⟩
  have hXl := x.isLt
  have hYl := y.isLt
  rw [← hX] at d1 hsum hXl
  rw [← hY] at d2 hsum hYl
  rw [← hSM] at hs hsum hrl
  obtain ⟨P1, hP1⟩ : ∃ P1, P1 = 256 * X := ⟨_, rfl⟩
  obtain ⟨P2, hP2⟩ : ∃ P2, P2 = P1 + Y := ⟨_, rfl⟩
  have o1 := Clc.i64_in (x := (SM : Int)) (by omega) (by omega)
  have o2 := Clc.i64_in (x := (X : Int)) (by omega) (by omega)
  have o3 := Clc.i64_in (x := (Y : Int)) (by omega) (by omega)
  have o4 : (256 : Int) * (X : Int) = (P1 : Int) := by omega
  have o5 := Clc.i64_in (x := (P1 : Int)) (by omega) (by omega)
  have o6 : (P1 : Int) + (Y : Int) = (P2 : Int) := by omega
  have o7 := Clc.i64_in (x := (P2 : Int)) (by omega) (by omega)
  have o8 : (N : Int) + 1 = (N3 : Int) := by omega
  have o9 := Clc.i64_in (x := (N3 : Int)) (by omega) (by omega)
  have j1 : ((SM : Int) != (P2 : Int)) = false := by
    have := of_decide_eq_true hsum.symm
    simp; omega
  have g5 : (n : Int) - 2 = (N : Int) := by omega
  have g6 : (N : Int) < (n : Int) := by omega
  have g7 : (N3 : Int) < (n : Int) := by omega
  have g8 : N < n := by omega
  have g9 : N3 < n := by omega
  have ga : (N : Int) ≤ (c : Int) := by omega
  have gb : N ≤ c := by omega
  have hctl : ctl l = (l.drop E).take 4 := by unfold ctl; rw [hln, show n - 6 = E by omega]
  have hzd := fun W (hW : Rd W (some ⟨b, off, none⟩) l n c) => Clc.zdecode_any (some ⟨b, off + E, none⟩) (ctl l) 4 (c - E) W (by rw [hctl]; exact hW.sub E 4 (by omega))
  have hx8 : ∀ k, k < 6 → ∃ x, l[k]? = some x ∧ b8 l k = x.toNat := fun k hk => ⟨l[k]'(by omega), List.getElem?_eq_getElem (by omega), b8_at (List.getElem?_eq_getElem (by omega))⟩
  obtain ⟨x0, t0, e0⟩ := hx8 0 (by decide)
  obtain ⟨x1, t1, e1⟩ := hx8 1 (by decide)
  obtain ⟨x2, t2, e2⟩ := hx8 2 (by decide)
  obtain ⟨x3, t3, e3⟩ := hx8 3 (by decide)
  obtain ⟨x4, t4, e4⟩ := hx8 4 (by decide)
  obtain ⟨x5, t5, e5⟩ := hx8 5 (by decide)
  have hC : numAt l 2 10 = b8 l 0 % 64 * 16 + b8 l 1 / 16 := by rw [e0, e1]; exact n_craft t0 t1
  have hA : numAt l 12 3 = b8 l 1 / 2 % 8 := by rw [e1]; exact n_chan t1
  have hM : numAt l 16 8 = b8 l 2 := by rw [e2]; exact n_mast t2
  have hQ : numAt l 24 8 = b8 l 3 := by rw [e3]; exact n_count t3
  have hF : numAt l 37 11 = b8 l 4 % 8 * 256 + b8 l 5 := by rw [e4, e5]; exact n_first t4 t5
  have z0 := b8_lt l 0
  have z1 := b8_lt l 1
  have z2 := b8_lt l 2
  have z3 := b8_lt l 3
  have z4 := b8_lt l 4
  have z5 := b8_lt l 5
  obtain ⟨C, qC⟩ : ∃ C, C = b8 l 0 % 64 * 16 + b8 l 1 / 16 := ⟨_, rfl⟩
  obtain ⟨A, qA⟩ : ∃ A, A = b8 l 1 / 2 % 8 := ⟨_, rfl⟩
  obtain ⟨M, qM⟩ : ∃ M, M = b8 l 2 := ⟨_, rfl⟩
  obtain ⟨Q, qQ⟩ : ∃ Q, Q = b8 l 3 := ⟨_, rfl⟩
  obtain ⟨F, qF⟩ : ∃ F, F = b8 l 4 % 8 * 256 + b8 l 5 := ⟨_, rfl⟩
  rw [← qC] at hC
  rw [← qA] at hA
  rw [← qM] at hM
  rw [← qQ] at hQ
  rw [← qF] at hF
  have rC : (rd l).cr = (C : Int) := by rw [qC]; rfl
  have rA : (rd l).ch = (A : Int) := by rw [qA]; rfl
  have rM : (rd l).ma = (M : Int) := by rw [qM]; rfl
  have rQ : (rd l).ct = (Q : Int) := by rw [qQ]; rfl
  have rF : (rd l).fi = (F : Int) := by rw [qF]; rfl
  have wC := from_u64 C (by omega)
  have wA := from_u64 A (by omega)
  have wM := from_u64 M (by omega)
  have wQ := from_u64 Q (by omega)
  have wF := from_u64 F (by omega)
  have hdd : (rd l).d = (l.drop 6).take m := by show (l.drop 6).take (l.length - 12) = _; rw [hln, show n - 12 = m by omega]
  have hdl : (rd l).d.length = m := by rw [rd_len (by omega), hln]; omega
  have hsub := fun W (hW : Rd W (some ⟨b, off, none⟩) l n c) => hW.sub 6 m (by omega)
  rw [← hdd] at hsub
  have hcw : (rd l).cw = Clc.deP (ctl l) := rfl
  rw [← hcw] at hzd
  have hok := rd_ok (l := l) (by omega) (by omega)
  have hen := fun W (p : Option Addr) (k : Nat) (hW : Rd W p (rd l).d m k) => rencode_any (rd l).cr (rd l).ch (rd l).ma (rd l).ct (rd l).fi p (rd l).d m k (rd l).cw.ch (rd l).cw.lk (rd l).cw.wt (rd l).cw.rt (rd l).cw.bp (rd l).cw.nx W (Lib.hid hW.len) hW.bs hW.nil (Nat.le_trans hW.le hW.max)
  have hfr : (⟨(rd l).cr, (rd l).ch, (rd l).ma, (rd l).ct, (rd l).fi, (rd l).d, ⟨(rd l).cw.ch, (rd l).cw.lk, (rd l).cw.wt, (rd l).cw.rt, (rd l).cw.bp, (rd l).cw.nx⟩⟩ : Fr) = rd l := rfl
  rw [hfr, Fr.err_yes hok] at hen
  have hel : (rd l).enc.length = n := by rw [Fr.enc_len hok, hdl]; omega
  rw [herr] at hzd
  have hne : (rd l).enc ≠ l := fun e => by
    have := (enc_rd (l := l) (by omega) (by omega) hck herr).1 e
    rw [hhf] at this
    cases this
  obtain ⟨EN, hEN⟩ : ∃ EN, EN = (rd l).enc := ⟨_, rfl⟩
  rw [← hEN] at hen hel hne
  have y3 := str_beq EN l
  rw [decide_eq_false hne] at y3
  have y4 : ((str EN).toList != (str l).toList) = true := by unfold bne; rw [y3]; rfl
  rw [rC, rA, rM, rQ, rF] at hen
  obtain ⟨d, hdE⟩ : ∃ d, d = (rd l).d := ⟨_, rfl⟩
  obtain ⟨cw, hcE⟩ : ∃ cw, cw = (rd l).cw := ⟨_, rfl⟩
  rw [← hdE] at hen hdl hsub
  rw [← hcE] at hzd hen
  obtain ⟨wc, lk, wt, rt, wb, wn⟩ := cw
  simp only at hzd hen
  have HL := Lib.hid hdl
  have HN := Lib.hid hel
  have HH := Lib.hid (And.intro hC (And.intro hA (And.intro hM (And.intro hQ hF))))
  have HLN := Lib.hid hln
  have g0 : 13 ≤ n ∧ n ≤ 1024 := ⟨h, h2⟩
  have HG := Lib.hid g0
  have gc : (N : Int) - 4 = (E : Int) := by omega
  have gd := Clc.i64_in (x := (E : Int)) (by omega) (by omega)
  have q1 : (if c = E then (some ⟨b, off, none⟩ : Option Addr) else some ⟨b, off + E, none⟩) = some ⟨b, off + E, none⟩ := if_neg (by omega)
  have q2 : N - E = 4 := by omega
  have q3 : (E : Int) ≤ (N : Int) := by omega
  have q6 : E ≤ N := by omega
  have q9 : (if c = 6 then (some ⟨b, off, none⟩ : Option Addr) else some ⟨b, off + 6, none⟩) = some ⟨b, off + 6, none⟩ := if_neg (by omega)
  have qa : E - 6 = m := by omega
  have qb : (6 : Int) ≤ (E : Int) := by omega
  have qc : 6 ≤ E := by omega
  have qd : (E : Int) ≤ (c : Int) := by omega
  have qe : E ≤ c := by omega
  have qf : max (E : Int) 0 = (E : Int) := by omega
  have hm47 : m ≤ 1024 := by omega
  have HD := Lib.hid hD
  clear hD hsum hck hD1 hat hx hy hln hle hmx hN hN3 hE hm hX hY hSM hP1 hP2 hctl hx8 t0 e0 z0 t1 e1 z1 t2 e2 z2 t3 e3 z3 t4 e4 z4 t5 e5 z5 hC hA hM hQ hF qC qA qM qQ qF rC rA rM rQ rF hdd hdl hcw hok hfr hel hEN hdE hcE h h2 g0 herr hne hhf
  go_enter Try.func14, Try.ntmps14
  go_wp2_with fail
  rw [← hW1]
  clear hW1
  refine hs.mono ?_
  rintro e w' ⟨rfl, rfl⟩
  clear hs
  go_wp2_with fail
  refine wp_region_held_drew (S := (fun w' => w'.cell? ⟨b, off + N, none⟩ = some (.int .u8 (X : Int)) ∧ w'.cell? ⟨b, off + N3, none⟩ = some (.int .u8 (Y : Int)))) (by kernel_rfl) ⟨d1, d2⟩ (fun hHeld => ?_)
  refine wpAnyH_here 0 (v := ?_) rfl (by kernel_rfl) (by kernel_rfl) (by kernel_rfl) (fun _ _ _ h => h) (Or.inl ⟨by rfl, ?_⟩) hHeld ?_
  rotate_left
  · intro w hSw; (try dsimp only at hSw); go_simp; all_goals (with_reducible rfl)
  try simp only [Act.put, List.setIfInBounds_toArray, List.set_cons_zero, List.set_cons_succ]
  refine wpAnyH_here 1 (v := ?_) rfl (by kernel_rfl) (by kernel_rfl) (by kernel_rfl) (fun _ _ _ h => h) (Or.inl ⟨by rfl, ?_⟩) hHeld ?_
  rotate_left
  · intro w hSw; (try dsimp only at hSw); go_simp; all_goals (with_reducible rfl)
  try simp only [Act.put, List.setIfInBounds_toArray, List.set_cons_zero, List.set_cons_succ]
  refine wpAnyH_here 2 (v := ?_) rfl (by kernel_rfl) (by kernel_rfl) (by kernel_rfl) (fun _ _ _ h => h) (Or.inl ⟨by rfl, ?_⟩) hHeld ?_
  rotate_left
  · intro w hSw; (try dsimp only at hSw); go_simp; all_goals (with_reducible rfl)
  try simp only [Act.put, List.setIfInBounds_toArray, List.set_cons_zero, List.set_cons_succ]
  refine wpAnyH_here 3 (v := ?_) rfl (by kernel_rfl) (by kernel_rfl) (by kernel_rfl) (fun _ _ _ h => h) (Or.inl ⟨by rfl, ?_⟩) hHeld ?_
  rotate_left
  · intro w hSw; (try dsimp only at hSw); go_simp; all_goals (with_reducible rfl)
  try simp only [Act.put, List.setIfInBounds_toArray, List.set_cons_zero, List.set_cons_succ]
  refine wpAnyH_here 4 (v := ?_) rfl (by kernel_rfl) (by kernel_rfl) (by kernel_rfl) (fun _ _ _ h => h) (Or.inl ⟨by rfl, ?_⟩) hHeld ?_
  rotate_left
  · intro w hSw; (try dsimp only at hSw); go_simp; all_goals (with_reducible rfl)
  try simp only [Act.put, List.setIfInBounds_toArray, List.set_cons_zero, List.set_cons_succ]
  refine wpAnyH_here 5 (v := ?_) rfl (by kernel_rfl) (by kernel_rfl) (by kernel_rfl) (fun _ _ _ h => h) (Or.inl ⟨by rfl, ?_⟩) hHeld ?_
  rotate_left
  · intro w hSw; (try dsimp only at hSw); go_simp; all_goals (with_reducible rfl)
  try simp only [Act.put, List.setIfInBounds_toArray, List.set_cons_zero, List.set_cons_succ]
  refine wpAnyH_here 6 (v := ?_) rfl (by kernel_rfl) (by kernel_rfl) (by kernel_rfl) (fun _ _ _ h => h) (Or.inl ⟨by rfl, ?_⟩) hHeld ?_
  rotate_left
  · intro w hSw; (try dsimp only at hSw); go_simp; all_goals (with_reducible rfl)
  try simp only [Act.put, List.setIfInBounds_toArray, List.set_cons_zero, List.set_cons_succ]
  refine wpAnyH_here 7 (v := ?_) rfl (by kernel_rfl) (by kernel_rfl) (by kernel_rfl) (fun _ _ _ h => h) (Or.inl ⟨by rfl, ?_⟩) hHeld ?_
  rotate_left
  · intro w hSw; (try dsimp only at hSw); go_simp; all_goals (with_reducible rfl)
  try simp only [Act.put, List.setIfInBounds_toArray, List.set_cons_zero, List.set_cons_succ]
  refine wpAnyH_here 8 (v := ?_) rfl (by kernel_rfl) (by kernel_rfl) (by kernel_rfl) (fun _ _ _ h => h) (Or.inl ⟨by rfl, ?_⟩) hHeld ?_
  rotate_left
  · intro w hSw; (try dsimp only at hSw); go_simp; all_goals (with_reducible rfl)
  try simp only [Act.put, List.setIfInBounds_toArray, List.set_cons_zero, List.set_cons_succ]
  refine wpAnyH_here 9 (v := ?_) rfl (by kernel_rfl) (by kernel_rfl) (by kernel_rfl) (fun _ _ _ h => h) (Or.inl ⟨by rfl, ?_⟩) hHeld ?_
  rotate_left
  · intro w hSw; (try dsimp only at hSw); go_simp; all_goals (with_reducible rfl)
  try simp only [Act.put, List.setIfInBounds_toArray, List.set_cons_zero, List.set_cons_succ]
  refine wpAnyH_here 10 (v := ?_) rfl (by kernel_rfl) (by kernel_rfl) (by kernel_rfl) (fun _ _ _ h => h) (Or.inl ⟨by rfl, ?_⟩) hHeld ?_
  rotate_left
  · intro w hSw; (try dsimp only at hSw); go_simp; all_goals (with_reducible rfl)
  try simp only [Act.put, List.setIfInBounds_toArray, List.set_cons_zero, List.set_cons_succ]
  refine wpAnyH_here 11 (v := ?_) rfl (by kernel_rfl) (by kernel_rfl) (by kernel_rfl) (fun _ _ _ h => h) (Or.inl ⟨by rfl, ?_⟩) hHeld ?_
  rotate_left
  · intro w hSw; (try dsimp only at hSw); go_simp; all_goals (with_reducible rfl)
  try simp only [Act.put, List.setIfInBounds_toArray, List.set_cons_zero, List.set_cons_succ]
  refine wpAnyH_here 12 (v := ?_) rfl (by kernel_rfl) (by kernel_rfl) (by kernel_rfl) (fun _ _ _ h => h) (Or.inl ⟨by rfl, ?_⟩) hHeld ?_
  rotate_left
  · intro w hSw; (try dsimp only at hSw); go_simp; all_goals (with_reducible rfl)
  try simp only [Act.put, List.setIfInBounds_toArray, List.set_cons_zero, List.set_cons_succ]
  refine wpAnyH_here 13 (v := ?_) rfl (by kernel_rfl) (by kernel_rfl) (by kernel_rfl) (fun _ _ _ h => h) (Or.inl ⟨by rfl, ?_⟩) hHeld ?_
  rotate_left
  · intro w hSw; (try dsimp only at hSw); go_simp; all_goals (with_reducible rfl)
  try simp only [Act.put, List.setIfInBounds_toArray, List.set_cons_zero, List.set_cons_succ]
  refine wpAnyH_here 14 (v := ?_) rfl (by kernel_rfl) (by kernel_rfl) (by kernel_rfl) (fun _ _ _ h => h) (Or.inl ⟨by rfl, ?_⟩) hHeld ?_
  rotate_left
  · intro w hSw; (try dsimp only at hSw); go_simp; all_goals (with_reducible rfl)
  try simp only [Act.put, List.setIfInBounds_toArray, List.set_cons_zero, List.set_cons_succ]
  refine wpAnyH_here 15 (v := ?_) rfl (by kernel_rfl) (by kernel_rfl) (by kernel_rfl) (fun _ _ _ h => h) (Or.inl ⟨by rfl, ?_⟩) hHeld ?_
  rotate_left
  · intro w hSw; (try dsimp only at hSw); go_simp; all_goals (with_reducible rfl)
  try simp only [Act.put, List.setIfInBounds_toArray, List.set_cons_zero, List.set_cons_succ]
  refine wpAnyH_done (by kernel_rfl) ?_ _
  obtain ⟨w2, hw2⟩ : ∃ w2, w2 = W1.drew := ⟨_, rfl⟩
  rw [← hw2]
  have hR2 : Cel w2 w.heap.size 26 #[.int .i64 0, .int .i64 0, .int .i64 0, .int .i64 0, .int .i64 0, .slice none 0 0, .int .i64 0, .bool false, .bool false, .bool false, .int .i64 0, .int .i64 0] := by rw [hw2]; exact hR0.draws 1
  have bel2 : Below w.heap.size w w2 := by rw [hw2]; exact b0.drew
  have hlt2 := hR2.lt
  clear hw2 hR0 b0 d1 d2 o1 o2 o3 o4 o5 o6 o7 o8 o9
  have HB2 := HD.out.later bel2
  obtain ⟨W3, hW3⟩ : ∃ W3, W3 = (w2.alloc (.cells #[.slice (some ⟨b, off, none⟩) n c, .int .i64 0, .bool false] 55)).alloc (.cells #[.int .i64 0, .int .i64 0, .int .i64 0, .int .i64 0, .int .i64 0, .slice none 0 0, .int .i64 0, .bool false, .bool false, .bool false, .int .i64 0, .int .i64 0] 26) := ⟨_, rfl⟩
  have s0 : YS 26 w2.heap.size w2 w2.heap.size (w2.heap.size + 1) (some ⟨b, off, none⟩) c l 0 #[.int .i64 0, .int .i64 0, .int .i64 0, .int .i64 0, .int .i64 0, .slice none 0 0, .int .i64 0, .bool false, .bool false, .bool false, .int .i64 0, .int .i64 0] W3 := by
    rw [hW3]
    have b1 := bel_new w2 (.cells #[.slice (some ⟨b, off, none⟩) n c, .int .i64 0, .bool false] 55)
    refine ⟨⟨?_, Nat.zero_le _⟩, ?_, b1.alloc b1.size _, Nat.le_refl _, Nat.le_succ _, by omega⟩
    · rw [HLN.out]
      exact Cel.later (Cel.new _ _ _) (bel_new _ _)
    · have := Cel.new (w2.alloc (.cells #[.slice (some ⟨b, off, none⟩) n c, .int .i64 0, .bool false] 55)) 26 #[.int .i64 0, .int .i64 0, .int .i64 0, .int .i64 0, .int .i64 0, .slice none 0 0, .int .i64 0, .bool false, .bool false, .bool false, .int .i64 0, .int .i64 0]
      simpa using this
  go_wp2_with fail
  rw [← hW3]
  clear hW3
  refine (s0.skip 2 2 rfl (by have := HLN.out; have := HG.out; omega) (by have := HLN.out; have := HG.out; omega)).mono ?_
  rintro e v1 ⟨rfl, s1⟩
  clear s0
  go_wp2_with fail
  refine (s1.get HB2.bs 10 10 C rfl HH.out.1 (by have := HLN.out; have := HG.out; omega) (by decide) (by have := HLN.out; have := HG.out; omega)).mono ?_
  rintro e v2 ⟨rfl, s2⟩
  clear s1
  have fr := s2.cel.free 0
  have ce := s2.cel.cell 0
  simp at ce
  go_wp2_with fail
  clear fr ce
  refine ((s2.put 0 (.int .i64 (C : Int))).get HB2.bs 3 3 A rfl HH.out.2.1 (by have := HLN.out; have := HG.out; omega) (by decide) (by have := HLN.out; have := HG.out; omega)).mono ?_
  rintro e v3 ⟨rfl, s3⟩
  clear s2
  have fr := s3.cel.free 1
  have ce := s3.cel.cell 1
  simp at ce
  go_wp2_with fail
  clear fr ce
  refine ((s3.put 1 (.int .i64 (A : Int))).skip 1 1 rfl (by have := HLN.out; have := HG.out; omega) (by have := HLN.out; have := HG.out; omega)).mono ?_
  rintro e v4 ⟨rfl, s4⟩
  clear s3
  go_wp2_with fail
  refine (s4.get HB2.bs 8 8 M rfl HH.out.2.2.1 (by have := HLN.out; have := HG.out; omega) (by decide) (by have := HLN.out; have := HG.out; omega)).mono ?_
  rintro e v5 ⟨rfl, s5⟩
  clear s4
  have fr := s5.cel.free 2
  have ce := s5.cel.cell 2
  simp at ce
  go_wp2_with fail
  clear fr ce
  refine ((s5.put 2 (.int .i64 (M : Int))).get HB2.bs 8 8 Q rfl HH.out.2.2.2.1 (by have := HLN.out; have := HG.out; omega) (by decide) (by have := HLN.out; have := HG.out; omega)).mono ?_
  rintro e v6 ⟨rfl, s6⟩
  clear s5
  have fr := s6.cel.free 3
  have ce := s6.cel.cell 3
  simp at ce
  go_wp2_with fail
  clear fr ce
  refine ((s6.put 3 (.int .i64 (Q : Int))).skip 5 5 rfl (by have := HLN.out; have := HG.out; omega) (by have := HLN.out; have := HG.out; omega)).mono ?_
  rintro e v7 ⟨rfl, s7⟩
  clear s6
  go_wp2_with fail
  refine (s7.get HB2.bs 11 11 F rfl HH.out.2.2.2.2 (by have := HLN.out; have := HG.out; omega) (by decide) (by have := HLN.out; have := HG.out; omega)).mono ?_
  rintro e v8 ⟨rfl, s8⟩
  clear s7
  have fr := s8.cel.free 4
  have ce := s8.cel.cell 4
  simp at ce
  have s9 := s8.put 4 (.int .i64 (F : Int))
  simp only [List.setIfInBounds_toArray, List.set_cons_zero, List.set_cons_succ] at s9
  obtain ⟨W9, hW9⟩ : ∃ W9, W9 = v8.setCell ⟨w2.heap.size + 1, 4, none⟩ (.int .i64 (F : Int)) := ⟨_, rfl⟩
  rw [← hW9] at s9
  go_wp2_with fail
  rw [← hW9]
  clear hW9 fr ce s8
  have hF9 := s9.cel
  have bel9 := s9.bel
  have b9 := bel9.drew
  have hz9 := bel9.size
  have ce5 := hF9.cell 5
  simp at ce5
  clear s9
  refine wp_region_held_drew (S := fun _ => True) (by kernel_rfl) trivial (fun hHeld => ?_)
  refine wpAnyH_here 0 (v := ?_) rfl (by kernel_rfl) (by kernel_rfl) (by kernel_rfl) (fun _ _ _ h => h) (Or.inl ⟨by rfl, ?_⟩) hHeld ?_
  rotate_left
  · intro w hSw; (try dsimp only at hSw); go_simp; all_goals (with_reducible rfl)
  try simp only [Act.put, List.setIfInBounds_toArray, List.set_cons_zero, List.set_cons_succ]
  refine wpAnyH_here 2 (v := ?_) rfl (by kernel_rfl) (by kernel_rfl) (by kernel_rfl) (fun _ _ _ h => h) (Or.inl ⟨by rfl, ?_⟩) hHeld ?_
  rotate_left
  · intro w hSw; (try dsimp only at hSw); go_simp; all_goals (with_reducible rfl)
  try simp only [Act.put, List.setIfInBounds_toArray, List.set_cons_zero, List.set_cons_succ]
  refine wpAnyH_here 3 (v := ?_) rfl (by kernel_rfl) (by kernel_rfl) (by kernel_rfl) (fun _ _ _ h => h) (Or.inl ⟨by rfl, ?_⟩) hHeld ?_
  rotate_left
  · intro w hSw; (try dsimp only at hSw); go_simp; all_goals (with_reducible rfl)
  try simp only [Act.put, List.setIfInBounds_toArray, List.set_cons_zero, List.set_cons_succ]
  refine wpAnyH_here 4 (v := ?_) rfl (by kernel_rfl) (by kernel_rfl) (by kernel_rfl) (fun _ _ _ h => h) (Or.inl ⟨by rfl, ?_⟩) hHeld ?_
  rotate_left
  · intro w hSw; (try dsimp only at hSw); go_simp; all_goals (with_reducible rfl)
  try simp only [Act.put, List.setIfInBounds_toArray, List.set_cons_zero, List.set_cons_succ]
  refine wpAnyH_here 5 (v := ?_) rfl (by kernel_rfl) (by kernel_rfl) (by kernel_rfl) (fun _ _ _ h => h) (Or.inl ⟨by rfl, ?_⟩) hHeld ?_
  rotate_left
  · intro w hSw; (try dsimp only at hSw); go_simp; all_goals (with_reducible rfl)
  try simp only [Act.put, List.setIfInBounds_toArray, List.set_cons_zero, List.set_cons_succ]
  refine wpAnyH_alone 1 rfl (by kernel_rfl) (fun K hK => ?_)
  go_simp
  skip
  refine hK.out _ _ (trivial) (fun hHeld => ?_)
  clear hK K
  try simp only [Act.put, List.setIfInBounds_toArray, List.set_cons_zero, List.set_cons_succ]
  refine wpAnyH_alone 6 rfl (by kernel_rfl) (fun K' hK' => ?_)
  refine step_app _ is_bytes rfl (.tmp 65) (.tmp 69) rfl (v := .slice none 0 0) (m := []) rfl (Ow_nil _ w2.heap.size) (l := d) (A := some ⟨b, off + 6, none⟩) (c := c - 6) (by rw [HL.out]; rfl) ((hsub w2 HB2).bs.below b9) (fun h => nomatch h) (by rw [HL.out]; simp; omega) b9.size ?_
  intro v5 w5 hown5 hgr
  have bel5 := b9.grown hgr b9.size (fun k hk => nomatch hk)
  have hF5 := (hF9.draws 1).only (Only.of_grown hgr) (by simp [Value.ownBlock])
  obtain ⟨A5, c5', rfl, _⟩ := hown5.reads_len (n := m) (by simpa using HL.out)
  rw [List.nil_append] at hown5
  refine hK'.out _ _ trivial (fun hHeld => ?_)
  clear hK' K'
  try simp only [Act.put, List.setIfInBounds_toArray, List.set_cons_zero, List.set_cons_succ]
  have fr5 := hF5.free 5
  have ce5 := hF5.cell 5
  simp at ce5
  refine wpAnyH_here 7 (v := ?_) rfl (by kernel_rfl) (by kernel_rfl) (by kernel_rfl) (fun _ _ _ h => h) (Or.inl ⟨by rfl, ?_⟩) hHeld ?_
  rotate_left
  · intro w hSw; (try dsimp only at hSw); go_simp; all_goals (with_reducible rfl)
  try simp only [Act.put, List.setIfInBounds_toArray, List.set_cons_zero, List.set_cons_succ]
  refine wpAnyH_alone 8 rfl (by kernel_rfl) (fun K hK => ?_)
  go_simp
  skip
  refine hK.out _ _ (trivial) (fun hHeld => ?_)
  clear hK K
  try simp only [Act.put, List.setIfInBounds_toArray, List.set_cons_zero, List.set_cons_succ]
  refine wpAnyH_done (by kernel_rfl) ?_ _
  clear fr5 ce5
  obtain ⟨W6, hW6⟩ : ∃ W6, W6 = w5.setCell ⟨w2.heap.size + 1, 5, none⟩ (.slice A5 m c5') := ⟨_, rfl⟩
  have hO6 : Only [w2.heap.size + 1] w5 W6 := by rw [hW6]; exact set_only _ _ 5 _
  have hF6 := hF5.put 5 (.slice A5 m c5')
  simp only [List.setIfInBounds_toArray, List.set_cons_zero, List.set_cons_succ] at hF6
  rw [← hW6] at hF6
  have hown6 := hown5.only hO6 (fun i hi => by
    intro hmem
    rw [List.mem_singleton] at hmem
    exact hown5.apart hF5 (by decide) (by rw [hi, hmem]))
  have bel6 := bel5.trans (hO6.below bel5.size (by simp))
  rw [← hW6]
  clear hW6 hO6 hF5 hown5 bel5 hF9 b9 bel9
  go_wp2_with fail
  refine (hzd W6 (HB2.later bel6)).mono ?_
  rintro e w7 ⟨rfl, hb7⟩
  have hF7 := Cel.later hF6 hb7
  have hown7 := hown6.below hb7
  have bel7 := bel6.trans (hb7.mono bel6.size)
  clear hzd hF6 hown6 bel6 hb7
  obtain ⟨W8, hW8⟩ : ∃ W8, W8 = w7.alloc (.cells #[.int .i64 wc, .bool lk, .bool wt, .bool rt, .int .i64 wb, .int .i64 wn] 24) := ⟨_, rfl⟩
  have hK8 : Cel W8 w7.heap.size 24 #[.int .i64 wc, .bool lk, .bool wt, .bool rt, .int .i64 wb, .int .i64 wn] := by rw [hW8]; exact Cel.new _ _ _
  have b8' : Below w7.heap.size w7 W8 := by rw [hW8]; exact bel_new _ _
  have hF8 := Cel.later hF7 b8'
  have hown8 := hown7.below b8'
  have bel8 := bel7.trans (b8'.mono bel7.size)
  have hlt7 := hF7.lt
  go_upto_region 21 with fail
  rw [← hW8]
  clear hW8 b8' hF7 hown7 bel7
  have k0 := hK8.cell 0
  have k1 := hK8.cell 1
  have k2 := hK8.cell 2
  have k3 := hK8.cell 3
  have k4 := hK8.cell 4
  have k5 := hK8.cell 5
  simp at k0 k1 k2 k3 k4 k5
  have p6 := hF8.cell 6
  have p7 := hF8.cell 7
  have p8 := hF8.cell 8
  have p9 := hF8.cell 9
  have p10 := hF8.cell 10
  have p11 := hF8.cell 11
  simp at p6 p7 p8 p9 p10 p11
  have pf6 := hF8.free 6
  have pf7 := hF8.free 7
  have pf8 := hF8.free 8
  have pf9 := hF8.free 9
  have pf10 := hF8.free 10
  have pf11 := hF8.free 11
  obtain ⟨Wa, hWa⟩ : ∃ Wa, Wa = (((((W8.setCell ⟨w2.heap.size + 1, 6, none⟩ (.int .i64 wc)).setCell ⟨w2.heap.size + 1, 7, none⟩ (.bool lk)).setCell ⟨w2.heap.size + 1, 8, none⟩ (.bool wt)).setCell ⟨w2.heap.size + 1, 9, none⟩ (.bool rt)).setCell ⟨w2.heap.size + 1, 10, none⟩ (.int .i64 wb)).setCell ⟨w2.heap.size + 1, 11, none⟩ (.int .i64 wn) := ⟨_, rfl⟩
  have hOa : Only [w2.heap.size + 1] W8 Wa := by rw [hWa]; exact set_then (set_then (set_then (set_then (set_then (set_only _ _ 6 _) 7 _) 8 _) 9 _) 10 _) 11 _
  have hFa : Cel Wa (w2.heap.size + 1) 26 #[.int .i64 (C : Int), .int .i64 (A : Int), .int .i64 (M : Int), .int .i64 (Q : Int), .int .i64 (F : Int), .slice A5 m c5', .int .i64 wc, .bool lk, .bool wt, .bool rt, .int .i64 wb, .int .i64 wn] := by rw [hWa]; exact ((((((hF8).put 6 _).put 7 _).put 8 _).put 9 _).put 10 _).put 11 _
  have howna := hown8.only hOa (fun i hi => by
    intro hmem
    rw [List.mem_singleton] at hmem
    exact hown8.apart hF8 (by decide) (by rw [hi, hmem]))
  have bela := bel8.trans (hOa.below bel8.size (by simp))
  go_upto_region 22 with fail
  rw [← hWa]
  clear hWa hOa hF8 hown8 bel8 hK8 k0 k1 k2 k3 k4 k5 p6 pf6 p7 pf7 p8 pf8 p9 pf9 p10 pf10 p11 pf11
  have p0 := hFa.cell 0
  have p1 := hFa.cell 1
  have p2 := hFa.cell 2
  have p3 := hFa.cell 3
  have p4 := hFa.cell 4
  have p5 := hFa.cell 5
  have p6 := hFa.cell 6
  have p7 := hFa.cell 7
  have p8 := hFa.cell 8
  have p9 := hFa.cell 9
  have p10 := hFa.cell 10
  have p11 := hFa.cell 11
  simp at p0 p1 p2 p3 p4 p5 p6 p7 p8 p9 p10 p11
  have hRda : Rd Wa A5 d m c5' := by
    obtain ⟨A', c', e, r⟩ := Rd.of howna HL.out
    injection e with e1 _ e3
    subst e1 e3
    exact r
  go_wp2_with fail
  refine (hen Wa A5 c5' hRda).mono ?_
  rintro e wb' ⟨vb, rfl, hownb, hbb⟩
  obtain ⟨Ab, cb', rfl, rb⟩ := Rd.of hownb HN.out
  have hFb := Cel.later hFa hbb
  have hownd := howna.below hbb
  have belb := bela.trans (hbb.mono bela.size)
  have hRb := Cel.later hR2 belb
  have belw := bel2.trans (belb.mono bel2.size)
  have hDb := HD.out.later belw
  have sv1 := rb.conv (Below.refl _ _)
  have sv2 := hDb.conv (Below.refl _ _)
  clear hen hownb hbb hFa howna bela rb hDb hRda p0 p1 p2 p3 p4 p5 p6 p7 p8 p9 p10 p11
  have c0 := hRb.cell 0
  have c1 := hRb.cell 1
  have c2 := hRb.cell 2
  have c3 := hRb.cell 3
  have c4 := hRb.cell 4
  have c5 := hRb.cell 5
  have c6 := hRb.cell 6
  have c7 := hRb.cell 7
  have c8 := hRb.cell 8
  have c9 := hRb.cell 9
  have c10 := hRb.cell 10
  have c11 := hRb.cell 11
  simp at c0 c1 c2 c3 c4 c5 c6 c7 c8 c9 c10 c11
  have f0 := hRb.free 0
  have f1 := hRb.free 1
  have f2 := hRb.free 2
  have f3 := hRb.free 3
  have f4 := hRb.free 4
  have f5 := hRb.free 5
  have f6 := hRb.free 6
  have f7 := hRb.free 7
  have f8 := hRb.free 8
  have f9 := hRb.free 9
  have f10 := hRb.free 10
  have f11 := hRb.free 11
  clear hFb hownd
  go_wp2
  exact bodyPost_ret (rde_results rfl rfl (put12_cel hRb (.int .i64 0) (.int .i64 0) (.int .i64 0) (.int .i64 0) (.int .i64 0) (.slice none 0 0) (.int .i64 0) (.bool false) (.bool false) (.bool false) (.int .i64 0) (.int .i64 0))) rfl ⟨rfl, put12_below belw (Nat.le_refl _) _ _ _ _ _ _ _ _ _ _ _ _⟩

end Go.Proofs.Ytmkmojhhfbokdaa.Tmf

/-
  The walk of the reference of layer 18: Decode, bytes that are an encoding.
-/
namespace Go.Proofs.Ytmkmojhhfbokdaa.Tmf
open Go.RowKit Go.Proofs.Ytmkmojhhfbokdaa.Pac
open Clc (Cw)

set_option maxHeartbeats 4000000 in
theorem rdecode_good (a : Option Addr) (l : List Byte) (n c : Nat) (w : World) (hD : Rd w a l n c) (h : 13 ≤ n) (h2 : n ≤ 1024) (hck : ck16 l = true) (hhf : hf l = true) (herr : Clc.deE (ctl l) = 0) :
    Calls Try.prog 14 #[.slice a n c] w fun e w' => ∃ v, e = .returned (.tuple #[.agg #[.int .i64 (rd l).cr, .int .i64 (rd l).ch, .int .i64 (rd l).ma, .int .i64 (rd l).ct, .int .i64 (rd l).fi, v, .int .i64 (rd l).cw.ch, .bool (rd l).cw.lk, .bool (rd l).cw.wt, .bool (rd l).cw.rt, .int .i64 (rd l).cw.bp, .int .i64 (rd l).cw.nx], .int .i64 0]) ∧ Ow w' w.heap.size 5 v (rd l).d ∧ Below w.heap.size w w' := by
  have b0 := bel_new w (.cells #[.int .i64 0, .int .i64 0, .int .i64 0, .int .i64 0, .int .i64 0, .slice none 0 0, .int .i64 0, .bool false, .bool false, .bool false, .int .i64 0, .int .i64 0] 26)
  have hR0 := Cel.new w 26 #[.int .i64 0, .int .i64 0, .int .i64 0, .int .i64 0, .int .i64 0, .slice none 0 0, .int .i64 0, .bool false, .bool false, .bool false, .int .i64 0, .int .i64 0]
  have g1 : decide ((n : Int) < 13) = false := by simp; omega
  have g2 : decide (n < 13) = false := by simp; omega
  have g3 : decide ((1024 : Int) < (n : Int)) = false := by simp; omega
  have g4 : decide (1024 < n) = false := by simp; omega
  have hln := hD.len
  have hle := hD.le
  have hmx := hD.max
  obtain ⟨b, off, rfl⟩ : ∃ b off, a = some ⟨b, off, none⟩ := by obtain ⟨b, off, h, _⟩ := hD.at_ (by omega); exact ⟨b, off, h⟩
  obtain ⟨m, hm⟩ : ∃ m, n = m + 12 := ⟨n - 12, by omega⟩
  obtain ⟨E, hE⟩ : ∃ E, E = m + 6 := ⟨_, rfl⟩
  obtain ⟨N, hN⟩ : ∃ N, N = m + 10 := ⟨_, rfl⟩
  obtain ⟨N3, hN3⟩ : ∃ N3, N3 = N + 1 := ⟨_, rfl⟩
  obtain ⟨x, hx⟩ : ∃ x, l[N]? = some x := ⟨l[N]'(by omega), List.getElem?_eq_getElem (by omega)⟩
  obtain ⟨y, hy⟩ : ∃ y, l[N3]? = some y := ⟨l[N3]'(by omega), List.getElem?_eq_getElem (by omega)⟩
  have hsum := ck_sum (l := l) (N := N) (x := x) (y := y) (by omega) hx (by rw [← hN3]; exact hy)
  rw [hck] at hsum
  obtain ⟨W1, hW1⟩ : ∃ W1, W1 = w.alloc (.cells #[.int .i64 0, .int .i64 0, .int .i64 0, .int .i64 0, .int .i64 0, .slice none 0 0, .int .i64 0, .bool false, .bool false, .bool false, .int .i64 0, .int .i64 0] 26) := ⟨_, rfl⟩
  rw [← hW1] at b0 hR0
  have hD1 := hD.later b0
  have hat : ∀ i z, l[i]? = some z → W1.cell? ⟨b, off + i, none⟩ = some (B8 z) := by
    obtain ⟨b', off', he, _, hc⟩ := hD1.at_ (by omega)
    injection he with he
    injection he with he1 he2
    subst he1 he2
    exact hc
  have d1 : W1.cell? ⟨b, off + N, none⟩ = some (.int .u8 (x.toNat : Int)) := hat N x hx
  have d2 : W1.cell? ⟨b, off + N3, none⟩ = some (.int .u8 (y.toNat : Int)) := hat N3 y hy
  have hs := rsum16_len (some ⟨b, off, none⟩) (l.take N) N c W1.heap.size W1 (by rw [List.length_take]; omega) (hD1.head N (by omega)).bs (by omega)
  have hrl := (up16 0xffff#16 (l.take N)).isLt
  obtain ⟨SM, hSM⟩ : ∃ SM, SM = (up16 0xffff#16 (l.take N)).toNat := ⟨_, rfl⟩
  obtain ⟨X, hX⟩ : ∃ X, X = x.toNat := ⟨_, rfl⟩
  obtain ⟨Y, hY⟩ : ∃ Y, Y = y.toNat := ⟨_, rfl⟩
  have hXl := x.isLt
  have hYl := y.isLt
  rw [← hX] at d1 hsum hXl
  rw [← hY] at d2 hsum hYl
  rw [← hSM] at hs hsum hrl
  obtain ⟨P1, hP1⟩ : ∃ P1, P1 = 256 * X := ⟨_, rfl⟩
  obtain ⟨P2, hP2⟩ : ∃ P2, P2 = P1 + Y := ⟨_, rfl⟩
  have o1 := Clc.i64_in (x := (SM : Int)) (by omega) (by omega)
  have o2 := Clc.i64_in (x := (X : Int)) (by omega) (by omega)
  have o3 := Clc.i64_in (x := (Y : Int)) (by omega) (by omega)
  have o4 : (256 : Int) * (X : Int) = (P1 : Int) := by omega
  have o5 := Clc.i64_in (x := (P1 : Int)) (by omega) (by omega)
  have o6 : (P1 : Int) + (Y : Int) = (P2 : Int) := by omega
  have o7 := Clc.i64_in (x := (P2 : Int)) (by omega) (by omega)
  have o8 : (N : Int) + 1 = (N3 : Int) := by omega
  have o9 := Clc.i64_in (x := (N3 : Int)) (by omega) (by omega)
  have j1 : ((SM : Int) != (P2 : Int)) = false := by
    have := of_decide_eq_true hsum.symm
    simp; omega
  have g5 : (n : Int) - 2 = (N : Int) := by omega
  have g6 : (N : Int) < (n : Int) := by omega
  have g7 : (N3 : Int) < (n : Int) := by omega
  have g8 : N < n := by omega
  have g9 : N3 < n := by omega
  have ga : (N : Int) ≤ (c : Int) := by omega
  have gb : N ≤ c := by omega
  have hctl : ctl l = (l.drop E).take 4 := by unfold ctl; rw [hln, show n - 6 = E by omega]
  have hzd := fun W (hW : Rd W (some ⟨b, off, none⟩) l n c) => Clc.zdecode_any (some ⟨b, off + E, none⟩) (ctl l) 4 (c - E) W (by rw [hctl]; exact hW.sub E 4 (by omega))
  have hx8 : ∀ k, k < 6 → ∃ x, l[k]? = some x ∧ b8 l k = x.toNat := fun k hk => ⟨l[k]'(by omega), List.getElem?_eq_getElem (by omega), b8_at (List.getElem?_eq_getElem (by omega))⟩
  obtain ⟨x0, t0, e0⟩ := hx8 0 (by decide)
  obtain ⟨x1, t1, e1⟩ := hx8 1 (by decide)
  obtain ⟨x2, t2, e2⟩ := hx8 2 (by decide)
  obtain ⟨x3, t3, e3⟩ := hx8 3 (by decide)
  obtain ⟨x4, t4, e4⟩ := hx8 4 (by decide)
  obtain ⟨x5, t5, e5⟩ := hx8 5 (by decide)
  have hC : numAt l 2 10 = b8 l 0 % 64 * 16 + b8 l 1 / 16 := by rw [e0, e1]; exact n_craft t0 t1
  have hA : numAt l 12 3 = b8 l 1 / 2 % 8 := by rw [e1]; exact n_chan t1
  have hM : numAt l 16 8 = b8 l 2 := by rw [e2]; exact n_mast t2
  have hQ : numAt l 24 8 = b8 l 3 := by rw [e3]; exact n_count t3
  have hF : numAt l 37 11 = b8 l 4 % 8 * 256 + b8 l 5 := by rw [e4, e5]; exact n_first t4 t5
  have z0 := b8_lt l 0
  have z1 := b8_lt l 1
  have z2 := b8_lt l 2
  have z3 := b8_lt l 3
  have z4 := b8_lt l 4
  have z5 := b8_lt l 5
  obtain ⟨C, qC⟩ : ∃ C, C = b8 l 0 % 64 * 16 + b8 l 1 / 16 := ⟨_, rfl⟩
  obtain ⟨A, qA⟩ : ∃ A, A = b8 l 1 / 2 % 8 := ⟨_, rfl⟩
  obtain ⟨M, qM⟩ : ∃ M, M = b8 l 2 := ⟨_, rfl⟩
  obtain ⟨Q, qQ⟩ : ∃ Q, Q = b8 l 3 := ⟨_, rfl⟩
  obtain ⟨F, qF⟩ : ∃ F, F = b8 l 4 % 8 * 256 + b8 l 5 := ⟨_, rfl⟩
  rw [← qC] at hC
  rw [← qA] at hA
  rw [← qM] at hM
  rw [← qQ] at hQ
  rw [← qF] at hF
  have rC : (rd l).cr = (C : Int) := by rw [qC]; rfl
  have rA : (rd l).ch = (A : Int) := by rw [qA]; rfl
  have rM : (rd l).ma = (M : Int) := by rw [qM]; rfl
  have rQ : (rd l).ct = (Q : Int) := by rw [qQ]; rfl
  have rF : (rd l).fi = (F : Int) := by rw [qF]; rfl
  have wC := from_u64 C (by omega)
  have wA := from_u64 A (by omega)
  have wM := from_u64 M (by omega)
  have wQ := from_u64 Q (by omega)
  have wF := from_u64 F (by omega)
  have hdd : (rd l).d = (l.drop 6).take m := by show (l.drop 6).take (l.length - 12) = _; rw [hln, show n - 12 = m by omega]
  have hdl : (rd l).d.length = m := by rw [rd_len (by omega), hln]; omega
  have hsub := fun W (hW : Rd W (some ⟨b, off, none⟩) l n c) => hW.sub 6 m (by omega)
  rw [← hdd] at hsub
  have hcw : (rd l).cw = Clc.deP (ctl l) := rfl
  rw [← hcw] at hzd
  have hok := rd_ok (l := l) (by omega) (by omega)
  have hen := fun W (p : Option Addr) (k : Nat) (hW : Rd W p (rd l).d m k) => rencode_any (rd l).cr (rd l).ch (rd l).ma (rd l).ct (rd l).fi p (rd l).d m k (rd l).cw.ch (rd l).cw.lk (rd l).cw.wt (rd l).cw.rt (rd l).cw.bp (rd l).cw.nx W (Lib.hid hW.len) hW.bs hW.nil (Nat.le_trans hW.le hW.max)
  have hfr : (⟨(rd l).cr, (rd l).ch, (rd l).ma, (rd l).ct, (rd l).fi, (rd l).d, ⟨(rd l).cw.ch, (rd l).cw.lk, (rd l).cw.wt, (rd l).cw.rt, (rd l).cw.bp, (rd l).cw.nx⟩⟩ : Fr) = rd l := rfl
  rw [hfr, Fr.err_yes hok] at hen
  have hel : (rd l).enc.length = n := by rw [Fr.enc_len hok, hdl]; omega
  rw [herr] at hzd
  have hne : (rd l).enc = l := (enc_rd (l := l) (by omega) (by omega) hck herr).2 hhf
  obtain ⟨EN, hEN⟩ : ∃ EN, EN = (rd l).enc := ⟨_, rfl⟩
  rw [← hEN] at hen hel hne
  have y3 : ((str EN).toList == (str l).toList) = true := by rw [hne]; simp
  have y4 : ((str EN).toList != (str l).toList) = false := by unfold bne; rw [y3]; rfl
  rw [rC, rA, rM, rQ, rF] at hen ⊢
  obtain ⟨d, hdE⟩ : ∃ d, d = (rd l).d := ⟨_, rfl⟩
  obtain ⟨cw, hcE⟩ : ∃ cw, cw = (rd l).cw := ⟨_, rfl⟩
  rw [← hdE] at hen hdl hsub ⊢
  rw [← hcE] at hzd hen ⊢
  obtain ⟨wc, lk, wt, rt, wb, wn⟩ := cw
  simp only at hzd hen ⊢
  have HL := Lib.hid hdl
  have HN := Lib.hid hel
  have HH := Lib.hid (And.intro hC (And.intro hA (And.intro hM (And.intro hQ hF))))
  have HLN := Lib.hid hln
  have g0 : 13 ≤ n ∧ n ≤ 1024 := ⟨h, h2⟩
  have HG := Lib.hid g0
  have gc : (N : Int) - 4 = (E : Int) := by omega
  have gd := Clc.i64_in (x := (E : Int)) (by omega) (by omega)
  have q1 : (if c = E then (some ⟨b, off, none⟩ : Option Addr) else some ⟨b, off + E, none⟩) = some ⟨b, off + E, none⟩ := if_neg (by omega)
  have q2 : N - E = 4 := by omega
  have q3 : (E : Int) ≤ (N : Int) := by omega
  have q6 : E ≤ N := by omega
  have q9 : (if c = 6 then (some ⟨b, off, none⟩ : Option Addr) else some ⟨b, off + 6, none⟩) = some ⟨b, off + 6, none⟩ := if_neg (by omega)
  have qa : E - 6 = m := by omega
  have qb : (6 : Int) ≤ (E : Int) := by omega
  have qc : 6 ≤ E := by omega
  have qd : (E : Int) ≤ (c : Int) := by omega
  have qe : E ≤ c := by omega
  have qf : max (E : Int) 0 = (E : Int) := by omega
  have hm47 : m ≤ 1024 := by omega
  have HD := Lib.hid hD
  clear hD hsum hck hD1 hat hx hy hln hle hmx hN hN3 hE hm hX hY hSM hP1 hP2 hctl hx8 t0 e0 z0 t1 e1 z1 t2 e2 z2 t3 e3 z3 t4 e4 z4 t5 e5 z5 hC hA hM hQ hF qC qA qM qQ qF rC rA rM rQ rF hdd hdl hcw hok hfr hel hEN hdE hcE h h2 g0 herr hne hhf
  go_enter Try.func14, Try.ntmps14
  go_wp2_with fail
  rw [← hW1]
  clear hW1
  refine hs.mono ?_
  rintro e w' ⟨rfl, rfl⟩
  clear hs
  go_wp2_with fail
  refine wp_region_held_drew (S := (fun w' => w'.cell? ⟨b, off + N, none⟩ = some (.int .u8 (X : Int)) ∧ w'.cell? ⟨b, off + N3, none⟩ = some (.int .u8 (Y : Int)))) (by kernel_rfl) ⟨d1, d2⟩ (fun hHeld => ?_)
  refine wpAnyH_here 0 (v := ?_) rfl (by kernel_rfl) (by kernel_rfl) (by kernel_rfl) (fun _ _ _ h => h) (Or.inl ⟨by rfl, ?_⟩) hHeld ?_
  rotate_left
  · intro w hSw; (try dsimp only at hSw); go_simp; all_goals (with_reducible rfl)
  try simp only [Act.put, List.setIfInBounds_toArray, List.set_cons_zero, List.set_cons_succ]
  refine wpAnyH_here 1 (v := ?_) rfl (by kernel_rfl) (by kernel_rfl) (by kernel_rfl) (fun _ _ _ h => h) (Or.inl ⟨by rfl, ?_⟩) hHeld ?_
  rotate_left
  · intro w hSw; (try dsimp only at hSw); go_simp; all_goals (with_reducible rfl)
  try simp only [Act.put, List.setIfInBounds_toArray, List.set_cons_zero, List.set_cons_succ]
  refine wpAnyH_here 2 (v := ?_) rfl (by kernel_rfl) (by kernel_rfl) (by kernel_rfl) (fun _ _ _ h => h) (Or.inl ⟨by rfl, ?_⟩) hHeld ?_
  rotate_left
  · intro w hSw; (try dsimp only at hSw); go_simp; all_goals (with_reducible rfl)
  try simp only [Act.put, List.setIfInBounds_toArray, List.set_cons_zero, List.set_cons_succ]
  refine wpAnyH_here 3 (v := ?_) rfl (by kernel_rfl) (by kernel_rfl) (by kernel_rfl) (fun _ _ _ h => h) (Or.inl ⟨by rfl, ?_⟩) hHeld ?_
  rotate_left
  · intro w hSw; (try dsimp only at hSw); go_simp; all_goals (with_reducible rfl)
  try simp only [Act.put, List.setIfInBounds_toArray, List.set_cons_zero, List.set_cons_succ]
  refine wpAnyH_here 4 (v := ?_) rfl (by kernel_rfl) (by kernel_rfl) (by kernel_rfl) (fun _ _ _ h => h) (Or.inl ⟨by rfl, ?_⟩) hHeld ?_
  rotate_left
  · intro w hSw; (try dsimp only at hSw); go_simp; all_goals (with_reducible rfl)
  try simp only [Act.put, List.setIfInBounds_toArray, List.set_cons_zero, List.set_cons_succ]
  refine wpAnyH_here 5 (v := ?_) rfl (by kernel_rfl) (by kernel_rfl) (by kernel_rfl) (fun _ _ _ h => h) (Or.inl ⟨by rfl, ?_⟩) hHeld ?_
  rotate_left
  · intro w hSw; (try dsimp only at hSw); go_simp; all_goals (with_reducible rfl)
  try simp only [Act.put, List.setIfInBounds_toArray, List.set_cons_zero, List.set_cons_succ]
  refine wpAnyH_here 6 (v := ?_) rfl (by kernel_rfl) (by kernel_rfl) (by kernel_rfl) (fun _ _ _ h => h) (Or.inl ⟨by rfl, ?_⟩) hHeld ?_
  rotate_left
  · intro w hSw; (try dsimp only at hSw); go_simp; all_goals (with_reducible rfl)
  try simp only [Act.put, List.setIfInBounds_toArray, List.set_cons_zero, List.set_cons_succ]
  refine wpAnyH_here 7 (v := ?_) rfl (by kernel_rfl) (by kernel_rfl) (by kernel_rfl) (fun _ _ _ h => h) (Or.inl ⟨by rfl, ?_⟩) hHeld ?_
  rotate_left
  · intro w hSw; (try dsimp only at hSw); go_simp; all_goals (with_reducible rfl)
  try simp only [Act.put, List.setIfInBounds_toArray, List.set_cons_zero, List.set_cons_succ]
  refine wpAnyH_here 8 (v := ?_) rfl (by kernel_rfl) (by kernel_rfl) (by kernel_rfl) (fun _ _ _ h => h) (Or.inl ⟨by rfl, ?_⟩) hHeld ?_
  rotate_left
  · intro w hSw; (try dsimp only at hSw); go_simp; all_goals (with_reducible rfl)
  try simp only [Act.put, List.setIfInBounds_toArray, List.set_cons_zero, List.set_cons_succ]
  refine wpAnyH_here 9 (v := ?_) rfl (by kernel_rfl) (by kernel_rfl) (by kernel_rfl) (fun _ _ _ h => h) (Or.inl ⟨by rfl, ?_⟩) hHeld ?_
  rotate_left
  · intro w hSw; (try dsimp only at hSw); go_simp; all_goals (with_reducible rfl)
  try simp only [Act.put, List.setIfInBounds_toArray, List.set_cons_zero, List.set_cons_succ]
  refine wpAnyH_here 10 (v := ?_) rfl (by kernel_rfl) (by kernel_rfl) (by kernel_rfl) (fun _ _ _ h => h) (Or.inl ⟨by rfl, ?_⟩) hHeld ?_
  rotate_left
  · intro w hSw; (try dsimp only at hSw); go_simp; all_goals (with_reducible rfl)
  try simp only [Act.put, List.setIfInBounds_toArray, List.set_cons_zero, List.set_cons_succ]
  refine wpAnyH_here 11 (v := ?_) rfl (by kernel_rfl) (by kernel_rfl) (by kernel_rfl) (fun _ _ _ h => h) (Or.inl ⟨by rfl, ?_⟩) hHeld ?_
  rotate_left
  · intro w hSw; (try dsimp only at hSw); go_simp; all_goals (with_reducible rfl)
  try simp only [Act.put, List.setIfInBounds_toArray, List.set_cons_zero, List.set_cons_succ]
  refine wpAnyH_here 12 (v := ?_) rfl (by kernel_rfl) (by kernel_rfl) (by kernel_rfl) (fun _ _ _ h => h) (Or.inl ⟨by rfl, ?_⟩) hHeld ?_
  rotate_left
  · intro w hSw; (try dsimp only at hSw); go_simp; all_goals (with_reducible rfl)
  try simp only [Act.put, List.setIfInBounds_toArray, List.set_cons_zero, List.set_cons_succ]
  refine wpAnyH_here 13 (v := ?_) rfl (by kernel_rfl) (by kernel_rfl) (by kernel_rfl) (fun _ _ _ h => h) (Or.inl ⟨by rfl, ?_⟩) hHeld ?_
  rotate_left
  · intro w hSw; (try dsimp only at hSw); go_simp; all_goals (with_reducible rfl)
  try simp only [Act.put, List.setIfInBounds_toArray, List.set_cons_zero, List.set_cons_succ]
  refine wpAnyH_here 14 (v := ?_) rfl (by kernel_rfl) (by kernel_rfl) (by kernel_rfl) (fun _ _ _ h => h) (Or.inl ⟨by rfl, ?_⟩) hHeld ?_
  rotate_left
  · intro w hSw; (try dsimp only at hSw); go_simp; all_goals (with_reducible rfl)
  try simp only [Act.put, List.setIfInBounds_toArray, List.set_cons_zero, List.set_cons_succ]
  refine wpAnyH_here 15 (v := ?_) rfl (by kernel_rfl) (by kernel_rfl) (by kernel_rfl) (fun _ _ _ h => h) (Or.inl ⟨by rfl, ?_⟩) hHeld ?_
  rotate_left
  · intro w hSw; (try dsimp only at hSw); go_simp; all_goals (with_reducible rfl)
  try simp only [Act.put, List.setIfInBounds_toArray, List.set_cons_zero, List.set_cons_succ]
  refine wpAnyH_done (by kernel_rfl) ?_ _
  obtain ⟨w2, hw2⟩ : ∃ w2, w2 = W1.drew := ⟨_, rfl⟩
  rw [← hw2]
  have hR2 : Cel w2 w.heap.size 26 #[.int .i64 0, .int .i64 0, .int .i64 0, .int .i64 0, .int .i64 0, .slice none 0 0, .int .i64 0, .bool false, .bool false, .bool false, .int .i64 0, .int .i64 0] := by rw [hw2]; exact hR0.draws 1
  have bel2 : Below w.heap.size w w2 := by rw [hw2]; exact b0.drew
  have hlt2 := hR2.lt
  clear hw2 hR0 b0 d1 d2 o1 o2 o3 o4 o5 o6 o7 o8 o9
  have HB2 := HD.out.later bel2
  obtain ⟨W3, hW3⟩ : ∃ W3, W3 = (w2.alloc (.cells #[.slice (some ⟨b, off, none⟩) n c, .int .i64 0, .bool false] 55)).alloc (.cells #[.int .i64 0, .int .i64 0, .int .i64 0, .int .i64 0, .int .i64 0, .slice none 0 0, .int .i64 0, .bool false, .bool false, .bool false, .int .i64 0, .int .i64 0] 26) := ⟨_, rfl⟩
  have s0 : YS 26 w2.heap.size w2 w2.heap.size (w2.heap.size + 1) (some ⟨b, off, none⟩) c l 0 #[.int .i64 0, .int .i64 0, .int .i64 0, .int .i64 0, .int .i64 0, .slice none 0 0, .int .i64 0, .bool false, .bool false, .bool false, .int .i64 0, .int .i64 0] W3 := by
    rw [hW3]
    have b1 := bel_new w2 (.cells #[.slice (some ⟨b, off, none⟩) n c, .int .i64 0, .bool false] 55)
    refine ⟨⟨?_, Nat.zero_le _⟩, ?_, b1.alloc b1.size _, Nat.le_refl _, Nat.le_succ _, by omega⟩
    · rw [HLN.out]
      exact Cel.later (Cel.new _ _ _) (bel_new _ _)
    · have := Cel.new (w2.alloc (.cells #[.slice (some ⟨b, off, none⟩) n c, .int .i64 0, .bool false] 55)) 26 #[.int .i64 0, .int .i64 0, .int .i64 0, .int .i64 0, .int .i64 0, .slice none 0 0, .int .i64 0, .bool false, .bool false, .bool false, .int .i64 0, .int .i64 0]
      simpa using this
  go_wp2_with fail
  rw [← hW3]
  clear hW3
  refine (s0.skip 2 2 rfl (by have := HLN.out; have := HG.out; omega) (by have := HLN.out; have := HG.out; omega)).mono ?_
  rintro e v1 ⟨rfl, s1⟩
  clear s0
  go_wp2_with fail
  refine (s1.get HB2.bs 10 10 C rfl HH.out.1 (by have := HLN.out; have := HG.out; omega) (by decide) (by have := HLN.out; have := HG.out; omega)).mono ?_
  rintro e v2 ⟨rfl, s2⟩
  clear s1
  have fr := s2.cel.free 0
  have ce := s2.cel.cell 0
  simp at ce
  go_wp2_with fail
  clear fr ce
  refine ((s2.put 0 (.int .i64 (C : Int))).get HB2.bs 3 3 A rfl HH.out.2.1 (by have := HLN.out; have := HG.out; omega) (by decide) (by have := HLN.out; have := HG.out; omega)).mono ?_
  rintro e v3 ⟨rfl, s3⟩
  clear s2
  have fr := s3.cel.free 1
  have ce := s3.cel.cell 1
  simp at ce
  go_wp2_with fail
  clear fr ce
  refine ((s3.put 1 (.int .i64 (A : Int))).skip 1 1 rfl (by have := HLN.out; have := HG.out; omega) (by have := HLN.out; have := HG.out; omega)).mono ?_
  rintro e v4 ⟨rfl, s4⟩
  clear s3
  go_wp2_with fail
  refine (s4.get HB2.bs 8 8 M rfl HH.out.2.2.1 (by have := HLN.out; have := HG.out; omega) (by decide) (by have := HLN.out; have := HG.out; omega)).mono ?_
  rintro e v5 ⟨rfl, s5⟩
  clear s4
  have fr := s5.cel.free 2
  have ce := s5.cel.cell 2
  simp at ce
  go_wp2_with fail
  clear fr ce
  refine ((s5.put 2 (.int .i64 (M : Int))).get HB2.bs 8 8 Q rfl HH.out.2.2.2.1 (by have := HLN.out; have := HG.out; omega) (by decide) (by have := HLN.out; have := HG.out; omega)).mono ?_
  rintro e v6 ⟨rfl, s6⟩
  clear s5
  have fr := s6.cel.free 3
  have ce := s6.cel.cell 3
  simp at ce
  go_wp2_with fail
  clear fr ce
  refine ((s6.put 3 (.int .i64 (Q : Int))).skip 5 5 rfl (by have := HLN.out; have := HG.out; omega) (by have := HLN.out; have := HG.out; omega)).mono ?_
  rintro e v7 ⟨rfl, s7⟩
  clear s6
  go_wp2_with fail
  refine (s7.get HB2.bs 11 11 F rfl HH.out.2.2.2.2 (by have := HLN.out; have := HG.out; omega) (by decide) (by have := HLN.out; have := HG.out; omega)).mono ?_
  rintro e v8 ⟨rfl, s8⟩
  clear s7
  have fr := s8.cel.free 4
  have ce := s8.cel.cell 4
  simp at ce
  have s9 := s8.put 4 (.int .i64 (F : Int))
  simp only [List.setIfInBounds_toArray, List.set_cons_zero, List.set_cons_succ] at s9
  obtain ⟨W9, hW9⟩ : ∃ W9, W9 = v8.setCell ⟨w2.heap.size + 1, 4, none⟩ (.int .i64 (F : Int)) := ⟨_, rfl⟩
  rw [← hW9] at s9
  go_wp2_with fail
  rw [← hW9]
  clear hW9 fr ce s8
  have hF9 := s9.cel
  have bel9 := s9.bel
  have b9 := bel9.drew
  have hz9 := bel9.size
  have ce5 := hF9.cell 5
  simp at ce5
  clear s9
  refine wp_region_held_drew (S := fun _ => True) (by kernel_rfl) trivial (fun hHeld => ?_)
  refine wpAnyH_here 0 (v := ?_) rfl (by kernel_rfl) (by kernel_rfl) (by kernel_rfl) (fun _ _ _ h => h) (Or.inl ⟨by rfl, ?_⟩) hHeld ?_
  rotate_left
  · intro w hSw; (try dsimp only at hSw); go_simp; all_goals (with_reducible rfl)
  try simp only [Act.put, List.setIfInBounds_toArray, List.set_cons_zero, List.set_cons_succ]
  refine wpAnyH_here 2 (v := ?_) rfl (by kernel_rfl) (by kernel_rfl) (by kernel_rfl) (fun _ _ _ h => h) (Or.inl ⟨by rfl, ?_⟩) hHeld ?_
  rotate_left
  · intro w hSw; (try dsimp only at hSw); go_simp; all_goals (with_reducible rfl)
  try simp only [Act.put, List.setIfInBounds_toArray, List.set_cons_zero, List.set_cons_succ]
  refine wpAnyH_here 3 (v := ?_) rfl (by kernel_rfl) (by kernel_rfl) (by kernel_rfl) (fun _ _ _ h => h) (Or.inl ⟨by rfl, ?_⟩) hHeld ?_
  rotate_left
  · intro w hSw; (try dsimp only at hSw); go_simp; all_goals (with_reducible rfl)
  try simp only [Act.put, List.setIfInBounds_toArray, List.set_cons_zero, List.set_cons_succ]
  refine wpAnyH_here 4 (v := ?_) rfl (by kernel_rfl) (by kernel_rfl) (by kernel_rfl) (fun _ _ _ h => h) (Or.inl ⟨by rfl, ?_⟩) hHeld ?_
  rotate_left
  · intro w hSw; (try dsimp only at hSw); go_simp; all_goals (with_reducible rfl)
  try simp only [Act.put, List.setIfInBounds_toArray, List.set_cons_zero, List.set_cons_succ]
  refine wpAnyH_here 5 (v := ?_) rfl (by kernel_rfl) (by kernel_rfl) (by kernel_rfl) (fun _ _ _ h => h) (Or.inl ⟨by rfl, ?_⟩) hHeld ?_
  rotate_left
  · intro w hSw; (try dsimp only at hSw); go_simp; all_goals (with_reducible rfl)
  try simp only [Act.put, List.setIfInBounds_toArray, List.set_cons_zero, List.set_cons_succ]
  refine wpAnyH_alone 1 rfl (by kernel_rfl) (fun K hK => ?_)
  go_simp
  skip
  refine hK.out _ _ (trivial) (fun hHeld => ?_)
  clear hK K
  try simp only [Act.put, List.setIfInBounds_toArray, List.set_cons_zero, List.set_cons_succ]
  refine wpAnyH_alone 6 rfl (by kernel_rfl) (fun K' hK' => ?_)
  refine step_app _ is_bytes rfl (.tmp 65) (.tmp 69) rfl (v := .slice none 0 0) (m := []) rfl (Ow_nil _ w2.heap.size) (l := d) (A := some ⟨b, off + 6, none⟩) (c := c - 6) (by rw [HL.out]; rfl) ((hsub w2 HB2).bs.below b9) (fun h => nomatch h) (by rw [HL.out]; simp; omega) b9.size ?_
  intro v5 w5 hown5 hgr
  have bel5 := b9.grown hgr b9.size (fun k hk => nomatch hk)
  have hF5 := (hF9.draws 1).only (Only.of_grown hgr) (by simp [Value.ownBlock])
  obtain ⟨A5, c5', rfl, _⟩ := hown5.reads_len (n := m) (by simpa using HL.out)
  rw [List.nil_append] at hown5
  refine hK'.out _ _ trivial (fun hHeld => ?_)
  clear hK' K'
  try simp only [Act.put, List.setIfInBounds_toArray, List.set_cons_zero, List.set_cons_succ]
  have fr5 := hF5.free 5
  have ce5 := hF5.cell 5
  simp at ce5
  refine wpAnyH_here 7 (v := ?_) rfl (by kernel_rfl) (by kernel_rfl) (by kernel_rfl) (fun _ _ _ h => h) (Or.inl ⟨by rfl, ?_⟩) hHeld ?_
  rotate_left
  · intro w hSw; (try dsimp only at hSw); go_simp; all_goals (with_reducible rfl)
  try simp only [Act.put, List.setIfInBounds_toArray, List.set_cons_zero, List.set_cons_succ]
  refine wpAnyH_alone 8 rfl (by kernel_rfl) (fun K hK => ?_)
  go_simp
  skip
  refine hK.out _ _ (trivial) (fun hHeld => ?_)
  clear hK K
  try simp only [Act.put, List.setIfInBounds_toArray, List.set_cons_zero, List.set_cons_succ]
  refine wpAnyH_done (by kernel_rfl) ?_ _
  clear fr5 ce5
  obtain ⟨W6, hW6⟩ : ∃ W6, W6 = w5.setCell ⟨w2.heap.size + 1, 5, none⟩ (.slice A5 m c5') := ⟨_, rfl⟩
  have hO6 : Only [w2.heap.size + 1] w5 W6 := by rw [hW6]; exact set_only _ _ 5 _
  have hF6 := hF5.put 5 (.slice A5 m c5')
  simp only [List.setIfInBounds_toArray, List.set_cons_zero, List.set_cons_succ] at hF6
  rw [← hW6] at hF6
  have hown6 := hown5.only hO6 (fun i hi => by
    intro hmem
    rw [List.mem_singleton] at hmem
    exact hown5.apart hF5 (by decide) (by rw [hi, hmem]))
  have bel6 := bel5.trans (hO6.below bel5.size (by simp))
  rw [← hW6]
  clear hW6 hO6 hF5 hown5 bel5 hF9 b9 bel9
  go_wp2_with fail
  refine (hzd W6 (HB2.later bel6)).mono ?_
  rintro e w7 ⟨rfl, hb7⟩
  have hF7 := Cel.later hF6 hb7
  have hown7 := hown6.below hb7
  have bel7 := bel6.trans (hb7.mono bel6.size)
  clear hzd hF6 hown6 bel6 hb7
  obtain ⟨W8, hW8⟩ : ∃ W8, W8 = w7.alloc (.cells #[.int .i64 wc, .bool lk, .bool wt, .bool rt, .int .i64 wb, .int .i64 wn] 24) := ⟨_, rfl⟩
  have hK8 : Cel W8 w7.heap.size 24 #[.int .i64 wc, .bool lk, .bool wt, .bool rt, .int .i64 wb, .int .i64 wn] := by rw [hW8]; exact Cel.new _ _ _
  have b8' : Below w7.heap.size w7 W8 := by rw [hW8]; exact bel_new _ _
  have hF8 := Cel.later hF7 b8'
  have hown8 := hown7.below b8'
  have bel8 := bel7.trans (b8'.mono bel7.size)
  have hlt7 := hF7.lt
  go_upto_region 21 with fail
  rw [← hW8]
  clear hW8 b8' hF7 hown7 bel7
  have k0 := hK8.cell 0
  have k1 := hK8.cell 1
  have k2 := hK8.cell 2
  have k3 := hK8.cell 3
  have k4 := hK8.cell 4
  have k5 := hK8.cell 5
  simp at k0 k1 k2 k3 k4 k5
  have p6 := hF8.cell 6
  have p7 := hF8.cell 7
  have p8 := hF8.cell 8
  have p9 := hF8.cell 9
  have p10 := hF8.cell 10
  have p11 := hF8.cell 11
  simp at p6 p7 p8 p9 p10 p11
  have pf6 := hF8.free 6
  have pf7 := hF8.free 7
  have pf8 := hF8.free 8
  have pf9 := hF8.free 9
  have pf10 := hF8.free 10
  have pf11 := hF8.free 11
  obtain ⟨Wa, hWa⟩ : ∃ Wa, Wa = (((((W8.setCell ⟨w2.heap.size + 1, 6, none⟩ (.int .i64 wc)).setCell ⟨w2.heap.size + 1, 7, none⟩ (.bool lk)).setCell ⟨w2.heap.size + 1, 8, none⟩ (.bool wt)).setCell ⟨w2.heap.size + 1, 9, none⟩ (.bool rt)).setCell ⟨w2.heap.size + 1, 10, none⟩ (.int .i64 wb)).setCell ⟨w2.heap.size + 1, 11, none⟩ (.int .i64 wn) := ⟨_, rfl⟩
  have hOa : Only [w2.heap.size + 1] W8 Wa := by rw [hWa]; exact set_then (set_then (set_then (set_then (set_then (set_only _ _ 6 _) 7 _) 8 _) 9 _) 10 _) 11 _
  have hFa : Cel Wa (w2.heap.size + 1) 26 #[.int .i64 (C : Int), .int .i64 (A : Int), .int .i64 (M : Int), .int .i64 (Q : Int), .int .i64 (F : Int), .slice A5 m c5', .int .i64 wc, .bool lk, .bool wt, .bool rt, .int .i64 wb, .int .i64 wn] := by rw [hWa]; exact ((((((hF8).put 6 _).put 7 _).put 8 _).put 9 _).put 10 _).put 11 _
  have howna := hown8.only hOa (fun i hi => by
    intro hmem
    rw [List.mem_singleton] at hmem
    exact hown8.apart hF8 (by decide) (by rw [hi, hmem]))
  have bela := bel8.trans (hOa.below bel8.size (by simp))
  go_upto_region 22 with fail
  rw [← hWa]
  clear hWa hOa hF8 hown8 bel8 hK8 k0 k1 k2 k3 k4 k5 p6 pf6 p7 pf7 p8 pf8 p9 pf9 p10 pf10 p11 pf11
  have p0 := hFa.cell 0
  have p1 := hFa.cell 1
  have p2 := hFa.cell 2
  have p3 := hFa.cell 3
  have p4 := hFa.cell 4
  have p5 := hFa.cell 5
  have p6 := hFa.cell 6
  have p7 := hFa.cell 7
  have p8 := hFa.cell 8
  have p9 := hFa.cell 9
  have p10 := hFa.cell 10
  have p11 := hFa.cell 11
  simp at p0 p1 p2 p3 p4 p5 p6 p7 p8 p9 p10 p11
  have hRda : Rd Wa A5 d m c5' := by
    obtain ⟨A', c', e, r⟩ := Rd.of howna HL.out
    injection e with e1 _ e3
    subst e1 e3
    exact r
  go_wp2_with fail
  refine (hen Wa A5 c5' hRda).mono ?_
  rintro e wb' ⟨vb, rfl, hownb, hbb⟩
  obtain ⟨Ab, cb', rfl, rb⟩ := Rd.of hownb HN.out
  have hFb := Cel.later hFa hbb
  have hownd := howna.below hbb
  have belb := bela.trans (hbb.mono bela.size)
  have hRb := Cel.later hR2 belb
  have belw := bel2.trans (belb.mono bel2.size)
  have hDb := HD.out.later belw
  have sv1 := rb.conv (Below.refl _ _)
  have sv2 := hDb.conv (Below.refl _ _)
  clear hen hownb hbb hFa howna bela rb hDb hRda p0 p1 p2 p3 p4 p5 p6 p7 p8 p9 p10 p11
  have c0 := hRb.cell 0
  have c1 := hRb.cell 1
  have c2 := hRb.cell 2
  have c3 := hRb.cell 3
  have c4 := hRb.cell 4
  have c5 := hRb.cell 5
  have c6 := hRb.cell 6
  have c7 := hRb.cell 7
  have c8 := hRb.cell 8
  have c9 := hRb.cell 9
  have c10 := hRb.cell 10
  have c11 := hRb.cell 11
  simp at c0 c1 c2 c3 c4 c5 c6 c7 c8 c9 c10 c11
  have f0 := hRb.free 0
  have f1 := hRb.free 1
  have f2 := hRb.free 2
  have f3 := hRb.free 3
  have f4 := hRb.free 4
  have f5 := hRb.free 5
  have f6 := hRb.free 6
  have f7 := hRb.free 7
  have f8 := hRb.free 8
  have f9 := hRb.free 9
  have f10 := hRb.free 10
  have f11 := hRb.free 11
  have p0 := hFb.cell 0
  have p1 := hFb.cell 1
  have p2 := hFb.cell 2
  have p3 := hFb.cell 3
  have p4 := hFb.cell 4
  have p5 := hFb.cell 5
  have p6 := hFb.cell 6
  have p7 := hFb.cell 7
  have p8 := hFb.cell 8
  have p9 := hFb.cell 9
  have p10 := hFb.cell 10
  have p11 := hFb.cell 11
  simp at p0 p1 p2 p3 p4 p5 p6 p7 p8 p9 p10 p11
  have hne : w.heap.size ≠ w2.heap.size + 1 := by omega
  have hne' : w2.heap.size + 1 ≠ w.heap.size := by omega
  go_wp2
  refine bodyPost_ret (rde_results rfl rfl (put12_cel hRb (.int .i64 (C : Int)) (.int .i64 (A : Int)) (.int .i64 (M : Int)) (.int .i64 (Q : Int)) (.int .i64 (F : Int)) (.slice A5 m c5') (.int .i64 wc) (.bool lk) (.bool wt) (.bool rt) (.int .i64 wb) (.int .i64 wn))) rfl ⟨_, rfl, ?_, put12_below belw (Nat.le_refl _) _ _ _ _ _ _ _ _ _ _ _ _⟩
  exact (hownd.only (put12_only _ _ _ _ _ _ _ _ _ _ _ _ _ _) (fun i hi => by have := (hownd.lt i hi).1; simp; omega)).more (Nat.le_of_lt hlt2)

end Go.Proofs.Ytmkmojhhfbokdaa.Tmf

/-
  The walk of the reference of layer 18: Decode, all ways.
-/
namespace Go.Proofs.Ytmkmojhhfbokdaa.Tmf
open Go.RowKit Go.Proofs.Ytmkmojhhfbokdaa.Pac
open Clc (Cw)

theorem rdecode_any (a : Option Addr) (l : List Byte) (n c : Nat) (w : World) (hD : Rd w a l n c) :
    Calls Try.prog 14 #[.slice a n c] w fun e w' => ∃ v, e = .returned (.tuple #[.agg #[.int .i64 (deP l).cr, .int .i64 (deP l).ch, .int .i64 (deP l).ma, .int .i64 (deP l).ct, .int .i64 (deP l).fi, v, .int .i64 (deP l).cw.ch, .bool (deP l).cw.lk, .bool (deP l).cw.wt, .bool (deP l).cw.rt, .int .i64 (deP l).cw.bp, .int .i64 (deP l).cw.nx], .int .i64 (deE l)]) ∧ Ow w' w.heap.size 5 v (deP l).d ∧ Below w.heap.size w w' := by
  have hln := hD.len
  by_cases h1 : n < 13
  · obtain ⟨e1, e2⟩ := de_short (l := l) (by omega)
    rw [e1, e2]
    exact (rdecode_short a n c w h1).mono fun e w' ⟨k1, k2⟩ => ⟨_, k1, Ow_nil _ _, k2⟩
  by_cases h2 : 1024 < n
  · obtain ⟨e1, e2⟩ := de_long (l := l) (by omega)
    rw [e1, e2]
    exact (rdecode_long a n c w h2).mono fun e w' ⟨k1, k2⟩ => ⟨_, k1, Ow_nil _ _, k2⟩
  have g1 : 13 ≤ n := by omega
  have g2 : n ≤ 1024 := by omega
  cases hck : ck16 l with
  | false =>
    obtain ⟨e1, e2⟩ := de_sum (l := l) (by omega) (by omega) hck
    rw [e1, e2]
    exact (rdecode_sum a l n c w hD g1 g2 hck).mono fun e w' ⟨k1, k2⟩ => ⟨_, k1, Ow_nil _ _, k2⟩
  | true =>
    cases hg : gd l with
    | false =>
      obtain ⟨e1, e2⟩ := de_form (l := l) (by omega) (by omega) hck hg
      rw [e1, e2]
      by_cases he : Clc.deE (ctl l) = 0
      · have hz : hf l = false := by
          cases hz : hf l with
          | false => rfl
          | true => unfold gd at hg; rw [hz, he] at hg; cases hg
        exact (rdecode_form a l n c w hD g1 g2 hck hz he).mono fun e w' ⟨k1, k2⟩ => ⟨_, k1, Ow_nil _ _, k2⟩
      · exact (rdecode_err a l n c w hD g1 g2 hck he).mono fun e w' ⟨k1, k2⟩ => ⟨_, k1, Ow_nil _ _, k2⟩
    | true =>
      obtain ⟨e1, e2⟩ := de_good (l := l) (by omega) (by omega) hck hg
      rw [e1, e2]
      obtain ⟨k1, k2⟩ := gd_parts hg
      exact rdecode_good a l n c w hD g1 g2 hck k1 k2
end Go.Proofs.Ytmkmojhhfbokdaa.Tmf

/-
  A region that draws its order, whose operations read and whose callees may make memory of their own but hand back a value that hangs on no world: one walk in the order of the text. The class of worlds: whatever leaves the old blocks alone. No dump is imported.
-/
namespace Go.Proofs.Ytmkmojhhfbokdaa
open Go.RowKit

/-- a world in which all blocks of w are as they were -/
structure Later (w : World) where
  W : World
  h : Below w.heap.size w W
instance later_nonempty (w : World) : Nonempty (Later w) := ⟨⟨w, Below.refl _ _⟩⟩

theorem wp_region_later {P : Program} {id : Nat} {Q : Exit → Act → World → Prop} {a : Act} {w : World} {l : List Oper} (hm : P.follows .mixedOrders = true) (hB : Region.lexB .any l.toArray = true)
    (h : wpQuiet P l.toArray (fun w' => ∃ p : Later w, w' = p.W) (fun a' => ∀ w', (∃ p : Later w, w' = p.W) → Q .normal a' w') l a) : (Code.region id l.toArray true).wp P Q a w :=
  wp_region_quiet (C := fun w' => ∃ p : Later w, w' = p.W) hm hB ⟨⟨{ w with drawn := w.drawn + 1 }, ⟨rfl, rfl, rfl, Nat.le_refl _, fun _ _ => rfl⟩⟩, rfl⟩ (by simpa using h)

theorem later_cell {w : World} {b off : Nat} {v : Value} (hc : w.cell? ⟨b, off, none⟩ = some v) (hb : b < w.heap.size) (p : Later w) : p.W.cell? ⟨b, off, none⟩ = some v :=
  (p.h.cell (p := ⟨b, off, none⟩) hb).trans hc

/-- a callee's contract, met in such a world -/
theorem later_of {P : Program} {f : FuncId} {args : Array Value} {w : World} {p : Later w} {v : Value}
    (h : Calls P f args p.W fun e w' => e = .returned v ∧ Below p.W.heap.size p.W w') : Calls P f args p.W fun e w'' => e = .returned v ∧ ∃ q : Later w, w'' = q.W :=
  h.mono fun _ w'' ⟨he, hb⟩ => ⟨he, ⟨w'', p.h.trans (hb.mono p.h.size)⟩, rfl⟩
theorem later_same {P : Program} {f : FuncId} {args : Array Value} {w : World} {p : Later w} {v : Value}
    (h : Calls P f args p.W fun e w' => e = .returned v ∧ p.W = w') : Calls P f args p.W fun e w'' => e = .returned v ∧ ∃ q : Later w, w'' = q.W :=
  h.mono fun _ _ ⟨he, hb⟩ => ⟨he, p, hb.symm⟩

end Go.Proofs.Ytmkmojhhfbokdaa

/-
  The walk of 'lives' of layer 18.
-/
namespace Go.Proofs.Ytmkmojhhfbokdaa.Tmf
open Go.RowKit Go.Proofs.Ytmkmojhhfbokdaa.Pac
open Clc (Cw)

def mL : List Byte := [0#8, 83#8, 2#8, 3#8, 24#8, 0#8, 170#8, 1#8, 0#8, 0#8, 0#8, 51#8, 246#8]
theorem mok0 : Fr.ok ⟨5, 1, 2, 3, 0, [170#8], ⟨0, false, false, false, 0, 0⟩⟩ = true := by decide
theorem mok1 : Fr.ok ⟨5, 0, 0, 0, 0, [], ⟨0, false, false, false, 0, 0⟩⟩ = false := by decide
theorem men0 : Fr.enc ⟨5, 1, 2, 3, 0, [170#8], ⟨0, false, false, false, 0, 0⟩⟩ = mL := by rw [Fr.enc_yes mok0]; decide +kernel
theorem mde0 : deE mL = 0 ∧ deP mL = ⟨5, 1, 2, 3, 0, [170#8], ⟨0, false, false, false, 0, 0⟩⟩ := by
  have h := dec_enc mok0
  rw [men0] at h
  exact h
theorem mde1 : deE (mL.take 12) = 3 ∧ deP (mL.take 12) = noFr := de_short (by decide)
theorem Rd_none (w : World) : Rd w none [] 0 0 := ⟨rfl, fun h => absurd h (by simp), fun _ => rfl, Nat.le_refl _, by decide⟩

set_option maxHeartbeats 4000000 in
theorem lives_any (w : World) : Calls Try.prog 8 #[] w fun e w' => e = .returned (.bool true) ∧ Below w.heap.size w w' := by
  obtain ⟨W1, hW1⟩ : ∃ W1, W1 = (w.alloc (.cells #[.int .u8 170] 5)).alloc (.cells #[.int .i64 5, .int .i64 1, .int .i64 2, .int .i64 3, .int .i64 0, .slice (some ⟨w.heap.size, 0, none⟩) 1 1, .int .i64 0, .bool false, .bool false, .bool false, .int .i64 0, .int .i64 0] 26) := ⟨_, rfl⟩
  have r0 : Rd (w.alloc (.cells #[.int .u8 170] 5)) (some ⟨w.heap.size, 0, none⟩) [170#8] 1 1 := ⟨rfl, (Bs_new1 w 5 170#8 170 rfl).more (by simp), fun h => (nomatch h), Nat.le_refl _, by decide⟩
  have b0 : Below w.heap.size w W1 := by rw [hW1]; exact (bel_new w _).alloc (bel_new w _).size _
  have r1 : Rd W1 (some ⟨w.heap.size, 0, none⟩) [170#8] 1 1 := by rw [hW1]; exact r0.later (bel_new _ _)
  have p1 : Cel W1 (w.heap.size + 1) 26 #[.int .i64 5, .int .i64 1, .int .i64 2, .int .i64 3, .int .i64 0, .slice (some ⟨w.heap.size, 0, none⟩) 1 1, .int .i64 0, .bool false, .bool false, .bool false, .int .i64 0, .int .i64 0] := by
    rw [hW1]
    have := Cel.new (w.alloc (.cells #[.int .u8 170] 5)) 26 #[.int .i64 5, .int .i64 1, .int .i64 2, .int .i64 3, .int .i64 0, .slice (some ⟨w.heap.size, 0, none⟩) 1 1, .int .i64 0, .bool false, .bool false, .bool false, .int .i64 0, .int .i64 0]
    simpa using this
  have x1 := fun W (h : Rd W (some ⟨w.heap.size, 0, none⟩) [170#8] 1 1) => mencode_any 5 1 2 3 0 (some ⟨w.heap.size, 0, none⟩) [170#8] 1 1 0 false false false 0 0 W (Lib.hid rfl) h.bs h.nil (by decide)
  rw [men0, Fr.err_yes mok0] at x1
  have x2 := fun W A c (h : Rd W A mL 13 c) => mdecode_any A mL 13 c W h
  simp only [mde0.1, mde0.2] at x2
  have x3 := fun W A c (h : Rd W A (mL.take 12) 12 c) => mdecode_any A (mL.take 12) 12 c W h
  simp only [mde1.1, mde1.2, noFr, Clc.noCw] at x3
  have x4 := fun W => mencode_any 5 0 0 0 0 none [] 0 0 0 false false false 0 0 W (Lib.hid rfl) (Rd_none W).bs (fun _ => rfl) (by decide)
  simp only [Fr.enc_no mok1, Fr.err_no mok1] at x4
  have x5 := fun W => mvalid_any 5 1 2 3 0 (some ⟨w.heap.size, 0, none⟩) [170#8] 1 1 0 false false false 0 0 W (Lib.hid rfl) (by decide)
  simp only [mok0] at x5
  have e1 : ((str (mL.take 11)).toList == [0, 83, 2, 3, 24, 0, 170, 1, 0, 0, 0]) = true := by decide +kernel
  have m0 := p1.cell 0
  have m1 := p1.cell 1
  have m2 := p1.cell 2
  have m3 := p1.cell 3
  have m4 := p1.cell 4
  have m5 := p1.cell 5
  have m6 := p1.cell 6
  have m7 := p1.cell 7
  have m8 := p1.cell 8
  have m9 := p1.cell 9
  have m10 := p1.cell 10
  have m11 := p1.cell 11
  simp at m0 m1 m2 m3 m4 m5 m6 m7 m8 m9 m10 m11
  go_enter Try.func8, Try.ntmps8
  go_upto_region 2 with fail
  rw [← hW1]
  clear hW1
  go_wp2_with fail
  refine (x1 W1 r1).mono ?_
  rintro e w2 ⟨v1, rfl, o1, h2⟩
  obtain ⟨A1, c1, rfl, k1⟩ := Rd.of o1 (n := 13) rfl
  have b2 := b0.trans (h2.mono b0.size)
  have p2 := Cel.later p1 h2
  have r2 := r1.later h2
  have hc1 := k1.le
  clear x1 o1 h2 b0 p1 r1 r0 m0 m1 m2 m3 m4 m5 m6 m7 m8 m9 m10 m11
  go_wp2_with fail
  refine (x2 _ _ _ k1).mono ?_
  rintro e w3 ⟨v2, rfl, o2, h3⟩
  obtain ⟨A2, c2, rfl, rx⟩ := Rd.of o2 (n := 1) rfl
  have b3 := b2.trans (h3.mono b2.size)
  have p3 := Cel.later p2 h3
  have r3 := r2.later h3
  have k3 := k1.later h3
  clear x2 o2 h3 b2 p2 r2 k1
  obtain ⟨W3, hW3⟩ : ∃ W3, W3 = w3.alloc (.cells #[.int .i64 5, .int .i64 1, .int .i64 2, .int .i64 3, .int .i64 0, .slice A2 1 c2, .int .i64 0, .bool false, .bool false, .bool false, .int .i64 0, .int .i64 0] 26) := ⟨_, rfl⟩
  have q3 : Cel W3 w3.heap.size 26 #[.int .i64 5, .int .i64 1, .int .i64 2, .int .i64 3, .int .i64 0, .slice A2 1 c2, .int .i64 0, .bool false, .bool false, .bool false, .int .i64 0, .int .i64 0] := by rw [hW3]; exact Cel.new _ _ _
  have i3 : Below w3.heap.size w3 W3 := by rw [hW3]; exact bel_new _ _
  have b4 := b3.trans (i3.mono b3.size)
  have p4 := Cel.later p3 i3
  have r4 := r3.later i3
  have rx4 := rx.later i3
  have k4 := k3.later i3
  clear i3 b3 p3 r3 k3 rx
  go_upto_region 6 with fail
  rw [← hW3]
  clear hW3
  go_wp2_with fail
  refine (x3 W3 _ _ (k4.head 12 (by decide))).mono ?_
  rintro e w5 ⟨v3, rfl, o3, h5⟩
  obtain ⟨A3, c3, rfl, _⟩ := Rd.of o3 (n := 0) rfl
  have b5 := b4.trans (h5.mono b4.size)
  have p5 := Cel.later p4 h5
  have q5 := Cel.later q3 h5
  have r5 := r4.later h5
  have rx5 := rx4.later h5
  have k5 := k4.later h5
  clear x3 o3 h5 b4 p4 q3 r4 rx4 k4
  obtain ⟨W5, hW5⟩ : ∃ W5, W5 = w5.alloc (.cells #[.int .i64 0, .int .i64 0, .int .i64 0, .int .i64 0, .int .i64 0, .slice A3 0 c3, .int .i64 0, .bool false, .bool false, .bool false, .int .i64 0, .int .i64 0] 26) := ⟨_, rfl⟩
  have i5 : Below w5.heap.size w5 W5 := by rw [hW5]; exact bel_new _ _
  have b6 := b5.trans (i5.mono b5.size)
  have p6 := Cel.later p5 i5
  have q6 := Cel.later q5 i5
  have r6 := r5.later i5
  have rx6 := rx5.later i5
  have k6 := k5.later i5
  clear i5 b5 p5 q5 r5 rx5 k5
  go_upto_region 7 with fail
  rw [← hW5]
  clear hW5
  go_wp2_with fail
  refine (x4 W5).mono ?_
  rintro e w7 ⟨v4, rfl, o4, h7⟩
  obtain ⟨A4, c4, rfl, _⟩ := Rd.of o4 (n := 0) rfl
  have b7 := b6.trans (h7.mono b6.size)
  have p7 := Cel.later p6 h7
  have q7 := Cel.later q6 h7
  have r7 := r6.later h7
  have rx7 := rx6.later h7
  have k7 := k6.later h7
  have sv := (k7.head 11 (by decide)).conv (Below.refl _ _)
  clear x4 o4 h7 b6 p6 q6 r6 rx6 k6 k7
  have m0 := p7.cell 0
  have m1 := p7.cell 1
  have m2 := p7.cell 2
  have m3 := p7.cell 3
  have m4 := p7.cell 4
  have m5 := p7.cell 5
  have m6 := p7.cell 6
  have m7 := p7.cell 7
  have m8 := p7.cell 8
  have m9 := p7.cell 9
  have m10 := p7.cell 10
  have m11 := p7.cell 11
  simp at m0 m1 m2 m3 m4 m5 m6 m7 m8 m9 m10 m11
  have s0 := q7.cell 0
  have s1 := q7.cell 1
  have s2 := q7.cell 2
  have s3 := q7.cell 3
  have s4 := q7.cell 4
  have s5 := q7.cell 5
  have s6 := q7.cell 6
  have s7 := q7.cell 7
  have s8 := q7.cell 8
  have s9 := q7.cell 9
  have s10 := q7.cell 10
  have s11 := q7.cell 11
  simp at s0 s1 s2 s3 s4 s5 s6 s7 s8 s9 s10 s11
  go_wp2_with fail
  refine (rsame_any 5 1 2 3 0 A2 (some ⟨w.heap.size, 0, none⟩) [170#8] 1 c2 1 0 false false false 0 0 _ rx7 r7).mono ?_
  rintro e w8 ⟨rfl, h8⟩
  have b8 := b7.trans (h8.mono b7.size)
  have p8 := Cel.later p7 h8
  clear m0 m1 m2 m3 m4 m5 m6 m7 m8 m9 m10 m11 s0 s1 s2 s3 s4 s5 s6 s7 s8 s9 s10 s11 b7 p7 q7 r7 rx7 h8 sv
  have m0 := p8.cell 0
  have m1 := p8.cell 1
  have m2 := p8.cell 2
  have m3 := p8.cell 3
  have m4 := p8.cell 4
  have m5 := p8.cell 5
  have m6 := p8.cell 6
  have m7 := p8.cell 7
  have m8 := p8.cell 8
  have m9 := p8.cell 9
  have m10 := p8.cell 10
  have m11 := p8.cell 11
  simp at m0 m1 m2 m3 m4 m5 m6 m7 m8 m9 m10 m11
  go_wp2_with fail
  refine (x5 _).mono ?_
  rintro e w9 ⟨rfl, h9⟩
  go_wp2
  go_ret
  exact ⟨rfl, b8.trans (h9.mono b8.size)⟩
end Go.Proofs.Ytmkmojhhfbokdaa.Tmf

/-
  The walks of the laws TmframeEncodes and TmframeDecodes.
-/
namespace Go.Proofs.Ytmkmojhhfbokdaa.Tmf
open Go.RowKit Go.Proofs.Ytmkmojhhfbokdaa.Pac
open Clc (Cw)

theorem convT {w : World} {A : Option Addr} {l : List Byte} {n c : Nat} (h : Rd w A l n c) (p : Later w) :
    (convert 22 9 (.slice A n c)).run Try.prog p.W = .ok (.string (str l)) p.W := h.conv p.h

set_option maxHeartbeats 4000000 in
theorem tmframeEncodes_walk (cr ch ma ct fi : Int) (a : Option Addr) (l : List Byte) (n c : Nat) (wc : Int) (lk wt rt : Bool) (wb wn : Int) (w : World) (hD : Rd w a l n c) :
    Calls Try.prog 3 #[.agg #[.int .i64 cr, .int .i64 ch, .int .i64 ma, .int .i64 ct, .int .i64 fi, .slice a n c, .int .i64 wc, .bool lk, .bool wt, .bool rt, .int .i64 wb, .int .i64 wn]] w fun e w' => e = .returned (.bool true) ∧ Below w.heap.size w w' := by
  have b0 := bel_new w (.cells #[.int .i64 cr, .int .i64 ch, .int .i64 ma, .int .i64 ct, .int .i64 fi, .slice a n c, .int .i64 wc, .bool lk, .bool wt, .bool rt, .int .i64 wb, .int .i64 wn] 26)
  have p0 := Cel.new w 26 #[.int .i64 cr, .int .i64 ch, .int .i64 ma, .int .i64 ct, .int .i64 fi, .slice a n c, .int .i64 wc, .bool lk, .bool wt, .bool rt, .int .i64 wb, .int .i64 wn]
  by_cases hbig : 3000 < n
  · have g1 : decide ((3000 : Int) < (n : Int)) = true := by simp; omega
    have g2 : decide (3000 < n) = true := by simp; omega
    clear hD hbig p0
    go_enter Try.func3, Try.ntmps3
    go_wp2_with fail
    refine (lives_any _).mono ?_
    rintro e w1 ⟨rfl, h1⟩
    go_wp2
    go_ret
    exact ⟨rfl, b0.trans (h1.mono b0.size)⟩
  have g1 : decide ((3000 : Int) < (n : Int)) = false := by simp; omega
  have g2 : decide (3000 < n) = false := by simp; omega
  have hm : n ≤ maxLen := Nat.le_trans hD.le hD.max
  have x1 := fun W (h : Rd W a l n c) => mencode_any cr ch ma ct fi a l n c wc lk wt rt wb wn W (Lib.hid h.len) h.bs h.nil hm
  have x2 := fun W (h : Rd W a l n c) => rencode_any cr ch ma ct fi a l n c wc lk wt rt wb wn W (Lib.hid h.len) h.bs h.nil hm
  have x3 := fun W => mvalid_any cr ch ma ct fi a l n c wc lk wt rt wb wn W (Lib.hid hD.len) hm
  have x4 := fun W => rvalid_any cr ch ma ct fi a l n c wc lk wt rt wb wn W (Lib.hid hD.len) hm
  obtain ⟨E, hE⟩ : ∃ E, E = Fr.enc ⟨cr, ch, ma, ct, fi, l, ⟨wc, lk, wt, rt, wb, wn⟩⟩ := ⟨_, rfl⟩
  obtain ⟨q, hq⟩ : ∃ q, q = Fr.err ⟨cr, ch, ma, ct, fi, l, ⟨wc, lk, wt, rt, wb, wn⟩⟩ := ⟨_, rfl⟩
  obtain ⟨k, hk⟩ : ∃ k, k = Fr.ok ⟨cr, ch, ma, ct, fi, l, ⟨wc, lk, wt, rt, wb, wn⟩⟩ := ⟨_, rfl⟩
  obtain ⟨M, hM⟩ : ∃ M, M = E.length := ⟨_, rfl⟩
  simp only [← hE, ← hq] at x1 x2
  simp only [← hk] at x3 x4
  have u1 : ((str E).toList == (str E).toList) = true := by simp
  have u2 : (q == q) = true := by simp
  have u6 : (k == k) = true := by simp
  have HM := Lib.hid hM.symm
  have k0 := hD.later b0
  clear hE hq hk hM hD hm hbig
  have m0 := p0.cell 0
  have m1 := p0.cell 1
  have m2 := p0.cell 2
  have m3 := p0.cell 3
  have m4 := p0.cell 4
  have m5 := p0.cell 5
  have m6 := p0.cell 6
  have m7 := p0.cell 7
  have m8 := p0.cell 8
  have m9 := p0.cell 9
  have m10 := p0.cell 10
  have m11 := p0.cell 11
  simp at m0 m1 m2 m3 m4 m5 m6 m7 m8 m9 m10 m11
  go_enter Try.func3, Try.ntmps3
  go_wp2_with fail
  refine (x1 _ k0).mono ?_
  rintro e w1 ⟨v1, rfl, o1, h1⟩
  obtain ⟨A1, c1, rfl, r1⟩ := Rd.of o1 HM.out
  have b1 := b0.trans (h1.mono b0.size)
  have p1 := Cel.later p0 h1
  have k1 := k0.later h1
  clear x1 h1 p0 b0 o1 k0 m0 m1 m2 m3 m4 m5 m6 m7 m8 m9 m10 m11
  have m0 := p1.cell 0
  have m1 := p1.cell 1
  have m2 := p1.cell 2
  have m3 := p1.cell 3
  have m4 := p1.cell 4
  have m5 := p1.cell 5
  have m6 := p1.cell 6
  have m7 := p1.cell 7
  have m8 := p1.cell 8
  have m9 := p1.cell 9
  have m10 := p1.cell 10
  have m11 := p1.cell 11
  simp at m0 m1 m2 m3 m4 m5 m6 m7 m8 m9 m10 m11
  go_wp2_with fail
  refine (x2 _ k1).mono ?_
  rintro e w2 ⟨v2, rfl, o2, h2⟩
  obtain ⟨A2, c2, rfl, r2⟩ := Rd.of o2 HM.out
  have b2 := b1.trans (h2.mono b1.size)
  have p2 := Cel.later p1 h2
  have r12 := r1.later h2
  clear x2 h2 p1 b1 o2 r1 k1 m0 m1 m2 m3 m4 m5 m6 m7 m8 m9 m10 m11
  have m0 := p2.cell 0
  have m1 := p2.cell 1
  have m2 := p2.cell 2
  have m3 := p2.cell 3
  have m4 := p2.cell 4
  have m5 := p2.cell 5
  have m6 := p2.cell 6
  have m7 := p2.cell 7
  have m8 := p2.cell 8
  have m9 := p2.cell 9
  have m10 := p2.cell 10
  have m11 := p2.cell 11
  simp at m0 m1 m2 m3 m4 m5 m6 m7 m8 m9 m10 m11
  have hlt := p2.lt
  go_wp2_with fail
  refine wp_region_later (by kernel_rfl) (by kernel_rfl) ?_
  have q1 := convT r12
  have q2 := convT r2
  have n0 : ∀ p : Later w2, p.W.cell? ⟨w.heap.size, 0, none⟩ = some (.int .i64 cr) := later_cell m0 hlt
  have n1 : ∀ p : Later w2, p.W.cell? ⟨w.heap.size, 1, none⟩ = some (.int .i64 ch) := later_cell m1 hlt
  have n2 : ∀ p : Later w2, p.W.cell? ⟨w.heap.size, 2, none⟩ = some (.int .i64 ma) := later_cell m2 hlt
  have n3 : ∀ p : Later w2, p.W.cell? ⟨w.heap.size, 3, none⟩ = some (.int .i64 ct) := later_cell m3 hlt
  have n4 : ∀ p : Later w2, p.W.cell? ⟨w.heap.size, 4, none⟩ = some (.int .i64 fi) := later_cell m4 hlt
  have n5 : ∀ p : Later w2, p.W.cell? ⟨w.heap.size, 5, none⟩ = some (.slice a n c) := later_cell m5 hlt
  have n6 : ∀ p : Later w2, p.W.cell? ⟨w.heap.size, 6, none⟩ = some (.int .i64 wc) := later_cell m6 hlt
  have n7 : ∀ p : Later w2, p.W.cell? ⟨w.heap.size, 7, none⟩ = some (.bool lk) := later_cell m7 hlt
  have n8 : ∀ p : Later w2, p.W.cell? ⟨w.heap.size, 8, none⟩ = some (.bool wt) := later_cell m8 hlt
  have n9 : ∀ p : Later w2, p.W.cell? ⟨w.heap.size, 9, none⟩ = some (.bool rt) := later_cell m9 hlt
  have n10 : ∀ p : Later w2, p.W.cell? ⟨w.heap.size, 10, none⟩ = some (.int .i64 wb) := later_cell m10 hlt
  have n11 : ∀ p : Later w2, p.W.cell? ⟨w.heap.size, 11, none⟩ = some (.int .i64 wn) := later_cell m11 hlt
  clear m0 m1 m2 m3 m4 m5 m6 m7 m8 m9 m10 m11 r12 r2 p2
  repeat (go_big_quiet_step ((first
    | (go_at_call 11; exact later_of (x3 _))
    | (go_at_call 12; exact later_of (x4 _))
    | (go_at_call 8; exact later_of (lives_any _)))))
  refine wpQuiet_nil ?_
  rintro _ ⟨⟨w5, hbel5⟩, rfl⟩
  go_wp2
  go_ret
  exact ⟨rfl, b2.trans (hbel5.mono b2.size)⟩

set_option maxHeartbeats 4000000 in
theorem tmframeDecodes_walk (a : Option Addr) (l : List Byte) (n c : Nat) (w : World) (hD : Rd w a l n c) :
    Calls Try.prog 4 #[.slice a n c] w fun e w' => e = .returned (.bool true) ∧ Below w.heap.size w w' := by
  by_cases hbig : 3000 < n
  · have g1 : decide ((3000 : Int) < (n : Int)) = true := by simp; omega
    have g2 : decide (3000 < n) = true := by simp; omega
    clear hD hbig
    go_enter Try.func4, Try.ntmps4
    go_wp2_with fail
    refine (lives_any _).mono ?_
    rintro e w1 ⟨rfl, h1⟩
    go_wp2
    go_ret
    exact ⟨rfl, h1⟩
  have g1 : decide ((3000 : Int) < (n : Int)) = false := by simp; omega
  have g2 : decide (3000 < n) = false := by simp; omega
  have x1 := fun W (h : Rd W a l n c) => mdecode_any a l n c W h
  have x2 := fun W (h : Rd W a l n c) => rdecode_any a l n c W h
  obtain ⟨P, hP⟩ : ∃ P, P = deP l := ⟨_, rfl⟩
  obtain ⟨q, hq⟩ : ∃ q, q = deE l := ⟨_, rfl⟩
  simp only [← hP, ← hq] at x1 x2
  have u2 : (q == q) = true := by simp
  clear hP hq hbig
  obtain ⟨cr, ch, ma, ct, fi, d, ⟨wc, lk, wt, rt, wb, wn⟩⟩ := P
  simp only at x1 x2
  obtain ⟨M, hM⟩ : ∃ M, M = d.length := ⟨_, rfl⟩
  have HM := Lib.hid hM.symm
  clear hM
  go_enter Try.func4, Try.ntmps4
  go_wp2_with fail
  refine (x1 _ hD).mono ?_
  rintro e w1 ⟨v1, rfl, o1, h1⟩
  obtain ⟨A1, c1, rfl, r1⟩ := Rd.of o1 HM.out
  obtain ⟨W1, hW1⟩ : ∃ W1, W1 = w1.alloc (.cells #[.int .i64 cr, .int .i64 ch, .int .i64 ma, .int .i64 ct, .int .i64 fi, .slice A1 M c1, .int .i64 wc, .bool lk, .bool wt, .bool rt, .int .i64 wb, .int .i64 wn] 26) := ⟨_, rfl⟩
  have p1 : Cel W1 w1.heap.size 26 #[.int .i64 cr, .int .i64 ch, .int .i64 ma, .int .i64 ct, .int .i64 fi, .slice A1 M c1, .int .i64 wc, .bool lk, .bool wt, .bool rt, .int .i64 wb, .int .i64 wn] := by rw [hW1]; exact Cel.new _ _ _
  have i1 : Below w1.heap.size w1 W1 := by rw [hW1]; exact bel_new _ _
  have b1 := h1.trans (i1.mono h1.size)
  have r1' := r1.later i1
  clear x1 o1 h1 i1 r1
  go_upto_region 4 with fail
  rw [← hW1]
  clear hW1
  go_wp2_with fail
  refine (x2 _ (hD.later b1)).mono ?_
  rintro e w2 ⟨v2, rfl, o2, h2⟩
  obtain ⟨A2, c2, rfl, r2⟩ := Rd.of o2 HM.out
  obtain ⟨W2, hW2⟩ : ∃ W2, W2 = w2.alloc (.cells #[.int .i64 cr, .int .i64 ch, .int .i64 ma, .int .i64 ct, .int .i64 fi, .slice A2 M c2, .int .i64 wc, .bool lk, .bool wt, .bool rt, .int .i64 wb, .int .i64 wn] 26) := ⟨_, rfl⟩
  have p2 : Cel W2 w2.heap.size 26 #[.int .i64 cr, .int .i64 ch, .int .i64 ma, .int .i64 ct, .int .i64 fi, .slice A2 M c2, .int .i64 wc, .bool lk, .bool wt, .bool rt, .int .i64 wb, .int .i64 wn] := by rw [hW2]; exact Cel.new _ _ _
  have i2 : Below w2.heap.size w2 W2 := by rw [hW2]; exact bel_new _ _
  have b2 := b1.trans ((h2.trans (i2.mono h2.size)).mono b1.size)
  have p12 := Cel.later (Cel.later p1 h2) i2
  have r12 := (r1'.later h2).later i2
  have r2' := r2.later i2
  clear x2 o2 h2 i2 r2 r1' p1 b1 hD
  go_upto_region 5 with fail
  rw [← hW2]
  clear hW2
  have m0 := p12.cell 0
  have m1 := p12.cell 1
  have m2 := p12.cell 2
  have m3 := p12.cell 3
  have m4 := p12.cell 4
  have m5 := p12.cell 5
  have m6 := p12.cell 6
  have m7 := p12.cell 7
  have m8 := p12.cell 8
  have m9 := p12.cell 9
  have m10 := p12.cell 10
  have m11 := p12.cell 11
  simp at m0 m1 m2 m3 m4 m5 m6 m7 m8 m9 m10 m11
  have s0 := p2.cell 0
  have s1 := p2.cell 1
  have s2 := p2.cell 2
  have s3 := p2.cell 3
  have s4 := p2.cell 4
  have s5 := p2.cell 5
  have s6 := p2.cell 6
  have s7 := p2.cell 7
  have s8 := p2.cell 8
  have s9 := p2.cell 9
  have s10 := p2.cell 10
  have s11 := p2.cell 11
  simp at s0 s1 s2 s3 s4 s5 s6 s7 s8 s9 s10 s11
  go_wp2_with fail
  refine (rsame_any cr ch ma ct fi A1 A2 d M c1 c2 wc lk wt rt wb wn W2 r12 r2').mono ?_
  rintro e w3 ⟨rfl, h3⟩
  have b3 := b2.trans (h3.mono b2.size)
  clear m0 m1 m2 m3 m4 m5 m6 m7 m8 m9 m10 m11 s0 s1 s2 s3 s4 s5 s6 s7 s8 s9 s10 s11 p12 p2 r12 r2' b2 h3
  go_wp2_with fail
  refine (lives_any _).mono ?_
  rintro e w6 ⟨rfl, h6⟩
  go_wp2
  go_ret
  exact ⟨rfl, b3.trans (h6.mono b3.size)⟩
end Go.Proofs.Ytmkmojhhfbokdaa.Tmf

/-
  The walks of the laws TmframeBack and TmframeOnce.
-/
namespace Go.Proofs.Ytmkmojhhfbokdaa.Tmf
open Go.RowKit Go.Proofs.Ytmkmojhhfbokdaa.Pac
open Clc (Cw)

set_option maxHeartbeats 4000000 in
theorem tmframeBack_no (cr ch ma ct fi : Int) (a : Option Addr) (l : List Byte) (n c : Nat) (wc : Int) (lk wt rt : Bool) (wb wn : Int) (w : World) (hD : Rd w a l n c) (hok : Fr.ok ⟨cr, ch, ma, ct, fi, l, ⟨wc, lk, wt, rt, wb, wn⟩⟩ = false) :
    Calls Try.prog 5 #[.agg #[.int .i64 cr, .int .i64 ch, .int .i64 ma, .int .i64 ct, .int .i64 fi, .slice a n c, .int .i64 wc, .bool lk, .bool wt, .bool rt, .int .i64 wb, .int .i64 wn]] w fun e w' => e = .returned (.bool true) ∧ Below w.heap.size w w' := by
  have b0 := bel_new w (.cells #[.int .i64 cr, .int .i64 ch, .int .i64 ma, .int .i64 ct, .int .i64 fi, .slice a n c, .int .i64 wc, .bool lk, .bool wt, .bool rt, .int .i64 wb, .int .i64 wn] 26)
  have p0 := Cel.new w 26 #[.int .i64 cr, .int .i64 ch, .int .i64 ma, .int .i64 ct, .int .i64 fi, .slice a n c, .int .i64 wc, .bool lk, .bool wt, .bool rt, .int .i64 wb, .int .i64 wn]
  have hm : n ≤ maxLen := Nat.le_trans hD.le hD.max
  have x1 := fun W (h : Rd W a l n c) => mencode_any cr ch ma ct fi a l n c wc lk wt rt wb wn W (Lib.hid h.len) h.bs h.nil hm
  have x3 := fun W => mvalid_any cr ch ma ct fi a l n c wc lk wt rt wb wn W (Lib.hid hD.len) hm
  simp only [Fr.enc_no hok, Fr.err_no hok] at x1
  simp only [hok] at x3
  have k0 := hD.later b0
  clear hD hm hok
  have m0 := p0.cell 0
  have m1 := p0.cell 1
  have m2 := p0.cell 2
  have m3 := p0.cell 3
  have m4 := p0.cell 4
  have m5 := p0.cell 5
  have m6 := p0.cell 6
  have m7 := p0.cell 7
  have m8 := p0.cell 8
  have m9 := p0.cell 9
  have m10 := p0.cell 10
  have m11 := p0.cell 11
  simp at m0 m1 m2 m3 m4 m5 m6 m7 m8 m9 m10 m11
  go_enter Try.func5, Try.ntmps5
  go_wp2_with fail
  refine (x1 _ k0).mono ?_
  rintro e w1 ⟨v1, rfl, o1, h1⟩
  obtain ⟨A1, c1, rfl, r1⟩ := Rd.of o1 (n := 0) rfl
  have b1 := b0.trans (h1.mono b0.size)
  have p1 := Cel.later p0 h1
  clear x1 h1 p0 b0 o1 k0 r1 m0 m1 m2 m3 m4 m5 m6 m7 m8 m9 m10 m11
  have m0 := p1.cell 0
  have m1 := p1.cell 1
  have m2 := p1.cell 2
  have m3 := p1.cell 3
  have m4 := p1.cell 4
  have m5 := p1.cell 5
  have m6 := p1.cell 6
  have m7 := p1.cell 7
  have m8 := p1.cell 8
  have m9 := p1.cell 9
  have m10 := p1.cell 10
  have m11 := p1.cell 11
  simp at m0 m1 m2 m3 m4 m5 m6 m7 m8 m9 m10 m11
  go_wp2_with fail
  refine (x3 _).mono ?_
  rintro e w2 ⟨rfl, h2⟩
  have b2 := b1.trans (h2.mono b1.size)
  clear x3 h2 p1 b1 m0 m1 m2 m3 m4 m5 m6 m7 m8 m9 m10 m11
  go_wp2_with fail
  refine (lives_any _).mono ?_
  rintro e w3 ⟨rfl, h3⟩
  go_wp2
  go_ret
  exact ⟨rfl, b2.trans (h3.mono b2.size)⟩

set_option maxHeartbeats 4000000 in
theorem tmframeBack_yes (cr ch ma ct fi : Int) (a : Option Addr) (l : List Byte) (n c : Nat) (wc : Int) (lk wt rt : Bool) (wb wn : Int) (w : World) (hD : Rd w a l n c) (hok : Fr.ok ⟨cr, ch, ma, ct, fi, l, ⟨wc, lk, wt, rt, wb, wn⟩⟩ = true) :
    Calls Try.prog 5 #[.agg #[.int .i64 cr, .int .i64 ch, .int .i64 ma, .int .i64 ct, .int .i64 fi, .slice a n c, .int .i64 wc, .bool lk, .bool wt, .bool rt, .int .i64 wb, .int .i64 wn]] w fun e w' => e = .returned (.bool true) ∧ Below w.heap.size w w' := by
  have b0 := bel_new w (.cells #[.int .i64 cr, .int .i64 ch, .int .i64 ma, .int .i64 ct, .int .i64 fi, .slice a n c, .int .i64 wc, .bool lk, .bool wt, .bool rt, .int .i64 wb, .int .i64 wn] 26)
  have p0 := Cel.new w 26 #[.int .i64 cr, .int .i64 ch, .int .i64 ma, .int .i64 ct, .int .i64 fi, .slice a n c, .int .i64 wc, .bool lk, .bool wt, .bool rt, .int .i64 wb, .int .i64 wn]
  have hm : n ≤ maxLen := Nat.le_trans hD.le hD.max
  have x1 := fun W (h : Rd W a l n c) => mencode_any cr ch ma ct fi a l n c wc lk wt rt wb wn W (Lib.hid h.len) h.bs h.nil hm
  have hEl := Fr.enc_len hok
  simp only [hD.len] at hEl
  have hn7 := (Fr.ok_fits hok).2.2.1
  simp only at hn7
  rw [hD.len] at hn7
  have hde := dec_enc hok
  simp only [Fr.err_yes hok] at x1
  obtain ⟨E, hE⟩ : ∃ E, E = Fr.enc ⟨cr, ch, ma, ct, fi, l, ⟨wc, lk, wt, rt, wb, wn⟩⟩ := ⟨_, rfl⟩
  simp only [← hE] at x1 hEl hde
  obtain ⟨M, hM⟩ : ∃ M, M = n + 12 := ⟨_, rfl⟩
  rw [← hM] at hEl
  have x2 := fun W A c (h : Rd W A E M c) => mdecode_any A E M c W h
  simp only [hde.1, hde.2] at x2
  have z1 : ((M : Int) == (n : Int) + 12) = true := by simp; omega
  have hn1 : n ≤ 1012 := hn7.2
  have HEl := Lib.hid hEl
  have HLn := Lib.hid hD.len
  have k0 := hD.later b0
  clear hD hm hok hE hM hde hEl hn7
  have m0 := p0.cell 0
  have m1 := p0.cell 1
  have m2 := p0.cell 2
  have m3 := p0.cell 3
  have m4 := p0.cell 4
  have m5 := p0.cell 5
  have m6 := p0.cell 6
  have m7 := p0.cell 7
  have m8 := p0.cell 8
  have m9 := p0.cell 9
  have m10 := p0.cell 10
  have m11 := p0.cell 11
  simp at m0 m1 m2 m3 m4 m5 m6 m7 m8 m9 m10 m11
  go_enter Try.func5, Try.ntmps5
  go_wp2_with fail
  refine (x1 _ k0).mono ?_
  rintro e w1 ⟨v1, rfl, o1, h1⟩
  obtain ⟨A1, c1, rfl, r1⟩ := Rd.of o1 (n := M) HEl.out
  have b1 := b0.trans (h1.mono b0.size)
  have p1 := Cel.later p0 h1
  have k1 := k0.later h1
  clear x1 h1 p0 b0 o1 k0 m0 m1 m2 m3 m4 m5 m6 m7 m8 m9 m10 m11
  go_wp2_with fail
  refine (x2 _ _ _ r1).mono ?_
  rintro e w2 ⟨v2, rfl, o2, h2⟩
  obtain ⟨A2, c2, rfl, r2⟩ := Rd.of o2 (n := n) HLn.out
  obtain ⟨W2, hW2⟩ : ∃ W2, W2 = w2.alloc (.cells #[.int .i64 cr, .int .i64 ch, .int .i64 ma, .int .i64 ct, .int .i64 fi, .slice A2 n c2, .int .i64 wc, .bool lk, .bool wt, .bool rt, .int .i64 wb, .int .i64 wn] 26) := ⟨_, rfl⟩
  have p2 : Cel W2 w2.heap.size 26 #[.int .i64 cr, .int .i64 ch, .int .i64 ma, .int .i64 ct, .int .i64 fi, .slice A2 n c2, .int .i64 wc, .bool lk, .bool wt, .bool rt, .int .i64 wb, .int .i64 wn] := by rw [hW2]; exact Cel.new _ _ _
  have i2 : Below w2.heap.size w2 W2 := by rw [hW2]; exact bel_new _ _
  have b2 := b1.trans ((h2.trans (i2.mono h2.size)).mono b1.size)
  have p12 := Cel.later (Cel.later p1 h2) i2
  have k12 := (k1.later h2).later i2
  have r2' := r2.later i2
  clear x2 o2 h2 i2 r2 r1 p1 b1 k1
  go_upto_region 5 with fail
  rw [← hW2]
  clear hW2
  have m0 := p12.cell 0
  have m1 := p12.cell 1
  have m2 := p12.cell 2
  have m3 := p12.cell 3
  have m4 := p12.cell 4
  have m5 := p12.cell 5
  have m6 := p12.cell 6
  have m7 := p12.cell 7
  have m8 := p12.cell 8
  have m9 := p12.cell 9
  have m10 := p12.cell 10
  have m11 := p12.cell 11
  simp at m0 m1 m2 m3 m4 m5 m6 m7 m8 m9 m10 m11
  have s0 := p2.cell 0
  have s1 := p2.cell 1
  have s2 := p2.cell 2
  have s3 := p2.cell 3
  have s4 := p2.cell 4
  have s5 := p2.cell 5
  have s6 := p2.cell 6
  have s7 := p2.cell 7
  have s8 := p2.cell 8
  have s9 := p2.cell 9
  have s10 := p2.cell 10
  have s11 := p2.cell 11
  simp at s0 s1 s2 s3 s4 s5 s6 s7 s8 s9 s10 s11
  go_wp2_with fail
  refine (rsame_any cr ch ma ct fi A2 a l n c2 c wc lk wt rt wb wn W2 r2' k12).mono ?_
  rintro e w3 ⟨rfl, h3⟩
  have b3 := b2.trans (h3.mono b2.size)
  clear m0 m1 m2 m3 m4 m5 m6 m7 m8 m9 m10 m11 s0 s1 s2 s3 s4 s5 s6 s7 s8 s9 s10 s11 p12 p2 k12 r2' b2 h3
  go_wp2_with fail
  refine (lives_any _).mono ?_
  rintro e w6 ⟨rfl, h6⟩
  go_wp2
  go_ret
  exact ⟨rfl, b3.trans (h6.mono b3.size)⟩

theorem tmframeBack_walk (cr ch ma ct fi : Int) (a : Option Addr) (l : List Byte) (n c : Nat) (wc : Int) (lk wt rt : Bool) (wb wn : Int) (w : World) (hD : Rd w a l n c) :
    Calls Try.prog 5 #[.agg #[.int .i64 cr, .int .i64 ch, .int .i64 ma, .int .i64 ct, .int .i64 fi, .slice a n c, .int .i64 wc, .bool lk, .bool wt, .bool rt, .int .i64 wb, .int .i64 wn]] w fun e w' => e = .returned (.bool true) ∧ Below w.heap.size w w' := by
  cases hok : Fr.ok ⟨cr, ch, ma, ct, fi, l, ⟨wc, lk, wt, rt, wb, wn⟩⟩ with
  | false => exact tmframeBack_no cr ch ma ct fi a l n c wc lk wt rt wb wn w hD hok
  | true => exact tmframeBack_yes cr ch ma ct fi a l n c wc lk wt rt wb wn w hD hok

set_option maxHeartbeats 4000000 in
theorem tmframeOnce_no (a : Option Addr) (l : List Byte) (n c : Nat) (w : World) (hD : Rd w a l n c) (h0 : deE l ≠ 0) :
    Calls Try.prog 6 #[.slice a n c] w fun e w' => e = .returned (.bool true) ∧ Below w.heap.size w w' := by
  have x1 := mdecode_any a l n c w hD
  rw [de_else h0] at x1
  simp only [noFr, Clc.noCw] at x1
  obtain ⟨q, hq⟩ : ∃ q, q = deE l := ⟨_, rfl⟩
  rw [← hq] at x1 h0
  have j1 : (q != 0) = true := by simpa using h0
  clear hq h0 hD
  go_enter Try.func6, Try.ntmps6
  go_wp2_with fail
  refine x1.mono ?_
  rintro e w1 ⟨v1, rfl, o1, h1⟩
  obtain ⟨A1, c1, rfl, r1⟩ := Rd.of o1 (n := 0) rfl
  obtain ⟨W1, hW1⟩ : ∃ W1, W1 = w1.alloc (.cells #[.int .i64 0, .int .i64 0, .int .i64 0, .int .i64 0, .int .i64 0, .slice A1 0 c1, .int .i64 0, .bool false, .bool false, .bool false, .int .i64 0, .int .i64 0] 26) := ⟨_, rfl⟩
  have p1 : Cel W1 w1.heap.size 26 #[.int .i64 0, .int .i64 0, .int .i64 0, .int .i64 0, .int .i64 0, .slice A1 0 c1, .int .i64 0, .bool false, .bool false, .bool false, .int .i64 0, .int .i64 0] := by rw [hW1]; exact Cel.new _ _ _
  have i1 : Below w1.heap.size w1 W1 := by rw [hW1]; exact bel_new _ _
  have b1 := h1.trans (i1.mono h1.size)
  have r1' := r1.later i1
  clear x1 o1 h1 i1 r1
  go_upto_region 2 with fail
  rw [← hW1]
  clear hW1
  have m0 := p1.cell 0
  have m1 := p1.cell 1
  have m2 := p1.cell 2
  have m3 := p1.cell 3
  have m4 := p1.cell 4
  have m5 := p1.cell 5
  have m6 := p1.cell 6
  have m7 := p1.cell 7
  have m8 := p1.cell 8
  have m9 := p1.cell 9
  have m10 := p1.cell 10
  have m11 := p1.cell 11
  simp at m0 m1 m2 m3 m4 m5 m6 m7 m8 m9 m10 m11
  go_wp2_with fail
  refine (rsame_any 0 0 0 0 0 A1 none [] 0 c1 0 0 false false false 0 0 W1 r1' (Rd_none W1)).mono ?_
  rintro e w3 ⟨rfl, h3⟩
  have b3 := b1.trans (h3.mono b1.size)
  clear m0 m1 m2 m3 m4 m5 m6 m7 m8 m9 m10 m11 p1 r1' b1 h3
  go_wp2_with fail
  refine (lives_any _).mono ?_
  rintro e w6 ⟨rfl, h6⟩
  go_wp2
  go_ret
  exact ⟨rfl, b3.trans (h6.mono b3.size)⟩

set_option maxHeartbeats 4000000 in
theorem tmframeOnce_yes (a : Option Addr) (l : List Byte) (n c : Nat) (w : World) (hD : Rd w a l n c) (h0 : deE l = 0) :
    Calls Try.prog 6 #[.slice a n c] w fun e w' => e = .returned (.bool true) ∧ Below w.heap.size w w' := by
  have x1 := mdecode_any a l n c w hD
  rw [h0] at x1
  obtain ⟨hok, hen⟩ := enc_dec h0
  obtain ⟨P, hP⟩ : ∃ P, P = deP l := ⟨_, rfl⟩
  rw [← hP] at x1 hok hen
  obtain ⟨cr, ch, ma, ct, fi, d, ⟨wc, lk, wt, rt, wb, wn⟩⟩ := P
  simp only at x1
  obtain ⟨M, hM⟩ : ∃ M, M = d.length := ⟨_, rfl⟩
  have hd2 := (Fr.ok_fits hok).2.2.1.2
  simp only at hd2
  have x2 := fun W A k (h : Rd W A d M k) => mencode_any cr ch ma ct fi A d M k wc lk wt rt wb wn W (Lib.hid h.len) h.bs h.nil (by unfold maxLen; omega)
  simp only [hen, Fr.err_yes hok] at x2
  have HM := Lib.hid hM.symm
  have u1 : ((str l).toList == (str l).toList) = true := by simp
  clear hM hok hen h0 hP hd2
  go_enter Try.func6, Try.ntmps6
  go_wp2_with fail
  refine x1.mono ?_
  rintro e w1 ⟨v1, rfl, o1, h1⟩
  obtain ⟨A1, c1, rfl, r1⟩ := Rd.of o1 HM.out
  obtain ⟨W1, hW1⟩ : ∃ W1, W1 = w1.alloc (.cells #[.int .i64 cr, .int .i64 ch, .int .i64 ma, .int .i64 ct, .int .i64 fi, .slice A1 M c1, .int .i64 wc, .bool lk, .bool wt, .bool rt, .int .i64 wb, .int .i64 wn] 26) := ⟨_, rfl⟩
  have p1 : Cel W1 w1.heap.size 26 #[.int .i64 cr, .int .i64 ch, .int .i64 ma, .int .i64 ct, .int .i64 fi, .slice A1 M c1, .int .i64 wc, .bool lk, .bool wt, .bool rt, .int .i64 wb, .int .i64 wn] := by rw [hW1]; exact Cel.new _ _ _
  have i1 : Below w1.heap.size w1 W1 := by rw [hW1]; exact bel_new _ _
  have b1 := h1.trans (i1.mono h1.size)
  have r1' := r1.later i1
  clear x1 o1 h1 i1 r1
  go_upto_region 2 with fail
  rw [← hW1]
  clear hW1
  have m0 := p1.cell 0
  have m1 := p1.cell 1
  have m2 := p1.cell 2
  have m3 := p1.cell 3
  have m4 := p1.cell 4
  have m5 := p1.cell 5
  have m6 := p1.cell 6
  have m7 := p1.cell 7
  have m8 := p1.cell 8
  have m9 := p1.cell 9
  have m10 := p1.cell 10
  have m11 := p1.cell 11
  simp at m0 m1 m2 m3 m4 m5 m6 m7 m8 m9 m10 m11
  go_wp2_with fail
  refine (x2 _ _ _ r1').mono ?_
  rintro e w2 ⟨v2, rfl, o2, h2⟩
  obtain ⟨A2, c2, rfl, r2⟩ := Rd.of o2 (n := n) hD.len
  have b2 := b1.trans (h2.mono b1.size)
  have s1 := r2.conv (Below.refl _ _)
  have s2 := (hD.later b2).conv (Below.refl _ _)
  clear x2 o2 h2 r2 r1' p1 b1 hD m0 m1 m2 m3 m4 m5 m6 m7 m8 m9 m10 m11
  go_wp2_with fail
  refine (lives_any _).mono ?_
  rintro e w6 ⟨rfl, h6⟩
  go_wp2
  go_ret
  exact ⟨rfl, b2.trans (h6.mono b2.size)⟩

theorem tmframeOnce_walk (a : Option Addr) (l : List Byte) (n c : Nat) (w : World) (hD : Rd w a l n c) :
    Calls Try.prog 6 #[.slice a n c] w fun e w' => e = .returned (.bool true) ∧ Below w.heap.size w w' := by
  by_cases h0 : deE l = 0
  · exact tmframeOnce_yes a l n c w hD h0
  · exact tmframeOnce_no a l n c w hD h0
end Go.Proofs.Ytmkmojhhfbokdaa.Tmf

/-
  Plain mathematics: one bit of a byte string inverted; bits within k places. No Go in sight.
-/
namespace Go.Proofs.Ytmkmojhhfbokdaa
open Go.RowKit

theorem Near.step {s x : List Byte} {i k : Nat} (h : Near s x i k) : Near s x i (k + 1) := ⟨h.1, fun p hp => h.2 p (by omega)⟩
theorem one_bit : ∀ m t : Fin 8, (1#8 <<< m.val).getLsbD t.val = decide (m = t) := by decide +kernel
theorem Near.flip {s x : List Byte} {i k : Nat} (h : Near s x i k) (hq : (i + k) / 8 < x.length) :
    Near s (x.set ((i + k) / 8) (x[(i + k) / 8] ^^^ (1#8 <<< (7 - (i + k) % 8)))) i (k + 1) := by
  refine ⟨by rw [List.length_set]; exact h.1, fun p hp => ?_⟩
  rw [← h.2 p (by omega)]
  unfold bitC
  rw [List.getElem?_set]
  by_cases e : (i + k) / 8 = p / 8
  · rw [if_pos e]
    have hp8 : p / 8 < x.length := by omega
    rw [if_pos hq, List.getElem?_eq_getElem hp8]
    simp only [Option.getD_some, BitVec.getLsbD_xor]
    have hb := one_bit ⟨7 - (i + k) % 8, by omega⟩ ⟨7 - p % 8, by omega⟩
    rw [decide_eq_false (by simp; omega)] at hb
    simp only at hb
    rw [hb]
    simp [e]
  · rw [if_neg e]

theorem flip_byte (x : Byte) (m : Nat) (hm : m < 8) : bits .xor .u8 (x.toNat : Int) (2 ^ m % 256) = ((x ^^^ (1#8 <<< m)).toNat : Int) := by
  have e : (2 ^ m % 256 : Int) = ((1#8 <<< m).toNat : Int) := by
    have : ∀ m : Fin 8, (2 ^ m.val % 256 : Int) = ((1#8 <<< m.val).toNat : Int) := by decide +kernel
    exact this ⟨m, hm⟩
  rw [e, u8_xor_nat _ _ x.isLt (BitVec.isLt _), BitVec.toNat_xor]

end Go.Proofs.Ytmkmojhhfbokdaa
