/-
  The walk of the reference's Decode of layer 15.
-/
import Derived.Test.YtmfiklofmjaldaaRef15a
namespace Go.Proofs.Ytmfiklofmjaldaa.Clc
open Go.RowKit Go.Proofs.Ytmfiklofmjaldaa.Pac

theorem zde_results {tmps : Array Value} {W : World} {g : Nat} {e : Int} {ch : Int} {lk wt rt : Bool} {bp nx : Int} (h2 : tmps.getD 2 undef = .pointer (some ⟨g, 0, none⟩)) (h3 : tmps.getD 3 undef = .int .i64 e)
    (hC : Cel W g 23 #[.int .i64 ch, .bool lk, .bool wt, .bool rt, .int .i64 bp, .int .i64 nx]) :
    (results Try.f13 tmps).run Try.prog W = .ok (.tuple #[.agg #[.int .i64 ch, .bool lk, .bool wt, .bool rt, .int .i64 bp, .int .i64 nx], .int .i64 e]) W := by
  have c0 := hC.cell 0
  have c1 := hC.cell 1
  have c2 := hC.cell 2
  have c3 := hC.cell 3
  have c4 := hC.cell 4
  have c5 := hC.cell 5
  simp at c0 c1 c2 c3 c4 c5
  simp only [Array.getD_eq_getD_getElem?] at h2 h3
  simp [results, Try.results13, go_sem, h2, h3, c0, c1, c2, c3, c4, c5]

set_option maxHeartbeats 2000000 in
theorem zdecode_short (a : Option Addr) (n c : Nat) (w : World) (h : n < 4) :
    Calls Try.prog 13 #[.slice a n c] w fun e w' => e = .returned (.tuple #[.agg #[.int .i64 0, .bool false, .bool false, .bool false, .int .i64 0, .int .i64 0], .int .i64 3]) ∧ Below w.heap.size w w' := by
  have b0 := bel_new w (.cells #[.int .i64 0, .bool false, .bool false, .bool false, .int .i64 0, .int .i64 0] 23)
  have hR0 := Cel.new w 23 #[.int .i64 0, .bool false, .bool false, .bool false, .int .i64 0, .int .i64 0]
  have g1 : decide ((n : Int) < 4) = true := by simp; omega
  have g2 : decide (n < 4) = true := by simp; omega
  clear h
  have c0 := hR0.cell 0
  have c1 := hR0.cell 1
  have c2 := hR0.cell 2
  have c3 := hR0.cell 3
  have c4 := hR0.cell 4
  have c5 := hR0.cell 5
  simp at c0 c1 c2 c3 c4 c5
  have f0 := hR0.free 0
  have f1 := hR0.free 1
  have f2 := hR0.free 2
  have f3 := hR0.free 3
  have f4 := hR0.free 4
  have f5 := hR0.free 5
  go_enter Try.func13, Try.ntmps13
  go_wp2
  exact bodyPost_ret (zde_results rfl rfl hR0) rfl ⟨rfl, b0⟩

set_option maxHeartbeats 2000000 in
theorem zdecode_long (a : Option Addr) (n c : Nat) (w : World) (h : 4 < n) :
    Calls Try.prog 13 #[.slice a n c] w fun e w' => e = .returned (.tuple #[.agg #[.int .i64 0, .bool false, .bool false, .bool false, .int .i64 0, .int .i64 0], .int .i64 6]) ∧ Below w.heap.size w w' := by
  have b0 := bel_new w (.cells #[.int .i64 0, .bool false, .bool false, .bool false, .int .i64 0, .int .i64 0] 23)
  have hR0 := Cel.new w 23 #[.int .i64 0, .bool false, .bool false, .bool false, .int .i64 0, .int .i64 0]
  have g1 : decide ((n : Int) < 4) = false := by simp; omega
  have g2 : decide (n < 4) = false := by simp; omega
  have g3 : decide ((4 : Int) < (n : Int)) = true := by simp; omega
  have g4 : decide (4 < n) = true := by simp; omega
  clear h
  have c0 := hR0.cell 0
  have c1 := hR0.cell 1
  have c2 := hR0.cell 2
  have c3 := hR0.cell 3
  have c4 := hR0.cell 4
  have c5 := hR0.cell 5
  simp at c0 c1 c2 c3 c4 c5
  have f0 := hR0.free 0
  have f1 := hR0.free 1
  have f2 := hR0.free 2
  have f3 := hR0.free 3
  have f4 := hR0.free 4
  have f5 := hR0.free 5
  go_enter Try.func13, Try.ntmps13
  go_wp2
  exact bodyPost_ret (zde_results rfl rfl hR0) rfl ⟨rfl, b0⟩

set_option maxHeartbeats 2000000 in
theorem zdecode_bad (a : Option Addr) (l : List Byte) (c : Nat) (w : World) (hD : Rd w a l 4 c) (hok : (rd l).ok = false) :
    Calls Try.prog 13 #[.slice a 4 c] w fun e w' => e = .returned (.tuple #[.agg #[.int .i64 0, .bool false, .bool false, .bool false, .int .i64 0, .int .i64 0], .int .i64 4]) ∧ Below w.heap.size w w' := by
  have b0 := bel_new w (.cells #[.int .i64 0, .bool false, .bool false, .bool false, .int .i64 0, .int .i64 0] 23)
  have hR0 := Cel.new w 23 #[.int .i64 0, .bool false, .bool false, .bool false, .int .i64 0, .int .i64 0]
  have hlen := hD.len
  obtain ⟨b, off, rfl, hltb, hcell⟩ := hD.at_ (by decide)
  have hat : ∀ k, k < 4 → w.cell? ⟨b, off + k, none⟩ = some (.int .u8 ((b8 l k : Nat) : Int)) := fun k hk => by
    have hx : l[k]? = some (l[k]'(by omega)) := List.getElem?_eq_getElem (by omega)
    rw [hcell k _ hx, b8_at hx]
  have k1 := hat 1 (by decide)
  have k2 := (b0.cell (p := ⟨b, off + 2, none⟩) hltb).trans (hat 2 (by decide))
  have k3 := hat 3 (by decide)
  have z1 := b8_lt l 1
  have z2 := b8_lt l 2
  have z3 := b8_lt l 3
  obtain ⟨Y1, q1⟩ : ∃ Y, Y = b8 l 1 := ⟨_, rfl⟩
  obtain ⟨Y2, q2⟩ : ∃ Y, Y = b8 l 2 := ⟨_, rfl⟩
  obtain ⟨Y3, q3⟩ : ∃ Y, Y = b8 l 3 := ⟨_, rfl⟩
  have hrd : rd l = ⟨((b8 l 1 / 4 : Nat) : Int), decide (b8 l 2 / 32 % 2 = 1), decide (b8 l 2 / 16 % 2 = 1), decide (b8 l 2 / 8 % 2 = 1), ((b8 l 2 / 2 % 4 : Nat) : Int), ((b8 l 3 : Nat) : Int)⟩ := rfl
  rw [← q1, ← q2, ← q3] at hrd
  rw [← q1] at k1 z1
  rw [← q2] at k2 z2
  rw [← q3] at k3 z3
  have HL := Lib.hid hlen
  obtain ⟨C, qC⟩ : ∃ C, C = Y1 / 4 := ⟨_, rfl⟩
  obtain ⟨D1, qD1⟩ : ∃ D, D = Y2 / 32 := ⟨_, rfl⟩
  obtain ⟨D2, qD2⟩ : ∃ D, D = Y2 / 16 := ⟨_, rfl⟩
  obtain ⟨D3, qD3⟩ : ∃ D, D = Y2 / 8 := ⟨_, rfl⟩
  obtain ⟨D4, qD4⟩ : ∃ D, D = Y2 / 2 := ⟨_, rfl⟩
  obtain ⟨m1, qm1⟩ : ∃ m, m = D1 % 2 := ⟨_, rfl⟩
  obtain ⟨m2, qm2⟩ : ∃ m, m = D2 % 2 := ⟨_, rfl⟩
  obtain ⟨m3, qm3⟩ : ∃ m, m = D3 % 2 := ⟨_, rfl⟩
  obtain ⟨B, qB⟩ : ∃ B, B = D4 % 4 := ⟨_, rfl⟩
  obtain ⟨lk, qlk⟩ : ∃ b, b = decide (m1 = 1) := ⟨_, rfl⟩
  obtain ⟨wt, qwt⟩ : ∃ b, b = decide (m2 = 1) := ⟨_, rfl⟩
  obtain ⟨rt, qrt⟩ : ∃ b, b = decide (m3 = 1) := ⟨_, rfl⟩
  rw [← qC, ← qD1, ← qD2, ← qD3, ← qD4, ← qm1, ← qm2, ← qm3, ← qB, ← qlk, ← qwt, ← qrt] at hrd
  have i1 := from_u64 Y1 (by omega)
  have i3 := from_u64 Y3 (by omega)
  have i2 : IntKind.i64.wrap (Y2 : Int) = (Y2 : Int) := from_u64 Y2 (by omega)
  have a1 : IntKind.i64.wrap ((Y1 : Int) / 4) = (C : Int) := by rw [i64_in (by omega) (by omega)]; omega
  have a2 : IntKind.i64.wrap ((Y2 : Int) / 32) = (D1 : Int) := by rw [i64_in (by omega) (by omega)]; omega
  have a3 : IntKind.i64.wrap ((Y2 : Int) / 16) = (D2 : Int) := by rw [i64_in (by omega) (by omega)]; omega
  have a4 : IntKind.i64.wrap ((Y2 : Int) / 8) = (D3 : Int) := by rw [i64_in (by omega) (by omega)]; omega
  have a5 : IntKind.i64.wrap ((Y2 : Int) / 2) = (D4 : Int) := by rw [i64_in (by omega) (by omega)]; omega
  have t1 : (Y1 : Int).tdiv 4 = (Y1 : Int) / 4 := Int.tdiv_eq_ediv_of_nonneg (by omega)
  have u1 : (D1 : Int).tmod 2 = (m1 : Int) := by rw [Int.tmod_eq_emod_of_nonneg (by omega)]; omega
  have u2 : (D2 : Int).tmod 2 = (m2 : Int) := by rw [Int.tmod_eq_emod_of_nonneg (by omega)]; omega
  have u3 : (D3 : Int).tmod 2 = (m3 : Int) := by rw [Int.tmod_eq_emod_of_nonneg (by omega)]; omega
  have u4 : (D4 : Int).tmod 4 = (B : Int) := by rw [Int.tmod_eq_emod_of_nonneg (by omega)]; omega
  have v1 : (D1 : Int) % 2 = (m1 : Int) := by omega
  have v2 : (D2 : Int) % 2 = (m2 : Int) := by omega
  have v3 : (D3 : Int) % 2 = (m3 : Int) := by omega
  have v4 : (D4 : Int) % 4 = (B : Int) := by omega
  have j1 : ((m1 : Int) == 1) = lk := by rw [qlk, Bool.eq_iff_iff]; simp; omega
  have j2 : ((m2 : Int) == 1) = wt := by rw [qwt, Bool.eq_iff_iff]; simp; omega
  have j3 : ((m3 : Int) == 1) = rt := by rw [qrt, Bool.eq_iff_iff]; simp; omega
  rw [hrd] at hok
  have hen := fun W => zencode_any (C : Int) lk wt rt (B : Int) (Y3 : Int) W
  clear q1 q2 q3 hat hcell hlen qC qD1 qD2 qD3 qD4 qm1 qm2 qm3 qB qlk qwt qrt
  simp only [Cw.err_no hok, Cw.enc_no hok] at hen
  have hel : ([] : List Byte).length = 0 := rfl
  clear hrd hok
  go_enter Try.func13, Try.ntmps13
  go_wp2_with fail
  refine wp_region_held_drew (S := (fun w' => w'.cell? ⟨b, off + 1, none⟩ = some (.int .u8 (Y1 : Int)) ∧ w'.cell? ⟨b, off + 3, none⟩ = some (.int .u8 (Y3 : Int)))) (by kernel_rfl) (⟨(b0.cell (p := ⟨b, off + 1, none⟩) hltb).trans k1, (b0.cell (p := ⟨b, off + 3, none⟩) hltb).trans k3⟩) (fun hHeld => ?_)
  refine wpAnyH_here 0 (v := ?_) rfl (by kernel_rfl) (by kernel_rfl) (by kernel_rfl) (fun _ _ _ h => h) (Or.inl ⟨by rfl, ?_⟩) hHeld ?_
  rotate_left
  · intro w hSw; (try dsimp only at hSw); go_simp; all_goals (with_reducible rfl)
  try simp only [Act.put, List.setIfInBounds_toArray, List.set_cons_zero, List.set_cons_succ]
  refine wpAnyH_here 1 (v := ?_) rfl (by kernel_rfl) (by kernel_rfl) (by kernel_rfl) (fun _ _ _ h => h) (Or.inl ⟨by rfl, ?_⟩) hHeld ?_
  rotate_left
  · intro w hSw; (try dsimp only at hSw); go_simp; all_goals (with_reducible rfl)
  try simp only [Act.put, List.setIfInBounds_toArray, List.set_cons_zero, List.set_cons_succ]
  refine wpAnyH_here 2 (v := ?_) rfl (by kernel_rfl) (by kernel_rfl) (by kernel_rfl) (fun _ _ _ h => h) (Or.inl ⟨by rfl, ?_⟩) hHeld ?_
  rotate_left
  · intro w hSw; (try dsimp only at hSw); go_simp; all_goals (with_reducible rfl)
  try simp only [Act.put, List.setIfInBounds_toArray, List.set_cons_zero, List.set_cons_succ]
  refine wpAnyH_here 3 (v := ?_) rfl (by kernel_rfl) (by kernel_rfl) (by kernel_rfl) (fun _ _ _ h => h) (Or.inl ⟨by rfl, ?_⟩) hHeld ?_
  rotate_left
  · intro w hSw; (try dsimp only at hSw); go_simp; all_goals (with_reducible rfl)
  try simp only [Act.put, List.setIfInBounds_toArray, List.set_cons_zero, List.set_cons_succ]
  refine wpAnyH_here 4 (v := ?_) rfl (by kernel_rfl) (by kernel_rfl) (by kernel_rfl) (fun _ _ _ h => h) (Or.inl ⟨by rfl, ?_⟩) hHeld ?_
  rotate_left
  · intro w hSw; (try dsimp only at hSw); go_simp; all_goals (with_reducible rfl)
  try simp only [Act.put, List.setIfInBounds_toArray, List.set_cons_zero, List.set_cons_succ]
  refine wpAnyH_here 5 (v := ?_) rfl (by kernel_rfl) (by kernel_rfl) (by kernel_rfl) (fun _ _ _ h => h) (Or.inl ⟨by rfl, ?_⟩) hHeld ?_
  rotate_left
  · intro w hSw; (try dsimp only at hSw); go_simp; all_goals (with_reducible rfl)
  try simp only [Act.put, List.setIfInBounds_toArray, List.set_cons_zero, List.set_cons_succ]
  refine wpAnyH_here 6 (v := ?_) rfl (by kernel_rfl) (by kernel_rfl) (by kernel_rfl) (fun _ _ _ h => h) (Or.inl ⟨by rfl, ?_⟩) hHeld ?_
  rotate_left
  · intro w hSw; (try dsimp only at hSw); go_simp; all_goals (with_reducible rfl)
  try simp only [Act.put, List.setIfInBounds_toArray, List.set_cons_zero, List.set_cons_succ]
  refine wpAnyH_here 7 (v := ?_) rfl (by kernel_rfl) (by kernel_rfl) (by kernel_rfl) (fun _ _ _ h => h) (Or.inl ⟨by rfl, ?_⟩) hHeld ?_
  rotate_left
  · intro w hSw; (try dsimp only at hSw); go_simp; all_goals (with_reducible rfl)
  try simp only [Act.put, List.setIfInBounds_toArray, List.set_cons_zero, List.set_cons_succ]
  refine wpAnyH_here 8 (v := ?_) rfl (by kernel_rfl) (by kernel_rfl) (by kernel_rfl) (fun _ _ _ h => h) (Or.inl ⟨by rfl, ?_⟩) hHeld ?_
  rotate_left
  · intro w hSw; (try dsimp only at hSw); go_simp; all_goals (with_reducible rfl)
  try simp only [Act.put, List.setIfInBounds_toArray, List.set_cons_zero, List.set_cons_succ]
  refine wpAnyH_here 9 (v := ?_) rfl (by kernel_rfl) (by kernel_rfl) (by kernel_rfl) (fun _ _ _ h => h) (Or.inl ⟨by rfl, ?_⟩) hHeld ?_
  rotate_left
  · intro w hSw; (try dsimp only at hSw); go_simp; all_goals (with_reducible rfl)
  try simp only [Act.put, List.setIfInBounds_toArray, List.set_cons_zero, List.set_cons_succ]
  refine wpAnyH_here 10 (v := ?_) rfl (by kernel_rfl) (by kernel_rfl) (by kernel_rfl) (fun _ _ _ h => h) (Or.inl ⟨by rfl, ?_⟩) hHeld ?_
  rotate_left
  · intro w hSw; (try dsimp only at hSw); go_simp; all_goals (with_reducible rfl)
  try simp only [Act.put, List.setIfInBounds_toArray, List.set_cons_zero, List.set_cons_succ]
  refine wpAnyH_here 11 (v := ?_) rfl (by kernel_rfl) (by kernel_rfl) (by kernel_rfl) (fun _ _ _ h => h) (Or.inl ⟨by rfl, ?_⟩) hHeld ?_
  rotate_left
  · intro w hSw; (try dsimp only at hSw); go_simp; all_goals (with_reducible rfl)
  try simp only [Act.put, List.setIfInBounds_toArray, List.set_cons_zero, List.set_cons_succ]
  refine wpAnyH_here 12 (v := ?_) rfl (by kernel_rfl) (by kernel_rfl) (by kernel_rfl) (fun _ _ _ h => h) (Or.inl ⟨by rfl, ?_⟩) hHeld ?_
  rotate_left
  · intro w hSw; (try dsimp only at hSw); go_simp; all_goals (with_reducible rfl)
  try simp only [Act.put, List.setIfInBounds_toArray, List.set_cons_zero, List.set_cons_succ]
  refine wpAnyH_here 13 (v := ?_) rfl (by kernel_rfl) (by kernel_rfl) (by kernel_rfl) (fun _ _ _ h => h) (Or.inl ⟨by rfl, ?_⟩) hHeld ?_
  rotate_left
  · intro w hSw; (try dsimp only at hSw); go_simp; all_goals (with_reducible rfl)
  try simp only [Act.put, List.setIfInBounds_toArray, List.set_cons_zero, List.set_cons_succ]
  refine wpAnyH_here 14 (v := ?_) rfl (by kernel_rfl) (by kernel_rfl) (by kernel_rfl) (fun _ _ _ h => h) (Or.inl ⟨by rfl, ?_⟩) hHeld ?_
  rotate_left
  · intro w hSw; (try dsimp only at hSw); go_simp; all_goals (with_reducible rfl)
  try simp only [Act.put, List.setIfInBounds_toArray, List.set_cons_zero, List.set_cons_succ]
  refine wpAnyH_here 15 (v := ?_) rfl (by kernel_rfl) (by kernel_rfl) (by kernel_rfl) (fun _ _ _ h => h) (Or.inl ⟨by rfl, ?_⟩) hHeld ?_
  rotate_left
  · intro w hSw; (try dsimp only at hSw); go_simp; all_goals (with_reducible rfl)
  try simp only [Act.put, List.setIfInBounds_toArray, List.set_cons_zero, List.set_cons_succ]
  refine wpAnyH_here 16 (v := ?_) rfl (by kernel_rfl) (by kernel_rfl) (by kernel_rfl) (fun _ _ _ h => h) (Or.inl ⟨by rfl, ?_⟩) hHeld ?_
  rotate_left
  · intro w hSw; (try dsimp only at hSw); go_simp; all_goals (with_reducible rfl)
  try simp only [Act.put, List.setIfInBounds_toArray, List.set_cons_zero, List.set_cons_succ]
  refine wpAnyH_here 17 (v := ?_) rfl (by kernel_rfl) (by kernel_rfl) (by kernel_rfl) (fun _ _ _ h => h) (Or.inl ⟨by rfl, ?_⟩) hHeld ?_
  rotate_left
  · intro w hSw; (try dsimp only at hSw); go_simp; all_goals (with_reducible rfl)
  try simp only [Act.put, List.setIfInBounds_toArray, List.set_cons_zero, List.set_cons_succ]
  refine wpAnyH_here 18 (v := ?_) rfl (by kernel_rfl) (by kernel_rfl) (by kernel_rfl) (fun _ _ _ h => h) (Or.inl ⟨by rfl, ?_⟩) hHeld ?_
  rotate_left
  · intro w hSw; (try dsimp only at hSw); go_simp; all_goals (with_reducible rfl)
  try simp only [Act.put, List.setIfInBounds_toArray, List.set_cons_zero, List.set_cons_succ]
  refine wpAnyH_here 19 (v := ?_) rfl (by kernel_rfl) (by kernel_rfl) (by kernel_rfl) (fun _ _ _ h => h) (Or.inl ⟨by rfl, ?_⟩) hHeld ?_
  rotate_left
  · intro w hSw; (try dsimp only at hSw); go_simp; all_goals (with_reducible rfl)
  try simp only [Act.put, List.setIfInBounds_toArray, List.set_cons_zero, List.set_cons_succ]
  refine wpAnyH_here 20 (v := ?_) rfl (by kernel_rfl) (by kernel_rfl) (by kernel_rfl) (fun _ _ _ h => h) (Or.inl ⟨by rfl, ?_⟩) hHeld ?_
  rotate_left
  · intro w hSw; (try dsimp only at hSw); go_simp; all_goals (with_reducible rfl)
  try simp only [Act.put, List.setIfInBounds_toArray, List.set_cons_zero, List.set_cons_succ]
  refine wpAnyH_here 21 (v := ?_) rfl (by kernel_rfl) (by kernel_rfl) (by kernel_rfl) (fun _ _ _ h => h) (Or.inl ⟨by rfl, ?_⟩) hHeld ?_
  rotate_left
  · intro w hSw; (try dsimp only at hSw); go_simp; all_goals (with_reducible rfl)
  try simp only [Act.put, List.setIfInBounds_toArray, List.set_cons_zero, List.set_cons_succ]
  refine wpAnyH_here 22 (v := ?_) rfl (by kernel_rfl) (by kernel_rfl) (by kernel_rfl) (fun _ _ _ h => h) (Or.inl ⟨by rfl, ?_⟩) hHeld ?_
  rotate_left
  · intro w hSw; (try dsimp only at hSw); go_simp; all_goals (with_reducible rfl)
  try simp only [Act.put, List.setIfInBounds_toArray, List.set_cons_zero, List.set_cons_succ]
  refine wpAnyH_here 23 (v := ?_) rfl (by kernel_rfl) (by kernel_rfl) (by kernel_rfl) (fun _ _ _ h => h) (Or.inl ⟨by rfl, ?_⟩) hHeld ?_
  rotate_left
  · intro w hSw; (try dsimp only at hSw); go_simp; all_goals (with_reducible rfl)
  try simp only [Act.put, List.setIfInBounds_toArray, List.set_cons_zero, List.set_cons_succ]
  refine wpAnyH_here 24 (v := ?_) rfl (by kernel_rfl) (by kernel_rfl) (by kernel_rfl) (fun _ _ _ h => h) (Or.inl ⟨by rfl, ?_⟩) hHeld ?_
  rotate_left
  · intro w hSw; (try dsimp only at hSw); go_simp; all_goals (with_reducible rfl)
  try simp only [Act.put, List.setIfInBounds_toArray, List.set_cons_zero, List.set_cons_succ]
  have HB : Below w.heap.size w ((w.alloc (.cells #[.int .i64 0, .bool false, .bool false, .bool false, .int .i64 0, .int .i64 0] 23)).alloc (.cells #[.int .i64 0, .bool false, .bool false, .bool false, .int .i64 0, .int .i64 0] 23)).drew := (b0.alloc b0.size _).drew
  refine wpAnyH_alone 25 rfl (by kernel_rfl) (fun K hK => ?_)
  go_simp
  skip
  refine hK.out _ _ (⟨(HB.cell (p := ⟨b, off + 1, none⟩) hltb).trans k1, (HB.cell (p := ⟨b, off + 3, none⟩) hltb).trans k3⟩) (fun hHeld => ?_)
  clear hK K
  try simp only [Act.put, List.setIfInBounds_toArray, List.set_cons_zero, List.set_cons_succ]
  obtain ⟨W1, hW1⟩ : ∃ W1, W1 = ((w.alloc (.cells #[.int .i64 0, .bool false, .bool false, .bool false, .int .i64 0, .int .i64 0] 23)).alloc (.cells #[.int .i64 0, .bool false, .bool false, .bool false, .int .i64 0, .int .i64 0] 23)).drew := ⟨_, rfl⟩
  have hP1 : Cel W1 (w.heap.size + 1) 23 #[.int .i64 0, .bool false, .bool false, .bool false, .int .i64 0, .int .i64 0] := by
    rw [hW1]
    have e : (w.alloc (.cells #[.int .i64 0, .bool false, .bool false, .bool false, .int .i64 0, .int .i64 0] 23)).heap.size = w.heap.size + 1 := by simp
    have h := Cel.new (w.alloc (.cells #[.int .i64 0, .bool false, .bool false, .bool false, .int .i64 0, .int .i64 0] 23)) 23 #[.int .i64 0, .bool false, .bool false, .bool false, .int .i64 0, .int .i64 0]
    rw [e] at h
    exact h
  have hR1 : Cel W1 w.heap.size 23 #[.int .i64 0, .bool false, .bool false, .bool false, .int .i64 0, .int .i64 0] := by rw [hW1]; exact Cel.later hR0 (bel_new _ _).drew
  have hB1 : Below w.heap.size w W1 := by rw [hW1]; exact HB
  rw [← hW1] at hHeld ⊢
  clear hW1 HB hR0 b0 k2
  have c0 := hP1.cell 0
  have c1 := hP1.cell 1
  have c2 := hP1.cell 2
  have c3 := hP1.cell 3
  have c4 := hP1.cell 4
  have c5 := hP1.cell 5
  simp at c0 c1 c2 c3 c4 c5
  have f0 := hP1.free 0
  have f1 := hP1.free 1
  have f2 := hP1.free 2
  have f3 := hP1.free 3
  have f4 := hP1.free 4
  have f5 := hP1.free 5
  refine wpAnyH_alone 26 rfl (by kernel_rfl) (fun K hK => ?_)
  go_simp
  skip
  refine hK.out _ _ (⟨((put6_below hB1 (Nat.le_succ _) (.int .i64 (C : Int)) (.bool lk) (.bool wt) (.bool rt) (.int .i64 (B : Int)) (.int .i64 (Y3 : Int))).cell (p := ⟨b, off + 1, none⟩) hltb).trans k1, ((put6_below hB1 (Nat.le_succ _) (.int .i64 (C : Int)) (.bool lk) (.bool wt) (.bool rt) (.int .i64 (B : Int)) (.int .i64 (Y3 : Int))).cell (p := ⟨b, off + 3, none⟩) hltb).trans k3⟩) (fun hHeld => ?_)
  clear hK K
  try simp only [Act.put, List.setIfInBounds_toArray, List.set_cons_zero, List.set_cons_succ]
  refine wpAnyH_done (by kernel_rfl) ?_ _
  obtain ⟨W2, hW2⟩ : ∃ W2, W2 = put6 W1 (w.heap.size + 1) (.int .i64 (C : Int)) (.bool lk) (.bool wt) (.bool rt) (.int .i64 (B : Int)) (.int .i64 (Y3 : Int)) := ⟨_, rfl⟩
  have hP2 : Cel W2 (w.heap.size + 1) 23 #[.int .i64 (C : Int), .bool lk, .bool wt, .bool rt, .int .i64 (B : Int), .int .i64 (Y3 : Int)] := by rw [hW2]; exact put6_cel hP1 _ _ _ _ _ _
  have hR2 : Cel W2 w.heap.size 23 #[.int .i64 0, .bool false, .bool false, .bool false, .int .i64 0, .int .i64 0] := by rw [hW2]; exact hR1.only (put6_only _ _ _ _ _ _ _ _) (by simp)
  have hB2 : Below w.heap.size w W2 := by rw [hW2]; exact put6_below hB1 (Nat.le_succ _) _ _ _ _ _ _
  unfold put6 at hW2
  clear c0 c1 c2 c3 c4 c5 f0 f1 f2 f3 f4 f5 hP1 hR1 hB1 k1 k3 hHeld
  rw [← hW2]
  clear hW2
  have c0 := hP2.cell 0
  have c1 := hP2.cell 1
  have c2 := hP2.cell 2
  have c3 := hP2.cell 3
  have c4 := hP2.cell 4
  have c5 := hP2.cell 5
  simp at c0 c1 c2 c3 c4 c5
  go_wp2_with fail
  refine (hen W2).mono ?_
  rintro e w5 ⟨v, rfl, hown, hb5⟩
  obtain ⟨A5, c5', rfl, r5⟩ := Rd.of hown hel
  have hR5 := Cel.later hR2 hb5
  have hP5 := Cel.later hP2 hb5
  have bel5 := hB2.trans (hb5.mono hB2.size)
  have hD5 := hD.later bel5
  clear hen hown hb5 hR2 hP2 hB2 c0 c1 c2 c3 c4 c5 hD
  clear r5 hD5
  have c0 := hR5.cell 0
  have c1 := hR5.cell 1
  have c2 := hR5.cell 2
  have c3 := hR5.cell 3
  have c4 := hR5.cell 4
  have c5 := hR5.cell 5
  simp at c0 c1 c2 c3 c4 c5
  have f0 := hR5.free 0
  have f1 := hR5.free 1
  have f2 := hR5.free 2
  have f3 := hR5.free 3
  have f4 := hR5.free 4
  have f5 := hR5.free 5
  go_wp2
  exact bodyPost_ret (zde_results rfl rfl (put6_cel hR5 (.int .i64 0) (.bool false) (.bool false) (.bool false) (.int .i64 0) (.int .i64 0))) rfl ⟨rfl, put6_below bel5 (Nat.le_refl _) _ _ _ _ _ _⟩

set_option maxHeartbeats 2000000 in
theorem zdecode_form (a : Option Addr) (l : List Byte) (c : Nat) (w : World) (hD : Rd w a l 4 c) (hok : (rd l).ok = true) (hne : (rd l).enc ≠ l) :
    Calls Try.prog 13 #[.slice a 4 c] w fun e w' => e = .returned (.tuple #[.agg #[.int .i64 0, .bool false, .bool false, .bool false, .int .i64 0, .int .i64 0], .int .i64 4]) ∧ Below w.heap.size w w' := by
  have b0 := bel_new w (.cells #[.int .i64 0, .bool false, .bool false, .bool false, .int .i64 0, .int .i64 0] 23)
  have hR0 := Cel.new w 23 #[.int .i64 0, .bool false, .bool false, .bool false, .int .i64 0, .int .i64 0]
  have hlen := hD.len
  obtain ⟨b, off, rfl, hltb, hcell⟩ := hD.at_ (by decide)
  have hat : ∀ k, k < 4 → w.cell? ⟨b, off + k, none⟩ = some (.int .u8 ((b8 l k : Nat) : Int)) := fun k hk => by
    have hx : l[k]? = some (l[k]'(by omega)) := List.getElem?_eq_getElem (by omega)
    rw [hcell k _ hx, b8_at hx]
  have k1 := hat 1 (by decide)
  have k2 := (b0.cell (p := ⟨b, off + 2, none⟩) hltb).trans (hat 2 (by decide))
  have k3 := hat 3 (by decide)
  have z1 := b8_lt l 1
  have z2 := b8_lt l 2
  have z3 := b8_lt l 3
  obtain ⟨Y1, q1⟩ : ∃ Y, Y = b8 l 1 := ⟨_, rfl⟩
  obtain ⟨Y2, q2⟩ : ∃ Y, Y = b8 l 2 := ⟨_, rfl⟩
  obtain ⟨Y3, q3⟩ : ∃ Y, Y = b8 l 3 := ⟨_, rfl⟩
  have hrd : rd l = ⟨((b8 l 1 / 4 : Nat) : Int), decide (b8 l 2 / 32 % 2 = 1), decide (b8 l 2 / 16 % 2 = 1), decide (b8 l 2 / 8 % 2 = 1), ((b8 l 2 / 2 % 4 : Nat) : Int), ((b8 l 3 : Nat) : Int)⟩ := rfl
  rw [← q1, ← q2, ← q3] at hrd
  rw [← q1] at k1 z1
  rw [← q2] at k2 z2
  rw [← q3] at k3 z3
  have HL := Lib.hid hlen
  obtain ⟨C, qC⟩ : ∃ C, C = Y1 / 4 := ⟨_, rfl⟩
  obtain ⟨D1, qD1⟩ : ∃ D, D = Y2 / 32 := ⟨_, rfl⟩
  obtain ⟨D2, qD2⟩ : ∃ D, D = Y2 / 16 := ⟨_, rfl⟩
  obtain ⟨D3, qD3⟩ : ∃ D, D = Y2 / 8 := ⟨_, rfl⟩
  obtain ⟨D4, qD4⟩ : ∃ D, D = Y2 / 2 := ⟨_, rfl⟩
  obtain ⟨m1, qm1⟩ : ∃ m, m = D1 % 2 := ⟨_, rfl⟩
  obtain ⟨m2, qm2⟩ : ∃ m, m = D2 % 2 := ⟨_, rfl⟩
  obtain ⟨m3, qm3⟩ : ∃ m, m = D3 % 2 := ⟨_, rfl⟩
  obtain ⟨B, qB⟩ : ∃ B, B = D4 % 4 := ⟨_, rfl⟩
  obtain ⟨lk, qlk⟩ : ∃ b, b = decide (m1 = 1) := ⟨_, rfl⟩
  obtain ⟨wt, qwt⟩ : ∃ b, b = decide (m2 = 1) := ⟨_, rfl⟩
  obtain ⟨rt, qrt⟩ : ∃ b, b = decide (m3 = 1) := ⟨_, rfl⟩
  rw [← qC, ← qD1, ← qD2, ← qD3, ← qD4, ← qm1, ← qm2, ← qm3, ← qB, ← qlk, ← qwt, ← qrt] at hrd
  have i1 := from_u64 Y1 (by omega)
  have i3 := from_u64 Y3 (by omega)
  have i2 : IntKind.i64.wrap (Y2 : Int) = (Y2 : Int) := from_u64 Y2 (by omega)
  have a1 : IntKind.i64.wrap ((Y1 : Int) / 4) = (C : Int) := by rw [i64_in (by omega) (by omega)]; omega
  have a2 : IntKind.i64.wrap ((Y2 : Int) / 32) = (D1 : Int) := by rw [i64_in (by omega) (by omega)]; omega
  have a3 : IntKind.i64.wrap ((Y2 : Int) / 16) = (D2 : Int) := by rw [i64_in (by omega) (by omega)]; omega
  have a4 : IntKind.i64.wrap ((Y2 : Int) / 8) = (D3 : Int) := by rw [i64_in (by omega) (by omega)]; omega
  have a5 : IntKind.i64.wrap ((Y2 : Int) / 2) = (D4 : Int) := by rw [i64_in (by omega) (by omega)]; omega
  have t1 : (Y1 : Int).tdiv 4 = (Y1 : Int) / 4 := Int.tdiv_eq_ediv_of_nonneg (by omega)
  have u1 : (D1 : Int).tmod 2 = (m1 : Int) := by rw [Int.tmod_eq_emod_of_nonneg (by omega)]; omega
  have u2 : (D2 : Int).tmod 2 = (m2 : Int) := by rw [Int.tmod_eq_emod_of_nonneg (by omega)]; omega
  have u3 : (D3 : Int).tmod 2 = (m3 : Int) := by rw [Int.tmod_eq_emod_of_nonneg (by omega)]; omega
  have u4 : (D4 : Int).tmod 4 = (B : Int) := by rw [Int.tmod_eq_emod_of_nonneg (by omega)]; omega
  have v1 : (D1 : Int) % 2 = (m1 : Int) := by omega
  have v2 : (D2 : Int) % 2 = (m2 : Int) := by omega
  have v3 : (D3 : Int) % 2 = (m3 : Int) := by omega
  have v4 : (D4 : Int) % 4 = (B : Int) := by omega
  have j1 : ((m1 : Int) == 1) = lk := by rw [qlk, Bool.eq_iff_iff]; simp; omega
  have j2 : ((m2 : Int) == 1) = wt := by rw [qwt, Bool.eq_iff_iff]; simp; omega
  have j3 : ((m3 : Int) == 1) = rt := by rw [qrt, Bool.eq_iff_iff]; simp; omega
  rw [hrd] at hok
  have hen := fun W => zencode_any (C : Int) lk wt rt (B : Int) (Y3 : Int) W
  clear q1 q2 q3 hat hcell hlen qC qD1 qD2 qD3 qD4 qm1 qm2 qm3 qB qlk qwt qrt
  rw [hrd] at hne
  have hel := Cw.enc_len hok
  obtain ⟨E, hE⟩ : ∃ E, E = Cw.enc ⟨(C : Int), lk, wt, rt, (B : Int), (Y3 : Int)⟩ := ⟨_, rfl⟩
  simp only [Cw.err_yes hok, ← hE] at hen
  rw [← hE] at hel hne
  have y3 := str_beq E l
  rw [decide_eq_false hne] at y3
  have y4 : ((str E).toList != (str l).toList) = true := by unfold bne; rw [y3]; rfl
  clear hE hok hne hrd
  go_enter Try.func13, Try.ntmps13
  go_wp2_with fail
  refine wp_region_held_drew (S := (fun w' => w'.cell? ⟨b, off + 1, none⟩ = some (.int .u8 (Y1 : Int)) ∧ w'.cell? ⟨b, off + 3, none⟩ = some (.int .u8 (Y3 : Int)))) (by kernel_rfl) (⟨(b0.cell (p := ⟨b, off + 1, none⟩) hltb).trans k1, (b0.cell (p := ⟨b, off + 3, none⟩) hltb).trans k3⟩) (fun hHeld => ?_)
  refine wpAnyH_here 0 (v := ?_) rfl (by kernel_rfl) (by kernel_rfl) (by kernel_rfl) (fun _ _ _ h => h) (Or.inl ⟨by rfl, ?_⟩) hHeld ?_
  rotate_left
  · intro w hSw; (try dsimp only at hSw); go_simp; all_goals (with_reducible rfl)
  try simp only [Act.put, List.setIfInBounds_toArray, List.set_cons_zero, List.set_cons_succ]
  refine wpAnyH_here 1 (v := ?_) rfl (by kernel_rfl) (by kernel_rfl) (by kernel_rfl) (fun _ _ _ h => h) (Or.inl ⟨by rfl, ?_⟩) hHeld ?_
  rotate_left
  · intro w hSw; (try dsimp only at hSw); go_simp; all_goals (with_reducible rfl)
  try simp only [Act.put, List.setIfInBounds_toArray, List.set_cons_zero, List.set_cons_succ]
  refine wpAnyH_here 2 (v := ?_) rfl (by kernel_rfl) (by kernel_rfl) (by kernel_rfl) (fun _ _ _ h => h) (Or.inl ⟨by rfl, ?_⟩) hHeld ?_
  rotate_left
  · intro w hSw; (try dsimp only at hSw); go_simp; all_goals (with_reducible rfl)
  try simp only [Act.put, List.setIfInBounds_toArray, List.set_cons_zero, List.set_cons_succ]
  refine wpAnyH_here 3 (v := ?_) rfl (by kernel_rfl) (by kernel_rfl) (by kernel_rfl) (fun _ _ _ h => h) (Or.inl ⟨by rfl, ?_⟩) hHeld ?_
  rotate_left
  · intro w hSw; (try dsimp only at hSw); go_simp; all_goals (with_reducible rfl)
  try simp only [Act.put, List.setIfInBounds_toArray, List.set_cons_zero, List.set_cons_succ]
  refine wpAnyH_here 4 (v := ?_) rfl (by kernel_rfl) (by kernel_rfl) (by kernel_rfl) (fun _ _ _ h => h) (Or.inl ⟨by rfl, ?_⟩) hHeld ?_
  rotate_left
  · intro w hSw; (try dsimp only at hSw); go_simp; all_goals (with_reducible rfl)
  try simp only [Act.put, List.setIfInBounds_toArray, List.set_cons_zero, List.set_cons_succ]
  refine wpAnyH_here 5 (v := ?_) rfl (by kernel_rfl) (by kernel_rfl) (by kernel_rfl) (fun _ _ _ h => h) (Or.inl ⟨by rfl, ?_⟩) hHeld ?_
  rotate_left
  · intro w hSw; (try dsimp only at hSw); go_simp; all_goals (with_reducible rfl)
  try simp only [Act.put, List.setIfInBounds_toArray, List.set_cons_zero, List.set_cons_succ]
  refine wpAnyH_here 6 (v := ?_) rfl (by kernel_rfl) (by kernel_rfl) (by kernel_rfl) (fun _ _ _ h => h) (Or.inl ⟨by rfl, ?_⟩) hHeld ?_
  rotate_left
  · intro w hSw; (try dsimp only at hSw); go_simp; all_goals (with_reducible rfl)
  try simp only [Act.put, List.setIfInBounds_toArray, List.set_cons_zero, List.set_cons_succ]
  refine wpAnyH_here 7 (v := ?_) rfl (by kernel_rfl) (by kernel_rfl) (by kernel_rfl) (fun _ _ _ h => h) (Or.inl ⟨by rfl, ?_⟩) hHeld ?_
  rotate_left
  · intro w hSw; (try dsimp only at hSw); go_simp; all_goals (with_reducible rfl)
  try simp only [Act.put, List.setIfInBounds_toArray, List.set_cons_zero, List.set_cons_succ]
  refine wpAnyH_here 8 (v := ?_) rfl (by kernel_rfl) (by kernel_rfl) (by kernel_rfl) (fun _ _ _ h => h) (Or.inl ⟨by rfl, ?_⟩) hHeld ?_
  rotate_left
  · intro w hSw; (try dsimp only at hSw); go_simp; all_goals (with_reducible rfl)
  try simp only [Act.put, List.setIfInBounds_toArray, List.set_cons_zero, List.set_cons_succ]
  refine wpAnyH_here 9 (v := ?_) rfl (by kernel_rfl) (by kernel_rfl) (by kernel_rfl) (fun _ _ _ h => h) (Or.inl ⟨by rfl, ?_⟩) hHeld ?_
  rotate_left
  · intro w hSw; (try dsimp only at hSw); go_simp; all_goals (with_reducible rfl)
  try simp only [Act.put, List.setIfInBounds_toArray, List.set_cons_zero, List.set_cons_succ]
  refine wpAnyH_here 10 (v := ?_) rfl (by kernel_rfl) (by kernel_rfl) (by kernel_rfl) (fun _ _ _ h => h) (Or.inl ⟨by rfl, ?_⟩) hHeld ?_
  rotate_left
  · intro w hSw; (try dsimp only at hSw); go_simp; all_goals (with_reducible rfl)
  try simp only [Act.put, List.setIfInBounds_toArray, List.set_cons_zero, List.set_cons_succ]
  refine wpAnyH_here 11 (v := ?_) rfl (by kernel_rfl) (by kernel_rfl) (by kernel_rfl) (fun _ _ _ h => h) (Or.inl ⟨by rfl, ?_⟩) hHeld ?_
  rotate_left
  · intro w hSw; (try dsimp only at hSw); go_simp; all_goals (with_reducible rfl)
  try simp only [Act.put, List.setIfInBounds_toArray, List.set_cons_zero, List.set_cons_succ]
  refine wpAnyH_here 12 (v := ?_) rfl (by kernel_rfl) (by kernel_rfl) (by kernel_rfl) (fun _ _ _ h => h) (Or.inl ⟨by rfl, ?_⟩) hHeld ?_
  rotate_left
  · intro w hSw; (try dsimp only at hSw); go_simp; all_goals (with_reducible rfl)
  try simp only [Act.put, List.setIfInBounds_toArray, List.set_cons_zero, List.set_cons_succ]
  refine wpAnyH_here 13 (v := ?_) rfl (by kernel_rfl) (by kernel_rfl) (by kernel_rfl) (fun _ _ _ h => h) (Or.inl ⟨by rfl, ?_⟩) hHeld ?_
  rotate_left
  · intro w hSw; (try dsimp only at hSw); go_simp; all_goals (with_reducible rfl)
  try simp only [Act.put, List.setIfInBounds_toArray, List.set_cons_zero, List.set_cons_succ]
  refine wpAnyH_here 14 (v := ?_) rfl (by kernel_rfl) (by kernel_rfl) (by kernel_rfl) (fun _ _ _ h => h) (Or.inl ⟨by rfl, ?_⟩) hHeld ?_
  rotate_left
  · intro w hSw; (try dsimp only at hSw); go_simp; all_goals (with_reducible rfl)
  try simp only [Act.put, List.setIfInBounds_toArray, List.set_cons_zero, List.set_cons_succ]
  refine wpAnyH_here 15 (v := ?_) rfl (by kernel_rfl) (by kernel_rfl) (by kernel_rfl) (fun _ _ _ h => h) (Or.inl ⟨by rfl, ?_⟩) hHeld ?_
  rotate_left
  · intro w hSw; (try dsimp only at hSw); go_simp; all_goals (with_reducible rfl)
  try simp only [Act.put, List.setIfInBounds_toArray, List.set_cons_zero, List.set_cons_succ]
  refine wpAnyH_here 16 (v := ?_) rfl (by kernel_rfl) (by kernel_rfl) (by kernel_rfl) (fun _ _ _ h => h) (Or.inl ⟨by rfl, ?_⟩) hHeld ?_
  rotate_left
  · intro w hSw; (try dsimp only at hSw); go_simp; all_goals (with_reducible rfl)
  try simp only [Act.put, List.setIfInBounds_toArray, List.set_cons_zero, List.set_cons_succ]
  refine wpAnyH_here 17 (v := ?_) rfl (by kernel_rfl) (by kernel_rfl) (by kernel_rfl) (fun _ _ _ h => h) (Or.inl ⟨by rfl, ?_⟩) hHeld ?_
  rotate_left
  · intro w hSw; (try dsimp only at hSw); go_simp; all_goals (with_reducible rfl)
  try simp only [Act.put, List.setIfInBounds_toArray, List.set_cons_zero, List.set_cons_succ]
  refine wpAnyH_here 18 (v := ?_) rfl (by kernel_rfl) (by kernel_rfl) (by kernel_rfl) (fun _ _ _ h => h) (Or.inl ⟨by rfl, ?_⟩) hHeld ?_
  rotate_left
  · intro w hSw; (try dsimp only at hSw); go_simp; all_goals (with_reducible rfl)
  try simp only [Act.put, List.setIfInBounds_toArray, List.set_cons_zero, List.set_cons_succ]
  refine wpAnyH_here 19 (v := ?_) rfl (by kernel_rfl) (by kernel_rfl) (by kernel_rfl) (fun _ _ _ h => h) (Or.inl ⟨by rfl, ?_⟩) hHeld ?_
  rotate_left
  · intro w hSw; (try dsimp only at hSw); go_simp; all_goals (with_reducible rfl)
  try simp only [Act.put, List.setIfInBounds_toArray, List.set_cons_zero, List.set_cons_succ]
  refine wpAnyH_here 20 (v := ?_) rfl (by kernel_rfl) (by kernel_rfl) (by kernel_rfl) (fun _ _ _ h => h) (Or.inl ⟨by rfl, ?_⟩) hHeld ?_
  rotate_left
  · intro w hSw; (try dsimp only at hSw); go_simp; all_goals (with_reducible rfl)
  try simp only [Act.put, List.setIfInBounds_toArray, List.set_cons_zero, List.set_cons_succ]
  refine wpAnyH_here 21 (v := ?_) rfl (by kernel_rfl) (by kernel_rfl) (by kernel_rfl) (fun _ _ _ h => h) (Or.inl ⟨by rfl, ?_⟩) hHeld ?_
  rotate_left
  · intro w hSw; (try dsimp only at hSw); go_simp; all_goals (with_reducible rfl)
  try simp only [Act.put, List.setIfInBounds_toArray, List.set_cons_zero, List.set_cons_succ]
  refine wpAnyH_here 22 (v := ?_) rfl (by kernel_rfl) (by kernel_rfl) (by kernel_rfl) (fun _ _ _ h => h) (Or.inl ⟨by rfl, ?_⟩) hHeld ?_
  rotate_left
  · intro w hSw; (try dsimp only at hSw); go_simp; all_goals (with_reducible rfl)
  try simp only [Act.put, List.setIfInBounds_toArray, List.set_cons_zero, List.set_cons_succ]
  refine wpAnyH_here 23 (v := ?_) rfl (by kernel_rfl) (by kernel_rfl) (by kernel_rfl) (fun _ _ _ h => h) (Or.inl ⟨by rfl, ?_⟩) hHeld ?_
  rotate_left
  · intro w hSw; (try dsimp only at hSw); go_simp; all_goals (with_reducible rfl)
  try simp only [Act.put, List.setIfInBounds_toArray, List.set_cons_zero, List.set_cons_succ]
  refine wpAnyH_here 24 (v := ?_) rfl (by kernel_rfl) (by kernel_rfl) (by kernel_rfl) (fun _ _ _ h => h) (Or.inl ⟨by rfl, ?_⟩) hHeld ?_
  rotate_left
  · intro w hSw; (try dsimp only at hSw); go_simp; all_goals (with_reducible rfl)
  try simp only [Act.put, List.setIfInBounds_toArray, List.set_cons_zero, List.set_cons_succ]
  have HB : Below w.heap.size w ((w.alloc (.cells #[.int .i64 0, .bool false, .bool false, .bool false, .int .i64 0, .int .i64 0] 23)).alloc (.cells #[.int .i64 0, .bool false, .bool false, .bool false, .int .i64 0, .int .i64 0] 23)).drew := (b0.alloc b0.size _).drew
  refine wpAnyH_alone 25 rfl (by kernel_rfl) (fun K hK => ?_)
  go_simp
  skip
  refine hK.out _ _ (⟨(HB.cell (p := ⟨b, off + 1, none⟩) hltb).trans k1, (HB.cell (p := ⟨b, off + 3, none⟩) hltb).trans k3⟩) (fun hHeld => ?_)
  clear hK K
  try simp only [Act.put, List.setIfInBounds_toArray, List.set_cons_zero, List.set_cons_succ]
  obtain ⟨W1, hW1⟩ : ∃ W1, W1 = ((w.alloc (.cells #[.int .i64 0, .bool false, .bool false, .bool false, .int .i64 0, .int .i64 0] 23)).alloc (.cells #[.int .i64 0, .bool false, .bool false, .bool false, .int .i64 0, .int .i64 0] 23)).drew := ⟨_, rfl⟩
  have hP1 : Cel W1 (w.heap.size + 1) 23 #[.int .i64 0, .bool false, .bool false, .bool false, .int .i64 0, .int .i64 0] := by
    rw [hW1]
    have e : (w.alloc (.cells #[.int .i64 0, .bool false, .bool false, .bool false, .int .i64 0, .int .i64 0] 23)).heap.size = w.heap.size + 1 := by simp
    have h := Cel.new (w.alloc (.cells #[.int .i64 0, .bool false, .bool false, .bool false, .int .i64 0, .int .i64 0] 23)) 23 #[.int .i64 0, .bool false, .bool false, .bool false, .int .i64 0, .int .i64 0]
    rw [e] at h
    exact h
  have hR1 : Cel W1 w.heap.size 23 #[.int .i64 0, .bool false, .bool false, .bool false, .int .i64 0, .int .i64 0] := by rw [hW1]; exact Cel.later hR0 (bel_new _ _).drew
  have hB1 : Below w.heap.size w W1 := by rw [hW1]; exact HB
  rw [← hW1] at hHeld ⊢
  clear hW1 HB hR0 b0 k2
  have c0 := hP1.cell 0
  have c1 := hP1.cell 1
  have c2 := hP1.cell 2
  have c3 := hP1.cell 3
  have c4 := hP1.cell 4
  have c5 := hP1.cell 5
  simp at c0 c1 c2 c3 c4 c5
  have f0 := hP1.free 0
  have f1 := hP1.free 1
  have f2 := hP1.free 2
  have f3 := hP1.free 3
  have f4 := hP1.free 4
  have f5 := hP1.free 5
  refine wpAnyH_alone 26 rfl (by kernel_rfl) (fun K hK => ?_)
  go_simp
  skip
  refine hK.out _ _ (⟨((put6_below hB1 (Nat.le_succ _) (.int .i64 (C : Int)) (.bool lk) (.bool wt) (.bool rt) (.int .i64 (B : Int)) (.int .i64 (Y3 : Int))).cell (p := ⟨b, off + 1, none⟩) hltb).trans k1, ((put6_below hB1 (Nat.le_succ _) (.int .i64 (C : Int)) (.bool lk) (.bool wt) (.bool rt) (.int .i64 (B : Int)) (.int .i64 (Y3 : Int))).cell (p := ⟨b, off + 3, none⟩) hltb).trans k3⟩) (fun hHeld => ?_)
  clear hK K
  try simp only [Act.put, List.setIfInBounds_toArray, List.set_cons_zero, List.set_cons_succ]
  refine wpAnyH_done (by kernel_rfl) ?_ _
  obtain ⟨W2, hW2⟩ : ∃ W2, W2 = put6 W1 (w.heap.size + 1) (.int .i64 (C : Int)) (.bool lk) (.bool wt) (.bool rt) (.int .i64 (B : Int)) (.int .i64 (Y3 : Int)) := ⟨_, rfl⟩
  have hP2 : Cel W2 (w.heap.size + 1) 23 #[.int .i64 (C : Int), .bool lk, .bool wt, .bool rt, .int .i64 (B : Int), .int .i64 (Y3 : Int)] := by rw [hW2]; exact put6_cel hP1 _ _ _ _ _ _
  have hR2 : Cel W2 w.heap.size 23 #[.int .i64 0, .bool false, .bool false, .bool false, .int .i64 0, .int .i64 0] := by rw [hW2]; exact hR1.only (put6_only _ _ _ _ _ _ _ _) (by simp)
  have hB2 : Below w.heap.size w W2 := by rw [hW2]; exact put6_below hB1 (Nat.le_succ _) _ _ _ _ _ _
  unfold put6 at hW2
  clear c0 c1 c2 c3 c4 c5 f0 f1 f2 f3 f4 f5 hP1 hR1 hB1 k1 k3 hHeld
  rw [← hW2]
  clear hW2
  have c0 := hP2.cell 0
  have c1 := hP2.cell 1
  have c2 := hP2.cell 2
  have c3 := hP2.cell 3
  have c4 := hP2.cell 4
  have c5 := hP2.cell 5
  simp at c0 c1 c2 c3 c4 c5
  go_wp2_with fail
  refine (hen W2).mono ?_
  rintro e w5 ⟨v, rfl, hown, hb5⟩
  obtain ⟨A5, c5', rfl, r5⟩ := Rd.of hown hel
  have hR5 := Cel.later hR2 hb5
  have hP5 := Cel.later hP2 hb5
  have bel5 := hB2.trans (hb5.mono hB2.size)
  have hD5 := hD.later bel5
  clear hen hown hb5 hR2 hP2 hB2 c0 c1 c2 c3 c4 c5 hD
  have s1 := r5.conv (Below.refl _ _)
  have s2 := hD5.conv (Below.refl _ _)
  clear r5 hD5
  have c0 := hR5.cell 0
  have c1 := hR5.cell 1
  have c2 := hR5.cell 2
  have c3 := hR5.cell 3
  have c4 := hR5.cell 4
  have c5 := hR5.cell 5
  simp at c0 c1 c2 c3 c4 c5
  have f0 := hR5.free 0
  have f1 := hR5.free 1
  have f2 := hR5.free 2
  have f3 := hR5.free 3
  have f4 := hR5.free 4
  have f5 := hR5.free 5
  go_wp2
  exact bodyPost_ret (zde_results rfl rfl (put6_cel hR5 (.int .i64 0) (.bool false) (.bool false) (.bool false) (.int .i64 0) (.int .i64 0))) rfl ⟨rfl, put6_below bel5 (Nat.le_refl _) _ _ _ _ _ _⟩

set_option maxHeartbeats 2000000 in
theorem zdecode_good (a : Option Addr) (l : List Byte) (c : Nat) (w : World) (hD : Rd w a l 4 c) (hok : (rd l).ok = true) (hne : (rd l).enc = l) :
    Calls Try.prog 13 #[.slice a 4 c] w fun e w' => e = .returned (.tuple #[.agg #[.int .i64 (rd l).ch, .bool (rd l).lk, .bool (rd l).wt, .bool (rd l).rt, .int .i64 (rd l).bp, .int .i64 (rd l).nx], .int .i64 0]) ∧ Below w.heap.size w w' := by
  have b0 := bel_new w (.cells #[.int .i64 0, .bool false, .bool false, .bool false, .int .i64 0, .int .i64 0] 23)
  have hR0 := Cel.new w 23 #[.int .i64 0, .bool false, .bool false, .bool false, .int .i64 0, .int .i64 0]
  have hlen := hD.len
  obtain ⟨b, off, rfl, hltb, hcell⟩ := hD.at_ (by decide)
  have hat : ∀ k, k < 4 → w.cell? ⟨b, off + k, none⟩ = some (.int .u8 ((b8 l k : Nat) : Int)) := fun k hk => by
    have hx : l[k]? = some (l[k]'(by omega)) := List.getElem?_eq_getElem (by omega)
    rw [hcell k _ hx, b8_at hx]
  have k1 := hat 1 (by decide)
  have k2 := (b0.cell (p := ⟨b, off + 2, none⟩) hltb).trans (hat 2 (by decide))
  have k3 := hat 3 (by decide)
  have z1 := b8_lt l 1
  have z2 := b8_lt l 2
  have z3 := b8_lt l 3
  obtain ⟨Y1, q1⟩ : ∃ Y, Y = b8 l 1 := ⟨_, rfl⟩
  obtain ⟨Y2, q2⟩ : ∃ Y, Y = b8 l 2 := ⟨_, rfl⟩
  obtain ⟨Y3, q3⟩ : ∃ Y, Y = b8 l 3 := ⟨_, rfl⟩
  have hrd : rd l = ⟨((b8 l 1 / 4 : Nat) : Int), decide (b8 l 2 / 32 % 2 = 1), decide (b8 l 2 / 16 % 2 = 1), decide (b8 l 2 / 8 % 2 = 1), ((b8 l 2 / 2 % 4 : Nat) : Int), ((b8 l 3 : Nat) : Int)⟩ := rfl
  rw [← q1, ← q2, ← q3] at hrd
  rw [← q1] at k1 z1
  rw [← q2] at k2 z2
  rw [← q3] at k3 z3
  have HL := Lib.hid hlen
  obtain ⟨C, qC⟩ : ∃ C, C = Y1 / 4 := ⟨_, rfl⟩
  obtain ⟨D1, qD1⟩ : ∃ D, D = Y2 / 32 := ⟨_, rfl⟩
  obtain ⟨D2, qD2⟩ : ∃ D, D = Y2 / 16 := ⟨_, rfl⟩
  obtain ⟨D3, qD3⟩ : ∃ D, D = Y2 / 8 := ⟨_, rfl⟩
  obtain ⟨D4, qD4⟩ : ∃ D, D = Y2 / 2 := ⟨_, rfl⟩
  obtain ⟨m1, qm1⟩ : ∃ m, m = D1 % 2 := ⟨_, rfl⟩
  obtain ⟨m2, qm2⟩ : ∃ m, m = D2 % 2 := ⟨_, rfl⟩
  obtain ⟨m3, qm3⟩ : ∃ m, m = D3 % 2 := ⟨_, rfl⟩
  obtain ⟨B, qB⟩ : ∃ B, B = D4 % 4 := ⟨_, rfl⟩
  obtain ⟨lk, qlk⟩ : ∃ b, b = decide (m1 = 1) := ⟨_, rfl⟩
  obtain ⟨wt, qwt⟩ : ∃ b, b = decide (m2 = 1) := ⟨_, rfl⟩
  obtain ⟨rt, qrt⟩ : ∃ b, b = decide (m3 = 1) := ⟨_, rfl⟩
  rw [← qC, ← qD1, ← qD2, ← qD3, ← qD4, ← qm1, ← qm2, ← qm3, ← qB, ← qlk, ← qwt, ← qrt] at hrd
  have i1 := from_u64 Y1 (by omega)
  have i3 := from_u64 Y3 (by omega)
  have i2 : IntKind.i64.wrap (Y2 : Int) = (Y2 : Int) := from_u64 Y2 (by omega)
  have a1 : IntKind.i64.wrap ((Y1 : Int) / 4) = (C : Int) := by rw [i64_in (by omega) (by omega)]; omega
  have a2 : IntKind.i64.wrap ((Y2 : Int) / 32) = (D1 : Int) := by rw [i64_in (by omega) (by omega)]; omega
  have a3 : IntKind.i64.wrap ((Y2 : Int) / 16) = (D2 : Int) := by rw [i64_in (by omega) (by omega)]; omega
  have a4 : IntKind.i64.wrap ((Y2 : Int) / 8) = (D3 : Int) := by rw [i64_in (by omega) (by omega)]; omega
  have a5 : IntKind.i64.wrap ((Y2 : Int) / 2) = (D4 : Int) := by rw [i64_in (by omega) (by omega)]; omega
  have t1 : (Y1 : Int).tdiv 4 = (Y1 : Int) / 4 := Int.tdiv_eq_ediv_of_nonneg (by omega)
  have u1 : (D1 : Int).tmod 2 = (m1 : Int) := by rw [Int.tmod_eq_emod_of_nonneg (by omega)]; omega
  have u2 : (D2 : Int).tmod 2 = (m2 : Int) := by rw [Int.tmod_eq_emod_of_nonneg (by omega)]; omega
  have u3 : (D3 : Int).tmod 2 = (m3 : Int) := by rw [Int.tmod_eq_emod_of_nonneg (by omega)]; omega
  have u4 : (D4 : Int).tmod 4 = (B : Int) := by rw [Int.tmod_eq_emod_of_nonneg (by omega)]; omega
  have v1 : (D1 : Int) % 2 = (m1 : Int) := by omega
  have v2 : (D2 : Int) % 2 = (m2 : Int) := by omega
  have v3 : (D3 : Int) % 2 = (m3 : Int) := by omega
  have v4 : (D4 : Int) % 4 = (B : Int) := by omega
  have j1 : ((m1 : Int) == 1) = lk := by rw [qlk, Bool.eq_iff_iff]; simp; omega
  have j2 : ((m2 : Int) == 1) = wt := by rw [qwt, Bool.eq_iff_iff]; simp; omega
  have j3 : ((m3 : Int) == 1) = rt := by rw [qrt, Bool.eq_iff_iff]; simp; omega
  rw [hrd] at hok
  have hen := fun W => zencode_any (C : Int) lk wt rt (B : Int) (Y3 : Int) W
  clear q1 q2 q3 hat hcell hlen qC qD1 qD2 qD3 qD4 qm1 qm2 qm3 qB qlk qwt qrt
  rw [hrd] at hne
  have hel := Cw.enc_len hok
  obtain ⟨E, hE⟩ : ∃ E, E = Cw.enc ⟨(C : Int), lk, wt, rt, (B : Int), (Y3 : Int)⟩ := ⟨_, rfl⟩
  simp only [Cw.err_yes hok, ← hE] at hen
  rw [← hE] at hel hne
  have y3 := str_beq E l
  rw [decide_eq_true hne] at y3
  have y4 : ((str E).toList != (str l).toList) = false := by unfold bne; rw [y3]; rfl
  clear hE hok hne
  rw [hrd]
  clear hrd
  go_enter Try.func13, Try.ntmps13
  go_wp2_with fail
  refine wp_region_held_drew (S := (fun w' => w'.cell? ⟨b, off + 1, none⟩ = some (.int .u8 (Y1 : Int)) ∧ w'.cell? ⟨b, off + 3, none⟩ = some (.int .u8 (Y3 : Int)))) (by kernel_rfl) (⟨(b0.cell (p := ⟨b, off + 1, none⟩) hltb).trans k1, (b0.cell (p := ⟨b, off + 3, none⟩) hltb).trans k3⟩) (fun hHeld => ?_)
  refine wpAnyH_here 0 (v := ?_) rfl (by kernel_rfl) (by kernel_rfl) (by kernel_rfl) (fun _ _ _ h => h) (Or.inl ⟨by rfl, ?_⟩) hHeld ?_
  rotate_left
  · intro w hSw; (try dsimp only at hSw); go_simp; all_goals (with_reducible rfl)
  try simp only [Act.put, List.setIfInBounds_toArray, List.set_cons_zero, List.set_cons_succ]
  refine wpAnyH_here 1 (v := ?_) rfl (by kernel_rfl) (by kernel_rfl) (by kernel_rfl) (fun _ _ _ h => h) (Or.inl ⟨by rfl, ?_⟩) hHeld ?_
  rotate_left
  · intro w hSw; (try dsimp only at hSw); go_simp; all_goals (with_reducible rfl)
  try simp only [Act.put, List.setIfInBounds_toArray, List.set_cons_zero, List.set_cons_succ]
  refine wpAnyH_here 2 (v := ?_) rfl (by kernel_rfl) (by kernel_rfl) (by kernel_rfl) (fun _ _ _ h => h) (Or.inl ⟨by rfl, ?_⟩) hHeld ?_
  rotate_left
  · intro w hSw; (try dsimp only at hSw); go_simp; all_goals (with_reducible rfl)
  try simp only [Act.put, List.setIfInBounds_toArray, List.set_cons_zero, List.set_cons_succ]
  refine wpAnyH_here 3 (v := ?_) rfl (by kernel_rfl) (by kernel_rfl) (by kernel_rfl) (fun _ _ _ h => h) (Or.inl ⟨by rfl, ?_⟩) hHeld ?_
  rotate_left
  · intro w hSw; (try dsimp only at hSw); go_simp; all_goals (with_reducible rfl)
  try simp only [Act.put, List.setIfInBounds_toArray, List.set_cons_zero, List.set_cons_succ]
  refine wpAnyH_here 4 (v := ?_) rfl (by kernel_rfl) (by kernel_rfl) (by kernel_rfl) (fun _ _ _ h => h) (Or.inl ⟨by rfl, ?_⟩) hHeld ?_
  rotate_left
  · intro w hSw; (try dsimp only at hSw); go_simp; all_goals (with_reducible rfl)
  try simp only [Act.put, List.setIfInBounds_toArray, List.set_cons_zero, List.set_cons_succ]
  refine wpAnyH_here 5 (v := ?_) rfl (by kernel_rfl) (by kernel_rfl) (by kernel_rfl) (fun _ _ _ h => h) (Or.inl ⟨by rfl, ?_⟩) hHeld ?_
  rotate_left
  · intro w hSw; (try dsimp only at hSw); go_simp; all_goals (with_reducible rfl)
  try simp only [Act.put, List.setIfInBounds_toArray, List.set_cons_zero, List.set_cons_succ]
  refine wpAnyH_here 6 (v := ?_) rfl (by kernel_rfl) (by kernel_rfl) (by kernel_rfl) (fun _ _ _ h => h) (Or.inl ⟨by rfl, ?_⟩) hHeld ?_
  rotate_left
  · intro w hSw; (try dsimp only at hSw); go_simp; all_goals (with_reducible rfl)
  try simp only [Act.put, List.setIfInBounds_toArray, List.set_cons_zero, List.set_cons_succ]
  refine wpAnyH_here 7 (v := ?_) rfl (by kernel_rfl) (by kernel_rfl) (by kernel_rfl) (fun _ _ _ h => h) (Or.inl ⟨by rfl, ?_⟩) hHeld ?_
  rotate_left
  · intro w hSw; (try dsimp only at hSw); go_simp; all_goals (with_reducible rfl)
  try simp only [Act.put, List.setIfInBounds_toArray, List.set_cons_zero, List.set_cons_succ]
  refine wpAnyH_here 8 (v := ?_) rfl (by kernel_rfl) (by kernel_rfl) (by kernel_rfl) (fun _ _ _ h => h) (Or.inl ⟨by rfl, ?_⟩) hHeld ?_
  rotate_left
  · intro w hSw; (try dsimp only at hSw); go_simp; all_goals (with_reducible rfl)
  try simp only [Act.put, List.setIfInBounds_toArray, List.set_cons_zero, List.set_cons_succ]
  refine wpAnyH_here 9 (v := ?_) rfl (by kernel_rfl) (by kernel_rfl) (by kernel_rfl) (fun _ _ _ h => h) (Or.inl ⟨by rfl, ?_⟩) hHeld ?_
  rotate_left
  · intro w hSw; (try dsimp only at hSw); go_simp; all_goals (with_reducible rfl)
  try simp only [Act.put, List.setIfInBounds_toArray, List.set_cons_zero, List.set_cons_succ]
  refine wpAnyH_here 10 (v := ?_) rfl (by kernel_rfl) (by kernel_rfl) (by kernel_rfl) (fun _ _ _ h => h) (Or.inl ⟨by rfl, ?_⟩) hHeld ?_
  rotate_left
  · intro w hSw; (try dsimp only at hSw); go_simp; all_goals (with_reducible rfl)
  try simp only [Act.put, List.setIfInBounds_toArray, List.set_cons_zero, List.set_cons_succ]
  refine wpAnyH_here 11 (v := ?_) rfl (by kernel_rfl) (by kernel_rfl) (by kernel_rfl) (fun _ _ _ h => h) (Or.inl ⟨by rfl, ?_⟩) hHeld ?_
  rotate_left
  · intro w hSw; (try dsimp only at hSw); go_simp; all_goals (with_reducible rfl)
  try simp only [Act.put, List.setIfInBounds_toArray, List.set_cons_zero, List.set_cons_succ]
  refine wpAnyH_here 12 (v := ?_) rfl (by kernel_rfl) (by kernel_rfl) (by kernel_rfl) (fun _ _ _ h => h) (Or.inl ⟨by rfl, ?_⟩) hHeld ?_
  rotate_left
  · intro w hSw; (try dsimp only at hSw); go_simp; all_goals (with_reducible rfl)
  try simp only [Act.put, List.setIfInBounds_toArray, List.set_cons_zero, List.set_cons_succ]
  refine wpAnyH_here 13 (v := ?_) rfl (by kernel_rfl) (by kernel_rfl) (by kernel_rfl) (fun _ _ _ h => h) (Or.inl ⟨by rfl, ?_⟩) hHeld ?_
  rotate_left
  · intro w hSw; (try dsimp only at hSw); go_simp; all_goals (with_reducible rfl)
  try simp only [Act.put, List.setIfInBounds_toArray, List.set_cons_zero, List.set_cons_succ]
  refine wpAnyH_here 14 (v := ?_) rfl (by kernel_rfl) (by kernel_rfl) (by kernel_rfl) (fun _ _ _ h => h) (Or.inl ⟨by rfl, ?_⟩) hHeld ?_
  rotate_left
  · intro w hSw; (try dsimp only at hSw); go_simp; all_goals (with_reducible rfl)
  try simp only [Act.put, List.setIfInBounds_toArray, List.set_cons_zero, List.set_cons_succ]
  refine wpAnyH_here 15 (v := ?_) rfl (by kernel_rfl) (by kernel_rfl) (by kernel_rfl) (fun _ _ _ h => h) (Or.inl ⟨by rfl, ?_⟩) hHeld ?_
  rotate_left
  · intro w hSw; (try dsimp only at hSw); go_simp; all_goals (with_reducible rfl)
  try simp only [Act.put, List.setIfInBounds_toArray, List.set_cons_zero, List.set_cons_succ]
  refine wpAnyH_here 16 (v := ?_) rfl (by kernel_rfl) (by kernel_rfl) (by kernel_rfl) (fun _ _ _ h => h) (Or.inl ⟨by rfl, ?_⟩) hHeld ?_
  rotate_left
  · intro w hSw; (try dsimp only at hSw); go_simp; all_goals (with_reducible rfl)
  try simp only [Act.put, List.setIfInBounds_toArray, List.set_cons_zero, List.set_cons_succ]
  refine wpAnyH_here 17 (v := ?_) rfl (by kernel_rfl) (by kernel_rfl) (by kernel_rfl) (fun _ _ _ h => h) (Or.inl ⟨by rfl, ?_⟩) hHeld ?_
  rotate_left
  · intro w hSw; (try dsimp only at hSw); go_simp; all_goals (with_reducible rfl)
  try simp only [Act.put, List.setIfInBounds_toArray, List.set_cons_zero, List.set_cons_succ]
  refine wpAnyH_here 18 (v := ?_) rfl (by kernel_rfl) (by kernel_rfl) (by kernel_rfl) (fun _ _ _ h => h) (Or.inl ⟨by rfl, ?_⟩) hHeld ?_
  rotate_left
  · intro w hSw; (try dsimp only at hSw); go_simp; all_goals (with_reducible rfl)
  try simp only [Act.put, List.setIfInBounds_toArray, List.set_cons_zero, List.set_cons_succ]
  refine wpAnyH_here 19 (v := ?_) rfl (by kernel_rfl) (by kernel_rfl) (by kernel_rfl) (fun _ _ _ h => h) (Or.inl ⟨by rfl, ?_⟩) hHeld ?_
  rotate_left
  · intro w hSw; (try dsimp only at hSw); go_simp; all_goals (with_reducible rfl)
  try simp only [Act.put, List.setIfInBounds_toArray, List.set_cons_zero, List.set_cons_succ]
  refine wpAnyH_here 20 (v := ?_) rfl (by kernel_rfl) (by kernel_rfl) (by kernel_rfl) (fun _ _ _ h => h) (Or.inl ⟨by rfl, ?_⟩) hHeld ?_
  rotate_left
  · intro w hSw; (try dsimp only at hSw); go_simp; all_goals (with_reducible rfl)
  try simp only [Act.put, List.setIfInBounds_toArray, List.set_cons_zero, List.set_cons_succ]
  refine wpAnyH_here 21 (v := ?_) rfl (by kernel_rfl) (by kernel_rfl) (by kernel_rfl) (fun _ _ _ h => h) (Or.inl ⟨by rfl, ?_⟩) hHeld ?_
  rotate_left
  · intro w hSw; (try dsimp only at hSw); go_simp; all_goals (with_reducible rfl)
  try simp only [Act.put, List.setIfInBounds_toArray, List.set_cons_zero, List.set_cons_succ]
  refine wpAnyH_here 22 (v := ?_) rfl (by kernel_rfl) (by kernel_rfl) (by kernel_rfl) (fun _ _ _ h => h) (Or.inl ⟨by rfl, ?_⟩) hHeld ?_
  rotate_left
  · intro w hSw; (try dsimp only at hSw); go_simp; all_goals (with_reducible rfl)
  try simp only [Act.put, List.setIfInBounds_toArray, List.set_cons_zero, List.set_cons_succ]
  refine wpAnyH_here 23 (v := ?_) rfl (by kernel_rfl) (by kernel_rfl) (by kernel_rfl) (fun _ _ _ h => h) (Or.inl ⟨by rfl, ?_⟩) hHeld ?_
  rotate_left
  · intro w hSw; (try dsimp only at hSw); go_simp; all_goals (with_reducible rfl)
  try simp only [Act.put, List.setIfInBounds_toArray, List.set_cons_zero, List.set_cons_succ]
  refine wpAnyH_here 24 (v := ?_) rfl (by kernel_rfl) (by kernel_rfl) (by kernel_rfl) (fun _ _ _ h => h) (Or.inl ⟨by rfl, ?_⟩) hHeld ?_
  rotate_left
  · intro w hSw; (try dsimp only at hSw); go_simp; all_goals (with_reducible rfl)
  try simp only [Act.put, List.setIfInBounds_toArray, List.set_cons_zero, List.set_cons_succ]
  have HB : Below w.heap.size w ((w.alloc (.cells #[.int .i64 0, .bool false, .bool false, .bool false, .int .i64 0, .int .i64 0] 23)).alloc (.cells #[.int .i64 0, .bool false, .bool false, .bool false, .int .i64 0, .int .i64 0] 23)).drew := (b0.alloc b0.size _).drew
  refine wpAnyH_alone 25 rfl (by kernel_rfl) (fun K hK => ?_)
  go_simp
  skip
  refine hK.out _ _ (⟨(HB.cell (p := ⟨b, off + 1, none⟩) hltb).trans k1, (HB.cell (p := ⟨b, off + 3, none⟩) hltb).trans k3⟩) (fun hHeld => ?_)
  clear hK K
  try simp only [Act.put, List.setIfInBounds_toArray, List.set_cons_zero, List.set_cons_succ]
  obtain ⟨W1, hW1⟩ : ∃ W1, W1 = ((w.alloc (.cells #[.int .i64 0, .bool false, .bool false, .bool false, .int .i64 0, .int .i64 0] 23)).alloc (.cells #[.int .i64 0, .bool false, .bool false, .bool false, .int .i64 0, .int .i64 0] 23)).drew := ⟨_, rfl⟩
  have hP1 : Cel W1 (w.heap.size + 1) 23 #[.int .i64 0, .bool false, .bool false, .bool false, .int .i64 0, .int .i64 0] := by
    rw [hW1]
    have e : (w.alloc (.cells #[.int .i64 0, .bool false, .bool false, .bool false, .int .i64 0, .int .i64 0] 23)).heap.size = w.heap.size + 1 := by simp
    have h := Cel.new (w.alloc (.cells #[.int .i64 0, .bool false, .bool false, .bool false, .int .i64 0, .int .i64 0] 23)) 23 #[.int .i64 0, .bool false, .bool false, .bool false, .int .i64 0, .int .i64 0]
    rw [e] at h
    exact h
  have hR1 : Cel W1 w.heap.size 23 #[.int .i64 0, .bool false, .bool false, .bool false, .int .i64 0, .int .i64 0] := by rw [hW1]; exact Cel.later hR0 (bel_new _ _).drew
  have hB1 : Below w.heap.size w W1 := by rw [hW1]; exact HB
  rw [← hW1] at hHeld ⊢
  clear hW1 HB hR0 b0 k2
  have c0 := hP1.cell 0
  have c1 := hP1.cell 1
  have c2 := hP1.cell 2
  have c3 := hP1.cell 3
  have c4 := hP1.cell 4
  have c5 := hP1.cell 5
  simp at c0 c1 c2 c3 c4 c5
  have f0 := hP1.free 0
  have f1 := hP1.free 1
  have f2 := hP1.free 2
  have f3 := hP1.free 3
  have f4 := hP1.free 4
  have f5 := hP1.free 5
  refine wpAnyH_alone 26 rfl (by kernel_rfl) (fun K hK => ?_)
  go_simp
  skip
  refine hK.out _ _ (⟨((put6_below hB1 (Nat.le_succ _) (.int .i64 (C : Int)) (.bool lk) (.bool wt) (.bool rt) (.int .i64 (B : Int)) (.int .i64 (Y3 : Int))).cell (p := ⟨b, off + 1, none⟩) hltb).trans k1, ((put6_below hB1 (Nat.le_succ _) (.int .i64 (C : Int)) (.bool lk) (.bool wt) (.bool rt) (.int .i64 (B : Int)) (.int .i64 (Y3 : Int))).cell (p := ⟨b, off + 3, none⟩) hltb).trans k3⟩) (fun hHeld => ?_)
  clear hK K
  try simp only [Act.put, List.setIfInBounds_toArray, List.set_cons_zero, List.set_cons_succ]
  refine wpAnyH_done (by kernel_rfl) ?_ _
  obtain ⟨W2, hW2⟩ : ∃ W2, W2 = put6 W1 (w.heap.size + 1) (.int .i64 (C : Int)) (.bool lk) (.bool wt) (.bool rt) (.int .i64 (B : Int)) (.int .i64 (Y3 : Int)) := ⟨_, rfl⟩
  have hP2 : Cel W2 (w.heap.size + 1) 23 #[.int .i64 (C : Int), .bool lk, .bool wt, .bool rt, .int .i64 (B : Int), .int .i64 (Y3 : Int)] := by rw [hW2]; exact put6_cel hP1 _ _ _ _ _ _
  have hR2 : Cel W2 w.heap.size 23 #[.int .i64 0, .bool false, .bool false, .bool false, .int .i64 0, .int .i64 0] := by rw [hW2]; exact hR1.only (put6_only _ _ _ _ _ _ _ _) (by simp)
  have hB2 : Below w.heap.size w W2 := by rw [hW2]; exact put6_below hB1 (Nat.le_succ _) _ _ _ _ _ _
  unfold put6 at hW2
  clear c0 c1 c2 c3 c4 c5 f0 f1 f2 f3 f4 f5 hP1 hR1 hB1 k1 k3 hHeld
  rw [← hW2]
  clear hW2
  have c0 := hP2.cell 0
  have c1 := hP2.cell 1
  have c2 := hP2.cell 2
  have c3 := hP2.cell 3
  have c4 := hP2.cell 4
  have c5 := hP2.cell 5
  simp at c0 c1 c2 c3 c4 c5
  go_wp2_with fail
  refine (hen W2).mono ?_
  rintro e w5 ⟨v, rfl, hown, hb5⟩
  obtain ⟨A5, c5', rfl, r5⟩ := Rd.of hown hel
  have hR5 := Cel.later hR2 hb5
  have hP5 := Cel.later hP2 hb5
  have bel5 := hB2.trans (hb5.mono hB2.size)
  have hD5 := hD.later bel5
  clear hen hown hb5 hR2 hP2 hB2 c0 c1 c2 c3 c4 c5 hD
  have s1 := r5.conv (Below.refl _ _)
  have s2 := hD5.conv (Below.refl _ _)
  clear r5 hD5
  have c0 := hR5.cell 0
  have c1 := hR5.cell 1
  have c2 := hR5.cell 2
  have c3 := hR5.cell 3
  have c4 := hR5.cell 4
  have c5 := hR5.cell 5
  simp at c0 c1 c2 c3 c4 c5
  have f0 := hR5.free 0
  have f1 := hR5.free 1
  have f2 := hR5.free 2
  have f3 := hR5.free 3
  have f4 := hR5.free 4
  have f5 := hR5.free 5
  have p0 := hP5.cell 0
  have p1 := hP5.cell 1
  have p2 := hP5.cell 2
  have p3 := hP5.cell 3
  have p4 := hP5.cell 4
  have p5 := hP5.cell 5
  simp at p0 p1 p2 p3 p4 p5
  have q0 := hP5.free 0
  have q1 := hP5.free 1
  have q2 := hP5.free 2
  have q3 := hP5.free 3
  have q4 := hP5.free 4
  have q5 := hP5.free 5
  go_wp2
  exact bodyPost_ret (zde_results rfl rfl (put6_cel hR5 (.int .i64 (C : Int)) (.bool lk) (.bool wt) (.bool rt) (.int .i64 (B : Int)) (.int .i64 (Y3 : Int)))) rfl ⟨rfl, put6_below bel5 (Nat.le_refl _) _ _ _ _ _ _⟩

theorem zdecode_any (a : Option Addr) (l : List Byte) (n c : Nat) (w : World) (hD : Rd w a l n c) :
    Calls Try.prog 13 #[.slice a n c] w fun e w' => e = .returned (.tuple #[.agg #[.int .i64 (deP l).ch, .bool (deP l).lk, .bool (deP l).wt, .bool (deP l).rt, .int .i64 (deP l).bp, .int .i64 (deP l).nx], .int .i64 (deE l)]) ∧ Below w.heap.size w w' := by
  have hln := hD.len
  by_cases h1 : n < 4
  · obtain ⟨e1, e2⟩ := de_short (l := l) (by omega)
    rw [e1, e2]
    exact zdecode_short a n c w h1
  by_cases h2 : 4 < n
  · obtain ⟨e1, e2⟩ := de_long (l := l) (by omega)
    rw [e1, e2]
    exact zdecode_long a n c w h2
  obtain rfl : n = 4 := by omega
  cases hok : (rd l).ok with
  | false =>
    have hg : gd l = false := by unfold gd; rw [hok, Bool.and_false]
    obtain ⟨e1, e2⟩ := de_form (l := l) hln hg
    rw [e1, e2]
    exact zdecode_bad a l c w hD hok
  | true =>
    have hg := gd_enc hln hok
    by_cases he : (rd l).enc = l
    · rw [decide_eq_true he] at hg
      obtain ⟨e1, e2⟩ := de_good (l := l) hln hg
      rw [e1, e2]
      exact zdecode_good a l c w hD hok he
    · rw [decide_eq_false he] at hg
      obtain ⟨e1, e2⟩ := de_form (l := l) hln hg
      rw [e1, e2]
      exact zdecode_form a l c w hD hok he
end Go.Proofs.Ytmfiklofmjaldaa.Clc
