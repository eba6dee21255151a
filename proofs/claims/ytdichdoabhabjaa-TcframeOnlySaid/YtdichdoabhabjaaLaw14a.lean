/-
  The walk of 'alive' of layer 14.
-/
import Derived.Test.YtdichdoabhabjaaRef14c
import Derived.Test.YtdichdoabhabjaaLater
namespace Go.Proofs.Ytdichdoabhabjaa.Tcf
open Go.RowKit Go.Proofs.Ytdichdoabhabjaa.Pac

theorem conv_at (w : World) {B : Nat} {A : Option Addr} {l : List Byte} {n c : Nat} (hl : l.length = n) (hb : Bs w B A l) (hn : A = none → c = 0) :
    (convert 22 9 (.slice A n c)).run Try.prog w = .ok (.string (str l)) w := by
  subst hl
  exact run_str w is_bytes Try.underlying9 hb hn
theorem Rd.conv {w w' : World} {A : Option Addr} {l : List Byte} {n c : Nat} (h : Rd w A l n c) (hb : Below w.heap.size w w') : (convert 22 9 (.slice A n c)).run Try.prog w' = .ok (.string (str l)) w' :=
  conv_at w' h.len (h.bs.below hb) h.nil

def xL1 : List Byte := ap16 [0#8, 5#8, 4#8, 7#8, 3#8, 170#8]
def xL2 : List Byte := ap16 [48#8, 5#8, 4#8, 7#8, 0#8, 0#8]
theorem xL1_len : xL1.length = 8 := rfl
theorem xL2_len : xL2.length = 8 := rfl
theorem xok1 : Fr.ok ⟨false, false, 5, 1, 3, [170#8]⟩ = true := by decide
theorem xok2 : Fr.ok ⟨true, true, 5, 1, 0, [0#8]⟩ = true := by decide
theorem xen1 : Fr.enc ⟨false, false, 5, 1, 3, [170#8]⟩ = xL1 := by rw [Fr.enc_yes xok1]; rfl
theorem xen2 : Fr.enc ⟨true, true, 5, 1, 0, [0#8]⟩ = xL2 := by rw [Fr.enc_yes xok2]; rfl
theorem xde1 : deE xL1 = 0 ∧ deP xL1 = ⟨false, false, 5, 1, 3, [170#8]⟩ := by
  have h := dec_enc xok1
  rw [xen1] at h
  exact h

set_option maxRecDepth 100000 in
set_option maxHeartbeats 8000000 in
theorem alive14_any (w : World) : Calls Try.prog 8 #[] w fun e w' => e = .returned (.bool true) ∧ Below w.heap.size w w' := by
  obtain ⟨Wr, hWr⟩ : ∃ Wr, Wr = w.alloc (.cells #[.int .u8 170] 5) := ⟨_, rfl⟩
  have d0 : Rd Wr (some ⟨w.heap.size, 0, none⟩) [170#8] 1 1 := by
    rw [hWr]
    refine ⟨rfl, ?_, (fun h => nomatch h), by decide, by decide⟩
    exact Bs_new _ _ _ _ (by simp) _ (by simp) _
  have b0 : Below w.heap.size w Wr := by rw [hWr]; exact bel_new _ _
  have s0 : Wr.heap.size = w.heap.size + 1 := by rw [hWr]; simp
  obtain ⟨W0, hW0⟩ : ∃ W0, W0 = Wr.alloc (.cells #[.bool false, .bool false, .int .i64 5, .int .i64 1, .int .i64 3, .slice (some ⟨w.heap.size, 0, none⟩) 1 1] 24) := ⟨_, rfl⟩
  have d1 : Rd W0 (some ⟨w.heap.size, 0, none⟩) [170#8] 1 1 := by rw [hW0]; exact d0.later (bel_new _ _)
  have f1 : Cel W0 (w.heap.size + 1) 24 #[.bool false, .bool false, .int .i64 5, .int .i64 1, .int .i64 3, .slice (some ⟨w.heap.size, 0, none⟩) 1 1] := by rw [hW0, ← s0]; exact Cel.new _ _ _
  have b1 : Below w.heap.size w W0 := by rw [hW0]; exact b0.alloc b0.size _
  rw [hWr] at hW0
  have x1 := tencode_any false false 5 1 3 (some ⟨w.heap.size, 0, none⟩) [170#8] 1 1 W0 (Lib.hid rfl) d1.bs (fun h => nomatch h) (by decide)
  rw [xen1, Fr.err_yes xok1] at x1
  clear d0 b0 s0 hWr
  have m0 := f1.cell 0
  have m1 := f1.cell 1
  have m2 := f1.cell 2
  have m3 := f1.cell 3
  have m4 := f1.cell 4
  have m5 := f1.cell 5
  simp at m0 m1 m2 m3 m4 m5
  rw [hW0] at m0 m1 m2 m3 m4 m5
  go_enter Try.func8, Try.ntmps8
  go_wp2_with fail
  rw [← hW0]
  refine x1.mono ?_
  rintro e w1 ⟨v1, rfl, o1, h1⟩
  obtain ⟨A1, c1, rfl, k1⟩ := Rd.of o1 (n := 8) xL1_len
  have b2 := b1.trans (h1.mono b1.size)
  have f2 := Cel.later f1 h1
  have d2 := d1.later h1
  clear x1 o1 h1 f1 d1 b1 m0 m1 m2 m3 m4 m5 hW0
  go_wp2_with fail
  refine (tunlock_any 5 1 w1).mono ?_
  rintro e w2 ⟨Au, cu, rfl, ku, h2⟩
  have b3 := b2.trans (h2.mono b2.size)
  have f3 := Cel.later f2 h2
  have d3 := d2.later h2
  have k2 := k1.later h2
  have x2 := tencode_any true true 5 1 0 Au [0#8] 1 cu w2 (Lib.hid rfl) ku.bs ku.nil (by decide)
  rw [xen2, Fr.err_yes xok2] at x2
  clear h2 f2 d2 b2 k1
  go_wp2_with fail
  refine x2.mono ?_
  rintro e w3 ⟨v3, rfl, o3, h3⟩
  obtain ⟨A3, c3, rfl, k3⟩ := Rd.of o3 (n := 8) xL2_len
  have b4 := b3.trans (h3.mono b3.size)
  have f4 := Cel.later f3 h3
  have d4 := d3.later h3
  have k4 := k2.later h3
  have x3 := tdecode_any A1 xL1 8 c1 w3 (Lib.hid xL1_len) k4.bs k4.nil k4.le k4.max
  simp only [xde1.1, xde1.2] at x3
  clear x2 o3 h3 f3 d3 b3 k2 ku
  go_wp2_with fail
  refine x3.mono ?_
  rintro e w4 ⟨v4, rfl, o4, h4⟩
  obtain ⟨A6, c6, rfl, k6⟩ := Rd.of o4 (n := 1) rfl
  have b5 := b4.trans (h4.mono b4.size)
  have f5 := Cel.later f4 h4
  have d5 := d4.later h4
  have k5 := k4.later h4
  have k35 := k3.later h4
  clear x3 o4 h4 f4 d4 b4 k4 k3
  obtain ⟨W5, hW5⟩ : ∃ W5, W5 = w4.alloc (.cells #[.bool false, .bool false, .int .i64 5, .int .i64 1, .int .i64 3, .slice A6 1 c6] 24) := ⟨_, rfl⟩
  have h5 : Below w4.heap.size w4 W5 := by rw [hW5]; exact bel_new _ _
  have f6' : Cel W5 w4.heap.size 24 #[.bool false, .bool false, .int .i64 5, .int .i64 1, .int .i64 3, .slice A6 1 c6] := by rw [hW5]; exact Cel.new _ _ _
  have b6 := b5.trans (h5.mono b5.size)
  have f6 := Cel.later f5 h5
  have d6 := d5.later h5
  have k7 := k5.later h5
  have k37 := k35.later h5
  have k67 := k6.later h5
  have x4 := tsetNext_yes 5 1 9#8 W5
  rw [show (((9#8 : Byte).toNat : Nat) : Int) = 9 from rfl] at x4
  clear h5 f5 d5 b5 k5 k35 k6
  go_wp2_with fail
  rw [← hW5]
  refine x4.mono ?_
  rintro e w6 ⟨A9, c9, rfl, k9, h6⟩
  have x5 := tdirective_any true true 5 1 0 A9 [130#8, 0#8, 9#8] 3 c9 w6 k9
  rw [dir_next] at x5
  have b7 := b6.trans (h6.mono b6.size)
  have g1 := Cel.later f6 h6
  have g6 := Cel.later f6' h6
  have d7 := d6.later h6
  have k8 := k7.later h6
  have k38 := k37.later h6
  have k68 := k67.later h6
  clear x4 h6 f6 f6' d6 b6 k7 k37 k67 hW5
  go_wp2_with fail
  refine x5.mono ?_
  rintro e w7 ⟨rfl, h7⟩
  have b8 := b7.trans (h7.mono b7.size)
  have f8 := Cel.later g1 h7
  have f8' := Cel.later g6 h7
  have d8 := d7.later h7
  have kA := k8.later h7
  have kB := k38.later h7
  have kC := k68.later h7
  clear x5 h7 g1 g6 d7 k8 k38 k68 b7 k9
  have e0 : ((9#8 : Byte).toNat : Int) = 9 := rfl
  have e1 : ((str xL1).toList == (str xL1).toList) = true := by simp
  have e2 : ((str xL2).toList == (str xL2).toList) = true := by simp
  have hS : ∀ w', Below w7.heap.size w7 w' → (convert 22 9 (.slice A1 8 c1)).run Try.prog w' = .ok (.string (str xL1)) w' ∧ (convert 22 9 (.slice A3 8 c3)).run Try.prog w' = .ok (.string (str xL2)) w' ∧ w'.cell? ⟨w4.heap.size, 0, none⟩ = some (.bool false) ∧ w'.cell? ⟨w4.heap.size, 1, none⟩ = some (.bool false) ∧ w'.cell? ⟨w4.heap.size, 2, none⟩ = some (.int .i64 5) ∧ w'.cell? ⟨w4.heap.size, 3, none⟩ = some (.int .i64 1) ∧ w'.cell? ⟨w4.heap.size, 4, none⟩ = some (.int .i64 3) ∧ w'.cell? ⟨w4.heap.size, 5, none⟩ = some (.slice A6 1 c6) ∧ w'.cell? ⟨w.heap.size + 1, 0, none⟩ = some (.bool false) ∧ w'.cell? ⟨w.heap.size + 1, 1, none⟩ = some (.bool false) ∧ w'.cell? ⟨w.heap.size + 1, 2, none⟩ = some (.int .i64 5) ∧ w'.cell? ⟨w.heap.size + 1, 3, none⟩ = some (.int .i64 1) ∧ w'.cell? ⟨w.heap.size + 1, 4, none⟩ = some (.int .i64 3) ∧ w'.cell? ⟨w.heap.size + 1, 5, none⟩ = some (.slice (some ⟨w.heap.size, 0, none⟩) 1 1) := fun w' h => by
    have fa := (Cel.later f8' h).cell
    have fb := (Cel.later f8 h).cell
    exact ⟨kA.conv h, kB.conv h, fa 0, fa 1, fa 2, fa 3, fa 4, fa 5, fb 0, fb 1, fb 2, fb 3, fb 4, fb 5⟩
  have hQ : ∀ w', Below w7.heap.size w7 w' → Rd w' A6 [170#8] 1 c6 ∧ Rd w' (some ⟨w.heap.size, 0, none⟩) [170#8] 1 1 := fun w' h => ⟨kC.later h, d8.later h⟩
  clear f8 f8' kA kB kC d8
  go_wp2_with fail
  refine wp_region_held_drew (S := (fun w' => (convert 22 9 (.slice A1 8 c1)).run Try.prog w' = .ok (.string (str xL1)) w' ∧ (convert 22 9 (.slice A3 8 c3)).run Try.prog w' = .ok (.string (str xL2)) w' ∧ w'.cell? ⟨w4.heap.size, 0, none⟩ = some (.bool false) ∧ w'.cell? ⟨w4.heap.size, 1, none⟩ = some (.bool false) ∧ w'.cell? ⟨w4.heap.size, 2, none⟩ = some (.int .i64 5) ∧ w'.cell? ⟨w4.heap.size, 3, none⟩ = some (.int .i64 1) ∧ w'.cell? ⟨w4.heap.size, 4, none⟩ = some (.int .i64 3) ∧ w'.cell? ⟨w4.heap.size, 5, none⟩ = some (.slice A6 1 c6) ∧ w'.cell? ⟨w.heap.size + 1, 0, none⟩ = some (.bool false) ∧ w'.cell? ⟨w.heap.size + 1, 1, none⟩ = some (.bool false) ∧ w'.cell? ⟨w.heap.size + 1, 2, none⟩ = some (.int .i64 5) ∧ w'.cell? ⟨w.heap.size + 1, 3, none⟩ = some (.int .i64 1) ∧ w'.cell? ⟨w.heap.size + 1, 4, none⟩ = some (.int .i64 3) ∧ w'.cell? ⟨w.heap.size + 1, 5, none⟩ = some (.slice (some ⟨w.heap.size, 0, none⟩) 1 1))) (by kernel_rfl) (hS _ (Below.refl _ w7).drew) (fun hHeld => ?_)
  refine wpAnyH_here 0 (v := ?_) rfl (by kernel_rfl) (by kernel_rfl) (by kernel_rfl) (fun _ _ _ h => h) (Or.inl ⟨by rfl, ?_⟩) hHeld ?_
  rotate_left
  · intro w hSw; (try dsimp only at hSw); go_simp; all_goals (with_reducible rfl)
  try simp only [Act.put, List.setIfInBounds_toArray, List.set_cons_zero, List.set_cons_succ]
  refine wpAnyH_here 1 (v := ?_) rfl (by kernel_rfl) (by kernel_rfl) (by kernel_rfl) (fun _ _ _ h => h) (Or.inl ⟨by rfl, ?_⟩) hHeld ?_
  rotate_left
  · intro w hSw; (try dsimp only at hSw); go_simp; all_goals (with_reducible rfl)
  try simp only [Act.put, List.setIfInBounds_toArray, List.set_cons_zero, List.set_cons_succ]
  refine wpAnyH_here 2 (v := ?_) rfl (by kernel_rfl) (by kernel_rfl) (by kernel_rfl) (fun _ _ _ h => h) (Or.inl ⟨by rfl, ?_⟩) hHeld ?_
  rotate_left
  · intro w hSw; (try dsimp only at hSw); go_simp; all_goals (with_reducible rfl)
  try simp only [Act.put, List.setIfInBounds_toArray, List.set_cons_zero, List.set_cons_succ]
  refine wpAnyH_here 3 (v := ?_) rfl (by kernel_rfl) (by kernel_rfl) (by kernel_rfl) (fun _ _ _ h => h) (Or.inl ⟨by rfl, ?_⟩) hHeld ?_
  rotate_left
  · intro w hSw; (try dsimp only at hSw); go_simp; all_goals (with_reducible rfl)
  try simp only [Act.put, List.setIfInBounds_toArray, List.set_cons_zero, List.set_cons_succ]
  refine wpAnyH_here 4 (v := ?_) rfl (by kernel_rfl) (by kernel_rfl) (by kernel_rfl) (fun _ _ _ h => h) (Or.inl ⟨by rfl, ?_⟩) hHeld ?_
  rotate_left
  · intro w hSw; (try dsimp only at hSw); go_simp; all_goals (with_reducible rfl)
  try simp only [Act.put, List.setIfInBounds_toArray, List.set_cons_zero, List.set_cons_succ]
  refine wpAnyH_here 5 (v := ?_) rfl (by kernel_rfl) (by kernel_rfl) (by kernel_rfl) (fun _ _ _ h => h) (Or.inl ⟨by rfl, ?_⟩) hHeld ?_
  rotate_left
  · intro w hSw; (try dsimp only at hSw); go_simp; all_goals (with_reducible rfl)
  try simp only [Act.put, List.setIfInBounds_toArray, List.set_cons_zero, List.set_cons_succ]
  refine wpAnyH_here 6 (v := ?_) rfl (by kernel_rfl) (by kernel_rfl) (by kernel_rfl) (fun _ _ _ h => h) (Or.inl ⟨by rfl, ?_⟩) hHeld ?_
  rotate_left
  · intro w hSw; (try dsimp only at hSw); go_simp; all_goals (with_reducible rfl)
  try simp only [Act.put, List.setIfInBounds_toArray, List.set_cons_zero, List.set_cons_succ]
  refine wpAnyH_here 7 (v := ?_) rfl (by kernel_rfl) (by kernel_rfl) (by kernel_rfl) (fun _ _ _ h => h) (Or.inl ⟨by rfl, ?_⟩) hHeld ?_
  rotate_left
  · intro w hSw; (try dsimp only at hSw); go_simp; all_goals (with_reducible rfl)
  try simp only [Act.put, List.setIfInBounds_toArray, List.set_cons_zero, List.set_cons_succ]
  refine wpAnyH_here 8 (v := ?_) rfl (by kernel_rfl) (by kernel_rfl) (by kernel_rfl) (fun _ _ _ h => h) (Or.inl ⟨by rfl, ?_⟩) hHeld ?_
  rotate_left
  · intro w hSw; (try dsimp only at hSw); go_simp; all_goals (with_reducible rfl)
  try simp only [Act.put, List.setIfInBounds_toArray, List.set_cons_zero, List.set_cons_succ]
  refine wpAnyH_here 9 (v := ?_) rfl (by kernel_rfl) (by kernel_rfl) (by kernel_rfl) (fun _ _ _ h => h) (Or.inl ⟨by rfl, ?_⟩) hHeld ?_
  rotate_left
  · intro w hSw; (try dsimp only at hSw); go_simp; all_goals (with_reducible rfl)
  try simp only [Act.put, List.setIfInBounds_toArray, List.set_cons_zero, List.set_cons_succ]
  refine wpAnyH_here 10 (v := ?_) rfl (by kernel_rfl) (by kernel_rfl) (by kernel_rfl) (fun _ _ _ h => h) (Or.inl ⟨by rfl, ?_⟩) hHeld ?_
  rotate_left
  · intro w hSw; (try dsimp only at hSw); go_simp; all_goals (with_reducible rfl)
  try simp only [Act.put, List.setIfInBounds_toArray, List.set_cons_zero, List.set_cons_succ]
  refine wpAnyH_here 11 (v := ?_) rfl (by kernel_rfl) (by kernel_rfl) (by kernel_rfl) (fun _ _ _ h => h) (Or.inl ⟨by rfl, ?_⟩) hHeld ?_
  rotate_left
  · intro w hSw; (try dsimp only at hSw); go_simp; all_goals (with_reducible rfl)
  try simp only [Act.put, List.setIfInBounds_toArray, List.set_cons_zero, List.set_cons_succ]
  refine wpAnyH_here 12 (v := ?_) rfl (by kernel_rfl) (by kernel_rfl) (by kernel_rfl) (fun _ _ _ h => h) (Or.inl ⟨by rfl, ?_⟩) hHeld ?_
  rotate_left
  · intro w hSw; (try dsimp only at hSw); go_simp; all_goals (with_reducible rfl)
  try simp only [Act.put, List.setIfInBounds_toArray, List.set_cons_zero, List.set_cons_succ]
  have HB1 : Below w7.heap.size w7 (w7.alloc (.cells #[.int .u8 0, .int .u8 5, .int .u8 4, .int .u8 7, .int .u8 3, .int .u8 170] 5)).drew := (bel_new _ _).drew
  have r1 : Bs (w7.alloc (.cells #[.int .u8 0, .int .u8 5, .int .u8 4, .int .u8 7, .int .u8 3, .int .u8 170] 5)).drew (w7.heap.size + 1) (some ⟨w7.heap.size, 0, none⟩) [0#8, 5#8, 4#8, 7#8, 3#8, 170#8] := (Bs_new w7 5 [0#8, 5#8, 4#8, 7#8, 3#8, 170#8] _ (by simp) _ (by simp)).drew
  refine wpAnyH_alone 13 rfl (by kernel_rfl) (fun K hK => ?_)
  go_simp
  skip
  refine hK.out _ _ (hS _ HB1) (fun hHeld => ?_)
  clear hK K
  try simp only [Act.put, List.setIfInBounds_toArray, List.set_cons_zero, List.set_cons_succ]
  have z1 : (w7.alloc (.cells #[.int .u8 0, .int .u8 5, .int .u8 4, .int .u8 7, .int .u8 3, .int .u8 170] 5)).drew.heap.size = w7.heap.size + 1 := by simp
  obtain ⟨V1, hV1⟩ : ∃ V1, V1 = (w7.alloc (.cells #[.int .u8 0, .int .u8 5, .int .u8 4, .int .u8 7, .int .u8 3, .int .u8 170] 5)).drew := ⟨_, rfl⟩
  rw [← hV1] at HB1 r1 z1 hHeld ⊢
  clear hV1
  refine wpAnyH_alone 14 rfl (by kernel_rfl) (fun K hK => ?_)
  go_simp
  (go_at_call 23; refine (refAppend16_len (some ⟨w7.heap.size, 0, none⟩) [0#8, 5#8, 4#8, 7#8, 3#8, 170#8] 6 6 V1 rfl (r1.more (by omega)) (fun h => nomatch h) (by decide)).mono ?_; rintro e w8 ⟨v8, rfl, o8, h8⟩; obtain ⟨B1, d1, rfl, r8⟩ := Rd.of (l := xL1) o8 (n := 8) xL1_len; have HB8 := HB1.trans (h8.mono HB1.size))
  refine hK.out _ _ (hS _ HB8) (fun hHeld => ?_)
  clear hK K
  try simp only [Act.put, List.setIfInBounds_toArray, List.set_cons_zero, List.set_cons_succ]
  refine wpAnyH_sharpen (S' := (fun w' => ((convert 22 9 (.slice A1 8 c1)).run Try.prog w' = .ok (.string (str xL1)) w' ∧ (convert 22 9 (.slice A3 8 c3)).run Try.prog w' = .ok (.string (str xL2)) w' ∧ w'.cell? ⟨w4.heap.size, 0, none⟩ = some (.bool false) ∧ w'.cell? ⟨w4.heap.size, 1, none⟩ = some (.bool false) ∧ w'.cell? ⟨w4.heap.size, 2, none⟩ = some (.int .i64 5) ∧ w'.cell? ⟨w4.heap.size, 3, none⟩ = some (.int .i64 1) ∧ w'.cell? ⟨w4.heap.size, 4, none⟩ = some (.int .i64 3) ∧ w'.cell? ⟨w4.heap.size, 5, none⟩ = some (.slice A6 1 c6) ∧ w'.cell? ⟨w.heap.size + 1, 0, none⟩ = some (.bool false) ∧ w'.cell? ⟨w.heap.size + 1, 1, none⟩ = some (.bool false) ∧ w'.cell? ⟨w.heap.size + 1, 2, none⟩ = some (.int .i64 5) ∧ w'.cell? ⟨w.heap.size + 1, 3, none⟩ = some (.int .i64 1) ∧ w'.cell? ⟨w.heap.size + 1, 4, none⟩ = some (.int .i64 3) ∧ w'.cell? ⟨w.heap.size + 1, 5, none⟩ = some (.slice (some ⟨w.heap.size, 0, none⟩) 1 1)) ∧ (convert 22 9 (.slice B1 8 d1)).run Try.prog w' = .ok (.string (str xL1)) w')) (fun w h => h.1) (⟨hHeld, r8.conv (Below.refl _ _)⟩) (fun hHeld => ?_)
  refine wpAnyH_here 15 (v := ?_) rfl (by kernel_rfl) (by kernel_rfl) (by kernel_rfl) (fun _ _ _ h => h) (Or.inl ⟨by rfl, ?_⟩) hHeld ?_
  rotate_left
  · intro w hSw; (try dsimp only at hSw); go_simp; all_goals (with_reducible rfl)
  try simp only [Act.put, List.setIfInBounds_toArray, List.set_cons_zero, List.set_cons_succ]
  refine wpAnyH_here 16 (v := ?_) rfl (by kernel_rfl) (by kernel_rfl) (by kernel_rfl) (fun _ _ _ h => h) (Or.inl ⟨by rfl, ?_⟩) hHeld ?_
  rotate_left
  · intro w hSw; (try dsimp only at hSw); go_simp; all_goals (with_reducible rfl)
  try simp only [Act.put, List.setIfInBounds_toArray, List.set_cons_zero, List.set_cons_succ]
  refine wpAnyH_here 17 (v := ?_) rfl (by kernel_rfl) (by kernel_rfl) (by kernel_rfl) (fun _ _ _ h => h) (Or.inl ⟨by rfl, ?_⟩) hHeld ?_
  rotate_left
  · intro w hSw; (try dsimp only at hSw); go_simp; all_goals (with_reducible rfl)
  try simp only [Act.put, List.setIfInBounds_toArray, List.set_cons_zero, List.set_cons_succ]
  refine wpAnyH_here 18 (v := ?_) rfl (by kernel_rfl) (by kernel_rfl) (by kernel_rfl) (fun _ _ _ h => h) (Or.inl ⟨by rfl, ?_⟩) hHeld ?_
  rotate_left
  · intro w hSw; (try dsimp only at hSw); go_simp; all_goals (with_reducible rfl)
  try simp only [Act.put, List.setIfInBounds_toArray, List.set_cons_zero, List.set_cons_succ]
  refine wpAnyH_here 19 (v := ?_) rfl (by kernel_rfl) (by kernel_rfl) (by kernel_rfl) (fun _ _ _ h => h) (Or.inl ⟨by rfl, ?_⟩) hHeld ?_
  rotate_left
  · intro w hSw; (try dsimp only at hSw); go_simp; all_goals (with_reducible rfl)
  try simp only [Act.put, List.setIfInBounds_toArray, List.set_cons_zero, List.set_cons_succ]
  refine wpAnyH_here 20 (v := ?_) rfl (by kernel_rfl) (by kernel_rfl) (by kernel_rfl) (fun _ _ _ h => h) (Or.inl ⟨by rfl, ?_⟩) hHeld ?_
  rotate_left
  · intro w hSw; (try dsimp only at hSw); go_simp; all_goals (with_reducible rfl)
  try simp only [Act.put, List.setIfInBounds_toArray, List.set_cons_zero, List.set_cons_succ]
  have HB9 : Below w7.heap.size w7 (w8.alloc (.cells #[.int .u8 48, .int .u8 5, .int .u8 4, .int .u8 7, .int .u8 0, .int .u8 0] 5)) := HB8.alloc HB8.size _
  have r9 : Bs (w8.alloc (.cells #[.int .u8 48, .int .u8 5, .int .u8 4, .int .u8 7, .int .u8 0, .int .u8 0] 5)) (w8.heap.size + 1) (some ⟨w8.heap.size, 0, none⟩) [48#8, 5#8, 4#8, 7#8, 0#8, 0#8] := Bs_new w8 5 [48#8, 5#8, 4#8, 7#8, 0#8, 0#8] _ (by simp) _ (by simp)
  have k89 := bel_new w8 (.cells #[.int .u8 48, .int .u8 5, .int .u8 4, .int .u8 7, .int .u8 0, .int .u8 0] 5)
  refine wpAnyH_alone 21 rfl (by kernel_rfl) (fun K hK => ?_)
  go_simp
  skip
  refine hK.out _ _ (⟨hS _ HB9, r8.conv k89⟩) (fun hHeld => ?_)
  clear hK K
  try simp only [Act.put, List.setIfInBounds_toArray, List.set_cons_zero, List.set_cons_succ]
  have z9 : (w8.alloc (.cells #[.int .u8 48, .int .u8 5, .int .u8 4, .int .u8 7, .int .u8 0, .int .u8 0] 5)).heap.size = w8.heap.size + 1 := by simp
  obtain ⟨V9, hV9⟩ : ∃ V9, V9 = w8.alloc (.cells #[.int .u8 48, .int .u8 5, .int .u8 4, .int .u8 7, .int .u8 0, .int .u8 0] 5) := ⟨_, rfl⟩
  rw [← hV9] at HB9 r9 z9 k89 hHeld ⊢
  clear hV9
  refine wpAnyH_alone 22 rfl (by kernel_rfl) (fun K hK => ?_)
  go_simp
  (go_at_call 23; refine (refAppend16_len (some ⟨w8.heap.size, 0, none⟩) [48#8, 5#8, 4#8, 7#8, 0#8, 0#8] 6 6 V9 rfl (r9.more (by omega)) (fun h => nomatch h) (by decide)).mono ?_; rintro e wa ⟨va, rfl, oa, ha⟩; obtain ⟨B2, d2, rfl, ra⟩ := Rd.of (l := xL2) oa (n := 8) xL2_len; have HBa := HB9.trans (ha.mono HB9.size); have k8a := k89.trans (ha.mono k89.size))
  refine hK.out _ _ (⟨hS _ HBa, r8.conv k8a⟩) (fun hHeld => ?_)
  clear hK K
  try simp only [Act.put, List.setIfInBounds_toArray, List.set_cons_zero, List.set_cons_succ]
  refine wpAnyH_sharpen (S' := (fun w' => (((convert 22 9 (.slice A1 8 c1)).run Try.prog w' = .ok (.string (str xL1)) w' ∧ (convert 22 9 (.slice A3 8 c3)).run Try.prog w' = .ok (.string (str xL2)) w' ∧ w'.cell? ⟨w4.heap.size, 0, none⟩ = some (.bool false) ∧ w'.cell? ⟨w4.heap.size, 1, none⟩ = some (.bool false) ∧ w'.cell? ⟨w4.heap.size, 2, none⟩ = some (.int .i64 5) ∧ w'.cell? ⟨w4.heap.size, 3, none⟩ = some (.int .i64 1) ∧ w'.cell? ⟨w4.heap.size, 4, none⟩ = some (.int .i64 3) ∧ w'.cell? ⟨w4.heap.size, 5, none⟩ = some (.slice A6 1 c6) ∧ w'.cell? ⟨w.heap.size + 1, 0, none⟩ = some (.bool false) ∧ w'.cell? ⟨w.heap.size + 1, 1, none⟩ = some (.bool false) ∧ w'.cell? ⟨w.heap.size + 1, 2, none⟩ = some (.int .i64 5) ∧ w'.cell? ⟨w.heap.size + 1, 3, none⟩ = some (.int .i64 1) ∧ w'.cell? ⟨w.heap.size + 1, 4, none⟩ = some (.int .i64 3) ∧ w'.cell? ⟨w.heap.size + 1, 5, none⟩ = some (.slice (some ⟨w.heap.size, 0, none⟩) 1 1)) ∧ (convert 22 9 (.slice B1 8 d1)).run Try.prog w' = .ok (.string (str xL1)) w') ∧ (convert 22 9 (.slice B2 8 d2)).run Try.prog w' = .ok (.string (str xL2)) w')) (fun w h => h.1) (⟨hHeld, ra.conv (Below.refl _ _)⟩) (fun hHeld => ?_)
  refine wpAnyH_here 23 (v := ?_) rfl (by kernel_rfl) (by kernel_rfl) (by kernel_rfl) (fun _ _ _ h => h) (Or.inl ⟨by rfl, ?_⟩) hHeld ?_
  rotate_left
  · intro w hSw; (try dsimp only at hSw); go_simp; all_goals (with_reducible rfl)
  try simp only [Act.put, List.setIfInBounds_toArray, List.set_cons_zero, List.set_cons_succ]
  refine wpAnyH_here 24 (v := ?_) rfl (by kernel_rfl) (by kernel_rfl) (by kernel_rfl) (fun _ _ _ h => h) (Or.inl ⟨by rfl, ?_⟩) hHeld ?_
  rotate_left
  · intro w hSw; (try dsimp only at hSw); go_simp; all_goals (with_reducible rfl)
  try simp only [Act.put, List.setIfInBounds_toArray, List.set_cons_zero, List.set_cons_succ]
  refine wpAnyH_here 25 (v := ?_) rfl (by kernel_rfl) (by kernel_rfl) (by kernel_rfl) (fun _ _ _ h => h) (Or.inl ⟨by rfl, ?_⟩) hHeld ?_
  rotate_left
  · intro w hSw; (try dsimp only at hSw); go_simp; all_goals (with_reducible rfl)
  try simp only [Act.put, List.setIfInBounds_toArray, List.set_cons_zero, List.set_cons_succ]
  refine wpAnyH_here 26 (v := ?_) rfl (by kernel_rfl) (by kernel_rfl) (by kernel_rfl) (fun _ _ _ h => h) (Or.inl ⟨by rfl, ?_⟩) hHeld ?_
  rotate_left
  · intro w hSw; (try dsimp only at hSw); go_simp; all_goals (with_reducible rfl)
  try simp only [Act.put, List.setIfInBounds_toArray, List.set_cons_zero, List.set_cons_succ]
  refine wpAnyH_here 27 (v := ?_) rfl (by kernel_rfl) (by kernel_rfl) (by kernel_rfl) (fun _ _ _ h => h) (Or.inl ⟨by rfl, ?_⟩) hHeld ?_
  rotate_left
  · intro w hSw; (try dsimp only at hSw); go_simp; all_goals (with_reducible rfl)
  try simp only [Act.put, List.setIfInBounds_toArray, List.set_cons_zero, List.set_cons_succ]
  refine wpAnyH_here 28 (v := ?_) rfl (by kernel_rfl) (by kernel_rfl) (by kernel_rfl) (fun _ _ _ h => h) (Or.inl ⟨by rfl, ?_⟩) hHeld ?_
  rotate_left
  · intro w hSw; (try dsimp only at hSw); go_simp; all_goals (with_reducible rfl)
  try simp only [Act.put, List.setIfInBounds_toArray, List.set_cons_zero, List.set_cons_succ]
  refine wpAnyH_alone 29 rfl (by kernel_rfl) (fun K hK => ?_)
  go_simp
  (go_at_call 17; refine (ysame_any false false 5 1 3 A6 (some ⟨w.heap.size, 0, none⟩) [170#8] 1 c6 1 wa (hQ _ HBa).1 (hQ _ HBa).2).mono ?_; rintro e wb ⟨rfl, hb⟩; have HBb := HBa.trans (hb.mono HBa.size); have k8b := k8a.trans (hb.mono k8a.size))
  refine hK.out _ _ (⟨⟨hS _ HBb, r8.conv k8b⟩, ra.conv hb⟩) (fun hHeld => ?_)
  clear hK K
  try simp only [Act.put, List.setIfInBounds_toArray, List.set_cons_zero, List.set_cons_succ]
  refine wpAnyH_here 30 (v := ?_) rfl (by kernel_rfl) (by kernel_rfl) (by kernel_rfl) (fun _ _ _ h => h) (Or.inl ⟨by rfl, ?_⟩) hHeld ?_
  rotate_left
  · intro w hSw; (try dsimp only at hSw); go_simp; all_goals (with_reducible rfl)
  try simp only [Act.put, List.setIfInBounds_toArray, List.set_cons_zero, List.set_cons_succ]
  refine wpAnyH_here 31 (v := ?_) rfl (by kernel_rfl) (by kernel_rfl) (by kernel_rfl) (fun _ _ _ h => h) (Or.inl ⟨by rfl, ?_⟩) hHeld ?_
  rotate_left
  · intro w hSw; (try dsimp only at hSw); go_simp; all_goals (with_reducible rfl)
  try simp only [Act.put, List.setIfInBounds_toArray, List.set_cons_zero, List.set_cons_succ]
  refine wpAnyH_here 32 (v := ?_) rfl (by kernel_rfl) (by kernel_rfl) (by kernel_rfl) (fun _ _ _ h => h) (Or.inl ⟨by rfl, ?_⟩) hHeld ?_
  rotate_left
  · intro w hSw; (try dsimp only at hSw); go_simp; all_goals (with_reducible rfl)
  try simp only [Act.put, List.setIfInBounds_toArray, List.set_cons_zero, List.set_cons_succ]
  refine wpAnyH_here 33 (v := ?_) rfl (by kernel_rfl) (by kernel_rfl) (by kernel_rfl) (fun _ _ _ h => h) (Or.inl ⟨by rfl, ?_⟩) hHeld ?_
  rotate_left
  · intro w hSw; (try dsimp only at hSw); go_simp; all_goals (with_reducible rfl)
  try simp only [Act.put, List.setIfInBounds_toArray, List.set_cons_zero, List.set_cons_succ]
  refine wpAnyH_here 34 (v := ?_) rfl (by kernel_rfl) (by kernel_rfl) (by kernel_rfl) (fun _ _ _ h => h) (Or.inl ⟨by rfl, ?_⟩) hHeld ?_
  rotate_left
  · intro w hSw; (try dsimp only at hSw); go_simp; all_goals (with_reducible rfl)
  try simp only [Act.put, List.setIfInBounds_toArray, List.set_cons_zero, List.set_cons_succ]
  refine wpAnyH_here 35 (v := ?_) rfl (by kernel_rfl) (by kernel_rfl) (by kernel_rfl) (fun _ _ _ h => h) (Or.inl ⟨by rfl, ?_⟩) hHeld ?_
  rotate_left
  · intro w hSw; (try dsimp only at hSw); go_simp; all_goals (with_reducible rfl)
  try simp only [Act.put, List.setIfInBounds_toArray, List.set_cons_zero, List.set_cons_succ]
  refine wpAnyH_here 36 (v := ?_) rfl (by kernel_rfl) (by kernel_rfl) (by kernel_rfl) (fun _ _ _ h => h) (Or.inl ⟨by rfl, ?_⟩) hHeld ?_
  rotate_left
  · intro w hSw; (try dsimp only at hSw); go_simp; all_goals (with_reducible rfl)
  try simp only [Act.put, List.setIfInBounds_toArray, List.set_cons_zero, List.set_cons_succ]
  refine wpAnyH_here 37 (v := ?_) rfl (by kernel_rfl) (by kernel_rfl) (by kernel_rfl) (fun _ _ _ h => h) (Or.inl ⟨by rfl, ?_⟩) hHeld ?_
  rotate_left
  · intro w hSw; (try dsimp only at hSw); go_simp; all_goals (with_reducible rfl)
  try simp only [Act.put, List.setIfInBounds_toArray, List.set_cons_zero, List.set_cons_succ]
  refine wpAnyH_here 38 (v := ?_) rfl (by kernel_rfl) (by kernel_rfl) (by kernel_rfl) (fun _ _ _ h => h) (Or.inl ⟨by rfl, ?_⟩) hHeld ?_
  rotate_left
  · intro w hSw; (try dsimp only at hSw); go_simp; all_goals (with_reducible rfl)
  try simp only [Act.put, List.setIfInBounds_toArray, List.set_cons_zero, List.set_cons_succ]
  refine wpAnyH_here 39 (v := ?_) rfl (by kernel_rfl) (by kernel_rfl) (by kernel_rfl) (fun _ _ _ h => h) (Or.inl ⟨by rfl, ?_⟩) hHeld ?_
  rotate_left
  · intro w hSw; (try dsimp only at hSw); go_simp; all_goals (with_reducible rfl)
  try simp only [Act.put, List.setIfInBounds_toArray, List.set_cons_zero, List.set_cons_succ]
  refine wpAnyH_here 40 (v := ?_) rfl (by kernel_rfl) (by kernel_rfl) (by kernel_rfl) (fun _ _ _ h => h) (Or.inl ⟨by rfl, ?_⟩) hHeld ?_
  rotate_left
  · intro w hSw; (try dsimp only at hSw); go_simp; all_goals (with_reducible rfl)
  try simp only [Act.put, List.setIfInBounds_toArray, List.set_cons_zero, List.set_cons_succ]
  refine wpAnyH_here 41 (v := ?_) rfl (by kernel_rfl) (by kernel_rfl) (by kernel_rfl) (fun _ _ _ h => h) (Or.inl ⟨by rfl, ?_⟩) hHeld ?_
  rotate_left
  · intro w hSw; (try dsimp only at hSw); go_simp; all_goals (with_reducible rfl)
  try simp only [Act.put, List.setIfInBounds_toArray, List.set_cons_zero, List.set_cons_succ]
  refine wpAnyH_here 42 (v := ?_) rfl (by kernel_rfl) (by kernel_rfl) (by kernel_rfl) (fun _ _ _ h => h) (Or.inl ⟨by rfl, ?_⟩) hHeld ?_
  rotate_left
  · intro w hSw; (try dsimp only at hSw); go_simp; all_goals (with_reducible rfl)
  try simp only [Act.put, List.setIfInBounds_toArray, List.set_cons_zero]
  refine wpAnyH_done (by kernel_rfl) ?_ _
  go_wp2
  go_ret
  exact ⟨rfl, b8.trans (HBb.mono b8.size)⟩
end Go.Proofs.Ytdichdoabhabjaa.Tcf
