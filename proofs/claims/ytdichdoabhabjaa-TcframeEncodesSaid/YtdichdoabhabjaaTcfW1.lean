/-
  The walk of package tcframe's Encode.
-/
import Derived.Test.YtdichdoabhabjaaTcfW0
import Derived.Test.YtdichdoabhabjaaPacW2
import Derived.Test.YtdichdoabhabjaaCrcW3
namespace Go.Proofs.Ytdichdoabhabjaa.Tcf
open Go.RowKit Go.Proofs.Ytdichdoabhabjaa.Pac

theorem tappend16_len (a : Option Addr) (l : List Byte) (n c : Nat) (w : World) (hl : l.length = n) (hb : Bs w w.heap.size a l) (hn : a = none → c = 0) (hm : n ≤ 140737488355000) :
    Calls Try.prog 27 #[.slice a n c] w fun e w' => ∃ v, e = .returned v ∧ Ow w' w.heap.size 5 v (ap16 l) ∧ Below w.heap.size w w' := by
  subst hl
  exact append16_any a l c w hb hn hm

set_option maxHeartbeats 1000000 in
theorem tencode_no (byp con : Bool) (cr ch sq : Int) (a : Option Addr) (l : List Byte) (n c : Nat) (w : World) (hl : Hid (l.length = n)) (hm : n ≤ maxLen) (hok : Fr.ok ⟨byp, con, cr, ch, sq, l⟩ = false) :
    Calls Try.prog 9 #[.agg #[.bool byp, .bool con, .int .i64 cr, .int .i64 ch, .int .i64 sq, .slice a n c]] w fun e w' => e = .returned (.tuple #[.slice none 0 0, .int .i64 1]) ∧ Below w.heap.size w w' := by
  have hv := fun W => tvalid_any byp con cr ch sq a l n c W hl hm
  rw [hok] at hv
  clear hok hl hm
  go_enter Try.func9, Try.ntmps9
  go_wp2_with fail
  refine (hv _).mono ?_
  rintro e w' ⟨rfl, hbe⟩
  go_wp2
  go_ret2
  exact ⟨rfl, (bel_new _ _).trans (hbe.mono (bel_new _ _).size)⟩

set_option maxHeartbeats 2000000 in
theorem tencode_yes (byp con : Bool) (C H Q M : Nat) (a : Option Addr) (l : List Byte) (c : Nat) (w : World) (hl : Hid (l.length = M)) (hb : Bs w w.heap.size a l) (hn : a = none → c = 0) (hok : Fr.ok ⟨byp, con, C, H, Q, l⟩ = true) (hC : C < 1024) (hH : H < 8) (hQ : Q < 256) (hM : M ≤ 1017) :
    Calls Try.prog 9 #[.agg #[.bool byp, .bool con, .int .i64 (C : Int), .int .i64 (H : Int), .int .i64 (Q : Int), .slice a M c]] w fun e w' => ∃ v, e = .returned (.tuple #[v, .int .i64 0]) ∧ Ow w' w.heap.size 5 v (ap16 (hdr5 (hd byp con C) (sd H (M + 6)) Q ++ l)) ∧ Below w.heap.size w w' := by
  have hv := fun W => tvalid_any byp con (C : Int) (H : Int) (Q : Int) a l M c W hl (by unfold maxLen; omega)
  rw [hok] at hv
  have hP0 := Cel.new w 24 #[.bool byp, .bool con, .int .i64 (C : Int), .int .i64 (H : Int), .int .i64 (Q : Int), .slice a M c]
  obtain ⟨Z, hZ⟩ : ∃ Z, Z = M + 6 := ⟨_, rfl⟩
  have hKl : Z < 1024 := by omega
  have k1 := to_u64 C (by omega)
  have k2 := to_u64 H (by omega)
  have k3 := to_u64 Q (by omega)
  have k4 : IntKind.u64.wrap (5 + (M : Int) + 2 - 1) = (Z : Int) := by rw [IntKind.wrap_u64]; omega
  have k5 : (5 + (M : Int) + 2 - 1) = (Z : Int) := by omega
  have k6 := to_u64 Z (by omega)
  have k7 : IntKind.i64.wrap (Z : Int) = (Z : Int) := by simp [IntKind.wrap, IntKind.bits, IntKind.signed]; omega
  rw [← hZ]
  obtain ⟨E, hE⟩ : ∃ E, E = hdr5 (hd byp con C) (sd H Z) Q ++ l := ⟨_, rfl⟩
  have hEl : E.length = 5 + M := by rw [hE, List.length_append, hl.out, hdr5_len]
  rw [← hE]
  have HL := Lib.hid hEl
  have HE := Lib.hid hE
  clear hok hZ hE hEl
  go_enter Try.func9, Try.ntmps9
  go_wp2_with fail
  refine (hv _).mono ?_
  rintro e w1 ⟨rfl, hbe⟩
  have hP := Cel.later hP0 hbe
  have bel1 := (bel_new w (.cells #[.bool byp, .bool con, .int .i64 (C : Int), .int .i64 (H : Int), .int .i64 (Q : Int), .slice a M c] 24)).trans (hbe.mono (bel_new w _).size)
  have hlt := hP.lt
  have c0 := hP.cell 0
  have c1 := hP.cell 1
  have c2 := hP.cell 2
  have c3 := hP.cell 3
  have c4 := hP.cell 4
  have c5 := hP.cell 5
  simp at c0 c1 c2 c3 c4 c5
  clear hv hP0 hP hbe
  go_wp2_with fail
  refine wp_region_held_drew (S := (fun w' => w'.cell? ⟨w.heap.size, 0, none⟩ = some (.bool byp) ∧ w'.cell? ⟨w.heap.size, 1, none⟩ = some (.bool con))) (by kernel_rfl) (⟨c0, c1⟩) (fun hHeld => ?_)
  refine wpAnyH_here 2 (v := ?_) rfl (by kernel_rfl) (by kernel_rfl) (by kernel_rfl) (fun _ _ _ h => h) (Or.inl ⟨by rfl, ?_⟩) hHeld ?_
  rotate_left
  · intro w hSw; (try dsimp only at hSw); go_simp; all_goals (with_reducible rfl)
  try simp only [Act.put, List.setIfInBounds_toArray, List.set_cons_zero, List.set_cons_succ]
  refine wpAnyH_here 3 (v := ?_) rfl (by kernel_rfl) (by kernel_rfl) (by kernel_rfl) (fun _ _ _ h => h) (Or.inl ⟨by rfl, ?_⟩) hHeld ?_
  rotate_left
  · intro w hSw; (try dsimp only at hSw); go_simp; all_goals (with_reducible rfl)
  try simp only [Act.put, List.setIfInBounds_toArray, List.set_cons_zero, List.set_cons_succ]
  refine wpAnyH_here 6 (v := ?_) rfl (by kernel_rfl) (by kernel_rfl) (by kernel_rfl) (fun _ _ _ h => h) (Or.inl ⟨by rfl, ?_⟩) hHeld ?_
  rotate_left
  · intro w hSw; (try dsimp only at hSw); go_simp; all_goals (with_reducible rfl)
  try simp only [Act.put, List.setIfInBounds_toArray, List.set_cons_zero, List.set_cons_succ]
  refine wpAnyH_here 7 (v := ?_) rfl (by kernel_rfl) (by kernel_rfl) (by kernel_rfl) (fun _ _ _ h => h) (Or.inl ⟨by rfl, ?_⟩) hHeld ?_
  rotate_left
  · intro w hSw; (try dsimp only at hSw); go_simp; all_goals (with_reducible rfl)
  try simp only [Act.put, List.setIfInBounds_toArray, List.set_cons_zero, List.set_cons_succ]
  refine wpAnyH_alone 0 rfl (by kernel_rfl) (fun K hK => ?_)
  go_simp
  (go_at_call 24; refine (newWriter_any _).mono ?_; rintro e W0 ⟨rfl, hW0⟩; have s0 : WS w1.heap.size w1 w1.heap.size [] W0 := by rw [← hW0]; exact WS.new (Below.refl _ _).drew (Nat.le_refl _)); clear hW0; have HB := s0.2.2
  refine hK.out _ _ (⟨(HB.cell (p := ⟨w.heap.size, 0, none⟩) hlt).trans c0, (HB.cell (p := ⟨w.heap.size, 1, none⟩) hlt).trans c1⟩) (fun hHeld => ?_)
  clear hK K
  try simp only [Act.put, List.setIfInBounds_toArray, List.set_cons_zero, List.set_cons_succ]
  refine wpAnyH_alone 1 rfl (by kernel_rfl) (fun K hK => ?_)
  go_simp
  (go_at_call 25; refine (s0.put (0) (0) rfl 2 2 rfl (by omega) (by omega) (by simp)).mono ?_; rintro e W1 ⟨rfl, s1⟩; have HB := s1.2.2)
  refine hK.out _ _ (⟨(HB.cell (p := ⟨w.heap.size, 0, none⟩) hlt).trans c0, (HB.cell (p := ⟨w.heap.size, 1, none⟩) hlt).trans c1⟩) (fun hHeld => ?_)
  clear hK K
  try simp only [Act.put, List.setIfInBounds_toArray, List.set_cons_zero, List.set_cons_succ]
  refine wpAnyH_alone 4 rfl (by kernel_rfl) (fun K hK => ?_)
  go_simp
  (go_at_call 26; refine (tbit_any _ _).mono ?_; rintro e W2 ⟨rfl, rfl⟩)
  refine hK.out _ _ (⟨(HB.cell (p := ⟨w.heap.size, 0, none⟩) hlt).trans c0, (HB.cell (p := ⟨w.heap.size, 1, none⟩) hlt).trans c1⟩) (fun hHeld => ?_)
  clear hK K
  try simp only [Act.put, List.setIfInBounds_toArray, List.set_cons_zero, List.set_cons_succ]
  refine wpAnyH_alone 5 rfl (by kernel_rfl) (fun K hK => ?_)
  go_simp
  (go_at_call 25; refine (s1.put ((nb byp : Nat)) (nb byp) rfl 1 1 rfl (by have := nb_lt byp; have := nb_lt con; omega) (by omega) (by simp [bitsOf_len])).mono ?_; rintro e W3 ⟨rfl, s3⟩; have HB := s3.2.2)
  refine hK.out _ _ (⟨(HB.cell (p := ⟨w.heap.size, 0, none⟩) hlt).trans c0, (HB.cell (p := ⟨w.heap.size, 1, none⟩) hlt).trans c1⟩) (fun hHeld => ?_)
  clear hK K
  try simp only [Act.put, List.setIfInBounds_toArray, List.set_cons_zero, List.set_cons_succ]
  refine wpAnyH_alone 8 rfl (by kernel_rfl) (fun K hK => ?_)
  go_simp
  (go_at_call 26; refine (tbit_any _ _).mono ?_; rintro e W4 ⟨rfl, rfl⟩)
  refine hK.out _ _ (⟨(HB.cell (p := ⟨w.heap.size, 0, none⟩) hlt).trans c0, (HB.cell (p := ⟨w.heap.size, 1, none⟩) hlt).trans c1⟩) (fun hHeld => ?_)
  clear hK K
  try simp only [Act.put, List.setIfInBounds_toArray, List.set_cons_zero, List.set_cons_succ]
  refine wpAnyH_alone 9 rfl (by kernel_rfl) (fun K hK => ?_)
  go_simp
  (go_at_call 25; refine (s3.put ((nb con : Nat)) (nb con) rfl 1 1 rfl (by have := nb_lt byp; have := nb_lt con; omega) (by omega) (by simp [bitsOf_len])).mono ?_; rintro e W5 ⟨rfl, s5⟩; have HB := s5.2.2)
  refine hK.out _ _ (⟨(HB.cell (p := ⟨w.heap.size, 0, none⟩) hlt).trans c0, (HB.cell (p := ⟨w.heap.size, 1, none⟩) hlt).trans c1⟩) (fun hHeld => ?_)
  clear hK K
  try simp only [Act.put, List.setIfInBounds_toArray, List.set_cons_zero, List.set_cons_succ]
  refine wpAnyH_alone 10 rfl (by kernel_rfl) (fun K hK => ?_)
  go_simp
  (go_at_call 25; refine (s5.put (0) (0) rfl 2 2 rfl (by omega) (by omega) (by simp [bitsOf_len])).mono ?_; rintro e W6 ⟨rfl, s6⟩; have HB := s6.2.2)
  refine hK.out _ _ (⟨(HB.cell (p := ⟨w.heap.size, 0, none⟩) hlt).trans c0, (HB.cell (p := ⟨w.heap.size, 1, none⟩) hlt).trans c1⟩) (fun hHeld => ?_)
  clear hK K
  try simp only [Act.put, List.setIfInBounds_toArray, List.set_cons_zero, List.set_cons_succ]
  refine wpAnyH_here 11 (v := ?_) rfl (by kernel_rfl) (by kernel_rfl) (by kernel_rfl) (fun _ _ _ h => h) (Or.inl ⟨by rfl, ?_⟩) hHeld ?_
  rotate_left
  · intro w hSw; (try dsimp only at hSw); go_simp; all_goals (with_reducible rfl)
  try simp only [Act.put, List.setIfInBounds_toArray, List.set_cons_zero, List.set_cons_succ]
  refine wpAnyH_done (by kernel_rfl) ?_ _
  clear c0 c1
  have d2 := (HB.cell (p := ⟨w.heap.size, 2, none⟩) hlt).trans c2
  have d3 := (HB.cell (p := ⟨w.heap.size, 3, none⟩) hlt).trans c3
  go_wp2_with fail
  refine wp_region_held_drew (S := (fun w' => w'.cell? ⟨w.heap.size, 2, none⟩ = some (.int .i64 (C : Int)) ∧ w'.cell? ⟨w.heap.size, 3, none⟩ = some (.int .i64 (H : Int)))) (by kernel_rfl) (⟨d2, d3⟩) (fun hHeld => ?_)
  refine wpAnyH_here 0 (v := ?_) rfl (by kernel_rfl) (by kernel_rfl) (by kernel_rfl) (fun _ _ _ h => h) (Or.inl ⟨by rfl, ?_⟩) hHeld ?_
  rotate_left
  · intro w hSw; (try dsimp only at hSw); go_simp; all_goals (with_reducible rfl)
  try simp only [Act.put, List.setIfInBounds_toArray, List.set_cons_zero, List.set_cons_succ]
  refine wpAnyH_here 1 (v := ?_) rfl (by kernel_rfl) (by kernel_rfl) (by kernel_rfl) (fun _ _ _ h => h) (Or.inl ⟨by rfl, ?_⟩) hHeld ?_
  rotate_left
  · intro w hSw; (try dsimp only at hSw); go_simp; all_goals (with_reducible rfl)
  try simp only [Act.put, List.setIfInBounds_toArray, List.set_cons_zero, List.set_cons_succ]
  refine wpAnyH_here 2 (v := ?_) rfl (by kernel_rfl) (by kernel_rfl) (by kernel_rfl) (fun _ _ _ h => h) (Or.inl ⟨by rfl, ?_⟩) hHeld ?_
  rotate_left
  · intro w hSw; (try dsimp only at hSw); go_simp; all_goals (with_reducible rfl)
  try simp only [Act.put, List.setIfInBounds_toArray, List.set_cons_zero, List.set_cons_succ]
  refine wpAnyH_here 3 (v := ?_) rfl (by kernel_rfl) (by kernel_rfl) (by kernel_rfl) (fun _ _ _ h => h) (Or.inl ⟨by rfl, ?_⟩) hHeld ?_
  rotate_left
  · intro w hSw; (try dsimp only at hSw); go_simp; all_goals (with_reducible rfl)
  try simp only [Act.put, List.setIfInBounds_toArray, List.set_cons_zero, List.set_cons_succ]
  refine wpAnyH_here 5 (v := ?_) rfl (by kernel_rfl) (by kernel_rfl) (by kernel_rfl) (fun _ _ _ h => h) (Or.inl ⟨by rfl, ?_⟩) hHeld ?_
  rotate_left
  · intro w hSw; (try dsimp only at hSw); go_simp; all_goals (with_reducible rfl)
  try simp only [Act.put, List.setIfInBounds_toArray, List.set_cons_zero, List.set_cons_succ]
  refine wpAnyH_here 6 (v := ?_) rfl (by kernel_rfl) (by kernel_rfl) (by kernel_rfl) (fun _ _ _ h => h) (Or.inl ⟨by rfl, ?_⟩) hHeld ?_
  rotate_left
  · intro w hSw; (try dsimp only at hSw); go_simp; all_goals (with_reducible rfl)
  try simp only [Act.put, List.setIfInBounds_toArray, List.set_cons_zero, List.set_cons_succ]
  refine wpAnyH_here 7 (v := ?_) rfl (by kernel_rfl) (by kernel_rfl) (by kernel_rfl) (fun _ _ _ h => h) (Or.inl ⟨by rfl, ?_⟩) hHeld ?_
  rotate_left
  · intro w hSw; (try dsimp only at hSw); go_simp; all_goals (with_reducible rfl)
  try simp only [Act.put, List.setIfInBounds_toArray, List.set_cons_zero, List.set_cons_succ]
  refine wpAnyH_alone 4 rfl (by kernel_rfl) (fun K hK => ?_)
  go_simp
  (go_at_call 25; refine (s6.draws.put ((C : Int)) (C) rfl 10 10 rfl (by omega) (by omega) (by simp [bitsOf_len])).mono ?_; rintro e W7 ⟨rfl, s7⟩; have HB := s7.2.2)
  refine hK.out _ _ (⟨(HB.cell (p := ⟨w.heap.size, 2, none⟩) hlt).trans c2, (HB.cell (p := ⟨w.heap.size, 3, none⟩) hlt).trans c3⟩) (fun hHeld => ?_)
  clear hK K
  try simp only [Act.put, List.setIfInBounds_toArray, List.set_cons_zero, List.set_cons_succ]
  refine wpAnyH_alone 8 rfl (by kernel_rfl) (fun K hK => ?_)
  go_simp
  (go_at_call 25; refine (s7.put ((H : Int)) (H) rfl 6 6 rfl (by omega) (by omega) (by simp [bitsOf_len])).mono ?_; rintro e W8 ⟨rfl, s8⟩; have HB := s8.2.2)
  refine hK.out _ _ (⟨(HB.cell (p := ⟨w.heap.size, 2, none⟩) hlt).trans c2, (HB.cell (p := ⟨w.heap.size, 3, none⟩) hlt).trans c3⟩) (fun hHeld => ?_)
  clear hK K
  try simp only [Act.put, List.setIfInBounds_toArray, List.set_cons_zero, List.set_cons_succ]
  refine wpAnyH_done (by kernel_rfl) ?_ _
  clear d2 d3 c2 c3
  have d4 := (HB.cell (p := ⟨w.heap.size, 4, none⟩) hlt).trans c4
  go_wp2_with fail
  refine wp_region_held_drew (S := (fun w' => w'.cell? ⟨w.heap.size, 4, none⟩ = some (.int .i64 (Q : Int)))) (by kernel_rfl) (d4) (fun hHeld => ?_)
  refine wpAnyH_here 0 (v := ?_) rfl (by kernel_rfl) (by kernel_rfl) (by kernel_rfl) (fun _ _ _ h => h) (Or.inl ⟨by rfl, ?_⟩) hHeld ?_
  rotate_left
  · intro w hSw; (try dsimp only at hSw); go_simp; all_goals (with_reducible rfl)
  try simp only [Act.put, List.setIfInBounds_toArray, List.set_cons_zero, List.set_cons_succ]
  refine wpAnyH_here 1 (v := ?_) rfl (by kernel_rfl) (by kernel_rfl) (by kernel_rfl) (fun _ _ _ h => h) (Or.inl ⟨by rfl, ?_⟩) hHeld ?_
  rotate_left
  · intro w hSw; (try dsimp only at hSw); go_simp; all_goals (with_reducible rfl)
  try simp only [Act.put, List.setIfInBounds_toArray, List.set_cons_zero, List.set_cons_succ]
  refine wpAnyH_here 2 (v := ?_) rfl (by kernel_rfl) (by kernel_rfl) (by kernel_rfl) (fun _ _ _ h => h) (Or.inl ⟨by rfl, ?_⟩) hHeld ?_
  rotate_left
  · intro w hSw; (try dsimp only at hSw); go_simp; all_goals (with_reducible rfl)
  try simp only [Act.put, List.setIfInBounds_toArray, List.set_cons_zero, List.set_cons_succ]
  refine wpAnyH_here 3 (v := ?_) rfl (by kernel_rfl) (by kernel_rfl) (by kernel_rfl) (fun _ _ _ h => h) (Or.inl ⟨by rfl, ?_⟩) hHeld ?_
  rotate_left
  · intro w hSw; (try dsimp only at hSw); go_simp; all_goals (with_reducible rfl)
  try simp only [Act.put, List.setIfInBounds_toArray, List.set_cons_zero, List.set_cons_succ]
  refine wpAnyH_here 5 (v := ?_) rfl (by kernel_rfl) (by kernel_rfl) (by kernel_rfl) (fun _ _ _ h => h) (Or.inl ⟨by rfl, ?_⟩) hHeld ?_
  rotate_left
  · intro w hSw; (try dsimp only at hSw); go_simp; all_goals (with_reducible rfl)
  try simp only [Act.put, List.setIfInBounds_toArray, List.set_cons_zero, List.set_cons_succ]
  refine wpAnyH_here 6 (v := ?_) rfl (by kernel_rfl) (by kernel_rfl) (by kernel_rfl) (fun _ _ _ h => h) (Or.inl ⟨by rfl, ?_⟩) hHeld ?_
  rotate_left
  · intro w hSw; (try dsimp only at hSw); go_simp; all_goals (with_reducible rfl)
  try simp only [Act.put, List.setIfInBounds_toArray, List.set_cons_zero, List.set_cons_succ]
  refine wpAnyH_here 7 (v := ?_) rfl (by kernel_rfl) (by kernel_rfl) (by kernel_rfl) (fun _ _ _ h => h) (Or.inl ⟨by rfl, ?_⟩) hHeld ?_
  rotate_left
  · intro w hSw; (try dsimp only at hSw); go_simp; all_goals (with_reducible rfl)
  try simp only [Act.put, List.setIfInBounds_toArray, List.set_cons_zero, List.set_cons_succ]
  refine wpAnyH_alone 4 rfl (by kernel_rfl) (fun K hK => ?_)
  go_simp
  (go_at_call 25; refine (s8.draws.put ((Z : Int)) (Z) rfl 10 10 rfl (by omega) (by omega) (by simp [bitsOf_len])).mono ?_; rintro e W9 ⟨rfl, s9⟩; have HB := s9.2.2)
  refine hK.out _ _ ((HB.cell (p := ⟨w.heap.size, 4, none⟩) hlt).trans c4) (fun hHeld => ?_)
  clear hK K
  try simp only [Act.put, List.setIfInBounds_toArray, List.set_cons_zero, List.set_cons_succ]
  refine wpAnyH_alone 8 rfl (by kernel_rfl) (fun K hK => ?_)
  go_simp
  (go_at_call 25; refine (s9.put ((Q : Int)) (Q) rfl 8 8 rfl (by omega) (by omega) (by simp [bitsOf_len])).mono ?_; rintro e Wa ⟨rfl, sa⟩; have HB := sa.2.2)
  refine hK.out _ _ ((HB.cell (p := ⟨w.heap.size, 4, none⟩) hlt).trans c4) (fun hHeld => ?_)
  clear hK K
  try simp only [Act.put, List.setIfInBounds_toArray, List.set_cons_zero, List.set_cons_succ]
  refine wpAnyH_done (by kernel_rfl) ?_ _
  clear d4 c4
  have d5 := (HB.cell (p := ⟨w.heap.size, 5, none⟩) hlt).trans c5
  go_wp2_with fail
  refine wp_region_held_drew (S := (fun w' => w'.cell? ⟨w.heap.size, 5, none⟩ = some (.slice a M c))) (by kernel_rfl) (d5) (fun hHeld => ?_)
  refine wpAnyH_here 0 (v := ?_) rfl (by kernel_rfl) (by kernel_rfl) (by kernel_rfl) (fun _ _ _ h => h) (Or.inl ⟨by rfl, ?_⟩) hHeld ?_
  rotate_left
  · intro w hSw; (try dsimp only at hSw); go_simp; all_goals (with_reducible rfl)
  try simp only [Act.put, List.setIfInBounds_toArray, List.set_cons_zero, List.set_cons_succ]
  refine wpAnyH_here 2 (v := ?_) rfl (by kernel_rfl) (by kernel_rfl) (by kernel_rfl) (fun _ _ _ h => h) (Or.inl ⟨by rfl, ?_⟩) hHeld ?_
  rotate_left
  · intro w hSw; (try dsimp only at hSw); go_simp; all_goals (with_reducible rfl)
  try simp only [Act.put, List.setIfInBounds_toArray, List.set_cons_zero, List.set_cons_succ]
  refine wpAnyH_here 3 (v := ?_) rfl (by kernel_rfl) (by kernel_rfl) (by kernel_rfl) (fun _ _ _ h => h) (Or.inl ⟨by rfl, ?_⟩) hHeld ?_
  rotate_left
  · intro w hSw; (try dsimp only at hSw); go_simp; all_goals (with_reducible rfl)
  try simp only [Act.put, List.setIfInBounds_toArray, List.set_cons_zero, List.set_cons_succ]
  refine wpAnyH_alone 1 rfl (by kernel_rfl) (fun K hK => ?_)
  go_simp
  (go_at_call 28; refine (sa.draws.bytes (by simp [bitsOf_len])).mono ?_; rintro e W10 ⟨v, bs, rfl, hpk, hown, hbw⟩; obtain ⟨q1, q2, rfl, _⟩ := hown.reads_len (n := bs.length) rfl; have HB2 := HB.drew.trans (hbw.mono (by have := sa.size; simp; omega)))
  refine hK.out _ _ ((HB2.cell (p := ⟨w.heap.size, 5, none⟩) hlt).trans c5) (fun hHeld => ?_)
  clear hK K
  try simp only [Act.put, List.setIfInBounds_toArray, List.set_cons_zero, List.set_cons_succ]
  have hbs := head_of byp con C H Z Q hC hH hKl hpk
  have hbl : Bs W10 w.heap.size a l := hb.below (bel1.trans (HB2.mono (Nat.le_of_lt hlt)))
  have hz10 : w.heap.size ≤ W10.heap.size := Nat.le_trans (Nat.le_of_lt hlt) HB2.size
  have hz9 : w1.heap.size ≤ Wa.heap.size := Nat.le_of_lt sa.size
  refine wpAnyH_alone 4 rfl (by kernel_rfl) (fun K' hK' => ?_)
  refine step_app _ is_bytes rfl (.tmp 44) (.tmp 46) rfl (m := bs) rfl (hown.more (b' := w1.heap.size) hz9) (l := l) (A := a) (c := c) (by rw [hl.out]; rfl) hbl hn (by rw [hbs, hl.out, hdr5_len]; omega) (Nat.le_trans hz9 hbw.size) ?_
  intro v2 W11 hown2 hgr
  have HB3 := HB2.grown hgr (Nat.le_trans hz9 hbw.size) (fun i hi => Nat.le_trans hz9 (hown.base_le i hi))
  rw [hbs, ← HE.out] at hown2
  obtain ⟨A2, c2', rfl, hA2, hn2, _, _⟩ := hown2.reads_len (n := 5 + M) HL.out
  refine hK'.out _ _ ((HB3.cell (p := ⟨w.heap.size, 5, none⟩) hlt).trans c5) (fun hHeld => ?_)
  clear hK' K'
  try simp only [Act.put, List.setIfInBounds_toArray, List.set_cons_zero, List.set_cons_succ]
  refine wpAnyH_alone 5 rfl (by kernel_rfl) (fun K hK => ?_)
  go_simp
  (go_at_call 27; refine (tappend16_len A2 E (5 + M) c2' _ HL.out hA2 hn2 (by omega)).mono ?_; rintro e W12 ⟨v3, rfl, hown3, hb12⟩; have HB4 := HB3.trans (hb12.mono HB3.size))
  refine hK.out _ _ ((HB4.cell (p := ⟨w.heap.size, 5, none⟩) hlt).trans c5) (fun hHeld => ?_)
  clear hK K
  try simp only [Act.put, List.setIfInBounds_toArray, List.set_cons_zero, List.set_cons_succ]
  refine wpAnyH_here 6 (v := ?_) rfl (by kernel_rfl) (by kernel_rfl) (by kernel_rfl) (fun _ _ _ h => h) (Or.inl ⟨by rfl, ?_⟩) hHeld ?_
  rotate_left
  · intro w hSw; (try dsimp only at hSw); go_simp; all_goals (with_reducible rfl)
  try simp only [Act.put, List.setIfInBounds_toArray, List.set_cons_zero, List.set_cons_succ]
  refine wpAnyH_here 7 (v := ?_) rfl (by kernel_rfl) (by kernel_rfl) (by kernel_rfl) (fun _ _ _ h => h) (Or.inl ⟨by rfl, ?_⟩) hHeld ?_
  rotate_left
  · intro w hSw; (try dsimp only at hSw); go_simp; all_goals (with_reducible rfl)
  try simp only [Act.put, List.setIfInBounds_toArray, List.set_cons_zero, List.set_cons_succ]
  refine wpAnyH_done (by kernel_rfl) ?_ _
  go_wp2
  go_ret2
  exact ⟨v3, rfl, hown3.more (Nat.le_trans (Nat.le_of_lt hlt) HB3.size), bel1.trans (HB4.mono (Nat.le_of_lt hlt))⟩

theorem tencode_any (byp con : Bool) (cr ch sq : Int) (a : Option Addr) (l : List Byte) (n c : Nat) (w : World) (hl : Hid (l.length = n)) (hb : Bs w w.heap.size a l) (hn : a = none → c = 0) (hm : n ≤ maxLen) :
    Calls Try.prog 9 #[.agg #[.bool byp, .bool con, .int .i64 cr, .int .i64 ch, .int .i64 sq, .slice a n c]] w fun e w' => ∃ v, e = .returned (.tuple #[v, .int .i64 (Fr.err ⟨byp, con, cr, ch, sq, l⟩)]) ∧ Ow w' w.heap.size 5 v (Fr.enc ⟨byp, con, cr, ch, sq, l⟩) ∧ Below w.heap.size w w' := by
  cases hok : Fr.ok ⟨byp, con, cr, ch, sq, l⟩ with
  | false =>
    rw [Fr.enc_no hok, Fr.err_no hok]
    exact (tencode_no byp con cr ch sq a l n c w hl hm hok).mono fun e w' ⟨h1, h2⟩ => ⟨_, h1, Ow_nil _ _, h2⟩
  | true =>
    rw [Fr.enc_yes hok, Fr.err_yes hok]
    obtain ⟨h1, h2, h3, h4, h5, h6, h7, h8⟩ := Fr.ok_fits hok
    simp only at h1 h2 h3 h4 h5 h6 h7 h8
    have hln := hl.out
    obtain ⟨C, rfl⟩ := Int.eq_ofNat_of_zero_le h1
    obtain ⟨H, rfl⟩ := Int.eq_ofNat_of_zero_le h3
    obtain ⟨Q, rfl⟩ := Int.eq_ofNat_of_zero_le h5
    have := tencode_yes byp con C H Q n a l c w hl hb hn hok (by omega) (by omega) (by omega) (by omega)
    unfold Fr.head
    simp only [Int.toNat_natCast, hln]
    exact this
end Go.Proofs.Ytdichdoabhabjaa.Tcf
