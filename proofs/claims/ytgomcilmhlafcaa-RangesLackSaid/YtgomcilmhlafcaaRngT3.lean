/-
  The reference's Remove: the two statements of its loop that make the parts left and right of r.
-/
import Derived.Test.YtgomcilmhlafcaaRngT2
import Derived.Test.YtgomcilmhlafcaaHand
namespace Go.Proofs.Ytgomcilmhlafcaa.Rng
open Go.RowKit

def r8Of : Code → Code
  | .seq _ (.seq (.block _ (.seq a _)) _) => a
  | _ => .skip
def r9Of : Code → Code
  | .seq _ (.seq (.block _ (.seq _ (.seq a _))) _) => a
  | _ => .skip
noncomputable def r8C : Code := r8Of ((Try.f16.body.bind firstLoop).getD .skip)
noncomputable def r9C : Code := r9Of ((Try.f16.body.bind firstLoop).getD .skip)

set_option maxRecDepth 100000 in
set_option maxHeartbeats 400000 in
theorem r8_any {w : World} {RB b off n c2 k : Nat} {p q r0_ M : Int} {s0 s1 s2 s4 s6 s8 s9 s10 s11 s12 s13 s14 s15 s16 s17 s18 s19 s20 s21 s22 s23 s24 s25 s26 s27 s28 s29 s30 s31 s32 s33 s34 s35 s36 s37 s38 s39 s40 s41 s42 s43 s44 s45 s46 s47 s48 s49 s50 s51 s52 s53 s54 s55 s56 s57 s58 s59 s60 s61 s62 s63 s64 s65 s66 s67 s68 s69 s70 : Value} {Q : Exit → Act → World → Prop}
    (hk : k < n) (hb : b < w.heap.size) (hR : RB < w.heap.size) (hc1 : w.cell? ⟨b, off + k * 2, none⟩ = some (I p)) (hc2 : w.cell? ⟨b, off + k * 2 + 1, none⟩ = some (I q)) (hr : w.cell? ⟨RB, 0, none⟩ = some (I r0_)) (hm : (if r0_ < q then r0_ else q) = M)
    (hP : ∀ c (a : Act) (t : Tmp) v w', Q (.panic c) (a.put (some t) v) w' → Q (.panic c) a w')
    (hQ : ∀ (t24 t25 t26 t27 t28 t29 t30 t31 t32 t33 t34 t35 t36 t37 : Value) (w' : World), Cel w' w.heap.size 24 #[I p, I M] → Below w.heap.size w w' → Q .normal { tmps := (s0 :: s1 :: s2 :: (Value.pointer (some ⟨RB, 0, none⟩)) :: s4 :: (Value.slice (some ⟨b, off, none⟩) n c2) :: s6 :: (Value.int .i64 (k : Int)) :: (Value.pointer (some ⟨w.heap.size, 0, none⟩)) :: s9 :: s10 :: s11 :: s12 :: s13 :: s14 :: s15 :: s16 :: s17 :: s18 :: s19 :: s20 :: s21 :: s22 :: s23 :: t24 :: t25 :: t26 :: t27 :: t28 :: t29 :: t30 :: t31 :: t32 :: t33 :: t34 :: t35 :: t36 :: t37 :: s38 :: s39 :: s40 :: s41 :: s42 :: s43 :: s44 :: s45 :: s46 :: s47 :: s48 :: s49 :: s50 :: s51 :: s52 :: s53 :: s54 :: s55 :: s56 :: s57 :: s58 :: s59 :: s60 :: s61 :: s62 :: s63 :: s64 :: s65 :: s66 :: s67 :: s68 :: s69 :: s70 :: []).toArray, defers := [] } w') : Code.wp Try.prog r8C Q { tmps := (s0 :: s1 :: s2 :: (Value.pointer (some ⟨RB, 0, none⟩)) :: s4 :: (Value.slice (some ⟨b, off, none⟩) n c2) :: s6 :: (Value.int .i64 (k : Int)) :: s8 :: s9 :: s10 :: s11 :: s12 :: s13 :: s14 :: s15 :: s16 :: s17 :: s18 :: s19 :: s20 :: s21 :: s22 :: s23 :: s24 :: s25 :: s26 :: s27 :: s28 :: s29 :: s30 :: s31 :: s32 :: s33 :: s34 :: s35 :: s36 :: s37 :: s38 :: s39 :: s40 :: s41 :: s42 :: s43 :: s44 :: s45 :: s46 :: s47 :: s48 :: s49 :: s50 :: s51 :: s52 :: s53 :: s54 :: s55 :: s56 :: s57 :: s58 :: s59 :: s60 :: s61 :: s62 :: s63 :: s64 :: s65 :: s66 :: s67 :: s68 :: s69 :: s70 :: []).toArray, defers := [] } w := by
  conv => arg 2; whnf
  have hAl : Below w.heap.size w (w.drew.alloc (.cells #[I 0, I 0] 24)) := (bel_drew (Below.refl _ w)).alloc (Nat.le_refl _) _
  have hz : Cel (w.drew.alloc (.cells #[I 0, I 0] 24)) w.heap.size 24 #[I 0, I 0] := Cel.new w.drew _ _
  have hB2 : Below w.heap.size w (w.alloc (.cells #[I p, I M] 24)).drew := bel_drew ((Below.refl _ w).alloc (Nat.le_refl _) _)
  have hz2 : Cel (w.alloc (.cells #[I p, I M] 24)).drew w.heap.size 24 #[I p, I M] := Cel.new w _ _
  have ra := (hAl.cell (p := ⟨RB, 0, none⟩) hR).trans hr
  have ca1 := (hAl.cell (p := ⟨b, off + k * 2, none⟩) hb).trans hc1
  have ca2 := (hAl.cell (p := ⟨b, off + k * 2 + 1, none⟩) hb).trans hc2
  have rb := (hB2.cell (p := ⟨RB, 0, none⟩) hR).trans hr
  have cb1 := (hB2.cell (p := ⟨b, off + k * 2, none⟩) hb).trans hc1
  have cb2 := (hB2.cell (p := ⟨b, off + k * 2 + 1, none⟩) hb).trans hc2
  have z0 : (w.drew.alloc (.cells #[I 0, I 0] 24)).cell? ⟨w.heap.size, 0, none⟩ = some (I 0) := hz.cell 0
  have z1 : (w.drew.alloc (.cells #[I 0, I 0] 24)).cell? ⟨w.heap.size, 1, none⟩ = some (I 0) := hz.cell 1
  have zf0 : (w.drew.alloc (.cells #[I 0, I 0] 24)).frozen? ⟨w.heap.size, 0, none⟩ = false := hz.free 0
  have zf1 : (w.drew.alloc (.cells #[I 0, I 0] 24)).frozen? ⟨w.heap.size, 1, none⟩ = false := hz.free 1
  refine wp_region_held_drew (S := (fun w' => w'.cell? ⟨b, off + k * 2, none⟩ = some (I p) ∧ w'.cell? ⟨b, off + k * 2 + 1, none⟩ = some (I q) ∧ w'.cell? ⟨RB, 0, none⟩ = some (I r0_))) (by kernel_rfl) (⟨hc1, hc2, hr⟩) (fun hHeld => ?_)
  refine wpAnyH_here 0 (v := ?_) rfl (by kernel_rfl) (by kernel_rfl) (by kernel_rfl) (fun _ _ _ h => hP _ _ _ _ _ h) (Or.inl ⟨by rfl, ?_⟩) hHeld ?_
  rotate_left
  · intro w hSw; (try dsimp only at hSw); go_simp; all_goals (with_reducible rfl)
  try simp only [Act.put, List.setIfInBounds_toArray, List.set_cons_zero, List.set_cons_succ]
  refine wpAnyH_here 1 (v := ?_) rfl (by kernel_rfl) (by kernel_rfl) (by kernel_rfl) (fun _ _ _ h => hP _ _ _ _ _ h) (Or.inl ⟨by rfl, ?_⟩) hHeld ?_
  rotate_left
  · intro w hSw; (try dsimp only at hSw); go_simp; all_goals (with_reducible rfl)
  try simp only [Act.put, List.setIfInBounds_toArray, List.set_cons_zero, List.set_cons_succ]
  refine wpAnyH_here 2 (v := ?_) rfl (by kernel_rfl) (by kernel_rfl) (by kernel_rfl) (fun _ _ _ h => hP _ _ _ _ _ h) (Or.inl ⟨by rfl, ?_⟩) hHeld ?_
  rotate_left
  · intro w hSw; (try dsimp only at hSw); go_simp; all_goals (with_reducible rfl)
  try simp only [Act.put, List.setIfInBounds_toArray, List.set_cons_zero, List.set_cons_succ]
  refine wpAnyH_here 3 (v := ?_) rfl (by kernel_rfl) (by kernel_rfl) (by kernel_rfl) (fun _ _ _ h => hP _ _ _ _ _ h) (Or.inl ⟨by rfl, ?_⟩) hHeld ?_
  rotate_left
  · intro w hSw; (try dsimp only at hSw); go_simp; all_goals (with_reducible rfl)
  try simp only [Act.put, List.setIfInBounds_toArray, List.set_cons_zero, List.set_cons_succ]
  refine wpAnyH_here 4 (v := ?_) rfl (by kernel_rfl) (by kernel_rfl) (by kernel_rfl) (fun _ _ _ h => hP _ _ _ _ _ h) (Or.inl ⟨by rfl, ?_⟩) hHeld ?_
  rotate_left
  · intro w hSw; (try dsimp only at hSw); go_simp; all_goals (with_reducible rfl)
  try simp only [Act.put, List.setIfInBounds_toArray, List.set_cons_zero, List.set_cons_succ]
  refine wpAnyH_here 5 (v := ?_) rfl (by kernel_rfl) (by kernel_rfl) (by kernel_rfl) (fun _ _ _ h => hP _ _ _ _ _ h) (Or.inl ⟨by rfl, ?_⟩) hHeld ?_
  rotate_left
  · intro w hSw; (try dsimp only at hSw); go_simp; all_goals (with_reducible rfl)
  try simp only [Act.put, List.setIfInBounds_toArray, List.set_cons_zero, List.set_cons_succ]
  refine wpAnyH_here 6 (v := ?_) rfl (by kernel_rfl) (by kernel_rfl) (by kernel_rfl) (fun _ _ _ h => hP _ _ _ _ _ h) (Or.inl ⟨by rfl, ?_⟩) hHeld ?_
  rotate_left
  · intro w hSw; (try dsimp only at hSw); go_simp; all_goals (with_reducible rfl)
  try simp only [Act.put, List.setIfInBounds_toArray, List.set_cons_zero, List.set_cons_succ]
  refine wpAnyH_here 7 (v := ?_) rfl (by kernel_rfl) (by kernel_rfl) (by kernel_rfl) (fun _ _ _ h => hP _ _ _ _ _ h) (Or.inl ⟨by rfl, ?_⟩) hHeld ?_
  rotate_left
  · intro w hSw; (try dsimp only at hSw); go_simp; all_goals (with_reducible rfl)
  try simp only [Act.put, List.setIfInBounds_toArray, List.set_cons_zero, List.set_cons_succ]
  refine wpAnyH_here 8 (v := ?_) rfl (by kernel_rfl) (by kernel_rfl) (by kernel_rfl) (fun _ _ _ h => hP _ _ _ _ _ h) (Or.inl ⟨by rfl, ?_⟩) hHeld ?_
  rotate_left
  · intro w hSw; (try dsimp only at hSw); go_simp; all_goals (with_reducible rfl)
  try simp only [Act.put, List.setIfInBounds_toArray, List.set_cons_zero, List.set_cons_succ]
  refine wpAnyH_here 9 (v := ?_) rfl (by kernel_rfl) (by kernel_rfl) (by kernel_rfl) (fun _ _ _ h => hP _ _ _ _ _ h) (Or.inl ⟨by rfl, ?_⟩) hHeld ?_
  rotate_left
  · intro w hSw; (try dsimp only at hSw); go_simp; all_goals (with_reducible rfl)
  try simp only [Act.put, List.setIfInBounds_toArray, List.set_cons_zero, List.set_cons_succ]
  refine wpAnyH_here 10 (v := ?_) rfl (by kernel_rfl) (by kernel_rfl) (by kernel_rfl) (fun _ _ _ h => hP _ _ _ _ _ h) (Or.inl ⟨by rfl, ?_⟩) hHeld ?_
  rotate_left
  · intro w hSw; (try dsimp only at hSw); go_simp; all_goals (with_reducible rfl)
  try simp only [Act.put, List.setIfInBounds_toArray, List.set_cons_zero, List.set_cons_succ]
  refine wpAnyH_here 11 (v := ?_) rfl (by kernel_rfl) (by kernel_rfl) (by kernel_rfl) (fun _ _ _ h => hP _ _ _ _ _ h) (Or.inl ⟨by rfl, ?_⟩) hHeld ?_
  rotate_left
  · intro w hSw; (try dsimp only at hSw); go_simp; all_goals (with_reducible rfl)
  try simp only [Act.put, List.setIfInBounds_toArray, List.set_cons_zero, List.set_cons_succ]
  refine wpAnyH_here 12 (v := ?_) rfl (by kernel_rfl) (by kernel_rfl) (by kernel_rfl) (fun _ _ _ h => hP _ _ _ _ _ h) (Or.inl ⟨by rfl, ?_⟩) hHeld ?_
  rotate_left
  · intro w hSw; (try dsimp only at hSw); go_simp; all_goals (with_reducible rfl)
  try simp only [Act.put, List.setIfInBounds_toArray, List.set_cons_zero, List.set_cons_succ]
  refine wpAnyH_here 13 (v := ?_) rfl (by kernel_rfl) (by kernel_rfl) (by kernel_rfl) (fun _ _ _ h => hP _ _ _ _ _ h) (Or.inl ⟨by rfl, ?_⟩) hHeld ?_
  rotate_left
  · intro w hSw; (try dsimp only at hSw); go_simp; all_goals (with_reducible rfl)
  try simp only [Act.put, List.setIfInBounds_toArray, List.set_cons_zero, List.set_cons_succ]
  refine wpAnyH_alone 14 rfl (by kernel_rfl) (fun K hK => ?_)
  go_simp
  skip
  refine hK.out _ _ (⟨ca1, ca2, ra⟩) (fun hHeld => ?_)
  clear hK K
  try simp only [Act.put, List.setIfInBounds_toArray, List.set_cons_zero, List.set_cons_succ]
  refine wpAnyH_alone 15 rfl (by kernel_rfl) (fun K hK => ?_)
  go_simp
  skip
  refine hK.out _ _ (⟨cb1, cb2, rb⟩) (fun hHeld => ?_)
  clear hK K
  try simp only [Act.put, List.setIfInBounds_toArray, List.set_cons_zero, List.set_cons_succ]
  refine wpAnyH_done (by kernel_rfl) ?_ _
  exact hQ _ _ _ _ _ _ _ _ _ _ _ _ _ _ _ hz2 hB2

set_option maxRecDepth 100000 in
set_option maxHeartbeats 400000 in
theorem r9_any {w : World} {RB b off n c2 k : Nat} {p q r0_ M : Int} {s0 s1 s2 s4 s6 s8 s9 s10 s11 s12 s13 s14 s15 s16 s17 s18 s19 s20 s21 s22 s23 s24 s25 s26 s27 s28 s29 s30 s31 s32 s33 s34 s35 s36 s37 s38 s39 s40 s41 s42 s43 s44 s45 s46 s47 s48 s49 s50 s51 s52 s53 s54 s55 s56 s57 s58 s59 s60 s61 s62 s63 s64 s65 s66 s67 s68 s69 s70 : Value} {Q : Exit → Act → World → Prop}
    (hk : k < n) (hb : b < w.heap.size) (hR : RB < w.heap.size) (hc1 : w.cell? ⟨b, off + k * 2, none⟩ = some (I p)) (hc2 : w.cell? ⟨b, off + k * 2 + 1, none⟩ = some (I q)) (hr : w.cell? ⟨RB, 1, none⟩ = some (I r0_)) (hm : (if p < r0_ then r0_ else p) = M)
    (hP : ∀ c (a : Act) (t : Tmp) v w', Q (.panic c) (a.put (some t) v) w' → Q (.panic c) a w')
    (hQ : ∀ (t38 t39 t40 t41 t42 t43 t44 t45 t46 t47 t48 t49 t50 t51 : Value) (w' : World), Cel w' w.heap.size 24 #[I M, I q] → Below w.heap.size w w' → Q .normal { tmps := (s0 :: s1 :: s2 :: (Value.pointer (some ⟨RB, 0, none⟩)) :: s4 :: (Value.slice (some ⟨b, off, none⟩) n c2) :: s6 :: (Value.int .i64 (k : Int)) :: s8 :: (Value.pointer (some ⟨w.heap.size, 0, none⟩)) :: s10 :: s11 :: s12 :: s13 :: s14 :: s15 :: s16 :: s17 :: s18 :: s19 :: s20 :: s21 :: s22 :: s23 :: s24 :: s25 :: s26 :: s27 :: s28 :: s29 :: s30 :: s31 :: s32 :: s33 :: s34 :: s35 :: s36 :: s37 :: t38 :: t39 :: t40 :: t41 :: t42 :: t43 :: t44 :: t45 :: t46 :: t47 :: t48 :: t49 :: t50 :: t51 :: s52 :: s53 :: s54 :: s55 :: s56 :: s57 :: s58 :: s59 :: s60 :: s61 :: s62 :: s63 :: s64 :: s65 :: s66 :: s67 :: s68 :: s69 :: s70 :: []).toArray, defers := [] } w') : Code.wp Try.prog r9C Q { tmps := (s0 :: s1 :: s2 :: (Value.pointer (some ⟨RB, 0, none⟩)) :: s4 :: (Value.slice (some ⟨b, off, none⟩) n c2) :: s6 :: (Value.int .i64 (k : Int)) :: s8 :: s9 :: s10 :: s11 :: s12 :: s13 :: s14 :: s15 :: s16 :: s17 :: s18 :: s19 :: s20 :: s21 :: s22 :: s23 :: s24 :: s25 :: s26 :: s27 :: s28 :: s29 :: s30 :: s31 :: s32 :: s33 :: s34 :: s35 :: s36 :: s37 :: s38 :: s39 :: s40 :: s41 :: s42 :: s43 :: s44 :: s45 :: s46 :: s47 :: s48 :: s49 :: s50 :: s51 :: s52 :: s53 :: s54 :: s55 :: s56 :: s57 :: s58 :: s59 :: s60 :: s61 :: s62 :: s63 :: s64 :: s65 :: s66 :: s67 :: s68 :: s69 :: s70 :: []).toArray, defers := [] } w := by
  conv => arg 2; whnf
  have hAl : Below w.heap.size w (w.drew.alloc (.cells #[I 0, I 0] 24)) := (bel_drew (Below.refl _ w)).alloc (Nat.le_refl _) _
  have hz : Cel (w.drew.alloc (.cells #[I 0, I 0] 24)) w.heap.size 24 #[I 0, I 0] := Cel.new w.drew _ _
  have hB2 : Below w.heap.size w (w.alloc (.cells #[I M, I q] 24)).drew := bel_drew ((Below.refl _ w).alloc (Nat.le_refl _) _)
  have hz2 : Cel (w.alloc (.cells #[I M, I q] 24)).drew w.heap.size 24 #[I M, I q] := Cel.new w _ _
  have ra := (hAl.cell (p := ⟨RB, 1, none⟩) hR).trans hr
  have ca1 := (hAl.cell (p := ⟨b, off + k * 2, none⟩) hb).trans hc1
  have ca2 := (hAl.cell (p := ⟨b, off + k * 2 + 1, none⟩) hb).trans hc2
  have rb := (hB2.cell (p := ⟨RB, 1, none⟩) hR).trans hr
  have cb1 := (hB2.cell (p := ⟨b, off + k * 2, none⟩) hb).trans hc1
  have cb2 := (hB2.cell (p := ⟨b, off + k * 2 + 1, none⟩) hb).trans hc2
  have z0 : (w.drew.alloc (.cells #[I 0, I 0] 24)).cell? ⟨w.heap.size, 0, none⟩ = some (I 0) := hz.cell 0
  have z1 : (w.drew.alloc (.cells #[I 0, I 0] 24)).cell? ⟨w.heap.size, 1, none⟩ = some (I 0) := hz.cell 1
  have zf0 : (w.drew.alloc (.cells #[I 0, I 0] 24)).frozen? ⟨w.heap.size, 0, none⟩ = false := hz.free 0
  have zf1 : (w.drew.alloc (.cells #[I 0, I 0] 24)).frozen? ⟨w.heap.size, 1, none⟩ = false := hz.free 1
  refine wp_region_held_drew (S := (fun w' => w'.cell? ⟨b, off + k * 2, none⟩ = some (I p) ∧ w'.cell? ⟨b, off + k * 2 + 1, none⟩ = some (I q) ∧ w'.cell? ⟨RB, 1, none⟩ = some (I r0_))) (by kernel_rfl) (⟨hc1, hc2, hr⟩) (fun hHeld => ?_)
  refine wpAnyH_here 0 (v := ?_) rfl (by kernel_rfl) (by kernel_rfl) (by kernel_rfl) (fun _ _ _ h => hP _ _ _ _ _ h) (Or.inl ⟨by rfl, ?_⟩) hHeld ?_
  rotate_left
  · intro w hSw; (try dsimp only at hSw); go_simp; all_goals (with_reducible rfl)
  try simp only [Act.put, List.setIfInBounds_toArray, List.set_cons_zero, List.set_cons_succ]
  refine wpAnyH_here 1 (v := ?_) rfl (by kernel_rfl) (by kernel_rfl) (by kernel_rfl) (fun _ _ _ h => hP _ _ _ _ _ h) (Or.inl ⟨by rfl, ?_⟩) hHeld ?_
  rotate_left
  · intro w hSw; (try dsimp only at hSw); go_simp; all_goals (with_reducible rfl)
  try simp only [Act.put, List.setIfInBounds_toArray, List.set_cons_zero, List.set_cons_succ]
  refine wpAnyH_here 2 (v := ?_) rfl (by kernel_rfl) (by kernel_rfl) (by kernel_rfl) (fun _ _ _ h => hP _ _ _ _ _ h) (Or.inl ⟨by rfl, ?_⟩) hHeld ?_
  rotate_left
  · intro w hSw; (try dsimp only at hSw); go_simp; all_goals (with_reducible rfl)
  try simp only [Act.put, List.setIfInBounds_toArray, List.set_cons_zero, List.set_cons_succ]
  refine wpAnyH_here 3 (v := ?_) rfl (by kernel_rfl) (by kernel_rfl) (by kernel_rfl) (fun _ _ _ h => hP _ _ _ _ _ h) (Or.inl ⟨by rfl, ?_⟩) hHeld ?_
  rotate_left
  · intro w hSw; (try dsimp only at hSw); go_simp; all_goals (with_reducible rfl)
  try simp only [Act.put, List.setIfInBounds_toArray, List.set_cons_zero, List.set_cons_succ]
  refine wpAnyH_here 4 (v := ?_) rfl (by kernel_rfl) (by kernel_rfl) (by kernel_rfl) (fun _ _ _ h => hP _ _ _ _ _ h) (Or.inl ⟨by rfl, ?_⟩) hHeld ?_
  rotate_left
  · intro w hSw; (try dsimp only at hSw); go_simp; all_goals (with_reducible rfl)
  try simp only [Act.put, List.setIfInBounds_toArray, List.set_cons_zero, List.set_cons_succ]
  refine wpAnyH_here 5 (v := ?_) rfl (by kernel_rfl) (by kernel_rfl) (by kernel_rfl) (fun _ _ _ h => hP _ _ _ _ _ h) (Or.inl ⟨by rfl, ?_⟩) hHeld ?_
  rotate_left
  · intro w hSw; (try dsimp only at hSw); go_simp; all_goals (with_reducible rfl)
  try simp only [Act.put, List.setIfInBounds_toArray, List.set_cons_zero, List.set_cons_succ]
  refine wpAnyH_here 6 (v := ?_) rfl (by kernel_rfl) (by kernel_rfl) (by kernel_rfl) (fun _ _ _ h => hP _ _ _ _ _ h) (Or.inl ⟨by rfl, ?_⟩) hHeld ?_
  rotate_left
  · intro w hSw; (try dsimp only at hSw); go_simp; all_goals (with_reducible rfl)
  try simp only [Act.put, List.setIfInBounds_toArray, List.set_cons_zero, List.set_cons_succ]
  refine wpAnyH_here 7 (v := ?_) rfl (by kernel_rfl) (by kernel_rfl) (by kernel_rfl) (fun _ _ _ h => hP _ _ _ _ _ h) (Or.inl ⟨by rfl, ?_⟩) hHeld ?_
  rotate_left
  · intro w hSw; (try dsimp only at hSw); go_simp; all_goals (with_reducible rfl)
  try simp only [Act.put, List.setIfInBounds_toArray, List.set_cons_zero, List.set_cons_succ]
  refine wpAnyH_here 8 (v := ?_) rfl (by kernel_rfl) (by kernel_rfl) (by kernel_rfl) (fun _ _ _ h => hP _ _ _ _ _ h) (Or.inl ⟨by rfl, ?_⟩) hHeld ?_
  rotate_left
  · intro w hSw; (try dsimp only at hSw); go_simp; all_goals (with_reducible rfl)
  try simp only [Act.put, List.setIfInBounds_toArray, List.set_cons_zero, List.set_cons_succ]
  refine wpAnyH_here 9 (v := ?_) rfl (by kernel_rfl) (by kernel_rfl) (by kernel_rfl) (fun _ _ _ h => hP _ _ _ _ _ h) (Or.inl ⟨by rfl, ?_⟩) hHeld ?_
  rotate_left
  · intro w hSw; (try dsimp only at hSw); go_simp; all_goals (with_reducible rfl)
  try simp only [Act.put, List.setIfInBounds_toArray, List.set_cons_zero, List.set_cons_succ]
  refine wpAnyH_here 10 (v := ?_) rfl (by kernel_rfl) (by kernel_rfl) (by kernel_rfl) (fun _ _ _ h => hP _ _ _ _ _ h) (Or.inl ⟨by rfl, ?_⟩) hHeld ?_
  rotate_left
  · intro w hSw; (try dsimp only at hSw); go_simp; all_goals (with_reducible rfl)
  try simp only [Act.put, List.setIfInBounds_toArray, List.set_cons_zero, List.set_cons_succ]
  refine wpAnyH_here 11 (v := ?_) rfl (by kernel_rfl) (by kernel_rfl) (by kernel_rfl) (fun _ _ _ h => hP _ _ _ _ _ h) (Or.inl ⟨by rfl, ?_⟩) hHeld ?_
  rotate_left
  · intro w hSw; (try dsimp only at hSw); go_simp; all_goals (with_reducible rfl)
  try simp only [Act.put, List.setIfInBounds_toArray, List.set_cons_zero, List.set_cons_succ]
  refine wpAnyH_here 12 (v := ?_) rfl (by kernel_rfl) (by kernel_rfl) (by kernel_rfl) (fun _ _ _ h => hP _ _ _ _ _ h) (Or.inl ⟨by rfl, ?_⟩) hHeld ?_
  rotate_left
  · intro w hSw; (try dsimp only at hSw); go_simp; all_goals (with_reducible rfl)
  try simp only [Act.put, List.setIfInBounds_toArray, List.set_cons_zero, List.set_cons_succ]
  refine wpAnyH_here 13 (v := ?_) rfl (by kernel_rfl) (by kernel_rfl) (by kernel_rfl) (fun _ _ _ h => hP _ _ _ _ _ h) (Or.inl ⟨by rfl, ?_⟩) hHeld ?_
  rotate_left
  · intro w hSw; (try dsimp only at hSw); go_simp; all_goals (with_reducible rfl)
  try simp only [Act.put, List.setIfInBounds_toArray, List.set_cons_zero, List.set_cons_succ]
  refine wpAnyH_alone 14 rfl (by kernel_rfl) (fun K hK => ?_)
  go_simp
  skip
  refine hK.out _ _ (⟨ca1, ca2, ra⟩) (fun hHeld => ?_)
  clear hK K
  try simp only [Act.put, List.setIfInBounds_toArray, List.set_cons_zero, List.set_cons_succ]
  refine wpAnyH_alone 15 rfl (by kernel_rfl) (fun K hK => ?_)
  go_simp
  skip
  refine hK.out _ _ (⟨cb1, cb2, rb⟩) (fun hHeld => ?_)
  clear hK K
  try simp only [Act.put, List.setIfInBounds_toArray, List.set_cons_zero, List.set_cons_succ]
  refine wpAnyH_done (by kernel_rfl) ?_ _
  exact hQ _ _ _ _ _ _ _ _ _ _ _ _ _ _ _ hz2 hB2

end Go.Proofs.Ytgomcilmhlafcaa.Rng
