/-
  The reference of layer 7: the end of Remove's loop.
-/
import Derived.Test.YtgomcilmhlafcaaRngR1
namespace Go.Proofs.Ytgomcilmhlafcaa.Rng
open Go.RowKit

def cuts (r : R) (s : List R) : List R := s.flatMap fun x => cut x r
theorem cuts_take {r : R} {s : List R} {k : Nat} {x : R} (h : s[k]? = some x) : cuts r (s.take (k + 1)) = cuts r (s.take k) ++ one (fst_ x r) ++ one (snd_ x r) := by
  rw [List.take_add_one, h]; simp [cuts, cut]

def firstLoop : Code → Option Code
  | .loop c => some c
  | .seq a b => match firstLoop a with
    | some c => some c
    | none => firstLoop b
  | .block _ c => firstLoop c
  | .scope c => firstLoop c
  | .cond _ a b => match firstLoop a with
    | some c => some c
    | none => firstLoop b
  | _ => none
def tailOf : Code → Code
  | .seq _ (.seq (.block _ (.seq _ (.seq _ t))) _) => t
  | _ => .skip
/-- the end of the loop's body: what is left and right of r, appended -/
noncomputable def tailC : Code := tailOf ((Try.f16.body.bind firstLoop).getD .skip)

set_option maxRecDepth 100000 in
set_option maxHeartbeats 1000000 in
theorem tail_any {B L G : Nat} {w2 w5 : World} {m : List R} {p M1 M2 q : Int} {o s0 s1 s2 s3 s4 s5 s7 s10 s11 s12 s13 s14 s15 s16 s17 s18 s19 s20 s21 s22 s23 s24 s25 s26 s27 s28 s29 s30 s31 s32 s33 s34 s35 s36 s37 s38 s39 s40 s41 s42 s43 s44 s45 s46 s47 s48 s49 s50 s51 s52 s53 s54 s55 s56 s57 s58 s59 s60 s61 s62 s63 s64 s65 s66 s67 s68 s69 s70 : Value} {Q : Exit → Act → World → Prop}
    (l0 : w5.cell? ⟨L, 0, none⟩ = some (I p)) (l1 : w5.cell? ⟨L, 1, none⟩ = some (I M1)) (hR5 : Cel w5 G 24 #[I M2, I q]) (ho5 : Os w5 B 24 o m) (hne : ∀ g, o.ownBlock = some g → g ≠ G) (hb0 : B ≤ w2.heap.size) (hb5 : Below B w2 w5) (hml : m.length ≤ 1000000000000)
    (hQ : ∀ (v' t52 t53 t54 t55 t56 t57 t58 t59 t60 t61 t62 t63 t64 t65 t66 t67 t68 t69 : Value) (w' : World), Os w' B 24 v' (m ++ one (p, M1) ++ one (M2, q)) → Below B w2 w' → Q .normal { tmps := (s0 :: s1 :: s2 :: s3 :: s4 :: s5 :: v' :: s7 :: (Value.pointer (some ⟨L, 0, none⟩)) :: (Value.pointer (some ⟨G, 0, none⟩)) :: s10 :: s11 :: s12 :: s13 :: s14 :: s15 :: s16 :: s17 :: s18 :: s19 :: s20 :: s21 :: s22 :: s23 :: s24 :: s25 :: s26 :: s27 :: s28 :: s29 :: s30 :: s31 :: s32 :: s33 :: s34 :: s35 :: s36 :: s37 :: s38 :: s39 :: s40 :: s41 :: s42 :: s43 :: s44 :: s45 :: s46 :: s47 :: s48 :: s49 :: s50 :: s51 :: t52 :: t53 :: t54 :: t55 :: t56 :: t57 :: t58 :: t59 :: t60 :: t61 :: t62 :: t63 :: t64 :: t65 :: t66 :: t67 :: t68 :: t69 :: s70 :: []).toArray, defers := [] } w') :
    Code.wp Try.prog tailC Q { tmps := (s0 :: s1 :: s2 :: s3 :: s4 :: s5 :: o :: s7 :: (Value.pointer (some ⟨L, 0, none⟩)) :: (Value.pointer (some ⟨G, 0, none⟩)) :: s10 :: s11 :: s12 :: s13 :: s14 :: s15 :: s16 :: s17 :: s18 :: s19 :: s20 :: s21 :: s22 :: s23 :: s24 :: s25 :: s26 :: s27 :: s28 :: s29 :: s30 :: s31 :: s32 :: s33 :: s34 :: s35 :: s36 :: s37 :: s38 :: s39 :: s40 :: s41 :: s42 :: s43 :: s44 :: s45 :: s46 :: s47 :: s48 :: s49 :: s50 :: s51 :: s52 :: s53 :: s54 :: s55 :: s56 :: s57 :: s58 :: s59 :: s60 :: s61 :: s62 :: s63 :: s64 :: s65 :: s66 :: s67 :: s68 :: s69 :: s70 :: []).toArray, defers := [] } w5 := by
  conv => arg 2; whnf
  have g0 : w5.cell? ⟨G, 0, none⟩ = some (I M2) := hR5.cell 0
  have g1 : w5.cell? ⟨G, 1, none⟩ = some (I q) := hR5.cell 1
  have hB : B ≤ w5.heap.size := Nat.le_trans hb0 hb5.size
  by_cases d1 : p < M1
  · rw [one_pos (r := (p, M1)) d1] at hQ
    have d1' : decide (p < M1) = true := decide_eq_true d1
    by_cases d2 : M2 < q
    · rw [one_pos (r := (M2, q)) d2] at hQ
      have d2' : decide (M2 < q) = true := decide_eq_true d2
      clear d1 d2
      go_wp2_with (first
        | (at_builtin; refine wpList_rapp _ is_ranges rfl (.tmp 57) (.tmp 59) rfl rfl (ho5.alloc _) (l := [(p, M1)]) rfl (Rs_new1 _ _ _ _) (by simp) (by simp; omega) (by simp; omega) ?_; intro v7 w7 ho7 hg7 hv7; have hb7 := app_below hb5 hB (Nat.le_refl _) ho5 hg7; have hR7 := hR5.grown hg7 (fun he => hne _ he rfl); have g70 : w7.cell? ⟨G, 0, none⟩ = some (I M2) := hR7.cell 0; have g71 : w7.cell? ⟨G, 1, none⟩ = some (I q) := hR7.cell 1; have hs7 := Nat.le_trans hb0 hb7.size)
        | (at_builtin; refine wpList_rapp _ is_ranges rfl (.tmp 66) (.tmp 68) rfl rfl (ho7.alloc _) (l := [(M2, q)]) rfl (Rs_new1 _ _ _ _) (by simp) (by simp; omega) (by simp; omega) ?_; intro v8 w8 ho8 hg8 hv8; have hb8 := app_below hb7 hs7 (Nat.le_refl _) ho7 hg8))
      exact hQ _ _ _ _ _ _ _ _ _ _ _ _ _ _ _ _ _ _ _ _ ho8 hb8
    · rw [one_neg (r := (M2, q)) d2, List.append_nil] at hQ
      have d2' : decide (M2 < q) = false := decide_eq_false d2
      clear d1 d2
      go_wp2_with (at_builtin; refine wpList_rapp _ is_ranges rfl (.tmp 57) (.tmp 59) rfl rfl (ho5.alloc _) (l := [(p, M1)]) rfl (Rs_new1 _ _ _ _) (by simp) (by simp; omega) (by simp; omega) ?_; intro v7 w7 ho7 hg7 hv7; have hb7 := app_below hb5 hB (Nat.le_refl _) ho5 hg7; have hR7 := hR5.grown hg7 (fun he => hne _ he rfl); have g70 : w7.cell? ⟨G, 0, none⟩ = some (I M2) := hR7.cell 0; have g71 : w7.cell? ⟨G, 1, none⟩ = some (I q) := hR7.cell 1; have hs7 := Nat.le_trans hb0 hb7.size)
      exact hQ _ _ _ _ _ _ _ _ _ _ _ _ _ _ _ _ _ _ _ _ ho7 hb7
  · rw [one_neg (r := (p, M1)) d1, List.append_nil] at hQ
    have d1' : decide (p < M1) = false := decide_eq_false d1
    by_cases d2 : M2 < q
    · rw [one_pos (r := (M2, q)) d2] at hQ
      have d2' : decide (M2 < q) = true := decide_eq_true d2
      clear d1 d2
      go_wp2_with (at_builtin; refine wpList_rapp _ is_ranges rfl (.tmp 66) (.tmp 68) rfl rfl (ho5.alloc _) (l := [(M2, q)]) rfl (Rs_new1 _ _ _ _) (by simp) (by simp; omega) (by simp; omega) ?_; intro v8 w8 ho8 hg8 hv8; have hb8 := app_below hb5 hB (Nat.le_refl _) ho5 hg8)
      exact hQ _ _ _ _ _ _ _ _ _ _ _ _ _ _ _ _ _ _ _ _ ho8 hb8
    · rw [one_neg (r := (M2, q)) d2, List.append_nil] at hQ
      have d2' : decide (M2 < q) = false := decide_eq_false d2
      clear d1 d2
      go_wp2_with fail
      exact hQ _ _ _ _ _ _ _ _ _ _ _ _ _ _ _ _ _ _ _ _ ho5 hb5

def r7Of : Code → Code
  | .seq _ (.seq _ r) => r
  | _ => .skip
noncomputable def r7C : Code := r7Of ((Try.f16.body.bind firstLoop).getD .skip)

set_option maxRecDepth 100000 in
set_option maxHeartbeats 1000000 in
theorem r7_any {k : Nat} {w : World} {s0 s1 s2 s3 s4 s5 s6 s8 s9 s10 s11 s12 s13 s14 s15 s16 s17 s18 s19 s20 s21 s22 s23 s24 s25 s26 s27 s28 s29 s30 s31 s32 s33 s34 s35 s36 s37 s38 s39 s40 s41 s42 s43 s44 s45 s46 s47 s48 s49 s50 s51 s52 s53 s54 s55 s56 s57 s58 s59 s60 s61 s62 s63 s64 s65 s66 s67 s68 s69 s70 : Value} {Q : Exit → Act → World → Prop} (hk : k ≤ 1000000000000)
    (hQ : ∀ t22 t23 : Value, Q .normal { tmps := (s0 :: s1 :: s2 :: s3 :: s4 :: s5 :: s6 :: (Value.int .i64 ((k : Int) + 1)) :: s8 :: s9 :: s10 :: s11 :: s12 :: s13 :: s14 :: s15 :: s16 :: s17 :: s18 :: s19 :: s20 :: s21 :: t22 :: t23 :: s24 :: s25 :: s26 :: s27 :: s28 :: s29 :: s30 :: s31 :: s32 :: s33 :: s34 :: s35 :: s36 :: s37 :: s38 :: s39 :: s40 :: s41 :: s42 :: s43 :: s44 :: s45 :: s46 :: s47 :: s48 :: s49 :: s50 :: s51 :: s52 :: s53 :: s54 :: s55 :: s56 :: s57 :: s58 :: s59 :: s60 :: s61 :: s62 :: s63 :: s64 :: s65 :: s66 :: s67 :: s68 :: s69 :: s70 :: []).toArray, defers := [] } w) : Code.wp Try.prog r7C Q { tmps := (s0 :: s1 :: s2 :: s3 :: s4 :: s5 :: s6 :: (Value.int .i64 (k : Int)) :: s8 :: s9 :: s10 :: s11 :: s12 :: s13 :: s14 :: s15 :: s16 :: s17 :: s18 :: s19 :: s20 :: s21 :: s22 :: s23 :: s24 :: s25 :: s26 :: s27 :: s28 :: s29 :: s30 :: s31 :: s32 :: s33 :: s34 :: s35 :: s36 :: s37 :: s38 :: s39 :: s40 :: s41 :: s42 :: s43 :: s44 :: s45 :: s46 :: s47 :: s48 :: s49 :: s50 :: s51 :: s52 :: s53 :: s54 :: s55 :: s56 :: s57 :: s58 :: s59 :: s60 :: s61 :: s62 :: s63 :: s64 :: s65 :: s66 :: s67 :: s68 :: s69 :: s70 :: []).toArray, defers := [] } w := by
  conv => arg 2; whnf
  go_wp2_with fail
  exact hQ _ _

end Go.Proofs.Ytgomcilmhlafcaa.Rng
