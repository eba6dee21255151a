/-
  The walk of 'read': a value read by the program's Reader and by the reference's.
-/
import Derived.Test.YthacjccdcmmhkaaOctR2
import Derived.Test.YthacjccdcmmhkaaRef03d
import Derived.Test.YthacjccdcmmhkaaVals03
import Derived.Test.YthacjccdcmmhkaaHand
namespace Go.Proofs.Ythacjccdcmmhkaa
open Go.RowKit

def val4r (v : V4) : Value := .agg #[.int .i64 v.k, .int .i64 v.n, .int .i64 v.s, .slice v.A v.b.length v.c]

/-- what a read makes of a state -/
def rdV (v : V4) (st : Option (List Byte)) : Option (List Byte) :=
  if v.k = 0 then (rd 0 (fun l => tkU l v.s) st).2 else if v.k = 2 then (rd [] (fun l => tkB l v.s) st).2 else if v.k = 3 then (rd 0 (fun l => tkC l v.s) st).2 else (rd 0 tkI st).2
theorem rd_lft {α : Type} (d : α) (tk : List Byte → Option (α × Nat)) (st : Option (List Byte)) : lftO (rd d tk st).2 ≤ lftO st := by
  cases st with
  | none => exact Nat.le_refl _
  | some l =>
    cases h : tk l with
    | none => rw [rd_bad h]; exact Nat.zero_le _
    | some p =>
      obtain ⟨v, k⟩ := p
      rw [rd_ok h]
      show (l.drop k).length ≤ l.length
      rw [List.length_drop]
      omega
theorem rdV_lft (v : V4) (st : Option (List Byte)) : lftO (rdV v st) ≤ lftO st := by
  unfold rdV
  split
  · exact rd_lft _ _ _
  · split
    · exact rd_lft _ _ _
    · split
      · exact rd_lft _ _ _
      · exact rd_lft _ _ _

/-- the program's Reader in block g, the reference's in block g2, in one state -/
structure Both (w : World) (g g2 B2 : Nat) (st : Option (List Byte)) : Prop where
  r : OR w g g st
  y : YR w B2 g2 st
  lt : g < g2
  le : B2 ≤ g
theorem Both.stepR {w w' : World} {g g2 B2 : Nat} {st st' : Option (List Byte)} (h : Both w g g2 B2 st) (_hR : OR w' g g st') (hO : Only [g] w w') : YR w' B2 g2 st := h.y.only hO (by have := h.lt; simp; omega) (by have := h.le; simpa using this)
theorem Both.only {w w' : World} {g g2 B2 : Nat} {st : Option (List Byte)} (h : Both w g g2 B2 st) (hO : Only [] w w') : Both w' g g2 B2 st := ⟨h.r.only hO (by simp) (by simp), h.y.only hO (by simp) (by simp), h.lt, h.le⟩
theorem only_two {w w1 w2 : World} {g g2 : Nat} (h1 : Only [g] w w1) (h2 : Only [g2] w1 w2) : Only [g, g2] w w2 :=
  (h1.more (by simp)).trans h2 (by simp)

set_option maxHeartbeats 1000000 in
theorem read_uint (w : World) (g g2 B2 : Nat) (st : Option (List Byte)) (v : V4) (h : Both w g g2 B2 st) (hk : v.k = 0) (hL : lftO st < 1000000) :
    Calls Try.prog 13 #[.pointer (some ⟨g, 0, none⟩), .pointer (some ⟨g2, 0, none⟩), val4r v] w fun e w' => e = .returned (.bool true) ∧ Both w' g g2 B2 (rdV v st) ∧ Only [g, g2] w w' := by
  obtain ⟨k, n, s, A, c, B⟩ := v
  simp only at hk
  have hE : rdV ⟨k, n, s, A, c, B⟩ st = (rd 0 (fun l => tkU l s) st).2 := by unfold rdV; simp [hk]
  rw [hE]
  unfold val4r
  clear hE
  simp only
  subst hk
  obtain ⟨W1, hW1⟩ : ∃ W1, W1 = w.alloc (.cells #[.int .i64 0, .int .i64 n, .int .i64 s, .slice A B.length c] 31) := ⟨_, rfl⟩
  have hcel : Cel W1 w.heap.size 31 #[.int .i64 0, .int .i64 n, .int .i64 s, .slice A B.length c] := by rw [hW1]; exact Cel.new _ _ _
  have hO1 : Only [] w W1 := by rw [hW1]; exact (Only.refl [] w).alloc _
  have hBo : Both W1 g g2 B2 st := h.only hO1
  have hq1 : w.heap.size < W1.heap.size := by rw [hW1]; simp
  have hg2 := h.y.lt
  have hgg := h.lt
  have k0 := hcel.cell 0
  have k2 := hcel.cell 2
  simp at k0 k2
  obtain ⟨q, hqq⟩ : ∃ q, q = w.heap.size := ⟨_, rfl⟩
  rw [← hqq] at hcel k0 k2 hq1 hg2
  go_enter Try.func13, Try.ntmps13
  go_wp2_with fail
  rw [← hW1, ← hqq]
  clear hW1 hqq h
  refine wp_region_held_drew (S := (fun w' => w'.cell? ⟨q, 2, none⟩ = some (.int .i64 s))) (by kernel_rfl) (k2) (fun hHeld => ?_)
  refine wpAnyH_here 0 (v := ?_) rfl (by kernel_rfl) (by kernel_rfl) (by kernel_rfl) (fun _ _ _ h => h) (Or.inl ⟨by rfl, ?_⟩) hHeld ?_
  rotate_left
  · intro w hSw; (try dsimp only at hSw); go_simp; all_goals (with_reducible rfl)
  try simp only [Act.put, List.setIfInBounds_toArray, List.set_cons_zero, List.set_cons_succ]
  refine wpAnyH_here 1 (v := ?_) rfl (by kernel_rfl) (by kernel_rfl) (by kernel_rfl) (fun _ _ _ h => h) (Or.inl ⟨by rfl, ?_⟩) hHeld ?_
  rotate_left
  · intro w hSw; (try dsimp only at hSw); go_simp; all_goals (with_reducible rfl)
  try simp only [Act.put, List.setIfInBounds_toArray, List.set_cons_zero, List.set_cons_succ]
  refine wpAnyH_here 2 (v := ?_) rfl (by kernel_rfl) (by kernel_rfl) (by kernel_rfl) (fun _ _ _ h => h) (Or.inl ⟨by rfl, ?_⟩) hHeld ?_
  rotate_left
  · intro w hSw; (try dsimp only at hSw); go_simp; all_goals (with_reducible rfl)
  try simp only [Act.put, List.setIfInBounds_toArray, List.set_cons_zero, List.set_cons_succ]
  refine wpAnyH_here 4 (v := ?_) rfl (by kernel_rfl) (by kernel_rfl) (by kernel_rfl) (fun _ _ _ h => h) (Or.inl ⟨by rfl, ?_⟩) hHeld ?_
  rotate_left
  · intro w hSw; (try dsimp only at hSw); go_simp; all_goals (with_reducible rfl)
  try simp only [Act.put, List.setIfInBounds_toArray, List.set_cons_zero, List.set_cons_succ]
  refine wpAnyH_here 5 (v := ?_) rfl (by kernel_rfl) (by kernel_rfl) (by kernel_rfl) (fun _ _ _ h => h) (Or.inl ⟨by rfl, ?_⟩) hHeld ?_
  rotate_left
  · intro w hSw; (try dsimp only at hSw); go_simp; all_goals (with_reducible rfl)
  try simp only [Act.put, List.setIfInBounds_toArray, List.set_cons_zero, List.set_cons_succ]
  refine wpAnyH_here 6 (v := ?_) rfl (by kernel_rfl) (by kernel_rfl) (by kernel_rfl) (fun _ _ _ h => h) (Or.inl ⟨by rfl, ?_⟩) hHeld ?_
  rotate_left
  · intro w hSw; (try dsimp only at hSw); go_simp; all_goals (with_reducible rfl)
  try simp only [Act.put, List.setIfInBounds_toArray, List.set_cons_zero, List.set_cons_succ]
  refine wpAnyH_alone 3 rfl (by kernel_rfl) (fun K hK => ?_)
  go_simp
  (go_at_call 19; refine (oruint_any _ g g st s hBo.r.drew hL).mono ?_; rintro e W2 ⟨rfl, hR2, hO2⟩; have hY2 := (Both.mk hBo.r.drew hBo.y.drew hBo.lt hBo.le).stepR hR2 hO2; have m2 := (World.cell?_of_block (hO2.block q (by exact hq1) (by simp; omega))).trans k2)
  refine hK.out _ _ (m2) (fun hHeld => ?_)
  clear hK K
  try simp only [Act.put, List.setIfInBounds_toArray, List.set_cons_zero, List.set_cons_succ]
  refine wpAnyH_alone 7 rfl (by kernel_rfl) (fun K hK => ?_)
  go_simp
  (go_at_call 30; refine (yuint_any W2 B2 g2 st s hY2 hL).mono ?_; rintro e W3 ⟨rfl, hY3, hO3⟩; have p2 := (World.cell?_of_block (hO3.block q (by have := hO2.size; exact Nat.lt_of_lt_of_le hq1 this) (by simp; omega))).trans m2)
  refine hK.out _ _ (p2) (fun hHeld => ?_)
  clear hK K
  try simp only [Act.put, List.setIfInBounds_toArray, List.set_cons_zero, List.set_cons_succ]
  refine wpAnyH_pin hHeld (fun hHeld => ?_)
  refine wpAnyH_here 8 (v := ?_) rfl (by kernel_rfl) (by kernel_rfl) (by kernel_rfl) (fun _ _ _ h => h) (Or.inl ⟨by rfl, ?_⟩) hHeld ?_
  rotate_left
  · intro w hSw; subst hSw; go_simp; all_goals (with_reducible rfl)
  try simp only [Act.put, List.setIfInBounds_toArray, List.set_cons_zero, List.set_cons_succ]
  refine wpAnyH_here 9 (v := ?_) rfl (by kernel_rfl) (by kernel_rfl) (by kernel_rfl) (fun _ _ _ h => h) (Or.inl ⟨by rfl, ?_⟩) hHeld ?_
  rotate_left
  · intro w hSw; subst hSw; go_simp; all_goals (with_reducible rfl)
  try simp only [Act.put, List.setIfInBounds_toArray, List.set_cons_zero, List.set_cons_succ]
  refine wpAnyH_done (by kernel_rfl) ?_ _
  go_wp2
  go_ret
  have hO9 : Only [g, g2] w W3 := (hO1.drew.more (by simp)).trans (only_two hO2 hO3) (by simp)
  exact ⟨rfl, ⟨hR2.only hO3 (by simp; omega) (by simp; omega), hY3, hBo.lt, hBo.le⟩, hO9⟩

set_option maxHeartbeats 1000000 in
theorem read_count (w : World) (g g2 B2 : Nat) (st : Option (List Byte)) (v : V4) (h : Both w g g2 B2 st) (hk : v.k = 3) (hL : lftO st < 1000000) :
    Calls Try.prog 13 #[.pointer (some ⟨g, 0, none⟩), .pointer (some ⟨g2, 0, none⟩), val4r v] w fun e w' => e = .returned (.bool true) ∧ Both w' g g2 B2 (rdV v st) ∧ Only [g, g2] w w' := by
  obtain ⟨k, n, s, A, c, B⟩ := v
  simp only at hk
  have hE : rdV ⟨k, n, s, A, c, B⟩ st = (rd 0 (fun l => tkC l s) st).2 := by unfold rdV; simp [hk]
  rw [hE]
  unfold val4r
  clear hE
  simp only
  subst hk
  obtain ⟨W1, hW1⟩ : ∃ W1, W1 = w.alloc (.cells #[.int .i64 3, .int .i64 n, .int .i64 s, .slice A B.length c] 31) := ⟨_, rfl⟩
  have hcel : Cel W1 w.heap.size 31 #[.int .i64 3, .int .i64 n, .int .i64 s, .slice A B.length c] := by rw [hW1]; exact Cel.new _ _ _
  have hO1 : Only [] w W1 := by rw [hW1]; exact (Only.refl [] w).alloc _
  have hBo : Both W1 g g2 B2 st := h.only hO1
  have hq1 : w.heap.size < W1.heap.size := by rw [hW1]; simp
  have hg2 := h.y.lt
  have hgg := h.lt
  have k0 := hcel.cell 0
  have k2 := hcel.cell 2
  simp at k0 k2
  obtain ⟨q, hqq⟩ : ∃ q, q = w.heap.size := ⟨_, rfl⟩
  rw [← hqq] at hcel k0 k2 hq1 hg2
  go_enter Try.func13, Try.ntmps13
  go_wp2_with fail
  rw [← hW1, ← hqq]
  clear hW1 hqq h
  refine wp_region_held_drew (S := (fun w' => w'.cell? ⟨q, 2, none⟩ = some (.int .i64 s))) (by kernel_rfl) (k2) (fun hHeld => ?_)
  refine wpAnyH_here 0 (v := ?_) rfl (by kernel_rfl) (by kernel_rfl) (by kernel_rfl) (fun _ _ _ h => h) (Or.inl ⟨by rfl, ?_⟩) hHeld ?_
  rotate_left
  · intro w hSw; (try dsimp only at hSw); go_simp; all_goals (with_reducible rfl)
  try simp only [Act.put, List.setIfInBounds_toArray, List.set_cons_zero, List.set_cons_succ]
  refine wpAnyH_here 1 (v := ?_) rfl (by kernel_rfl) (by kernel_rfl) (by kernel_rfl) (fun _ _ _ h => h) (Or.inl ⟨by rfl, ?_⟩) hHeld ?_
  rotate_left
  · intro w hSw; (try dsimp only at hSw); go_simp; all_goals (with_reducible rfl)
  try simp only [Act.put, List.setIfInBounds_toArray, List.set_cons_zero, List.set_cons_succ]
  refine wpAnyH_here 2 (v := ?_) rfl (by kernel_rfl) (by kernel_rfl) (by kernel_rfl) (fun _ _ _ h => h) (Or.inl ⟨by rfl, ?_⟩) hHeld ?_
  rotate_left
  · intro w hSw; (try dsimp only at hSw); go_simp; all_goals (with_reducible rfl)
  try simp only [Act.put, List.setIfInBounds_toArray, List.set_cons_zero, List.set_cons_succ]
  refine wpAnyH_here 4 (v := ?_) rfl (by kernel_rfl) (by kernel_rfl) (by kernel_rfl) (fun _ _ _ h => h) (Or.inl ⟨by rfl, ?_⟩) hHeld ?_
  rotate_left
  · intro w hSw; (try dsimp only at hSw); go_simp; all_goals (with_reducible rfl)
  try simp only [Act.put, List.setIfInBounds_toArray, List.set_cons_zero, List.set_cons_succ]
  refine wpAnyH_here 5 (v := ?_) rfl (by kernel_rfl) (by kernel_rfl) (by kernel_rfl) (fun _ _ _ h => h) (Or.inl ⟨by rfl, ?_⟩) hHeld ?_
  rotate_left
  · intro w hSw; (try dsimp only at hSw); go_simp; all_goals (with_reducible rfl)
  try simp only [Act.put, List.setIfInBounds_toArray, List.set_cons_zero, List.set_cons_succ]
  refine wpAnyH_here 6 (v := ?_) rfl (by kernel_rfl) (by kernel_rfl) (by kernel_rfl) (fun _ _ _ h => h) (Or.inl ⟨by rfl, ?_⟩) hHeld ?_
  rotate_left
  · intro w hSw; (try dsimp only at hSw); go_simp; all_goals (with_reducible rfl)
  try simp only [Act.put, List.setIfInBounds_toArray, List.set_cons_zero, List.set_cons_succ]
  refine wpAnyH_alone 3 rfl (by kernel_rfl) (fun K hK => ?_)
  go_simp
  (go_at_call 32; refine (orcount_any _ g g st s hBo.r.drew hL).mono ?_; rintro e W2 ⟨rfl, hR2, hO2⟩; have hY2 := (Both.mk hBo.r.drew hBo.y.drew hBo.lt hBo.le).stepR hR2 hO2; have m2 := (World.cell?_of_block (hO2.block q (by exact hq1) (by simp; omega))).trans k2)
  refine hK.out _ _ (m2) (fun hHeld => ?_)
  clear hK K
  try simp only [Act.put, List.setIfInBounds_toArray, List.set_cons_zero, List.set_cons_succ]
  refine wpAnyH_alone 7 rfl (by kernel_rfl) (fun K hK => ?_)
  go_simp
  (go_at_call 33; refine (ycount_any W2 B2 g2 st s hY2 hL).mono ?_; rintro e W3 ⟨rfl, hY3, hO3⟩; have p2 := (World.cell?_of_block (hO3.block q (by have := hO2.size; exact Nat.lt_of_lt_of_le hq1 this) (by simp; omega))).trans m2)
  refine hK.out _ _ (p2) (fun hHeld => ?_)
  clear hK K
  try simp only [Act.put, List.setIfInBounds_toArray, List.set_cons_zero, List.set_cons_succ]
  refine wpAnyH_pin hHeld (fun hHeld => ?_)
  refine wpAnyH_here 8 (v := ?_) rfl (by kernel_rfl) (by kernel_rfl) (by kernel_rfl) (fun _ _ _ h => h) (Or.inl ⟨by rfl, ?_⟩) hHeld ?_
  rotate_left
  · intro w hSw; subst hSw; go_simp; all_goals (with_reducible rfl)
  try simp only [Act.put, List.setIfInBounds_toArray, List.set_cons_zero, List.set_cons_succ]
  refine wpAnyH_here 9 (v := ?_) rfl (by kernel_rfl) (by kernel_rfl) (by kernel_rfl) (fun _ _ _ h => h) (Or.inl ⟨by rfl, ?_⟩) hHeld ?_
  rotate_left
  · intro w hSw; subst hSw; go_simp; all_goals (with_reducible rfl)
  try simp only [Act.put, List.setIfInBounds_toArray, List.set_cons_zero, List.set_cons_succ]
  refine wpAnyH_done (by kernel_rfl) ?_ _
  go_wp2
  go_ret
  have hO9 : Only [g, g2] w W3 := (hO1.drew.more (by simp)).trans (only_two hO2 hO3) (by simp)
  exact ⟨rfl, ⟨hR2.only hO3 (by simp; omega) (by simp; omega), hY3, hBo.lt, hBo.le⟩, hO9⟩

set_option maxHeartbeats 1000000 in
theorem read_int (w : World) (g g2 B2 : Nat) (st : Option (List Byte)) (v : V4) (h : Both w g g2 B2 st) (hk : v.k ≠ 0 ∧ v.k ≠ 2 ∧ v.k ≠ 3) (hL : lftO st < 1000000) :
    Calls Try.prog 13 #[.pointer (some ⟨g, 0, none⟩), .pointer (some ⟨g2, 0, none⟩), val4r v] w fun e w' => e = .returned (.bool true) ∧ Both w' g g2 B2 (rdV v st) ∧ Only [g, g2] w w' := by
  obtain ⟨k, n, s, A, c, B⟩ := v
  simp only at hk
  have hE : rdV ⟨k, n, s, A, c, B⟩ st = (rd 0 tkI st).2 := by unfold rdV; simp [hk]
  rw [hE]
  unfold val4r
  clear hE
  simp only
  have hk0 : (k == 0) = false := by simpa using hk.1
  have hk2 : (k == 2) = false := by simpa using hk.2.1
  have hk3 : (k == 3) = false := by simpa using hk.2.2
  clear hk
  obtain ⟨W1, hW1⟩ : ∃ W1, W1 = w.alloc (.cells #[.int .i64 k, .int .i64 n, .int .i64 s, .slice A B.length c] 31) := ⟨_, rfl⟩
  have hcel : Cel W1 w.heap.size 31 #[.int .i64 k, .int .i64 n, .int .i64 s, .slice A B.length c] := by rw [hW1]; exact Cel.new _ _ _
  have hO1 : Only [] w W1 := by rw [hW1]; exact (Only.refl [] w).alloc _
  have hBo : Both W1 g g2 B2 st := h.only hO1
  have hq1 : w.heap.size < W1.heap.size := by rw [hW1]; simp
  have hg2 := h.y.lt
  have hgg := h.lt
  have k0 := hcel.cell 0
  have k2 := hcel.cell 2
  simp at k0 k2
  obtain ⟨q, hqq⟩ : ∃ q, q = w.heap.size := ⟨_, rfl⟩
  rw [← hqq] at hcel k0 k2 hq1 hg2
  go_enter Try.func13, Try.ntmps13
  go_wp2_with fail
  rw [← hW1, ← hqq]
  clear hW1 hqq h
  refine (orint_any _ g g st hBo.r hL).mono ?_
  rintro e W2 ⟨rfl, hR2, hO2⟩
  have hY2 := hBo.stepR hR2 hO2
  go_wp2_with fail
  refine (yint_any W2 B2 g2 st hY2 hL).mono ?_
  rintro e W3 ⟨rfl, hY3, hO3⟩
  go_wp2
  go_ret
  have hO9 : Only [g, g2] w W3 := (hO1.more (by simp)).trans (only_two hO2 hO3) (by simp)
  exact ⟨rfl, ⟨hR2.only hO3 (by simp; omega) (by simp; omega), hY3, hBo.lt, hBo.le⟩, hO9⟩

theorem Ow.conv_only {w w' : World} {base n : Nat} {A : Option Addr} {c : Nat} {l : List Byte} {S : List Nat} (h : Ow w base 5 (.slice A n c) l) (k : Only S w w') (hS : ∀ i, (Value.slice A n c).ownBlock = some i → i ∉ S) :
    (convert 27 9 (.slice A n c)).run Try.prog w' = .ok (.string (str l)) w' := by
  obtain ⟨A', c', he, hr, hn, _⟩ := (h.only k hS).reads
  rw [he]
  exact run_str w' is_bytes Try.underlying9 hr hn
theorem conv_hid {W : World} {B m c : Nat} {A : Option Addr} {l : List Byte} (h : Bs W B A l) (hn : A = none → c = 0) (hm : m = l.length) : (convert 27 9 (.slice A m c)).run Try.prog W = .ok (.string (str l)) W := by
  subst hm
  exact run_str W is_bytes Try.underlying9 h hn

set_option maxHeartbeats 1000000 in
theorem read_blob (w : World) (g g2 B2 : Nat) (st : Option (List Byte)) (v : V4) (h : Both w g g2 B2 st) (hk : v.k = 2) (hL : lftO st < 1000000) :
    Calls Try.prog 13 #[.pointer (some ⟨g, 0, none⟩), .pointer (some ⟨g2, 0, none⟩), val4r v] w fun e w' => e = .returned (.bool true) ∧ Both w' g g2 B2 (rdV v st) ∧ Only [g, g2] w w' := by
  obtain ⟨k, n, s, A, c, B⟩ := v
  simp only at hk
  have hE : rdV ⟨k, n, s, A, c, B⟩ st = (rd [] (fun l => tkB l s) st).2 := by unfold rdV; simp [hk]
  rw [hE]
  unfold val4r
  clear hE
  simp only
  subst hk
  have hbq := str_beq (rd [] (fun l => tkB l s) st).1 (rd [] (fun l => tkB l s) st).1
  rw [decide_eq_true rfl] at hbq
  obtain ⟨W1, hW1⟩ : ∃ W1, W1 = w.alloc (.cells #[.int .i64 2, .int .i64 n, .int .i64 s, .slice A B.length c] 31) := ⟨_, rfl⟩
  have hcel : Cel W1 w.heap.size 31 #[.int .i64 2, .int .i64 n, .int .i64 s, .slice A B.length c] := by rw [hW1]; exact Cel.new _ _ _
  have hO1 : Only [] w W1 := by rw [hW1]; exact (Only.refl [] w).alloc _
  have hBo : Both W1 g g2 B2 st := h.only hO1
  have hq1 : w.heap.size < W1.heap.size := by rw [hW1]; simp
  have hg2 := h.y.lt
  have hgg := h.lt
  have k0 := hcel.cell 0
  have k2 := hcel.cell 2
  simp at k0 k2
  obtain ⟨q, hqq⟩ : ∃ q, q = w.heap.size := ⟨_, rfl⟩
  rw [← hqq] at hcel k0 k2 hq1 hg2
  go_enter Try.func13, Try.ntmps13
  go_wp2_with fail
  rw [← hW1, ← hqq]
  clear hW1 hqq h
  refine wp_region_held_drew (S := (fun w' => w'.cell? ⟨q, 2, none⟩ = some (.int .i64 s))) (by kernel_rfl) (k2) (fun hHeld => ?_)
  refine wpAnyH_here 0 (v := ?_) rfl (by kernel_rfl) (by kernel_rfl) (by kernel_rfl) (fun _ _ _ h => h) (Or.inl ⟨by rfl, ?_⟩) hHeld ?_
  rotate_left
  · intro w hSw; (try dsimp only at hSw); go_simp; all_goals (with_reducible rfl)
  try simp only [Act.put, List.setIfInBounds_toArray, List.set_cons_zero, List.set_cons_succ]
  refine wpAnyH_here 1 (v := ?_) rfl (by kernel_rfl) (by kernel_rfl) (by kernel_rfl) (fun _ _ _ h => h) (Or.inl ⟨by rfl, ?_⟩) hHeld ?_
  rotate_left
  · intro w hSw; (try dsimp only at hSw); go_simp; all_goals (with_reducible rfl)
  try simp only [Act.put, List.setIfInBounds_toArray, List.set_cons_zero, List.set_cons_succ]
  refine wpAnyH_here 2 (v := ?_) rfl (by kernel_rfl) (by kernel_rfl) (by kernel_rfl) (fun _ _ _ h => h) (Or.inl ⟨by rfl, ?_⟩) hHeld ?_
  rotate_left
  · intro w hSw; (try dsimp only at hSw); go_simp; all_goals (with_reducible rfl)
  try simp only [Act.put, List.setIfInBounds_toArray, List.set_cons_zero, List.set_cons_succ]
  refine wpAnyH_here 5 (v := ?_) rfl (by kernel_rfl) (by kernel_rfl) (by kernel_rfl) (fun _ _ _ h => h) (Or.inl ⟨by rfl, ?_⟩) hHeld ?_
  rotate_left
  · intro w hSw; (try dsimp only at hSw); go_simp; all_goals (with_reducible rfl)
  try simp only [Act.put, List.setIfInBounds_toArray, List.set_cons_zero, List.set_cons_succ]
  refine wpAnyH_here 6 (v := ?_) rfl (by kernel_rfl) (by kernel_rfl) (by kernel_rfl) (fun _ _ _ h => h) (Or.inl ⟨by rfl, ?_⟩) hHeld ?_
  rotate_left
  · intro w hSw; (try dsimp only at hSw); go_simp; all_goals (with_reducible rfl)
  try simp only [Act.put, List.setIfInBounds_toArray, List.set_cons_zero, List.set_cons_succ]
  refine wpAnyH_here 7 (v := ?_) rfl (by kernel_rfl) (by kernel_rfl) (by kernel_rfl) (fun _ _ _ h => h) (Or.inl ⟨by rfl, ?_⟩) hHeld ?_
  rotate_left
  · intro w hSw; (try dsimp only at hSw); go_simp; all_goals (with_reducible rfl)
  try simp only [Act.put, List.setIfInBounds_toArray, List.set_cons_zero, List.set_cons_succ]
  refine wpAnyH_alone 3 rfl (by kernel_rfl) (fun K hK => ?_)
  go_simp
  (go_at_call 20; refine (orblob_any _ g g st s hBo.r.drew hL).mono ?_; rintro e W2 ⟨⟨v2, b2, rfl, hown2⟩, hR2, hO2⟩; obtain ⟨A2, c2, rfl, hA2, hA2n, _⟩ := hown2.reads; have hY2 := (Both.mk hBo.r.drew hBo.y.drew hBo.lt hBo.le).stepR hR2 hO2; have hs2 := run_str (P := Try.prog) W2 is_bytes Try.underlying9 hA2 hA2n; have m2 := (World.cell?_of_block (hO2.block q (by exact hq1) (by simp; omega))).trans k2)
  refine hK.out _ _ (m2) (fun hHeld => ?_)
  clear hK K
  try simp only [Act.put, List.setIfInBounds_toArray, List.set_cons_zero, List.set_cons_succ]
  refine wpAnyH_sharpen (S' := (fun w' => w'.cell? ⟨q, 2, none⟩ = some (.int .i64 s) ∧ (convert 27 9 (.slice A2 (rd [] (fun l => tkB l s) st).1.length c2)).run Try.prog w' = .ok (.string (str (rd [] (fun l => tkB l s) st).1)) w')) (fun w h => h.1) (⟨m2, hs2⟩) (fun hHeld => ?_)
  refine wpAnyH_here 4 (v := ?_) rfl (by kernel_rfl) (by kernel_rfl) (by kernel_rfl) (fun _ _ _ h => h) (Or.inl ⟨by rfl, ?_⟩) hHeld ?_
  rotate_left
  · intro w hSw; (try dsimp only at hSw); go_simp; all_goals (with_reducible rfl)
  try simp only [Act.put, List.setIfInBounds_toArray, List.set_cons_zero, List.set_cons_succ]
  refine wpAnyH_alone 8 rfl (by kernel_rfl) (fun K hK => ?_)
  go_simp
  (go_at_call 31; refine (yblob_any W2 B2 g2 st s hY2 hL).mono ?_; rintro e W3 ⟨⟨A3, m3, c3, rfl, hm3, hA3, hA3n⟩, hY3, hO3⟩; have p2 := (World.cell?_of_block (hO3.block q (by have := hO2.size; exact Nat.lt_of_lt_of_le hq1 this) (by simp; omega))).trans m2; have hs2b := hown2.conv_only hO3 (by obtain ⟨_, _, _, hc', _⟩ := hY2; intro i hi hx; simp at hx; subst hx; exact hown2.apart hc' (by decide) hi); have hs3 := conv_hid (W := W3) hA3 hA3n hm3; clear hm3)
  refine hK.out _ _ (⟨p2, hs2b⟩) (fun hHeld => ?_)
  clear hK K
  try simp only [Act.put, List.setIfInBounds_toArray, List.set_cons_zero, List.set_cons_succ]
  refine wpAnyH_pin hHeld (fun hHeld => ?_)
  refine wpAnyH_here 9 (v := ?_) rfl (by kernel_rfl) (by kernel_rfl) (by kernel_rfl) (fun _ _ _ h => h) (Or.inl ⟨by rfl, ?_⟩) hHeld ?_
  rotate_left
  · intro w hSw; subst hSw; go_simp; all_goals (with_reducible rfl)
  try simp only [Act.put, List.setIfInBounds_toArray, List.set_cons_zero, List.set_cons_succ]
  refine wpAnyH_here 10 (v := ?_) rfl (by kernel_rfl) (by kernel_rfl) (by kernel_rfl) (fun _ _ _ h => h) (Or.inl ⟨by rfl, ?_⟩) hHeld ?_
  rotate_left
  · intro w hSw; subst hSw; go_simp; all_goals (with_reducible rfl)
  try simp only [Act.put, List.setIfInBounds_toArray, List.set_cons_zero, List.set_cons_succ]
  refine wpAnyH_here 11 (v := ?_) rfl (by kernel_rfl) (by kernel_rfl) (by kernel_rfl) (fun _ _ _ h => h) (Or.inl ⟨by rfl, ?_⟩) hHeld ?_
  rotate_left
  · intro w hSw; subst hSw; go_simp; all_goals (with_reducible rfl)
  try simp only [Act.put, List.setIfInBounds_toArray, List.set_cons_zero, List.set_cons_succ]
  refine wpAnyH_done (by kernel_rfl) ?_ _
  go_wp2
  go_ret
  have hO9 : Only [g, g2] w W3 := (hO1.drew.more (by simp)).trans (only_two hO2 hO3) (by simp)
  exact ⟨rfl, ⟨hR2.only hO3 (by simp; omega) (by simp; omega), hY3, hBo.lt, hBo.le⟩, hO9⟩

theorem read_any (w : World) (g g2 B2 : Nat) (st : Option (List Byte)) (v : V4) (h : Both w g g2 B2 st) (hL : lftO st < 1000000) :
    Calls Try.prog 13 #[.pointer (some ⟨g, 0, none⟩), .pointer (some ⟨g2, 0, none⟩), val4r v] w fun e w' => e = .returned (.bool true) ∧ Both w' g g2 B2 (rdV v st) ∧ Only [g, g2] w w' := by
  by_cases h0 : v.k = 0
  · exact read_uint w g g2 B2 st v h h0 hL
  · by_cases h2 : v.k = 2
    · exact read_blob w g g2 B2 st v h h2 hL
    · by_cases h3 : v.k = 3
      · exact read_count w g g2 B2 st v h h3 hL
      · exact read_int w g g2 B2 st v h ⟨h0, h2, h3⟩ hL
end Go.Proofs.Ythacjccdcmmhkaa
