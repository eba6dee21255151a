/-
  The walk of 'put': a value written by the program's Writer, and its encoding by the reference.
-/
import Derived.Test.YthacjccdcmmhkaaLives03
import Derived.Test.YthacjccdcmmhkaaRef03a
import Derived.Test.YthacjccdcmmhkaaVals03
import Derived.Test.YthacjccdcmmhkaaHand
namespace Go.Proofs.Ythacjccdcmmhkaa
open Go.RowKit

/-- the encoding of a value -/
def encV (v : V4) : List Byte := if v.k = 0 then encU (v.n % 18446744073709551616).toNat v.s else if v.k = 2 then encB v.b else encI v.n
theorem encV_len {v : V4} (hn : -9223372036854775808 ≤ v.n ∧ v.n ≤ 9223372036854775807) (hb : v.b.length ≤ 200) : (encV v).length ≤ 210 := by
  unfold encV encU encB
  split
  · split
    · rw [be_len]; omega
    · simp
  · split
    · have := (encI_len (n := (v.b.length : Int)) ⟨by omega, by omega⟩).2
      rw [List.length_append]; omega
    · have := (encI_len hn).2
      omega

/-- the struct's value -/
def val4 (v : V4) : Value := .agg #[.int .i64 v.k, .int .i64 v.n, .int .i64 v.s, .slice v.A v.b.length v.c]

theorem Ow.keeps {w w' : World} {base : Nat} {e : TypeId} {v : Value} {l : List Byte} {S : List Nat} (h : Ow w base e v l) (k : Only S w w') (hS : ∀ x ∈ S, x < base) : Ow w' base e v l :=
  h.only k fun i hi hx => by
    have := h.lt i hi
    have := hS i hx
    omega

set_option maxHeartbeats 1000000 in
theorem put_uint (w : World) (base g : Nat) (r : Option Nat) (L : List Byte) (v : V4) (h : OW w base g r L) (hk : v.k = 0) (hnn : -9223372036854775808 ≤ v.n ∧ v.n ≤ 9223372036854775807) (hb : Bs w base v.A v.b) (hbn : v.A = none → v.c = 0) (hbg : base ≤ g) (hbl : v.b.length ≤ 200) (hL : L.length < 500000) (hbase : base ≤ w.heap.size) :
    Calls Try.prog 10 #[.pointer (some ⟨g, 0, none⟩), val4 v] w fun e w' => (∃ vb, e = .returned (.tuple #[vb, .bool true]) ∧ Ow w' w.heap.size 5 vb (encV v)) ∧ OPut w base g r (L ++ encV v) w' := by
  obtain ⟨k, n, s, A, c, B⟩ := v
  simp only at hk hnn hb hbn hbl
  have hE : encV ⟨k, n, s, A, c, B⟩ = encU (n % 18446744073709551616).toNat s := by unfold encV; simp [hk]
  rw [hE]
  unfold val4
  clear hE
  simp only
  have hg := h.lt
  have hr := h.row
  have heq := oeq_W ⟨g, 0, none⟩
  subst hk
  obtain ⟨W1, hW1⟩ : ∃ W1, W1 = w.alloc (.cells #[.int .i64 0, .int .i64 n, .int .i64 s, .slice A B.length c] 31) := ⟨_, rfl⟩
  have hcel : Cel W1 w.heap.size 31 #[.int .i64 0, .int .i64 n, .int .i64 s, .slice A B.length c] := by rw [hW1]; exact Cel.new _ _ _
  have hO1 : Only [] w W1 := by rw [hW1]; exact (Only.refl [] w).alloc _
  have hs1 : W1.heap.size = w.heap.size + 1 := by rw [hW1]; simp
  have hOW1 : OW W1 base g r L := h.only hO1 (by simp) (by simp)
  have hB1 : Bs W1 base A B := hb.only hO1 hbase (by simp)
  have hq1 : w.heap.size < W1.heap.size := by omega
  have k0 := hcel.cell 0
  have k1 := hcel.cell 1
  have k2 := hcel.cell 2
  have k3 := hcel.cell 3
  simp at k0 k1 k2 k3
  have hq : w.heap.size ∉ g :: r.toList := by
    intro hx
    rcases List.mem_cons.1 hx with hx | hx
    · omega
    · have := hr w.heap.size (by simpa using hx)
      omega
  obtain ⟨q, hqq⟩ : ∃ q, q = w.heap.size := ⟨_, rfl⟩
  have HQ := Lib.hid hqq
  rw [← hqq] at hcel k0 k1 k2 k3 hq hq1
  go_enter Try.func10, Try.ntmps10
  go_wp2_with fail
  rw [← hW1, ← hqq]
  clear hW1 hqq h hb
  refine wp_region_held_drew (S := (fun w' => w'.cell? ⟨q, 1, none⟩ = some (.int .i64 n) ∧ w'.cell? ⟨q, 2, none⟩ = some (.int .i64 s))) (by kernel_rfl) (⟨k1, k2⟩) (fun hHeld => ?_)
  refine wpAnyH_here 0 (v := ?_) rfl (by kernel_rfl) (by kernel_rfl) (by kernel_rfl) (fun _ _ _ h => h) (Or.inl ⟨by rfl, ?_⟩) hHeld ?_
  rotate_left
  · intro w hSw; (try dsimp only at hSw); go_simp; all_goals (with_reducible rfl)
  try simp only [Act.put, List.setIfInBounds_toArray, List.set_cons_zero, List.set_cons_succ]
  refine wpAnyH_here 1 (v := ?_) rfl (by kernel_rfl) (by kernel_rfl) (by kernel_rfl) (fun _ _ _ h => h) (Or.inl ⟨by rfl, ?_⟩) hHeld ?_
  rotate_left
  · intro w hSw; (try dsimp only at hSw); go_simp; all_goals (with_reducible rfl)
  try simp only [Act.put, List.setIfInBounds_toArray, List.set_cons_zero, List.set_cons_succ]
  refine wpAnyH_here 2 (v := ?_) rfl (by kernel_rfl) (by kernel_rfl) (by kernel_rfl) (fun _ _ _ h => h) (Or.inl ⟨by rfl, ?_⟩) hHeld ?_
  rotate_left
  · intro w hSw; (try dsimp only at hSw); go_simp; all_goals (with_reducible rfl)
  try simp only [Act.put, List.setIfInBounds_toArray, List.set_cons_zero, List.set_cons_succ]
  refine wpAnyH_here 3 (v := ?_) rfl (by kernel_rfl) (by kernel_rfl) (by kernel_rfl) (fun _ _ _ h => h) (Or.inl ⟨by rfl, ?_⟩) hHeld ?_
  rotate_left
  · intro w hSw; (try dsimp only at hSw); go_simp; all_goals (with_reducible rfl)
  try simp only [Act.put, List.setIfInBounds_toArray, List.set_cons_zero, List.set_cons_succ]
  refine wpAnyH_here 4 (v := ?_) rfl (by kernel_rfl) (by kernel_rfl) (by kernel_rfl) (fun _ _ _ h => h) (Or.inl ⟨by rfl, ?_⟩) hHeld ?_
  rotate_left
  · intro w hSw; (try dsimp only at hSw); go_simp; all_goals (with_reducible rfl)
  try simp only [Act.put, List.setIfInBounds_toArray, List.set_cons_zero, List.set_cons_succ]
  refine wpAnyH_here 6 (v := ?_) rfl (by kernel_rfl) (by kernel_rfl) (by kernel_rfl) (fun _ _ _ h => h) (Or.inl ⟨by rfl, ?_⟩) hHeld ?_
  rotate_left
  · intro w hSw; (try dsimp only at hSw); go_simp; all_goals (with_reducible rfl)
  try simp only [Act.put, List.setIfInBounds_toArray, List.set_cons_zero, List.set_cons_succ]
  refine wpAnyH_here 7 (v := ?_) rfl (by kernel_rfl) (by kernel_rfl) (by kernel_rfl) (fun _ _ _ h => h) (Or.inl ⟨by rfl, ?_⟩) hHeld ?_
  rotate_left
  · intro w hSw; (try dsimp only at hSw); go_simp; all_goals (with_reducible rfl)
  try simp only [Act.put, List.setIfInBounds_toArray, List.set_cons_zero, List.set_cons_succ]
  refine wpAnyH_here 8 (v := ?_) rfl (by kernel_rfl) (by kernel_rfl) (by kernel_rfl) (fun _ _ _ h => h) (Or.inl ⟨by rfl, ?_⟩) hHeld ?_
  rotate_left
  · intro w hSw; (try dsimp only at hSw); go_simp; all_goals (with_reducible rfl)
  try simp only [Act.put, List.setIfInBounds_toArray, List.set_cons_zero, List.set_cons_succ]
  refine wpAnyH_here 9 (v := ?_) rfl (by kernel_rfl) (by kernel_rfl) (by kernel_rfl) (fun _ _ _ h => h) (Or.inl ⟨by rfl, ?_⟩) hHeld ?_
  rotate_left
  · intro w hSw; (try dsimp only at hSw); go_simp; all_goals (with_reducible rfl)
  try simp only [Act.put, List.setIfInBounds_toArray, List.set_cons_zero, List.set_cons_succ]
  refine wpAnyH_here 10 (v := ?_) rfl (by kernel_rfl) (by kernel_rfl) (by kernel_rfl) (fun _ _ _ h => h) (Or.inl ⟨by rfl, ?_⟩) hHeld ?_
  rotate_left
  · intro w hSw; (try dsimp only at hSw); go_simp; all_goals (with_reducible rfl)
  try simp only [Act.put, List.setIfInBounds_toArray, List.set_cons_zero, List.set_cons_succ]
  refine wpAnyH_here 11 (v := ?_) rfl (by kernel_rfl) (by kernel_rfl) (by kernel_rfl) (fun _ _ _ h => h) (Or.inl ⟨by rfl, ?_⟩) hHeld ?_
  rotate_left
  · intro w hSw; (try dsimp only at hSw); go_simp; all_goals (with_reducible rfl)
  try simp only [Act.put, List.setIfInBounds_toArray, List.set_cons_zero, List.set_cons_succ]
  refine wpAnyH_here 13 (v := ?_) rfl (by kernel_rfl) (by kernel_rfl) (by kernel_rfl) (fun _ _ _ h => h) (Or.inl ⟨by rfl, ?_⟩) hHeld ?_
  rotate_left
  · intro w hSw; (try dsimp only at hSw); go_simp; all_goals (with_reducible rfl)
  try simp only [Act.put, List.setIfInBounds_toArray, List.set_cons_zero, List.set_cons_succ]
  refine wpAnyH_alone 5 rfl (by kernel_rfl) (fun K hK => ?_)
  go_simp
  (go_at_call 17; refine (xuint_any _ s (n % 18446744073709551616).toNat (by first | rw [wrap64]; omega | omega) _ (by omega)).mono ?_; rintro e W2 ⟨v2, rfl, hown2, hbel2⟩; have hOW2 := hOW1.drew.below hbel2; have m1 := (hbel2.cell (p := ⟨q, 1, none⟩) (by exact hq1)).trans k1; have m2 := (hbel2.cell (p := ⟨q, 2, none⟩) (by exact hq1)).trans k2; have hz2 : W1.heap.size ≤ W2.heap.size := hbel2.size)
  refine hK.out _ _ (⟨m1, m2⟩) (fun hHeld => ?_)
  clear hK K
  try simp only [Act.put, List.setIfInBounds_toArray, List.set_cons_zero, List.set_cons_succ]
  refine wpAnyH_alone 12 rfl (by kernel_rfl) (fun K hK => ?_)
  go_simp
  (go_at_call 25; refine (ouint_any W2 base g r L _ s (n % 18446744073709551616).toNat (by first | rw [wrap64]; omega | omega) hOW2 (by omega) (by omega)).mono ?_; rintro e W3 ⟨rfl, hP⟩; have hO3 := hP.only_; have p1 := (World.cell?_of_block (hO3.block q (by have := HQ.out; omega) hq)).trans m1; have p2 := (World.cell?_of_block (hO3.block q (by have := HQ.out; omega) hq)).trans m2)
  refine hK.out _ _ (⟨p1, p2⟩) (fun hHeld => ?_)
  clear hK K
  try simp only [Act.put, List.setIfInBounds_toArray, List.set_cons_zero, List.set_cons_succ]
  refine wpAnyH_pin hHeld (fun hHeld => ?_)
  refine wpAnyH_here 14 (v := ?_) rfl (by kernel_rfl) (by kernel_rfl) (by kernel_rfl) (fun _ _ _ h => h) (Or.inl ⟨by rfl, ?_⟩) hHeld ?_
  rotate_left
  · intro w hSw; subst hSw; go_simp; all_goals (with_reducible rfl)
  try simp only [Act.put, List.setIfInBounds_toArray, List.set_cons_zero, List.set_cons_succ]
  refine wpAnyH_here 15 (v := ?_) rfl (by kernel_rfl) (by kernel_rfl) (by kernel_rfl) (fun _ _ _ h => h) (Or.inl ⟨by rfl, ?_⟩) hHeld ?_
  rotate_left
  · intro w hSw; subst hSw; go_simp; all_goals (with_reducible rfl)
  try simp only [Act.put, List.setIfInBounds_toArray, List.set_cons_zero, List.set_cons_succ]
  refine wpAnyH_here 16 (v := ?_) rfl (by kernel_rfl) (by kernel_rfl) (by kernel_rfl) (fun _ _ _ h => h) (Or.inl ⟨by rfl, ?_⟩) hHeld ?_
  rotate_left
  · intro w hSw; subst hSw; go_simp; all_goals (with_reducible rfl)
  try simp only [Act.put, List.setIfInBounds_toArray, List.set_cons_zero, List.set_cons_succ]
  refine wpAnyH_done (by kernel_rfl) ?_ _
  go_wp2
  go_ret2
  have hgz : g < w.heap.size := hg
  have hO2 : Only [] w W2 := hO1.drew.trans (Only.of_below (S := []) hbel2) (by simp)
  have hz1 : w.heap.size ≤ W1.heap.size := by have := HQ.out; omega
  refine ⟨⟨v2, rfl, (hown2.keeps hO3 ?_).more hz1⟩, OPut.trans (.inl rfl) (hO2.more (by simp)) hP⟩
  intro x hx
  show x < W1.heap.size
  rcases List.mem_cons.1 hx with rfl | hx
  · omega
  · have := hr x (by simpa using hx)
    omega

set_option maxHeartbeats 1000000 in
theorem put_blob (w : World) (base g : Nat) (r : Option Nat) (L : List Byte) (v : V4) (h : OW w base g r L) (hk : v.k = 2) (hnn : -9223372036854775808 ≤ v.n ∧ v.n ≤ 9223372036854775807) (hb : Bs w base v.A v.b) (hbn : v.A = none → v.c = 0) (hbg : base ≤ g) (hbl : v.b.length ≤ 200) (hL : L.length < 500000) (hbase : base ≤ w.heap.size) :
    Calls Try.prog 10 #[.pointer (some ⟨g, 0, none⟩), val4 v] w fun e w' => (∃ vb, e = .returned (.tuple #[vb, .bool true]) ∧ Ow w' w.heap.size 5 vb (encV v)) ∧ OPut w base g r (L ++ encV v) w' := by
  obtain ⟨k, n, s, A, c, B⟩ := v
  simp only at hk hnn hb hbn hbl
  have hE : encV ⟨k, n, s, A, c, B⟩ = encB B := by unfold encV; simp [hk]
  rw [hE]
  unfold val4
  clear hE
  simp only
  have hg := h.lt
  have hr := h.row
  have heq := oeq_W ⟨g, 0, none⟩
  subst hk
  obtain ⟨W1, hW1⟩ : ∃ W1, W1 = w.alloc (.cells #[.int .i64 2, .int .i64 n, .int .i64 s, .slice A B.length c] 31) := ⟨_, rfl⟩
  have hcel : Cel W1 w.heap.size 31 #[.int .i64 2, .int .i64 n, .int .i64 s, .slice A B.length c] := by rw [hW1]; exact Cel.new _ _ _
  have hO1 : Only [] w W1 := by rw [hW1]; exact (Only.refl [] w).alloc _
  have hs1 : W1.heap.size = w.heap.size + 1 := by rw [hW1]; simp
  have hOW1 : OW W1 base g r L := h.only hO1 (by simp) (by simp)
  have hB1 : Bs W1 base A B := hb.only hO1 hbase (by simp)
  have hbase1 : base ≤ W1.heap.size := by omega
  have hq1 : w.heap.size < W1.heap.size := by omega
  have k0 := hcel.cell 0
  have k1 := hcel.cell 1
  have k2 := hcel.cell 2
  have k3 := hcel.cell 3
  simp at k0 k1 k2 k3
  have hq : w.heap.size ∉ g :: r.toList := by
    intro hx
    rcases List.mem_cons.1 hx with hx | hx
    · omega
    · have := hr w.heap.size (by simpa using hx)
      omega
  obtain ⟨q, hqq⟩ : ∃ q, q = w.heap.size := ⟨_, rfl⟩
  have HQ := Lib.hid hqq
  rw [← hqq] at hcel k0 k1 k2 k3 hq hq1
  go_enter Try.func10, Try.ntmps10
  go_wp2_with fail
  rw [← hW1, ← hqq]
  clear hW1 hqq h hb
  refine wp_region_held_drew (S := (fun w' => w'.cell? ⟨q, 3, none⟩ = some (.slice A B.length c))) (by kernel_rfl) (k3) (fun hHeld => ?_)
  refine wpAnyH_here 0 (v := ?_) rfl (by kernel_rfl) (by kernel_rfl) (by kernel_rfl) (fun _ _ _ h => h) (Or.inl ⟨by rfl, ?_⟩) hHeld ?_
  rotate_left
  · intro w hSw; (try dsimp only at hSw); go_simp; all_goals (with_reducible rfl)
  try simp only [Act.put, List.setIfInBounds_toArray, List.set_cons_zero, List.set_cons_succ]
  refine wpAnyH_here 1 (v := ?_) rfl (by kernel_rfl) (by kernel_rfl) (by kernel_rfl) (fun _ _ _ h => h) (Or.inl ⟨by rfl, ?_⟩) hHeld ?_
  rotate_left
  · intro w hSw; (try dsimp only at hSw); go_simp; all_goals (with_reducible rfl)
  try simp only [Act.put, List.setIfInBounds_toArray, List.set_cons_zero, List.set_cons_succ]
  refine wpAnyH_here 3 (v := ?_) rfl (by kernel_rfl) (by kernel_rfl) (by kernel_rfl) (fun _ _ _ h => h) (Or.inl ⟨by rfl, ?_⟩) hHeld ?_
  rotate_left
  · intro w hSw; (try dsimp only at hSw); go_simp; all_goals (with_reducible rfl)
  try simp only [Act.put, List.setIfInBounds_toArray, List.set_cons_zero, List.set_cons_succ]
  refine wpAnyH_here 4 (v := ?_) rfl (by kernel_rfl) (by kernel_rfl) (by kernel_rfl) (fun _ _ _ h => h) (Or.inl ⟨by rfl, ?_⟩) hHeld ?_
  rotate_left
  · intro w hSw; (try dsimp only at hSw); go_simp; all_goals (with_reducible rfl)
  try simp only [Act.put, List.setIfInBounds_toArray, List.set_cons_zero, List.set_cons_succ]
  refine wpAnyH_here 5 (v := ?_) rfl (by kernel_rfl) (by kernel_rfl) (by kernel_rfl) (fun _ _ _ h => h) (Or.inl ⟨by rfl, ?_⟩) hHeld ?_
  rotate_left
  · intro w hSw; (try dsimp only at hSw); go_simp; all_goals (with_reducible rfl)
  try simp only [Act.put, List.setIfInBounds_toArray, List.set_cons_zero, List.set_cons_succ]
  refine wpAnyH_here 7 (v := ?_) rfl (by kernel_rfl) (by kernel_rfl) (by kernel_rfl) (fun _ _ _ h => h) (Or.inl ⟨by rfl, ?_⟩) hHeld ?_
  rotate_left
  · intro w hSw; (try dsimp only at hSw); go_simp; all_goals (with_reducible rfl)
  try simp only [Act.put, List.setIfInBounds_toArray, List.set_cons_zero, List.set_cons_succ]
  refine wpAnyH_alone 2 rfl (by kernel_rfl) (fun K hK => ?_)
  go_simp
  (go_at_call 26; refine (xblob_any A B _ c _ (Lib.hid rfl) (hB1.drew.more (by exact hbase1)) hbn (by omega)).mono ?_; rintro e W2 ⟨v2, rfl, hown2, hbel2⟩; have hOW2 := hOW1.drew.below hbel2; have m1 := (hbel2.cell (p := ⟨q, 3, none⟩) (by exact hq1)).trans k3; have hz2 : W1.heap.size ≤ W2.heap.size := hbel2.size; have hB2 := hB1.drew.below (hbel2.mono (by exact hbase1)))
  refine hK.out _ _ (m1) (fun hHeld => ?_)
  clear hK K
  try simp only [Act.put, List.setIfInBounds_toArray, List.set_cons_zero, List.set_cons_succ]
  refine wpAnyH_alone 6 rfl (by kernel_rfl) (fun K hK => ?_)
  go_simp
  (go_at_call 24; refine (oblob_any W2 base g r L base A B _ c hOW2 (Lib.hid rfl) hB2 hbn (Nat.le_refl _) hbg (by omega) (by omega)).mono ?_; rintro e W3 ⟨rfl, hP⟩; have hO3 := hP.only_; have p1 := (World.cell?_of_block (hO3.block q (by have := HQ.out; omega) hq)).trans m1)
  refine hK.out _ _ (p1) (fun hHeld => ?_)
  clear hK K
  try simp only [Act.put, List.setIfInBounds_toArray, List.set_cons_zero, List.set_cons_succ]
  refine wpAnyH_pin hHeld (fun hHeld => ?_)
  refine wpAnyH_here 8 (v := ?_) rfl (by kernel_rfl) (by kernel_rfl) (by kernel_rfl) (fun _ _ _ h => h) (Or.inl ⟨by rfl, ?_⟩) hHeld ?_
  rotate_left
  · intro w hSw; subst hSw; go_simp; all_goals (with_reducible rfl)
  try simp only [Act.put, List.setIfInBounds_toArray, List.set_cons_zero, List.set_cons_succ]
  refine wpAnyH_here 9 (v := ?_) rfl (by kernel_rfl) (by kernel_rfl) (by kernel_rfl) (fun _ _ _ h => h) (Or.inl ⟨by rfl, ?_⟩) hHeld ?_
  rotate_left
  · intro w hSw; subst hSw; go_simp; all_goals (with_reducible rfl)
  try simp only [Act.put, List.setIfInBounds_toArray, List.set_cons_zero, List.set_cons_succ]
  refine wpAnyH_here 10 (v := ?_) rfl (by kernel_rfl) (by kernel_rfl) (by kernel_rfl) (fun _ _ _ h => h) (Or.inl ⟨by rfl, ?_⟩) hHeld ?_
  rotate_left
  · intro w hSw; subst hSw; go_simp; all_goals (with_reducible rfl)
  try simp only [Act.put, List.setIfInBounds_toArray, List.set_cons_zero, List.set_cons_succ]
  refine wpAnyH_done (by kernel_rfl) ?_ _
  go_wp2
  go_ret2
  have hgz : g < w.heap.size := hg
  have hO2 : Only [] w W2 := hO1.drew.trans (Only.of_below (S := []) hbel2) (by simp)
  have hz1 : w.heap.size ≤ W1.heap.size := by have := HQ.out; omega
  refine ⟨⟨v2, rfl, (hown2.keeps hO3 ?_).more hz1⟩, OPut.trans (.inl rfl) (hO2.more (by simp)) hP⟩
  intro x hx
  show x < W1.heap.size
  rcases List.mem_cons.1 hx with rfl | hx
  · omega
  · have := hr x (by simpa using hx)
    omega

set_option maxHeartbeats 1000000 in
theorem put_int (w : World) (base g : Nat) (r : Option Nat) (L : List Byte) (v : V4) (h : OW w base g r L) (hk : v.k ≠ 0 ∧ v.k ≠ 2) (hnn : -9223372036854775808 ≤ v.n ∧ v.n ≤ 9223372036854775807) (hb : Bs w base v.A v.b) (hbn : v.A = none → v.c = 0) (hbg : base ≤ g) (hbl : v.b.length ≤ 200) (hL : L.length < 500000) (hbase : base ≤ w.heap.size) :
    Calls Try.prog 10 #[.pointer (some ⟨g, 0, none⟩), val4 v] w fun e w' => (∃ vb, e = .returned (.tuple #[vb, .bool true]) ∧ Ow w' w.heap.size 5 vb (encV v)) ∧ OPut w base g r (L ++ encV v) w' := by
  obtain ⟨k, n, s, A, c, B⟩ := v
  simp only at hk hnn hb hbn hbl
  have hE : encV ⟨k, n, s, A, c, B⟩ = encI n := by unfold encV; simp [hk]
  rw [hE]
  unfold val4
  clear hE
  simp only
  have hg := h.lt
  have hr := h.row
  have heq := oeq_W ⟨g, 0, none⟩
  have hk0 : (k == 0) = false := by simpa using hk.1
  have hk2 : (k == 2) = false := by simpa using hk.2
  clear hk
  obtain ⟨W1, hW1⟩ : ∃ W1, W1 = w.alloc (.cells #[.int .i64 k, .int .i64 n, .int .i64 s, .slice A B.length c] 31) := ⟨_, rfl⟩
  have hcel : Cel W1 w.heap.size 31 #[.int .i64 k, .int .i64 n, .int .i64 s, .slice A B.length c] := by rw [hW1]; exact Cel.new _ _ _
  have hO1 : Only [] w W1 := by rw [hW1]; exact (Only.refl [] w).alloc _
  have hs1 : W1.heap.size = w.heap.size + 1 := by rw [hW1]; simp
  have hOW1 : OW W1 base g r L := h.only hO1 (by simp) (by simp)
  have hB1 : Bs W1 base A B := hb.only hO1 hbase (by simp)
  have hq1 : w.heap.size < W1.heap.size := by omega
  have k0 := hcel.cell 0
  have k1 := hcel.cell 1
  have k2 := hcel.cell 2
  have k3 := hcel.cell 3
  simp at k0 k1 k2 k3
  have hq : w.heap.size ∉ g :: r.toList := by
    intro hx
    rcases List.mem_cons.1 hx with hx | hx
    · omega
    · have := hr w.heap.size (by simpa using hx)
      omega
  obtain ⟨q, hqq⟩ : ∃ q, q = w.heap.size := ⟨_, rfl⟩
  have HQ := Lib.hid hqq
  rw [← hqq] at hcel k0 k1 k2 k3 hq hq1
  go_enter Try.func10, Try.ntmps10
  go_wp2_with fail
  rw [← hW1, ← hqq]
  clear hW1 hqq h hb
  refine wp_region_held_drew (S := (fun w' => w'.cell? ⟨q, 1, none⟩ = some (.int .i64 n))) (by kernel_rfl) (k1) (fun hHeld => ?_)
  refine wpAnyH_here 0 (v := ?_) rfl (by kernel_rfl) (by kernel_rfl) (by kernel_rfl) (fun _ _ _ h => h) (Or.inl ⟨by rfl, ?_⟩) hHeld ?_
  rotate_left
  · intro w hSw; (try dsimp only at hSw); go_simp; all_goals (with_reducible rfl)
  try simp only [Act.put, List.setIfInBounds_toArray, List.set_cons_zero, List.set_cons_succ]
  refine wpAnyH_here 1 (v := ?_) rfl (by kernel_rfl) (by kernel_rfl) (by kernel_rfl) (fun _ _ _ h => h) (Or.inl ⟨by rfl, ?_⟩) hHeld ?_
  rotate_left
  · intro w hSw; (try dsimp only at hSw); go_simp; all_goals (with_reducible rfl)
  try simp only [Act.put, List.setIfInBounds_toArray, List.set_cons_zero, List.set_cons_succ]
  refine wpAnyH_here 3 (v := ?_) rfl (by kernel_rfl) (by kernel_rfl) (by kernel_rfl) (fun _ _ _ h => h) (Or.inl ⟨by rfl, ?_⟩) hHeld ?_
  rotate_left
  · intro w hSw; (try dsimp only at hSw); go_simp; all_goals (with_reducible rfl)
  try simp only [Act.put, List.setIfInBounds_toArray, List.set_cons_zero, List.set_cons_succ]
  refine wpAnyH_here 4 (v := ?_) rfl (by kernel_rfl) (by kernel_rfl) (by kernel_rfl) (fun _ _ _ h => h) (Or.inl ⟨by rfl, ?_⟩) hHeld ?_
  rotate_left
  · intro w hSw; (try dsimp only at hSw); go_simp; all_goals (with_reducible rfl)
  try simp only [Act.put, List.setIfInBounds_toArray, List.set_cons_zero, List.set_cons_succ]
  refine wpAnyH_here 5 (v := ?_) rfl (by kernel_rfl) (by kernel_rfl) (by kernel_rfl) (fun _ _ _ h => h) (Or.inl ⟨by rfl, ?_⟩) hHeld ?_
  rotate_left
  · intro w hSw; (try dsimp only at hSw); go_simp; all_goals (with_reducible rfl)
  try simp only [Act.put, List.setIfInBounds_toArray, List.set_cons_zero, List.set_cons_succ]
  refine wpAnyH_here 7 (v := ?_) rfl (by kernel_rfl) (by kernel_rfl) (by kernel_rfl) (fun _ _ _ h => h) (Or.inl ⟨by rfl, ?_⟩) hHeld ?_
  rotate_left
  · intro w hSw; (try dsimp only at hSw); go_simp; all_goals (with_reducible rfl)
  try simp only [Act.put, List.setIfInBounds_toArray, List.set_cons_zero, List.set_cons_succ]
  refine wpAnyH_alone 2 rfl (by kernel_rfl) (fun K hK => ?_)
  go_simp
  (go_at_call 27; refine (xint_any n _ hnn).mono ?_; rintro e W2 ⟨v2, rfl, hown2, hbel2⟩; have hOW2 := hOW1.drew.below hbel2; have m1 := (hbel2.cell (p := ⟨q, 1, none⟩) (by exact hq1)).trans k1; have hz2 : W1.heap.size ≤ W2.heap.size := hbel2.size)
  refine hK.out _ _ (m1) (fun hHeld => ?_)
  clear hK K
  try simp only [Act.put, List.setIfInBounds_toArray, List.set_cons_zero, List.set_cons_succ]
  refine wpAnyH_alone 6 rfl (by kernel_rfl) (fun K hK => ?_)
  go_simp
  (go_at_call 23; refine (oint_any W2 base g r L n hOW2 hnn (by omega) (by omega)).mono ?_; rintro e W3 ⟨rfl, hP⟩; have hO3 := hP.only_; have p1 := (World.cell?_of_block (hO3.block q (by have := HQ.out; omega) hq)).trans m1)
  refine hK.out _ _ (p1) (fun hHeld => ?_)
  clear hK K
  try simp only [Act.put, List.setIfInBounds_toArray, List.set_cons_zero, List.set_cons_succ]
  refine wpAnyH_pin hHeld (fun hHeld => ?_)
  refine wpAnyH_here 8 (v := ?_) rfl (by kernel_rfl) (by kernel_rfl) (by kernel_rfl) (fun _ _ _ h => h) (Or.inl ⟨by rfl, ?_⟩) hHeld ?_
  rotate_left
  · intro w hSw; subst hSw; go_simp; all_goals (with_reducible rfl)
  try simp only [Act.put, List.setIfInBounds_toArray, List.set_cons_zero, List.set_cons_succ]
  refine wpAnyH_here 9 (v := ?_) rfl (by kernel_rfl) (by kernel_rfl) (by kernel_rfl) (fun _ _ _ h => h) (Or.inl ⟨by rfl, ?_⟩) hHeld ?_
  rotate_left
  · intro w hSw; subst hSw; go_simp; all_goals (with_reducible rfl)
  try simp only [Act.put, List.setIfInBounds_toArray, List.set_cons_zero, List.set_cons_succ]
  refine wpAnyH_here 10 (v := ?_) rfl (by kernel_rfl) (by kernel_rfl) (by kernel_rfl) (fun _ _ _ h => h) (Or.inl ⟨by rfl, ?_⟩) hHeld ?_
  rotate_left
  · intro w hSw; subst hSw; go_simp; all_goals (with_reducible rfl)
  try simp only [Act.put, List.setIfInBounds_toArray, List.set_cons_zero, List.set_cons_succ]
  refine wpAnyH_done (by kernel_rfl) ?_ _
  go_wp2
  go_ret2
  have hgz : g < w.heap.size := hg
  have hO2 : Only [] w W2 := hO1.drew.trans (Only.of_below (S := []) hbel2) (by simp)
  have hz1 : w.heap.size ≤ W1.heap.size := by have := HQ.out; omega
  refine ⟨⟨v2, rfl, (hown2.keeps hO3 ?_).more hz1⟩, OPut.trans (.inl rfl) (hO2.more (by simp)) hP⟩
  intro x hx
  show x < W1.heap.size
  rcases List.mem_cons.1 hx with rfl | hx
  · omega
  · have := hr x (by simpa using hx)
    omega

theorem put_any (w : World) (base g : Nat) (r : Option Nat) (L : List Byte) (v : V4) (h : OW w base g r L) (hnn : -9223372036854775808 ≤ v.n ∧ v.n ≤ 9223372036854775807) (hb : Bs w base v.A v.b) (hbn : v.A = none → v.c = 0) (hbg : base ≤ g) (hbl : v.b.length ≤ 200) (hL : L.length < 500000) (hbase : base ≤ w.heap.size) :
    Calls Try.prog 10 #[.pointer (some ⟨g, 0, none⟩), val4 v] w fun e w' => (∃ vb, e = .returned (.tuple #[vb, .bool true]) ∧ Ow w' w.heap.size 5 vb (encV v)) ∧ OPut w base g r (L ++ encV v) w' := by
  by_cases h0 : v.k = 0
  · exact put_uint w base g r L v h h0 hnn hb hbn hbg hbl hL hbase
  · by_cases h2 : v.k = 2
    · exact put_blob w base g r L v h h2 hnn hb hbn hbg hbl hL hbase
    · exact put_int w base g r L v h ⟨h0, h2⟩ hnn hb hbn hbg hbl hL hbase
end Go.Proofs.Ythacjccdcmmhkaa
