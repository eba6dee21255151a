/-
  The Writer of package bits as one state; the walk of package packet's Encode.
-/
import Derived.Test.YtcmonalnhdodmaaPacW1
import Derived.Test.YtcmonalnhdodmaaBitsW1
import Derived.Test.YtcmonalnhdodmaaHand
namespace Go.Proofs.Ytcmonalnhdodmaa.Pac
open Go.RowKit

/-- block g is a Writer with the bits L, made behind w0; the blocks below B are as w0 had them -/
def WS (B : Nat) (w0 : World) (g : Nat) (L : List Bool) (w : World) : Prop := (∃ r, WAt w B g r L) ∧ B ≤ g ∧ Below B w0 w
theorem WS.new {B : Nat} {w0 w : World} (h : Below B w0 w) (hB : B ≤ w.heap.size) : WS B w0 w.heap.size [] (w.alloc (.cells #[.bool true, .slice none 0 0, .int .i64 0] 86)) :=
  ⟨⟨none, WAt_new w B⟩, hB, h.alloc hB _⟩
theorem WS.draws {B : Nat} {w0 w : World} {g : Nat} {L : List Bool} (h : WS B w0 g L w) : WS B w0 g L w.drew := by
  obtain ⟨⟨r, h1⟩, h2, h3⟩ := h
  exact ⟨⟨r, h1⟩, h2, h3.drew⟩
theorem WS.put {B : Nat} {w0 w : World} {g : Nat} {L : List Bool} (h : WS B w0 g L w) (x : Int) (X : Nat) (hx : x = (X : Int)) (y : Int) (k : Nat) (hy : y = (k : Int)) (hX : X < 18446744073709551616) (hk : k ≤ 64) (hL : L.length < 1000000) :
    Calls Try.prog 35 #[.pointer (some ⟨g, 0, none⟩), .int .u64 x, .int .i64 y] w fun e w' => e = .returned (.pointer (some ⟨g, 0, none⟩)) ∧ WS B w0 g (L ++ bitsOf X k) w' := by
  obtain ⟨⟨r, h1⟩, h2, h3⟩ := h
  subst hx hy
  have hlt := h1.lt
  have e : (BitVec.ofNat 64 X).toNat = X := by rw [BitVec.toNat_ofNat, Nat.mod_eq_of_lt (by omega)]
  have hp := put_any w B g r L (BitVec.ofNat 64 X) k h1 hk hL (by omega)
  rw [e] at hp
  refine hp.mono ?_
  rintro e w' ⟨rfl, r', h4, _, h5⟩
  refine ⟨rfl, ⟨r', h4⟩, h2, h3.trans (h5.below (by omega) fun x hx => ?_)⟩
  rcases List.mem_cons.1 hx with rfl | hx
  · exact h2
  · exact (h1.row x (by simpa using hx)).1
theorem WS.bytes {B : Nat} {w0 w : World} {g : Nat} {L : List Bool} (h : WS B w0 g L w) (hL : L.length < 1000000) :
    Calls Try.prog 37 #[.pointer (some ⟨g, 0, none⟩)] w fun e w' => ∃ v bs, e = .returned v ∧ Packs bs L ∧ Ow w' w.heap.size 5 v bs ∧ Below w.heap.size w w' := by
  obtain ⟨⟨r, h1⟩, _⟩ := h
  exact wbytes_any w B g r L h1 hL
theorem WS.size {B : Nat} {w0 w : World} {g : Nat} {L : List Bool} (h : WS B w0 g L w) : B < w.heap.size := by
  obtain ⟨⟨r, h1⟩, h2, _⟩ := h
  have := h1.lt
  omega

theorem to_u64 (X : Nat) (h : X < 1000000) : IntKind.u64.wrap (X : Int) = (X : Int) := by rw [IntKind.wrap_u64]; omega

set_option maxHeartbeats 1000000 in
theorem encode_no (com sec : Bool) (ap fl ct : Int) (a : Option Addr) (l : List Byte) (n c : Nat) (w : World) (hl : Hid (l.length = n)) (hb : Bs w w.heap.size a l) (hm : n ≤ maxLen) (hok : Pk.ok ⟨com, sec, ap, fl, ct, l⟩ = false) :
    Calls Try.prog 19 #[.agg #[.bool com, .bool sec, .int .i64 ap, .int .i64 fl, .int .i64 ct, .slice a n c]] w fun e w' => e = .returned (.tuple #[.slice none 0 0, .int .i64 1]) ∧ Below w.heap.size w w' := by
  have hv := valid_any com sec ap fl ct a l n c _ hl ((Bs.new hb (.cells #[.bool com, .bool sec, .int .i64 ap, .int .i64 fl, .int .i64 ct, .slice a n c] 56)).more (bel_new w _).size) hm
  rw [hok] at hv
  clear hok hl hb hm
  go_enter Try.func19, Try.ntmps19
  go_wp2_with fail
  refine hv.mono ?_
  rintro e w' ⟨rfl, hbe⟩
  go_wp2
  go_ret2
  exact ⟨rfl, (bel_new _ _).trans (hbe.mono (bel_new _ _).size)⟩

set_option maxHeartbeats 2000000 in
theorem encode_yes (com sec : Bool) (A F T K : Nat) (a : Option Addr) (l : List Byte) (c : Nat) (w : World) (hl : Hid (l.length = K + 1)) (hb : Bs w w.heap.size a l) (hn : a = none → c = 0) (hok : Pk.ok ⟨com, sec, A, F, T, l⟩ = true) (hA : A < 2048) (hF : F < 4) (hT : T < 16384) (hK : K < 4090) :
    Calls Try.prog 19 #[.agg #[.bool com, .bool sec, .int .i64 (A : Int), .int .i64 (F : Int), .int .i64 (T : Int), .slice a (K + 1) c]] w fun e w' => ∃ v, e = .returned (.tuple #[v, .int .i64 0]) ∧ Ow w' w.heap.size 5 v (hdr (hd1 com sec A) (hd2 F T) K ++ l) ∧ Below w.heap.size w w' := by
  have hv := valid_any com sec (A : Int) (F : Int) (T : Int) a l (K + 1) c _ hl ((Bs.new hb (.cells #[.bool com, .bool sec, .int .i64 (A : Int), .int .i64 (F : Int), .int .i64 (T : Int), .slice a (K + 1) c] 56)).more (bel_new w _).size) (by unfold maxLen; omega)
  rw [hok] at hv
  have hP0 := Cel.new w 56 #[.bool com, .bool sec, .int .i64 (A : Int), .int .i64 (F : Int), .int .i64 (T : Int), .slice a (K + 1) c]
  have k1 := to_u64 A (by omega)
  have k2 := to_u64 F (by omega)
  have k3 := to_u64 T (by omega)
  have k4 := to_u64 K (by omega)
  clear hok
  go_enter Try.func19, Try.ntmps19
  go_wp2_with fail
  refine hv.mono ?_
  rintro e w1 ⟨rfl, hbe⟩
  have hP := Cel.later hP0 hbe
  have bel1 := (bel_new w (.cells #[.bool com, .bool sec, .int .i64 (A : Int), .int .i64 (F : Int), .int .i64 (T : Int), .slice a (K + 1) c] 56)).trans (hbe.mono (bel_new w _).size)
  have hlt := hP.lt
  have c0 := hP.cell 0
  have c1 := hP.cell 1
  have c2 := hP.cell 2
  have c3 := hP.cell 3
  have c4 := hP.cell 4
  have c5 := hP.cell 5
  simp at c0 c1 c2 c3 c4 c5
  clear hv hP0 hP hbe
  go_wp2_with fail
  refine wp_region_held_drew (S := (fun w' => w'.cell? ⟨w.heap.size, 0, none⟩ = some (.bool com) ∧ w'.cell? ⟨w.heap.size, 1, none⟩ = some (.bool sec))) (by kernel_rfl) (⟨c0, c1⟩) (fun hHeld => ?_)
  refine wpAnyH_here 2 (v := ?_) rfl (by kernel_rfl) (by kernel_rfl) (by kernel_rfl) (fun _ _ _ h => h) (Or.inl ⟨by rfl, ?_⟩) hHeld ?_
  rotate_left
  · intro w hSw; (try dsimp only at hSw); go_simp; all_goals (with_reducible rfl)
  try simp only [Act.put, List.setIfInBounds_toArray, List.set_cons_zero, List.set_cons_succ]
  refine wpAnyH_here 3 (v := ?_) rfl (by kernel_rfl) (by kernel_rfl) (by kernel_rfl) (fun _ _ _ h => h) (Or.inl ⟨by rfl, ?_⟩) hHeld ?_
  rotate_left
  · intro w hSw; (try dsimp only at hSw); go_simp; all_goals (with_reducible rfl)
  try simp only [Act.put, List.setIfInBounds_toArray, List.set_cons_zero, List.set_cons_succ]
  refine wpAnyH_here 6 (v := ?_) rfl (by kernel_rfl) (by kernel_rfl) (by kernel_rfl) (fun _ _ _ h => h) (Or.inl ⟨by rfl, ?_⟩) hHeld ?_
  rotate_left
  · intro w hSw; (try dsimp only at hSw); go_simp; all_goals (with_reducible rfl)
  try simp only [Act.put, List.setIfInBounds_toArray, List.set_cons_zero, List.set_cons_succ]
  refine wpAnyH_here 7 (v := ?_) rfl (by kernel_rfl) (by kernel_rfl) (by kernel_rfl) (fun _ _ _ h => h) (Or.inl ⟨by rfl, ?_⟩) hHeld ?_
  rotate_left
  · intro w hSw; (try dsimp only at hSw); go_simp; all_goals (with_reducible rfl)
  try simp only [Act.put, List.setIfInBounds_toArray, List.set_cons_zero, List.set_cons_succ]
  refine wpAnyH_alone 0 rfl (by kernel_rfl) (fun K hK => ?_)
  go_simp
  (go_at_call 34; refine (newWriter_any _).mono ?_; rintro e W0 ⟨rfl, hW0⟩; have s0 : WS w1.heap.size w1 w1.heap.size [] W0 := by rw [← hW0]; exact WS.new (Below.refl _ _).drew (Nat.le_refl _)); clear hW0; have HB := s0.2.2
  refine hK.out _ _ (⟨(HB.cell (p := ⟨w.heap.size, 0, none⟩) hlt).trans c0, (HB.cell (p := ⟨w.heap.size, 1, none⟩) hlt).trans c1⟩) (fun hHeld => ?_)
  clear hK K
  try simp only [Act.put, List.setIfInBounds_toArray, List.set_cons_zero, List.set_cons_succ]
  refine wpAnyH_alone 1 rfl (by kernel_rfl) (fun K hK => ?_)
  go_simp
  (go_at_call 35; refine (s0.put (0) (0) rfl 3 3 rfl (by omega) (by omega) (by simp)).mono ?_; rintro e W1 ⟨rfl, s1⟩; have HB := s1.2.2)
  refine hK.out _ _ (⟨(HB.cell (p := ⟨w.heap.size, 0, none⟩) hlt).trans c0, (HB.cell (p := ⟨w.heap.size, 1, none⟩) hlt).trans c1⟩) (fun hHeld => ?_)
  clear hK K
  try simp only [Act.put, List.setIfInBounds_toArray, List.set_cons_zero, List.set_cons_succ]
  refine wpAnyH_alone 4 rfl (by kernel_rfl) (fun K hK => ?_)
  go_simp
  (go_at_call 36; refine (bit_any _ _).mono ?_; rintro e W2 ⟨rfl, rfl⟩)
  refine hK.out _ _ (⟨(HB.cell (p := ⟨w.heap.size, 0, none⟩) hlt).trans c0, (HB.cell (p := ⟨w.heap.size, 1, none⟩) hlt).trans c1⟩) (fun hHeld => ?_)
  clear hK K
  try simp only [Act.put, List.setIfInBounds_toArray, List.set_cons_zero, List.set_cons_succ]
  refine wpAnyH_alone 5 rfl (by kernel_rfl) (fun K hK => ?_)
  go_simp
  (go_at_call 35; refine (s1.put ((nb com : Nat)) (nb com) rfl 1 1 rfl (by have := nb_lt com; have := nb_lt sec; omega) (by omega) (by simp [bitsOf_len])).mono ?_; rintro e W3 ⟨rfl, s3⟩; have HB := s3.2.2)
  refine hK.out _ _ (⟨(HB.cell (p := ⟨w.heap.size, 0, none⟩) hlt).trans c0, (HB.cell (p := ⟨w.heap.size, 1, none⟩) hlt).trans c1⟩) (fun hHeld => ?_)
  clear hK K
  try simp only [Act.put, List.setIfInBounds_toArray, List.set_cons_zero, List.set_cons_succ]
  refine wpAnyH_alone 8 rfl (by kernel_rfl) (fun K hK => ?_)
  go_simp
  (go_at_call 36; refine (bit_any _ _).mono ?_; rintro e W4 ⟨rfl, rfl⟩)
  refine hK.out _ _ (⟨(HB.cell (p := ⟨w.heap.size, 0, none⟩) hlt).trans c0, (HB.cell (p := ⟨w.heap.size, 1, none⟩) hlt).trans c1⟩) (fun hHeld => ?_)
  clear hK K
  try simp only [Act.put, List.setIfInBounds_toArray, List.set_cons_zero, List.set_cons_succ]
  refine wpAnyH_alone 9 rfl (by kernel_rfl) (fun K hK => ?_)
  go_simp
  (go_at_call 35; refine (s3.put ((nb sec : Nat)) (nb sec) rfl 1 1 rfl (by have := nb_lt com; have := nb_lt sec; omega) (by omega) (by simp [bitsOf_len])).mono ?_; rintro e W5 ⟨rfl, s5⟩; have HB := s5.2.2)
  refine hK.out _ _ (⟨(HB.cell (p := ⟨w.heap.size, 0, none⟩) hlt).trans c0, (HB.cell (p := ⟨w.heap.size, 1, none⟩) hlt).trans c1⟩) (fun hHeld => ?_)
  clear hK K
  try simp only [Act.put, List.setIfInBounds_toArray, List.set_cons_zero, List.set_cons_succ]
  refine wpAnyH_here 10 (v := ?_) rfl (by kernel_rfl) (by kernel_rfl) (by kernel_rfl) (fun _ _ _ h => h) (Or.inl ⟨by rfl, ?_⟩) hHeld ?_
  rotate_left
  · intro w hSw; (try dsimp only at hSw); go_simp; all_goals (with_reducible rfl)
  try simp only [Act.put, List.setIfInBounds_toArray, List.set_cons_zero, List.set_cons_succ]
  refine wpAnyH_done (by kernel_rfl) ?_ _
  clear c0 c1
  have d2 := (HB.cell (p := ⟨w.heap.size, 2, none⟩) hlt).trans c2
  have d3 := (HB.cell (p := ⟨w.heap.size, 3, none⟩) hlt).trans c3
  have d4 := (HB.cell (p := ⟨w.heap.size, 4, none⟩) hlt).trans c4
  go_wp2_with fail
  refine wp_region_held_drew (S := (fun w' => w'.cell? ⟨w.heap.size, 2, none⟩ = some (.int .i64 (A : Int)) ∧ w'.cell? ⟨w.heap.size, 3, none⟩ = some (.int .i64 (F : Int)) ∧ w'.cell? ⟨w.heap.size, 4, none⟩ = some (.int .i64 (T : Int)))) (by kernel_rfl) (⟨d2, d3, d4⟩) (fun hHeld => ?_)
  refine wpAnyH_here 0 (v := ?_) rfl (by kernel_rfl) (by kernel_rfl) (by kernel_rfl) (fun _ _ _ h => h) (Or.inl ⟨by rfl, ?_⟩) hHeld ?_
  rotate_left
  · intro w hSw; (try dsimp only at hSw); go_simp; all_goals (with_reducible rfl)
  try simp only [Act.put, List.setIfInBounds_toArray, List.set_cons_zero, List.set_cons_succ]
  refine wpAnyH_here 1 (v := ?_) rfl (by kernel_rfl) (by kernel_rfl) (by kernel_rfl) (fun _ _ _ h => h) (Or.inl ⟨by rfl, ?_⟩) hHeld ?_
  rotate_left
  · intro w hSw; (try dsimp only at hSw); go_simp; all_goals (with_reducible rfl)
  try simp only [Act.put, List.setIfInBounds_toArray, List.set_cons_zero, List.set_cons_succ]
  refine wpAnyH_here 2 (v := ?_) rfl (by kernel_rfl) (by kernel_rfl) (by kernel_rfl) (fun _ _ _ h => h) (Or.inl ⟨by rfl, ?_⟩) hHeld ?_
  rotate_left
  · intro w hSw; (try dsimp only at hSw); go_simp; all_goals (with_reducible rfl)
  try simp only [Act.put, List.setIfInBounds_toArray, List.set_cons_zero, List.set_cons_succ]
  refine wpAnyH_here 3 (v := ?_) rfl (by kernel_rfl) (by kernel_rfl) (by kernel_rfl) (fun _ _ _ h => h) (Or.inl ⟨by rfl, ?_⟩) hHeld ?_
  rotate_left
  · intro w hSw; (try dsimp only at hSw); go_simp; all_goals (with_reducible rfl)
  try simp only [Act.put, List.setIfInBounds_toArray, List.set_cons_zero, List.set_cons_succ]
  refine wpAnyH_here 5 (v := ?_) rfl (by kernel_rfl) (by kernel_rfl) (by kernel_rfl) (fun _ _ _ h => h) (Or.inl ⟨by rfl, ?_⟩) hHeld ?_
  rotate_left
  · intro w hSw; (try dsimp only at hSw); go_simp; all_goals (with_reducible rfl)
  try simp only [Act.put, List.setIfInBounds_toArray, List.set_cons_zero, List.set_cons_succ]
  refine wpAnyH_here 6 (v := ?_) rfl (by kernel_rfl) (by kernel_rfl) (by kernel_rfl) (fun _ _ _ h => h) (Or.inl ⟨by rfl, ?_⟩) hHeld ?_
  rotate_left
  · intro w hSw; (try dsimp only at hSw); go_simp; all_goals (with_reducible rfl)
  try simp only [Act.put, List.setIfInBounds_toArray, List.set_cons_zero, List.set_cons_succ]
  refine wpAnyH_here 7 (v := ?_) rfl (by kernel_rfl) (by kernel_rfl) (by kernel_rfl) (fun _ _ _ h => h) (Or.inl ⟨by rfl, ?_⟩) hHeld ?_
  rotate_left
  · intro w hSw; (try dsimp only at hSw); go_simp; all_goals (with_reducible rfl)
  try simp only [Act.put, List.setIfInBounds_toArray, List.set_cons_zero, List.set_cons_succ]
  refine wpAnyH_here 9 (v := ?_) rfl (by kernel_rfl) (by kernel_rfl) (by kernel_rfl) (fun _ _ _ h => h) (Or.inl ⟨by rfl, ?_⟩) hHeld ?_
  rotate_left
  · intro w hSw; (try dsimp only at hSw); go_simp; all_goals (with_reducible rfl)
  try simp only [Act.put, List.setIfInBounds_toArray, List.set_cons_zero, List.set_cons_succ]
  refine wpAnyH_here 10 (v := ?_) rfl (by kernel_rfl) (by kernel_rfl) (by kernel_rfl) (fun _ _ _ h => h) (Or.inl ⟨by rfl, ?_⟩) hHeld ?_
  rotate_left
  · intro w hSw; (try dsimp only at hSw); go_simp; all_goals (with_reducible rfl)
  try simp only [Act.put, List.setIfInBounds_toArray, List.set_cons_zero, List.set_cons_succ]
  refine wpAnyH_here 11 (v := ?_) rfl (by kernel_rfl) (by kernel_rfl) (by kernel_rfl) (fun _ _ _ h => h) (Or.inl ⟨by rfl, ?_⟩) hHeld ?_
  rotate_left
  · intro w hSw; (try dsimp only at hSw); go_simp; all_goals (with_reducible rfl)
  try simp only [Act.put, List.setIfInBounds_toArray, List.set_cons_zero, List.set_cons_succ]
  refine wpAnyH_alone 4 rfl (by kernel_rfl) (fun K hK => ?_)
  go_simp
  (go_at_call 35; refine (s5.draws.put ((A : Int)) (A) rfl 11 11 rfl (by omega) (by omega) (by simp [bitsOf_len])).mono ?_; rintro e W6 ⟨rfl, s6⟩; have HB := s6.2.2)
  refine hK.out _ _ (⟨(HB.cell (p := ⟨w.heap.size, 2, none⟩) hlt).trans c2, (HB.cell (p := ⟨w.heap.size, 3, none⟩) hlt).trans c3, (HB.cell (p := ⟨w.heap.size, 4, none⟩) hlt).trans c4⟩) (fun hHeld => ?_)
  clear hK K
  try simp only [Act.put, List.setIfInBounds_toArray, List.set_cons_zero, List.set_cons_succ]
  refine wpAnyH_alone 8 rfl (by kernel_rfl) (fun K hK => ?_)
  go_simp
  (go_at_call 35; refine (s6.put ((F : Int)) (F) rfl 2 2 rfl (by omega) (by omega) (by simp [bitsOf_len])).mono ?_; rintro e W7 ⟨rfl, s7⟩; have HB := s7.2.2)
  refine hK.out _ _ (⟨(HB.cell (p := ⟨w.heap.size, 2, none⟩) hlt).trans c2, (HB.cell (p := ⟨w.heap.size, 3, none⟩) hlt).trans c3, (HB.cell (p := ⟨w.heap.size, 4, none⟩) hlt).trans c4⟩) (fun hHeld => ?_)
  clear hK K
  try simp only [Act.put, List.setIfInBounds_toArray, List.set_cons_zero, List.set_cons_succ]
  refine wpAnyH_alone 12 rfl (by kernel_rfl) (fun K hK => ?_)
  go_simp
  (go_at_call 35; refine (s7.put ((T : Int)) (T) rfl 14 14 rfl (by omega) (by omega) (by simp [bitsOf_len])).mono ?_; rintro e W8 ⟨rfl, s8⟩; have HB := s8.2.2)
  refine hK.out _ _ (⟨(HB.cell (p := ⟨w.heap.size, 2, none⟩) hlt).trans c2, (HB.cell (p := ⟨w.heap.size, 3, none⟩) hlt).trans c3, (HB.cell (p := ⟨w.heap.size, 4, none⟩) hlt).trans c4⟩) (fun hHeld => ?_)
  clear hK K
  try simp only [Act.put, List.setIfInBounds_toArray, List.set_cons_zero, List.set_cons_succ]
  refine wpAnyH_done (by kernel_rfl) ?_ _
  clear d2 d3 d4 c2 c3 c4
  have d5 := (HB.cell (p := ⟨w.heap.size, 5, none⟩) hlt).trans c5
  go_wp2_with fail
  refine (s8.put (K : Int) K rfl 16 16 rfl (by omega) (by omega) (by simp [bitsOf_len])).mono ?_
  rintro e W9 ⟨rfl, s9⟩
  have HB := s9.2.2
  clear d5
  have d5 := (HB.cell (p := ⟨w.heap.size, 5, none⟩) hlt).trans c5
  go_wp2_with fail
  refine wp_region_held_drew (S := (fun w' => w'.cell? ⟨w.heap.size, 5, none⟩ = some (.slice a (K + 1) c))) (by kernel_rfl) (d5) (fun hHeld => ?_)
  refine wpAnyH_here 0 (v := ?_) rfl (by kernel_rfl) (by kernel_rfl) (by kernel_rfl) (fun _ _ _ h => h) (Or.inl ⟨by rfl, ?_⟩) hHeld ?_
  rotate_left
  · intro w hSw; (try dsimp only at hSw); go_simp; all_goals (with_reducible rfl)
  try simp only [Act.put, List.setIfInBounds_toArray, List.set_cons_zero, List.set_cons_succ]
  refine wpAnyH_here 2 (v := ?_) rfl (by kernel_rfl) (by kernel_rfl) (by kernel_rfl) (fun _ _ _ h => h) (Or.inl ⟨by rfl, ?_⟩) hHeld ?_
  rotate_left
  · intro w hSw; (try dsimp only at hSw); go_simp; all_goals (with_reducible rfl)
  try simp only [Act.put, List.setIfInBounds_toArray, List.set_cons_zero, List.set_cons_succ]
  refine wpAnyH_here 3 (v := ?_) rfl (by kernel_rfl) (by kernel_rfl) (by kernel_rfl) (fun _ _ _ h => h) (Or.inl ⟨by rfl, ?_⟩) hHeld ?_
  rotate_left
  · intro w hSw; (try dsimp only at hSw); go_simp; all_goals (with_reducible rfl)
  try simp only [Act.put, List.setIfInBounds_toArray, List.set_cons_zero, List.set_cons_succ]
  refine wpAnyH_alone 1 rfl (by kernel_rfl) (fun K hK => ?_)
  go_simp
  (go_at_call 37; refine (s9.draws.bytes (by simp [bitsOf_len])).mono ?_; rintro e W10 ⟨v, bs, rfl, hpk, hown, hbw⟩; obtain ⟨q1, q2, rfl, _⟩ := hown.reads_len (n := bs.length) rfl; have HB2 := HB.drew.trans (hbw.mono (by have := s9.size; simp; omega)))
  refine hK.out _ _ ((HB2.cell (p := ⟨w.heap.size, 5, none⟩) hlt).trans c5) (fun hHeld => ?_)
  clear hK K
  try simp only [Act.put, List.setIfInBounds_toArray, List.set_cons_zero, List.set_cons_succ]
  have hbs := head_of com sec A F T K hA hF hT (by omega) hpk
  have hbl : Bs W10 w.heap.size a l := hb.below (bel1.trans (HB2.mono (Nat.le_of_lt hlt)))
  have hz10 : w.heap.size ≤ W10.heap.size := Nat.le_trans (Nat.le_of_lt hlt) HB2.size
  have hz9 : w1.heap.size ≤ W9.heap.size := Nat.le_of_lt s9.size
  refine wpAnyH_alone 4 rfl (by kernel_rfl) (fun K' hK' => ?_)
  refine step_app _ is_bytes rfl (.tmp 39) (.tmp 41) rfl (m := bs) rfl (hown.more (b' := w1.heap.size) hz9) (l := l) (A := a) (c := c) (by rw [hl.out]; rfl) hbl hn (by rw [hbs, hl.out, hdr_len]; omega) (Nat.le_trans hz9 hbw.size) ?_
  intro v2 W11 hown2 hgr
  have HB3 := HB2.grown hgr (Nat.le_trans hz9 hbw.size) (fun i hi => Nat.le_trans hz9 (hown.base_le i hi))
  refine hK'.out _ _ ((HB3.cell (p := ⟨w.heap.size, 5, none⟩) hlt).trans c5) (fun hHeld => ?_)
  clear hK' K'
  try simp only [Act.put, List.setIfInBounds_toArray, List.set_cons_zero, List.set_cons_succ]
  refine wpAnyH_here 5 (v := ?_) rfl (by kernel_rfl) (by kernel_rfl) (by kernel_rfl) (fun _ _ _ h => h) (Or.inl ⟨by rfl, ?_⟩) hHeld ?_
  rotate_left
  · intro w hSw; (try dsimp only at hSw); go_simp; all_goals (with_reducible rfl)
  try simp only [Act.put, List.setIfInBounds_toArray, List.set_cons_zero, List.set_cons_succ]
  refine wpAnyH_here 6 (v := ?_) rfl (by kernel_rfl) (by kernel_rfl) (by kernel_rfl) (fun _ _ _ h => h) (Or.inl ⟨by rfl, ?_⟩) hHeld ?_
  rotate_left
  · intro w hSw; (try dsimp only at hSw); go_simp; all_goals (with_reducible rfl)
  try simp only [Act.put, List.setIfInBounds_toArray, List.set_cons_zero, List.set_cons_succ]
  refine wpAnyH_done (by kernel_rfl) ?_ _
  go_wp2
  go_ret2
  exact ⟨v2, rfl, by rw [← hbs]; exact hown2.more (by omega), bel1.trans (HB3.mono (Nat.le_of_lt hlt))⟩

theorem Ow_nil (w : World) (base : Nat) : Ow w base 5 (.slice none 0 0) [] := World.ownsRow_nil _ _ _ _

theorem encode_any (com sec : Bool) (ap fl ct : Int) (a : Option Addr) (l : List Byte) (n c : Nat) (w : World) (hl : Hid (l.length = n)) (hb : Bs w w.heap.size a l) (hn : a = none → c = 0) (hm : n ≤ maxLen) :
    Calls Try.prog 19 #[.agg #[.bool com, .bool sec, .int .i64 ap, .int .i64 fl, .int .i64 ct, .slice a n c]] w fun e w' => ∃ v, e = .returned (.tuple #[v, .int .i64 (Pk.err ⟨com, sec, ap, fl, ct, l⟩)]) ∧ Ow w' w.heap.size 5 v (Pk.enc ⟨com, sec, ap, fl, ct, l⟩) ∧ Below w.heap.size w w' := by
  cases hok : Pk.ok ⟨com, sec, ap, fl, ct, l⟩ with
  | false =>
    rw [Pk.enc_no hok, Pk.err_no hok]
    exact (encode_no com sec ap fl ct a l n c w hl hb hm hok).mono fun e w' ⟨h1, h2⟩ => ⟨_, h1, Ow_nil _ _, h2⟩
  | true =>
    rw [Pk.enc_yes hok, Pk.err_yes hok]
    obtain ⟨h1, h2, h3, h4, h5, h6, h7, h8⟩ := Pk.ok_fits hok
    simp only at h1 h2 h3 h4 h5 h6 h7 h8
    have hln := hl.out
    obtain ⟨A, rfl⟩ := Int.eq_ofNat_of_zero_le h1
    obtain ⟨F, rfl⟩ := Int.eq_ofNat_of_zero_le h3
    obtain ⟨T, rfl⟩ := Int.eq_ofNat_of_zero_le h5
    obtain ⟨K, rfl⟩ : ∃ K, n = K + 1 := ⟨n - 1, by omega⟩
    have := encode_yes com sec A F T K a l c w hl hb hn hok (by omega) (by omega) (by omega) (by omega)
    unfold Pk.head
    simp only [Int.toNat_natCast, hln, Nat.add_sub_cancel]
    exact this
end Go.Proofs.Ytcmonalnhdodmaa.Pac
