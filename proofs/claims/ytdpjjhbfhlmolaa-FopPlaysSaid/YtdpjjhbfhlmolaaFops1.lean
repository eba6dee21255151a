/-
  Law17b Law17c FopStop Law17d Law17e Law17f, one after another.
-/
import Derived.Test.YtdpjjhbfhlmolaaTops3
import Derived.Deep.LoopGhost
import Derived.Deep.RegionLaw

/-
  The example of chapter 17 (alive).
-/
namespace Go.Proofs.Ytdpjjhbfhlmolaa.Fop
open Go.RowKit
open Pac (bel_new Cel.later)
open Tcf (Fr yunlock_any ysetNext_yes ysame_any)
open Strs (So)

set_option maxRecDepth 100000 in
set_option maxHeartbeats 8000000 in
theorem alive17_any (w : World) : Calls Try.prog 9 #[] w fun e w' => e = .returned (.bool true) ∧ Below w.heap.size w w' := by
  have kc := fun (w : World) (C : Array Value) (n c : Nat) => Lib.run_convert_bytes_const (P := Try.prog) w 33 5 C n c Try.underlying33 Try.underlying5
  go_enter Try.func9, Try.ntmps9
  go_wp2_with fail
  refine (PO.new 5 1 2 10 3 w (K' := 5) (H' := 1) (W' := 2) (T' := 10) (R' := 3) (by decide) (by decide) (by decide) (by decide) (by decide)).mono ?_
  rintro e w1 ⟨g, rfl, p⟩
  obtain ⟨W2, hW2⟩ : ∃ X, X = w1.alloc (.cells #[.int .u8 65] 5 (1, 2)) := ⟨_, rfl⟩
  have q := p.below (w' := W2) (by rw [hW2]; exact bel_new _ _)
  have rd : Rd W2 (some ⟨w1.heap.size, 0, none⟩) [65#8] 1 1 := by rw [hW2]; exact ⟨rfl, Bs_new _ _ _ _ (by simp) _ (by simp) _, (fun h => nomatch h), by decide, by decide⟩
  clear p
  go_wp2_with fail
  rw [← hW2]
  clear hW2
  refine (q.send_ rd (E := 0) (s' := ⟨[[65#8]], 0, 0, 0, 1, 0, 0, 0, 0⟩) (by decide)).mono ?_
  rintro e w2 ⟨rfl, ⟨O2, p, _⟩, _⟩
  clear q rd
  obtain ⟨W3, hW3⟩ : ∃ X, X = w2.alloc (.cells #[.int .u8 66] 5 (1, 2)) := ⟨_, rfl⟩
  have q := p.below (w' := W3) (by rw [hW3]; exact bel_new _ _)
  have rd : Rd W3 (some ⟨w2.heap.size, 0, none⟩) [66#8] 1 1 := by rw [hW3]; exact ⟨rfl, Bs_new _ _ _ _ (by simp) _ (by simp) _, (fun h => nomatch h), by decide, by decide⟩
  clear p
  go_wp2_with fail
  rw [← hW3]
  clear hW3
  refine (q.send_ rd (E := 0) (s' := ⟨[[65#8], [66#8]], 0, 0, 0, 1, 0, 0, 0, 0⟩) (by decide)).mono ?_
  rintro e w3 ⟨rfl, ⟨O3, p, _⟩, _⟩
  clear q rd
  obtain ⟨W4, hW4⟩ : ∃ X, X = w3.alloc (.cells #[.int .u8 67] 5 (1, 2)) := ⟨_, rfl⟩
  have q := p.below (w' := W4) (by rw [hW4]; exact bel_new _ _)
  have rd : Rd W4 (some ⟨w3.heap.size, 0, none⟩) [67#8] 1 1 := by rw [hW4]; exact ⟨rfl, Bs_new _ _ _ _ (by simp) _ (by simp) _, (fun h => nomatch h), by decide, by decide⟩
  clear p
  go_wp2_with fail
  rw [← hW4]
  clear hW4
  refine (q.send_ rd (E := 0) (s' := ⟨[[65#8], [66#8], [67#8]], 0, 0, 0, 1, 0, 0, 0, 0⟩) (by decide)).mono ?_
  rintro e w4 ⟨rfl, ⟨O4, p, _⟩, _⟩
  clear q rd
  go_wp2_with fail
  refine (p.next_ 0 (byp := false) (con := false) (cr := 5) (ch := 1) (sq := 0) (d := [65#8]) (ok := true) (s' := ⟨[[65#8], [66#8], [67#8]], 1, 1, 0, 1, 0, 0, 0, 0⟩) (by decide) (m := 1) rfl).mono ?_
  rintro e w5 ⟨⟨A5, c5, rfl, r, hnew⟩, q, k⟩
  have kp := p.kp1 k
  clear hnew
  obtain ⟨W5, hW5⟩ : ∃ X, X = w5.alloc (.cells #[.bool false, .bool false, .int .i64 5, .int .i64 1, .int .i64 0, .slice A5 1 c5] 43) := ⟨_, rfl⟩
  have bn : Below w5.heap.size w5 W5 := by rw [hW5]; exact bel_new _ _
  clear p kp k
  have p := q.below bn
  clear q
  have La : Cel W5 w5.heap.size 43 #[.bool false, .bool false, .int .i64 5, .int .i64 1, .int .i64 0, .slice A5 1 c5] := by rw [hW5]; exact Cel.new _ _ _
  clear bn r
  go_wp2_with fail
  rw [← hW5]
  clear hW5
  refine (p.next_ 0 (byp := false) (con := false) (cr := 5) (ch := 1) (sq := 1) (d := [66#8]) (ok := true) (s' := ⟨[[65#8], [66#8], [67#8]], 2, 2, 0, 1, 0, 0, 0, 0⟩) (by decide) (m := 1) rfl).mono ?_
  rintro e w6 ⟨⟨A6, c6, rfl, r, hnew⟩, q, k⟩
  have kp := p.kp1 k
  replace La := kp _ _ _ La (by decide) (by decide)
  obtain ⟨bb, rfl, hnb⟩ := hnew rfl rfl
  have ltB : ∀ x ∈ g :: O4.toList, x < bb := fun x hx => Nat.lt_of_lt_of_le (p.lt x hx).2 hnb
  clear hnb
  obtain ⟨W6, hW6⟩ : ∃ X, X = w6.alloc (.cells #[.bool false, .bool false, .int .i64 5, .int .i64 1, .int .i64 1, .slice (some ⟨bb, 0, none⟩) 1 c6] 43) := ⟨_, rfl⟩
  have bn : Below w6.heap.size w6 W6 := by rw [hW6]; exact bel_new _ _
  clear p kp k
  have p := q.below bn
  clear q
  replace La := Cel.later La bn
  have Lb : Cel W6 w6.heap.size 43 #[.bool false, .bool false, .int .i64 5, .int .i64 1, .int .i64 1, .slice (some ⟨bb, 0, none⟩) 1 c6] := by rw [hW6]; exact Cel.new _ _ _
  have rdB := Rd.later r bn
  clear bn r
  go_wp2_with fail
  rw [← hW6]
  clear hW6
  refine (p.next_ 0 (byp := false) (con := false) (cr := 0) (ch := 0) (sq := 0) (d := []) (ok := false) (s' := ⟨[[65#8], [66#8], [67#8]], 2, 2, 0, 1, 0, 0, 0, 0⟩) (by decide) (m := 0) rfl).mono ?_
  rintro e w7 ⟨⟨A7, c7, rfl, r, hnew⟩, q, k⟩
  have kp := p.kp1 k
  replace La := kp _ _ _ La (by decide) (by decide)
  replace Lb := kp _ _ _ Lb (by decide) (by decide)
  replace rdB := p.rd rdB k
  clear hnew
  obtain ⟨W7, hW7⟩ : ∃ X, X = w7.alloc (.cells #[.bool false, .bool false, .int .i64 0, .int .i64 0, .int .i64 0, .slice A7 0 c7] 43) := ⟨_, rfl⟩
  have bn : Below w7.heap.size w7 W7 := by rw [hW7]; exact bel_new _ _
  clear p kp k
  have p := q.below bn
  clear q
  replace La := Cel.later La bn
  replace Lb := Cel.later Lb bn
  replace rdB := Rd.later rdB bn
  clear bn r
  go_wp2_with fail
  rw [← hW7]
  clear hW7
  refine (word_any 1 _).mono ?_
  rintro e w8 ⟨rfl, bn⟩
  have q := p.below bn
  clear p
  replace La := Cel.later La bn
  replace Lb := Cel.later Lb bn
  replace rdB := Rd.later rdB bn
  clear bn
  have p := q
  clear q
  go_wp2_with fail
  refine (p.report_ 1 false false false 0 1 3 (E := 0) (s' := ⟨[[66#8], [67#8]], 1, 1, 1, 1, 0, 0, 3, 3⟩) (by decide) (by decide)).mono ?_
  rintro e w9 ⟨rfl, q, k⟩
  have kp := p.kp k
  replace La := kp _ _ _ La (by decide) (by decide)
  replace Lb := kp _ _ _ Lb (by decide) (by decide)
  replace rdB := rd_only rdB k ltB
  clear p kp k
  have p := q
  clear q
  go_wp2_with fail
  refine (p.next_ 3 (byp := false) (con := false) (cr := 5) (ch := 1) (sq := 2) (d := [67#8]) (ok := true) (s' := ⟨[[66#8], [67#8]], 2, 2, 1, 1, 0, 0, 3, 3⟩) (by decide) (m := 1) rfl).mono ?_
  rintro e w10 ⟨⟨A10, c10, rfl, r, hnew⟩, q, k⟩
  have kp := p.kp1 k
  replace La := kp _ _ _ La (by decide) (by decide)
  replace Lb := kp _ _ _ Lb (by decide) (by decide)
  replace rdB := p.rd rdB k
  clear hnew
  obtain ⟨W10, hW10⟩ : ∃ X, X = w10.alloc (.cells #[.bool false, .bool false, .int .i64 5, .int .i64 1, .int .i64 2, .slice A10 1 c10] 43) := ⟨_, rfl⟩
  have bn : Below w10.heap.size w10 W10 := by rw [hW10]; exact bel_new _ _
  clear p kp k
  have p := q.below bn
  clear q
  replace La := Cel.later La bn
  replace Lb := Cel.later Lb bn
  replace rdB := Rd.later rdB bn
  have Lc : Cel W10 w10.heap.size 43 #[.bool false, .bool false, .int .i64 5, .int .i64 1, .int .i64 2, .slice A10 1 c10] := by rw [hW10]; exact Cel.new _ _ _
  clear bn r
  go_wp2_with fail
  rw [← hW10]
  clear hW10
  refine (p.next_ 12 (byp := false) (con := false) (cr := 0) (ch := 0) (sq := 0) (d := []) (ok := false) (s' := ⟨[[66#8], [67#8]], 2, 2, 1, 1, 0, 0, 3, 12⟩) (by decide) (m := 0) rfl).mono ?_
  rintro e w11 ⟨⟨A11, c11, rfl, r, hnew⟩, q, k⟩
  have kp := p.kp1 k
  replace La := kp _ _ _ La (by decide) (by decide)
  replace Lb := kp _ _ _ Lb (by decide) (by decide)
  replace rdB := p.rd rdB k
  replace Lc := kp _ _ _ Lc (by decide) (by decide)
  clear hnew
  obtain ⟨W11, hW11⟩ : ∃ X, X = w11.alloc (.cells #[.bool false, .bool false, .int .i64 0, .int .i64 0, .int .i64 0, .slice A11 0 c11] 43) := ⟨_, rfl⟩
  have bn : Below w11.heap.size w11 W11 := by rw [hW11]; exact bel_new _ _
  clear p kp k
  have p := q.below bn
  clear q
  replace La := Cel.later La bn
  replace Lb := Cel.later Lb bn
  replace rdB := Rd.later rdB bn
  replace Lc := Cel.later Lc bn
  clear bn r
  go_wp2_with fail
  rw [← hW11]
  clear hW11
  refine (p.next_ 13 (byp := false) (con := false) (cr := 5) (ch := 1) (sq := 1) (d := [66#8]) (ok := true) (s' := ⟨[[66#8], [67#8]], 1, 2, 1, 1, 0, 1, 13, 13⟩) (by decide) (m := 1) rfl).mono ?_
  rintro e w12 ⟨⟨A12, c12, rfl, r, hnew⟩, q, k⟩
  have kp := p.kp1 k
  replace La := kp _ _ _ La (by decide) (by decide)
  replace Lb := kp _ _ _ Lb (by decide) (by decide)
  replace rdB := p.rd rdB k
  replace Lc := kp _ _ _ Lc (by decide) (by decide)
  clear hnew
  obtain ⟨W12, hW12⟩ : ∃ X, X = w12.alloc (.cells #[.bool false, .bool false, .int .i64 5, .int .i64 1, .int .i64 1, .slice A12 1 c12] 43) := ⟨_, rfl⟩
  have bn : Below w12.heap.size w12 W12 := by rw [hW12]; exact bel_new _ _
  clear p kp k
  have p := q.below bn
  clear q
  replace La := Cel.later La bn
  replace Lb := Cel.later Lb bn
  replace rdB := Rd.later rdB bn
  replace Lc := Cel.later Lc bn
  have Ld : Cel W12 w12.heap.size 43 #[.bool false, .bool false, .int .i64 5, .int .i64 1, .int .i64 1, .slice A12 1 c12] := by rw [hW12]; exact Cel.new _ _ _
  clear bn r
  go_wp2_with fail
  rw [← hW12]
  clear hW12
  refine (p.report_ 1 true false false 0 0 14 (E := 14) (s' := ⟨[[66#8], [67#8]], 1, 2, 1, 3, 0, 1, 13, 14⟩) (by decide) (by decide)).mono ?_
  rintro e w13 ⟨rfl, q, k⟩
  have kp := p.kp k
  replace La := kp _ _ _ La (by decide) (by decide)
  replace Lb := kp _ _ _ Lb (by decide) (by decide)
  replace rdB := rd_only rdB k ltB
  replace Lc := kp _ _ _ Lc (by decide) (by decide)
  replace Ld := kp _ _ _ Ld (by decide) (by decide)
  clear p kp k
  have p := q
  clear q
  go_wp2_with fail
  refine (p.next_ 99 (byp := false) (con := false) (cr := 0) (ch := 0) (sq := 0) (d := []) (ok := false) (s' := ⟨[[66#8], [67#8]], 1, 2, 1, 3, 0, 1, 13, 99⟩) (by decide) (m := 0) rfl).mono ?_
  rintro e w14 ⟨⟨A14, c14, rfl, r, hnew⟩, q, k⟩
  have kp := p.kp1 k
  replace La := kp _ _ _ La (by decide) (by decide)
  replace Lb := kp _ _ _ Lb (by decide) (by decide)
  replace rdB := p.rd rdB k
  replace Lc := kp _ _ _ Lc (by decide) (by decide)
  replace Ld := kp _ _ _ Ld (by decide) (by decide)
  clear hnew
  obtain ⟨W14, hW14⟩ : ∃ X, X = w14.alloc (.cells #[.bool false, .bool false, .int .i64 0, .int .i64 0, .int .i64 0, .slice A14 0 c14] 43) := ⟨_, rfl⟩
  have bn : Below w14.heap.size w14 W14 := by rw [hW14]; exact bel_new _ _
  clear p kp k
  have p := q.below bn
  clear q
  replace La := Cel.later La bn
  replace Lb := Cel.later Lb bn
  replace rdB := Rd.later rdB bn
  replace Lc := Cel.later Lc bn
  replace Ld := Cel.later Ld bn
  clear bn r
  go_wp2_with fail
  rw [← hW14]
  clear hW14
  refine (p.unlock_ 99 (s' := ⟨[[66#8], [67#8]], 0, 0, 1, 1, 2, 0, 99, 99⟩) (by decide)).mono ?_
  rintro e w15 ⟨rfl, q, k⟩
  have kp := p.kp1 k
  replace La := kp _ _ _ La (by decide) (by decide)
  replace Lb := kp _ _ _ Lb (by decide) (by decide)
  replace rdB := p.rd rdB k
  replace Lc := kp _ _ _ Lc (by decide) (by decide)
  replace Ld := kp _ _ _ Ld (by decide) (by decide)
  clear p kp k
  have p := q
  clear q
  go_wp2_with fail
  refine (p.next_ 99 (byp := true) (con := true) (cr := 5) (ch := 1) (sq := 0) (d := [0#8]) (ok := true) (s' := ⟨[[66#8], [67#8]], 0, 0, 1, 1, 1, 0, 99, 99⟩) (by decide) (m := 1) rfl).mono ?_
  rintro e w16 ⟨⟨A16, c16, rfl, r, hnew⟩, q, k⟩
  have kp := p.kp1 k
  replace La := kp _ _ _ La (by decide) (by decide)
  replace Lb := kp _ _ _ Lb (by decide) (by decide)
  replace rdB := p.rd rdB k
  replace Lc := kp _ _ _ Lc (by decide) (by decide)
  replace Ld := kp _ _ _ Ld (by decide) (by decide)
  clear hnew
  obtain ⟨W16, hW16⟩ : ∃ X, X = w16.alloc (.cells #[.bool true, .bool true, .int .i64 5, .int .i64 1, .int .i64 0, .slice A16 1 c16] 43) := ⟨_, rfl⟩
  have bn : Below w16.heap.size w16 W16 := by rw [hW16]; exact bel_new _ _
  clear p kp k
  have p := q.below bn
  clear q
  replace La := Cel.later La bn
  replace Lb := Cel.later Lb bn
  replace rdB := Rd.later rdB bn
  replace Lc := Cel.later Lc bn
  replace Ld := Cel.later Ld bn
  have Lx : Cel W16 w16.heap.size 43 #[.bool true, .bool true, .int .i64 5, .int .i64 1, .int .i64 0, .slice A16 1 c16] := by rw [hW16]; exact Cel.new _ _ _
  have rdX := Rd.later r bn
  clear bn r
  go_wp2_with fail
  rw [← hW16]
  clear hW16
  refine (p.next_ 99 (byp := true) (con := true) (cr := 5) (ch := 1) (sq := 0) (d := [130#8, 0#8, 1#8]) (ok := true) (s' := ⟨[[66#8], [67#8]], 0, 0, 1, 1, 0, 0, 99, 99⟩) (by decide) (m := 3) rfl).mono ?_
  rintro e w17 ⟨⟨A17, c17, rfl, r, hnew⟩, q, k⟩
  have kp := p.kp1 k
  replace La := kp _ _ _ La (by decide) (by decide)
  replace Lb := kp _ _ _ Lb (by decide) (by decide)
  replace rdB := p.rd rdB k
  replace Lc := kp _ _ _ Lc (by decide) (by decide)
  replace Ld := kp _ _ _ Ld (by decide) (by decide)
  replace Lx := kp _ _ _ Lx (by decide) (by decide)
  replace rdX := p.rd rdX k
  clear hnew
  obtain ⟨W17, hW17⟩ : ∃ X, X = w17.alloc (.cells #[.bool true, .bool true, .int .i64 5, .int .i64 1, .int .i64 0, .slice A17 3 c17] 43) := ⟨_, rfl⟩
  have bn : Below w17.heap.size w17 W17 := by rw [hW17]; exact bel_new _ _
  clear p kp k
  have p := q.below bn
  clear q
  replace La := Cel.later La bn
  replace Lb := Cel.later Lb bn
  replace rdB := Rd.later rdB bn
  replace Lc := Cel.later Lc bn
  replace Ld := Cel.later Ld bn
  replace Lx := Cel.later Lx bn
  replace rdX := Rd.later rdX bn
  have Ly : Cel W17 w17.heap.size 43 #[.bool true, .bool true, .int .i64 5, .int .i64 1, .int .i64 0, .slice A17 3 c17] := by rw [hW17]; exact Cel.new _ _ _
  have rdY := Rd.later r bn
  clear bn r
  have hS : ∀ W, Below W17.heap.size W17 W → (W.cell? ⟨w5.heap.size, 4, none⟩ = some (.int .i64 0) ∧ W.cell? ⟨w6.heap.size, 4, none⟩ = some (.int .i64 1) ∧ W.cell? ⟨w6.heap.size, 5, none⟩ = some (.slice (some ⟨bb, 0, none⟩) 1 c6) ∧ W.cell? ⟨w10.heap.size, 4, none⟩ = some (.int .i64 2) ∧ W.cell? ⟨w12.heap.size, 4, none⟩ = some (.int .i64 1) ∧ W.cell? ⟨w16.heap.size, 0, none⟩ = some (.bool true) ∧ W.cell? ⟨w16.heap.size, 1, none⟩ = some (.bool true) ∧ W.cell? ⟨w16.heap.size, 2, none⟩ = some (.int .i64 5) ∧ W.cell? ⟨w16.heap.size, 3, none⟩ = some (.int .i64 1) ∧ W.cell? ⟨w16.heap.size, 4, none⟩ = some (.int .i64 0) ∧ W.cell? ⟨w16.heap.size, 5, none⟩ = some (.slice A16 1 c16) ∧ W.cell? ⟨w17.heap.size, 0, none⟩ = some (.bool true) ∧ W.cell? ⟨w17.heap.size, 1, none⟩ = some (.bool true) ∧ W.cell? ⟨w17.heap.size, 2, none⟩ = some (.int .i64 5) ∧ W.cell? ⟨w17.heap.size, 3, none⟩ = some (.int .i64 1) ∧ W.cell? ⟨w17.heap.size, 4, none⟩ = some (.int .i64 0) ∧ W.cell? ⟨w17.heap.size, 5, none⟩ = some (.slice A17 3 c17) ∧ (convert 33 9 (.slice (some ⟨bb, 0, none⟩) 1 c6)).run Try.prog W = .ok (.string ⟨#[66]⟩) W) := by
    intro W b
    have q := (rdB.later b).conv (Below.refl _ _)
    refine ⟨(Cel.later La b).cell 4, (Cel.later Lb b).cell 4, (Cel.later Lb b).cell 5, (Cel.later Lc b).cell 4, (Cel.later Ld b).cell 4, (Cel.later Lx b).cell 0, (Cel.later Lx b).cell 1, (Cel.later Lx b).cell 2, (Cel.later Lx b).cell 3, (Cel.later Lx b).cell 4, (Cel.later Lx b).cell 5, (Cel.later Ly b).cell 0, (Cel.later Ly b).cell 1, (Cel.later Ly b).cell 2, (Cel.later Ly b).cell 3, (Cel.later Ly b).cell 4, (Cel.later Ly b).cell 5, ?_⟩
    exact q
  go_wp2_with fail
  rw [← hW17]
  clear hW17
  have HS := Lib.hid hS
  clear hS
  clear La Lb Lc Ld Lx Ly rdB ltB
  refine wp_region_held_drew (S := fun W => W.cell? ⟨w5.heap.size, 4, none⟩ = some (.int .i64 0) ∧ W.cell? ⟨w6.heap.size, 4, none⟩ = some (.int .i64 1) ∧ W.cell? ⟨w6.heap.size, 5, none⟩ = some (.slice (some ⟨bb, 0, none⟩) 1 c6) ∧ W.cell? ⟨w10.heap.size, 4, none⟩ = some (.int .i64 2) ∧ W.cell? ⟨w12.heap.size, 4, none⟩ = some (.int .i64 1) ∧ W.cell? ⟨w16.heap.size, 0, none⟩ = some (.bool true) ∧ W.cell? ⟨w16.heap.size, 1, none⟩ = some (.bool true) ∧ W.cell? ⟨w16.heap.size, 2, none⟩ = some (.int .i64 5) ∧ W.cell? ⟨w16.heap.size, 3, none⟩ = some (.int .i64 1) ∧ W.cell? ⟨w16.heap.size, 4, none⟩ = some (.int .i64 0) ∧ W.cell? ⟨w16.heap.size, 5, none⟩ = some (.slice A16 1 c16) ∧ W.cell? ⟨w17.heap.size, 0, none⟩ = some (.bool true) ∧ W.cell? ⟨w17.heap.size, 1, none⟩ = some (.bool true) ∧ W.cell? ⟨w17.heap.size, 2, none⟩ = some (.int .i64 5) ∧ W.cell? ⟨w17.heap.size, 3, none⟩ = some (.int .i64 1) ∧ W.cell? ⟨w17.heap.size, 4, none⟩ = some (.int .i64 0) ∧ W.cell? ⟨w17.heap.size, 5, none⟩ = some (.slice A17 3 c17) ∧ (convert 33 9 (.slice (some ⟨bb, 0, none⟩) 1 c6)).run Try.prog W = .ok (.string ⟨#[66]⟩) W) (by kernel_rfl) (HS.out _ (drewN_below _ 1)) (fun hHeld => ?_)
  refine wpAnyH_here 0 (v := ?_) rfl (by kernel_rfl) (by kernel_rfl) (by kernel_rfl) (fun _ _ _ h => h) (Or.inl ⟨by rfl, ?_⟩) hHeld ?_
  rotate_left
  · intro w hSw; (try dsimp only at hSw); go_simp; all_goals (with_reducible rfl)
  try simp only [Act.put, List.setIfInBounds_toArray, List.set_cons_zero, List.set_cons_succ]
  refine wpAnyH_here 1 (v := ?_) rfl (by kernel_rfl) (by kernel_rfl) (by kernel_rfl) (fun _ _ _ h => h) (Or.inl ⟨by rfl, ?_⟩) hHeld ?_
  rotate_left
  · intro w hSw; (try dsimp only at hSw); go_simp; all_goals (with_reducible rfl)
  try simp only [Act.put, List.setIfInBounds_toArray, List.set_cons_zero, List.set_cons_succ]
  refine wpAnyH_here 2 (v := ?_) rfl (by kernel_rfl) (by kernel_rfl) (by kernel_rfl) (fun _ _ _ h => h) (Or.inl ⟨by rfl, ?_⟩) hHeld ?_
  rotate_left
  · intro w hSw; (try dsimp only at hSw); go_simp; all_goals (with_reducible rfl)
  try simp only [Act.put, List.setIfInBounds_toArray, List.set_cons_zero, List.set_cons_succ]
  refine wpAnyH_here 3 (v := ?_) rfl (by kernel_rfl) (by kernel_rfl) (by kernel_rfl) (fun _ _ _ h => h) (Or.inl ⟨by rfl, ?_⟩) hHeld ?_
  rotate_left
  · intro w hSw; (try dsimp only at hSw); go_simp; all_goals (with_reducible rfl)
  try simp only [Act.put, List.setIfInBounds_toArray, List.set_cons_zero, List.set_cons_succ]
  refine wpAnyH_here 4 (v := ?_) rfl (by kernel_rfl) (by kernel_rfl) (by kernel_rfl) (fun _ _ _ h => h) (Or.inl ⟨by rfl, ?_⟩) hHeld ?_
  rotate_left
  · intro w hSw; (try dsimp only at hSw); go_simp; all_goals (with_reducible rfl)
  try simp only [Act.put, List.setIfInBounds_toArray, List.set_cons_zero, List.set_cons_succ]
  refine wpAnyH_here 5 (v := ?_) rfl (by kernel_rfl) (by kernel_rfl) (by kernel_rfl) (fun _ _ _ h => h) (Or.inl ⟨by rfl, ?_⟩) hHeld ?_
  rotate_left
  · intro w hSw; (try dsimp only at hSw); go_simp; all_goals (with_reducible rfl)
  try simp only [Act.put, List.setIfInBounds_toArray, List.set_cons_zero, List.set_cons_succ]
  refine wpAnyH_here 6 (v := ?_) rfl (by kernel_rfl) (by kernel_rfl) (by kernel_rfl) (fun _ _ _ h => h) (Or.inl ⟨by rfl, ?_⟩) hHeld ?_
  rotate_left
  · intro w hSw; (try dsimp only at hSw); go_simp; all_goals (with_reducible rfl)
  try simp only [Act.put, List.setIfInBounds_toArray, List.set_cons_zero, List.set_cons_succ]
  refine wpAnyH_here 7 (v := ?_) rfl (by kernel_rfl) (by kernel_rfl) (by kernel_rfl) (fun _ _ _ h => h) (Or.inl ⟨by rfl, ?_⟩) hHeld ?_
  rotate_left
  · intro w hSw; (try dsimp only at hSw); go_simp; all_goals (with_reducible rfl)
  try simp only [Act.put, List.setIfInBounds_toArray, List.set_cons_zero, List.set_cons_succ]
  refine wpAnyH_here 8 (v := ?_) rfl (by kernel_rfl) (by kernel_rfl) (by kernel_rfl) (fun _ _ _ h => h) (Or.inl ⟨by rfl, ?_⟩) hHeld ?_
  rotate_left
  · intro w hSw; (try dsimp only at hSw); go_simp; all_goals (with_reducible rfl)
  try simp only [Act.put, List.setIfInBounds_toArray, List.set_cons_zero, List.set_cons_succ]
  refine wpAnyH_here 9 (v := ?_) rfl (by kernel_rfl) (by kernel_rfl) (by kernel_rfl) (fun _ _ _ h => h) (Or.inl ⟨by rfl, ?_⟩) hHeld ?_
  rotate_left
  · intro w hSw; (try dsimp only at hSw); go_simp; all_goals (with_reducible rfl)
  try simp only [Act.put, List.setIfInBounds_toArray, List.set_cons_zero, List.set_cons_succ]
  refine wpAnyH_here 10 (v := ?_) rfl (by kernel_rfl) (by kernel_rfl) (by kernel_rfl) (fun _ _ _ h => h) (Or.inl ⟨by rfl, ?_⟩) hHeld ?_
  rotate_left
  · intro w hSw; (try dsimp only at hSw); go_simp; all_goals (with_reducible rfl)
  try simp only [Act.put, List.setIfInBounds_toArray, List.set_cons_zero, List.set_cons_succ]
  refine wpAnyH_here 11 (v := ?_) rfl (by kernel_rfl) (by kernel_rfl) (by kernel_rfl) (fun _ _ _ h => h) (Or.inl ⟨by rfl, ?_⟩) hHeld ?_
  rotate_left
  · intro w hSw; (try dsimp only at hSw); go_simp; all_goals (with_reducible rfl)
  try simp only [Act.put, List.setIfInBounds_toArray, List.set_cons_zero, List.set_cons_succ]
  refine wpAnyH_here 12 (v := ?_) rfl (by kernel_rfl) (by kernel_rfl) (by kernel_rfl) (fun _ _ _ h => h) (Or.inl ⟨by rfl, ?_⟩) hHeld ?_
  rotate_left
  · intro w hSw; (try dsimp only at hSw); go_simp; all_goals (with_reducible rfl)
  try simp only [Act.put, List.setIfInBounds_toArray, List.set_cons_zero, List.set_cons_succ]
  refine wpAnyH_here 13 (v := ?_) rfl (by kernel_rfl) (by kernel_rfl) (by kernel_rfl) (fun _ _ _ h => h) (Or.inl ⟨by rfl, ?_⟩) hHeld ?_
  rotate_left
  · intro w hSw; (try dsimp only at hSw); go_simp; all_goals (with_reducible rfl)
  try simp only [Act.put, List.setIfInBounds_toArray, List.set_cons_zero, List.set_cons_succ]
  refine wpAnyH_here 14 (v := ?_) rfl (by kernel_rfl) (by kernel_rfl) (by kernel_rfl) (fun _ _ _ h => h) (Or.inl ⟨by rfl, ?_⟩) hHeld ?_
  rotate_left
  · intro w hSw; (try dsimp only at hSw); go_simp; all_goals (with_reducible rfl)
  try simp only [Act.put, List.setIfInBounds_toArray, List.set_cons_zero, List.set_cons_succ]
  refine wpAnyH_here 15 (v := ?_) rfl (by kernel_rfl) (by kernel_rfl) (by kernel_rfl) (fun _ _ _ h => h) (Or.inl ⟨by rfl, ?_⟩) hHeld ?_
  rotate_left
  · intro w hSw; (try dsimp only at hSw); go_simp; all_goals (with_reducible rfl)
  try simp only [Act.put, List.setIfInBounds_toArray, List.set_cons_zero, List.set_cons_succ]
  refine wpAnyH_here 16 (v := ?_) rfl (by kernel_rfl) (by kernel_rfl) (by kernel_rfl) (fun _ _ _ h => h) (Or.inl ⟨by rfl, ?_⟩) hHeld ?_
  rotate_left
  · intro w hSw; (try dsimp only at hSw); go_simp; all_goals (with_reducible rfl)
  try simp only [Act.put, List.setIfInBounds_toArray, List.set_cons_zero, List.set_cons_succ]
  refine wpAnyH_here 17 (v := ?_) rfl (by kernel_rfl) (by kernel_rfl) (by kernel_rfl) (fun _ _ _ h => h) (Or.inl ⟨by rfl, ?_⟩) hHeld ?_
  rotate_left
  · intro w hSw; (try dsimp only at hSw); go_simp; all_goals (with_reducible rfl)
  try simp only [Act.put, List.setIfInBounds_toArray, List.set_cons_zero, List.set_cons_succ]
  refine wpAnyH_here 18 (v := ?_) rfl (by kernel_rfl) (by kernel_rfl) (by kernel_rfl) (fun _ _ _ h => h) (Or.inl ⟨by rfl, ?_⟩) hHeld ?_
  rotate_left
  · intro w hSw; (try dsimp only at hSw); go_simp; all_goals (with_reducible rfl)
  try simp only [Act.put, List.setIfInBounds_toArray, List.set_cons_zero, List.set_cons_succ]
  refine wpAnyH_here 19 (v := ?_) rfl (by kernel_rfl) (by kernel_rfl) (by kernel_rfl) (fun _ _ _ h => h) (Or.inl ⟨by rfl, ?_⟩) hHeld ?_
  rotate_left
  · intro w hSw; (try dsimp only at hSw); go_simp; all_goals (with_reducible rfl)
  try simp only [Act.put, List.setIfInBounds_toArray, List.set_cons_zero, List.set_cons_succ]
  refine wpAnyH_here 20 (v := ?_) rfl (by kernel_rfl) (by kernel_rfl) (by kernel_rfl) (fun _ _ _ h => h) (Or.inl ⟨by rfl, ?_⟩) hHeld ?_
  rotate_left
  · intro w hSw; (try dsimp only at hSw); go_simp; all_goals (with_reducible rfl)
  try simp only [Act.put, List.setIfInBounds_toArray, List.set_cons_zero, List.set_cons_succ]
  refine wpAnyH_here 21 (v := ?_) rfl (by kernel_rfl) (by kernel_rfl) (by kernel_rfl) (fun _ _ _ h => h) (Or.inl ⟨by rfl, ?_⟩) hHeld ?_
  rotate_left
  · intro w hSw; (try dsimp only at hSw); go_simp; all_goals (with_reducible rfl)
  try simp only [Act.put, List.setIfInBounds_toArray, List.set_cons_zero, List.set_cons_succ]
  refine wpAnyH_here 22 (v := ?_) rfl (by kernel_rfl) (by kernel_rfl) (by kernel_rfl) (fun _ _ _ h => h) (Or.inl ⟨by rfl, ?_⟩) hHeld ?_
  rotate_left
  · intro w hSw; (try dsimp only at hSw); go_simp; all_goals (with_reducible rfl)
  try simp only [Act.put, List.setIfInBounds_toArray, List.set_cons_zero, List.set_cons_succ]
  refine wpAnyH_here 23 (v := ?_) rfl (by kernel_rfl) (by kernel_rfl) (by kernel_rfl) (fun _ _ _ h => h) (Or.inl ⟨by rfl, ?_⟩) hHeld ?_
  rotate_left
  · intro w hSw; (try dsimp only at hSw); go_simp; all_goals (with_reducible rfl)
  try simp only [Act.put, List.setIfInBounds_toArray, List.set_cons_zero, List.set_cons_succ]
  as_aux_lemma =>
    refine wpAnyH_here 24 (v := ?_) rfl (by kernel_rfl) (by kernel_rfl) (by kernel_rfl) (fun _ _ _ h => h) (Or.inl ⟨by rfl, ?_⟩) hHeld ?_
    rotate_left
    · intro w hSw; (try dsimp only at hSw); go_simp; all_goals (with_reducible rfl)
    try simp only [Act.put, List.setIfInBounds_toArray, List.set_cons_zero, List.set_cons_succ]
    refine wpAnyH_here 25 (v := ?_) rfl (by kernel_rfl) (by kernel_rfl) (by kernel_rfl) (fun _ _ _ h => h) (Or.inl ⟨by rfl, ?_⟩) hHeld ?_
    rotate_left
    · intro w hSw; (try dsimp only at hSw); go_simp; all_goals (with_reducible rfl)
    try simp only [Act.put, List.setIfInBounds_toArray, List.set_cons_zero, List.set_cons_succ]
    refine wpAnyH_here 26 (v := ?_) rfl (by kernel_rfl) (by kernel_rfl) (by kernel_rfl) (fun _ _ _ h => h) (Or.inl ⟨by rfl, ?_⟩) hHeld ?_
    rotate_left
    · intro w hSw; (try dsimp only at hSw); go_simp; all_goals (with_reducible rfl)
    try simp only [Act.put, List.setIfInBounds_toArray, List.set_cons_zero, List.set_cons_succ]
    refine wpAnyH_here 27 (v := ?_) rfl (by kernel_rfl) (by kernel_rfl) (by kernel_rfl) (fun _ _ _ h => h) (Or.inl ⟨by rfl, ?_⟩) hHeld ?_
    rotate_left
    · intro w hSw; (try dsimp only at hSw); go_simp; all_goals (with_reducible rfl)
    try simp only [Act.put, List.setIfInBounds_toArray, List.set_cons_zero, List.set_cons_succ]
    refine wpAnyH_here 28 (v := ?_) rfl (by kernel_rfl) (by kernel_rfl) (by kernel_rfl) (fun _ _ _ h => h) (Or.inl ⟨by rfl, ?_⟩) hHeld ?_
    rotate_left
    · intro w hSw; (try dsimp only at hSw); go_simp; all_goals (with_reducible rfl)
    try simp only [Act.put, List.setIfInBounds_toArray, List.set_cons_zero, List.set_cons_succ]
    refine wpAnyH_here 29 (v := ?_) rfl (by kernel_rfl) (by kernel_rfl) (by kernel_rfl) (fun _ _ _ h => h) (Or.inl ⟨by rfl, ?_⟩) hHeld ?_
    rotate_left
    · intro w hSw; (try dsimp only at hSw); go_simp; all_goals (with_reducible rfl)
    try simp only [Act.put, List.setIfInBounds_toArray, List.set_cons_zero, List.set_cons_succ]
    refine wpAnyH_here 30 (v := ?_) rfl (by kernel_rfl) (by kernel_rfl) (by kernel_rfl) (fun _ _ _ h => h) (Or.inl ⟨by rfl, ?_⟩) hHeld ?_
    rotate_left
    · intro w hSw; (try dsimp only at hSw); go_simp; all_goals (with_reducible rfl)
    try simp only [Act.put, List.setIfInBounds_toArray, List.set_cons_zero, List.set_cons_succ]
    refine wpAnyH_here 31 (v := ?_) rfl (by kernel_rfl) (by kernel_rfl) (by kernel_rfl) (fun _ _ _ h => h) (Or.inl ⟨by rfl, ?_⟩) hHeld ?_
    rotate_left
    · intro w hSw; (try dsimp only at hSw); go_simp; all_goals (with_reducible rfl)
    try simp only [Act.put, List.setIfInBounds_toArray, List.set_cons_zero, List.set_cons_succ]
    refine wpAnyH_here 32 (v := ?_) rfl (by kernel_rfl) (by kernel_rfl) (by kernel_rfl) (fun _ _ _ h => h) (Or.inl ⟨by rfl, ?_⟩) hHeld ?_
    rotate_left
    · intro w hSw; (try dsimp only at hSw); go_simp; all_goals (with_reducible rfl)
    try simp only [Act.put, List.setIfInBounds_toArray, List.set_cons_zero, List.set_cons_succ]
    refine wpAnyH_here 33 (v := ?_) rfl (by kernel_rfl) (by kernel_rfl) (by kernel_rfl) (fun _ _ _ h => h) (Or.inl ⟨by rfl, ?_⟩) hHeld ?_
    rotate_left
    · intro w hSw; (try dsimp only at hSw); go_simp; all_goals (with_reducible rfl)
    try simp only [Act.put, List.setIfInBounds_toArray, List.set_cons_zero, List.set_cons_succ]
    refine wpAnyH_here 34 (v := ?_) rfl (by kernel_rfl) (by kernel_rfl) (by kernel_rfl) (fun _ _ _ h => h) (Or.inl ⟨by rfl, ?_⟩) hHeld ?_
    rotate_left
    · intro w hSw; (try dsimp only at hSw); go_simp; all_goals (with_reducible rfl)
    try simp only [Act.put, List.setIfInBounds_toArray, List.set_cons_zero, List.set_cons_succ]
    refine wpAnyH_here 35 (v := ?_) rfl (by kernel_rfl) (by kernel_rfl) (by kernel_rfl) (fun _ _ _ h => h) (Or.inl ⟨by rfl, ?_⟩) hHeld ?_
    rotate_left
    · intro w hSw; (try dsimp only at hSw); go_simp; all_goals (with_reducible rfl)
    try simp only [Act.put, List.setIfInBounds_toArray, List.set_cons_zero, List.set_cons_succ]
    refine wpAnyH_here 36 (v := ?_) rfl (by kernel_rfl) (by kernel_rfl) (by kernel_rfl) (fun _ _ _ h => h) (Or.inl ⟨by rfl, ?_⟩) hHeld ?_
    rotate_left
    · intro w hSw; (try dsimp only at hSw); go_simp; all_goals (with_reducible rfl)
    try simp only [Act.put, List.setIfInBounds_toArray, List.set_cons_zero, List.set_cons_succ]
    refine wpAnyH_here 37 (v := ?_) rfl (by kernel_rfl) (by kernel_rfl) (by kernel_rfl) (fun _ _ _ h => h) (Or.inl ⟨by rfl, ?_⟩) hHeld ?_
    rotate_left
    · intro w hSw; (try dsimp only at hSw); go_simp; all_goals (with_reducible rfl)
    try simp only [Act.put, List.setIfInBounds_toArray, List.set_cons_zero, List.set_cons_succ]
    refine wpAnyH_here 38 (v := ?_) rfl (by kernel_rfl) (by kernel_rfl) (by kernel_rfl) (fun _ _ _ h => h) (Or.inl ⟨by rfl, ?_⟩) hHeld ?_
    rotate_left
    · intro w hSw; (try dsimp only at hSw); go_simp; all_goals (with_reducible rfl)
    try simp only [Act.put, List.setIfInBounds_toArray, List.set_cons_zero, List.set_cons_succ]
    refine wpAnyH_here 39 (v := ?_) rfl (by kernel_rfl) (by kernel_rfl) (by kernel_rfl) (fun _ _ _ h => h) (Or.inl ⟨by rfl, ?_⟩) hHeld ?_
    rotate_left
    · intro w hSw; (try dsimp only at hSw); go_simp; all_goals (with_reducible rfl)
    try simp only [Act.put, List.setIfInBounds_toArray, List.set_cons_zero, List.set_cons_succ]
    refine wpAnyH_here 40 (v := ?_) rfl (by kernel_rfl) (by kernel_rfl) (by kernel_rfl) (fun _ _ _ h => h) (Or.inl ⟨by rfl, ?_⟩) hHeld ?_
    rotate_left
    · intro w hSw; (try dsimp only at hSw); go_simp; all_goals (with_reducible rfl)
    try simp only [Act.put, List.setIfInBounds_toArray, List.set_cons_zero, List.set_cons_succ]
    refine wpAnyH_here 41 (v := ?_) rfl (by kernel_rfl) (by kernel_rfl) (by kernel_rfl) (fun _ _ _ h => h) (Or.inl ⟨by rfl, ?_⟩) hHeld ?_
    rotate_left
    · intro w hSw; (try dsimp only at hSw); go_simp; all_goals (with_reducible rfl)
    try simp only [Act.put, List.setIfInBounds_toArray, List.set_cons_zero, List.set_cons_succ]
    refine wpAnyH_here 42 (v := ?_) rfl (by kernel_rfl) (by kernel_rfl) (by kernel_rfl) (fun _ _ _ h => h) (Or.inl ⟨by rfl, ?_⟩) hHeld ?_
    rotate_left
    · intro w hSw; (try dsimp only at hSw); go_simp; all_goals (with_reducible rfl)
    try simp only [Act.put, List.setIfInBounds_toArray, List.set_cons_zero, List.set_cons_succ]
    refine wpAnyH_here 43 (v := ?_) rfl (by kernel_rfl) (by kernel_rfl) (by kernel_rfl) (fun _ _ _ h => h) (Or.inl ⟨by rfl, ?_⟩) hHeld ?_
    rotate_left
    · intro w hSw; (try dsimp only at hSw); go_simp; all_goals (with_reducible rfl)
    try simp only [Act.put, List.setIfInBounds_toArray, List.set_cons_zero, List.set_cons_succ]
    refine wpAnyH_here 44 (v := ?_) rfl (by kernel_rfl) (by kernel_rfl) (by kernel_rfl) (fun _ _ _ h => h) (Or.inl ⟨by rfl, ?_⟩) hHeld ?_
    rotate_left
    · intro w hSw; (try dsimp only at hSw); go_simp; all_goals (with_reducible rfl)
    try simp only [Act.put, List.setIfInBounds_toArray, List.set_cons_zero, List.set_cons_succ]
    refine wpAnyH_here 45 (v := ?_) rfl (by kernel_rfl) (by kernel_rfl) (by kernel_rfl) (fun _ _ _ h => h) (Or.inl ⟨by rfl, ?_⟩) hHeld ?_
    rotate_left
    · intro w hSw; (try dsimp only at hSw); go_simp; all_goals (with_reducible rfl)
    try simp only [Act.put, List.setIfInBounds_toArray, List.set_cons_zero, List.set_cons_succ]
    refine wpAnyH_here 46 (v := ?_) rfl (by kernel_rfl) (by kernel_rfl) (by kernel_rfl) (fun _ _ _ h => h) (Or.inl ⟨by rfl, ?_⟩) hHeld ?_
    rotate_left
    · intro w hSw; (try dsimp only at hSw); go_simp; all_goals (with_reducible rfl)
    try simp only [Act.put, List.setIfInBounds_toArray, List.set_cons_zero, List.set_cons_succ]
    refine wpAnyH_here 47 (v := ?_) rfl (by kernel_rfl) (by kernel_rfl) (by kernel_rfl) (fun _ _ _ h => h) (Or.inl ⟨by rfl, ?_⟩) hHeld ?_
    rotate_left
    · intro w hSw; (try dsimp only at hSw); go_simp; all_goals (with_reducible rfl)
    try simp only [Act.put, List.setIfInBounds_toArray, List.set_cons_zero, List.set_cons_succ]
    as_aux_lemma =>
      refine wpAnyH_here 48 (v := ?_) rfl (by kernel_rfl) (by kernel_rfl) (by kernel_rfl) (fun _ _ _ h => h) (Or.inl ⟨by rfl, ?_⟩) hHeld ?_
      rotate_left
      · intro w hSw; (try dsimp only at hSw); go_simp; all_goals (with_reducible rfl)
      try simp only [Act.put, List.setIfInBounds_toArray, List.set_cons_zero, List.set_cons_succ]
      refine wpAnyH_here 49 (v := ?_) rfl (by kernel_rfl) (by kernel_rfl) (by kernel_rfl) (fun _ _ _ h => h) (Or.inl ⟨by rfl, ?_⟩) hHeld ?_
      rotate_left
      · intro w hSw; (try dsimp only at hSw); go_simp; all_goals (with_reducible rfl)
      try simp only [Act.put, List.setIfInBounds_toArray, List.set_cons_zero, List.set_cons_succ]
      refine wpAnyH_here 50 (v := ?_) rfl (by kernel_rfl) (by kernel_rfl) (by kernel_rfl) (fun _ _ _ h => h) (Or.inl ⟨by rfl, ?_⟩) hHeld ?_
      rotate_left
      · intro w hSw; (try dsimp only at hSw); go_simp; all_goals (with_reducible rfl)
      try simp only [Act.put, List.setIfInBounds_toArray, List.set_cons_zero, List.set_cons_succ]
      refine wpAnyH_here 51 (v := ?_) rfl (by kernel_rfl) (by kernel_rfl) (by kernel_rfl) (fun _ _ _ h => h) (Or.inl ⟨by rfl, ?_⟩) hHeld ?_
      rotate_left
      · intro w hSw; (try dsimp only at hSw); go_simp; all_goals (with_reducible rfl)
      try simp only [Act.put, List.setIfInBounds_toArray, List.set_cons_zero, List.set_cons_succ]
      refine wpAnyH_here 52 (v := ?_) rfl (by kernel_rfl) (by kernel_rfl) (by kernel_rfl) (fun _ _ _ h => h) (Or.inl ⟨by rfl, ?_⟩) hHeld ?_
      rotate_left
      · intro w hSw; (try dsimp only at hSw); go_simp; all_goals (with_reducible rfl)
      try simp only [Act.put, List.setIfInBounds_toArray, List.set_cons_zero, List.set_cons_succ]
      refine wpAnyH_here 53 (v := ?_) rfl (by kernel_rfl) (by kernel_rfl) (by kernel_rfl) (fun _ _ _ h => h) (Or.inl ⟨by rfl, ?_⟩) hHeld ?_
      rotate_left
      · intro w hSw; (try dsimp only at hSw); go_simp; all_goals (with_reducible rfl)
      try simp only [Act.put, List.setIfInBounds_toArray, List.set_cons_zero, List.set_cons_succ]
      refine wpAnyH_here 54 (v := ?_) rfl (by kernel_rfl) (by kernel_rfl) (by kernel_rfl) (fun _ _ _ h => h) (Or.inl ⟨by rfl, ?_⟩) hHeld ?_
      rotate_left
      · intro w hSw; (try dsimp only at hSw); go_simp; all_goals (with_reducible rfl)
      try simp only [Act.put, List.setIfInBounds_toArray, List.set_cons_zero, List.set_cons_succ]
      refine wpAnyH_here 55 (v := ?_) rfl (by kernel_rfl) (by kernel_rfl) (by kernel_rfl) (fun _ _ _ h => h) (Or.inl ⟨by rfl, ?_⟩) hHeld ?_
      rotate_left
      · intro w hSw; (try dsimp only at hSw); go_simp; all_goals (with_reducible rfl)
      try simp only [Act.put, List.setIfInBounds_toArray, List.set_cons_zero, List.set_cons_succ]
      refine wpAnyH_here 56 (v := ?_) rfl (by kernel_rfl) (by kernel_rfl) (by kernel_rfl) (fun _ _ _ h => h) (Or.inl ⟨by rfl, ?_⟩) hHeld ?_
      rotate_left
      · intro w hSw; (try dsimp only at hSw); go_simp; all_goals (with_reducible rfl)
      try simp only [Act.put, List.setIfInBounds_toArray, List.set_cons_zero, List.set_cons_succ]
      refine wpAnyH_here 57 (v := ?_) rfl (by kernel_rfl) (by kernel_rfl) (by kernel_rfl) (fun _ _ _ h => h) (Or.inl ⟨by rfl, ?_⟩) hHeld ?_
      rotate_left
      · intro w hSw; (try dsimp only at hSw); go_simp; all_goals (with_reducible rfl)
      try simp only [Act.put, List.setIfInBounds_toArray, List.set_cons_zero, List.set_cons_succ]
      refine wpAnyH_here 58 (v := ?_) rfl (by kernel_rfl) (by kernel_rfl) (by kernel_rfl) (fun _ _ _ h => h) (Or.inl ⟨by rfl, ?_⟩) hHeld ?_
      rotate_left
      · intro w hSw; (try dsimp only at hSw); go_simp; all_goals (with_reducible rfl)
      try simp only [Act.put, List.setIfInBounds_toArray, List.set_cons_zero, List.set_cons_succ]
      refine wpAnyH_here 59 (v := ?_) rfl (by kernel_rfl) (by kernel_rfl) (by kernel_rfl) (fun _ _ _ h => h) (Or.inl ⟨by rfl, ?_⟩) hHeld ?_
      rotate_left
      · intro w hSw; (try dsimp only at hSw); go_simp; all_goals (with_reducible rfl)
      try simp only [Act.put, List.setIfInBounds_toArray, List.set_cons_zero, List.set_cons_succ]
      refine wpAnyH_here 60 (v := ?_) rfl (by kernel_rfl) (by kernel_rfl) (by kernel_rfl) (fun _ _ _ h => h) (Or.inl ⟨by rfl, ?_⟩) hHeld ?_
      rotate_left
      · intro w hSw; (try dsimp only at hSw); go_simp; all_goals (with_reducible rfl)
      try simp only [Act.put, List.setIfInBounds_toArray, List.set_cons_zero, List.set_cons_succ]
      refine wpAnyH_here 61 (v := ?_) rfl (by kernel_rfl) (by kernel_rfl) (by kernel_rfl) (fun _ _ _ h => h) (Or.inl ⟨by rfl, ?_⟩) hHeld ?_
      rotate_left
      · intro w hSw; (try dsimp only at hSw); go_simp; all_goals (with_reducible rfl)
      try simp only [Act.put, List.setIfInBounds_toArray, List.set_cons_zero, List.set_cons_succ]
      refine wpAnyH_here 62 (v := ?_) rfl (by kernel_rfl) (by kernel_rfl) (by kernel_rfl) (fun _ _ _ h => h) (Or.inl ⟨by rfl, ?_⟩) hHeld ?_
      rotate_left
      · intro w hSw; (try dsimp only at hSw); go_simp; all_goals (with_reducible rfl)
      try simp only [Act.put, List.setIfInBounds_toArray, List.set_cons_zero, List.set_cons_succ]
      refine wpAnyH_here 63 (v := ?_) rfl (by kernel_rfl) (by kernel_rfl) (by kernel_rfl) (fun _ _ _ h => h) (Or.inl ⟨by rfl, ?_⟩) hHeld ?_
      rotate_left
      · intro w hSw; (try dsimp only at hSw); go_simp; all_goals (with_reducible rfl)
      try simp only [Act.put, List.setIfInBounds_toArray, List.set_cons_zero, List.set_cons_succ]
      refine wpAnyH_here 64 (v := ?_) rfl (by kernel_rfl) (by kernel_rfl) (by kernel_rfl) (fun _ _ _ h => h) (Or.inl ⟨by rfl, ?_⟩) hHeld ?_
      rotate_left
      · intro w hSw; (try dsimp only at hSw); go_simp; all_goals (with_reducible rfl)
      try simp only [Act.put, List.setIfInBounds_toArray, List.set_cons_zero, List.set_cons_succ]
      refine wpAnyH_here 65 (v := ?_) rfl (by kernel_rfl) (by kernel_rfl) (by kernel_rfl) (fun _ _ _ h => h) (Or.inl ⟨by rfl, ?_⟩) hHeld ?_
      rotate_left
      · intro w hSw; (try dsimp only at hSw); go_simp; all_goals (with_reducible rfl)
      try simp only [Act.put, List.setIfInBounds_toArray, List.set_cons_zero, List.set_cons_succ]
      refine wpAnyH_here 66 (v := ?_) rfl (by kernel_rfl) (by kernel_rfl) (by kernel_rfl) (fun _ _ _ h => h) (Or.inl ⟨by rfl, ?_⟩) hHeld ?_
      rotate_left
      · intro w hSw; (try dsimp only at hSw); go_simp; all_goals (with_reducible rfl)
      try simp only [Act.put, List.setIfInBounds_toArray, List.set_cons_zero, List.set_cons_succ]
      refine wpAnyH_here 67 (v := ?_) rfl (by kernel_rfl) (by kernel_rfl) (by kernel_rfl) (fun _ _ _ h => h) (Or.inl ⟨by rfl, ?_⟩) hHeld ?_
      rotate_left
      · intro w hSw; (try dsimp only at hSw); go_simp; all_goals (with_reducible rfl)
      try simp only [Act.put, List.setIfInBounds_toArray, List.set_cons_zero, List.set_cons_succ]
      refine wpAnyH_here 68 (v := ?_) rfl (by kernel_rfl) (by kernel_rfl) (by kernel_rfl) (fun _ _ _ h => h) (Or.inl ⟨by rfl, ?_⟩) hHeld ?_
      rotate_left
      · intro w hSw; (try dsimp only at hSw); go_simp; all_goals (with_reducible rfl)
      try simp only [Act.put, List.setIfInBounds_toArray, List.set_cons_zero, List.set_cons_succ]
      refine wpAnyH_here 69 (v := ?_) rfl (by kernel_rfl) (by kernel_rfl) (by kernel_rfl) (fun _ _ _ h => h) (Or.inl ⟨by rfl, ?_⟩) hHeld ?_
      rotate_left
      · intro w hSw; (try dsimp only at hSw); go_simp; all_goals (with_reducible rfl)
      try simp only [Act.put, List.setIfInBounds_toArray, List.set_cons_zero, List.set_cons_succ]
      refine wpAnyH_here 70 (v := ?_) rfl (by kernel_rfl) (by kernel_rfl) (by kernel_rfl) (fun _ _ _ h => h) (Or.inl ⟨by rfl, ?_⟩) hHeld ?_
      rotate_left
      · intro w hSw; (try dsimp only at hSw); go_simp; all_goals (with_reducible rfl)
      try simp only [Act.put, List.setIfInBounds_toArray, List.set_cons_zero, List.set_cons_succ]
      as_aux_lemma =>
        refine wpAnyH_here 71 (v := ?_) rfl (by kernel_rfl) (by kernel_rfl) (by kernel_rfl) (fun _ _ _ h => h) (Or.inl ⟨by rfl, ?_⟩) hHeld ?_
        rotate_left
        · intro w hSw; (try dsimp only at hSw); go_simp; all_goals (with_reducible rfl)
        try simp only [Act.put, List.setIfInBounds_toArray, List.set_cons_zero, List.set_cons_succ]
        refine wpAnyH_alone 72 rfl (by kernel_rfl) (fun K hK => ?_)
        go_simp
        refine (yunlock_any 5 1 _).mono ?_; rintro e v1 ⟨Au, cu, rfl, ru, bu⟩; have b1 := (drewN_below W17 1).trans bu
        refine hK.out _ _ (HS.out _ b1) (fun hHeld => ?_)
        clear hK K
        try simp only [Act.put, List.setIfInBounds_toArray, List.set_cons_zero, List.set_cons_succ]
        refine wpAnyH_alone 73 rfl (by kernel_rfl) (fun K hK => ?_)
        go_simp
        refine (ysame_any true true 5 1 0 _ _ [0#8] 1 _ _ v1 (rdX.later b1) ru).mono ?_; rintro e v2 ⟨rfl, b2'⟩; have b2 := b1.trans (b2'.mono b1.size)
        refine hK.out _ _ (HS.out _ b2) (fun hHeld => ?_)
        clear hK K
        try simp only [Act.put, List.setIfInBounds_toArray, List.set_cons_zero, List.set_cons_succ]
        refine wpAnyH_here 74 (v := ?_) rfl (by kernel_rfl) (by kernel_rfl) (by kernel_rfl) (fun _ _ _ h => h) (Or.inl ⟨by rfl, ?_⟩) hHeld ?_
        rotate_left
        · intro w hSw; (try dsimp only at hSw); go_simp; all_goals (with_reducible rfl)
        try simp only [Act.put, List.setIfInBounds_toArray, List.set_cons_zero, List.set_cons_succ]
        refine wpAnyH_here 75 (v := ?_) rfl (by kernel_rfl) (by kernel_rfl) (by kernel_rfl) (fun _ _ _ h => h) (Or.inl ⟨by rfl, ?_⟩) hHeld ?_
        rotate_left
        · intro w hSw; (try dsimp only at hSw); go_simp; all_goals (with_reducible rfl)
        try simp only [Act.put, List.setIfInBounds_toArray, List.set_cons_zero, List.set_cons_succ]
        refine wpAnyH_here 76 (v := ?_) rfl (by kernel_rfl) (by kernel_rfl) (by kernel_rfl) (fun _ _ _ h => h) (Or.inl ⟨by rfl, ?_⟩) hHeld ?_
        rotate_left
        · intro w hSw; (try dsimp only at hSw); go_simp; all_goals (with_reducible rfl)
        try simp only [Act.put, List.setIfInBounds_toArray, List.set_cons_zero, List.set_cons_succ]
        as_aux_lemma =>
          refine wpAnyH_alone 77 rfl (by kernel_rfl) (fun K hK => ?_)
          go_simp
          refine (ysetNext_yes 5 1 1#8 _).mono ?_; rintro e v3 ⟨Av, cv, rfl, rv, b3'⟩; have b3 := b2.trans (b3'.mono b2.size)
          refine hK.out _ _ (HS.out _ b3) (fun hHeld => ?_)
          clear hK K
          try simp only [Act.put, List.setIfInBounds_toArray, List.set_cons_zero, List.set_cons_succ]
          refine wpAnyH_alone 78 rfl (by kernel_rfl) (fun K hK => ?_)
          go_simp
          refine (ysame_any true true 5 1 0 _ _ [130#8, 0#8, 1#8] 3 _ _ v3 (rdY.later b3) rv).mono ?_; rintro e v4 ⟨rfl, b4'⟩; have b4 := b3.trans (b4'.mono b3.size)
          refine hK.out _ _ (HS.out _ b4) (fun hHeld => ?_)
          clear hK K
          try simp only [Act.put, List.setIfInBounds_toArray, List.set_cons_zero, List.set_cons_succ]
          refine wpAnyH_here 79 (v := ?_) rfl (by kernel_rfl) (by kernel_rfl) (by kernel_rfl) (fun _ _ _ h => h) (Or.inl ⟨by rfl, ?_⟩) hHeld ?_
          rotate_left
          · intro w hSw; (try dsimp only at hSw); go_simp; all_goals (with_reducible rfl)
          try simp only [Act.put, List.setIfInBounds_toArray, List.set_cons_zero, List.set_cons_succ]
          refine wpAnyH_here 80 (v := ?_) rfl (by kernel_rfl) (by kernel_rfl) (by kernel_rfl) (fun _ _ _ h => h) (Or.inl ⟨by rfl, ?_⟩) hHeld ?_
          rotate_left
          · intro w hSw; (try dsimp only at hSw); go_simp; all_goals (with_reducible rfl)
          try simp only [Act.put, List.setIfInBounds_toArray, List.set_cons_zero, List.set_cons_succ]
          refine wpAnyH_here 81 (v := ?_) rfl (by kernel_rfl) (by kernel_rfl) (by kernel_rfl) (fun _ _ _ h => h) (Or.inl ⟨by rfl, ?_⟩) hHeld ?_
          rotate_left
          · intro w hSw; (try dsimp only at hSw); go_simp; all_goals (with_reducible rfl)
          try simp only [Act.put, List.setIfInBounds_toArray, List.set_cons_zero, List.set_cons_succ]
          refine wpAnyH_alone 82 rfl (by kernel_rfl) (fun K hK => ?_)
          go_simp
          refine (p.below b4).state_.mono ?_; rintro e v5 ⟨rfl, rfl⟩
          refine hK.out _ _ (HS.out _ b4) (fun hHeld => ?_)
          clear hK K
          try simp only
          refine wpAnyH_here 83 (v := ?_) rfl (by kernel_rfl) (by kernel_rfl) (by kernel_rfl) (fun _ _ _ h => h) (Or.inl ⟨by rfl, ?_⟩) hHeld ?_
          rotate_left
          · intro w hSw; (try dsimp only at hSw); go_simp; all_goals (with_reducible rfl)
          try simp only [Act.put, List.setIfInBounds_toArray, List.set_cons_zero, List.set_cons_succ]
          refine wpAnyH_here 84 (v := ?_) rfl (by kernel_rfl) (by kernel_rfl) (by kernel_rfl) (fun _ _ _ h => h) (Or.inl ⟨by rfl, ?_⟩) hHeld ?_
          rotate_left
          · intro w hSw; (try dsimp only at hSw); go_simp; all_goals (with_reducible rfl)
          try simp only [Act.put, List.setIfInBounds_toArray, List.set_cons_zero, List.set_cons_succ]
          refine wpAnyH_here 85 (v := ?_) rfl (by kernel_rfl) (by kernel_rfl) (by kernel_rfl) (fun _ _ _ h => h) (Or.inl ⟨by rfl, ?_⟩) hHeld ?_
          rotate_left
          · intro w hSw; (try dsimp only at hSw); go_simp; all_goals (with_reducible rfl)
          try simp only [Act.put, List.setIfInBounds_toArray, List.set_cons_zero, List.set_cons_succ]
          refine wpAnyH_here 86 (v := ?_) rfl (by kernel_rfl) (by kernel_rfl) (by kernel_rfl) (fun _ _ _ h => h) (Or.inl ⟨by rfl, ?_⟩) hHeld ?_
          rotate_left
          · intro w hSw; (try dsimp only at hSw); go_simp; all_goals (with_reducible rfl)
          try simp only [Act.put, List.setIfInBounds_toArray, List.set_cons_zero, List.set_cons_succ]
          refine wpAnyH_alone 87 rfl (by kernel_rfl) (fun K hK => ?_)
          go_simp
          refine (p.below b4).queued_.mono ?_; rintro e v5 ⟨rfl, rfl⟩
          refine hK.out _ _ (HS.out _ b4) (fun hHeld => ?_)
          clear hK K
          try simp only
          refine wpAnyH_here 88 (v := ?_) rfl (by kernel_rfl) (by kernel_rfl) (by kernel_rfl) (fun _ _ _ h => h) (Or.inl ⟨by rfl, ?_⟩) hHeld ?_
          rotate_left
          · intro w hSw; (try dsimp only at hSw); go_simp; all_goals (with_reducible rfl)
          try simp only [Act.put, List.setIfInBounds_toArray, List.set_cons_zero, List.set_cons_succ]
          refine wpAnyH_here 89 (v := ?_) rfl (by kernel_rfl) (by kernel_rfl) (by kernel_rfl) (fun _ _ _ h => h) (Or.inl ⟨by rfl, ?_⟩) hHeld ?_
          rotate_left
          · intro w hSw; (try dsimp only at hSw); go_simp; all_goals (with_reducible rfl)
          try simp only [Act.put, List.setIfInBounds_toArray, List.set_cons_zero, List.set_cons_succ]
          refine wpAnyH_here 90 (v := ?_) rfl (by kernel_rfl) (by kernel_rfl) (by kernel_rfl) (fun _ _ _ h => h) (Or.inl ⟨by rfl, ?_⟩) hHeld ?_
          rotate_left
          · intro w hSw; (try dsimp only at hSw); go_simp; all_goals (with_reducible rfl)
          try simp only [Act.put, List.setIfInBounds_toArray, List.set_cons_zero, List.set_cons_succ]
          refine wpAnyH_here 91 (v := ?_) rfl (by kernel_rfl) (by kernel_rfl) (by kernel_rfl) (fun _ _ _ h => h) (Or.inl ⟨by rfl, ?_⟩) hHeld ?_
          rotate_left
          · intro w hSw; (try dsimp only at hSw); go_simp; all_goals (with_reducible rfl)
          try simp only [Act.put, List.setIfInBounds_toArray, List.set_cons_zero, List.set_cons_succ]
          refine wpAnyH_alone 92 rfl (by kernel_rfl) (fun K hK => ?_)
          go_simp
          refine (p.below b4).acked_.mono ?_; rintro e v5 ⟨rfl, rfl⟩
          refine hK.out _ _ (HS.out _ b4) (fun hHeld => ?_)
          clear hK K
          try simp only
          refine wpAnyH_here 93 (v := ?_) rfl (by kernel_rfl) (by kernel_rfl) (by kernel_rfl) (fun _ _ _ h => h) (Or.inl ⟨by rfl, ?_⟩) hHeld ?_
          rotate_left
          · intro w hSw; (try dsimp only at hSw); go_simp; all_goals (with_reducible rfl)
          try simp only [Act.put, List.setIfInBounds_toArray, List.set_cons_zero, List.set_cons_succ]
          refine wpAnyH_here 94 (v := ?_) rfl (by kernel_rfl) (by kernel_rfl) (by kernel_rfl) (fun _ _ _ h => h) (Or.inl ⟨by rfl, ?_⟩) hHeld ?_
          rotate_left
          · intro w hSw; (try dsimp only at hSw); go_simp; all_goals (with_reducible rfl)
          try simp only [Act.put, List.setIfInBounds_toArray, List.set_cons_zero, List.set_cons_succ]
          refine wpAnyH_here 95 (v := ?_) rfl (by kernel_rfl) (by kernel_rfl) (by kernel_rfl) (fun _ _ _ h => h) (Or.inl ⟨by rfl, ?_⟩) hHeld ?_
          rotate_left
          · intro w hSw; (try dsimp only at hSw); go_simp; all_goals (with_reducible rfl)
          try simp only [Act.put, List.setIfInBounds_toArray, List.set_cons_zero]
          refine wpAnyH_done (by kernel_rfl) ?_ _
          go_wp2
          go_ret
          exact ⟨rfl, (p.below b4).b⟩
end Go.Proofs.Ytdpjjhbfhlmolaa.Fop

/-
  The law FopNil.
-/
namespace Go.Proofs.Ytdpjjhbfhlmolaa.Fop
open Go.RowKit
open Pac (bel_new Cel.later)

set_option maxRecDepth 100000 in
set_option maxHeartbeats 4000000 in
theorem fopNil_any (a : Option Addr) (n c : Nat) (ch : Int) (lk wt rt : Bool) (bp nx now : Int) (w : World) :
    Calls Try.prog 7 #[.slice a n c, .agg #[.int .i64 ch, .bool lk, .bool wt, .bool rt, .int .i64 bp, .int .i64 nx], .int .i64 now] w fun e w' => e = .returned (.bool true) ∧ Below w.heap.size w w' := by
  obtain ⟨w1, hw1⟩ : ∃ w1, w1 = w.alloc (.cells #[.int .i64 ch, .bool lk, .bool wt, .bool rt, .int .i64 bp, .int .i64 nx] 35) := ⟨_, rfl⟩
  have b1 : Below w.heap.size w w1 := by rw [hw1]; exact bel_new _ _
  have hR1 : Cel w1 w.heap.size 35 #[.int .i64 ch, .bool lk, .bool wt, .bool rt, .int .i64 bp, .int .i64 nx] := by rw [hw1]; exact Cel.new _ _ _
  by_cases hbig : 1100 < n
  · have g1 : decide ((1100 : Int) < (n : Int)) = true := by simp; omega
    have g2 : decide (1100 < n) = true := by simp; omega
    clear hbig hR1
    go_enter Try.func7, Try.ntmps7
    go_wp2_with fail
    rw [← hw1]
    refine (alive17_any w1).mono ?_
    rintro e w2 ⟨rfl, b2⟩
    go_wp2
    go_ret
    exact ⟨rfl, b1.trans (b2.mono b1.size)⟩
  · have g1 : decide ((1100 : Int) < (n : Int)) = false := by simp; omega
    have g2 : decide (1100 < n) = false := by simp; omega
    obtain ⟨w2, hw2⟩ : ∃ w2, w2 = w1.alloc (.cells #[.int .i64 0, .slice none 0 0, .int .i64 0, .int .i64 0, .int .i64 0, .int .i64 0, .int .i64 0, .int .i64 0, .int .i64 0, .int .i64 0, .int .i64 0, .int .i64 0, .int .i64 0, .int .i64 0] 70) := ⟨_, rfl⟩
    have b2 : Below w1.heap.size w1 w2 := by rw [hw2]; exact bel_new _ _
    have c2 := b1.trans (b2.mono b1.size)
    obtain ⟨z, hz⟩ : ∃ z, z = w1.heap.size := ⟨_, rfl⟩
    have hZ2 : Cel w2 z 70 #[.int .i64 0, .slice none 0 0, .int .i64 0, .int .i64 0, .int .i64 0, .int .i64 0, .int .i64 0, .int .i64 0, .int .i64 0, .int .i64 0, .int .i64 0, .int .i64 0, .int .i64 0, .int .i64 0] := by rw [hw2, hz]; exact Cel.new _ _ _
    have hR2 := Cel.later hR1 b2
    have dz2 : Dead w2 (some ⟨z, 0, none⟩) := .inr ⟨z, rfl, by have := hZ2.cell 9; simpa using this, hZ2.lt⟩
    have hz' : w.heap.size + 1 = z := by rw [hz, hw1]; simp
    rw [hw1] at hw2
    clear hbig b1 b2 hR1 hZ2 hw1 hz
    go_enter Try.func7, Try.ntmps7
    go_wp2_with fail
    rw [← hw2]
    clear hw2 hz'
    refine (next_dead now w2 none (.inl rfl)).mono ?_
    rintro e w3 ⟨rfl, b3⟩
    obtain ⟨W3, hW3⟩ : ∃ W3, W3 = w3.alloc (.cells #[.bool false, .bool false, .int .i64 0, .int .i64 0, .int .i64 0, .slice none 0 0] 43) := ⟨_, rfl⟩
    have b3' : Below w2.heap.size w2 W3 := by rw [hW3]; exact b3.trans ((bel_new _ _).mono b3.size)
    have dz3 := dz2.below b3'
    have hR3 := Cel.later hR2 b3'
    have c3 := c2.trans (b3'.mono c2.size)
    clear b3 b3' dz2 hR2 c2
    go_wp2_with fail
    rw [← hW3]
    clear hW3
    refine (next_dead now W3 _ dz3).mono ?_
    rintro e w4 ⟨rfl, b4⟩
    obtain ⟨W4, hW4⟩ : ∃ W4, W4 = w4.alloc (.cells #[.bool false, .bool false, .int .i64 0, .int .i64 0, .int .i64 0, .slice none 0 0] 43) := ⟨_, rfl⟩
    have b4' : Below W3.heap.size W3 W4 := by rw [hW4]; exact b4.trans ((bel_new _ _).mono b4.size)
    have dz4 := dz3.below b4'
    have hR4 := Cel.later hR3 b4'
    have c4 := c3.trans (b4'.mono c3.size)
    clear b4 b4' dz3 hR3 c3
    go_wp2_with fail
    rw [← hW4]
    clear hW4
    refine (send_dead a n c W4 none (.inl rfl)).mono ?_
    rintro e w5 ⟨rfl, rfl⟩
    go_wp2_with fail
    refine (send_dead a n c W4 _ dz4).mono ?_
    rintro e w5 ⟨rfl, rfl⟩
    have r0 := hR4.cell 0
    have r1 := hR4.cell 1
    have r2 := hR4.cell 2
    have r3 := hR4.cell 3
    have r4 := hR4.cell 4
    have r5 := hR4.cell 5
    simp at r0 r1 r2 r3 r4 r5
    go_wp2_with fail
    refine (report_dead ch lk wt rt bp nx now W4 none (.inl rfl)).mono ?_
    rintro e w5 ⟨rfl, b5⟩
    have dz5 := dz4.below b5
    have c5 := c4.trans (b5.mono c4.size)
    clear dz4 c4 hR4 r0 r1 r2 r3 r4 r5
    go_wp2_with fail
    refine (unlock_dead now w5 _ dz5).mono ?_
    rintro e w6 ⟨rfl, rfl⟩
    go_wp2_with fail
    refine (state_dead w5 none (.inl rfl)).mono ?_
    rintro e w6 ⟨rfl, rfl⟩
    go_wp2_with fail
    refine (state_dead w5 _ dz5).mono ?_
    rintro e w6 ⟨rfl, rfl⟩
    go_wp2_with fail
    refine (queued_dead w5 none (.inl rfl)).mono ?_
    rintro e w6 ⟨rfl, rfl⟩
    go_wp2_with fail
    refine (acked_dead w5 _ dz5).mono ?_
    rintro e w6 ⟨rfl, rfl⟩
    go_wp2_with fail
    refine (fclone_dead w5 none (.inl rfl)).mono ?_
    rintro e w6 ⟨rfl, rfl⟩
    go_wp2_with fail
    refine (fclone_dead w5 _ dz5).mono ?_
    rintro e w6 ⟨rfl, rfl⟩
    go_wp2_with fail
    refine (alive17_any w5).mono ?_
    rintro e w7 ⟨rfl, b7⟩
    go_wp2
    go_ret
    exact ⟨rfl, c5.trans (b7.mono c5.size)⟩
end Go.Proofs.Ytdpjjhbfhlmolaa.Fop

/-
  Plain mathematics of a sending end that hears nothing: it sends all units again and again, then it stops.
-/
namespace Go.Proofs.Ytdpjjhbfhlmolaa.Fop
open Go.Proofs.Ytdpjjhbfhlmolaa.Tcf (Fr)

/-- n units of a byte each: their numbers -/
def un (n : Nat) : List (List Byte) := (List.range n).map fun i => [BitVec.ofNat 8 i]
theorem un_len (n : Nat) : (un n).length = n := by simp [un]
theorem un_succ (n : Nat) : un (n + 1) = un n ++ [[BitVec.ofNat 8 n]] := by simp [un, List.range_succ]
theorem un_at {n k : Nat} (h : k < n) : (un n)[k]? = some [BitVec.ofNat 8 k] := by simp [un, h]
/-- n units queued -/
def sq0 (n : Nat) : Fs := ⟨un n, 0, 0, 0, 1, 0, 0, 0, 0⟩
theorem snd_un {n : Nat} (h : n < 256) : snd [BitVec.ofNat 8 n] (sq0 n) = (0, sq0 (n + 1)) := by
  unfold snd sq0
  rw [if_neg (by simp), if_neg (by rw [un_len]; omega), un_succ]

/-- N units, K repetitions, timeout T; 'many' frames were sent before tick t -/
structure Stp (N : Nat) (K T t many : Int) (s : Fs) : Prop where
  us : s.us = un N
  ac : s.ac = 0
  ct : s.ct = 0
  nw : s.nw ≤ t
  d : (s.st = 1 ∧ 0 ≤ s.rp ∧ s.rp ≤ K ∧ many = s.rp * N + s.fl ∧ 0 ≤ s.fl ∧ s.fl ≤ N ∧ ((s.fl < N ∧ t = s.rp * (N - 1 + T) + s.fl) ∨ (s.fl = N ∧ s.tm = s.rp * (N - 1 + T) + (N - 1) ∧ s.tm + 1 ≤ t ∧ t ≤ s.tm + T))) ∨ (s.st = 4 ∧ many = N * (K + 1) ∧ t ≤ (K + 1) * (N - 1 + T) + 1)
section
variable {N : Nat} {K T t many : Int} {s : Fs}
theorem Stp.start (h : 1 ≤ N) (hK : 0 ≤ K) : Stp N K T 0 0 (sq0 N) := ⟨rfl, rfl, rfl, Int.le_refl _, .inl ⟨rfl, Int.le_refl _, hK, by show (0 : Int) = 0 * N + 0; omega, Int.le_refl _, by show (0 : Int) ≤ N; omega, .inl ⟨by show (0 : Int) < N; omega, by show (0 : Int) = 0 * _ + 0; omega⟩⟩⟩
theorem Stp.bound (h : Stp N K T t many s) (_h1 : 1 ≤ N) (hT : 1 ≤ T) (_hK : 0 ≤ K) (hs : s.st = 1) : t ≤ (K + 1) * (N - 1 + T) := by
  rcases h.d with ⟨_, r0, r1, _, f0, f1, hd⟩ | ⟨h4, _⟩
  · have hm : s.rp * (N - 1 + T) ≤ K * (N - 1 + T) := Int.mul_le_mul_of_nonneg_right r1 (by omega)
    have he : (K + 1) * (N - 1 + T) = K * (N - 1 + T) + (N - 1 + T) := by rw [Int.add_mul, Int.one_mul]
    rw [he]
    rcases hd with ⟨_, e⟩ | ⟨_, _, _, _⟩
    · omega
    · omega
  · rw [hs] at h4; cases h4
theorem mod_at {r n f : Int} (h0 : 0 ≤ f) (h1 : f < n) : (r * n + f) % n = f := by
  rw [Int.add_comm, Int.add_mul_emod_self_right]
  exact Int.emod_eq_of_lt h0 h1
/-- a tick -/
theorem Stp.tick (h : Stp N K T t many s) (h1 : 1 ≤ N) (h9 : N ≤ 9) (hT : 1 ≤ T) (hK : 0 ≤ K) (hs : s.st = 1) (ht : 0 ≤ t) (ht2 : t ≤ 100000) :
    (∃ s', nxt 5 1 9 T K t s = ((zr, false), s') ∧ Stp N K T (t + 1) many s') ∨
    (∃ (q : Int) (b : Byte) (s' : Fs), nxt 5 1 9 T K t s = ((⟨false, false, 5, 1, q, [b]⟩, true), s') ∧ q = many % N ∧ 0 ≤ many ∧ Stp N K T (t + 1) (many + 1) s') := by
  have hb := h.bound h1 hT hK hs
  rcases h.d with ⟨_, r0, r1, hm, f0, f1, hd⟩ | ⟨h4, _⟩
  rotate_left
  · rw [hs] at h4; cases h4
  have e1 : (adv t s).us = un N := by rw [adv_us]; exact h.us
  have e2 : (adv t s).fl = s.fl := adv_fl
  have e3 : (adv t s).ac = 0 := by rw [adv_ac]; exact h.ac
  have e4 : (adv t s).tm = s.tm := adv_tm
  have e5 : (adv t s).rp = s.rp := adv_rp
  have e6 : (adv t s).st = 1 := by rw [adv_st]; exact hs
  have e7 : (adv t s).ct = 0 := by rw [adv_ct]; exact h.ct
  have e8 : (adv t s).nw = t := by
    have := h.nw
    unfold adv
    split
    · rfl
    · omega
  obtain ⟨s1, hs1⟩ : ∃ s1, s1 = adv t s := ⟨_, rfl⟩
  have hN : nxt 5 1 9 T K t s = nxd 5 1 9 T K s1 := by unfold nxt nxc; rw [← hs1, if_neg (by rw [hs1, e7]; decide)]
  rw [← hs1] at e1 e2 e3 e4 e5 e6 e7 e8
  have hul : s1.us.length = N := by rw [e1, un_len]
  have hz : ¬ (s1.st ≠ 1 ∨ s1.us.length = 0) := by rw [e6, hul]; omega
  have hnn : 0 ≤ s.rp * (N : Int) := Int.mul_nonneg r0 (by omega)
  by_cases hf : s.fl < N
  · have ht' : t = s.rp * (N - 1 + T) + s.fl := by
      rcases hd with ⟨_, e⟩ | ⟨e, _⟩
      · exact e
      · omega
    obtain ⟨k, hk⟩ : ∃ k : Nat, s.fl = (k : Int) := ⟨s.fl.toNat, by omega⟩
    refine .inr ⟨s.fl, BitVec.ofNat 8 k, fly s1, ?_, by rw [hm, mod_at f0 hf], by omega, ?_⟩
    · rw [hN]; unfold nxd; rw [if_neg hz, if_pos (by rw [e2, hul]; omega)]
      have e : lau 5 1 s1 = ⟨false, false, 5, 1, s.fl, [BitVec.ofNat 8 k]⟩ := by
        unfold lau
        rw [e1, e2, e3, hk, Int.zero_add, Int.toNat_natCast, List.getD_eq_getElem?_getD, un_at (by omega), Int.emod_eq_of_lt (by omega) (by omega)]; rfl
      rw [e]
    · refine ⟨e1, e3, e7, by show s1.nw ≤ _; omega, .inl ⟨e6, by show 0 ≤ s1.rp; rw [e5]; exact r0, by show s1.rp ≤ K; rw [e5]; exact r1, by show _ = s1.rp * _ + (s1.fl + 1); rw [e5, e2]; omega, by show 0 ≤ s1.fl + 1; omega, by show s1.fl + 1 ≤ _; omega, ?_⟩⟩
      by_cases hl : s.fl + 1 < N
      · exact .inl ⟨by show s1.fl + 1 < _; omega, by show _ = s1.rp * _ + (s1.fl + 1); rw [e5, e2]; omega⟩
      · exact .inr ⟨by show s1.fl + 1 = _; omega, by show s1.nw = s1.rp * _ + _; rw [e5, e8]; omega, by show s1.nw + 1 ≤ _; omega, by show _ ≤ s1.nw + T; omega⟩
  · have hfN : s.fl = N := by omega
    obtain ⟨ht1, ht2', ht3⟩ : s.tm = s.rp * (N - 1 + T) + (N - 1) ∧ s.tm + 1 ≤ t ∧ t ≤ s.tm + T := by
      rcases hd with ⟨e, _⟩ | ⟨_, a, b, c⟩
      · omega
      · exact ⟨a, b, c⟩
    have hnf : ¬ s1.fl < min 9 (s1.us.length : Int) := by rw [e2, hul]; omega
    by_cases hw : s1.nw - s1.tm < T
    · refine .inl ⟨s1, ?_, ⟨e1, e3, e7, by omega, .inl ⟨e6, by rw [e5]; exact r0, by rw [e5]; exact r1, by rw [e5, e2]; exact hm, by rw [e2]; exact f0, by rw [e2]; exact f1, .inr ⟨by rw [e2]; exact hfN, by rw [e4, e5]; exact ht1, by rw [e4]; omega, by rw [e4]; omega⟩⟩⟩⟩
      rw [hN]; unfold nxd; rw [if_neg hz, if_neg hnf, if_pos hw]
    · by_cases hr : s1.rp = K
      · refine .inl ⟨{ s1 with st := 4 }, ?_, ⟨e1, e3, e7, by show s1.nw ≤ _; omega, .inr ⟨rfl, ?_, by omega⟩⟩⟩
        · rw [hN]; unfold nxd; rw [if_neg hz, if_neg hnf, if_neg hw, if_pos hr]
        · rw [hm, hfN, ← e5, hr, Int.mul_add, Int.mul_one, Int.mul_comm]
      · have hrk : s.rp + 1 ≤ K := by omega
        have hmm : many = (s.rp + 1) * N := by rw [hm, hfN, Int.add_mul, Int.one_mul]
        refine .inr ⟨0, BitVec.ofNat 8 0, fly { s1 with rp := s1.rp + 1, fl := 0 }, ?_, by rw [hmm, Int.mul_emod_left], by omega, ?_⟩
        · rw [hN]; unfold nxd; rw [if_neg hz, if_neg hnf, if_neg hw, if_neg hr]
          have e : lau 5 1 { s1 with rp := s1.rp + 1, fl := 0 } = ⟨false, false, 5, 1, 0, [BitVec.ofNat 8 0]⟩ := by
            unfold lau
            dsimp only
            rw [e1, e3, List.getD_eq_getElem?_getD, show (0 : Int).toNat = 0 from rfl, un_at (by omega)]; rfl
          rw [e]
        · have ex : (s.rp + 1) * (N - 1 + T) = s.rp * (N - 1 + T) + (N - 1 + T) := by rw [Int.add_mul, Int.one_mul]
          refine ⟨e1, e3, e7, by show s1.nw ≤ _; omega, .inl ⟨e6, by show 0 ≤ s1.rp + 1; omega, by show s1.rp + 1 ≤ K; omega, by show _ = (s1.rp + 1) * _ + (0 + 1); rw [e5, hmm]; omega, (by decide : (0 : Int) ≤ 0 + 1), by show (0 : Int) + 1 ≤ _; omega, ?_⟩⟩
          by_cases hl : (1 : Int) < N
          · exact .inl ⟨by show (0 : Int) + 1 < _; omega, by show _ = (s1.rp + 1) * _ + (0 + 1); rw [e5, ex]; omega⟩
          · exact .inr ⟨by show (0 : Int) + 1 = _; omega, by show s1.nw = (s1.rp + 1) * _ + _; rw [e5, e8, ex]; omega, by show s1.nw + 1 ≤ _; omega, by show _ ≤ s1.nw + T; omega⟩
/-- the loop's bound is never reached -/
theorem Stp.kb (h : Stp N K T t many s) (h1 : 1 ≤ N) (hT : 1 ≤ T) (hK : 0 ≤ K) (hs : s.st = 1) : t < (K + 2) * (T + N + 1) := by
  have hb := h.bound h1 hT hK hs
  have e : (K + 2) * (T + N + 1) = (K + 1) * (N - 1 + T) + ((N - 1 + T) + 2 * K + 4) := by
    simp only [Int.add_mul, Int.mul_add, Int.mul_sub, Int.mul_one, Int.one_mul]
    omega
  omega
end
end Go.Proofs.Ytdpjjhbfhlmolaa.Fop

/-
  The law FopStops.
-/
namespace Go.Proofs.Ytdpjjhbfhlmolaa.Fop
open Go.RowKit
open Pac (bel_new Cel.later)
open Tcf (Fr yunlock_any ysetNext_yes ysame_any)

theorem Stp.kb4 {N : Nat} {K T t many : Int} {s : Fs} (h : Stp N K T t many s) (h1 : 1 ≤ N) (hT : 1 ≤ T) (hK : 0 ≤ K) : t < (K + 2) * (T + N + 1) := by
  rcases h.d with ⟨hs, _⟩ | ⟨_, _, hb⟩
  · exact h.kb h1 hT hK hs
  · have e : (K + 2) * (T + N + 1) = (K + 1) * (N - 1 + T) + ((N - 1 + T) + 2 * K + 4) := by
      simp only [Int.add_mul, Int.mul_add, Int.mul_sub, Int.mul_one, Int.one_mul]
      omega
    omega
theorem Stp.end_ {N : Nat} {K T t many : Int} {s : Fs} (h : Stp N K T t many s) (h4 : s.st ≠ 1) : s.st = 4 ∧ many = N * (K + 1) := by
  rcases h.d with ⟨hs, _⟩ | ⟨a, b, _⟩
  · exact absurd hs h4
  · exact ⟨a, b⟩
/-- a unit of one byte as an argument -/
theorem rd_byte (q : Int) (w : World) (h0 : 0 ≤ q) (h1 : q ≤ 255) : Rd (w.alloc (.cells #[.int .u8 q] 5)) (some ⟨w.heap.size, 0, none⟩) [BitVec.ofNat 8 q.toNat] 1 1 :=
  ⟨rfl, Bs_new _ _ _ _ (by simp [BitVec.toNat_ofNat]; omega) _ (by simp) _, (fun h => nomatch h), by decide, by decide⟩

set_option maxRecDepth 100000 in
set_option maxHeartbeats 16000000 in
theorem fopStops_any (x y z : Int) (w : World) (hx : 0 ≤ x ∧ x ≤ 255) (hy : 0 ≤ y ∧ y ≤ 255) (hz : 0 ≤ z ∧ z ≤ 255) :
    Calls Try.prog 6 #[.int .u8 x, .int .u8 y, .int .u8 z] w fun e w' => e = .returned (.bool true) ∧ Below w.heap.size w w' := by
  obtain ⟨A5, hA⟩ : ∃ A5 : Nat, x % 5 = (A5 : Int) := ⟨(x % 5).toNat, by omega⟩
  have xa : x.tmod 5 = (A5 : Int) := by rw [Int.tmod_eq_emod_of_nonneg hx.1]; exact hA
  obtain ⟨N, hN⟩ : ∃ N, N = A5 + 1 := ⟨_, rfl⟩
  have hN1 : 1 ≤ N := by omega
  have hN9 : N ≤ 5 := by omega
  have xs : wrap64 ((A5 : Int) + 1) = (N : Int) := by rw [wr64 (by omega) (by omega)]; omega
  have xs2 : (A5 : Int) + 1 = (N : Int) := by omega
  obtain ⟨K, hK⟩ : ∃ K, K = y % 6 := ⟨_, rfl⟩
  have ya : y.tmod 6 = K := by rw [Int.tmod_eq_emod_of_nonneg hy.1]; exact hK.symm
  have yb : y % 6 = K := hK.symm
  have hK0 : 0 ≤ K := by omega
  have hK5 : K ≤ 5 := by omega
  obtain ⟨B7, hB⟩ : ∃ B7, B7 = z % 7 := ⟨_, rfl⟩
  have za : z.tmod 7 = B7 := by rw [Int.tmod_eq_emod_of_nonneg hz.1]; exact hB.symm
  have zb : z % 7 = B7 := hB.symm
  obtain ⟨T, hT⟩ : ∃ T, T = B7 + 1 := ⟨_, rfl⟩
  have hT1 : 1 ≤ T := by omega
  have hT7 : T ≤ 7 := by omega
  have zs : wrap64 (B7 + 1) = T := by rw [wr64 (by omega) (by omega)]; omega
  have zs2 : B7 + 1 = T := hT.symm
  have x1 := PO.new 5 1 9 T K w (K' := 5) (H' := 1) (W' := 9) (T' := T) (R' := K) (by decide) (by decide) (by decide) (by unfold clp; omega) (by unfold clp; omega)
  obtain ⟨K2, hK2⟩ : ∃ K2, K2 = K + 2 := ⟨_, rfl⟩
  have k2b : K + 2 = K2 := hK2.symm
  have k2 : wrap64 (K + 2) = K2 := by rw [wr64 (by omega) (by omega)]; omega
  obtain ⟨TN, hTN⟩ : ∃ TN, TN = T + (N : Int) := ⟨_, rfl⟩
  have tnb : T + (N : Int) = TN := hTN.symm
  have tn : wrap64 (T + (N : Int)) = TN := by rw [wr64 (by omega) (by omega)]; omega
  obtain ⟨TM, hTM⟩ : ∃ TM, TM = TN + 1 := ⟨_, rfl⟩
  have tmb : TN + 1 = TM := hTM.symm
  have tm : wrap64 (TN + 1) = TM := by rw [wr64 (by omega) (by omega)]; omega
  obtain ⟨KB, hKB⟩ : ∃ KB, KB = K2 * TM := ⟨_, rfl⟩
  have hKBle : 0 ≤ KB ∧ KB ≤ 91 := by
    have a : K2 * TM ≤ 7 * TM := Int.mul_le_mul_of_nonneg_right (by omega) (by omega)
    have b : 0 ≤ K2 * TM := Int.mul_nonneg (by omega) (by omega)
    omega
  have kbb : K2 * TM = KB := hKB.symm
  have kbw : wrap64 KB = KB := wr64 (by omega) (by omega)
  have kb : wrap64 (K2 * TM) = KB := by rw [wr64 (by omega) (by omega)]; exact hKB.symm
  have hKBe : KB = (K + 2) * (T + N + 1) := by rw [hKB, hTM, hTN, hK2]
  obtain ⟨K1, hK1⟩ : ∃ K1, K1 = K + 1 := ⟨_, rfl⟩
  have k1b : K + 1 = K1 := hK1.symm
  have k1 : wrap64 (K + 1) = K1 := by rw [wr64 (by omega) (by omega)]; omega
  obtain ⟨MM, hMM⟩ : ∃ MM, MM = (N : Int) * K1 := ⟨_, rfl⟩
  have hMle : 0 ≤ MM ∧ MM ≤ 30 := by
    have a : (N : Int) * K1 ≤ (N : Int) * 6 := Int.mul_le_mul_of_nonneg_left (by omega) (by omega)
    have b : 0 ≤ (N : Int) * K1 := Int.mul_nonneg (by omega) (by omega)
    omega
  have mmb : (N : Int) * K1 = MM := hMM.symm
  have mmw : wrap64 MM = MM := wr64 (by omega) (by omega)
  have mm : wrap64 ((N : Int) * K1) = MM := by rw [wr64 (by omega) (by omega)]; exact hMM.symm
  have hMe : MM = N * (K + 1) := by rw [hMM, hK1]
  have HKB := Lib.hid hKBe
  have HMM := Lib.hid hMe
  have HKle := Lib.hid hKBle
  have HN := Lib.hid (And.intro hN1 hN9)
  have HK := Lib.hid (And.intro hK0 hK5)
  have HT := Lib.hid (And.intro hT1 hT7)
  clear hA hN hK hB hT hK2 hTN hTM hKB hK1 hMM hKBle hMle hKBe hMe
  go_enter Try.func6, Try.ntmps6
  go_wp2_with fail
  refine x1.mono ?_
  rintro e w1 ⟨g, rfl, p⟩
  clear x1 xa xs xs2 ya yb za zb zs zs2 hx hy hz
  go_wp2_with fail
  go_loopw [11] (fun i wr => ∃ m : Nat, m ≤ N ∧ i = .int .i64 m ∧ ∃ O, PO w wr w.heap.size g O 5 1 9 T K (sq0 m)) (fun i _ => N - (intOf i).toNat)
  case atStart => exact ⟨0, Nat.zero_le _, rfl, none, p⟩
  case round =>
    obtain ⟨m, hm, rfl, O, q⟩ := hrel
    clear p
    by_cases hlt : m < N
    · obtain ⟨W2, hW2⟩ : ∃ W2, W2 = wr.alloc (.cells #[.int .u8 (m : Int)] 5) := ⟨_, rfl⟩
      have q2 := q.below (w' := W2) (by rw [hW2]; exact bel_new _ _)
      have rd : Rd W2 (some ⟨wr.heap.size, 0, none⟩) [BitVec.ofNat 8 m] 1 1 := by
        rw [hW2]; have := rd_byte (m : Int) wr (by omega) (by omega); rwa [Int.toNat_natCast] at this
      have m5 : m ≤ 5 := by omega
      clear q
      go_wp2_with fail
      rw [← hW2]
      clear hW2
      refine (q2.send_ rd (snd_un (by omega))).mono ?_
      rintro e w3 ⟨rfl, ⟨O3, q3, _⟩, _⟩
      clear q2 rd
      go_wp2
      go_roundw
      case rel => exact ⟨m + 1, hlt, by simp, O3, q3⟩
      case measure => simp [intOf]; omega
    · obtain rfl : m = N := by omega
      have hst := Stp.start (N := m) (K := K) (T := T) HN.out.1 HK.out.1
      have HS := Lib.hid hst
      clear hm hlt hst
      go_wp2_with fail
      go_loopw [12, 13, 14, 15] (fun yv tv _ _ wr => ∃ (t : Nat) (y : Int) (s : Fs) (O : Option Nat), yv = .int .i64 y ∧ tv = .int .i64 t ∧ t ≤ 91 ∧ PO w wr w.heap.size g O 5 1 9 T K s ∧ Hid (Stp m K T t y s)) (fun _ tv _ _ _ => 91 - (intOf tv).toNat)
      case atStart => exact ⟨0, 0, _, O, rfl, rfl, by decide, q, HS⟩
      case round =>
        obtain ⟨t, y, s, O2, rfl, rfl, ht91, p, hs⟩ := hrel
        clear q
        have htb := hs.out.kb4 HN.out.1 HT.out.1 HK.out.1
        rw [← HKB.out] at htb
        have g1 : decide ((t : Int) < KB) = true := by simpa using htb
        have ht90 : t ≤ 90 := by have := HKle.out; omega
        clear htb
        by_cases hst : s.st = 1
        · have hx := hs.out.tick HN.out.1 (by have := HN.out; omega) HT.out.1 HK.out.1 hst (by omega) (by omega)
          have xst := p.state_
          rw [hst] at xst
          have HX := Lib.hid hx
          clear hx hst
          go_wp2_with fail
          refine xst.mono ?_
          rintro e w4 ⟨rfl, rfl⟩
          clear xst
          rcases HX.out with ⟨s', hnx, hs'⟩ | ⟨q, b, s', hnx, hq, hy0, hs'⟩
          · have hnx' := Lib.hid hnx
            have Hs' := Lib.hid hs'
            clear HX hnx hs'
            go_wp2_with fail
            refine (p.next_ (t : Int) hnx'.out (m := 0) rfl).mono ?_
            rintro e w5 ⟨⟨A, c, rfl, r, _⟩, p5, _⟩
            obtain ⟨W5, hW5⟩ : ∃ W5, W5 = w5.alloc (.cells #[.bool false, .bool false, .int .i64 0, .int .i64 0, .int .i64 0, .slice A 0 c] 43) := ⟨_, rfl⟩
            have p6 := p5.below (w' := W5) (by rw [hW5]; exact bel_new _ _)
            clear p p5 r
            go_wp2
            rw [← hW5]
            clear hW5
            go_roundw
            case rel => exact ⟨t + 1, y, s', O2, rfl, by simp, by omega, p6, Lib.hid (by have := Hs'.out; simpa using this)⟩
            case measure => simp [intOf]; omega
          · have hnx' := Lib.hid hnx
            have Hs' := Lib.hid hs'
            obtain ⟨Q, hQ⟩ : ∃ Q, y % (m : Int) = Q := ⟨_, rfl⟩
            have z1 : y.tmod (m : Int) = Q := by rw [Int.tmod_eq_emod_of_nonneg hy0]; exact hQ
            have hqQ : q = Q := by rw [hq, hQ]
            subst hqQ
            have z3 : (q != q) = false := by simp
            have z4 : ((m : Int) == 0) = false := by have := HN.out; simp; omega
            have z5 : (m == 0) = false := by have := HN.out; simp; omega
            have z6 : ¬ ((m : Int) = 0) := by have := HN.out; omega
            have hy9 : y ≤ 1000 := by
              have := hs.out.d
              rcases this with ⟨_, r0, r1, e, f0, f1, _⟩ | ⟨_, e, _⟩
              · have a : s.rp * (m : Int) ≤ 5 * (m : Int) := Int.mul_le_mul_of_nonneg_right (by have := HK.out; omega) (by omega)
                have := HN.out; omega
              · have := HMM.out
                have a : (m : Int) * (K + 1) ≤ (m : Int) * 6 := Int.mul_le_mul_of_nonneg_left (by have := HK.out; omega) (by omega)
                have := HN.out; omega
            have z7 : wrap64 (y + 1) = y + 1 := wr64 (by omega) (by omega)
            clear HX hnx hs' hq z7
            go_wp2_with fail
            refine (p.next_ (t : Int) hnx'.out (m := 1) rfl).mono ?_
            rintro e w5 ⟨⟨A, c, rfl, r, _⟩, p5, _⟩
            obtain ⟨W5, hW5⟩ : ∃ W5, W5 = w5.alloc (.cells #[.bool false, .bool false, .int .i64 5, .int .i64 1, .int .i64 q, .slice A 1 c] 43) := ⟨_, rfl⟩
            have p6 := p5.below (w' := W5) (by rw [hW5]; exact bel_new _ _)
            have L : Cel W5 w5.heap.size 43 #[.bool false, .bool false, .int .i64 5, .int .i64 1, .int .i64 q, .slice A 1 c] := by rw [hW5]; exact Cel.new _ _ _
            have l4 := L.cell 4
            simp at l4
            have l4' := l4
            rw [hW5] at l4'
            clear p p5 r L
            go_wp2_with fail
            rw [← hW5]
            clear hW5 l4'
            go_quiet (fail)
            go_wp2
            go_roundw
            case rel => exact ⟨t + 1, y + 1, s', O2, rfl, by simp, by omega, p6.draws _, Lib.hid (by have := Hs'.out; simpa using this)⟩
            case measure => simp [intOf]; omega
        · have he := hs.out.end_ hst
          have xst := p.state_
          rw [he.1] at xst
          have hyM : y = MM := by rw [he.2, HMM.out]
          have hs' := hs
          subst hyM
          have z3 : (y != y) = false := by simp
          obtain ⟨us, fl, fr, ac, st, ct, rp, tmm, nw⟩ := s
          have e1 : us = un m := hs.out.us
          have e2 : ac = 0 := hs.out.ac
          have e3 : ct = 0 := hs.out.ct
          have e4 : st = 4 := he.1
          have e5 : nw ≤ t := hs.out.nw
          subst e1 e2 e3 e4
          have n1 : nxt 5 1 9 T K 9999 ⟨un m, fl, fr, 0, 4, 0, rp, tmm, nw⟩ = ((zr, false), ⟨un m, fl, fr, 0, 4, 0, rp, tmm, 9999⟩) := by
            have : adv 9999 ⟨un m, fl, fr, 0, 4, 0, rp, tmm, nw⟩ = ⟨un m, fl, fr, 0, 4, 0, rp, tmm, 9999⟩ := by unfold adv; rw [if_pos ⟨by simp only; omega, by decide⟩]
            unfold nxt; rw [this]; rfl
          have n2 : unl 9999 ⟨un m, fl, fr, 0, 4, 0, rp, tmm, 9999⟩ = ⟨un m, 0, 0, 0, 1, 2, 0, 9999, 9999⟩ := by
            have : adv 9999 ⟨un m, fl, fr, 0, 4, 0, rp, tmm, 9999⟩ = ⟨un m, fl, fr, 0, 4, 0, rp, tmm, 9999⟩ := by unfold adv; rw [if_neg (by simp)]
            unfold unl; rw [this]
          have n3 : nxt 5 1 9 T K 9999 ⟨un m, 0, 0, 0, 1, 2, 0, 9999, 9999⟩ = ((⟨true, true, 5, 1, 0, [0#8]⟩, true), ⟨un m, 0, 0, 0, 1, 1, 0, 9999, 9999⟩) := by
            have : adv 9999 ⟨un m, 0, 0, 0, 1, 2, 0, 9999, 9999⟩ = ⟨un m, 0, 0, 0, 1, 2, 0, 9999, 9999⟩ := by unfold adv; rw [if_neg (by simp)]
            unfold nxt; rw [this]; rfl
          have n4 : nxt 5 1 9 T K 9999 ⟨un m, 0, 0, 0, 1, 1, 0, 9999, 9999⟩ = ((⟨true, true, 5, 1, 0, [130#8, 0#8, 0#8]⟩, true), ⟨un m, 0, 0, 0, 1, 0, 0, 9999, 9999⟩) := by
            have : adv 9999 ⟨un m, 0, 0, 0, 1, 1, 0, 9999, 9999⟩ = ⟨un m, 0, 0, 0, 1, 1, 0, 9999, 9999⟩ := by unfold adv; rw [if_neg (by simp)]
            unfold nxt; rw [this]; rfl
          have n5 : nxt 5 1 9 T K 9999 ⟨un m, 0, 0, 0, 1, 0, 0, 9999, 9999⟩ = ((⟨false, false, 5, 1, 0, [0#8]⟩, true), ⟨un m, 1, 1, 0, 1, 0, 0, 9999, 9999⟩) := by
            have e0 : adv 9999 ⟨un m, 0, 0, 0, 1, 0, 0, 9999, 9999⟩ = ⟨un m, 0, 0, 0, 1, 0, 0, 9999, 9999⟩ := by unfold adv; rw [if_neg (by simp)]
            have hl : (un m).length = m := un_len m
            have h1 := HN.out.1
            unfold nxt nxc nxd
            rw [e0, if_neg (by simp), if_neg (by simp only; rw [hl]; omega), if_pos (by simp only; rw [hl]; omega)]
            have : lau 5 1 ⟨un m, 0, 0, 0, 1, 0, 0, 9999, 9999⟩ = ⟨false, false, 5, 1, 0, [0#8]⟩ := by
              unfold lau
              dsimp only
              rw [List.getD_eq_getElem?_getD, show (0 : Int).toNat = 0 from rfl, un_at (by omega)]; rfl
            rw [this]; rfl
          have H1 := Lib.hid n1
          have H2 := Lib.hid n2
          have H3 := Lib.hid n3
          have H4 := Lib.hid n4
          have H5 := Lib.hid n5
          clear n1 n2 n3 n4 n5 hs hs' he e5 hst HMM
          go_wp2_with fail
          refine xst.mono ?_
          rintro e w4 ⟨rfl, rfl⟩
          go_wp2_with fail
          refine xst.mono ?_
          rintro e w4 ⟨rfl, rfl⟩
          clear xst
          go_wp2_with fail
          refine (p.next_ 9999 H1.out (m := 0) rfl).mono ?_
          rintro e w5 ⟨⟨A5', c5, rfl, _, _⟩, p5, _⟩
          obtain ⟨W5, hW5⟩ : ∃ W5, W5 = w5.alloc (.cells #[.bool false, .bool false, .int .i64 0, .int .i64 0, .int .i64 0, .slice A5' 0 c5] 43) := ⟨_, rfl⟩
          have p6 := p5.below (w' := W5) (by rw [hW5]; exact bel_new _ _)
          clear p p5
          go_wp2_with fail
          rw [← hW5]
          clear hW5
          refine (p6.unlock_ 9999 H2.out).mono ?_
          rintro e w7 ⟨rfl, p7, _⟩
          clear p6
          go_wp2_with fail
          refine (p7.next_ 9999 H3.out (m := 1) rfl).mono ?_
          rintro e w8 ⟨⟨A8, c8, rfl, r8, _⟩, p8, _⟩
          obtain ⟨W8, hW8⟩ : ∃ W8, W8 = w8.alloc (.cells #[.bool true, .bool true, .int .i64 5, .int .i64 1, .int .i64 0, .slice A8 1 c8] 43) := ⟨_, rfl⟩
          have bn8 : Below w8.heap.size w8 W8 := by rw [hW8]; exact bel_new _ _
          have p9 := p8.below bn8
          have Lx : Cel W8 w8.heap.size 43 #[.bool true, .bool true, .int .i64 5, .int .i64 1, .int .i64 0, .slice A8 1 c8] := by rw [hW8]; exact Cel.new _ _ _
          have rdX := r8.later bn8
          clear p7 p8 r8 bn8
          go_wp2_with fail
          rw [← hW8]
          clear hW8
          refine (p9.next_ 9999 H4.out (m := 3) rfl).mono ?_
          rintro e w10 ⟨⟨A10, c10, rfl, r10, _⟩, p10, k10⟩
          have Lx10 := p9.kp1 k10 _ _ _ Lx (by decide) (by decide)
          have rdX10 := p9.rd rdX k10
          obtain ⟨W10, hW10⟩ : ∃ W10, W10 = w10.alloc (.cells #[.bool true, .bool true, .int .i64 5, .int .i64 1, .int .i64 0, .slice A10 3 c10] 43) := ⟨_, rfl⟩
          have bn10 : Below w10.heap.size w10 W10 := by rw [hW10]; exact bel_new _ _
          have p11 := p10.below bn10
          have Ly : Cel W10 w10.heap.size 43 #[.bool true, .bool true, .int .i64 5, .int .i64 1, .int .i64 0, .slice A10 3 c10] := by rw [hW10]; exact Cel.new _ _ _
          have rdY := r10.later bn10
          have Lx11 := Cel.later Lx10 bn10
          have rdX11 := rdX10.later bn10
          clear p9 p10 k10 Lx rdX Lx10 rdX10 r10 bn10
          go_wp2_with fail
          rw [← hW10]
          clear hW10
          refine (p11.next_ 9999 H5.out (m := 1) rfl).mono ?_
          rintro e w12 ⟨⟨A12, c12, rfl, r12, _⟩, p12, k12⟩
          have Lx12 := p11.kp1 k12 _ _ _ Lx11 (by decide) (by decide)
          have rdX12 := p11.rd rdX11 k12
          have Ly12 := p11.kp1 k12 _ _ _ Ly (by decide) (by decide)
          have rdY12 := p11.rd rdY k12
          obtain ⟨W12, hW12⟩ : ∃ W12, W12 = w12.alloc (.cells #[.bool false, .bool false, .int .i64 5, .int .i64 1, .int .i64 0, .slice A12 1 c12] 43) := ⟨_, rfl⟩
          have bn12 : Below w12.heap.size w12 W12 := by rw [hW12]; exact bel_new _ _
          have pz := p12.below bn12
          have Lz : Cel W12 w12.heap.size 43 #[.bool false, .bool false, .int .i64 5, .int .i64 1, .int .i64 0, .slice A12 1 c12] := by rw [hW12]; exact Cel.new _ _ _
          have Lx13 := Cel.later Lx12 bn12
          have rdX13 := rdX12.later bn12
          have Ly13 := Cel.later Ly12 bn12
          have rdY13 := rdY12.later bn12
          clear p11 p12 k12 Lx11 rdX11 Lx12 rdX12 Ly rdY Ly12 rdY12 r12 bn12 H1 H2 H3 H4 H5
          have hS : ∀ W, Below W12.heap.size W12 W → (W.cell? ⟨w8.heap.size, 0, none⟩ = some (.bool true) ∧ W.cell? ⟨w8.heap.size, 1, none⟩ = some (.bool true) ∧ W.cell? ⟨w8.heap.size, 2, none⟩ = some (.int .i64 5) ∧ W.cell? ⟨w8.heap.size, 3, none⟩ = some (.int .i64 1) ∧ W.cell? ⟨w8.heap.size, 4, none⟩ = some (.int .i64 0) ∧ W.cell? ⟨w8.heap.size, 5, none⟩ = some (.slice A8 1 c8) ∧ W.cell? ⟨w10.heap.size, 0, none⟩ = some (.bool true) ∧ W.cell? ⟨w10.heap.size, 1, none⟩ = some (.bool true) ∧ W.cell? ⟨w10.heap.size, 2, none⟩ = some (.int .i64 5) ∧ W.cell? ⟨w10.heap.size, 3, none⟩ = some (.int .i64 1) ∧ W.cell? ⟨w10.heap.size, 4, none⟩ = some (.int .i64 0) ∧ W.cell? ⟨w10.heap.size, 5, none⟩ = some (.slice A10 3 c10) ∧ W.cell? ⟨w12.heap.size, 1, none⟩ = some (.bool false) ∧ W.cell? ⟨w12.heap.size, 4, none⟩ = some (.int .i64 0)) := by
            intro W b
            exact ⟨(Cel.later Lx13 b).cell 0, (Cel.later Lx13 b).cell 1, (Cel.later Lx13 b).cell 2, (Cel.later Lx13 b).cell 3, (Cel.later Lx13 b).cell 4, (Cel.later Lx13 b).cell 5, (Cel.later Ly13 b).cell 0, (Cel.later Ly13 b).cell 1, (Cel.later Ly13 b).cell 2, (Cel.later Ly13 b).cell 3, (Cel.later Ly13 b).cell 4, (Cel.later Ly13 b).cell 5, (Cel.later Lz b).cell 1, (Cel.later Lz b).cell 4⟩
          have HS := Lib.hid hS
          clear hS Lx13 Ly13 Lz
          go_wp2_with fail
          rw [← hW12]
          clear hW12
          refine wp_region_held_drew (S := fun W => W.cell? ⟨w8.heap.size, 0, none⟩ = some (.bool true) ∧ W.cell? ⟨w8.heap.size, 1, none⟩ = some (.bool true) ∧ W.cell? ⟨w8.heap.size, 2, none⟩ = some (.int .i64 5) ∧ W.cell? ⟨w8.heap.size, 3, none⟩ = some (.int .i64 1) ∧ W.cell? ⟨w8.heap.size, 4, none⟩ = some (.int .i64 0) ∧ W.cell? ⟨w8.heap.size, 5, none⟩ = some (.slice A8 1 c8) ∧ W.cell? ⟨w10.heap.size, 0, none⟩ = some (.bool true) ∧ W.cell? ⟨w10.heap.size, 1, none⟩ = some (.bool true) ∧ W.cell? ⟨w10.heap.size, 2, none⟩ = some (.int .i64 5) ∧ W.cell? ⟨w10.heap.size, 3, none⟩ = some (.int .i64 1) ∧ W.cell? ⟨w10.heap.size, 4, none⟩ = some (.int .i64 0) ∧ W.cell? ⟨w10.heap.size, 5, none⟩ = some (.slice A10 3 c10) ∧ W.cell? ⟨w12.heap.size, 1, none⟩ = some (.bool false) ∧ W.cell? ⟨w12.heap.size, 4, none⟩ = some (.int .i64 0)) (by kernel_rfl) (HS.out _ (drewN_below _ 1)) (fun hHeld => ?_)
          refine wpAnyH_here 0 (v := ?_) rfl (by kernel_rfl) (by kernel_rfl) (by kernel_rfl) (fun _ _ _ h => h) (Or.inl ⟨by rfl, ?_⟩) hHeld ?_
          rotate_left
          · intro w hSw; (try dsimp only at hSw); go_simp; all_goals (with_reducible rfl)
          try simp only [Act.put, List.setIfInBounds_toArray, List.set_cons_zero, List.set_cons_succ]
          refine wpAnyH_here 1 (v := ?_) rfl (by kernel_rfl) (by kernel_rfl) (by kernel_rfl) (fun _ _ _ h => h) (Or.inl ⟨by rfl, ?_⟩) hHeld ?_
          rotate_left
          · intro w hSw; (try dsimp only at hSw); go_simp; all_goals (with_reducible rfl)
          try simp only [Act.put, List.setIfInBounds_toArray, List.set_cons_zero, List.set_cons_succ]
          refine wpAnyH_here 2 (v := ?_) rfl (by kernel_rfl) (by kernel_rfl) (by kernel_rfl) (fun _ _ _ h => h) (Or.inl ⟨by rfl, ?_⟩) hHeld ?_
          rotate_left
          · intro w hSw; (try dsimp only at hSw); go_simp; all_goals (with_reducible rfl)
          try simp only [Act.put, List.setIfInBounds_toArray, List.set_cons_zero, List.set_cons_succ]
          refine wpAnyH_here 3 (v := ?_) rfl (by kernel_rfl) (by kernel_rfl) (by kernel_rfl) (fun _ _ _ h => h) (Or.inl ⟨by rfl, ?_⟩) hHeld ?_
          rotate_left
          · intro w hSw; (try dsimp only at hSw); go_simp; all_goals (with_reducible rfl)
          try simp only [Act.put, List.setIfInBounds_toArray, List.set_cons_zero, List.set_cons_succ]
          refine wpAnyH_here 4 (v := ?_) rfl (by kernel_rfl) (by kernel_rfl) (by kernel_rfl) (fun _ _ _ h => h) (Or.inl ⟨by rfl, ?_⟩) hHeld ?_
          rotate_left
          · intro w hSw; (try dsimp only at hSw); go_simp; all_goals (with_reducible rfl)
          try simp only [Act.put, List.setIfInBounds_toArray, List.set_cons_zero, List.set_cons_succ]
          refine wpAnyH_here 5 (v := ?_) rfl (by kernel_rfl) (by kernel_rfl) (by kernel_rfl) (fun _ _ _ h => h) (Or.inl ⟨by rfl, ?_⟩) hHeld ?_
          rotate_left
          · intro w hSw; (try dsimp only at hSw); go_simp; all_goals (with_reducible rfl)
          try simp only [Act.put, List.setIfInBounds_toArray, List.set_cons_zero, List.set_cons_succ]
          refine wpAnyH_here 6 (v := ?_) rfl (by kernel_rfl) (by kernel_rfl) (by kernel_rfl) (fun _ _ _ h => h) (Or.inl ⟨by rfl, ?_⟩) hHeld ?_
          rotate_left
          · intro w hSw; (try dsimp only at hSw); go_simp; all_goals (with_reducible rfl)
          try simp only [Act.put, List.setIfInBounds_toArray, List.set_cons_zero, List.set_cons_succ]
          refine wpAnyH_here 7 (v := ?_) rfl (by kernel_rfl) (by kernel_rfl) (by kernel_rfl) (fun _ _ _ h => h) (Or.inl ⟨by rfl, ?_⟩) hHeld ?_
          rotate_left
          · intro w hSw; (try dsimp only at hSw); go_simp; all_goals (with_reducible rfl)
          try simp only [Act.put, List.setIfInBounds_toArray, List.set_cons_zero, List.set_cons_succ]
          refine wpAnyH_here 8 (v := ?_) rfl (by kernel_rfl) (by kernel_rfl) (by kernel_rfl) (fun _ _ _ h => h) (Or.inl ⟨by rfl, ?_⟩) hHeld ?_
          rotate_left
          · intro w hSw; (try dsimp only at hSw); go_simp; all_goals (with_reducible rfl)
          try simp only [Act.put, List.setIfInBounds_toArray, List.set_cons_zero, List.set_cons_succ]
          refine wpAnyH_here 9 (v := ?_) rfl (by kernel_rfl) (by kernel_rfl) (by kernel_rfl) (fun _ _ _ h => h) (Or.inl ⟨by rfl, ?_⟩) hHeld ?_
          rotate_left
          · intro w hSw; (try dsimp only at hSw); go_simp; all_goals (with_reducible rfl)
          try simp only [Act.put, List.setIfInBounds_toArray, List.set_cons_zero, List.set_cons_succ]
          refine wpAnyH_here 10 (v := ?_) rfl (by kernel_rfl) (by kernel_rfl) (by kernel_rfl) (fun _ _ _ h => h) (Or.inl ⟨by rfl, ?_⟩) hHeld ?_
          rotate_left
          · intro w hSw; (try dsimp only at hSw); go_simp; all_goals (with_reducible rfl)
          try simp only [Act.put, List.setIfInBounds_toArray, List.set_cons_zero, List.set_cons_succ]
          refine wpAnyH_here 11 (v := ?_) rfl (by kernel_rfl) (by kernel_rfl) (by kernel_rfl) (fun _ _ _ h => h) (Or.inl ⟨by rfl, ?_⟩) hHeld ?_
          rotate_left
          · intro w hSw; (try dsimp only at hSw); go_simp; all_goals (with_reducible rfl)
          try simp only [Act.put, List.setIfInBounds_toArray, List.set_cons_zero, List.set_cons_succ]
          refine wpAnyH_here 12 (v := ?_) rfl (by kernel_rfl) (by kernel_rfl) (by kernel_rfl) (fun _ _ _ h => h) (Or.inl ⟨by rfl, ?_⟩) hHeld ?_
          rotate_left
          · intro w hSw; (try dsimp only at hSw); go_simp; all_goals (with_reducible rfl)
          try simp only [Act.put, List.setIfInBounds_toArray, List.set_cons_zero, List.set_cons_succ]
          refine wpAnyH_here 13 (v := ?_) rfl (by kernel_rfl) (by kernel_rfl) (by kernel_rfl) (fun _ _ _ h => h) (Or.inl ⟨by rfl, ?_⟩) hHeld ?_
          rotate_left
          · intro w hSw; (try dsimp only at hSw); go_simp; all_goals (with_reducible rfl)
          try simp only [Act.put, List.setIfInBounds_toArray, List.set_cons_zero, List.set_cons_succ]
          refine wpAnyH_here 14 (v := ?_) rfl (by kernel_rfl) (by kernel_rfl) (by kernel_rfl) (fun _ _ _ h => h) (Or.inl ⟨by rfl, ?_⟩) hHeld ?_
          rotate_left
          · intro w hSw; (try dsimp only at hSw); go_simp; all_goals (with_reducible rfl)
          try simp only [Act.put, List.setIfInBounds_toArray, List.set_cons_zero, List.set_cons_succ]
          refine wpAnyH_here 15 (v := ?_) rfl (by kernel_rfl) (by kernel_rfl) (by kernel_rfl) (fun _ _ _ h => h) (Or.inl ⟨by rfl, ?_⟩) hHeld ?_
          rotate_left
          · intro w hSw; (try dsimp only at hSw); go_simp; all_goals (with_reducible rfl)
          try simp only [Act.put, List.setIfInBounds_toArray, List.set_cons_zero, List.set_cons_succ]
          refine wpAnyH_here 16 (v := ?_) rfl (by kernel_rfl) (by kernel_rfl) (by kernel_rfl) (fun _ _ _ h => h) (Or.inl ⟨by rfl, ?_⟩) hHeld ?_
          rotate_left
          · intro w hSw; (try dsimp only at hSw); go_simp; all_goals (with_reducible rfl)
          try simp only [Act.put, List.setIfInBounds_toArray, List.set_cons_zero, List.set_cons_succ]
          refine wpAnyH_alone 17 rfl (by kernel_rfl) (fun K hK => ?_)
          go_simp
          refine (yunlock_any 5 1 _).mono ?_; rintro e v1 ⟨Au, cu, rfl, ru, bu⟩; have b1 := (drewN_below W12 1).trans bu
          refine hK.out _ _ (HS.out _ b1) (fun hHeld => ?_)
          clear hK K
          try simp only [Act.put, List.setIfInBounds_toArray, List.set_cons_zero, List.set_cons_succ]
          refine wpAnyH_alone 18 rfl (by kernel_rfl) (fun K hK => ?_)
          go_simp
          refine (ysame_any true true 5 1 0 _ _ [0#8] 1 _ _ v1 (rdX13.later b1) ru).mono ?_; rintro e v2 ⟨rfl, b2'⟩; have b2 := b1.trans (b2'.mono b1.size)
          refine hK.out _ _ (HS.out _ b2) (fun hHeld => ?_)
          clear hK K
          try simp only [Act.put, List.setIfInBounds_toArray, List.set_cons_zero, List.set_cons_succ]
          refine wpAnyH_here 19 (v := ?_) rfl (by kernel_rfl) (by kernel_rfl) (by kernel_rfl) (fun _ _ _ h => h) (Or.inl ⟨by rfl, ?_⟩) hHeld ?_
          rotate_left
          · intro w hSw; (try dsimp only at hSw); go_simp; all_goals (with_reducible rfl)
          try simp only [Act.put, List.setIfInBounds_toArray, List.set_cons_zero, List.set_cons_succ]
          refine wpAnyH_here 20 (v := ?_) rfl (by kernel_rfl) (by kernel_rfl) (by kernel_rfl) (fun _ _ _ h => h) (Or.inl ⟨by rfl, ?_⟩) hHeld ?_
          rotate_left
          · intro w hSw; (try dsimp only at hSw); go_simp; all_goals (with_reducible rfl)
          try simp only [Act.put, List.setIfInBounds_toArray, List.set_cons_zero, List.set_cons_succ]
          refine wpAnyH_here 21 (v := ?_) rfl (by kernel_rfl) (by kernel_rfl) (by kernel_rfl) (fun _ _ _ h => h) (Or.inl ⟨by rfl, ?_⟩) hHeld ?_
          rotate_left
          · intro w hSw; (try dsimp only at hSw); go_simp; all_goals (with_reducible rfl)
          try simp only [Act.put, List.setIfInBounds_toArray, List.set_cons_zero, List.set_cons_succ]
          refine wpAnyH_alone 22 rfl (by kernel_rfl) (fun K hK => ?_)
          go_simp
          refine (ysetNext_yes 5 1 0#8 _).mono ?_; rintro e v3 ⟨Av, cv, rfl, rv, b3'⟩; have b3 := b2.trans (b3'.mono b2.size)
          refine hK.out _ _ (HS.out _ b3) (fun hHeld => ?_)
          clear hK K
          try simp only [Act.put, List.setIfInBounds_toArray, List.set_cons_zero, List.set_cons_succ]
          refine wpAnyH_alone 23 rfl (by kernel_rfl) (fun K hK => ?_)
          go_simp
          refine (ysame_any true true 5 1 0 _ _ [130#8, 0#8, 0#8] 3 _ _ v3 (rdY13.later b3) rv).mono ?_; rintro e v4 ⟨rfl, b4'⟩; have b4 := b3.trans (b4'.mono b3.size)
          refine hK.out _ _ (HS.out _ b4) (fun hHeld => ?_)
          clear hK K
          try simp only [Act.put, List.setIfInBounds_toArray, List.set_cons_zero, List.set_cons_succ]
          refine wpAnyH_here 24 (v := ?_) rfl (by kernel_rfl) (by kernel_rfl) (by kernel_rfl) (fun _ _ _ h => h) (Or.inl ⟨by rfl, ?_⟩) hHeld ?_
          rotate_left
          · intro w hSw; (try dsimp only at hSw); go_simp; all_goals (with_reducible rfl)
          try simp only [Act.put, List.setIfInBounds_toArray, List.set_cons_zero, List.set_cons_succ]
          refine wpAnyH_here 25 (v := ?_) rfl (by kernel_rfl) (by kernel_rfl) (by kernel_rfl) (fun _ _ _ h => h) (Or.inl ⟨by rfl, ?_⟩) hHeld ?_
          rotate_left
          · intro w hSw; (try dsimp only at hSw); go_simp; all_goals (with_reducible rfl)
          try simp only [Act.put, List.setIfInBounds_toArray, List.set_cons_zero, List.set_cons_succ]
          refine wpAnyH_here 26 (v := ?_) rfl (by kernel_rfl) (by kernel_rfl) (by kernel_rfl) (fun _ _ _ h => h) (Or.inl ⟨by rfl, ?_⟩) hHeld ?_
          rotate_left
          · intro w hSw; (try dsimp only at hSw); go_simp; all_goals (with_reducible rfl)
          try simp only [Act.put, List.setIfInBounds_toArray, List.set_cons_zero, List.set_cons_succ]
          refine wpAnyH_here 27 (v := ?_) rfl (by kernel_rfl) (by kernel_rfl) (by kernel_rfl) (fun _ _ _ h => h) (Or.inl ⟨by rfl, ?_⟩) hHeld ?_
          rotate_left
          · intro w hSw; (try dsimp only at hSw); go_simp; all_goals (with_reducible rfl)
          try simp only [Act.put, List.setIfInBounds_toArray, List.set_cons_zero, List.set_cons_succ]
          refine wpAnyH_here 28 (v := ?_) rfl (by kernel_rfl) (by kernel_rfl) (by kernel_rfl) (fun _ _ _ h => h) (Or.inl ⟨by rfl, ?_⟩) hHeld ?_
          rotate_left
          · intro w hSw; (try dsimp only at hSw); go_simp; all_goals (with_reducible rfl)
          try simp only [Act.put, List.setIfInBounds_toArray, List.set_cons_zero, List.set_cons_succ]
          refine wpAnyH_here 29 (v := ?_) rfl (by kernel_rfl) (by kernel_rfl) (by kernel_rfl) (fun _ _ _ h => h) (Or.inl ⟨by rfl, ?_⟩) hHeld ?_
          rotate_left
          · intro w hSw; (try dsimp only at hSw); go_simp; all_goals (with_reducible rfl)
          try simp only [Act.put, List.setIfInBounds_toArray, List.set_cons_zero, List.set_cons_succ]
          refine wpAnyH_here 30 (v := ?_) rfl (by kernel_rfl) (by kernel_rfl) (by kernel_rfl) (fun _ _ _ h => h) (Or.inl ⟨by rfl, ?_⟩) hHeld ?_
          rotate_left
          · intro w hSw; (try dsimp only at hSw); go_simp; all_goals (with_reducible rfl)
          try simp only [Act.put, List.setIfInBounds_toArray, List.set_cons_zero, List.set_cons_succ]
          refine wpAnyH_here 31 (v := ?_) rfl (by kernel_rfl) (by kernel_rfl) (by kernel_rfl) (fun _ _ _ h => h) (Or.inl ⟨by rfl, ?_⟩) hHeld ?_
          rotate_left
          · intro w hSw; (try dsimp only at hSw); go_simp; all_goals (with_reducible rfl)
          try simp only [Act.put, List.setIfInBounds_toArray, List.set_cons_zero, List.set_cons_succ]
          refine wpAnyH_here 32 (v := ?_) rfl (by kernel_rfl) (by kernel_rfl) (by kernel_rfl) (fun _ _ _ h => h) (Or.inl ⟨by rfl, ?_⟩) hHeld ?_
          rotate_left
          · intro w hSw; (try dsimp only at hSw); go_simp; all_goals (with_reducible rfl)
          try simp only [Act.put, List.setIfInBounds_toArray, List.set_cons_zero, List.set_cons_succ]
          refine wpAnyH_here 33 (v := ?_) rfl (by kernel_rfl) (by kernel_rfl) (by kernel_rfl) (fun _ _ _ h => h) (Or.inl ⟨by rfl, ?_⟩) hHeld ?_
          rotate_left
          · intro w hSw; (try dsimp only at hSw); go_simp; all_goals (with_reducible rfl)
          try simp only [Act.put, List.setIfInBounds_toArray, List.set_cons_zero, List.set_cons_succ]
          refine wpAnyH_here 34 (v := ?_) rfl (by kernel_rfl) (by kernel_rfl) (by kernel_rfl) (fun _ _ _ h => h) (Or.inl ⟨by rfl, ?_⟩) hHeld ?_
          rotate_left
          · intro w hSw; (try dsimp only at hSw); go_simp; all_goals (with_reducible rfl)
          try simp only [Act.put, List.setIfInBounds_toArray, List.set_cons_zero, List.set_cons_succ]
          refine wpAnyH_here 35 (v := ?_) rfl (by kernel_rfl) (by kernel_rfl) (by kernel_rfl) (fun _ _ _ h => h) (Or.inl ⟨by rfl, ?_⟩) hHeld ?_
          rotate_left
          · intro w hSw; (try dsimp only at hSw); go_simp; all_goals (with_reducible rfl)
          try simp only [Act.put, List.setIfInBounds_toArray, List.set_cons_zero, List.set_cons_succ]
          refine wpAnyH_here 36 (v := ?_) rfl (by kernel_rfl) (by kernel_rfl) (by kernel_rfl) (fun _ _ _ h => h) (Or.inl ⟨by rfl, ?_⟩) hHeld ?_
          rotate_left
          · intro w hSw; (try dsimp only at hSw); go_simp; all_goals (with_reducible rfl)
          try simp only [Act.put, List.setIfInBounds_toArray, List.set_cons_zero, List.set_cons_succ]
          refine wpAnyH_alone 37 rfl (by kernel_rfl) (fun K hK => ?_)
          go_simp
          refine (pz.below b4).state_.mono ?_; rintro e v5 ⟨rfl, rfl⟩
          refine hK.out _ _ (HS.out _ b4) (fun hHeld => ?_)
          clear hK K
          try simp only
          refine wpAnyH_here 38 (v := ?_) rfl (by kernel_rfl) (by kernel_rfl) (by kernel_rfl) (fun _ _ _ h => h) (Or.inl ⟨by rfl, ?_⟩) hHeld ?_
          rotate_left
          · intro w hSw; (try dsimp only at hSw); go_simp; all_goals (with_reducible rfl)
          try simp only [Act.put, List.setIfInBounds_toArray, List.set_cons_zero, List.set_cons_succ]
          refine wpAnyH_here 39 (v := ?_) rfl (by kernel_rfl) (by kernel_rfl) (by kernel_rfl) (fun _ _ _ h => h) (Or.inl ⟨by rfl, ?_⟩) hHeld ?_
          rotate_left
          · intro w hSw; (try dsimp only at hSw); go_simp; all_goals (with_reducible rfl)
          try simp only [Act.put, List.setIfInBounds_toArray, List.set_cons_zero, List.set_cons_succ]
          refine wpAnyH_here 40 (v := ?_) rfl (by kernel_rfl) (by kernel_rfl) (by kernel_rfl) (fun _ _ _ h => h) (Or.inl ⟨by rfl, ?_⟩) hHeld ?_
          rotate_left
          · intro w hSw; (try dsimp only at hSw); go_simp; all_goals (with_reducible rfl)
          try simp only [Act.put, List.setIfInBounds_toArray, List.set_cons_zero, List.set_cons_succ]
          refine wpAnyH_alone 41 rfl (by kernel_rfl) (fun K hK => ?_)
          go_simp
          refine (alive17_any _).mono ?_; rintro e v6 ⟨rfl, b5'⟩; have b5 := b4.trans (b5'.mono b4.size)
          refine hK.out _ _ (HS.out _ b5) (fun hHeld => ?_)
          clear hK K
          try simp only [Act.put, List.setIfInBounds_toArray, List.set_cons_zero, List.set_cons_succ]
          refine wpAnyH_here 42 (v := ?_) rfl (by kernel_rfl) (by kernel_rfl) (by kernel_rfl) (fun _ _ _ h => h) (Or.inl ⟨by rfl, ?_⟩) hHeld ?_
          rotate_left
          · intro w hSw; (try dsimp only at hSw); go_simp; all_goals (with_reducible rfl)
          try simp only [Act.put, List.setIfInBounds_toArray, List.set_cons_zero, List.set_cons_succ]
          refine wpAnyH_here 43 (v := ?_) rfl (by kernel_rfl) (by kernel_rfl) (by kernel_rfl) (fun _ _ _ h => h) (Or.inl ⟨by rfl, ?_⟩) hHeld ?_
          rotate_left
          · intro w hSw; (try dsimp only at hSw); go_simp; all_goals (with_reducible rfl)
          try simp only [Act.put, List.setIfInBounds_toArray, List.set_cons_zero, List.set_cons_succ]
          refine wpAnyH_done (by kernel_rfl) ?_ _
          go_wp2
          go_ret
          exact ⟨rfl, (pz.below b5).b⟩
end Go.Proofs.Ytdpjjhbfhlmolaa.Fop

/-
  The law FopWindow.
-/
namespace Go.Proofs.Ytdpjjhbfhlmolaa.Fop
open Go.RowKit
open Pac (bel_new Cel.later)
open Tcf (Fr)

theorem lv_start (n : Nat) (W : Int) (hW : 0 ≤ W) : Lv (un n) W (sq0 n) 0 0 :=
  ⟨rfl, Int.le_refl _, by show (0 : Int) ≤ _; omega, Int.le_refl _, by show (0 : Int) ≤ 0 + 0; omega, Int.le_refl _, Int.le_refl _, by show (0 : Int) ≤ _; omega, hW, rfl, rfl, Int.le_refl _, Int.le_refl _, Int.le_refl _, Int.le_refl _, Int.le_refl _⟩
/-- what is known at the beginning of a tick -/
structure Wn (n : Nat) (W t H : Int) (s : Fs) : Prop where
  v : Lv (un n) W s s.ac t
  h : H = s.ac + s.fr
/-- behind Next -/
structure Wm (n : Nat) (W t H : Int) (s : Fs) : Prop where
  v : Lv (un n) W s s.ac (t + 1)
  h : H = s.ac + s.fr
  nw : s.nw = t
theorem Wn.next {n : Nat} {W t H : Int} {s : Fs} (h : Wn n W t H s) (h0 : 0 ≤ t) (h2 : t ≤ 200) (hW : 1 ≤ W) (hn : n ≤ 60) :
    (∃ s1, nxt 5 1 W 3 255 t s = ((zr, false), s1) ∧ Wm n W t H s1) ∨
    (∃ (k : Nat) (q : Int) (s1 : Fs), nxt 5 1 W 3 255 t s = ((⟨false, false, 5, 1, q, [BitVec.ofNat 8 q.toNat]⟩, true), s1) ∧ q = s1.ac + k ∧ (k : Int) < W ∧ q < n ∧ Wm n W t (max H (q + 1)) s1) := by
  obtain ⟨r⟩ := h.v.next (T := 3) h0 (.inr (by omega)) (by omega) hW (by rw [un_len]; omega)
  cases r with
  | none e hu =>
    obtain ⟨hv, hnw⟩ := h.v.adv_ (by omega)
    exact .inl ⟨_, e, ⟨by rw [adv_ac]; exact hv.more (by omega), by rw [adv_ac, adv_fr]; exact h.h, hnw⟩⟩
  | sent k d s' e hd ha hf hk hv hnw ht hw hu hr =>
    have hlt := (List.getElem?_eq_some_iff.1 hd).1
    rw [un_len] at hlt
    rw [un_at hlt] at hd
    injection hd with hd
    have ha0 := h.v.a0
    have hfr := h.v.f1
    have hff := h.v.f0
    refine .inr ⟨k, s.ac + k, s', ?_, by rw [ha], hw, by omega, ⟨by rw [ha]; exact hv, ?_, hnw⟩⟩
    · rw [e, ← hd, show (s.ac + (k : Int)).toNat = s.ac.toNat + k by omega]
    · rw [h.h, ha, hr]; omega
theorem Wm.report {n : Nat} {W t H : Int} {s : Fs} (h : Wm n W t H s) (hn : n ≤ 60) (hH : s.ac < H) : ∃ s2, rpt 1 ⟨1, false, false, false, 0, s.ac + 1⟩ t s = (0, s2) ∧ Wn n W (t + 1) H s2 := by
  have hv := h.v.got (by have := h.h; omega)
  obtain ⟨s2, e, v2, hac, _, _, _, _, hsum⟩ := hv.report (by rw [un_len]; omega) h.nw false 0 (by decide)
  exact ⟨s2, e, ⟨by rw [hac]; exact v2, by rw [hsum]; exact h.h⟩⟩
theorem Wm.skip {n : Nat} {W t H : Int} {s : Fs} (h : Wm n W t H s) : Wn n W (t + 1) H s := ⟨h.v, h.h⟩
theorem Wn.sum {n : Nat} {W t H : Int} {s : Fs} (h : Wn n W t H s) : (s.us.length : Int) + s.ac = n ∧ s.st = 1 ∧ 0 ≤ s.ac ∧ s.ac ≤ n := by
  have := h.v.len
  rw [un_len] at this
  have a := h.v.al
  rw [un_len] at a
  exact ⟨by omega, h.v.st, h.v.a0, a⟩

set_option maxRecDepth 100000 in
set_option maxHeartbeats 16000000 in
theorem fopWindow_any (x y : Int) (a : Option Addr) (l : List Byte) (NL cap : Nat) (w : World) (hx : 0 ≤ x ∧ x ≤ 255) (hy : 0 ≤ y ∧ y ≤ 255) (hNL : Hid (l.length = NL)) (hb : Bs w w.heap.size a l) :
    Calls Try.prog 5 #[.int .u8 x, .int .u8 y, .slice a NL cap] w fun e w' => e = .returned (.bool true) ∧ Below w.heap.size w w' := by
  by_cases hbig : 200 < NL
  · have g1 : decide ((200 : Int) < (NL : Int)) = true := by simp; omega
    have g2 : decide (200 < NL) = true := by simp; omega
    clear hbig hb hNL hx hy
    go_enter Try.func5, Try.ntmps5
    go_wp2_with fail
    refine (alive17_any w).mono ?_
    rintro e w2 ⟨rfl, b2⟩
    go_wp2
    go_ret
    exact ⟨rfl, b2⟩
  have g1 : decide ((200 : Int) < (NL : Int)) = false := by simp; omega
  have g2 : decide (200 < NL) = false := by simp; omega
  have hNL200 : NL ≤ 200 := by omega
  obtain ⟨N, hN⟩ : ∃ N : Nat, y % 61 = (N : Int) := ⟨(y % 61).toNat, by omega⟩
  have ya : y.tmod 61 = (N : Int) := by rw [Int.tmod_eq_emod_of_nonneg hy.1]; exact hN
  have hN60 : N ≤ 60 := by omega
  obtain ⟨X7, hX7⟩ : ∃ X7, X7 = x % 127 := ⟨_, rfl⟩
  have xa : x.tmod 127 = X7 := by rw [Int.tmod_eq_emod_of_nonneg hx.1]; exact hX7.symm
  have xb : x % 127 = X7 := hX7.symm
  obtain ⟨W, hW⟩ : ∃ W, W = X7 + 1 := ⟨_, rfl⟩
  have xs2 : X7 + 1 = W := hW.symm
  have hW1 : 1 ≤ W := by omega
  have hW127 : W ≤ 127 := by omega
  have xs : wrap64 (X7 + 1) = W := by rw [wr64 (by omega) (by omega)]; omega
  have x1 := PO.new 5 1 W 3 255 w (K' := 5) (H' := 1) (W' := W) (T' := 3) (R' := 255) (by decide) (by decide) (by unfold clp; omega) (by decide) (by decide)
  have HW := Lib.hid (And.intro hW1 hW127)
  have HN := Lib.hid hN60
  have HL := Lib.hid hNL200
  clear hW hX7 hbig
  go_enter Try.func5, Try.ntmps5
  go_wp2_with fail
  refine x1.mono ?_
  rintro e w1 ⟨g, rfl, p⟩
  clear x1 ya xa xb xs xs2 hx hy hN hW1 hW127
  go_wp2_with fail
  go_loopw [10] (fun i wr => ∃ m : Nat, m ≤ N ∧ i = .int .i64 m ∧ ∃ O, PO w wr w.heap.size g O 5 1 W 3 255 (sq0 m)) (fun i _ => N - (intOf i).toNat)
  case atStart => exact ⟨0, Nat.zero_le _, rfl, none, p⟩
  case round =>
    obtain ⟨m, hm, rfl, O, q⟩ := hrel
    clear p
    by_cases hlt : m < N
    · obtain ⟨W2, hW2⟩ : ∃ W2, W2 = wr.alloc (.cells #[.int .u8 (m : Int)] 5) := ⟨_, rfl⟩
      have q2 := q.below (w' := W2) (by rw [hW2]; exact bel_new _ _)
      have rd : Rd W2 (some ⟨wr.heap.size, 0, none⟩) [BitVec.ofNat 8 m] 1 1 := by
        rw [hW2]; have := rd_byte (m : Int) wr (by omega) (by omega); rwa [Int.toNat_natCast] at this
      have m5 : m ≤ 60 := by omega
      clear q
      go_wp2_with fail
      rw [← hW2]
      clear hW2
      refine (q2.send_ rd (snd_un (by omega))).mono ?_
      rintro e w3 ⟨rfl, ⟨O3, q3, _⟩, _⟩
      clear q2 rd
      go_wp2
      go_roundw
      case rel => exact ⟨m + 1, hlt, by simp, O3, q3⟩
      case measure => simp [intOf]; omega
    · obtain rfl : m = N := by omega
      have HS : Hid (Wn m W 0 0 (sq0 m)) := Lib.hid ⟨lv_start m W (by have := HW.out; omega), rfl⟩
      clear hm hlt
      go_wp2_with fail
      go_loopw [11, 12, 13, 14, 15] (fun hv tv _ _ _ wr => ∃ (t : Nat) (H : Int) (s : Fs) (O : Option Nat), hv = .int .i64 H ∧ tv = .int .i64 t ∧ t ≤ NL ∧ 0 ≤ H ∧ H ≤ 100 ∧ PO w wr w.heap.size g O 5 1 W 3 255 s ∧ Hid (Wn m W t H s)) (fun _ tv _ _ _ _ => NL - (intOf tv).toNat)
      case atStart => exact ⟨0, 0, _, O, rfl, rfl, Nat.zero_le _, by decide, by decide, q, HS⟩
      case round =>
        obtain ⟨t, H, s, O2, rfl, rfl, htl, hH0, hH1, p, hs⟩ := hrel
        clear q
        by_cases htn : t < NL
        · have htl2 : t < l.length := by rw [hNL.out]; exact htn
          obtain ⟨b0, off0, rfl, hb0, hcell⟩ := hb (by omega)
          have q1 := hcell t _ (List.getElem?_eq_getElem htl2)
          generalize l[t] = bt at q1
          have hbt := bt.isLt
          obtain ⟨BT, hBT⟩ : ∃ BT : Int, (bt.toNat : Int) = BT := ⟨_, rfl⟩
          have hBT0 : 0 ≤ BT := by omega
          have hBT1 : BT ≤ 255 := by omega
          have q1 : w.cell? ⟨b0, off0 + t, none⟩ = some (.int .u8 BT) := by rw [q1, ← hBT]
          obtain ⟨R4, hR4⟩ : ∃ R4, R4 = BT % 4 := ⟨_, rfl⟩
          have r4a : BT.tmod 4 = R4 := by rw [Int.tmod_eq_emod_of_nonneg hBT0]; exact hR4.symm
          have ht200 : t ≤ 200 := by have := HL.out; omega
          have hx := hs.out.next (by omega) (by omega) HW.out.1 HN.out
          have HX := Lib.hid hx
          clear hx hcell hbt hBT hR4 htl2 hs
          rcases HX.out with ⟨s1, hnx, hm1⟩ | ⟨k, S1, s1, hnx, hq, hkW, hqn, hm1⟩
          · have hnx' := Lib.hid hnx
            have HM := Lib.hid hm1
            clear HX hnx hm1
            go_wp2_with fail
            refine (p.next_ (t : Int) hnx'.out (m := 0) rfl).mono ?_
            rintro e w5 ⟨⟨A5, c5, rfl, _, _⟩, p5, _⟩
            obtain ⟨W5, hW5⟩ : ∃ W5, W5 = w5.alloc (.cells #[.bool false, .bool false, .int .i64 0, .int .i64 0, .int .i64 0, .slice A5 0 c5] 43) := ⟨_, rfl⟩
            have p6 := p5.below (w' := W5) (by rw [hW5]; exact bel_new _ _)
            have q3 := (p6.b.cell (p := ⟨b0, off0 + t, none⟩) hb0).trans q1
            rw [hW5] at q3
            clear p p5
            have q2 := (p6.b.cell (p := ⟨b0, off0 + t, none⟩) hb0).trans q1
            have hAC := And.intro HM.out.v.a0 HM.out.v.al
            rw [un_len] at hAC
            by_cases hr4 : R4 = 0
            · subst hr4
              have xa := p6.acked_
              have hrep := fun h => HM.out.report HN.out h
              obtain ⟨AC, hACe⟩ : ∃ AC, s1.ac = AC := ⟨_, rfl⟩
              rw [hACe] at xa hrep hAC
              by_cases hgt : AC < H
              · have g5 : decide (AC < H) = true := by simpa using hgt
                obtain ⟨s2, hrp, hn2⟩ := hrep hgt
                have Hrp := Lib.hid hrp
                have Hn2 := Lib.hid hn2
                obtain ⟨A1, hA1⟩ : ∃ A1, AC + 1 = A1 := ⟨_, rfl⟩
                have z1 : wrap64 (AC + 1) = A1 := by rw [wr64 (by have := HN.out; omega) (by have := HN.out; omega)]; exact hA1
                have hac9 : s1.ac ≤ 1099511627776 := by have := HN.out; omega
                rw [hA1] at Hrp
                clear hrep hrp hn2 hgt
                go_wp2_with fail
                rw [← hW5]
                clear hW5
                refine xa.mono ?_
                rintro e u1 ⟨rfl, rfl⟩
                go_wp2_with fail
                refine xa.mono ?_
                rintro e u1 ⟨rfl, rfl⟩
                clear xa
                go_wp2_with fail
                refine (word_any A1 _).mono ?_
                rintro e w8 ⟨rfl, b8⟩
                have p8 := p6.below b8
                go_wp2_with fail
                refine (p8.report_ 1 false false false 0 A1 (t : Int) Hrp.out hac9).mono ?_
                rintro e w9 ⟨rfl, p9, _⟩
                clear p6 p8 b8 z1 hA1 hac9 hACe hAC q2
                have sm := Hn2.out.sum
                have xq := p9.queued_
                have xa := p9.acked_
                have xst := p9.state_
                rw [sm.2.1] at xst
                obtain ⟨U, hU⟩ : ∃ U, s2.us.length = U := ⟨_, rfl⟩
                obtain ⟨AC, hAC⟩ : ∃ AC, s2.ac = AC := ⟨_, rfl⟩
                rw [hU] at xq sm
                rw [hAC] at xa sm
                have z7 : wrap64 ((U : Int) + AC) = (m : Int) := by rw [wr64 (by have := HN.out; omega) (by have := HN.out; omega)]; exact sm.1
                have z8 : (U : Int) + AC = (m : Int) := sm.1
                have z9 : ((m : Int) != (m : Int)) = false := by simp
                have z10 : (m != m) = false := by simp
                clear sm hU hAC
                go_wp2_with fail
                refine xq.mono ?_
                rintro e u1 ⟨rfl, rfl⟩
                go_wp2_with fail
                refine xa.mono ?_
                rintro e u1 ⟨rfl, rfl⟩
                go_wp2_with fail
                refine xst.mono ?_
                rintro e u1 ⟨rfl, rfl⟩
                clear xq xa xst
                go_wp2
                go_roundw
                case rel => exact ⟨t + 1, H, s2, O2, rfl, by simp, htn, by omega, by omega, p9, Lib.hid (by have := Hn2.out; simpa using this)⟩
                case measure => simp [intOf]; omega
              · have g5 : decide (AC < H) = false := by simpa using hgt
                have Hn2 := Lib.hid HM.out.skip
                clear hrep hgt
                go_wp2_with fail
                rw [← hW5]
                clear hW5
                refine xa.mono ?_
                rintro e u1 ⟨rfl, rfl⟩
                clear xa hACe hAC q2
                have sm := Hn2.out.sum
                have xq := p6.queued_
                have xa := p6.acked_
                have xst := p6.state_
                rw [sm.2.1] at xst
                obtain ⟨U, hU⟩ : ∃ U, s1.us.length = U := ⟨_, rfl⟩
                obtain ⟨AC, hAC⟩ : ∃ AC, s1.ac = AC := ⟨_, rfl⟩
                rw [hU] at xq sm
                rw [hAC] at xa sm
                have z7 : wrap64 ((U : Int) + AC) = (m : Int) := by rw [wr64 (by have := HN.out; omega) (by have := HN.out; omega)]; exact sm.1
                have z8 : (U : Int) + AC = (m : Int) := sm.1
                have z9 : ((m : Int) != (m : Int)) = false := by simp
                have z10 : (m != m) = false := by simp
                clear sm hU hAC
                go_wp2_with fail
                refine xq.mono ?_
                rintro e u1 ⟨rfl, rfl⟩
                go_wp2_with fail
                refine xa.mono ?_
                rintro e u1 ⟨rfl, rfl⟩
                go_wp2_with fail
                refine xst.mono ?_
                rintro e u1 ⟨rfl, rfl⟩
                clear xq xa xst
                go_wp2
                go_roundw
                case rel => exact ⟨t + 1, H, s1, O2, rfl, by simp, htn, by omega, by omega, p6, Lib.hid (by have := Hn2.out; simpa using this)⟩
                case measure => simp [intOf]; omega
            · have g4 : (R4 == 0) = false := by simpa using hr4
              have g4b : decide (R4 = 0) = false := by simpa using hr4
              have Hn2 := Lib.hid HM.out.skip
              clear hr4 hAC
              have sm := Hn2.out.sum
              have xq := p6.queued_
              have xa := p6.acked_
              have xst := p6.state_
              rw [sm.2.1] at xst
              obtain ⟨U, hU⟩ : ∃ U, s1.us.length = U := ⟨_, rfl⟩
              obtain ⟨AC, hAC⟩ : ∃ AC, s1.ac = AC := ⟨_, rfl⟩
              rw [hU] at xq sm
              rw [hAC] at xa sm
              have z7 : wrap64 ((U : Int) + AC) = (m : Int) := by rw [wr64 (by have := HN.out; omega) (by have := HN.out; omega)]; exact sm.1
              have z8 : (U : Int) + AC = (m : Int) := sm.1
              have z9 : ((m : Int) != (m : Int)) = false := by simp
              have z10 : (m != m) = false := by simp
              clear sm hU hAC
              go_wp2_with fail
              rw [← hW5]
              clear hW5
              refine xq.mono ?_
              rintro e u1 ⟨rfl, rfl⟩
              go_wp2_with fail
              refine xa.mono ?_
              rintro e u1 ⟨rfl, rfl⟩
              go_wp2_with fail
              refine xst.mono ?_
              rintro e u1 ⟨rfl, rfl⟩
              clear xq xa xst
              go_wp2
              go_roundw
              case rel => exact ⟨t + 1, H, s1, O2, rfl, by simp, htn, by omega, by omega, p6, Lib.hid (by have := Hn2.out; simpa using this)⟩
              case measure => simp [intOf]; omega
          · have hnx' := Lib.hid hnx
            have HM := Lib.hid hm1
            have hAC := And.intro HM.out.v.a0 HM.out.v.al
            rw [un_len] at hAC
            have hS0 : 0 ≤ S1 := by omega
            have hS1 : S1 ≤ 60 := by have := HN.out; omega
            obtain ⟨H2, hH2⟩ : ∃ H2, max H (S1 + 1) = H2 := ⟨_, rfl⟩
            have m3 : (if H < S1 + 1 then S1 + 1 else H) = H2 := by rw [← hH2]; split <;> omega
            have hH20 : 0 ≤ H2 := by omega
            have hH21 : H2 ≤ 100 := by omega
            rw [hH2] at HM
            clear HX hnx hm1
            go_wp2_with fail
            refine (p.next_ (t : Int) hnx'.out (m := 1) rfl).mono ?_
            rintro e w5 ⟨⟨A5, c5, rfl, r5, hnew⟩, p5, _⟩
            obtain ⟨bb, rfl, _⟩ := hnew rfl rfl
            obtain ⟨W5, hW5⟩ : ∃ W5, W5 = w5.alloc (.cells #[.bool false, .bool false, .int .i64 5, .int .i64 1, .int .i64 S1, .slice (some ⟨bb, 0, none⟩) 1 c5] 43) := ⟨_, rfl⟩
            have bn : Below w5.heap.size w5 W5 := by rw [hW5]; exact bel_new _ _
            have p6 := p5.below bn
            have L : Cel W5 w5.heap.size 43 #[.bool false, .bool false, .int .i64 5, .int .i64 1, .int .i64 S1, .slice (some ⟨bb, 0, none⟩) 1 c5] := by rw [hW5]; exact Cel.new _ _ _
            have r6 := r5.later bn
            obtain ⟨b6, off6, e6, hb6, hc6⟩ := r6.bs (by simp)
            injection e6 with e6
            injection e6 with e7 e8
            subst e7 e8
            have d0 := hc6 0 _ rfl
            have d0 : W5.cell? ⟨bb, 0, none⟩ = some (.int .u8 S1) := by rw [d0]; simp [BitVec.toNat_ofNat]; omega
            have l4 := L.cell 4
            simp at l4
            have xa := fun j => (p6.draws j).acked_
            obtain ⟨KI, hKI⟩ : ∃ KI : Int, (k : Int) = KI := ⟨_, rfl⟩
            have hKI0 : 0 ≤ KI := by omega
            have hk0 : (S1 : Int) - s1.ac = KI := by omega
            rw [hKI] at hkW
            obtain ⟨AC, hACe⟩ : ∃ AC, s1.ac = AC := ⟨_, rfl⟩
            simp only [hACe] at xa hAC hk0
            have z1 : wrap64 (S1 - AC) = KI := by rw [wr64 (by omega) (by omega)]; exact hk0
            obtain ⟨ND, hND⟩ : ∃ ND, (m : Int) - AC = ND := ⟨_, rfl⟩
            have z2 : wrap64 ((m : Int) - AC) = ND := by rw [wr64 (by have := HN.out; omega) (by have := HN.out; omega)]; exact hND
            obtain ⟨MN, hMN⟩ : ∃ MN, min W ND = MN := ⟨_, rfl⟩
            have z3 : (if ND < W then ND else W) = MN := by rw [← hMN]; split <;> omega
            have z1b : S1 - AC = KI := hk0
            have z2b : (m : Int) - AC = ND := hND
            have z4 : decide (MN ≤ KI) = false := by simp; omega
            have z5 : decide (KI < 0) = false := by simp; omega
            have z6 : (S1 != S1) = false := by simp
            have zf := fun j => quiet_same (n := j) (xa j)
            clear hq hkW hqn hk0 hND hKI hKI0 p p5 r5 r6 bn hc6 hb6
            go_wp2_with fail
            rw [← hW5]
            clear hW5
            go_quiet ((go_at_call 24; exact zf _))
            obtain ⟨W6, hW6⟩ : ∃ W6, W6 = W5.drewN nq := ⟨_, rfl⟩
            have p7 : PO w W6 w.heap.size g O2 5 1 W 3 255 s1 := by rw [hW6]; exact p6.draws nq
            have L7 : Cel W6 w5.heap.size 43 #[.bool false, .bool false, .int .i64 5, .int .i64 1, .int .i64 S1, .slice (some ⟨bb, 0, none⟩) 1 c5] := by rw [hW6]; exact L.draws nq
            have d7 : W6.cell? ⟨bb, 0, none⟩ = some (.int .u8 S1) := by rw [hW6]; exact d0
            have xa7 := fun j => (p7.draws j).acked_
            simp only [hACe] at xa7
            have zf7 := fun j => quiet_same (n := j) (xa7 j)
            rw [← hW6]
            clear hW6 p6 L d0 l4 xa zf
            have l0 := L7.cell 0
            have l1 := L7.cell 1
            have l2 := L7.cell 2
            have l3 := L7.cell 3
            have l4 := L7.cell 4
            have l5 := L7.cell 5
            simp at l0 l1 l2 l3 l4 l5
            go_wp2_with fail
            go_quiet ((go_at_call 24; exact zf7 _))
            obtain ⟨W8, hW8⟩ : ∃ W8, W8 = W6.drewN nq := ⟨_, rfl⟩
            have p9 : PO w W8 w.heap.size g O2 5 1 W 3 255 s1 := by rw [hW8]; exact p7.draws nq
            have L9 : Cel W8 w5.heap.size 43 #[.bool false, .bool false, .int .i64 5, .int .i64 1, .int .i64 S1, .slice (some ⟨bb, 0, none⟩) 1 c5] := by rw [hW8]; exact L7.draws nq
            rw [← hW8]
            clear hW8 p7 L7 d7 l0 l1 l2 l3 l4 l5 xa7 zf7 z1 z1b z2 z2b z3 z4 z5 z6 hMN
            have l4 := L9.cell 4
            simp at l4
            have pp := p9
            clear p9
            have q2 := (pp.b.cell (p := ⟨b0, off0 + t, none⟩) hb0).trans q1
            have hAC := And.intro HM.out.v.a0 HM.out.v.al
            rw [un_len] at hAC
            by_cases hr4 : R4 = 0
            · subst hr4
              have xa := pp.acked_
              have hrep := fun h => HM.out.report HN.out h
              obtain ⟨AC, hACe⟩ : ∃ AC, s1.ac = AC := ⟨_, rfl⟩
              rw [hACe] at xa hrep hAC
              by_cases hgt : AC < H2
              · have g5 : decide (AC < H2) = true := by simpa using hgt
                obtain ⟨s2, hrp, hn2⟩ := hrep hgt
                have Hrp := Lib.hid hrp
                have Hn2 := Lib.hid hn2
                obtain ⟨A1, hA1⟩ : ∃ A1, AC + 1 = A1 := ⟨_, rfl⟩
                have z1 : wrap64 (AC + 1) = A1 := by rw [wr64 (by have := HN.out; omega) (by have := HN.out; omega)]; exact hA1
                have hac9 : s1.ac ≤ 1099511627776 := by have := HN.out; omega
                rw [hA1] at Hrp
                clear hrep hrp hn2 hgt
                go_wp2_with fail
                refine xa.mono ?_
                rintro e u1 ⟨rfl, rfl⟩
                go_wp2_with fail
                refine xa.mono ?_
                rintro e u1 ⟨rfl, rfl⟩
                clear xa
                go_wp2_with fail
                refine (word_any A1 _).mono ?_
                rintro e w8 ⟨rfl, b8⟩
                have p8 := pp.below b8
                go_wp2_with fail
                refine (p8.report_ 1 false false false 0 A1 (t : Int) Hrp.out hac9).mono ?_
                rintro e w9 ⟨rfl, p9, _⟩
                clear pp p8 b8 z1 hA1 hac9 hACe hAC q2
                have sm := Hn2.out.sum
                have xq := p9.queued_
                have xa := p9.acked_
                have xst := p9.state_
                rw [sm.2.1] at xst
                obtain ⟨U, hU⟩ : ∃ U, s2.us.length = U := ⟨_, rfl⟩
                obtain ⟨AC, hAC⟩ : ∃ AC, s2.ac = AC := ⟨_, rfl⟩
                rw [hU] at xq sm
                rw [hAC] at xa sm
                have z7 : wrap64 ((U : Int) + AC) = (m : Int) := by rw [wr64 (by have := HN.out; omega) (by have := HN.out; omega)]; exact sm.1
                have z8 : (U : Int) + AC = (m : Int) := sm.1
                have z9 : ((m : Int) != (m : Int)) = false := by simp
                have z10 : (m != m) = false := by simp
                clear sm hU hAC
                go_wp2_with fail
                refine xq.mono ?_
                rintro e u1 ⟨rfl, rfl⟩
                go_wp2_with fail
                refine xa.mono ?_
                rintro e u1 ⟨rfl, rfl⟩
                go_wp2_with fail
                refine xst.mono ?_
                rintro e u1 ⟨rfl, rfl⟩
                clear xq xa xst
                go_wp2
                go_roundw
                case rel => exact ⟨t + 1, H2, s2, O2, rfl, by simp, htn, by omega, by omega, p9, Lib.hid (by have := Hn2.out; simpa using this)⟩
                case measure => simp [intOf]; omega
              · have g5 : decide (AC < H2) = false := by simpa using hgt
                have Hn2 := Lib.hid HM.out.skip
                clear hrep hgt
                go_wp2_with fail
                refine xa.mono ?_
                rintro e u1 ⟨rfl, rfl⟩
                clear xa hACe hAC q2
                have sm := Hn2.out.sum
                have xq := pp.queued_
                have xa := pp.acked_
                have xst := pp.state_
                rw [sm.2.1] at xst
                obtain ⟨U, hU⟩ : ∃ U, s1.us.length = U := ⟨_, rfl⟩
                obtain ⟨AC, hAC⟩ : ∃ AC, s1.ac = AC := ⟨_, rfl⟩
                rw [hU] at xq sm
                rw [hAC] at xa sm
                have z7 : wrap64 ((U : Int) + AC) = (m : Int) := by rw [wr64 (by have := HN.out; omega) (by have := HN.out; omega)]; exact sm.1
                have z8 : (U : Int) + AC = (m : Int) := sm.1
                have z9 : ((m : Int) != (m : Int)) = false := by simp
                have z10 : (m != m) = false := by simp
                clear sm hU hAC
                go_wp2_with fail
                refine xq.mono ?_
                rintro e u1 ⟨rfl, rfl⟩
                go_wp2_with fail
                refine xa.mono ?_
                rintro e u1 ⟨rfl, rfl⟩
                go_wp2_with fail
                refine xst.mono ?_
                rintro e u1 ⟨rfl, rfl⟩
                clear xq xa xst
                go_wp2
                go_roundw
                case rel => exact ⟨t + 1, H2, s1, O2, rfl, by simp, htn, by omega, by omega, pp, Lib.hid (by have := Hn2.out; simpa using this)⟩
                case measure => simp [intOf]; omega
            · have g4 : (R4 == 0) = false := by simpa using hr4
              have g4b : decide (R4 = 0) = false := by simpa using hr4
              have Hn2 := Lib.hid HM.out.skip
              clear hr4 hAC
              have sm := Hn2.out.sum
              have xq := pp.queued_
              have xa := pp.acked_
              have xst := pp.state_
              rw [sm.2.1] at xst
              obtain ⟨U, hU⟩ : ∃ U, s1.us.length = U := ⟨_, rfl⟩
              obtain ⟨AC, hAC⟩ : ∃ AC, s1.ac = AC := ⟨_, rfl⟩
              rw [hU] at xq sm
              rw [hAC] at xa sm
              have z7 : wrap64 ((U : Int) + AC) = (m : Int) := by rw [wr64 (by have := HN.out; omega) (by have := HN.out; omega)]; exact sm.1
              have z8 : (U : Int) + AC = (m : Int) := sm.1
              have z9 : ((m : Int) != (m : Int)) = false := by simp
              have z10 : (m != m) = false := by simp
              clear sm hU hAC
              go_wp2_with fail
              refine xq.mono ?_
              rintro e u1 ⟨rfl, rfl⟩
              go_wp2_with fail
              refine xa.mono ?_
              rintro e u1 ⟨rfl, rfl⟩
              go_wp2_with fail
              refine xst.mono ?_
              rintro e u1 ⟨rfl, rfl⟩
              clear xq xa xst
              go_wp2
              go_roundw
              case rel => exact ⟨t + 1, H2, s1, O2, rfl, by simp, htn, by omega, by omega, pp, Lib.hid (by have := Hn2.out; simpa using this)⟩
              case measure => simp [intOf]; omega
        · obtain rfl : t = NL := by omega
          go_wp2_with fail
          refine (alive17_any wr).mono ?_
          rintro e w4 ⟨rfl, b4⟩
          go_wp2
          go_ret
          exact ⟨rfl, p.b.trans (b4.mono p.s)⟩
end Go.Proofs.Ytdpjjhbfhlmolaa.Fop

/-
  The law FopDelivers: its helpers lost and hears.
-/
namespace Go.Proofs.Ytdpjjhbfhlmolaa.Fop
open Go.RowKit
open Pac (bel_new Cel.later)
open Tcf (Fr)
open Lst (LS Qb)

theorem is_lists17 : Row.IsRows Try.prog 28 33 (.slice none 0 0) 1 24 := Row.IsRows.of Try.underlying28 rfl (by kernel_rfl)

set_option maxHeartbeats 1000000 in
theorem lost_any (l : List Byte) (n t : Nat) (A : Option Addr) (c : Nat) (w : World) (hl : Hid (l.length = n)) (hb : Bs w w.heap.size A l) (ht : t ≤ 1000) :
    Calls Try.prog 25 #[.slice A n c, .int .i64 (t : Int)] w fun e w' => ∃ b, e = .returned (.bool b) ∧ w = w' ∧ (8 * n ≤ t → b = false) := by
  obtain ⟨T8, hT⟩ : ∃ T8 : Nat, T8 = t / 8 := ⟨_, rfl⟩
  have a1 : (t : Int) / 8 = (T8 : Int) := by rw [hT]; omega
  have a2 : (t : Int).tdiv 8 = (T8 : Int) := by rw [Int.tdiv_eq_ediv_of_nonneg (by omega)]; exact a1
  obtain ⟨R8, hR⟩ : ∃ R8 : Nat, R8 = t % 8 := ⟨_, rfl⟩
  have a3 : (t : Int) % 8 = (R8 : Int) := by rw [hR]; omega
  have a4 : (t : Int).tmod 8 = (R8 : Int) := by rw [Int.tmod_eq_emod_of_nonneg (by omega)]; exact a3
  have hR8 : R8 < 8 := by omega
  by_cases hlt : T8 < n
  · have g1 : decide ((T8 : Int) < (n : Int)) = true := by simp; omega
    have g2 : decide (T8 < n) = true := by simp; omega
    have htl : T8 < l.length := by rw [hl.out]; exact hlt
    obtain ⟨b, off, rfl, hbw, hc⟩ := hb (by omega)
    have q1 := hc T8 _ (List.getElem?_eq_getElem htl)
    generalize l[T8] = x at q1
    have hx := x.isLt
    obtain ⟨X, hX⟩ : ∃ X : Int, (x.toNat : Int) = X := ⟨_, rfl⟩
    have hX0 : 0 ≤ X := by omega
    have hX1 : X ≤ 255 := by omega
    have q1 : w.cell? ⟨b, off + T8, none⟩ = some (.int .u8 X) := by rw [q1, ← hX]
    have HF : Hid (∀ b : Bool, 8 * n ≤ t → b = false) := Lib.hid (fun b h => by omega)
    clear hb htl hl hc hX hT hR hx
    go_enter Try.func25, Try.ntmps25
    go_wp2
    go_ret
    all_goals exact ⟨_, rfl, rfl, HF.out _⟩
  · have g1 : decide ((T8 : Int) < (n : Int)) = false := by simp; omega
    have g2 : decide (T8 < n) = false := by simp; omega
    clear hb hl hlt hT hR
    go_enter Try.func25, Try.ntmps25
    go_wp2
    go_ret
    exact ⟨_, rfl, rfl, fun _ => rfl⟩

theorem hea_results {tmps : Array Value} {W : World} {g : Nat} {R : Int} {ag : Bool} {v : Value} (h2 : tmps.getD 6 undef = .pointer (some ⟨g, 0, none⟩))
    (hC : Cel W g 57 #[.int .i64 R, .bool ag, v]) :
    (results Try.f26 tmps).run Try.prog W = .ok (.agg #[.int .i64 R, .bool ag, v]) W := by
  have c0 := hC.cell 0
  have c1 := hC.cell 1
  have c2 := hC.cell 2
  simp at c0 c1 c2
  simp only [Array.getD_eq_getD_getElem?] at h2
  simp [results, Try.results26, go_sem, h2, c0, c1, c2]
theorem hr_zero {W Q q : Int} {ag : Bool} (h : q = Q) : hr W Q ag q = (Q + 1, false) := by unfold hr; rw [if_pos h]
theorem hr_gap {W Q q : Int} {ag : Bool} (h : q ≠ Q) (h2 : (q - Q) % 256 < W) : hr W Q ag q = (Q, true) := by unfold hr; rw [if_neg h, if_pos h2]
theorem hr_else {W Q q : Int} {ag : Bool} (h : q ≠ Q) (h2 : ¬ (q - Q) % 256 < W) : hr W Q ag q = (Q, ag) := by unfold hr; rw [if_neg h, if_neg h2]

def put3 (w : World) (b : Nat) (a0 a1 a2 : Value) : World := ((w.setCell ⟨b, 0, none⟩ a0).setCell ⟨b, 1, none⟩ a1).setCell ⟨b, 2, none⟩ a2
theorem put3_cel {w : World} {b : Nat} {t : TypeId} {x0 x1 x2 : Value} (h : Cel w b t #[x0, x1, x2]) (a0 a1 a2 : Value) : Cel (put3 w b a0 a1 a2) b t #[a0, a1, a2] := ((h.put 0 a0).put 1 a1).put 2 a2
theorem put3_only (w : World) (b : Nat) (a0 a1 a2 : Value) : Only [b] w (put3 w b a0 a1 a2) := only_put (only_put (put_only w b 0 a0) 1 a1) 2 a2

set_option maxRecDepth 100000 in
set_option maxHeartbeats 2000000 in
theorem hears_gap (Q q W : Int) (ag : Bool) (A A2 : Option Addr) (n c m c2 : Nat) (w : World) (hQ0 : 0 ≤ Q) (hQ1 : Q ≤ 200) (hq0 : 0 ≤ q) (hq1 : q ≤ 200) (hne : Hid (q ≠ Q)) (hgt : Hid ((q - Q) % 256 < W)) :
    Calls Try.prog 26 #[.agg #[.int .i64 Q, .bool ag, .slice A n c], .agg #[.bool false, .bool false, .int .i64 5, .int .i64 1, .int .i64 q, .slice A2 m c2], .int .i64 W] w fun e w' => e = .returned (.agg #[.int .i64 Q, .bool true, .slice A n c]) ∧ Below w.heap.size w w' := by
  obtain ⟨D, hD⟩ : ∃ D, D = (q - Q) % 256 := ⟨_, rfl⟩
  have d1 : (q + 256 - Q) % 256 = D := by omega
  have d2 : (q + 256 - Q).tmod 256 = D := by rw [Int.tmod_eq_emod_of_nonneg (by omega)]; exact d1
  obtain ⟨w3, hw3⟩ : ∃ w3, w3 = ((w.alloc (.cells #[.int .i64 Q, .bool ag, .slice A n c] 57)).alloc (.cells #[.bool false, .bool false, .int .i64 5, .int .i64 1, .int .i64 q, .slice A2 m c2] 43)).alloc (.cells #[.int .i64 0, .bool false, .slice none 0 0] 57) := ⟨_, rfl⟩
  obtain ⟨w1, hw1⟩ : ∃ w1, w1 = w.alloc (.cells #[.int .i64 Q, .bool ag, .slice A n c] 57) := ⟨_, rfl⟩
  obtain ⟨w2, hw2⟩ : ∃ w2, w2 = w1.alloc (.cells #[.bool false, .bool false, .int .i64 5, .int .i64 1, .int .i64 q, .slice A2 m c2] 43) := ⟨_, rfl⟩
  have s1 : w1.heap.size = w.heap.size + 1 := by rw [hw1]; simp
  have s2 : w2.heap.size = w.heap.size + 1 + 1 := by rw [hw2]; simp [s1]
  have b1 : Below w.heap.size w w1 := by rw [hw1]; exact bel_new _ _
  have b2 : Below w1.heap.size w1 w2 := by rw [hw2]; exact bel_new _ _
  have hw3' : w3 = w2.alloc (.cells #[.int .i64 0, .bool false, .slice none 0 0] 57) := by rw [hw3, hw2, hw1]
  have b3 : Below w2.heap.size w2 w3 := by rw [hw3']; exact bel_new _ _
  have E1 : Cel w1 w.heap.size 57 #[.int .i64 Q, .bool ag, .slice A n c] := by rw [hw1]; exact Cel.new _ _ _
  have E3 : Cel w3 w.heap.size 57 #[.int .i64 Q, .bool ag, .slice A n c] := Cel.later (Cel.later E1 b2) b3
  have X2 : Cel w2 (w.heap.size + 1) 43 #[.bool false, .bool false, .int .i64 5, .int .i64 1, .int .i64 q, .slice A2 m c2] := by rw [hw2, ← s1]; exact Cel.new _ _ _
  have X3 := Cel.later X2 b3
  have R3 : Cel w3 (w.heap.size + 1 + 1) 57 #[.int .i64 0, .bool false, .slice none 0 0] := by rw [hw3', ← s2]; exact Cel.new _ _ _
  have c3 : Below w.heap.size w w3 := (b1.trans (b2.mono b1.size)).trans (b3.mono (Nat.le_trans b1.size b2.size))
  have e0 := E3.cell 0
  have e1 := E3.cell 1
  have e2 := E3.cell 2
  have x4 := X3.cell 4
  have x5 := X3.cell 5
  have f0 := E3.free 0
  have f1 := E3.free 1
  have f2 := E3.free 2
  have r0 := R3.free 0
  have r1 := R3.free 1
  have r2 := R3.free 2
  have rc0 := R3.cell 0
  have rc1 := R3.cell 1
  have rc2 := R3.cell 2
  simp at e0 e1 e2 x4 x5 rc0 rc1 rc2
  have g1 : (D == 0) = false := by have := hne.out; simp; omega
  have g3 : decide (D < W) = true := by have := hgt.out; simp; omega
  obtain ⟨v1, hv1⟩ : ∃ v1, v1 = w.alloc (.cells #[.int .i64 Q, .bool true, .slice A n c] 57) := ⟨_, rfl⟩
  obtain ⟨v2, hv2⟩ : ∃ v2, v2 = v1.alloc (.cells #[.bool false, .bool false, .int .i64 5, .int .i64 1, .int .i64 q, .slice A2 m c2] 43) := ⟨_, rfl⟩
  have q1 : v1.heap.size = w.heap.size + 1 := by rw [hv1]; simp
  have q2 : v2.heap.size = w.heap.size + 1 + 1 := by rw [hv2]; simp [q1]
  have k1 : Below w.heap.size w v1 := by rw [hv1]; exact bel_new _ _
  have k2 : Below w.heap.size w v2 := by rw [hv2]; exact k1.alloc k1.size _
  have k3 : Below w.heap.size w (v2.alloc (.cells #[.int .i64 Q, .bool true, .slice A n c] 57)) := k2.alloc k2.size _
  have C3 : Cel (v2.alloc (.cells #[.int .i64 Q, .bool true, .slice A n c] 57)) (w.heap.size + 1 + 1) 57 #[.int .i64 Q, .bool true, .slice A n c] := by rw [← q2]; exact Cel.new _ _ _
  rw [hv2, hv1] at k3 C3
  have HK := Lib.hid (And.intro k3 C3)
  clear hD hgt hne hw1 hw2 hw3' s1 s2 b1 b2 b3 E1 X2 X3 k1 k2 k3 C3 q1 q2 hv1 hv2
  go_enter Try.func26, Try.ntmps26
  go_wp2
  exact bodyPost_ret (hea_results rfl HK.out.2) rfl ⟨rfl, HK.out.1⟩

set_option maxRecDepth 100000 in
set_option maxHeartbeats 2000000 in
theorem hears_else (Q q W : Int) (ag : Bool) (A A2 : Option Addr) (n c m c2 : Nat) (w : World) (hQ0 : 0 ≤ Q) (hQ1 : Q ≤ 200) (hq0 : 0 ≤ q) (hq1 : q ≤ 200) (hne : Hid (q ≠ Q)) (hgt : Hid (W ≤ (q - Q) % 256)) :
    Calls Try.prog 26 #[.agg #[.int .i64 Q, .bool ag, .slice A n c], .agg #[.bool false, .bool false, .int .i64 5, .int .i64 1, .int .i64 q, .slice A2 m c2], .int .i64 W] w fun e w' => e = .returned (.agg #[.int .i64 Q, .bool ag, .slice A n c]) ∧ Below w.heap.size w w' := by
  obtain ⟨D, hD⟩ : ∃ D, D = (q - Q) % 256 := ⟨_, rfl⟩
  have d1 : (q + 256 - Q) % 256 = D := by omega
  have d2 : (q + 256 - Q).tmod 256 = D := by rw [Int.tmod_eq_emod_of_nonneg (by omega)]; exact d1
  obtain ⟨w3, hw3⟩ : ∃ w3, w3 = ((w.alloc (.cells #[.int .i64 Q, .bool ag, .slice A n c] 57)).alloc (.cells #[.bool false, .bool false, .int .i64 5, .int .i64 1, .int .i64 q, .slice A2 m c2] 43)).alloc (.cells #[.int .i64 0, .bool false, .slice none 0 0] 57) := ⟨_, rfl⟩
  obtain ⟨w1, hw1⟩ : ∃ w1, w1 = w.alloc (.cells #[.int .i64 Q, .bool ag, .slice A n c] 57) := ⟨_, rfl⟩
  obtain ⟨w2, hw2⟩ : ∃ w2, w2 = w1.alloc (.cells #[.bool false, .bool false, .int .i64 5, .int .i64 1, .int .i64 q, .slice A2 m c2] 43) := ⟨_, rfl⟩
  have s1 : w1.heap.size = w.heap.size + 1 := by rw [hw1]; simp
  have s2 : w2.heap.size = w.heap.size + 1 + 1 := by rw [hw2]; simp [s1]
  have b1 : Below w.heap.size w w1 := by rw [hw1]; exact bel_new _ _
  have b2 : Below w1.heap.size w1 w2 := by rw [hw2]; exact bel_new _ _
  have hw3' : w3 = w2.alloc (.cells #[.int .i64 0, .bool false, .slice none 0 0] 57) := by rw [hw3, hw2, hw1]
  have b3 : Below w2.heap.size w2 w3 := by rw [hw3']; exact bel_new _ _
  have E1 : Cel w1 w.heap.size 57 #[.int .i64 Q, .bool ag, .slice A n c] := by rw [hw1]; exact Cel.new _ _ _
  have E3 : Cel w3 w.heap.size 57 #[.int .i64 Q, .bool ag, .slice A n c] := Cel.later (Cel.later E1 b2) b3
  have X2 : Cel w2 (w.heap.size + 1) 43 #[.bool false, .bool false, .int .i64 5, .int .i64 1, .int .i64 q, .slice A2 m c2] := by rw [hw2, ← s1]; exact Cel.new _ _ _
  have X3 := Cel.later X2 b3
  have R3 : Cel w3 (w.heap.size + 1 + 1) 57 #[.int .i64 0, .bool false, .slice none 0 0] := by rw [hw3', ← s2]; exact Cel.new _ _ _
  have c3 : Below w.heap.size w w3 := (b1.trans (b2.mono b1.size)).trans (b3.mono (Nat.le_trans b1.size b2.size))
  have e0 := E3.cell 0
  have e1 := E3.cell 1
  have e2 := E3.cell 2
  have x4 := X3.cell 4
  have x5 := X3.cell 5
  have f0 := E3.free 0
  have f1 := E3.free 1
  have f2 := E3.free 2
  have r0 := R3.free 0
  have r1 := R3.free 1
  have r2 := R3.free 2
  have rc0 := R3.cell 0
  have rc1 := R3.cell 1
  have rc2 := R3.cell 2
  simp at e0 e1 e2 x4 x5 rc0 rc1 rc2
  have g1 : (D == 0) = false := by have := hne.out; simp; omega
  have g3 : decide (D < W) = false := by have := hgt.out; simp; omega
  obtain ⟨v1, hv1⟩ : ∃ v1, v1 = w.alloc (.cells #[.int .i64 Q, .bool ag, .slice A n c] 57) := ⟨_, rfl⟩
  obtain ⟨v2, hv2⟩ : ∃ v2, v2 = v1.alloc (.cells #[.bool false, .bool false, .int .i64 5, .int .i64 1, .int .i64 q, .slice A2 m c2] 43) := ⟨_, rfl⟩
  have q1 : v1.heap.size = w.heap.size + 1 := by rw [hv1]; simp
  have q2 : v2.heap.size = w.heap.size + 1 + 1 := by rw [hv2]; simp [q1]
  have k1 : Below w.heap.size w v1 := by rw [hv1]; exact bel_new _ _
  have k2 : Below w.heap.size w v2 := by rw [hv2]; exact k1.alloc k1.size _
  have k3 : Below w.heap.size w (v2.alloc (.cells #[.int .i64 Q, .bool ag, .slice A n c] 57)) := k2.alloc k2.size _
  have C3 : Cel (v2.alloc (.cells #[.int .i64 Q, .bool ag, .slice A n c] 57)) (w.heap.size + 1 + 1) 57 #[.int .i64 Q, .bool ag, .slice A n c] := by rw [← q2]; exact Cel.new _ _ _
  rw [hv2, hv1] at k3 C3
  have HK := Lib.hid (And.intro k3 C3)
  clear hD hgt hne hw1 hw2 hw3' s1 s2 b1 b2 b3 E1 X2 X3 k1 k2 k3 C3 q1 q2 hv1 hv2
  go_enter Try.func26, Try.ntmps26
  go_wp2
  exact bodyPost_ret (hea_results rfl HK.out.2) rfl ⟨rfl, HK.out.1⟩

set_option maxRecDepth 100000 in
set_option maxHeartbeats 4000000 in
theorem hears_next (Q q W : Int) (ag : Bool) (A A2 : Option Addr) (n c m c2 : Nat) (qs : List Qb) (d : List Byte) (B : Nat) (w : World) (hQ0 : 0 ≤ Q) (hQ1 : Q ≤ 200) (hne : Hid (q = Q)) (hqs : Hid (qs.length = n)) (hn : n ≤ 200) (hdm : Hid (d.length = m))
    (r : Row.Os Lst.enc 1 w B 33 (.slice A n c) qs) (hB : B ≤ w.heap.size) :
    Calls Try.prog 26 #[.agg #[.int .i64 Q, .bool ag, .slice A n c], .agg #[.bool false, .bool false, .int .i64 5, .int .i64 1, .int .i64 q, .slice A2 m c2], .int .i64 W] w fun e w' => (∃ A' c', e = .returned (.agg #[.int .i64 (Q + 1), .bool false, .slice A' (n + 1) c']) ∧ Row.Os Lst.enc 1 w' B 33 (.slice A' (n + 1) c') (qs ++ [⟨d, A2, c2⟩]) ∧ ((Value.slice A' (n + 1) c').ownBlock = (Value.slice A n c).ownBlock ∨ ∃ i, (Value.slice A' (n + 1) c').ownBlock = some i ∧ w.heap.size ≤ i)) ∧ Only (Value.slice A n c).ownBlock.toList w w' := by
  have hq0 : 0 ≤ q := by rw [hne.out]; exact hQ0
  have hq1 : q ≤ 200 := by rw [hne.out]; exact hQ1
  obtain ⟨D, hD⟩ : ∃ D, D = (q - Q) % 256 := ⟨_, rfl⟩
  have d1 : (q + 256 - Q) % 256 = D := by omega
  have d2 : (q + 256 - Q).tmod 256 = D := by rw [Int.tmod_eq_emod_of_nonneg (by omega)]; exact d1
  obtain ⟨w3, hw3⟩ : ∃ w3, w3 = ((w.alloc (.cells #[.int .i64 Q, .bool ag, .slice A n c] 57)).alloc (.cells #[.bool false, .bool false, .int .i64 5, .int .i64 1, .int .i64 q, .slice A2 m c2] 43)).alloc (.cells #[.int .i64 0, .bool false, .slice none 0 0] 57) := ⟨_, rfl⟩
  obtain ⟨w1, hw1⟩ : ∃ w1, w1 = w.alloc (.cells #[.int .i64 Q, .bool ag, .slice A n c] 57) := ⟨_, rfl⟩
  obtain ⟨w2, hw2⟩ : ∃ w2, w2 = w1.alloc (.cells #[.bool false, .bool false, .int .i64 5, .int .i64 1, .int .i64 q, .slice A2 m c2] 43) := ⟨_, rfl⟩
  have s1 : w1.heap.size = w.heap.size + 1 := by rw [hw1]; simp
  have s2 : w2.heap.size = w.heap.size + 1 + 1 := by rw [hw2]; simp [s1]
  have b1 : Below w.heap.size w w1 := by rw [hw1]; exact bel_new _ _
  have b2 : Below w1.heap.size w1 w2 := by rw [hw2]; exact bel_new _ _
  have hw3' : w3 = w2.alloc (.cells #[.int .i64 0, .bool false, .slice none 0 0] 57) := by rw [hw3, hw2, hw1]
  have b3 : Below w2.heap.size w2 w3 := by rw [hw3']; exact bel_new _ _
  have E1 : Cel w1 w.heap.size 57 #[.int .i64 Q, .bool ag, .slice A n c] := by rw [hw1]; exact Cel.new _ _ _
  have E3 : Cel w3 w.heap.size 57 #[.int .i64 Q, .bool ag, .slice A n c] := Cel.later (Cel.later E1 b2) b3
  have X2 : Cel w2 (w.heap.size + 1) 43 #[.bool false, .bool false, .int .i64 5, .int .i64 1, .int .i64 q, .slice A2 m c2] := by rw [hw2, ← s1]; exact Cel.new _ _ _
  have X3 := Cel.later X2 b3
  have R3 : Cel w3 (w.heap.size + 1 + 1) 57 #[.int .i64 0, .bool false, .slice none 0 0] := by rw [hw3', ← s2]; exact Cel.new _ _ _
  have c3 : Below w.heap.size w w3 := (b1.trans (b2.mono b1.size)).trans (b3.mono (Nat.le_trans b1.size b2.size))
  have e0 := E3.cell 0
  have e1 := E3.cell 1
  have e2 := E3.cell 2
  have x4 := X3.cell 4
  have x5 := X3.cell 5
  have f0 := E3.free 0
  have f1 := E3.free 1
  have f2 := E3.free 2
  have r0 := R3.free 0
  have r1 := R3.free 1
  have r2 := R3.free 2
  have rc0 := R3.cell 0
  have rc1 := R3.cell 1
  have rc2 := R3.cell 2
  simp at e0 e1 e2 x4 x5 rc0 rc1 rc2
  have g1 : (D == 0) = true := by have := hne.out; simp; omega
  have m1 : (Q + 1) % 256 = Q + 1 := by omega
  have m2 : (Q + 1).tmod 256 = Q + 1 := by rw [Int.tmod_eq_emod_of_nonneg (by omega)]; exact m1
  obtain ⟨Q1, hQ1e⟩ : ∃ Q1, Q + 1 = Q1 := ⟨_, rfl⟩
  rw [hQ1e] at m1 m2 ⊢
  have m3 : Q1.tmod 256 = Q1 := m2
  have m4 : Q1 % 256 = Q1 := m1
  have m5 : wrap64 (Q + 1) = Q1 := by rw [wr64 (by omega) (by omega)]; exact hQ1e
  obtain ⟨w4, hw4⟩ : ∃ w4, w4 = w3.alloc (.cells #[.slice A2 m c2] 33) := ⟨_, rfl⟩
  have b4 : Below w3.heap.size w3 w4 := by rw [hw4]; exact bel_new _ _
  have c4 : Below w.heap.size w w4 := c3.trans (b4.mono c3.size)
  have s3 : w3.heap.size = w.heap.size + 1 + 1 + 1 := by rw [hw3']; simp [s2]
  have E4 := Cel.later E3 b4
  have R4 := Cel.later R3 b4
  have own4 := r.below c4
  have rs4 : Row.Rs Lst.enc 1 w4 (w3.heap.size + 1) (some ⟨w3.heap.size, 0, none⟩) [⟨d, A2, c2⟩] := by rw [hw4]; exact Row.Rs_new1 Lst.enc_ok w3 _ _ _ (by simp only [Lst.enc, hdm.out])
  rw [s3] at rs4
  have hrl := r.lt
  have HE4 := Lib.hid E4
  have HR4 := Lib.hid R4
  have HC4 := Lib.hid c4
  have HO := Lib.hid own4
  have HRS := Lib.hid rs4
  have HL := Lib.hid hrl
  rw [hw3] at hw4
  clear hD hw1 hw2 hw3' hw3 s1 s2 s3 b1 b2 b3 E1 X2 X3 E3 R3 c3 b4 r own4 rs4 E4 R4 c4 hrl
  go_enter Try.func26, Try.ntmps26
  go_wp2_with (at_builtin; rw [← hw4]; refine Row.wpList_row _ Lst.enc_ok is_lists17 (by decide) rfl (.tmp 18) (.tmp 21) rfl (m := qs) rfl HO.out (l := [⟨d, A2, c2⟩]) (n := 1) rfl rfl HRS.out (fun h => nomatch h) (by rw [hqs.out]; simp; omega) (Nat.le_trans hB HC4.out.size) ?_)
  intro v5 W5 own5 gr5 hv5
  rw [← hw4] at gr5
  have hl5 : (qs ++ [(⟨d, A2, c2⟩ : Qb)]).length = n + 1 := (by rw [List.length_append, hqs.out]; rfl)
  obtain ⟨A5, c5, rfl, _, _, _, _⟩ := own5.reads_len Lst.enc_ok hl5
  have k5 := Only.of_grown gr5
  have E5 := HE4.out.only k5 (by intro hm; rw [Option.mem_toList] at hm; have := HL.out _ hm; omega)
  have R5 := HR4.out.only k5 (by intro hm; rw [Option.mem_toList] at hm; have := HL.out _ hm; omega)
  have o5 := only_then (Only.of_below HC4.out) k5
  have u0 := E5.cell 0
  have u1 := E5.cell 1
  have u2 := E5.cell 2
  have v0 := R5.cell 0
  have v1 := R5.cell 1
  have v2 := R5.cell 2
  have h0 := E5.free 0
  have h1 := E5.free 1
  have h2 := E5.free 2
  have j0 := R5.free 0
  have j1 := R5.free 1
  have j2 := R5.free 2
  simp at u0 u1 u2 v0 v1 v2
  obtain ⟨EW, hEW⟩ : ∃ EW, EW = ((W5.setCell ⟨w.heap.size, 2, none⟩ (.slice A5 (n + 1) c5)).setCell ⟨w.heap.size, 0, none⟩ (.int .i64 Q1)).setCell ⟨w.heap.size, 1, none⟩ (.bool false) := ⟨_, rfl⟩
  have kE : Only [w.heap.size] W5 EW := by rw [hEW]; exact only_put (only_put (put_only W5 w.heap.size 2 _) 0 _) 1 _
  have R6 := R5.only kE (by intro hm; rw [List.mem_singleton] at hm; omega)
  have R7 := put3_cel R6 (.int .i64 Q1) (.bool false) (.slice A5 (n + 1) c5)
  have kR := put3_only EW (w.heap.size + 1 + 1) (.int .i64 Q1) (.bool false) (.slice A5 (n + 1) c5)
  have hrow : ∀ i, (Value.slice A5 (n + 1) c5).ownBlock = some i → i ≠ w.heap.size ∧ i ≠ w.heap.size + 1 + 1 := fun i hi => by
    rcases hv5 with e | e
    · rw [e] at hi
      have := HL.out i hi
      omega
    · rw [e] at hi
      injection hi with hi
      omega
  have o6 := (own5.only kE (fun i hi hm => (hrow i hi).1 (by simpa using hm))).only kR (fun i hi hm => (hrow i hi).2 (by simpa using hm))
  have k6 := (o5.trans kE (fun x hx => .inr (by rw [List.mem_singleton] at hx; omega))).trans kR (fun x hx => .inr (by rw [List.mem_singleton] at hx; omega))
  have hv6 : (Value.slice A5 (n + 1) c5).ownBlock = (Value.slice A n c).ownBlock ∨ ∃ i, (Value.slice A5 (n + 1) c5).ownBlock = some i ∧ w.heap.size ≤ i := by
    rcases hv5 with e | e
    · exact .inl e
    · exact .inr ⟨_, e, by omega⟩
  unfold put3 at R7 o6 k6
  rw [hEW] at R7 o6 k6
  have HFIN := Lib.hid (And.intro R7 (And.intro o6 (And.intro k6 hv6)))
  clear gr5 k5 hl5 hEW kE R6 R7 kR hrow o6 k6 hv6 own5 hv5 E5 R5 o5
  go_wp2
  exact bodyPost_ret (hea_results rfl HFIN.out.1) rfl ⟨⟨_, _, rfl, HFIN.out.2.1, HFIN.out.2.2.2⟩, HFIN.out.2.2.1⟩
end Go.Proofs.Ytdpjjhbfhlmolaa.Fop
