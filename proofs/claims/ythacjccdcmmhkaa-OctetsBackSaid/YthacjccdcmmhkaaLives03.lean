/-
  The walk of 'awake': the chapter's first example, nil and zero objects.
-/
import Derived.Test.YthacjccdcmmhkaaOctW1
import Derived.Test.YthacjccdcmmhkaaOctR2
import Derived.LaidEqlPtr
namespace Go.Proofs.Ythacjccdcmmhkaa
open Go.RowKit

theorem oinfo_W : (Try.prog.info? 55).isSome = true := by kernel_rfl
theorem oeq_W (a : Addr) (w : World) : (binOp .eql 25 (.pointer (some a)) (.pointer (some a))).run Try.prog w = .ok (.bool true) w := by
  obtain ⟨j, hj⟩ := Option.isSome_iff_exists.1 oinfo_W
  exact run_eql_ptr_same w a Try.underlying25 hj

def L3 : List Byte := [1#8, 128#8, 1#8, 4#8, 97#8, 98#8]

set_option maxHeartbeats 2000000 in
theorem awake_any (w : World) : Calls Try.prog 7 #[] w fun e w' => e = .returned (.bool true) ∧ Below w.heap.size w w' := by
  have hcmp : ((str L3).toList == [1, 128, 1, 4, 97, 98]) = true := by
    rw [str_toList]
    decide +kernel
  go_enter Try.func7, Try.ntmps7
  go_wp2_with fail
  refine (onew_any _).mono ?_
  rintro e w0 ⟨rfl, hw0⟩
  have hW0 : OW w0 w.heap.size w.heap.size none [] := by rw [← hw0]; exact OW_new _ _
  have bel0 : Below w.heap.size w w0 := by rw [← hw0]; exact (Below.refl _ _).alloc (Nat.le_refl _) _
  clear hw0
  go_wp2_with fail
  refine (oint_any _ w.heap.size w.heap.size none [] (-1) hW0 (by decide) (by decide) bel0.size).mono ?_
  rintro e w1 ⟨rfl, hP1⟩
  have bel1 := bel0.trans (hP1.below hW0 (Nat.le_refl _) (Nat.le_refl _))
  obtain ⟨r1, hW1, _, _⟩ := hP1
  clear hW0
  go_wp2_with fail
  refine (oint_any _ w.heap.size w.heap.size r1 _ 64 hW1 (by decide) (by decide) bel1.size).mono ?_
  rintro e w2 ⟨rfl, hP2⟩
  have bel2 := bel1.trans (hP2.below hW1 (Nat.le_refl _) (Nat.le_refl _))
  obtain ⟨r2, hW2, _, _⟩ := hP2
  clear hW1
  go_wp2_with fail
  have hg2 := hW2.lt
  have hr2 := hW2.row
  have hW2a : OW (w2.alloc (.cells #[.int .u8 97, .int .u8 98] 5)) w.heap.size w.heap.size r2 ([] ++ encI (-1) ++ encI 64) := hW2.only ((Only.refl [] w2).alloc _) (by simp) (by simp)
  have bel2a : Below w.heap.size w (w2.alloc (.cells #[.int .u8 97, .int .u8 98] 5)) := bel2.alloc bel2.size _
  have hlit : Bs (w2.alloc (.cells #[.int .u8 97, .int .u8 98] 5)) (w2.heap.size + 1) (some ⟨w2.heap.size, 0, none⟩) [97#8, 98#8] := Bs_new2 _ _ _ _ _ _ rfl rfl
  refine (oblob_at _ w.heap.size w.heap.size r2 _ (w2.heap.size + 1) _ [97#8, 98#8] 2 2 hW2a (Lib.hid rfl) (fun w' hO => hlit.apart_only hO (by simp) ?_) (fun h => nomatch h) (by decide) bel2a.size).mono ?_
  · intro hx
    rcases List.mem_cons.1 hx with hx | hx
    · omega
    · have := hr2 w2.heap.size (by simpa using hx)
      omega
  rintro e w3 ⟨rfl, hP3⟩
  have bel3 := bel2a.trans (hP3.below hW2a (Nat.le_refl _) (Nat.le_refl _))
  obtain ⟨r3, hW3, _, _⟩ := hP3
  clear hW2 hW2a hlit hg2 hr2
  rw [show [] ++ encI (-1) ++ encI 64 ++ encB [97#8, 98#8] = L3 by decide +kernel] at hW3
  go_wp2_with fail
  refine (obytes_any _ w.heap.size w.heap.size r3 L3 hW3 (by decide)).mono ?_
  rintro e w4 ⟨v, rfl, hown, hb4⟩
  have bel4 := bel3.trans (hb4.mono bel3.size)
  obtain ⟨A, c, rfl, hA, hAn, _⟩ := hown.reads_len (n := 6) rfl
  have hconv : (convert 27 9 (.slice A 6 c)).run Try.prog (w4.alloc (.cells #[.bool false, .bool false, .slice none 0 0] 53)) = .ok (.string (str L3)) (w4.alloc (.cells #[.bool false, .bool false, .slice none 0 0] 53)) :=
    run_str (l := L3) _ is_bytes Try.underlying9 (hA.below ((Below.refl _ _).alloc (Nat.le_refl _) _)) hAn
  have hz : ZOR (w4.alloc (.cells #[.bool false, .bool false, .slice none 0 0] 53)) w4.heap.size := Cel.new _ _ _
  have bel5 : Below w.heap.size w (w4.alloc (.cells #[.bool false, .bool false, .slice none 0 0] 53)) := bel4.alloc bel4.size _
  clear hW3 hown hb4 hA bel4 bel3 bel2 bel1 bel0 bel2a
  go_wp2_with fail
  refine (oint_nil _ _).mono ?_
  rintro e w5 ⟨rfl, hw5⟩
  rw [← hw5]
  clear hw5 hcmp hconv
  have hid : Idle3 (w4.alloc (.cells #[.bool false, .bool false, .slice none 0 0] 53)) (some ⟨w4.heap.size, 0, none⟩) := .inr ⟨_, rfl, hz⟩
  obtain ⟨G, hG⟩ : ∃ G, G = w4.heap.size := ⟨_, rfl⟩
  obtain ⟨W, hW⟩ : ∃ W, W = w4.alloc (.cells #[.bool false, .bool false, .slice none 0 0] 53) := ⟨_, rfl⟩
  rw [← hW] at hid bel5 ⊢
  rw [← hG] at hid ⊢
  clear hW hG hz
  go_wp2_with fail
  refine (obytes_nil _).mono ?_
  rintro e w6 ⟨rfl, rfl⟩
  go_wp2_with fail
  refine (orint_nil _).mono ?_
  rintro e w6 ⟨rfl, rfl⟩
  go_wp2_with fail
  refine (or_failed_nil _).mono ?_
  rintro e w6 ⟨rfl, rfl⟩
  go_wp2_with fail
  refine (or_end_idle (.inl rfl)).mono ?_
  rintro e w6 ⟨rfl, rfl⟩
  go_wp2_with fail
  refine (or_end_idle hid).mono ?_
  rintro e w6 ⟨rfl, rfl⟩
  go_wp2_with fail
  refine (or_left_idle hid).mono ?_
  rintro e w6 ⟨rfl, rfl⟩
  go_wp2_with fail
  go_ret
  exact ⟨rfl, bel5⟩
end Go.Proofs.Ythacjccdcmmhkaa
