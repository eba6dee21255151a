/-
  The walks of the small functions of package bits that its Writer wants: bytes.Clone, a width's test, NewWriter, Len, Bytes.
-/
import Derived.Test.YtlfhbapofopdfaaRows
import Derived.Test.YtlfhbapofopdfaaBitsMath
import Derived.Test.YtlfhbapofopdfaaCel
import Derived.WalkLawsBesides
import Derived.Lib.Hide
import Derived.Deep.QuietTactic
import Derived.BigQuiet
import Derived.BigRegion
namespace Go.Proofs.Ytlfhbapofopdfaa
open Go.RowKit

theorem info_u8 : (Try.prog.info? 5).map (fun i => (i.zero, i.size, i.bytes)) = some (some (.int .u8 0), 1, 1) := by kernel_rfl
theorem is_bytes : IsBytes Try.prog 27 5 := by
  obtain ⟨i, h0, h1, h2, h3⟩ := info_parts info_u8
  exact ⟨Try.underlying27, Try.underlying5, i, h0, h1, h2, h3⟩

theorem ret_int {k : IntKind} {a b : Int} (h : a = b) : Ending.returned (.int k a) = .returned (.int k b) := by rw [h]
theorem val_int {k : IntKind} {a b : Int} (h : a = b) : Value.int k a = .int k b := by rw [h]
theorem ret_bool {a b : Bool} (h : a = b) : Ending.returned (.bool a) = .returned (.bool b) := by rw [h]

set_option maxHeartbeats 400000 in
theorem clone_any (a : Option Addr) (l : List Byte) (n c : Nat) (w : World) (hl : Hid (l.length = n)) (hb : Bs w w.heap.size a l) (hn : a = none → c = 0) (hm : n ≤ 140737488355328) :
    Calls Try.prog 27 #[.slice a n c] w fun e w' => ∃ v, e = .returned v ∧ Ow w' w.heap.size 5 v l ∧ Below w.heap.size w w' := by
  have hL : l.length = n := hl
  subst hL
  cases a with
  | none =>
    have hl : l = [] := by
      rcases Nat.eq_zero_or_pos l.length with h0 | h0
      · exact List.eq_nil_of_length_eq_zero h0
      · obtain ⟨b, off, h, _⟩ := hb h0; cases h
    subst hl
    obtain rfl : c = 0 := hn rfl
    have hnil := fun W => Lib.run_eql_slice_nil (P := Try.prog) W 27 5 none 0 0 0 0 Try.underlying27
    go_enter Try.func27, Try.ntmps27
    go_wp2
    go_ret
    exact ⟨_, rfl, World.ownsRow_nil _ _ _ _, Below.refl _ _⟩
  | some ad =>
    have bel1 := (Below.refl w.heap.size w).alloc (Nat.le_refl _) (.cells #[] 5)
    have hown1 := Ow_empty w w.heap.size 5 (Nat.le_refl _)
    have hnil := fun W => Lib.run_eql_slice_nil (P := Try.prog) W 27 5 (some ad) l.length c 0 0 Try.underlying27
    go_enter Try.func27, Try.ntmps27
    go_wp2_with (first
      | (at_builtin; refine wpList_app _ is_bytes rfl (.tmp 5) (.tmp 6) rfl (m := []) rfl hown1 rfl (hb.below bel1) hn (by simp; omega) bel1.size ?_; intro v2 w2 hown2 hgrow2; have bel2 := bel1.grown hgrow2 bel1.size (Ow.base_le (l := []) hown1)))
    go_ret
    exact ⟨v2, rfl, hown2, bel2⟩

set_option maxHeartbeats 400000 in
theorem valid_yes (n : Int) (w : World) (h0 : 0 ≤ n) (h1 : n ≤ 64) :
    Calls Try.prog 26 #[.int .i64 n] w fun e w' => e = .returned (.bool true) ∧ w = w' := by
  go_enter Try.func26, Try.ntmps26
  go_wp2
  go_ret
  exact ⟨rfl, rfl⟩
set_option maxHeartbeats 400000 in
theorem valid_no (n : Int) (w : World) (h : n < 0 ∨ 64 < n) :
    Calls Try.prog 26 #[.int .i64 n] w fun e w' => e = .returned (.bool false) ∧ w = w' := by
  rcases h with h | h
  · go_enter Try.func26, Try.ntmps26
    go_wp2
    go_ret
    exact ⟨rfl, rfl⟩
  · have h2 : 0 ≤ n := by omega
    have h3 : decide (n ≤ 64) = false := by simpa using h
    go_enter Try.func26, Try.ntmps26
    go_wp2
    go_ret
    exact ⟨rfl, rfl⟩

/-- block g is a Writer of package bits that holds the bits L; its bytes lie in block r -/
def WAt (w : World) (base g : Nat) (r : Option Nat) (L : List Bool) : Prop :=
  ∃ v bs fr, Cel w g 53 #[.bool true, v, .int .i64 ((fr : Nat) : Int)] ∧ Ow w base 5 v bs ∧ v.ownBlock = r ∧ Room bs L fr ∧ fr < 8

set_option maxHeartbeats 400000 in
theorem newWriter_any (w : World) :
    Calls Try.prog 8 #[] w fun e w' => e = .returned (.pointer (some ⟨w.heap.size, 0, none⟩)) ∧ w.alloc (.cells #[.bool true, .slice none 0 0, .int .i64 0] 53) = w' := by
  go_enter Try.func8, Try.ntmps8
  go_wp2
  go_ret
  exact ⟨rfl, rfl⟩
theorem WAt_new (w : World) (base : Nat) : WAt (w.alloc (.cells #[.bool true, .slice none 0 0, .int .i64 0] 53)) base w.heap.size none [] :=
  ⟨_, [], 0, Cel.new _ _ _, World.ownsRow_nil _ _ _ _, rfl, room_nil, by omega⟩
theorem WAt.lt {w : World} {base g : Nat} {r : Option Nat} {L : List Bool} (h : WAt w base g r L) : g < w.heap.size := by
  obtain ⟨v, bs, fr, hc, _⟩ := h
  exact hc.lt
theorem WAt.row {w : World} {base g : Nat} {r : Option Nat} {L : List Bool} (h : WAt w base g r L) : ∀ i, r = some i → base ≤ i ∧ i < w.heap.size ∧ i ≠ g := by
  obtain ⟨v, bs, fr, hc, ho, rfl, _⟩ := h
  intro i hi
  have := ho.lt i hi
  exact ⟨this.1, this.2, fun e => ho.apart hc (by decide) (by rw [hi, e])⟩
theorem WAt.only {w w' : World} {base g : Nat} {r : Option Nat} {L : List Bool} {S : List Nat} (h : WAt w base g r L) (k : Only S w w') (hg : g ∉ S) (hr : ∀ i, r = some i → i ∉ S) : WAt w' base g r L := by
  obtain ⟨v, bs, fr, hc, ho, rfl, rest⟩ := h
  exact ⟨v, bs, fr, hc.only k hg, ho.only k hr, rfl, rest⟩
theorem WAt.draws {w : World} {base g : Nat} {r : Option Nat} {L : List Bool} (h : WAt w base g r L) (n : Nat) : WAt (w.drewN n) base g r L := h

set_option maxHeartbeats 400000 in
theorem wlen_any (w : World) (base g : Nat) (r : Option Nat) (L : List Bool) (h : WAt w base g r L) (hL : L.length < 1000000) :
    Calls Try.prog 13 #[.pointer (some ⟨g, 0, none⟩)] w fun e w' => e = .returned (.int .i64 (L.length : Int)) ∧ ∃ n, w' = w.drewN n := by
  obtain ⟨v, bs, fr, hc, ho, _, hR, hf⟩ := h
  obtain ⟨A, c, rfl, _, _, _, _⟩ := ho.reads
  have c1 := hc.cell 1
  have c2 := hc.cell 2
  simp at c1 c2
  have HL := Lib.hid hR.len
  have hlen := hR.len
  have hb : bs.length < 1000000 := by omega
  clear hlen ho hc hR
  go_enter Try.func13, Try.ntmps13
  go_wp2
  go_quiet (fail)
  go_wp2
  go_ret
  exact ⟨ret_int (by have := HL.out; omega), nq, rfl⟩

set_option maxHeartbeats 400000 in
theorem wbytes_any (w : World) (base g : Nat) (r : Option Nat) (L : List Bool) (h : WAt w base g r L) (hL : L.length < 1000000) :
    Calls Try.prog 15 #[.pointer (some ⟨g, 0, none⟩)] w fun e w' => ∃ v bs, e = .returned v ∧ Packs bs L ∧ Ow w' w.heap.size 5 v bs ∧ Below w.heap.size w w' := by
  obtain ⟨v, bs, fr, hc, ho, _, hR, hf⟩ := h
  obtain ⟨A, c, rfl, hr, hn, _, _⟩ := ho.reads
  have c1 := hc.cell 1
  simp at c1
  have hp := hR.packs hf
  have hb : bs.length ≤ 140737488355328 := by have := hR.len; omega
  clear ho hc hR
  go_enter Try.func15, Try.ntmps15
  go_wp2_with (go_at_call 27; refine (clone_any A bs _ c _ rfl hr hn hb).mono ?_; rintro e w1 ⟨v, rfl, hown, hbel⟩)
  go_ret
  exact ⟨v, bs, rfl, hp, hown, hbel⟩

end Go.Proofs.Ytlfhbapofopdfaa
