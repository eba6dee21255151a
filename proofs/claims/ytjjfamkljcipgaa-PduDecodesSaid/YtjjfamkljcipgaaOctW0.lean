/-
  The walks of the small functions of package octets that its Writer wants: works, NewWriter, Bytes, a size's test, fold; and what it is to be a Writer.
-/
import Derived.Test.YtjjfamkljcipgaaOctMath
import Derived.Test.YtjjfamkljcipgaaBase
import Derived.Test.YtjjfamkljcipgaaClone
import Derived.Deep.QuietTactic
import Derived.Deep.DeepCutAuto
import Derived.Deep.LoopGhost
import Derived.BigQuiet
import Derived.BigRegion
namespace Go.Proofs.Ytjjfamkljcipgaa
open Go.RowKit

/-- block g is a Writer of package octets that holds the bytes L, in block r -/
def OW (w : World) (base g : Nat) (r : Option Nat) (L : List Byte) : Prop :=
  ∃ v, Cel w g 69 #[.bool true, v] ∧ Ow w base 5 v L ∧ v.ownBlock = r

section
variable {w w' : World} {base g : Nat} {r : Option Nat} {L : List Byte} {S : List Nat}
theorem OW.lt (h : OW w base g r L) : g < w.heap.size := by
  obtain ⟨v, hc, _⟩ := h
  exact hc.lt
theorem OW.row (h : OW w base g r L) : ∀ i, r = some i → base ≤ i ∧ i < w.heap.size ∧ i ≠ g := by
  obtain ⟨v, hc, ho, rfl⟩ := h
  intro i hi
  have := ho.lt i hi
  exact ⟨this.1, this.2, fun e => ho.apart hc (by decide) (by rw [hi, e])⟩
theorem OW.only (h : OW w base g r L) (k : Only S w w') (hg : g ∉ S) (hr : ∀ i, r = some i → i ∉ S) : OW w' base g r L := by
  obtain ⟨v, hc, ho, rfl⟩ := h
  exact ⟨v, hc.only k hg, ho.only k hr, rfl⟩
theorem OW.below (h : OW w base g r L) (k : Below w.heap.size w w') : OW w' base g r L := h.only (Only.of_below (S := []) k) (by simp) (by simp)
theorem OW.draws (h : OW w base g r L) (n : Nat) : OW (w.drewN n) base g r L := h
theorem OW.drew (h : OW w base g r L) : OW w.drew base g r L := h
end

/-- what a write leaves: the Writer with the bytes L; of the old blocks the Writer's own alone may have turned -/
def OPut (w : World) (base g : Nat) (r : Option Nat) (L : List Byte) (wr : World) : Prop :=
  ∃ r', OW wr base g r' L ∧ (r' = r ∨ ∃ i, r' = some i ∧ w.heap.size ≤ i) ∧ Only (g :: r.toList) w wr

theorem OPut.below {w wr : World} {base g B : Nat} {r : Option Nat} {L L0 : List Byte} (h : OPut w base g r L wr) (h0 : OW w base g r L0) (hb : B ≤ base) (hg : B ≤ g) : Below B w wr := by
  obtain ⟨_, _, _, hO⟩ := h
  have hl := h0.lt
  refine hO.below (by omega) (fun x hx => ?_)
  rcases List.mem_cons.1 hx with rfl | hx
  · exact hg
  · have := h0.row x (by simpa using hx)
    omega
theorem OPut.only_ {w wr : World} {base g : Nat} {r : Option Nat} {L : List Byte} (h : OPut w base g r L wr) : Only (g :: r.toList) w wr := by
  obtain ⟨_, _, _, hO⟩ := h
  exact hO
theorem OPut.refl {w : World} {base g : Nat} {r : Option Nat} {L : List Byte} (h : OW w base g r L) : OPut w base g r L w := ⟨r, h, .inl rfl, Only.refl _ _⟩
theorem OPut.trans {w w1 w2 : World} {base g : Nat} {r r1 : Option Nat} {L2 : List Byte} (hr : r1 = r ∨ ∃ i, r1 = some i ∧ w.heap.size ≤ i) (hO : Only (g :: r.toList) w w1) (h2 : OPut w1 base g r1 L2 w2) : OPut w base g r L2 w2 := by
  obtain ⟨r2, h3, h4, h5⟩ := h2
  have hs := hO.size
  refine ⟨r2, h3, ?_, hO.trans h5 ?_⟩
  · rcases h4 with rfl | ⟨i, rfl, hi⟩
    · exact hr
    · exact .inr ⟨i, rfl, by omega⟩
  · intro x hx
    rcases List.mem_cons.1 hx with rfl | hx
    · exact .inl (by simp)
    · rcases hr with rfl | ⟨i, rfl, hi⟩
      · exact .inl (List.mem_cons_of_mem _ hx)
      · simp at hx; subst hx; exact .inr hi

theorem app_close {w wr w2 : World} {base g : Nat} {r : Option Nat} {L0 L : List Byte} {v v2 : Value} (hc : Cel wr g 69 #[.bool true, v]) (ho1 : Ow wr base 5 v L0)
    (hv : v.ownBlock = r ∨ ∃ i, v.ownBlock = some i ∧ w.heap.size ≤ i) (hO : Only (g :: r.toList) w wr) (ho2 : Ow w2 base 5 v2 L) (hk : Only v.ownBlock.toList wr w2)
    (hv2 : v2.ownBlock = v.ownBlock ∨ ∃ i, v2.ownBlock = some i ∧ wr.heap.size ≤ i) : OPut w base g r L (w2.setCell ⟨g, 1, none⟩ v2) := by
  have hne := ho1.apart hc (by decide)
  have hc2 : Cel w2 g 69 #[.bool true, v] := hc.only hk (by simpa using hne)
  have hne2 : v2.ownBlock ≠ some g := ho2.apart hc2 (by decide)
  have hs := hO.size
  refine ⟨v2.ownBlock, ⟨v2, ?_, ownsRow_setCell_other ho2 (a := ⟨g, 1, none⟩) hne2 _, rfl⟩, ?_, ?_⟩
  · have := hc2.put 1 v2
    simpa using this
  · rcases hv2 with h | ⟨i, h, hi⟩
    · rw [h]; exact hv
    · exact .inr ⟨i, h, by omega⟩
  · refine (hO.trans hk ?_).put (p := ⟨g, 1, none⟩) (.inl (by simp)) _
    intro x hx
    rcases hv with h | ⟨i, h, hi⟩
    · rw [h] at hx; exact .inl (List.mem_cons_of_mem _ hx)
    · rw [h] at hx; simp at hx; subst hx; exact .inr hi
/-- append of new memory: of one byte, written out; of a slice that was there -/
theorem app_new {wr w2 : World} {o : Obj} {v v2 : Value} (hg : (wr.alloc o).grownBy w2 v.ownBlock) (hv2 : v2.ownBlock = v.ownBlock ∨ v2.ownBlock = some (wr.alloc o).heap.size) :
    Only v.ownBlock.toList wr w2 ∧ (v2.ownBlock = v.ownBlock ∨ ∃ i, v2.ownBlock = some i ∧ wr.heap.size ≤ i) :=
  ⟨((Only.refl [] wr).alloc o).more (by simp) |>.trans (Only.of_grown hg) (fun x hx => .inl hx), hv2.imp id fun h => ⟨_, h, by simp⟩⟩
theorem app_newd {wr w2 : World} {o : Obj} {v v2 : Value} (hg : (wr.alloc o).drew.grownBy w2 v.ownBlock) (hv2 : v2.ownBlock = v.ownBlock ∨ v2.ownBlock = some (wr.alloc o).drew.heap.size) :
    Only v.ownBlock.toList wr w2 ∧ (v2.ownBlock = v.ownBlock ∨ ∃ i, v2.ownBlock = some i ∧ wr.heap.size ≤ i) :=
  ⟨(((Only.refl [] wr).alloc o).drew).more (by simp) |>.trans (Only.of_grown hg) (fun x hx => .inl hx), hv2.imp id fun h => ⟨_, h, by simp [World.drew]⟩⟩
theorem app_old {wr w2 : World} {v v2 : Value} (hg : wr.grownBy w2 v.ownBlock) (hv2 : v2.ownBlock = v.ownBlock ∨ v2.ownBlock = some wr.heap.size) :
    Only v.ownBlock.toList wr w2 ∧ (v2.ownBlock = v.ownBlock ∨ ∃ i, v2.ownBlock = some i ∧ wr.heap.size ≤ i) :=
  ⟨Only.of_grown hg, hv2.imp id fun h => ⟨_, h, Nat.le_refl _⟩⟩

set_option maxHeartbeats 400000 in
theorem owOk (w : World) (base g : Nat) (r : Option Nat) (L : List Byte) (h : OW w base g r L) :
    Calls Try.prog 45 #[.pointer (some ⟨g, 0, none⟩)] w fun e w' => e = .returned (.bool true) ∧ w = w' := by
  obtain ⟨v, hc, ho, _⟩ := h
  have c0 := hc.cell 0
  simp at c0
  clear hc ho
  go_enter Try.func45, Try.ntmps45
  go_wp2
  go_ret
  exact ⟨rfl, rfl⟩
set_option maxHeartbeats 400000 in
theorem ow_works_nil (w : World) : Calls Try.prog 45 #[.pointer none] w fun e w' => e = .returned (.bool false) ∧ w = w' := by
  go_enter Try.func45, Try.ntmps45
  go_wp2
  go_ret
  exact ⟨rfl, rfl⟩

set_option maxHeartbeats 400000 in
theorem onew_any (w : World) :
    Calls Try.prog 19 #[] w fun e w' => e = .returned (.pointer (some ⟨w.heap.size, 0, none⟩)) ∧ w.alloc (.cells #[.bool true, .slice none 0 0] 69) = w' := by
  go_enter Try.func19, Try.ntmps19
  go_wp2
  go_ret
  exact ⟨rfl, rfl⟩
theorem OW_new (w : World) (base : Nat) : OW (w.alloc (.cells #[.bool true, .slice none 0 0] 69)) base w.heap.size none [] :=
  ⟨_, Cel.new _ _ _, World.ownsRow_nil _ _ _ _, rfl⟩

set_option maxHeartbeats 400000 in
theorem obytes_any (w : World) (base g : Nat) (r : Option Nat) (L : List Byte) (h : OW w base g r L) (hL : L.length < 1000000) :
    Calls Try.prog 24 #[.pointer (some ⟨g, 0, none⟩)] w fun e w' => ∃ v, e = .returned v ∧ Ow w' w.heap.size 5 v L ∧ Below w.heap.size w w' := by
  have hw := owOk w base g r L h
  obtain ⟨v, hc, ho, _⟩ := h
  obtain ⟨A, c, rfl, hr, hn, _, _⟩ := ho.reads
  have c1 := hc.cell 1
  simp at c1
  clear ho hc
  go_enter Try.func24, Try.ntmps24
  go_wp2_with (first
    | (go_at_call 45; refine hw.mono ?_; rintro e w1 ⟨rfl, rfl⟩)
    | (go_at_call 48; refine (clone_any A L _ c _ rfl hr hn (by omega)).mono ?_; rintro e w1 ⟨v, rfl, hown, hbel⟩))
  go_ret
  exact ⟨v, rfl, hown, hbel⟩
set_option maxHeartbeats 400000 in
theorem obytes_nil (w : World) : Calls Try.prog 24 #[.pointer none] w fun e w' => e = .returned (.slice none 0 0) ∧ w = w' := by
  go_enter Try.func24, Try.ntmps24
  go_wp2_with (go_at_call 45; refine (ow_works_nil _).mono ?_; rintro e w1 ⟨rfl, rfl⟩)
  go_ret
  exact ⟨rfl, rfl⟩

set_option maxHeartbeats 400000 in
theorem osize_any (n : Int) (w : World) :
    Calls Try.prog 46 #[.int .i64 n] w fun e w' => e = .returned (.bool (decide (1 ≤ n ∧ n ≤ 8))) ∧ w = w' := by
  by_cases h1 : 1 ≤ n
  · by_cases h2 : n ≤ 8
    · have e : decide (1 ≤ n ∧ n ≤ 8) = true := by simp; omega
      rw [e]
      clear e
      go_enter Try.func46, Try.ntmps46
      go_wp2
      go_ret
      exact ⟨rfl, rfl⟩
    · have e : decide (1 ≤ n ∧ n ≤ 8) = false := by simp; omega
      rw [e]
      clear e
      have h3 : decide (n ≤ 8) = false := by simpa using h2
      go_enter Try.func46, Try.ntmps46
      go_wp2
      go_ret
      exact ⟨rfl, rfl⟩
  · have e : decide (1 ≤ n ∧ n ≤ 8) = false := by simp; omega
    rw [e]
    clear e
    have h3 : decide (1 ≤ n) = false := by simpa using h1
    go_enter Try.func46, Try.ntmps46
    go_wp2
    go_ret
    exact ⟨rfl, rfl⟩

theorem b64_not (a : BitVec 64) : bits .xor .u64 IntKind.u64.max (a.toNat : Int) = ((~~~ a).toNat : Int) := by
  have e := u64_xor_nat (BitVec.allOnes 64).toNat a.toNat (BitVec.allOnes 64).isLt a.isLt
  rw [← BitVec.toNat_xor, BitVec.allOnes_xor] at e
  exact e
theorem wrap64 (x : Int) : IntKind.u64.wrap x = x % 18446744073709551616 := by
  simp [IntKind.wrap, IntKind.bits, IntKind.signed]
theorem fold_neg {n : Int} (h : n < 0) (hn : -9223372036854775808 ≤ n) : bits .xor .u64 IntKind.u64.max (IntKind.u64.wrap (IntKind.u64.wrap n * 2)) = (zig n : Int) := by
  have e : IntKind.u64.wrap (IntKind.u64.wrap n * 2) = (((BitVec.ofNat 64 (2 * n + 18446744073709551616).toNat)).toNat : Int) := by
    rw [wrap64, wrap64, BitVec.toNat_ofNat]
    omega
  rw [e, b64_not, BitVec.toNat_not, BitVec.toNat_ofNat]
  unfold zig
  rw [if_pos h]
  omega

set_option maxHeartbeats 400000 in
theorem fold_any (n : Int) (w : World) (hn : -9223372036854775808 ≤ n ∧ n ≤ 9223372036854775807) :
    Calls Try.prog 47 #[.int .i64 n] w fun e w' => e = .returned (.int .u64 (zig n : Int)) ∧ w = w' := by
  by_cases h0 : n < 0
  · go_enter Try.func47, Try.ntmps47
    go_wp2
    go_ret
    exact ⟨ret_int (fold_neg h0 hn.1), rfl⟩
  · go_enter Try.func47, Try.ntmps47
    go_wp2
    go_ret
    exact ⟨ret_int (by unfold zig; rw [if_neg (by omega)]; omega), rfl⟩
end Go.Proofs.Ytjjfamkljcipgaa
