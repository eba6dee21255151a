/-
  The walk of Put of package bits' Writer.
-/
import Derived.Test.YtcmonalnhdodmaaBitsW0
import Derived.Deep.DeepCutAuto
import Derived.Deep.LoopGhost
namespace Go.Proofs.Ytcmonalnhdodmaa
open Go.RowKit

set_option maxHeartbeats 1000000 in
theorem put_bad (w : World) (base g : Nat) (r : Option Nat) (L : List Bool) (n : BitVec 64) (k : Int) (h : WAt w base g r L) (hk : k < 0 ∨ 64 < k) :
    Calls Try.prog 35 #[.pointer (some ⟨g, 0, none⟩), .int .u64 (n.toNat : Int), .int .i64 k] w fun e w' => e = .returned (.pointer (some ⟨g, 0, none⟩)) ∧ w = w' := by
  obtain ⟨v, bs, fr, hc, ho, _, hR, hf⟩ := h
  have c0 := hc.cell 0
  simp at c0
  clear ho hc hR
  go_enter Try.func35, Try.ntmps35
  go_wp2_with (go_at_call 52; refine (valid_no _ _ hk).mono ?_; rintro e w' ⟨rfl, rfl⟩)
  go_ret
  exact ⟨rfl, rfl⟩

/-- what Put leaves: the Writer with the bits L; of the old blocks the Writer's own alone may have turned -/
def PutAt (w : World) (base g : Nat) (r : Option Nat) (L : List Bool) (wr : World) : Prop :=
  ∃ r', WAt wr base g r' L ∧ (r' = r ∨ ∃ i, r' = some i ∧ w.heap.size ≤ i) ∧ Only (g :: r.toList) w wr
/-- the same in the middle of a round: there is a last byte, with room in it -/
def PutMid (w : World) (base g : Nat) (r : Option Nat) (L : List Bool) (wr : World) : Prop :=
  ∃ v bs fr, Cel wr g 86 #[.bool true, v, .int .i64 ((fr : Nat) : Int)] ∧ Ow wr base 5 v bs ∧ (v.ownBlock = r ∨ ∃ i, v.ownBlock = some i ∧ w.heap.size ≤ i) ∧ Room bs L fr ∧ 0 < fr ∧ Only (g :: r.toList) w wr

theorem mid_of {w wr w2 : World} {base g : Nat} {r : Option Nat} {L : List Bool} {v v2 : Value} {bs : List Byte} (hc : Cel wr g 86 #[.bool true, v, .int .i64 0])
    (ho : Ow w2 base 5 v2 (bs ++ [0#8])) (hg : (wr.alloc (.cells #[.int .u8 0] 5)).grownBy w2 v.ownBlock) (ho1 : Ow wr base 5 v bs) (hv : v.ownBlock = r ∨ ∃ i, v.ownBlock = some i ∧ w.heap.size ≤ i)
    (hv2 : v2.ownBlock = v.ownBlock ∨ v2.ownBlock = some (wr.heap.size + 1)) (hR : Room bs L 0) (hO : Only (g :: r.toList) w wr) :
    PutMid w base g r L ((w2.setCell ⟨g, 1, none⟩ v2).setCell ⟨g, 2, none⟩ (.int .i64 8)) := by
  have hr : ∀ x ∈ v.ownBlock.toList, x ∈ g :: r.toList ∨ w.heap.size ≤ x := by
    intro x hx
    rcases hv with h | ⟨i, h, hi⟩
    · rw [h] at hx; exact .inl (List.mem_cons_of_mem _ hx)
    · rw [h] at hx; simp at hx; subst hx; exact .inr hi
  have hO2 : Only (g :: r.toList) w w2 := (hO.alloc _).trans (Only.of_grown hg) hr
  have hne := ho1.apart hc (by decide)
  have hc2 : Cel w2 g 86 #[.bool true, v, .int .i64 0] := hc.grown hg hne
  have hne2 : v2.ownBlock ≠ some g := ho.apart hc2 (by decide)
  have hs : wr.heap.size + 1 ≤ w2.heap.size := by have := hg.size; simpa using this
  refine ⟨v2, bs ++ [0#8], 8, ?_, ?_, ?_, hR.grow, by omega, ?_⟩
  · have := (hc2.put 1 v2).put 2 (.int .i64 8)
    simpa using this
  · exact ownsRow_setCell_other (ownsRow_setCell_other ho (a := ⟨g, 1, none⟩) hne2 _) (a := ⟨g, 2, none⟩) hne2 _
  · rcases hv2 with h | h
    · rw [h]; exact hv
    · exact .inr ⟨_, h, by have := hO.size; omega⟩
  · exact (hO2.put (p := ⟨g, 1, none⟩) (.inl (by simp)) _).put (p := ⟨g, 2, none⟩) (.inl (by simp)) _

theorem put_close {w wc : World} {base g gr m c fr s gk k N : Nat} {r : Option Nat} {L : List Bool} {bs : List Byte} {x : Byte} (a : Nat)
    (hc : Cel wc g 86 #[.bool true, .slice (some ⟨gr, 0, none⟩) (m + 1) c, .int .i64 (fr : Int)]) (ho : Ow wc base 5 (.slice (some ⟨gr, 0, none⟩) (m + 1) c) bs)
    (hv : (Value.slice (some ⟨gr, 0, none⟩) (m + 1) c).ownBlock = r ∨ ∃ i, (Value.slice (some ⟨gr, 0, none⟩) (m + 1) c).ownBlock = some i ∧ w.heap.size ≤ i)
    (hR : Room bs (L ++ bitsOf (N / 2 ^ gk) (k - gk)) fr) (hl : bs.length = m + 1) (hx : bs[m]? = some x) (hs : s ≤ fr) (hf : 0 < fr) (hs0 : 0 < s) (hsg : s ≤ gk) (hgk : gk ≤ k) (hO : Only (g :: r.toList) w wc) :
    PutAt w base g r (L ++ bitsOf (N / 2 ^ (gk - s)) (k - (gk - s))) (((wc.setCell ⟨g, 2, none⟩ (.int .i64 ((fr - s : Nat) : Int))).drewN a).setCell ⟨gr, m, none⟩ (B8 (x ||| (piece (N / 2 ^ (gk - s)) s <<< (fr - s))))) := by
  have hne : gr ≠ g := fun e => ho.apart hc (by decide) (by rw [e]; rfl)
  have h8 := hR.le
  have hput := hR.put hs hf x (piece (N / 2 ^ (gk - s)) s) (m := N / 2 ^ (gk - s)) (by rw [hl]; exact hx) (piece_bit _ _ (by omega))
  have hq : N / 2 ^ (gk - s) / 2 ^ s = N / 2 ^ gk := by rw [Nat.div_div_eq_div_mul, ← Nat.pow_add, show gk - s + s = gk by omega]
  have hb := bitsOf_add (N / 2 ^ (gk - s)) (k - gk) s
  rw [hq, show k - gk + s = k - (gk - s) by omega] at hb
  rw [List.append_assoc, ← hb, hl] at hput
  have hc2 := (hc.put 2 (.int .i64 ((fr - s : Nat) : Int))).draws a
  have ho2 : Ow ((wc.setCell ⟨g, 2, none⟩ (.int .i64 ((fr - s : Nat) : Int))).drewN a) base 5 (.slice (some ⟨gr, 0, none⟩) (m + 1) c) bs := ownsRow_setCell_other ho (a := ⟨g, 2, none⟩) (fun e => hne (by injection e)) _
  refine ⟨some gr, ⟨.slice (some ⟨gr, 0, none⟩) (m + 1) c, _, fr - s, ?_, ho2.set_ rfl _, rfl, hput, by omega⟩, ?_, ?_⟩
  · have h3 := (Below.heap_setCell ((wc.setCell ⟨g, 2, none⟩ (.int .i64 ((fr - s : Nat) : Int))).drewN a) ⟨gr, m, none⟩ (B8 (x ||| (piece (N / 2 ^ (gk - s)) s <<< (fr - s)))) g (fun e => hne e.symm)).trans hc2
    unfold Cel
    simpa using h3
  · exact hv
  · refine ((hO.put (p := ⟨g, 2, none⟩) (.inl (by simp)) _).draws a).put (p := ⟨gr, m, none⟩) ?_ _
    rcases hv with h | ⟨i, h, hi⟩
    · rw [← h]; exact .inl (by simp [Value.ownBlock])
    · injection h with h; subst h; exact .inr hi

theorem min_of (a b : Nat) : ∃ s : Nat, (if b < a then (b : Int) else (a : Int)) = (s : Int) ∧ s ≤ a ∧ s ≤ b ∧ (0 < a → 0 < b → 0 < s) := by
  refine ⟨min a b, ?_, by omega, by omega, by omega⟩
  split <;> omega

set_option maxHeartbeats 1000000 in
theorem put_any (w : World) (base g : Nat) (r : Option Nat) (L : List Bool) (n : BitVec 64) (k : Nat) (h : WAt w base g r L) (hk : k ≤ 64) (hL : L.length < 1000000) (hbase : base ≤ w.heap.size) :
    Calls Try.prog 35 #[.pointer (some ⟨g, 0, none⟩), .int .u64 (n.toNat : Int), .int .i64 (k : Int)] w fun e w' => e = .returned (.pointer (some ⟨g, 0, none⟩)) ∧ PutAt w base g r (L ++ bitsOf n.toNat k) w' := by
  have hg := h.lt
  have c0 : w.cell? ⟨g, 0, none⟩ = some (.bool true) := by
    obtain ⟨v, bs, fr, hc, _⟩ := h
    have := hc.cell 0
    simpa using this
  go_enter Try.func35, Try.ntmps35
  go_wp2_with (go_at_call 52; refine (valid_yes _ _ (by omega) (by omega)).mono ?_; rintro e w' ⟨rfl, rfl⟩)
  go_loopg [2] k (fun j i wr => j ≤ k ∧ i = .int .i64 (j : Int) ∧ PutAt w base g r (L ++ bitsOf (n.toNat / 2 ^ j) (k - j)) wr)
  case atStart => exact ⟨Nat.le_refl _, rfl, r, by rw [Nat.sub_self]; simpa [bitsOf] using h, .inl rfl, Only.refl _ _⟩
  case round =>
    obtain ⟨hj, rfl, hP⟩ := hrel
    by_cases hj0 : gk = 0
    · subst hj0
      go_wp2
      go_ret
      exact ⟨rfl, by simpa using hP⟩
    · have hpos : 0 < gk := by omega
      obtain ⟨r', ⟨v, bs, fr, hc, ho, rfl, hR, hf⟩, hr', hO⟩ := hP
      obtain ⟨A, c, rfl, _⟩ := ho.reads
      have c1 := hc.cell 1
      have c2 := hc.cell 2
      have f1 := hc.free 1
      have f2 := hc.free 2
      simp at c1 c2
      have hbl : bs.length ≤ 2000000 := by
        have h1 := hR.len
        rw [List.length_append, bitsOf_len] at h1
        omega
      have hwr : base ≤ wr.heap.size := Nat.le_trans hbase hO.size
      go_upto_if 28 with (fail)
      go_cut [2] (fun s2 wx => s2 = .int .i64 (gk : Int) ∧ PutMid w base g r (L ++ bitsOf (n.toNat / 2 ^ gk) (k - gk)) wx)
      case first =>
        by_cases hfr : fr = 0
        · subst hfr
          have hne := ho.apart hc (by decide)
          go_wp2_with (first
            | (at_builtin; refine wpList_appAt _ is_bytes rfl (.tmp 33) (.tmp 34) rfl (v := Value.slice A bs.length c) (m := bs) rfl (ho.alloc _) (l := [0#8]) rfl (Bs_new1 _ _ _ _ rfl) (by simp) (by simp; omega) (by simp; omega) ?_; intro v2 w2 hown2 hgrow2 hat2; obtain ⟨A2, c2', rfl, _⟩ := hown2.reads_len (n := bs.length + 1) (by simp); have hcw := hc.grown hgrow2 hne; have e1 := hcw.cell 1; have e2 := hcw.cell 2; have e3 := hcw.free 1; have e4 := hcw.free 2; simp at e1 e2))
          go_meet
          case rel => exact ⟨rfl, mid_of hc hown2 hgrow2 ho hr' (by simpa using hat2) hR hO⟩
        · go_wp2
          go_meet
          case rel => exact ⟨rfl, _, bs, fr, hc, ho, hr', hR, by omega, hO⟩
      case rest =>
        clear hc ho hR hr' hO c1 c2 f1 f2 hbl hwr hf
        obtain ⟨rfl, v, bs, fr, hc, ho, hr', hR, hf, hO⟩ := hcut
        have h8 := hR.le
        obtain ⟨m, hm⟩ : ∃ m, bs.length = m + 1 := ⟨bs.length - 1, by have := hR.len; omega⟩
        have hm2 : m < 2000000 := by
          have h1 := hR.len
          rw [List.length_append, bitsOf_len] at h1
          omega
        obtain ⟨x, hx⟩ : ∃ x, bs[m]? = some x := ⟨_, List.getElem?_eq_getElem (by omega)⟩
        obtain ⟨gr, c, rfl, hgb, hgl, hmc, hcm, hcells, hfree⟩ := ho.form_len hm
        have c1 := hc.cell 1
        have c2 := hc.cell 2
        have f1 := hc.free 1
        have f2 := hc.free 2
        have c3 := hcells m x hx
        have f3 := hfree m
        have hne : gr ≠ g := fun e => ho.apart hc (by decide) (by rw [e]; rfl)
        have hne2 : g ≠ gr := fun e => hne e.symm
        simp at c1 c2
        obtain ⟨s, hmin, hsg, hsf, hs0⟩ := min_of gk fr
        have hs1 := hs0 hpos hf
        have HM := Lib.hid hm
        have HX := Lib.hid hx
        unfold maxLen at hcm
        clear hm hx hcells hfree hs0
        go_wp2
        obtain ⟨q, hq⟩ : ∃ q, q = gk - s := ⟨_, rfl⟩
        obtain ⟨p, hp⟩ : ∃ p, p = fr - s := ⟨_, rfl⟩
        rw [show ((gk : Int) - (s : Int)) = (q : Int) by omega, show ((fr : Int) - (s : Int)) = (p : Int) by omega]
        have hq1 : q ≤ 64 := by omega
        have hp1 : p + s ≤ 8 := by omega
        have hs8 : s ≤ 8 := by omega
        have HQ := Lib.hid hq
        have HP := Lib.hid hp
        clear hq hp hmin
        go_quiet (fail)
        have hpw := piece_walk (n.toNat / 2 ^ q) s hs8
        rw [IntKind.wrap_u8, ← div_nat] at hpw
        rw [hpw]
        clear hpw
        obtain ⟨y, hy⟩ : ∃ y, y = piece (n.toNat / 2 ^ q) s := ⟨_, rfl⟩
        rw [← hy]
        have HY := Lib.hid hy
        clear hy
        have hcW := (hc.put 2 (.int .i64 (p : Int))).draws nq
        have d1 := hcW.cell 1
        have d2 := hcW.cell 2
        have d3 : ((wc.setCell ⟨g, 2, none⟩ (.int .i64 (p : Int))).drewN nq).cell? ⟨gr, m, none⟩ = some (B8 x) := (World.cell?_of_block (Below.heap_setCell wc ⟨g, 2, none⟩ _ gr hne)).trans c3
        have d4 : ((wc.setCell ⟨g, 2, none⟩ (.int .i64 (p : Int))).drewN nq).frozen? ⟨gr, m, none⟩ = false := (World.frozen?_of_block (Below.heap_setCell wc ⟨g, 2, none⟩ _ gr hne)).trans f3
        obtain ⟨W, hW⟩ : ∃ W, W = (wc.setCell ⟨g, 2, none⟩ (.int .i64 (p : Int))).drewN nq := ⟨_, rfl⟩
        rw [← hW] at d1 d2 d3 d4 ⊢
        simp at d1 d2
        have HW := Lib.hid hW
        have hm0 : 0 ≤ (m : Int) := Int.natCast_nonneg _
        clear hW hcW c1 c2 c3 f1 f2 f3
        go_wp2
        go_region
        go_wp2
        go_roundg q
        case measure => have := HQ.out; omega
        case rel =>
          have hq := HQ.out
          have hp := HP.out
          have hy := HY.out
          have hW := HW.out
          subst hW
          refine ⟨by omega, rfl, ?_⟩
          have hsh := u8_shl y p
          rw [IntKind.wrap_u8] at hsh
          rw [hsh, u8_or, hy, hq, hp]
          have hfin := put_close nq hc ho hr' hR HM.out HX.out hsf hf hs1 hsg hj hO
          obtain ⟨r2, h1, h2, h3⟩ := hfin
          exact ⟨r2, h1, h2, h3.drew⟩
end Go.Proofs.Ytcmonalnhdodmaa
