/-
  The walks of the reference of layer 3: TakeCount, TakeBlob, and the methods of its Reader.
-/
import Derived.Test.YtjjfamkljcipgaaRef03b
import Derived.Test.YtjjfamkljcipgaaOctR0
namespace Go.Proofs.Ytjjfamkljcipgaa
open Go.RowKit

theorem okI_none : okI none = (0, 0) := rfl
theorem okI_some (n : Int) (k : Nat) : okI (some (n, k)) = (n, k) := rfl

set_option maxHeartbeats 1000000 in
theorem xtkc_any (A : Option Addr) (l : List Byte) (n c : Nat) (most : Int) (w : World) (hl : Hid (l.length = n)) (hb : Bs w w.heap.size A l) (hn : A = none → c = 0) (hnc : n ≤ c) (hcm : c ≤ 9223372036854775807) (hL : n < 1000000) :
    Calls Try.prog 65 #[.slice A n c, .int .i64 most] w fun e w' => e = .returned (.tuple #[.int .i64 (okI (tkC l most)).1, .int .i64 ((okI (tkC l most)).2 : Int)]) ∧ Below w.heap.size w w' := by
  have hi := xtki_any A l n c w hl hb hn hnc hcm hL
  cases ht : tkI l with
  | none =>
    have hc : tkC l most = none := by unfold tkC; rw [ht]; rfl
    rw [hc, okI_none]
    rw [ht, okI_none] at hi
    clear ht hc hb hl
    go_enter Try.func65, Try.ntmps65
    go_wp2_with (first
      | (go_at_call 63; refine hi.mono ?_; rintro e w1 ⟨rfl, hbel⟩))
    go_ret2
    exact ⟨rfl, hbel⟩
  | some p =>
    obtain ⟨v, k⟩ := p
    have hk := (tkI_some ht).2.2.1
    rw [ht, okI_some] at hi
    have t1 : ((k : Int) == 0) = false := by simp; omega
    by_cases hneg : v < 0
    · have hc : tkC l most = none := by unfold tkC; rw [ht]; simp [hneg]
      rw [hc, okI_none]
      clear ht hc hb hl hk
      go_enter Try.func65, Try.ntmps65
      go_wp2_with (first
        | (go_at_call 63; refine hi.mono ?_; rintro e w1 ⟨rfl, hbel⟩))
      go_ret2
      exact ⟨rfl, hbel⟩
    · have t2 : decide (v < 0) = false := decide_eq_false hneg
      by_cases hbig : most < v
      · have hc : tkC l most = none := by unfold tkC; rw [ht]; simp [hbig]
        rw [hc, okI_none]
        clear ht hc hb hl hk hneg
        go_enter Try.func65, Try.ntmps65
        go_wp2_with (first
          | (go_at_call 63; refine hi.mono ?_; rintro e w1 ⟨rfl, hbel⟩))
        go_ret2
        exact ⟨rfl, hbel⟩
      · have t3 : decide (most < v) = false := decide_eq_false hbig
        have hc : tkC l most = some (v, k) := by unfold tkC; rw [ht]; simp only [Option.bind_some]; rw [if_neg (by omega)]
        rw [hc, okI_some]
        clear ht hc hb hl hk hneg hbig
        go_enter Try.func65, Try.ntmps65
        go_wp2_with (first
          | (go_at_call 63; refine hi.mono ?_; rintro e w1 ⟨rfl, hbel⟩))
        go_ret2
        exact ⟨rfl, hbel⟩

def okB (o : Option (List Byte × Nat)) : List Byte × Nat := o.getD ([], 0)
theorem okB_none : okB none = ([], 0) := rfl
theorem okB_some (l : List Byte) (k : Nat) : okB (some (l, k)) = (l, k) := rfl

set_option maxHeartbeats 1000000 in
theorem xtkb_any (A : Option Addr) (l : List Byte) (n c B : Nat) (most : Int) (w : World) (hl : Hid (l.length = n)) (hb : Bs w B A l) (hB : B ≤ w.heap.size) (hn : A = none → c = 0) (hnc : n ≤ c) (hcm : c ≤ 9223372036854775807) (hL : n < 1000000) :
    Calls Try.prog 64 #[.slice A n c, .int .i64 most] w fun e w' => ∃ A' m' c', e = .returned (.tuple #[.slice A' m' c', .int .i64 ((okB (tkB l most)).2 : Int)]) ∧ m' = (okB (tkB l most)).1.length ∧ Bs w B A' (okB (tkB l most)).1 ∧ (A' = none → c' = 0) ∧ Below w.heap.size w w' := by
  have hi := xtkc_any A l n c most w hl (hb.more hB) hn hnc hcm hL
  have hln : l.length = n := hl
  cases ht : tkC l most with
  | none =>
    have hc : tkB l most = none := by unfold tkB; rw [ht]; rfl
    rw [hc, okB_none]
    rw [ht, okI_none] at hi
    clear ht hc hb hl hln
    go_enter Try.func64, Try.ntmps64
    go_wp2_with (first
      | (go_at_call 65; refine hi.mono ?_; rintro e w1 ⟨rfl, hbel⟩))
    go_ret2
    exact ⟨_, _, _, rfl, rfl, Bs.nil_, fun _ => rfl, hbel⟩
  | some p =>
    obtain ⟨v, k⟩ := p
    obtain ⟨htI, hv0, _⟩ := tkC_some ht
    obtain ⟨_, hv63, hk, hkl, _⟩ := tkI_some htI
    obtain ⟨V, rfl⟩ := Int.eq_ofNat_of_zero_le hv0
    rw [ht, okI_some] at hi
    have t1 : ((k : Int) == 0) = false := by simp; omega
    have hwr : IntKind.i64.wrap ((n : Int) - (k : Int)) = (n : Int) - (k : Int) := by rw [IntKind.wrap_i64]; omega
    have hk0 : (k : Int) ≤ (n : Int) := by omega
    by_cases hbig : (n : Int) - (k : Int) < (V : Int)
    · have hc : tkB l most = none := by unfold tkB; rw [ht]; simp only [Option.bind_some]; rw [hln, if_pos hbig]
      rw [hc, okB_none]
      clear ht hc hb hl hln hk hkl htI hv63 hv0
      go_enter Try.func64, Try.ntmps64
      go_wp2_with (first
        | (go_at_call 65; refine hi.mono ?_; rintro e w1 ⟨rfl, hbel⟩))
      go_ret2
      exact ⟨_, _, _, rfl, rfl, Bs.nil_, fun _ => rfl, hbel⟩
    · have t2 : decide ((n : Int) - (k : Int) < (V : Int)) = false := decide_eq_false hbig
      have hc : tkB l most = some ((l.drop k).take V, k + V) := by unfold tkB; rw [ht]; simp only [Option.bind_some]; rw [hln, if_neg hbig, Int.toNat_natCast]
      rw [hc, okB_some]
      obtain ⟨b, off, rfl, hbl⟩ := at_nonempty hb (by omega)
      obtain ⟨T, hT⟩ : ∃ T, T = (l.drop k).take V := ⟨_, rfl⟩
      rw [← hT]
      have hTl : T.length = V := by rw [hT, List.length_take, List.length_drop]; omega
      have hTb : Bs w B (some ⟨b, off + k, none⟩) T := by rw [hT]; exact (hb.drop k).take V
      have HT := Lib.hid hTl
      have hkV : (k : Int) + (V : Int) ≤ (n : Int) := by omega
      clear ht hc hb hl hln hk hkl htI hv63 hv0 hbig hT hTl
      rw [show ((k + V : Nat) : Int) = (k : Int) + (V : Int) by omega]
      by_cases hck : c = k
      · obtain rfl : n = k := by omega
        obtain rfl : V = 0 := by omega
        subst hck
        have hT0 : T = [] := List.eq_nil_of_length_eq_zero HT.out
        subst hT0
        clear HT hTb
        go_enter Try.func64, Try.ntmps64
        go_wp2_with (first
          | (go_at_call 65; refine hi.mono ?_; rintro e w1 ⟨rfl, hbel⟩))
        go_ret2
        exact ⟨_, _, _, rfl, by simp, Bs.nil_, fun h => (nomatch h), hbel⟩
      · have hck2 : ¬ (c ≤ k) := by omega
        go_enter Try.func64, Try.ntmps64
        go_wp2_with (first
          | (go_at_call 65; refine hi.mono ?_; rintro e w1 ⟨rfl, hbel⟩))
        go_ret2
        exact ⟨_, _, _, rfl, by have := HT.out; omega, hTb, fun h => (nomatch h), hbel⟩

/-! ### the reference's Reader -/
/-- block g is a Reader of the reference: st is what it has left, or that it has failed; its bytes lie below block B -/
def YR (w : World) (B g : Nat) (st : Option (List Byte)) : Prop :=
  ∃ A n c, Cel w g 65 #[.slice A n c, .bool st.isNone] ∧ n = lftO st ∧ Bs w B A (st.getD []) ∧ (A = none → c = 0) ∧ n ≤ c ∧ c ≤ maxLen ∧ B ≤ g

section
variable {w w' : World} {B g : Nat} {st : Option (List Byte)} {S : List Nat}
theorem YR.lt (h : YR w B g st) : B ≤ g ∧ g < w.heap.size := by
  obtain ⟨A, n, c, hc, _, _, _, _, _, hB⟩ := h
  exact ⟨hB, hc.lt⟩
theorem YR.only (h : YR w B g st) (k : Only S w w') (hg : g ∉ S) (hr : ∀ x ∈ S, B ≤ x) : YR w' B g st := by
  obtain ⟨A, n, c, hc, hn, hb, rest⟩ := h
  have hB := rest.2.2.2
  exact ⟨A, n, c, hc.only k hg, hn, hb.below (k.below (by have := hc.lt; omega) hr), rest⟩
theorem YR.below (h : YR w B g st) (k : Below w.heap.size w w') : YR w' B g st := h.only (Only.of_below (S := []) k) (by simp) (by simp)
theorem YR.draws (h : YR w B g st) (n : Nat) : YR (w.drewN n) B g st := h
theorem YR.drew (h : YR w B g st) : YR w.drew B g st := h
end

/-- what 'next' makes of a state -/
def nxt (st : Option (List Byte)) (k : Nat) : Option (List Byte) := if k = 0 then none else some ((st.getD []).drop k)

set_option maxHeartbeats 400000 in
theorem ynext_bad (w : World) (B g : Nat) (st : Option (List Byte)) (h : YR w B g st) :
    Calls Try.prog 62 #[.pointer (some ⟨g, 0, none⟩), .int .i64 0] w fun e w' => e = .returned (.tuple #[]) ∧ YR w' B g none ∧ Only [g] w w' := by
  obtain ⟨A, n, c, hc, hn, hb, hna, hnc, hcm, hB⟩ := h
  have c0 := hc.cell 0
  have c1 := hc.cell 1
  have f0 := hc.free 0
  have f1 := hc.free 1
  simp at c0 c1
  go_enter Try.func62, Try.ntmps62
  go_wp2
  refine bodyPost_ret (results_none rfl _ _ _) rfl ?_
  refine ⟨rfl, ⟨none, 0, 0, ?_, rfl, Bs.nil_, fun _ => rfl, Nat.le_refl _, Nat.zero_le _, hB⟩, ((Only.refl _ _).put (.inl (by simp)) _).put (.inl (by simp)) _⟩
  have := (hc.put 1 (.bool true)).put 0 (.slice none 0 0)
  simpa using this

set_option maxHeartbeats 400000 in
theorem ynext_cell (w : World) (g b off : Nat) (n c k : Nat) (u : Value) (h : Cel w g 65 #[.slice (some ⟨b, off, none⟩) n c, u]) (hk0 : 0 < k) (hk : k ≤ n) (hn : n ≤ c) (hc : c ≤ 9223372036854775807) :
    Calls Try.prog 62 #[.pointer (some ⟨g, 0, none⟩), .int .i64 (k : Int)] w fun e w' => e = .returned (.tuple #[]) ∧ ∃ o, (o = off + k ∨ c = k) ∧ w' = w.setCell ⟨g, 0, none⟩ (.slice (some ⟨b, o, none⟩) (n - k) (c - k)) := by
  have c0 := h.cell 0
  have f0 := h.free 0
  simp at c0
  have t1 : ((k : Int) == 0) = false := by simp; omega
  by_cases hck : c = k
  · have hnk : n = k := by omega
    subst hck hnk
    go_enter Try.func62, Try.ntmps62
    go_wp2
    go_end0
    exact ⟨rfl, off, .inr trivial, by simp⟩
  · have hck2 : ¬ (c ≤ k) := by omega
    go_enter Try.func62, Try.ntmps62
    go_wp2
    go_end0
    exact ⟨rfl, off + k, .inl rfl, by simp⟩

theorem ynext_any (w : World) (B g : Nat) (st : Option (List Byte)) (k : Nat) (K : Int) (hK : K = (k : Int)) (h : YR w B g st) (hk : k ≤ lftO st) :
    Calls Try.prog 62 #[.pointer (some ⟨g, 0, none⟩), .int .i64 K] w fun e w' => e = .returned (.tuple #[]) ∧ YR w' B g (nxt st k) ∧ Only [g] w w' := by
  subst hK
  by_cases hk0 : k = 0
  · subst hk0
    exact ynext_bad w B g st h
  · have hn0 : nxt st k = some ((st.getD []).drop k) := by unfold nxt; rw [if_neg hk0]
    rw [hn0]
    cases st with
    | none => simp [lftO] at hk; omega
    | some l =>
      have hk2 : k ≤ l.length := hk
      obtain ⟨A, n, c, hc, hn, hb, hna, hnc, hcm, hB⟩ := h
      have hnl : n = l.length := hn
      have hb2 : Bs w B A l := hb
      obtain ⟨b, off, rfl, _⟩ := at_nonempty hb2 (by omega)
      refine (ynext_cell w g b off n c k _ hc (by omega) (by omega) hnc (by unfold maxLen at hcm; exact hcm)).mono fun e w' ⟨he, o, ho, hw⟩ => ?_
      subst hw
      have hkeep : ∀ A' m' u, Bs w B A' m' → Bs (w.setCell ⟨g, 0, none⟩ u) B A' m' := fun A' m' u hb => hb.keep fun p hp => World.cell?_of_block (Below.heap_setCell w ⟨g, 0, none⟩ _ p.block (fun e => by simp at e; omega))
      refine ⟨he, ⟨some ⟨b, o, none⟩, n - k, c - k, ?_, ?_, ?_, (fun h => nomatch h), by omega, by omega, hB⟩, (Only.refl _ _).put (.inl (by simp)) _⟩
      · have := hc.put 0 (.slice (some ⟨b, o, none⟩) (n - k) (c - k))
        simpa using this
      · show n - k = (l.drop k).length
        rw [List.length_drop, hnl]
      · show Bs _ B _ (l.drop k)
        rcases ho with rfl | rfl
        · exact hkeep _ _ _ (hb2.drop k)
        · rw [List.drop_of_length_le (by omega)]
          exact Bs.nil_
end Go.Proofs.Ytjjfamkljcipgaa
