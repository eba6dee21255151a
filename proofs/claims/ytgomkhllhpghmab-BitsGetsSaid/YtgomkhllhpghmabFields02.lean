/-
  A list of fields: its bits; the two Puts at one field, whatever its width; the walk of 'few'.
-/
import Derived.Test.YtgomkhllhpghmabSplits02
import Derived.Test.YtgomkhllhpghmabArgs
import Derived.Deep.RegionHeld3
namespace Go.Proofs.Ytgomkhllhpghmab
open Go.RowKit

abbrev fN (n : BitVec 64) : Value := .int .u64 (n.toNat : Int)
abbrev fK (k : Int) : Value := .int .i64 k

def fbits (f : BitVec 64 × Int) : List Bool := if 0 ≤ f.2 ∧ f.2 ≤ 64 then bitsOf f.1.toNat f.2.toNat else []
theorem fbits_len (f : BitVec 64 × Int) : (fbits f).length ≤ 64 := by
  unfold fbits
  split
  · rw [bitsOf_len]; omega
  · simp
def bitsAll (l : List (BitVec 64 × Int)) (j : Nat) : List Bool := (l.take j).flatMap fbits
theorem bitsAll_zero (l : List (BitVec 64 × Int)) : bitsAll l 0 = [] := rfl
theorem bitsAll_succ (l : List (BitVec 64 × Int)) (j : Nat) (hj : j < l.length) : bitsAll l (j + 1) = bitsAll l j ++ fbits l[j] := by
  unfold bitsAll
  rw [List.take_succ_eq_append_getElem hj, List.flatMap_append]
  simp
theorem bitsAll_len (l : List (BitVec 64 × Int)) (j : Nat) : (bitsAll l j).length ≤ 64 * j := by
  unfold bitsAll
  induction j generalizing l with
  | zero => simp
  | succ j ih =>
    cases l with
    | nil => simp
    | cons a l =>
      have := ih l
      have := fbits_len a
      simp only [List.take_succ_cons, List.flatMap_cons, List.length_append]
      omega

theorem WAt.drew {w : World} {base g : Nat} {r : Option Nat} {L : List Bool} (h : WAt w base g r L) : WAt w.drew base g r L := h
theorem XAt.drew {w : World} {base g : Nat} {r : Option Nat} {L : List Bool} (h : XAt w base g r L) : XAt w.drew base g r L := h
theorem PutAt.same {w : World} {base g : Nat} {r : Option Nat} {L : List Bool} (h : WAt w base g r L) : PutAt w base g r L w := ⟨r, h, .inl rfl, Only.refl _ _⟩
theorem put_fld (w : World) (base g : Nat) (r : Option Nat) (L : List Bool) (f : BitVec 64 × Int) (h : WAt w base g r L) (hL : L.length < 1000000) (hbase : base ≤ w.heap.size) :
    Calls Try.prog 11 #[.pointer (some ⟨g, 0, none⟩), fN f.1, fK f.2] w fun e w' => e = .returned (.pointer (some ⟨g, 0, none⟩)) ∧ PutAt w base g r (L ++ fbits f) w' := by
  obtain ⟨n, k⟩ := f
  unfold fbits
  by_cases hk : 0 ≤ k ∧ k ≤ 64
  · rw [if_pos hk]
    obtain ⟨K, rfl⟩ := Int.eq_ofNat_of_zero_le hk.1
    exact put_any w base g r L n K h (by omega) hL hbase
  · rw [if_neg hk, List.append_nil]
    exact (put_bad w base g r L n k h (by omega)).mono fun e w' ⟨h1, h2⟩ => ⟨h1, by rw [← h2]; exact PutAt.same h⟩
theorem xput_fld (w : World) (base g : Nat) (r : Option Nat) (L : List Bool) (f : BitVec 64 × Int) (h : XAt w base g r L) (hL : L.length < 1000000) (hbase : base ≤ w.heap.size) :
    Calls Try.prog 12 #[.pointer (some ⟨g, 0, none⟩), fN f.1, fK f.2] w fun e w' => e = .returned (.tuple #[]) ∧ XPut w base g r (L ++ fbits f) w' := by
  obtain ⟨n, k⟩ := f
  unfold fbits
  by_cases hk : 0 ≤ k ∧ k ≤ 64
  · rw [if_pos hk]
    obtain ⟨K, rfl⟩ := Int.eq_ofNat_of_zero_le hk.1
    exact xput_any w base g r L n K h (by omega) hL hbase
  · rw [if_neg hk, List.append_nil]
    exact (xput_bad g n k w (by omega)).mono fun e w' ⟨h1, h2⟩ => ⟨h1, by rw [← h2]; exact ⟨r, h, .inl rfl, Only.refl _ _⟩⟩

theorem WAt.offX {w : World} {base base' g g' : Nat} {r r' : Option Nat} {L M : List Bool} (h : WAt w base g r L) (k : XAt w base' g' r' M) : r ≠ some g' := by
  obtain ⟨v, bs, fr, _, ho, rfl, _⟩ := h
  obtain ⟨_, hc, _⟩ := k
  exact ho.apart hc (by decide)
theorem XAt.offW {w : World} {base base' g g' : Nat} {r r' : Option Nat} {L M : List Bool} (h : XAt w base g r L) (k : WAt w base' g' r' M) : r ≠ some g' := by
  obtain ⟨v, _, ho, rfl⟩ := h
  obtain ⟨_, _, _, hc, _⟩ := k
  exact ho.apart hc (by decide)
theorem WX_ne {w : World} {base base' g g' : Nat} {r r' : Option Nat} {L M : List Bool} (h : WAt w base g r L) (k : XAt w base' g' r' M) : g ≠ g' := by
  obtain ⟨_, _, _, hc, _⟩ := h
  obtain ⟨_, hc', _⟩ := k
  exact hc.apart hc' (by decide)

/-- a Writer and a reference Writer, side by side; nothing older than w0 has turned -/
def Duo (w0 : World) (g g2 : Nat) (L M : List Bool) (wr : World) : Prop :=
  ∃ r r2, WAt wr w0.heap.size g r L ∧ XAt wr w0.heap.size g2 r2 M ∧ (∀ i, r = some i → r2 ≠ some i) ∧ Below w0.heap.size w0 wr ∧ w0.heap.size ≤ g ∧ w0.heap.size ≤ g2

theorem duo_put {w0 wr w1 : World} {g g2 : Nat} {r r2 : Option Nat} {L L' M : List Bool} (h1 : WAt wr w0.heap.size g r L) (h2 : XAt wr w0.heap.size g2 r2 M) (hd : ∀ i, r = some i → r2 ≠ some i) (hb : Below w0.heap.size w0 wr)
    (hg : w0.heap.size ≤ g) (hg2 : w0.heap.size ≤ g2) (hP : PutAt wr w0.heap.size g r L' w1) : Duo w0 g g2 L' M w1 := by
  have hbel := hb.trans (hP.below h1 (Nat.le_refl _) hg)
  obtain ⟨r', hW, hr', hO⟩ := hP
  have n1 := h1.offX h2
  have n2 := h2.offW h1
  have n3 := WX_ne h1 h2
  refine ⟨r', r2, hW, h2.only hO ?_ ?_, ?_, hbel, hg, hg2⟩
  · intro hx
    rcases List.mem_cons.1 hx with e | e
    · exact n3 e.symm
    · exact n1 (by simpa using e)
  · intro i hi hx
    rcases List.mem_cons.1 hx with e | e
    · exact n2 (by rw [hi, e])
    · exact hd i (by simpa using e) hi
  · intro i hi h2i
    rcases hr' with e | ⟨j, e, hj⟩
    · exact hd i (by rw [← e]; exact hi) h2i
    · have := h2.row i h2i
      rw [hi] at e
      injection e with e
      omega

theorem duo_xput {w0 wr w1 : World} {g g2 : Nat} {r r2 : Option Nat} {L M M' : List Bool} (h1 : WAt wr w0.heap.size g r L) (h2 : XAt wr w0.heap.size g2 r2 M) (hd : ∀ i, r = some i → r2 ≠ some i) (hb : Below w0.heap.size w0 wr)
    (hg : w0.heap.size ≤ g) (hg2 : w0.heap.size ≤ g2) (hP : XPut wr w0.heap.size g2 r2 M' w1) : Duo w0 g g2 L M' w1 := by
  obtain ⟨r', hX, hr', hO⟩ := hP
  have n1 := h1.offX h2
  have n2 := h2.offW h1
  have n3 := WX_ne h1 h2
  have hbel : Below w0.heap.size wr w1 := hO.below hb.size (fun x hx => by
    rcases List.mem_cons.1 hx with rfl | hx
    · exact hg2
    · exact (h2.row x (by simpa using hx)).1)
  refine ⟨r, r', h1.only hO ?_ ?_, hX, ?_, hb.trans hbel, hg, hg2⟩
  · intro hx
    rcases List.mem_cons.1 hx with e | e
    · exact n3 e
    · exact n2 (by simpa using e)
  · intro i hi hx
    rcases List.mem_cons.1 hx with e | e
    · exact n1 (by rw [hi, e])
    · exact hd i hi (by simpa using e)
  · intro i hi h2i
    rcases hr' with e | ⟨j, e, hj⟩
    · exact hd i hi (by rw [← e]; exact h2i)
    · have := h1.row i hi
      rw [h2i] at e
      injection e with e
      omega

set_option maxHeartbeats 400000 in
theorem few_any (a : Option Addr) (n c : Nat) (w : World) (hn : n ≤ maxLen) :
    Calls Try.prog 9 #[.slice a n c] w fun e w' => e = .returned (.bool (decide (n ≤ 100))) ∧ w = w' := by
  unfold maxLen at hn
  go_enter Try.func9, Try.ntmps9
  go_wp2
  go_ret
  exact ⟨ret_bool (by simp; omega), rfl⟩
end Go.Proofs.Ytgomkhllhpghmab
