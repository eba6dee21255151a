/-
  The laws of layer 19: bytes; a Packer in play (PL), what it hands back.
-/
import Derived.Test.YtjjjlgaidklokaaPkrW4
import Derived.Test.YtjjjlgaidklokaaRef10b
import Derived.Test.YtjjjlgaidklokaaRef19a
namespace Go.Proofs.Ytjjjlgaidklokaa.Pkr
open Go.RowKit
open Pac (bel_new Pk xbytes_ok made_zero)

/-- the packet of application process 1 with n bytes b -/
def pkP (n : Nat) (b : Byte) : Pk := ⟨false, false, 1, 3, 0, List.replicate n b⟩
def pkE (n : Nat) (b : Byte) : List Byte := (pkP n b).enc
theorem pkP_ok {n : Nat} {b : Byte} (h1 : 1 ≤ n) (h2 : n ≤ 4090) : (pkP n b).ok = true :=
  Pk.ok_free (by unfold Pk.Fits pkP; simp only [List.length_replicate]; omega) (by show (1 : Int) ≠ 2047; decide)
theorem pkE_pkt {n : Nat} {b : Byte} (h1 : 1 ≤ n) (h2 : n ≤ 4090) : Pkt (pkE n b) := Pkt.of (pkP_ok h1 h2) (by show (1 : Int) ≠ 2047; decide)
theorem pkE_len {n : Nat} {b : Byte} (h1 : 1 ≤ n) (h2 : n ≤ 4090) : (pkE n b).length = n + 6 := by
  unfold pkE
  rw [enc_len (pkP_ok h1 h2)]
  simp [pkP]
  omega
/-- k bytes are set -/
def fillk (n : Nat) (b : Byte) (k : Nat) : List Byte := List.replicate k b ++ List.replicate (n - k) 0#8
theorem fillk_len {n : Nat} {b : Byte} {k : Nat} (h : k ≤ n) : (fillk n b k).length = n := by unfold fillk; simp; omega
theorem fillk_set {n : Nat} {b : Byte} {k : Nat} (h : k < n) : (fillk n b k).set k b = fillk n b (k + 1) := by
  unfold fillk
  apply List.ext_getElem
  · simp; omega
  · intro i h1 h2
    rw [List.getElem_set]
    by_cases hi : k = i
    · subst hi
      rw [if_pos rfl, List.getElem_append_left (by simp)]
      simp
    · rw [if_neg hi]
      by_cases h3 : i < k
      · rw [List.getElem_append_left (by simpa using h3), List.getElem_append_left (by simp; omega)]
        simp
      · rw [List.getElem_append_right (by simpa using h3), List.getElem_append_right (by simp; omega)]
        simp
set_option maxHeartbeats 2000000 in
theorem lbytes_any (n : Nat) (b : Byte) (h1 : 1 ≤ n) (h2 : n ≤ 4090) (w : World) :
    Calls Try.prog 10 #[.int .i64 (n : Int), .int .u8 (b.toNat : Int)] w fun e w' => ∃ v, e = .returned v ∧ Ow w' w.heap.size 5 v (pkE n b) ∧ Below w.heap.size w w' := by
  obtain ⟨hu, _, i0, hi, hz0, hz1, hz2⟩ := is_bytes
  have hok := pkP_ok (b := b) h1 h2
  have hx : ∀ W, Bs W W.heap.size (some ⟨w.heap.size, 0, none⟩) (List.replicate n b) → Calls Try.prog 26 #[.agg #[.bool false, .bool false, .int .i64 1, .int .i64 3, .int .i64 0, .slice (some ⟨w.heap.size, 0, none⟩) n n]] W fun e w' => ∃ v, e = .returned v ∧ Ow w' W.heap.size 5 v (pkE n b) ∧ Below W.heap.size W w' := fun W hW =>
    xbytes_ok false false 1 3 0 (some ⟨w.heap.size, 0, none⟩) (List.replicate n b) n n W (Lib.hid (by simp)) hW (fun e => nomatch e) hok
  have hN0 : (0 : Int) ≤ (n : Int) := by omega
  clear hok
  go_enter Try.func10, Try.ntmps10
  go_wp2_with (first
    | (at_make; refine wpList_make_full _ rfl _ _ 28 rfl w.heap.size 5 i0 _ 1 hu hi hz0 hz1 .i64 .i64 _ _ n rfl rfl (by omega) (by omega) (by rw [hz2]; omega) (by unfold maxLen; omega) (Nat.le_refl _) ?_; intro w1 hown1 hgrow1; have bel1 := (Below.refl w.heap.size w).grown hgrow1 (Nat.le_refl _) (by simp)))
  have ho1 : Ow w1 w.heap.size 5 (.slice (some ⟨w.heap.size, 0, none⟩) n n) (fillk n b 0) := by
    unfold Ow
    rw [fillk_len (by omega)]
    unfold fillk
    rw [List.replicate_zero, List.nil_append, Nat.sub_zero, ← made_zero]
    exact hown1
  clear hown1 hgrow1 hu hi hz0 hz1 hz2
  go_loopw [6] (fun iv wr => ∃ k : Nat, iv = .int .i64 (k : Int) ∧ k ≤ n ∧ Ow wr w.heap.size 5 (.slice (some ⟨w.heap.size, 0, none⟩) n n) (fillk n b k) ∧ Below w.heap.size w wr) (fun iv _ => n - (intOf iv).toNat)
  case atStart => exact ⟨0, rfl, Nat.zero_le _, ho1, bel1⟩
  case round =>
    obtain ⟨k, rfl, hk, ho, hB⟩ := hrel
    clear ho1 bel1
    by_cases hkn : k < n
    · obtain ⟨m, hm⟩ : ∃ m, n = m + 1 := ⟨n - 1, by omega⟩
      have hl : (fillk n b k).length = m + 1 := by rw [fillk_len hk, hm]
      obtain ⟨gr, cp, he, _, _, _, _, hcells, hfree⟩ := ho.form_len hl
      have hgr : gr = w.heap.size := by cases he; rfl
      subst hgr
      clear he
      have hx2 : (fillk n b k)[k]? = some ((fillk n b k)[k]'(by rw [fillk_len hk]; exact hkn)) := List.getElem?_eq_getElem _
      have e1 := hcells k _ hx2
      have e2 := hfree k
      have ho2 := ho.set_ (gr := w.heap.size) (i := k) rfl b
      rw [fillk_set hkn] at ho2
      have hB2 : Below w.heap.size w (wr.setCell ⟨w.heap.size, k, none⟩ (B8 b)) := hB.trans ((set_only wr w.heap.size k (B8 b)).below hB.size (by simp))
      have HH := Lib.hid (And.intro ho2 hB2)
      have hk0 : (0 : Int) ≤ (k : Int) := by omega
      clear ho hB hcells hfree hx2 hl hm ho2 hB2 hx
      go_wp2
      go_roundw
      case rel => exact ⟨k + 1, by go_num, hkn, HH.out.1, HH.out.2⟩
      case measure => simp [intOf]; omega
    · obtain rfl : k = n := by omega
      have hbs : Bs wr wr.heap.size (some ⟨w.heap.size, 0, none⟩) (List.replicate k b) := by
        have := Pac.Ow_bs ho
        unfold fillk at this
        rw [Nat.sub_self, List.replicate_zero, List.append_nil] at this
        exact this
      have hc := hx wr hbs
      clear hx hbs ho hkn
      go_wp2_with fail
      refine hc.mono ?_
      rintro e w2 ⟨v, rfl, o2, b2⟩
      go_wp2
      go_ret
      exact ⟨v, rfl, o2.more hB.size, hB.trans (b2.mono hB.size)⟩

/-- where an address leads is none of the blocks F, and is there -/
def Of (w : World) (A : Option Addr) (F : List Nat) : Prop := ∀ x ∈ blkA A, x ∉ F ∧ x < w.heap.size
theorem Of.next {w w' : World} {A : Option Addr} {F F' : List Nat} (h : Of w A F) (hs : w.heap.size ≤ w'.heap.size) (hF : ∀ x ∈ F', x ∈ F ∨ w.heap.size ≤ x) : Of w' A F' := fun x hx => by
  obtain ⟨h1, h2⟩ := h x hx
  refine ⟨fun hm => ?_, by omega⟩
  rcases hF x hm with h3 | h3
  · exact h1 h3
  · omega
theorem Of.later {w w' : World} {A : Option Addr} {F : List Nat} (h : Of w A F) (hs : w.heap.size ≤ w'.heap.size) : Of w' A F := h.next hs (fun _ hx => .inl hx)
theorem Of.new {w w' : World} {A : Option Addr} {F : List Nat} {n c : Nat} {l : List Byte} (h : Ow w' w.heap.size 5 (.slice A n c) l) (hF : ∀ x ∈ F, x < w.heap.size) : Of w' A F := fun x hx => by
  rw [blkA_own A n c] at hx
  have := h.lt x (by simpa using hx)
  exact ⟨fun hm => by have := hF x hm; omega, this.2⟩
theorem Rd.off {w w' : World} {A : Option Addr} {F : List Nat} {n c : Nat} {l : List Byte} (h : Rd w A l n c) (k : Only F w w') (ho : Of w A F) : Rd w' A l n c := Rd.put h k (fun x hx => (ho x hx).1)

/-- a Packer in play: what lies below w0's blocks is as it was -/
structure PL (w0 w : World) (g : Nat) (F : List Nat) (Z R : Nat) (s : PS) : Prop where
  p : PW w g F Z R s
  lo : ∀ x ∈ F, w0.heap.size ≤ x
  b : Below w0.heap.size w0 w
section
variable {w0 w w' : World} {g Z R : Nat} {F : List Nat} {s s' : PS}
theorem PL.below (h : PL w0 w g F Z R s) (k : Below w.heap.size w w') : PL w0 w' g F Z R s := ⟨h.p.below k, h.lo, h.b.trans (k.mono h.b.size)⟩
theorem PL.turn {g' : Nat} {F' S : List Nat} (h : PL w0 w g F Z R s) (k : Only S w w') (hS : ∀ x ∈ S, w0.heap.size ≤ x) (p : PW w' g' F' Z R s') (hF : ∀ x ∈ F', x ∈ F ∨ w.heap.size ≤ x) : PL w0 w' g' F' Z R s' :=
  ⟨p, fun x hx => (hF x hx).elim (h.lo x) (fun e => Nat.le_trans h.b.size e), h.b.trans (k.below h.b.size hS)⟩
theorem PL.new {r : Int} (hZ1 : 1 ≤ Z) (hZ2 : Z ≤ 1012) (w : World) :
    Calls Try.prog 7 #[.int .i64 (Z : Int), .int .i64 r] w fun e w' => ∃ g F, e = .returned (.pointer (some ⟨g, 0, none⟩)) ∧ PL w w' g F Z (rm r) ⟨[], [], []⟩ := by
  refine (pnew_yes Z hZ1 hZ2 r w).mono ?_
  rintro e w' ⟨rfl, rfl⟩
  exact ⟨_, _, rfl, Pw_new w Z (rm r) hZ1 hZ2 (rm_le r), by simp, bel_new _ _⟩
theorem PL.push (h : PL w0 w g F Z R s) {a : Option Addr} {l : List Byte} {n c : Nat} (hl : Rd w a l n c) {E : Int} (hE : psE R l s = E) (hS : psS R l s = s') :
    Calls Try.prog 9 #[.pointer (some ⟨g, 0, none⟩), .slice a n c] w fun e w' => e = .returned (.int .i64 E) ∧ ∃ F', PL w0 w' g F' Z R s' ∧ Only F w w' ∧ ∀ x ∈ F', x ∈ F ∨ w.heap.size ≤ x := by
  subst hE hS
  refine (ppush_any h.p hl).mono ?_
  rintro e w' ⟨rfl, F', p, k, hn⟩
  exact ⟨rfl, F', h.turn k h.lo p hn, k, hn⟩
theorem PL.next (h : PL w0 w g F Z R s) (h0 : 0 < s.wt.length) {P : Nat} {fl : List Byte} (hP : nxP Z s = P) (hF : nxF Z s = fl) (hS : nxS Z s = s') :
    Calls Try.prog 18 #[.pointer (some ⟨g, 0, none⟩)] w fun e w' => ∃ A c F', e = .returned (.tuple #[.slice A Z c, .int .i64 (P : Int), .bool true]) ∧ Rd w' A fl Z c ∧ Of w' A F' ∧ PL w0 w' g F' Z R s' ∧ Only F w w' ∧ ∀ x ∈ F', x ∈ F ∨ w.heap.size ≤ x := by
  have hl := nxF_len (s := s) h.p.z2
  rw [hF] at hl
  subst hP hF hS
  refine (pnext_yes h.p h0).mono ?_
  rintro e w' ⟨v, F', rfl, o, ha, p, k, hn⟩
  obtain ⟨A, c, rfl, hr⟩ := Rd.of o hl
  refine ⟨A, c, F', rfl, hr, fun x hx => ?_, h.turn k h.lo p hn, k, hn⟩
  rw [blkA_own A Z c] at hx
  have hx : (Value.slice A Z c).ownBlock = some x := by simpa using hx
  exact ⟨ha x hx, (o.lt x hx).2⟩
theorem PL.next0 (h : PL w0 w g F Z R s) (h0 : s.wt.length = 0) :
    Calls Try.prog 18 #[.pointer (some ⟨g, 0, none⟩)] w fun e w' => e = .returned (.tuple #[.slice none 0 0, .int .i64 0, .bool false]) ∧ w = w' := pnext_no h.p h0
theorem PL.left (h : PL w0 w g F Z R s) {n : Nat} (hn : s.wt.length = n) :
    Calls Try.prog 11 #[.pointer (some ⟨g, 0, none⟩)] w fun e w' => e = .returned (.int .i64 (n : Int)) ∧ w = w' := pleft_any h.p hn
theorem PL.ready (h : PL w0 w g F Z R s) {b : Bool} (hb : rdy Z s = b) :
    Calls Try.prog 12 #[.pointer (some ⟨g, 0, none⟩)] w fun e w' => e = .returned (.bool b) ∧ Below w.heap.size w w' := by subst hb; exact pready_any h.p
end
end Go.Proofs.Ytjjjlgaidklokaa.Pkr
