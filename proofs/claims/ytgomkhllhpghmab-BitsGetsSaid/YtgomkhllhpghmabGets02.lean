/-
  The walk of the law BitsGets.
-/
import Derived.Test.YtgomkhllhpghmabRef02c
import Derived.Test.YtgomkhllhpghmabOpen02
namespace Go.Proofs.Ytgomkhllhpghmab
open Go.RowKit

theorem RAt.drew {w : World} {base g : Nat} {r : Option Nat} {bs : List Byte} {p : Nat} {bad : Bool} (h : RAt w base g r bs p bad) : RAt w.drew base g r bs p bad := h
theorem YAt.drew {w : World} {g : Nat} {A : Option Addr} {c : Nat} {bs : List Byte} {p : Nat} {bad : Bool} (h : YAt w g A c bs p bad) : YAt w.drew g A c bs p bad := h
theorem RY_ne {w : World} {base g g' : Nat} {r : Option Nat} {bs cs : List Byte} {p q : Nat} {bad b2 : Bool} {A : Option Addr} {c : Nat} (h : RAt w base g r bs p bad) (k : YAt w g' A c cs q b2) : g ≠ g' ∧ ∀ i, r = some i → i ≠ g' := by
  obtain ⟨v, hc, ho, rfl, _⟩ := h
  exact ⟨hc.apart k.1 (by decide), fun i hi e => ho.apart k.1 (by decide) (by rw [hi, e])⟩

/-- a Reader and a reference Reader, side by side in the same state; nothing older than w0 has turned -/
def Pair (w0 : World) (g g2 : Nat) (A : Option Addr) (c : Nat) (bs : List Byte) (p : Nat) (bad : Bool) (p2 : Nat) (bad2 : Bool) (wr : World) : Prop :=
  (∃ r, RAt wr w0.heap.size g r bs p bad) ∧ YAt wr g2 A c bs p2 bad2 ∧ Below w0.heap.size w0 wr ∧ w0.heap.size ≤ g ∧ w0.heap.size ≤ g2

theorem pair_r {w0 wr w1 : World} {g g2 : Nat} {A : Option Addr} {c : Nat} {bs : List Byte} {p p2 q : Nat} {bad bad2 b : Bool} {r : Option Nat} (h : Pair w0 g g2 A c bs p bad p2 bad2 wr) (hR : RAt w1 w0.heap.size g r bs q b) (hO : Only [g] wr w1) : Pair w0 g g2 A c bs q b p2 bad2 w1 := by
  obtain ⟨⟨r', hr⟩, hY, hb, hg, hg2⟩ := h
  have n := (RY_ne hr hY).1
  exact ⟨⟨r, hR⟩, hY.only hO (by simp; exact fun e => n e.symm), hb.trans (hO.below hb.size (by simp; exact hg)), hg, hg2⟩
theorem pair_y {w0 wr w1 : World} {g g2 : Nat} {A : Option Addr} {c : Nat} {bs : List Byte} {p p2 q : Nat} {bad bad2 b : Bool} (h : Pair w0 g g2 A c bs p bad p2 bad2 wr) (hY1 : YAt w1 g2 A c bs q b) (hO : Only [g2] wr w1) : Pair w0 g g2 A c bs p bad q b w1 := by
  obtain ⟨⟨r', hr⟩, hY, hb, hg, hg2⟩ := h
  have n := RY_ne hr hY
  exact ⟨⟨r', hr.only hO (by simp; exact n.1) (fun i hi => by simp; exact n.2 i hi)⟩, hY1, hb.trans (hO.below hb.size (by simp; exact hg2)), hg, hg2⟩
theorem Pair.drew {w0 wr : World} {g g2 : Nat} {A : Option Addr} {c : Nat} {bs : List Byte} {p p2 : Nat} {bad bad2 : Bool} (h : Pair w0 g g2 A c bs p bad p2 bad2 wr) : Pair w0 g g2 A c bs p bad p2 bad2 wr.drew :=
  ⟨h.1, h.2.1, h.2.2.1.drew, h.2.2.2⟩
theorem Pair.draws {w0 wr : World} {g g2 : Nat} {A : Option Addr} {c : Nat} {bs : List Byte} {p p2 : Nat} {bad bad2 : Bool} (h : Pair w0 g g2 A c bs p bad p2 bad2 wr) (n : Nat) : Pair w0 g g2 A c bs p bad p2 bad2 (wr.drewN n) :=
  ⟨h.1, h.2.1, h.2.2.1.trans (drewN_below _ _), h.2.2.2⟩

set_option maxHeartbeats 4000000 in
theorem bitsGets_walk (a : Option Addr) (c : Nat) (bs : List Byte) (a2 : Option Addr) (c2 : Nat) (l : List (Bool × Int)) (w : World) (ha : Bs w w.heap.size a bs) (hn : a = none → c = 0) (hbm : bs.length ≤ maxLen)
    (hm : l.length ≤ maxLen) (hp : Prs w a2 Value.bool fK l) (hw : ∀ f ∈ l, (Lit.int .i64 f.2).wf = true) :
    Calls Try.prog 4 #[.slice a bs.length c, .slice a2 l.length c2] w fun e w' => e = .returned (.bool true) ∧ Below w.heap.size w w' := by
  unfold maxLen at hbm hm
  by_cases h1 : 400 < bs.length
  · go_enter Try.func4, Try.ntmps4
    go_wp2_with (go_at_call 10; refine (lives_end (Below.refl _ _)).mono ?_; rintro e w2 ⟨rfl, hbel2⟩)
    go_ret
    exact ⟨rfl, hbel2⟩
  by_cases h2 : 200 < l.length
  · go_enter Try.func4, Try.ntmps4
    go_wp2_with (go_at_call 10; refine (lives_end (Below.refl _ _)).mono ?_; rintro e w2 ⟨rfl, hbel2⟩)
    go_ret
    exact ⟨rfl, hbel2⟩
  have hL : bs.length < 1000000 := by omega
  go_enter Try.func4, Try.ntmps4
  go_wp2_with fail
  refine (newReader_any a bs _ c _ rfl ha hn (by omega)).mono ?_
  rintro e w1 ⟨g, r0, rfl, hR0, hg, hbel0⟩
  have hP0 : Pair w g w1.heap.size a c bs 0 false 0 false (w1.alloc (.cells #[.slice a bs.length c, .int .i64 0, .bool false] 42)) :=
    ⟨⟨r0, hR0.only ((Only.refl [] w1).alloc _) (by simp) (by simp)⟩, ⟨Cel.new _ _ _, by omega⟩, hbel0.alloc hbel0.size _, hg, hbel0.size⟩
  obtain ⟨g2, hg2⟩ : ∃ g2, g2 = w1.heap.size := ⟨_, rfl⟩
  clear hR0 hbel0
  go_wp2_with fail
  rw [← hg2] at hP0 ⊢
  clear hg2
  go_loopg [7] l.length (fun gk i wr => ∃ j : Nat, j + gk = l.length ∧ i = .int .i64 (j : Int) ∧ ∃ p bad, Pair w g g2 a c bs p bad p bad wr)
  case atStart => exact ⟨0, by omega, rfl, 0, false, hP0⟩
  case round =>
    obtain ⟨j, hj, rfl, p, bad, hP⟩ := hrel
    have hbel : Below w.heap.size w wr := hP.2.2.1
    by_cases hlt : j < l.length
    · obtain ⟨⟨sk, k⟩, hf⟩ : ∃ f, f = l[j] := ⟨_, rfl⟩
      have hfj : l[j]? = some (sk, k) := by rw [hf]; exact List.getElem?_eq_getElem hlt
      have hk : (Lit.int .i64 k).wf = true := hw (sk, k) (by rw [hf]; exact List.getElem_mem hlt)
      obtain ⟨b, off, rfl, hbl, q0, q1⟩ := hp j (sk, k) hfj
      have c0 : wr.cell? ⟨b, off + j * 2, none⟩ = some (.bool sk) := (hbel.cell (p := ⟨b, off + j * 2, none⟩) hbl).trans q0
      have c1 : wr.cell? ⟨b, off + j * 2 + 1, none⟩ = some (.int .i64 k) := (hbel.cell (p := ⟨b, off + j * 2 + 1, none⟩) hbl).trans q1
      have hj0 : (0 : Int) ≤ (j : Int) := Int.natCast_nonneg _
      have hj1 : (j : Int) < (l.length : Int) := by omega
      clear hf hfj
      obtain ⟨⟨r, hR⟩, _⟩ := id hP
      go_upto_if 33 with (fail)
      go_cut [7] (fun s7 wx => s7 = .int .i64 (j : Int) ∧ ∃ p bad, Pair w g g2 a c bs p bad p bad wx)
      case first =>
        cases sk with
        | true =>
          go_wp2_with (first
            | (go_at_call 18; refine (skip_any _ w.heap.size g r bs p bad k hR hL hk).mono ?_; rintro e w2 ⟨rfl, hR2, hO2⟩; have hP2 := pair_r hP hR2 hO2; have d1 := (hP2.2.2.1.cell (p := ⟨b, off + j * 2 + 1, none⟩) hbl).trans q1; have hY2 := hP2.2.1)
            | (go_at_call 19; refine (xskip_any _ g2 a c bs p bad k hY2 hL hk).mono ?_; rintro e w3 ⟨rfl, hY3, hO3⟩; have hP3 := pair_y hP2 hY3 hO3))
          go_meet
          case rel => exact ⟨rfl, _, _, hP3⟩
        | false =>
          have hRd := hR.drew
          have hPd := hP.drew
          go_wp2_with fail
          go_region_held3 (fun w' => w'.cell? ⟨b, off + j * 2 + 1, none⟩ = some (.int .i64 k)) (first | go_keep | exact d1 | exact d2)
            (first
              | (go_at_call 20; refine (get_any _ w.heap.size g r bs p bad k hRd hL hk).mono ?_; rintro e w2 ⟨rfl, hR2, hO2⟩; have hP2 := pair_r hPd hR2 hO2; have d1 := (hP2.2.2.1.cell (p := ⟨b, off + j * 2 + 1, none⟩) hbl).trans q1; have hY2 := hP2.2.1; have hB2 := (ha.below hP2.2.2.1).more hP2.2.2.2.2)
              | (go_at_call 21; refine (xget_any _ g2 a c bs p bad k hY2 hL hk hB2).mono ?_; rintro e w3 ⟨rfl, hY3, hO3⟩; have hP3 := pair_y hP2 hY3 hO3; have d2 := (hP3.2.2.1.cell (p := ⟨b, off + j * 2 + 1, none⟩) hbl).trans q1))
          go_wp2_with fail
          go_meet
          case rel => exact ⟨rfl, _, _, hP3⟩
      case rest =>
        clear hP hR hbel c0 c1
        obtain ⟨rfl, p2, bad2, hP⟩ := hcut
        obtain ⟨⟨r2, hR⟩, hY, hbel, _, _⟩ := id hP
        have e2 := hY.1.cell 2
        simp at e2
        have hRd := hR.drew
        have hYd := hY.drew
        go_wp2_with fail
        go_region_held3 (fun w' => w'.cell? ⟨g2, 2, none⟩ = some (.bool bad2)) (first | go_keep | exact e5)
          (first
            | (go_at_call 22; refine (left_any _ w.heap.size g r2 bs p2 bad2 hRd hL).mono ?_; rintro e w3 ⟨rfl, n3, rfl⟩; have hY3 := hY.draws (1 + n3))
            | (go_at_call 23; refine (xleft_any _ g2 a c bs p2 bad2 hY3 hL).mono ?_; rintro e w4 ⟨rfl, n4, rfl⟩; have hR4 := hR.draws (1 + n3 + n4))
            | (go_at_call 24; refine (failed_any _ w.heap.size g r2 bs p2 bad2 hR4).mono ?_; rintro e w5 ⟨rfl, rfl⟩; have e5 := e2))
        go_wp2_with fail
        go_roundg (gk - 1)
        case measure => omega
        case rel => exact ⟨j + 1, by omega, by go_num, p2, bad2, hP.draws (1 + n3 + n4)⟩
    · go_wp2_with (go_at_call 10; refine (lives_end hbel).mono ?_; rintro e w2 ⟨rfl, hbel2⟩)
      go_ret
      exact ⟨rfl, hbel2⟩
end Go.Proofs.Ytgomkhllhpghmab
