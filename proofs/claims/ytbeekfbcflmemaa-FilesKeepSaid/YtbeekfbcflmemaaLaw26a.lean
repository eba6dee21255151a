/-
  A Store in play (PF): a method for each call; alive.
-/
import Derived.Test.YtbeekfbcflmemaaFilW4
import Derived.Test.YtbeekfbcflmemaaRef26a
import Derived.Lib.SlBytesConst
namespace Go.Proofs.Ytbeekfbcflmemaa.Fil
open Go.RowKit Go.Proofs.Ytbeekfbcflmemaa.Row
open Lst (Qb Dt)

/-- a Store in play: blocks g and b are new since w0, what w0 has is as it was -/
structure PF (w0 w : World) (g b : Nat) (s : St) : Prop where
  fw : FW w g b s
  lg : w0.heap.size ≤ g
  lb : w0.heap.size ≤ b
  bel : Below w0.heap.size w0 w
section
variable {w0 w w' : World} {g b : Nat} {s : St}
theorem PF.later (h : PF w0 w g b s) (k : Below w.heap.size w w') : PF w0 w' g b s := ⟨h.fw.below k, h.lg, h.lb, h.bel.trans (k.mono h.bel.size)⟩
theorem PF.only {S : List Nat} (h : PF w0 w g b s) (k : Only S w w') (q : Kq w w') (hb : b ∉ S) (hS : ∀ x ∈ S, w0.heap.size ≤ x) : PF w0 w' g b s := ⟨h.fw.keep k q hb, h.lg, h.lb, h.bel.trans (k.below h.bel.size hS)⟩
theorem PF.new (h : Below w0.heap.size w0 w) (most room : Int) : Calls Try.prog 8 #[I most, I room] w fun e w' => ∃ g b, e = .returned (.pointer (some ⟨g, 0, none⟩)) ∧ PF w0 w' g b (s0 most room) ∧ Below w.heap.size w w' := by
  refine (new_any most room w).mono ?_
  rintro e w' ⟨g, b, rfl, h1, h2, h3, h4⟩
  exact ⟨g, b, rfl, ⟨h1, Nat.le_trans h.size h2, Nat.le_trans h.size h3, h.trans (h4.mono h.size)⟩, h4⟩
theorem PF.put (h : PF w0 w g b s) (x : Nm) (d : List Byte) (n : Nat) (A : Option Addr) (c : Nat) (E : Nat) (s2 : St) (hE : puE s x d = E) (hs : puS s x d = s2) (hl : Hid (d.length = n)) (hd : Dt w w.heap.size d A c) (hm : n ≤ 1000000) :
    Calls Try.prog 10 #[.pointer (some ⟨g, 0, none⟩), .string (nm x), .slice A n c] w fun e w' => e = .returned (I (E : Int)) ∧ PF w0 w' g b s2 ∧ Only [b] w w' ∧ Kq w w' := by
  subst hE hs
  refine (put_any w g b s h.fw x d n A c hl hd hm).mono ?_
  rintro e w' ⟨rfl, h1, h2⟩
  exact ⟨rfl, ⟨h1, h.lg, h.lb, h.bel.trans (h2.below h.bel.size (by simpa using h.lb))⟩, h2, h.fw.kq h2⟩
theorem PF.dele (h : PF w0 w g b s) (x : Nm) (E : Nat) (s2 : St) (hE : geE s x = E) (hs : deS s x = s2) :
    Calls Try.prog 12 #[.pointer (some ⟨g, 0, none⟩), .string (nm x)] w fun e w' => e = .returned (I (E : Int)) ∧ PF w0 w' g b s2 ∧ Only [b] w w' ∧ Kq w w' := by
  subst hE hs
  refine (dele_any w g b s h.fw x).mono ?_
  rintro e w' ⟨rfl, h1, h2⟩
  exact ⟨rfl, ⟨h1, h.lg, h.lb, h.bel.trans (h2.below h.bel.size (by simpa using h.lb))⟩, h2, h.fw.kq h2⟩
theorem PF.get (h : PF w0 w g b s) (x : Nm) (E : Nat) (d : List Byte) (n : Nat) (hE : geE s x = E) (hd : geD s x = d) (hn : Hid (d.length = n)) :
    Calls Try.prog 15 #[.pointer (some ⟨g, 0, none⟩), .string (nm x)] w fun e w' => ∃ A c, e = .returned (.tuple #[.slice A n c, I (E : Int)]) ∧ PF w0 w' g b s ∧ Dq w' d A c ∧ Below w.heap.size w w' := by
  subst hE hd
  have hn' : (geD s x).length = n := hn
  subst hn'
  refine (get_any w g b s h.fw x).mono ?_
  rintro e w' ⟨A, c, rfl, h1, h2⟩
  exact ⟨A, c, rfl, h.later h2, h1, h2⟩
theorem PF.free (h : PF w0 w g b s) (E : Int) (hE : (s.room : Int) - (sz s.l : Int) = E) :
    Calls Try.prog 19 #[.pointer (some ⟨g, 0, none⟩)] w fun e w' => e = .returned (I E) ∧ PF w0 w' g b s ∧ Below w.heap.size w w' := by
  subst hE
  refine (free_any w g b s h.fw).mono ?_
  rintro e w' ⟨rfl, h2⟩
  exact ⟨rfl, h.later h2, h2⟩
theorem PF.names (h : PF w0 w g b s) (l : List Nm) (n : Nat) (hl : s.l.map (·.1) = l) (hn : l.length = n) :
    Calls Try.prog 22 #[.pointer (some ⟨g, 0, none⟩)] w fun e w' => ∃ A c, e = .returned (.slice A n c) ∧ PF w0 w' g b s ∧ Row.Rs sen 1 w' w'.heap.size A l ∧ Below w.heap.size w w' := by
  subst hl
  refine (names_any w g b s h.fw).mono ?_
  rintro e w' ⟨v, rfl, h1, h2⟩
  obtain ⟨A, c, rfl, h3, _⟩ := h1.reads_len sen_ok hn
  exact ⟨A, c, rfl, h.later h2, h3, h2⟩
theorem PF.copy (h : PF w0 w g b s) :
    Calls Try.prog 14 #[.pointer (some ⟨g, 0, none⟩)] w fun e w' => ∃ g2 b2, e = .returned (.pointer (some ⟨g2, 0, none⟩)) ∧ PF w0 w' g b s ∧ PF w0 w' g2 b2 s ∧ b2 ≠ b ∧ Below w.heap.size w w' := by
  refine (copy_any w g b s h.fw).mono ?_
  rintro e w' ⟨g2, b2, rfl, h1, h2, h3, h4⟩
  have := h.fw.lt.2
  exact ⟨g2, b2, rfl, h.later h4, ⟨h1, Nat.le_trans h.bel.size h2, Nat.le_trans h.bel.size h3, h.bel.trans (h4.mono h.bel.size)⟩, by omega, h4⟩
end

/-- bytes that the call lays -/
theorem Dt_new (w : World) (l : List Byte) (n : Nat) (C : Array Value) (fr : Nat × Nat) (hC : C = (l.map B8).toArray) (hn : l.length = n) (hm : n ≤ 1000) : Dt (w.alloc (.cells C 5 fr)) (w.alloc (.cells C 5 fr)).heap.size l (some ⟨w.heap.size, 0, none⟩) n := by
  subst hn
  exact ⟨Bs_new w 5 l C hC _ (by simp) fr, (fun h => by cases h), Nat.le_refl _, by unfold maxLen; omega⟩
def ex6 : List Byte := [49#8, 50#8, 51#8, 52#8, 53#8, 54#8]
def ex5 : List Byte := [49#8, 50#8, 51#8, 52#8, 53#8]
def ex9 : List Byte := [49#8, 50#8, 51#8, 52#8, 53#8, 54#8, 55#8, 56#8, 57#8]

set_option maxHeartbeats 2000000 in
theorem alive_any (w : World) : Calls Try.prog 7 #[] w fun e w' => e = .returned (.bool true) ∧ Below w.heap.size w w' := by
  have hcv := fun (w : World) (C : Array Value) (n c : Nat) => Lib.run_convert_bytes_const (P := Try.prog) w 30 5 C n c Try.underlying30 Try.underlying5
  go_enter Try.func7, Try.ntmps7
  go_wp2_with fail
  refine (PF.new (w0 := w) (Below.refl _ _) 2 10).mono ?_
  rintro e w1 ⟨g, b, rfl, p1, hb1⟩
  go_wp2_with fail
  refine ((p1.later (bel_new _ _)).put [97] ex6 6 (some ⟨w1.heap.size, 0, none⟩) 6 0 ⟨2, 10, [([97], ex6)]⟩ (by rfl) (by rfl) (Lib.hid rfl) (Dt_new w1 ex6 6 _ (6, 7) (by rfl) rfl (by decide)) (by decide)).mono ?_
  rintro e w2 ⟨rfl, p2, _, _⟩
  go_wp2_with fail
  refine ((p2.later (bel_new _ _)).put [98] ex5 5 (some ⟨w2.heap.size, 0, none⟩) 5 7 ⟨2, 10, [([97], ex6)]⟩ (by rfl) (by rfl) (Lib.hid rfl) (Dt_new w2 ex5 5 _ (5, 6) (by rfl) rfl (by decide)) (by decide)).mono ?_
  rintro e w3 ⟨rfl, p3, _, _⟩
  go_wp2_with fail
  refine ((p3.later (bel_new _ _)).put [97] ex9 9 (some ⟨w3.heap.size, 0, none⟩) 9 0 ⟨2, 10, [([97], ex9)]⟩ (by rfl) (by rfl) (Lib.hid rfl) (Dt_new w3 ex9 9 _ (9, 10) (by rfl) rfl (by decide)) (by decide)).mono ?_
  rintro e w4 ⟨rfl, p4, _, _⟩
  go_wp2_with fail
  refine (p4.get [97] 0 ex9 9 (by rfl) (by rfl) (Lib.hid rfl)).mono ?_
  rintro e w5 ⟨A5, c5, rfl, p5, hd5, _⟩
  go_wp2_with fail
  refine (p5.get [98] 8 [] 0 (by rfl) (by rfl) (Lib.hid rfl)).mono ?_
  rintro e w6 ⟨A6, c6, rfl, p6, _, hb6⟩
  have hcv := (hd5.later hb6).conv (n := 9) rfl (Below.refl _ _)
  have hse : ((str ex9).toList == [49, 50, 51, 52, 53, 54, 55, 56, 57]) = true := by rw [str_toList]; rfl
  go_wp2_with fail
  refine (p6.free 1 (by rfl)).mono ?_
  rintro e w7 ⟨rfl, p7, _⟩
  go_wp2_with fail
  refine (p7.names [[97]] 1 (by rfl) rfl).mono ?_
  rintro e w8 ⟨A8, c8, rfl, p8, hn8, _⟩
  have hbn := bel_new w8 (.cells #[.string (nm [97])] 9)
  have hr9 := Row.Rs_new1 sen_ok w8 9 [97] #[.string (nm [97])] rfl
  go_wp2_with fail
  refine (texts_any _ A8 (some ⟨w8.heap.size, 0, none⟩) 1 c8 1 [[97]] rfl ((hn8.below hbn).more hbn.size) (hr9.more (by simp)) (by decide)).mono ?_
  rintro e w9 ⟨rfl, hb9⟩
  have p9 := (p8.later hbn).later hb9
  go_wp2_with fail
  refine (p9.dele [] 1 ⟨2, 10, [([97], ex9)]⟩ (by rfl) (by rfl)).mono ?_
  rintro e w10 ⟨rfl, p10, _, _⟩
  go_wp2
  go_ret
  exact ⟨rfl, p10.bel⟩
end Go.Proofs.Ytbeekfbcflmemaa.Fil
