/-
  Chapter 24's law PduEncodes.
-/
import Derived.Test.YtjjfamkljcipgaaLaw24b
import Derived.Test.YtjjfamkljcipgaaRef24e
import Derived.Test.YtjjfamkljcipgaaLater
import Derived.Deep.QuietTactic
import Derived.BigQuiet
import Derived.BigRegion
namespace Go.Proofs.Ytjjfamkljcipgaa.Pdu
open Go.RowKit Go.Proofs.Ytjjfamkljcipgaa.Row

theorem conv_later {w : World} {A : Option Addr} {l : List Byte} {n c : Nat} (h : Bx w A l n c) (p : Later w) : (convert 24 9 (.slice A n c)).run Try.prog p.W = .ok (.string (str l)) p.W := h.conv p.h
set_option maxRecDepth 100000 in
set_option maxHeartbeats 8000000 in
theorem encodes_any (kd sr nm cl : Int) (na : List Byte) (sz of : Int) (da : List Byte) (su : Nat) (co : Int) (ga : List R) (A : Option Addr) (n a : Nat) (G : Option Addr) (m c : Nat) (w : World) (h : Px w ⟨kd, sr, nm, cl, na, sz, of, da, su, co, ga⟩ A n a G m c) :
    Calls Try.prog 3 #[.agg #[I kd, I sr, I nm, I cl, .string (str na), I sz, I of, .slice A n a, .int .u32 (su : Int), I co, .slice G m c]] w fun e w' => e = .returned (.bool true) ∧ Below w.heap.size w w' := by
  have b1 := bel_new w (.cells #[I kd, I sr, I nm, I cl, .string (str na), I sz, I of, .slice A n a, .int .u32 (su : Int), I co, .slice G m c] 29)
  have hC1 := Cel.new w 29 #[I kd, I sr, I nm, I cl, .string (str na), I sz, I of, .slice A n a, .int .u32 (su : Int), I co, .slice G m c]
  have h1 := h.later b1
  by_cases hs : sml ⟨kd, sr, nm, cl, na, sz, of, da, su, co, ga⟩
  case neg =>
    have hsm := small_no kd sr nm cl na sz of da su co ga A n a G m c _ h1 hs
    clear h hs h1 hC1
    go_enter Try.func3, Try.ntmps3
    go_wp2_with fail
    refine hsm.mono ?_
    rintro e w2 ⟨rfl, hb2⟩
    clear hsm
    go_wp2_with fail
    refine (lives_any w2).mono ?_
    rintro e w3 ⟨rfl, hb3⟩
    go_wp2
    go_ret
    have b2 := b1.trans (hb2.mono b1.size)
    exact ⟨rfl, b2.trans (hb3.mono b2.size)⟩
  have hsm := small_yes kd sr nm cl na sz of da su co ga A n a G m c _ h1 hs
  clear h hs
  obtain ⟨E, hE⟩ : ∃ E, E = enO ⟨kd, sr, nm, cl, na, sz, of, da, su, co, ga⟩ := ⟨_, rfl⟩
  obtain ⟨D, hD⟩ : ∃ D, D = enE ⟨kd, sr, nm, cl, na, sz, of, da, su, co, ga⟩ := ⟨_, rfl⟩
  obtain ⟨V, hV⟩ : ∃ V, V = ok ⟨kd, sr, nm, cl, na, sz, of, da, su, co, ga⟩ := ⟨_, rfl⟩
  obtain ⟨K, hK⟩ : ∃ K, K = fwd kd := ⟨_, rfl⟩
  have en1 := fun w (q : Px w ⟨kd, sr, nm, cl, na, sz, of, da, su, co, ga⟩ A n a G m c) => pencode_any kd sr nm cl na sz of da su co ga A n a G m c w q
  have en2 := fun w (q : Px w ⟨kd, sr, nm, cl, na, sz, of, da, su, co, ga⟩ A n a G m c) => rencode_any kd sr nm cl na sz of da su co ga A n a G m c w q
  have va1 := fun w (q : Px w ⟨kd, sr, nm, cl, na, sz, of, da, su, co, ga⟩ A n a G m c) => pvalid_any kd sr nm cl na sz of da su co ga A n a G m c w q
  have va2 := fun w (q : Px w ⟨kd, sr, nm, cl, na, sz, of, da, su, co, ga⟩ A n a G m c) => rvalid_any kd sr nm cl na sz of da su co ga A n a G m c w q
  have fo1 := fun w => pfwd_any kd w
  have fo2 := fun w => rfwd_any kd w
  simp only [← hE, ← hD] at en1 en2
  simp only [← hV] at va1 va2
  simp only [← hK] at fo1 fo2
  clear hE hD hV hK
  go_enter Try.func3, Try.ntmps3
  go_wp2_with fail
  refine hsm.mono ?_
  rintro e w2 ⟨rfl, hb2⟩
  have b2 := b1.trans (hb2.mono b1.size)
  have hC2 := Cel.on hC1 hb2
  have h2 := h1.later hb2
  have hen := en1 w2 h2
  have c0 := hC2.cell 0
  have c1 := hC2.cell 1
  have c2 := hC2.cell 2
  have c3 := hC2.cell 3
  have c4 := hC2.cell 4
  have c5 := hC2.cell 5
  have c6 := hC2.cell 6
  have c7 := hC2.cell 7
  have c8 := hC2.cell 8
  have c9 := hC2.cell 9
  have c10 := hC2.cell 10
  simp only [List.getElem?_toArray, List.getElem?_cons_zero, List.getElem?_cons_succ] at c0 c1 c2 c3 c4 c5 c6 c7 c8 c9 c10
  clear hsm b1 hC1 h1 hb2
  go_wp2_with fail
  refine hen.mono ?_
  rintro e w3 ⟨⟨A2, n2, a2, rfl, hB⟩, hb3⟩
  have b3 := b2.trans (hb3.mono b2.size)
  have hC3 := Cel.on hC2 hb3
  have h3 := h2.later hb3
  have hen2 := en2 w3 h3
  clear hen c0 c1 c2 c3 c4 c5 c6 c7 c8 c9 c10 b2 hC2 h2 hb3 en1 en2
  have c0 := hC3.cell 0
  have c1 := hC3.cell 1
  have c2 := hC3.cell 2
  have c3 := hC3.cell 3
  have c4 := hC3.cell 4
  have c5 := hC3.cell 5
  have c6 := hC3.cell 6
  have c7 := hC3.cell 7
  have c8 := hC3.cell 8
  have c9 := hC3.cell 9
  have c10 := hC3.cell 10
  simp only [List.getElem?_toArray, List.getElem?_cons_zero, List.getElem?_cons_succ] at c0 c1 c2 c3 c4 c5 c6 c7 c8 c9 c10
  go_wp2_with fail
  refine hen2.mono ?_
  rintro e w4 ⟨⟨A5, n5, a5, rfl, hB5⟩, hb4⟩
  have b4 := b3.trans (hb4.mono b3.size)
  have hC4 := Cel.on hC3 hb4
  have h4 := h3.later hb4
  have hBB := hB.1.later hb4
  clear hen2 c0 c1 c2 c3 c4 c5 c6 c7 c8 c9 c10 b3 hC3 h3
  have l4 := hC4.lt
  have c0 := hC4.cell 0
  have c1 := hC4.cell 1
  have c2 := hC4.cell 2
  have c3 := hC4.cell 3
  have c4 := hC4.cell 4
  have c5 := hC4.cell 5
  have c6 := hC4.cell 6
  have c7 := hC4.cell 7
  have c8 := hC4.cell 8
  have c9 := hC4.cell 9
  have c10 := hC4.cell 10
  simp only [List.getElem?_toArray, List.getElem?_cons_zero, List.getElem?_cons_succ] at c0 c1 c2 c3 c4 c5 c6 c7 c8 c9 c10
  go_wp2_with fail
  refine wp_region_later (by kernel_rfl) (by kernel_rfl) ?_
  have q1 : ∀ p : Later w4, (convert 24 9 (.slice A2 n2 a2)).run Try.prog p.W = .ok (.string (str E)) p.W := conv_later hBB
  have q2 : ∀ p : Later w4, (convert 24 9 (.slice A5 n5 a5)).run Try.prog p.W = .ok (.string (str E)) p.W := conv_later hB5
  have d0 : ∀ p : Later w4, p.W.cell? ⟨w.heap.size, 0, none⟩ = _ := later_cell c0 l4
  have d1 : ∀ p : Later w4, p.W.cell? ⟨w.heap.size, 1, none⟩ = _ := later_cell c1 l4
  have d2 : ∀ p : Later w4, p.W.cell? ⟨w.heap.size, 2, none⟩ = _ := later_cell c2 l4
  have d3 : ∀ p : Later w4, p.W.cell? ⟨w.heap.size, 3, none⟩ = _ := later_cell c3 l4
  have d4 : ∀ p : Later w4, p.W.cell? ⟨w.heap.size, 4, none⟩ = _ := later_cell c4 l4
  have d5 : ∀ p : Later w4, p.W.cell? ⟨w.heap.size, 5, none⟩ = _ := later_cell c5 l4
  have d6 : ∀ p : Later w4, p.W.cell? ⟨w.heap.size, 6, none⟩ = _ := later_cell c6 l4
  have d7 : ∀ p : Later w4, p.W.cell? ⟨w.heap.size, 7, none⟩ = _ := later_cell c7 l4
  have d8 : ∀ p : Later w4, p.W.cell? ⟨w.heap.size, 8, none⟩ = _ := later_cell c8 l4
  have d9 : ∀ p : Later w4, p.W.cell? ⟨w.heap.size, 9, none⟩ = _ := later_cell c9 l4
  have d10 : ∀ p : Later w4, p.W.cell? ⟨w.heap.size, 10, none⟩ = _ := later_cell c10 l4
  have e1 : ((str E).toList == (str E).toList) = true := by simp
  have e2 : (D == D) = true := by simp
  have e3 : (V == V) = true := by simp
  have e4 : (K == K) = true := by simp
  have v1 := fun p : Later w4 => va1 p.W (h4.later p.h)
  have v2 := fun p : Later w4 => va2 p.W (h4.later p.h)
  have v3 := fun p : Later w4 => fo1 p.W
  have v4 := fun p : Later w4 => fo2 p.W
  have v5 := fun p : Later w4 => lives_any p.W
  have HB4 := Lib.hid b4
  clear c0 c1 c2 c3 c4 c5 c6 c7 c8 c9 c10 hC4 h4 hB hBB hB5 hb4 va1 va2 fo1 fo2 b4
  repeat (go_big_quiet_step (first | (go_at_call 12; exact later_of (v1 _)) | (go_at_call 13; exact later_of (v2 _)) | (go_at_call 14; exact later_same (v3 _)) | (go_at_call 15; exact later_same (v4 _)) | (go_at_call 9; exact later_of (v5 _))))
  refine wpQuiet_nil ?_
  rintro _ ⟨⟨w5, hbel5⟩, rfl⟩
  go_wp2
  go_ret
  exact ⟨rfl, HB4.out.trans (hbel5.mono HB4.out.size)⟩
end Go.Proofs.Ytjjfamkljcipgaa.Pdu
