/-
  The reference of layer 24: Same, of two equal units.
-/
import Derived.Test.YtjjfamkljcipgaaPduW2
import Derived.Test.YtjjfamkljcipgaaLater
import Derived.Deep.QuietTactic
import Derived.BigQuiet
import Derived.BigRegion
namespace Go.Proofs.Ytjjfamkljcipgaa.Pdu
open Go.RowKit Go.Proofs.Ytjjfamkljcipgaa.Row

theorem Cel_two' (w : World) (o : Obj) (t : TypeId) (cs : Array Value) : Cel ((w.alloc o).alloc (.cells cs t)) (w.heap.size + 1) t cs := by
  have := Cel.new (w.alloc o) t cs
  simpa using this
set_option maxRecDepth 100000 in
set_option maxHeartbeats 8000000 in
theorem same_any (kd sr nm cl : Int) (na : List Byte) (sz of : Int) (da : List Byte) (su : Nat) (co : Int) (ga : List R) (A A' : Option Addr) (n a a' : Nat) (G G' : Option Addr) (m c c' : Nat) (w : World) (h : Px w ⟨kd, sr, nm, cl, na, sz, of, da, su, co, ga⟩ A n a G m c) (h' : Px w ⟨kd, sr, nm, cl, na, sz, of, da, su, co, ga⟩ A' n a' G' m c') (hm : m ≤ 1000000) :
    Calls Try.prog 18 #[.agg #[I kd, I sr, I nm, I cl, .string (str na), I sz, I of, .slice A n a, .int .u32 (su : Int), I co, .slice G m c], .agg #[I kd, I sr, I nm, I cl, .string (str na), I sz, I of, .slice A' n a', .int .u32 (su : Int), I co, .slice G' m c']] w fun e w' => e = .returned (.bool true) ∧ Below w.heap.size w w' := by
  have b0 := (bel_new w (.cells #[I kd, I sr, I nm, I cl, .string (str na), I sz, I of, .slice A n a, .int .u32 (su : Int), I co, .slice G m c] 29)).alloc (bel_new w (.cells #[I kd, I sr, I nm, I cl, .string (str na), I sz, I of, .slice A n a, .int .u32 (su : Int), I co, .slice G m c] 29)).size (.cells #[I kd, I sr, I nm, I cl, .string (str na), I sz, I of, .slice A' n a', .int .u32 (su : Int), I co, .slice G' m c'] 29)
  have hp := h.later b0
  have hp' := h'.later b0
  have cv1 := hp.b.conv (Below.refl _ _)
  have cv2 := hp'.b.conv (Below.refl _ _)
  simp only at cv1 cv2
  clear h h'
  go_enter Try.func18, Try.ntmps18
  go_wp2
  obtain ⟨WB, hWB⟩ : ∃ WB, WB = (w.alloc (.cells #[I kd, I sr, I nm, I cl, .string (str na), I sz, I of, .slice A n a, .int .u32 (su : Int), I co, .slice G m c] 29)).alloc (.cells #[I kd, I sr, I nm, I cl, .string (str na), I sz, I of, .slice A' n a', .int .u32 (su : Int), I co, .slice G' m c'] 29) := ⟨_, rfl⟩
  have q1 := Cel.on (Cel.new w 29 #[I kd, I sr, I nm, I cl, .string (str na), I sz, I of, .slice A n a, .int .u32 (su : Int), I co, .slice G m c]) (bel_new _ (.cells #[I kd, I sr, I nm, I cl, .string (str na), I sz, I of, .slice A' n a', .int .u32 (su : Int), I co, .slice G' m c'] 29))
  have q2 := Cel_two' w (.cells #[I kd, I sr, I nm, I cl, .string (str na), I sz, I of, .slice A n a, .int .u32 (su : Int), I co, .slice G m c] 29) 29 #[I kd, I sr, I nm, I cl, .string (str na), I sz, I of, .slice A' n a', .int .u32 (su : Int), I co, .slice G' m c']
  rw [← hWB] at hp hp' b0 q1 q2
  have l1 := q1.lt
  have l2 := q2.lt
  have c1 := q1.cell 10
  have c2 := q2.cell 10
  simp only [List.getElem?_toArray, List.getElem?_cons_zero, List.getElem?_cons_succ] at c1 c2
  have HG := Lib.hid hp.g
  have HG' := Lib.hid hp'.g
  have HB := Lib.hid b0
  have HW := Lib.hid hWB
  clear hp hp' q1 q2 b0 cv1 cv2 hWB
  go_loopw [5] (fun i wr => ∃ k : Nat, k ≤ m ∧ i = .int .i64 (k : Int) ∧ Hid (Below WB.heap.size WB wr)) (fun i _ => m - (intOf i).toNat)
  case atStart => exact ⟨0, Nat.zero_le _, rfl, Lib.hid (by rw [HW.out]; first | exact Below.refl _ _ | exact below_drewN (Below.refl _ _) _ | exact (Below.refl _ _).drew)⟩
  case round =>
    obtain ⟨k, hk, rfl, hb⟩ := hrel
    have y1 := (hb.out.cell (p := ⟨w.heap.size, 10, none⟩) l1).trans c1
    have y2 := (hb.out.cell (p := ⟨w.heap.size + 1, 10, none⟩) l2).trans c2
    by_cases hkn : k < m
    · have hgl := HG.out.len
      simp only at hgl
      obtain ⟨x, hx⟩ : ∃ x, ga[k]? = some x := ⟨_, List.getElem?_eq_getElem (by rw [hgl]; exact hkn)⟩
      obtain ⟨b1, o1, rfl, hl1, f0, f1⟩ := HG.out.at_ hx
      obtain ⟨b2, o2, rfl, hl2, g0, g1⟩ := HG'.out.at_ hx
      obtain ⟨x0, x1⟩ := x
      simp only at f0 f1 g0 g1
      have l1' := Nat.lt_of_lt_of_le l1 hb.out.size
      have l2' := Nat.lt_of_lt_of_le l2 hb.out.size
      have r0 : ∀ p : Later wr, p.W.cell? ⟨w.heap.size, 10, none⟩ = _ := later_cell y1 l1'
      have r1 : ∀ p : Later wr, p.W.cell? ⟨w.heap.size + 1, 10, none⟩ = _ := later_cell y2 l2'
      have r2 : ∀ p : Later wr, p.W.cell? ⟨b1, o1 + k * 2, none⟩ = _ := later_cell ((hb.out.cell (p := ⟨b1, o1 + k * 2, none⟩) hl1).trans f0) (Nat.lt_of_lt_of_le hl1 hb.out.size)
      have r3 : ∀ p : Later wr, p.W.cell? ⟨b1, o1 + k * 2 + 1, none⟩ = _ := later_cell ((hb.out.cell (p := ⟨b1, o1 + k * 2 + 1, none⟩) hl1).trans f1) (Nat.lt_of_lt_of_le hl1 hb.out.size)
      have r4 : ∀ p : Later wr, p.W.cell? ⟨b2, o2 + k * 2, none⟩ = _ := later_cell ((hb.out.cell (p := ⟨b2, o2 + k * 2, none⟩) hl2).trans g0) (Nat.lt_of_lt_of_le hl2 hb.out.size)
      have r5 : ∀ p : Later wr, p.W.cell? ⟨b2, o2 + k * 2 + 1, none⟩ = _ := later_cell ((hb.out.cell (p := ⟨b2, o2 + k * 2 + 1, none⟩) hl2).trans g1) (Nat.lt_of_lt_of_le hl2 hb.out.size)
      have e0 : (x0 != x0) = false := by simp
      have e1' : (x1 != x1) = false := by simp
      clear hgl hx f0 f1 g0 g1 l1' l2'
      go_wp2_with fail
      refine wp_region_later (by kernel_rfl) (by kernel_rfl) ?_
      clear y1 y2
      repeat (go_big_quiet_step (fail))
      refine wpQuiet_nil ?_
      rintro _ ⟨⟨w5, hbel5⟩, rfl⟩
      have HB5 := Lib.hid (hb.out.trans (hbel5.mono hb.out.size))
      clear hb
      go_wp2
      go_round
      case rel => exact ⟨k + 1, by omega, by go_num, HB5⟩
      case measure => simp [intOf]; omega
    · go_wp2
      go_ret
      exact ⟨rfl, HB.out.trans (hb.out.mono HB.out.size)⟩
end Go.Proofs.Ytjjfamkljcipgaa.Pdu
