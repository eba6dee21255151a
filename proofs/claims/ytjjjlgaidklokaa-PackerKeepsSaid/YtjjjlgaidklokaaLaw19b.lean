/-
  The laws of layer 19: alive.
-/
import Derived.Test.YtjjjlgaidklokaaLaw19a
import Derived.Test.YtjjjlgaidklokaaLater
namespace Go.Proofs.Ytjjjlgaidklokaa.Pkr
open Go.RowKit
open Pac (bel_new)

theorem str_append (a b : List Byte) : str a ++ str b = str (a ++ b) := by
  unfold str
  apply ByteArray.ext
  rw [ByteArray.data_append]
  simp
theorem str_size (a : List Byte) : (str a).size = a.length := by
  show ((a.map UInt8.ofBitVec).toArray).size = a.length
  simp
theorem conv_later {w : World} {A : Option Addr} {l : List Byte} {n c : Nat} (h : Rd w A l n c) (p : Later w) : (convert 28 9 (.slice A n c)).run Try.prog p.W = .ok (.string (str l)) p.W := Rd.conv h p.h
theorem ps_ext {s : PS} {a b : List Byte} {c : List (List Byte)} (h1 : s.rs = a) (h2 : s.fb = b) (h3 : s.ls = c) : s = ⟨a, b, c⟩ := by cases s; subst h1 h2 h3; rfl

/-- the example's packet -/
def exX : List Byte := pkE 2 5#8
theorem exX_pkt : Pkt exX := pkE_pkt (by decide) (by decide)
theorem exX_len : exX.length = 8 := pkE_len (by decide) (by decide)
def exR : List Byte := [192#8, 0#8, 0#8, 0#8, 0#8]
theorem ex_f1 : nxF 10 ⟨[], [], [exX]⟩ = exX ++ [7#8, 255#8] := by decide +kernel
theorem ex_p1 : nxP 10 ⟨[], [], [exX]⟩ = 0 := by decide +kernel
theorem ex_s1 : nxS 10 ⟨[], [], [exX]⟩ = ⟨exR, [], []⟩ := ps_ext (by decide +kernel) (by decide +kernel) (by decide +kernel)
theorem ex_f2 : nxF 10 ⟨exR, [], [exX]⟩ = exR ++ exX.take 5 := by decide +kernel
theorem ex_p2 : nxP 10 ⟨exR, [], [exX]⟩ = 5 := by decide +kernel
theorem ex_s2 : nxS 10 ⟨exR, [], [exX]⟩ = ⟨[], exX.drop 5, []⟩ := ps_ext (by decide +kernel) (by decide +kernel) (by decide +kernel)
theorem ex_push1 : psE 100 exX ⟨[], [], []⟩ = 0 ∧ psS 100 exX ⟨[], [], []⟩ = ⟨[], [], [exX]⟩ := ps_yes exX_pkt (by rw [exX_len]; simp [PS.wt])
theorem ex_push2 : psE 100 exX ⟨exR, [], []⟩ = 0 ∧ psS 100 exX ⟨exR, [], []⟩ = ⟨exR, [], [exX]⟩ := ps_yes exX_pkt (by rw [exX_len]; simp [PS.wt])
theorem ex_left : (PS.wt ⟨[], exX.drop 5, []⟩).length = 3 := by decide +kernel
theorem ex_ready : rdy 10 ⟨[], exX.drop 5, []⟩ = false := by decide +kernel
theorem ex_lit1 : ({ data := #[7, 255] } : ByteArray) = str [7#8, 255#8] := rfl
theorem ex_lit2 : ({ data := #[192, 0, 0, 0, 0] } : ByteArray) = str exR := rfl

set_option maxRecDepth 100000 in
set_option maxHeartbeats 4000000 in
theorem alive19_any (w : World) : Calls Try.prog 14 #[] w fun e w' => e = .returned (.bool true) ∧ Below w.heap.size w w' := by
  have x1 := PL.new (r := 100) (Z := 10) (by decide) (by decide) w
  have hrm : rm 100 = 100 := by decide
  rw [hrm, show ((10 : Nat) : Int) = 10 from rfl] at x1
  have x2 := fun W => lbytes_any 2 5#8 (by decide) (by decide) W
  rw [show ((2 : Nat) : Int) = 2 from rfl, show (((5#8 : Byte).toNat : Nat) : Int) = 5 from rfl] at x2
  go_enter Try.func14, Try.ntmps14
  go_wp2_with fail
  refine x1.mono ?_
  clear x1 hrm
  rintro e w1 ⟨g, F1, rfl, P1⟩
  go_wp2_with fail
  refine (x2 w1).mono ?_
  clear x2
  rintro e w2 ⟨v2, rfl, o2, b2⟩
  obtain ⟨Ax, cx, rfl, rx2'⟩ := Rd.of o2 exX_len
  have rx2 : Rd w2 Ax exX 8 cx := rx2'
  clear rx2'
  have P2 := P1.below b2
  have of2 := Of.new o2 P1.p.lt
  clear P1 o2 b2
  go_wp2_with fail
  refine (P2.push rx2 ex_push1.1 ex_push1.2).mono ?_
  rintro e w3 ⟨rfl, F3, P3, k3, n3⟩
  have rx3 := Rd.off rx2 k3 (fun x hx => ⟨(of2 x hx).1, (of2 x hx).2⟩)
  have of3 := of2.next k3.size n3
  clear P2 rx2 of2 k3 n3
  go_wp2_with fail
  refine (P3.next (by decide +kernel) ex_p1 ex_f1 ex_s1).mono ?_
  rintro e w4 ⟨A4, c4, F4, rfl, ra4, oa4, P4, k4, n4⟩
  have rx4 := Rd.off rx3 k4 of3
  have of4 := of3.next k4.size n4
  clear P3 rx3 of3 k4 n4
  go_wp2_with fail
  refine (P4.next0 (by decide +kernel)).mono ?_
  rintro e w4' ⟨rfl, rfl⟩
  go_wp2_with fail
  refine (P4.push rx4 ex_push2.1 ex_push2.2).mono ?_
  rintro e w5 ⟨rfl, F5, P5, k5, n5⟩
  have rx5 := Rd.off rx4 k5 of4
  have of5 := of4.next k5.size n5
  have ra5 := Rd.off ra4 k5 oa4
  have oa5 := oa4.next k5.size n5
  clear P4 rx4 of4 ra4 oa4 k5 n5
  go_wp2_with fail
  refine (P5.next (by decide +kernel) ex_p2 ex_f2 ex_s2).mono ?_
  rintro e w6 ⟨A6, c6, F6, rfl, rb6, ob6, P6, k6, n6⟩
  have rx6 := Rd.off rx5 k6 of5
  have ra6 := Rd.off ra5 k6 oa5
  clear P5 rx5 of5 ra5 oa5 k6 n6 ob6
  have ry6 := Rd.head rx6 5 (by decide)
  have l1 : (5 : Int) ≤ (cx : Int) := by have := rx6.le; omega
  have l2 : 5 ≤ cx := by omega
  have d1 := fun p : Later w6 => conv_later rx6 p
  have d2 := fun p : Later w6 => conv_later ra6 p
  have d3 := fun p : Later w6 => conv_later rb6 p
  have d4 := fun p : Later w6 => conv_later ry6 p
  have z1 := fun p : Later w6 => (P6.below p.h).left ex_left
  have z2 := fun p : Later w6 => (P6.below p.h).ready ex_ready
  have y1 := str_append exX [7#8, 255#8]
  have y2 := str_append exR (exX.take 5)
  rw [← ex_lit1] at y1
  rw [← ex_lit2] at y2
  have q1 : ¬ (9223372036854775807 < (str exX).size + 2) := by rw [str_size, exX_len]; decide
  have q1' : ¬ (9223372036854775807 < (str exX).size + ({ data := #[7, 255] } : ByteArray).size) := q1
  have q2 : ¬ (9223372036854775807 < 5 + (str (exX.take 5)).size) := by rw [str_size, List.length_take, exX_len]; decide
  have q2' : ¬ (9223372036854775807 < ({ data := #[192, 0, 0, 0, 0] } : ByteArray).size + (str (exX.take 5)).size) := q2
  obtain ⟨Y1, hY1⟩ : ∃ Y1, exX ++ [7#8, 255#8] = Y1 := ⟨_, rfl⟩
  obtain ⟨Y2, hY2⟩ : ∃ Y2, exR ++ exX.take 5 = Y2 := ⟨_, rfl⟩
  obtain ⟨Y3, hY3⟩ : ∃ Y3, exX.take 5 = Y3 := ⟨_, rfl⟩
  rw [hY1] at d2 y1
  rw [hY2] at d3 y2
  rw [hY3] at d4 y2 q2 q2'
  have e1 : ((str Y1).toList == (str Y1).toList) = true := by simp
  have e2 : ((str Y2).toList == (str Y2).toList) = true := by simp
  have HP := Lib.hid P6
  clear rx6 ra6 rb6 ry6 P6 hY1 hY2 hY3
  go_upto_region 8 with fail
  refine wp_region_later (by kernel_rfl) (by kernel_rfl) ?_
  repeat (go_big_quiet_step ((first
    | (go_at_call 11; exact later_same (z1 _))
    | (go_at_call 12; exact later_of (z2 _)))))
  refine wpQuiet_nil ?_
  rintro _ ⟨⟨w7, b7⟩, rfl⟩
  go_wp2
  go_ret
  exact ⟨rfl, HP.out.b.trans (b7.mono HP.out.b.size)⟩
end Go.Proofs.Ytjjjlgaidklokaa.Pkr
