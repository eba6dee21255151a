/-
  The law PackerFills.
-/
import Derived.Test.YtjjjlgaidklokaaLaw19b
namespace Go.Proofs.Ytjjjlgaidklokaa.Pkr
open Go.RowKit
open Pac (bel_new)

theorem fills_wt (X : List Byte) : (PS.wt ⟨[], [], [X]⟩) = X := by unfold PS.wt; simp
theorem fills_next {Z : Nat} {X : List Byte} (hZ : 1 ≤ Z) : nxP Z ⟨[], [], [X]⟩ = 0 ∧ (nxS Z ⟨[], [], [X]⟩).wt.length = X.length - Z := by
  refine ⟨by unfold nxP; simp; omega, ?_⟩
  rw [nx_wt, fills_wt, List.length_drop]
  unfold nxA
  simp

set_option maxRecDepth 100000 in
set_option maxHeartbeats 4000000 in
theorem packerFills_ok (Z N : Nat) (hZ1 : 1 ≤ Z) (hZ2 : Z ≤ 1012) (hN1 : 1 ≤ N) (hN2 : N ≤ 4000) (w : World) :
    Calls Try.prog 6 #[.int .i64 (Z : Int), .int .i64 (N : Int)] w fun e w' => e = .returned (.bool true) ∧ Below w.heap.size w w' := by
  have x0 := xright_any (Z : Int) w
  rw [decide_eq_true (show 1 ≤ (Z : Int) ∧ (Z : Int) ≤ 1012 by omega)] at x0
  have x1 := PL.new (r := 5000) hZ1 hZ2 w
  have hrm : rm 5000 = 5000 := by decide
  rw [hrm] at x1
  have x2 := fun W => lbytes_any N 1#8 hN1 (by omega) W
  rw [show (((1#8 : Byte).toNat : Nat) : Int) = 1 from rfl] at x2
  have hpk := pkE_pkt (b := 1#8) hN1 (show N ≤ 4090 by omega)
  have hln := pkE_len (b := 1#8) hN1 (show N ≤ 4090 by omega)
  obtain ⟨M, hM⟩ : ∃ M, N + 6 = M := ⟨_, rfl⟩
  rw [hM] at hln
  obtain ⟨X, hX⟩ : ∃ X, pkE N 1#8 = X := ⟨_, rfl⟩
  rw [hX] at hpk hln
  simp only [hX] at x2
  obtain ⟨e1, e2⟩ := ps_yes (R := 5000) (s := ⟨[], [], []⟩) hpk (by rw [hln]; simp [PS.wt]; omega)
  obtain ⟨n1, n2⟩ := fills_next (X := X) hZ1
  rw [hln] at n2
  have hwt := fills_wt X
  obtain ⟨L, hL⟩ : ∃ L, M - Z = L := ⟨_, rfl⟩
  rw [hL] at n2
  obtain ⟨b, hb⟩ : ∃ b, decide (Z ≤ M) = b := ⟨_, rfl⟩
  have hr : rdy Z ⟨[], [], [X]⟩ = b := by
    unfold rdy
    rw [hwt, hln, decide_eq_true (show 0 < M by omega), ← hb]
    simp
  have t1 : decide ((N : Int) < 1) = false := by simp; omega
  have t1' : decide (N < 1) = false := by simp; omega
  have t2 : decide ((4000 : Int) < (N : Int)) = false := by simp; omega
  have t2' : decide (4000 < N) = false := by simp; omega
  obtain ⟨dd, hdd⟩ : ∃ dd : Int, (N : Int) + 6 - (Z : Int) = dd := ⟨_, rfl⟩
  have hm0 : max dd 0 = (L : Int) := by omega
  have hm1 : (if dd < 0 then (0 : Int) else dd) = (L : Int) := by split <;> omega
  have t3 : decide ((Z : Int) ≤ (N : Int) + 6) = b := by rw [← hb]; congr 1; apply propext; omega
  have t3' : decide (Z ≤ N + 6) = b := by rw [← hb, hM]
  have t5 : ((Z : Int) == (Z : Int)) = true := by simp
  have t6 : ((L : Int) == (L : Int)) = true := by simp
  have HX := Lib.hid (And.intro e1 (And.intro e2 (And.intro n1 (And.intro n2 (And.intro hwt (And.intro hln hr))))))
  have HM : Hid (0 < M) := Lib.hid (by omega)
  clear hpk hln e1 e2 n1 n2 hwt hr hX hM hL hrm hN1 hb
  cases b
  all_goals
    go_enter Try.func6, Try.ntmps6
    go_wp2_with fail
    refine x0.mono ?_
    rintro e w1 ⟨rfl, rfl⟩
    go_wp2_with fail
    refine x1.mono ?_
    clear x0 x1
    rintro e w1 ⟨g, F1, rfl, P1⟩
    go_wp2_with fail
    refine (P1.next0 rfl).mono ?_
    rintro e w1' ⟨rfl, rfl⟩
    go_wp2_with fail
    refine (x2 w1).mono ?_
    clear x2
    rintro e w2 ⟨v2, rfl, o2, b2⟩
    obtain ⟨Ax, cx, rfl, rx2⟩ := Rd.of o2 HX.out.2.2.2.2.2.1
    have P2 := P1.below b2
    clear P1 o2 b2
    go_wp2_with fail
    refine (P2.push rx2 HX.out.1 HX.out.2.1).mono ?_
    rintro e w3 ⟨rfl, F3, P3, _, _⟩
    clear P2 rx2
    go_wp2_with fail
    refine (P3.ready HX.out.2.2.2.2.2.2).mono ?_
    rintro e w4 ⟨rfl, b4⟩
    have P4 := P3.below b4
    clear P3 b4
    go_wp2_with fail
    refine (P4.next (by show 0 < (PS.wt ⟨[], [], [X]⟩).length; rw [HX.out.2.2.2.2.1, HX.out.2.2.2.2.2.1]; exact HM.out) HX.out.2.2.1 rfl rfl).mono ?_
    rintro e w5 ⟨A5, c5, F5, rfl, _, _, P5, _, _⟩
    clear P4
    go_wp2_with fail
    refine (P5.left HX.out.2.2.2.1).mono ?_
    rintro e w6 ⟨rfl, rfl⟩
    have HP := Lib.hid P5
    clear P5
    go_wp2_with fail
    refine (alive19_any _).mono ?_
    rintro e w7 ⟨rfl, b7⟩
    go_wp2
    go_ret
    exact ⟨rfl, HP.out.b.trans (b7.mono HP.out.b.size)⟩

set_option maxRecDepth 100000 in
set_option maxHeartbeats 2000000 in
theorem packerFills_walk (z n : Int) (w : World) :
    Calls Try.prog 6 #[.int .i64 z, .int .i64 n] w fun e w' => e = .returned (.bool true) ∧ Below w.heap.size w w' := by
  by_cases hz : 1 ≤ z ∧ z ≤ 1012
  · by_cases h1 : n < 1
    · have x0 := xright_any z w
      rw [decide_eq_true hz] at x0
      have t1 : decide (n < 1) = true := by simpa using h1
      clear hz h1
      go_enter Try.func6, Try.ntmps6
      go_wp2_with fail
      refine x0.mono ?_
      rintro e w1 ⟨rfl, rfl⟩
      go_wp2_with fail
      refine (alive19_any _).mono ?_
      rintro e w7 ⟨rfl, b7⟩
      go_wp2
      go_ret
      exact ⟨rfl, b7⟩
    · by_cases h2 : 4000 < n
      · have x0 := xright_any z w
        rw [decide_eq_true hz] at x0
        have t1 : decide (n < 1) = false := by simpa using h1
        have t2 : decide (4000 < n) = true := by simpa using h2
        clear hz h1 h2
        go_enter Try.func6, Try.ntmps6
        go_wp2_with fail
        refine x0.mono ?_
        rintro e w1 ⟨rfl, rfl⟩
        go_wp2_with fail
        refine (alive19_any _).mono ?_
        rintro e w7 ⟨rfl, b7⟩
        go_wp2
        go_ret
        exact ⟨rfl, b7⟩
      · obtain ⟨Z, rfl⟩ : ∃ Z : Nat, z = (Z : Int) := ⟨z.toNat, by omega⟩
        obtain ⟨N, rfl⟩ : ∃ N : Nat, n = (N : Int) := ⟨n.toNat, by omega⟩
        exact packerFills_ok Z N (by omega) (by omega) (by omega) (by omega) w
  · have x0 := xright_any z w
    rw [decide_eq_false hz] at x0
    clear hz
    go_enter Try.func6, Try.ntmps6
    go_wp2_with fail
    refine x0.mono ?_
    rintro e w1 ⟨rfl, rfl⟩
    go_wp2_with fail
    refine (alive19_any _).mono ?_
    rintro e w7 ⟨rfl, b7⟩
    go_wp2
    go_ret
    exact ⟨rfl, b7⟩
end Go.Proofs.Ytjjjlgaidklokaa.Pkr
