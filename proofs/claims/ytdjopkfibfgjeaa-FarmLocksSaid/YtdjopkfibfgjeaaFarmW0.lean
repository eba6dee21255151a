/-
  Package farm: what it is to be a receiving end; New, works, clear, count, receive.
-/
import Derived.Test.YtdjopkfibfgjeaaFarmMath
import Derived.Test.YtdjopkfibfgjeaaTcfW5
import Derived.Test.YtdjopkfibfgjeaaSerW
import Derived.Test.YtdjopkfibfgjeaaClone
import Derived.Test.YtdjopkfibfgjeaaLater
import Derived.Deep.QuietTactic
import Derived.BigQuiet
import Derived.BigRegion
namespace Go.Proofs.Ytdjopkfibfgjeaa.Far
open Go.RowKit
open Pac (bel_new Cel.later)

/-- block g is a receiving end of spacecraft K with window W and channel H -/
def FC (w : World) (g : Nat) (K W H : Int) (lk wt rt : Bool) (bc nx : Int) : Prop :=
  Cel w g 53 #[.int .i64 K, .int .i64 W, .int .i64 H, .bool lk, .bool wt, .bool rt, .int .i64 bc, .int .i64 nx]
/-- the same, with the state as one, and its bounds -/
structure FW (w : World) (g : Nat) (K H W : Int) (s : St) : Prop where
  cel : FC w g K W H s.lk s.wt s.rt s.bc s.nx
  ok : s.Ok
  w1 : 1 ≤ W
  w2 : W ≤ 127

section
variable {w w' : World} {g : Nat} {K W H bc nx : Int} {lk wt rt : Bool} {S : List Nat} {s : St}
theorem FC.put (h : FC w g K W H lk wt rt bc nx) (i : Nat) (v : Value) : Cel (w.setCell ⟨g, i, none⟩ v) g 53 (#[.int .i64 K, .int .i64 W, .int .i64 H, .bool lk, .bool wt, .bool rt, .int .i64 bc, .int .i64 nx].setIfInBounds i v) := Cel.put (t := 53) h i v
theorem FC.lock (h : FC w g K W H lk wt rt bc nx) (b : Bool) : FC (w.setCell ⟨g, 3, none⟩ (.bool b)) g K W H b wt rt bc nx := h.put 3 _
theorem FC.wait (h : FC w g K W H lk wt rt bc nx) (b : Bool) : FC (w.setCell ⟨g, 4, none⟩ (.bool b)) g K W H lk b rt bc nx := h.put 4 _
theorem FC.retr (h : FC w g K W H lk wt rt bc nx) (b : Bool) : FC (w.setCell ⟨g, 5, none⟩ (.bool b)) g K W H lk wt b bc nx := h.put 5 _
theorem FC.byps (h : FC w g K W H lk wt rt bc nx) (b : Int) : FC (w.setCell ⟨g, 6, none⟩ (.int .i64 b)) g K W H lk wt rt b nx := h.put 6 _
theorem FC.next (h : FC w g K W H lk wt rt bc nx) (b : Int) : FC (w.setCell ⟨g, 7, none⟩ (.int .i64 b)) g K W H lk wt rt bc b := h.put 7 _
theorem FC.lt (h : FC w g K W H lk wt rt bc nx) : g < w.heap.size := Cel.lt (t := 53) h
theorem FC.only (h : FC w g K W H lk wt rt bc nx) (k : Only S w w') (hg : g ∉ S) : FC w' g K W H lk wt rt bc nx := Cel.only (t := 53) h k hg
theorem FC.below (h : FC w g K W H lk wt rt bc nx) (k : Below w.heap.size w w') : FC w' g K W H lk wt rt bc nx := h.only (Only.of_below (S := []) k) (by simp)
theorem FC.draws (h : FC w g K W H lk wt rt bc nx) (n : Nat) : FC (w.drewN n) g K W H lk wt rt bc nx := h
theorem FC.c0 (h : FC w g K W H lk wt rt bc nx) : w.cell? ⟨g, 0, none⟩ = some (.int .i64 K) := Cel.cell (t := 53) h 0
theorem FC.c1 (h : FC w g K W H lk wt rt bc nx) : w.cell? ⟨g, 1, none⟩ = some (.int .i64 W) := Cel.cell (t := 53) h 1
theorem FC.c2 (h : FC w g K W H lk wt rt bc nx) : w.cell? ⟨g, 2, none⟩ = some (.int .i64 H) := Cel.cell (t := 53) h 2
theorem FC.c3 (h : FC w g K W H lk wt rt bc nx) : w.cell? ⟨g, 3, none⟩ = some (.bool lk) := Cel.cell (t := 53) h 3
theorem FC.c4 (h : FC w g K W H lk wt rt bc nx) : w.cell? ⟨g, 4, none⟩ = some (.bool wt) := Cel.cell (t := 53) h 4
theorem FC.c5 (h : FC w g K W H lk wt rt bc nx) : w.cell? ⟨g, 5, none⟩ = some (.bool rt) := Cel.cell (t := 53) h 5
theorem FC.c6 (h : FC w g K W H lk wt rt bc nx) : w.cell? ⟨g, 6, none⟩ = some (.int .i64 bc) := Cel.cell (t := 53) h 6
theorem FC.c7 (h : FC w g K W H lk wt rt bc nx) : w.cell? ⟨g, 7, none⟩ = some (.int .i64 nx) := Cel.cell (t := 53) h 7
theorem FC.free (h : FC w g K W H lk wt rt bc nx) (i : Nat) : w.frozen? ⟨g, i, none⟩ = false := Cel.free (t := 53) h i
theorem FW.only (h : FW w g K H W s) (k : Only S w w') (hg : g ∉ S) : FW w' g K H W s := ⟨h.cel.only k hg, h.ok, h.w1, h.w2⟩
theorem FW.below (h : FW w g K H W s) (k : Below w.heap.size w w') : FW w' g K H W s := ⟨h.cel.below k, h.ok, h.w1, h.w2⟩
theorem FW.draws (h : FW w g K H W s) (n : Nat) : FW (w.drewN n) g K H W s := ⟨h.cel, h.ok, h.w1, h.w2⟩
theorem put_only (w : World) (g i : Nat) (v : Value) : Only [g] w (w.setCell ⟨g, i, none⟩ v) := (Only.refl [g] w).put (p := ⟨g, i, none⟩) (.inl (by simp)) v
theorem only_then {w w' w2 : World} {g : Nat} (h : Only [g] w w') (k : Only [g] w' w2) : Only [g] w w2 := h.trans k (fun _ hx => .inl hx)
end

/-! ### New -/
set_option maxHeartbeats 1000000 in
theorem new_any (K H n : Int) (w : World) (hk0 : 0 ≤ K) (hk1 : K ≤ 1023) (hh0 : 0 ≤ H) (hh1 : H ≤ 7) :
    Calls Try.prog 7 #[.int .i64 K, .int .i64 H, .int .i64 n] w fun e w' => e = .returned (.pointer (some ⟨w.heap.size, 0, none⟩)) ∧ FW w' w.heap.size K H (clw n) st0 ∧ Below w.heap.size w w' := by
  have hM : clw n = min (max n 1) 127 := rfl
  have hin := clw_in n
  obtain ⟨W, hW⟩ : ∃ W, W = clw n := ⟨_, rfl⟩
  rw [← hW] at hM hin ⊢
  obtain ⟨M, hMM⟩ : ∃ M, M = max n 1 := ⟨_, rfl⟩
  have m1 : max n 1 = M := hMM.symm
  have m1' : (if n < 1 then (1 : Int) else n) = M := by split <;> omega
  have m2 : min M 127 = W := by omega
  have m2' : (if 127 < M then (127 : Int) else M) = W := by split <;> omega
  have hF : FW (w.alloc (.cells #[.int .i64 K, .int .i64 W, .int .i64 H, .bool false, .bool false, .bool false, .int .i64 0, .int .i64 0] 53)) w.heap.size K H W st0 := ⟨Cel.new _ _ _, st0_ok, hin.1, hin.2⟩
  have HF := Lib.hid hF
  clear hM hin hW hMM hF
  go_enter Try.func7, Try.ntmps7
  go_wp2
  go_ret
  exact ⟨rfl, HF.out, bel_new _ _⟩
set_option maxHeartbeats 1000000 in
theorem new_bad (K H n : Int) (w : World) (h : K < 0 ∨ 1023 < K ∨ H < 0 ∨ 7 < H) :
    Calls Try.prog 7 #[.int .i64 K, .int .i64 H, .int .i64 n] w fun e w' => e = .returned (.pointer none) ∧ w = w' := by
  by_cases h1 : K < 0
  · clear h
    go_enter Try.func7, Try.ntmps7
    go_wp2
    go_ret
    exact ⟨rfl, rfl⟩
  have p1 : 0 ≤ K := by omega
  by_cases h2 : 1023 < K
  · clear h h1
    go_enter Try.func7, Try.ntmps7
    go_wp2
    go_ret
    exact ⟨rfl, rfl⟩
  have p2 : K ≤ 1023 := by omega
  by_cases h3 : H < 0
  · clear h h1 h2
    go_enter Try.func7, Try.ntmps7
    go_wp2
    go_ret
    exact ⟨rfl, rfl⟩
  have p3 : 0 ≤ H := by omega
  have h4 : 7 < H := by omega
  clear h h1 h2 h3
  go_enter Try.func7, Try.ntmps7
  go_wp2
  go_ret
  exact ⟨rfl, rfl⟩

/-! ### works, clear, count -/
set_option maxHeartbeats 400000 in
theorem fworks_any (w : World) (g : Nat) (K H W : Int) (s : St) (h : FW w g K H W s) :
    Calls Try.prog 17 #[.pointer (some ⟨g, 0, none⟩)] w fun e w' => e = .returned (.bool true) ∧ w = w' := by
  have c1 := h.cel.c1
  have t1 : 0 < W := by have := h.w1; omega
  clear h
  go_enter Try.func17, Try.ntmps17
  go_wp2
  go_ret
  exact ⟨rfl, rfl⟩
set_option maxHeartbeats 400000 in
theorem fworks_nil (w : World) : Calls Try.prog 17 #[.pointer none] w fun e w' => e = .returned (.bool false) ∧ w = w' := by
  go_enter Try.func17, Try.ntmps17
  go_wp2
  go_ret
  exact ⟨rfl, rfl⟩

set_option maxHeartbeats 400000 in
theorem clear_any (w : World) (g : Nat) (K W H bc nx : Int) (lk wt rt : Bool) (h : FC w g K W H lk wt rt bc nx) :
    Calls Try.prog 33 #[.pointer (some ⟨g, 0, none⟩)] w fun e w' => e = .returned (.tuple #[]) ∧ FC w' g K W H lk false false bc nx ∧ Only [g] w w' := by
  have e1 := (h.wait false).retr false
  have o1 := only_then (put_only w g 4 (.bool false)) (put_only _ g 5 (.bool false))
  have c4 := h.c4
  have c5 := h.c5
  have f4 := h.free 4
  have f5 := h.free 5
  clear h
  go_enter Try.func33, Try.ntmps33
  go_wp2
  go_end0
  exact ⟨rfl, e1, o1⟩

set_option maxHeartbeats 400000 in
theorem count_any (w : World) (g : Nat) (K W H bc nx : Int) (lk wt rt : Bool) (h : FC w g K W H lk wt rt bc nx) (h0 : 0 ≤ bc) (h3 : bc ≤ 3) :
    Calls Try.prog 26 #[.pointer (some ⟨g, 0, none⟩)] w fun e w' => e = .returned (.tuple #[]) ∧ FC w' g K W H lk wt rt ((bc + 1) % 4) nx ∧ Only [g] w w' := by
  have ha := add_any bc 1 2 w
  rw [sadd2 h0 h3] at ha
  obtain ⟨B, hB⟩ : ∃ B, B = (bc + 1) % 4 := ⟨_, rfl⟩
  rw [← hB] at ha ⊢
  have e1 := h.byps B
  have o1 := put_only w g 6 (.int .i64 B)
  have c6 := h.c6
  have f6 := h.free 6
  clear h hB
  go_enter Try.func26, Try.ntmps26
  go_wp2_with (go_at_call 34; refine ha.mono ?_; rintro e w' ⟨rfl, rfl⟩)
  go_end0
  exact ⟨rfl, e1, o1⟩

/-! ### receive -/
theorem quiet_same {P : Program} {f : FuncId} {args : Array Value} {w : World} {n : Nat} {v : Value} (h : Calls P f args (w.drewN n) fun e w' => e = .returned v ∧ w.drewN n = w') :
    Calls P f args (w.drewN n) fun e w'' => e = .returned v ∧ ∃ m, w'' = w.drewN m := h.mono fun _ _ ⟨he, hb⟩ => ⟨he, n, hb.symm⟩
set_option maxHeartbeats 4000000 in
theorem receive_any (q : Int) (room : Bool) (w : World) (g : Nat) (K H W : Int) (s : St) (h : FW w g K H W s) (hq0 : 0 ≤ q) (hq1 : q ≤ 255) :
    Calls Try.prog 27 #[.pointer (some ⟨g, 0, none⟩), .int .i64 q, .bool room] w fun e w' => e = .returned (.int .i64 (rcv W s q room).1) ∧ FW w' g K H W (rcv W s q room).2 ∧ Only [g] w w' := by
  obtain ⟨hc, hok, hw1, hw2⟩ := h
  have hok2 := rcv_ok (W := W) hok q room
  obtain ⟨lk, wt, rt, bc, nx⟩ := s
  obtain ⟨k1, k2, k3, k4⟩ := hok
  dsimp only at hc k1 k2 k3 k4
  have hwr : wrap64 (-W) = -W := by unfold wrap64; omega
  have hF := add_any nx (wrap64 (-W)) 8
  rw [show sadd nx (wrap64 (-W)) 8 = sadd nx (-W) 8 by rw [hwr]] at hF
  have hN := add_any nx 1 8
  rw [sadd8 k3 k4] at hN
  have hG := within_any q nx W 8
  have hR := within_any q (sadd nx (-W) 8) W 8
  rw [gap_p hq0 hq1 k3 k4 hw2] at hG
  rw [rep_p hq0 hq1 k3 k4 hw2] at hR
  obtain ⟨F, hFF⟩ : ∃ F, F = sadd nx (-W) 8 := ⟨_, rfl⟩
  rw [← hFF] at hF hR
  have c1 := hc.c1
  have c7 := hc.c7
  have o0 : ∀ n, Only [g] w (w.drewN n) := fun n => (Only.refl [g] w).draws n
  have Hw := Lib.hid (And.intro hw1 hw2)
  by_cases hq : q = nx
  · subst hq
    have hb : (q == q) = true := by simp
    cases room with
    | true =>
      have e : rcv W ⟨lk, wt, rt, bc, q⟩ q true = (1, ⟨lk, false, false, bc, (q + 1) % 256⟩) := by unfold rcv; simp
      rw [e] at hok2 ⊢
      obtain ⟨N, hNN⟩ : ∃ N, N = (q + 1) % 256 := ⟨_, rfl⟩
      rw [← hNN] at hN hok2 ⊢
      have Hok2 := Lib.hid hok2
      have f7 := hc.free 7
      clear hG hR hNN hFF k1 k2 k3 k4 hwr e hq0 hq1 hok2 hw1 hw2
      go_enter Try.func27, Try.ntmps27
      go_wp2_with fail
      go_quiet ((go_at_call 34; exact quiet_same (hF _)))
      go_wp2_with (go_at_call 34; refine (hN _).mono ?_; rintro e w' ⟨rfl, rfl⟩)
      refine (clear_any _ g K W H bc N lk wt rt ((hc.draws nq).next N)).mono ?_
      rintro e w2 ⟨rfl, hc2, o2⟩
      go_wp2
      go_ret
      exact ⟨rfl, ⟨hc2, Hok2.out, Hw.out.1, Hw.out.2⟩, only_then (only_then (o0 nq) (put_only _ g 7 _)) o2⟩
    | false =>
      have e : rcv W ⟨lk, wt, rt, bc, q⟩ q false = (6, ⟨lk, true, true, bc, q⟩) := by unfold rcv; simp
      rw [e] at hok2 ⊢
      have Hok2 := Lib.hid hok2
      have c4 := hc.c4
      have c5 := hc.c5
      have f4 := hc.free 4
      have f5 := hc.free 5
      clear hG hR hN hFF k1 k2 k3 k4 hwr e hq0 hq1 hok2 hw1 hw2
      go_enter Try.func27, Try.ntmps27
      go_wp2_with fail
      go_quiet ((go_at_call 34; exact quiet_same (hF _)))
      go_wp2
      go_ret
      exact ⟨rfl, ⟨((hc.draws nq).wait true).retr true, Hok2.out, Hw.out.1, Hw.out.2⟩, only_then (only_then (o0 nq) (put_only _ g 4 _)) (put_only _ g 5 _)⟩
  · have hb : (q == nx) = false := by simpa using hq
    cases hg : decide ((q - nx) % 256 < W) with
    | true =>
      have e : rcv W ⟨lk, wt, rt, bc, nx⟩ q room = (3, ⟨lk, wt, true, bc, nx⟩) := by unfold rcv; rw [if_neg hq, if_pos (of_decide_eq_true hg)]
      rw [e] at hok2 ⊢
      rw [hg] at hG
      have Hok2 := Lib.hid hok2
      have c5 := hc.c5
      have f5 := hc.free 5
      clear hR hN hFF k1 k2 k3 k4 hwr e hq0 hq1 hok2 hw1 hw2 hq hg
      go_enter Try.func27, Try.ntmps27
      go_wp2_with fail
      go_quiet ((go_at_call 34; exact quiet_same (hF _)))
      go_wp2_with (go_at_call 35; refine (hG _).mono ?_; rintro e w' ⟨rfl, rfl⟩)
      go_ret
      exact ⟨rfl, ⟨(hc.draws nq).retr true, Hok2.out, Hw.out.1, Hw.out.2⟩, only_then (o0 nq) (put_only _ g 5 _)⟩
    | false =>
      rw [hg] at hG
      cases hr : decide ((q - nx + W) % 256 < W) with
      | true =>
        have e : rcv W ⟨lk, wt, rt, bc, nx⟩ q room = (2, ⟨lk, wt, rt, bc, nx⟩) := by unfold rcv; rw [if_neg hq, if_neg (of_decide_eq_false hg), if_pos (of_decide_eq_true hr)]
        rw [e] at hok2 ⊢
        rw [hr] at hR
        have Hok2 := Lib.hid hok2
        clear hN hFF k1 k2 k3 k4 hwr e hq0 hq1 hok2 hw1 hw2 hq hg hr
        go_enter Try.func27, Try.ntmps27
        go_wp2_with fail
        go_quiet ((go_at_call 34; exact quiet_same (hF _)))
        go_wp2_with fail
        refine (hG _).mono ?_
        rintro e w' ⟨rfl, rfl⟩
        go_wp2_with fail
        refine (hR _).mono ?_
        rintro e w' ⟨rfl, rfl⟩
        go_wp2
        go_ret
        exact ⟨rfl, ⟨hc.draws nq, Hok2.out, Hw.out.1, Hw.out.2⟩, o0 nq⟩
      | false =>
        have e : rcv W ⟨lk, wt, rt, bc, nx⟩ q room = (4, ⟨true, wt, rt, bc, nx⟩) := by unfold rcv; rw [if_neg hq, if_neg (of_decide_eq_false hg), if_neg (of_decide_eq_false hr)]
        rw [e] at hok2 ⊢
        rw [hr] at hR
        have Hok2 := Lib.hid hok2
        have c3 := hc.c3
        have f3 := hc.free 3
        clear hN hFF k1 k2 k3 k4 hwr e hq0 hq1 hok2 hw1 hw2 hq hg hr
        go_enter Try.func27, Try.ntmps27
        go_wp2_with fail
        go_quiet ((go_at_call 34; exact quiet_same (hF _)))
        go_wp2_with fail
        refine (hG _).mono ?_
        rintro e w' ⟨rfl, rfl⟩
        go_wp2_with fail
        refine (hR _).mono ?_
        rintro e w' ⟨rfl, rfl⟩
        go_wp2
        go_ret
        exact ⟨rfl, ⟨(hc.draws nq).lock true, Hok2.out, Hw.out.1, Hw.out.2⟩, only_then (o0 nq) (put_only _ g 3 _)⟩
end Go.Proofs.Ytdjopkfibfgjeaa.Far
