/-
  The walks of package clcw's bit and Valid, of the reference's flag and Valid.
-/
import Derived.Test.YtmfiklofmjaldaaClcMath
import Derived.Test.YtmfiklofmjaldaaRd
namespace Go.Proofs.Ytmfiklofmjaldaa.Clc
open Go.RowKit Go.Proofs.Ytmfiklofmjaldaa.Pac

theorem ok_bad {ch bp nx : Int} {lk wt rt : Bool} (h : ch < 0 ∨ 7 < ch ∨ bp < 0 ∨ 3 < bp ∨ nx < 0 ∨ 255 < nx) : Cw.ok ⟨ch, lk, wt, rt, bp, nx⟩ = false :=
  Cw.ok_no (fun ⟨h1, h2, h3, h4, h5, h6⟩ => by simp only at h1 h2 h3 h4 h5 h6; omega)

set_option maxHeartbeats 400000 in
theorem cbit_any (b : Bool) (w : World) :
    Calls Try.prog 16 #[.bool b] w fun e w' => e = .returned (.int .u64 ((nb b : Nat) : Int)) ∧ w = w' := by
  cases b
  · go_enter Try.func16, Try.ntmps16
    go_wp2
    go_ret
    exact ⟨rfl, rfl⟩
  · go_enter Try.func16, Try.ntmps16
    go_wp2
    go_ret
    exact ⟨rfl, rfl⟩

def flg (b : Bool) (n : Int) : Int := if b then n else 0
set_option maxHeartbeats 400000 in
theorem zflag_any (b : Bool) (n : Int) (w : World) :
    Calls Try.prog 18 #[.bool b, .int .i64 n] w fun e w' => e = .returned (.int .i64 (flg b n)) ∧ w = w' := by
  cases b
  · go_enter Try.func18, Try.ntmps18
    go_wp2
    go_ret
    exact ⟨rfl, rfl⟩
  · go_enter Try.func18, Try.ntmps18
    go_wp2
    go_ret
    exact ⟨rfl, rfl⟩

set_option maxHeartbeats 2000000 in
theorem cvalid_any (ch : Int) (lk wt rt : Bool) (bp nx : Int) (w : World) :
    Calls Try.prog 9 #[.agg #[.int .i64 ch, .bool lk, .bool wt, .bool rt, .int .i64 bp, .int .i64 nx]] w fun e w' => e = .returned (.bool (Cw.ok ⟨ch, lk, wt, rt, bp, nx⟩)) ∧ Below w.heap.size w w' := by
  by_cases h1 : ch < 0
  · rw [ok_bad (by omega)]
    go_enter Try.func9, Try.ntmps9
    go_wp2
    go_ret
    exact ⟨rfl, bel_new _ _⟩
  have p1 : 0 ≤ ch := by omega
  clear h1
  by_cases h2 : 7 < ch
  · rw [ok_bad (by omega)]
    go_enter Try.func9, Try.ntmps9
    go_wp2
    go_ret
    exact ⟨rfl, bel_new _ _⟩
  have p2 : ch ≤ 7 := by omega
  clear h2
  by_cases h3 : bp < 0
  · rw [ok_bad (by omega)]
    go_enter Try.func9, Try.ntmps9
    go_wp2
    go_ret
    exact ⟨rfl, bel_new _ _⟩
  have p3 : 0 ≤ bp := by omega
  clear h3
  by_cases h4 : 3 < bp
  · rw [ok_bad (by omega)]
    go_enter Try.func9, Try.ntmps9
    go_wp2
    go_ret
    exact ⟨rfl, bel_new _ _⟩
  have p4 : bp ≤ 3 := by omega
  clear h4
  by_cases h5 : nx < 0
  · rw [ok_bad (by omega)]
    go_enter Try.func9, Try.ntmps9
    go_wp2
    go_ret
    exact ⟨rfl, bel_new _ _⟩
  have p5 : 0 ≤ nx := by omega
  clear h5
  by_cases h6 : 255 < nx
  · rw [ok_bad (by omega)]
    go_enter Try.func9, Try.ntmps9
    go_wp2
    go_ret
    first
    | exact ⟨rfl, bel_new _ _⟩
    | exact ⟨ret_bool (decide_eq_false (by omega)), bel_new _ _⟩
  have p6 : nx ≤ 255 := by omega
  clear h6
  rw [Cw.ok_yes ⟨p1, p2, p3, p4, p5, p6⟩]
  go_enter Try.func9, Try.ntmps9
  go_wp2
  go_ret
  exact ⟨rfl, bel_new _ _⟩

set_option maxHeartbeats 2000000 in
theorem zvalid_any (ch : Int) (lk wt rt : Bool) (bp nx : Int) (w : World) :
    Calls Try.prog 10 #[.agg #[.int .i64 ch, .bool lk, .bool wt, .bool rt, .int .i64 bp, .int .i64 nx]] w fun e w' => e = .returned (.bool (Cw.ok ⟨ch, lk, wt, rt, bp, nx⟩)) ∧ Below w.heap.size w w' := by
  by_cases h1 : ch < 0
  · rw [ok_bad (by omega)]
    go_enter Try.func10, Try.ntmps10
    go_wp2
    go_ret
    exact ⟨rfl, bel_new _ _⟩
  have p1 : 0 ≤ ch := by omega
  clear h1
  by_cases h2 : 7 < ch
  · rw [ok_bad (by omega)]
    go_enter Try.func10, Try.ntmps10
    go_wp2
    go_ret
    exact ⟨rfl, bel_new _ _⟩
  have p2 : ch ≤ 7 := by omega
  clear h2
  by_cases h3 : bp < 0
  · rw [ok_bad (by omega)]
    go_enter Try.func10, Try.ntmps10
    go_wp2
    go_ret
    exact ⟨rfl, bel_new _ _⟩
  have p3 : 0 ≤ bp := by omega
  clear h3
  by_cases h4 : 3 < bp
  · rw [ok_bad (by omega)]
    go_enter Try.func10, Try.ntmps10
    go_wp2
    go_ret
    exact ⟨rfl, bel_new _ _⟩
  have p4 : bp ≤ 3 := by omega
  clear h4
  by_cases h5 : nx < 0
  · rw [ok_bad (by omega)]
    go_enter Try.func10, Try.ntmps10
    go_wp2
    go_ret
    exact ⟨rfl, bel_new _ _⟩
  have p5 : 0 ≤ nx := by omega
  clear h5
  by_cases h6 : 255 < nx
  · rw [ok_bad (by omega)]
    go_enter Try.func10, Try.ntmps10
    go_wp2
    go_ret
    first
    | exact ⟨rfl, bel_new _ _⟩
    | exact ⟨ret_bool (decide_eq_false (by omega)), bel_new _ _⟩
  have p6 : nx ≤ 255 := by omega
  clear h6
  rw [Cw.ok_yes ⟨p1, p2, p3, p4, p5, p6⟩]
  go_enter Try.func10, Try.ntmps10
  go_wp2
  go_ret
  exact ⟨rfl, bel_new _ _⟩
end Go.Proofs.Ytmfiklofmjaldaa.Clc
