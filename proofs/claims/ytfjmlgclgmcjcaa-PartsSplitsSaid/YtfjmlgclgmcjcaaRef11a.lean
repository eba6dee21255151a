/-
  The walks of the reference of layer 11: header, NewJoiner, Same.
-/
import Derived.Test.YtfjmlgclgmcjcaaParW0
namespace Go.Proofs.Ytfjmlgclgmcjcaa.Par
open Go.RowKit Go.Proofs.Ytfjmlgclgmcjcaa.Row
open Pac (Pk bel_new Cel.later Cel.within)

set_option maxHeartbeats 1000000 in
theorem xheader_any (com sec : Bool) (ap fl ct : Int) (dv : Value) (w : World) :
    Calls Try.prog 23 #[.agg #[.bool com, .bool sec, .int .i64 ap, .int .i64 fl, .int .i64 ct, dv]] w fun e w' => e = .returned (.bool (rng ap 0 ct)) ∧ Below w.heap.size w w' := by
  have b1 := bel_new w (.cells #[.bool com, .bool sec, .int .i64 ap, .int .i64 fl, .int .i64 ct, dv] 24)
  by_cases h1 : 0 ≤ ap
  · by_cases h2 : ap ≤ 2046
    · by_cases h3 : 0 ≤ ct
      · by_cases h4 : ct ≤ 16383
        · rw [show rng ap 0 ct = true from rng_iff.2 (by omega)]
          go_enter Try.func23, Try.ntmps23
          go_wp2
          go_ret
          exact ⟨ret_bool (by simp [h1, h2, h3, h4]), b1⟩
        · rw [show rng ap 0 ct = false from by rw [Bool.eq_false_iff]; exact fun h => by have := rng_iff.1 h; omega]
          go_enter Try.func23, Try.ntmps23
          go_wp2
          go_ret
          exact ⟨ret_bool (by simp), b1⟩
      · rw [show rng ap 0 ct = false from by rw [Bool.eq_false_iff]; exact fun h => by have := rng_iff.1 h; omega]
        go_enter Try.func23, Try.ntmps23
        go_wp2
        go_ret
        exact ⟨ret_bool (by simp), b1⟩
    · rw [show rng ap 0 ct = false from by rw [Bool.eq_false_iff]; exact fun h => by have := rng_iff.1 h; omega]
      go_enter Try.func23, Try.ntmps23
      go_wp2
      go_ret
      exact ⟨ret_bool (by simp), b1⟩
  · rw [show rng ap 0 ct = false from by rw [Bool.eq_false_iff]; exact fun h => by have := rng_iff.1 h; omega]
    go_enter Try.func23, Try.ntmps23
    go_wp2
    go_ret
    exact ⟨ret_bool (by simp), b1⟩

/-- the reference's Joiner as a value -/
def jv (M : Int) (b : Bool) (ap ct : Int) (v : Value) : Array Value := #[.int .i64 M, .bool b, .int .i64 ap, .int .i64 ct, v]
theorem new_results {tmps : Array Value} {W : World} {g : Nat} {M : Int} (h2 : tmps.getD 2 undef = .pointer (some ⟨g, 0, none⟩)) (hC : Cel W g 35 (jv M false 0 0 (.slice none 0 0))) :
    (results Try.f14 tmps).run Try.prog W = .ok (.agg (jv M false 0 0 (.slice none 0 0))) W := by
  have c0 := hC.cell 0
  have c1 := hC.cell 1
  have c2 := hC.cell 2
  have c3 := hC.cell 3
  have c4 := hC.cell 4
  simp [jv] at c0 c1 c2 c3 c4
  simp only [Array.getD_eq_getD_getElem?] at h2
  simp [results, Try.results14, go_sem, h2, c0, c1, c2, c3, c4, jv]
set_option maxHeartbeats 1000000 in
theorem xnew_any (n : Int) (w : World) :
    Calls Try.prog 14 #[.int .i64 n] w fun e w' => e = .returned (.agg (jv (max n 0) false 0 0 (.slice none 0 0))) ∧ Below w.heap.size w w' := by
  obtain ⟨M, hM⟩ : ∃ M, M = max n 0 := ⟨_, rfl⟩
  have hm0 : max n 0 = M := hM.symm
  have hm1 : (if n < 0 then (0 : Int) else n) = M := by split <;> omega
  rw [← hM]
  clear hM
  go_enter Try.func14, Try.ntmps14
  go_wp2
  exact bodyPost_ret (new_results rfl (Cel.new _ _ _)) rfl ⟨rfl, bel_new _ _⟩

set_option maxHeartbeats 2000000 in
theorem xsame_any (p : Pk) (a a' : Option Addr) (c c' : Nat) (w : World) (hb : Bs w w.heap.size a p.d) (hb' : Bs w w.heap.size a' p.d) (hn : a = none → c = 0) (hn' : a' = none → c' = 0) :
    Calls Try.prog 12 #[.agg #[.bool p.com, .bool p.sec, .int .i64 p.ap, .int .i64 p.fl, .int .i64 p.ct, .slice a p.d.length c], .agg #[.bool p.com, .bool p.sec, .int .i64 p.ap, .int .i64 p.fl, .int .i64 p.ct, .slice a' p.d.length c']] w fun e w' => e = .returned (.bool true) ∧ Below w.heap.size w w' := by
  obtain ⟨com, sec, ap, fl, ct, l⟩ := p
  simp only at hb hb' ⊢
  have b1 := bel_new w (.cells #[.bool com, .bool sec, .int .i64 ap, .int .i64 fl, .int .i64 ct, .slice a l.length c] 24)
  have b2 := b1.alloc b1.size (.cells #[.bool com, .bool sec, .int .i64 ap, .int .i64 fl, .int .i64 ct, .slice a' l.length c'] 24)
  have s1 := run_str (P := Try.prog) _ is_bytes Try.underlying9 (hb.below b2) hn
  have s2 := run_str (P := Try.prog) _ is_bytes Try.underlying9 (hb'.below b2) hn'
  have e1 : (com == com) = true := by simp
  have e2 : (sec == sec) = true := by simp
  clear hb hb' hn hn'
  go_enter Try.func12, Try.ntmps12
  go_wp2
  go_ret
  exact ⟨ret_bool (by simp), b2⟩
end Go.Proofs.Ytfjmlgclgmcjcaa.Par
