/-
  Package pdu: the deferred closure of Decode (it recovers the panic of a malformed field).
-/
import Derived.Test.YtjjfamkljcipgaaPduU
import Derived.Defers
import Derived.Recover
import Derived.Laws.Pointers
namespace Go.Proofs.Ytjjfamkljcipgaa.Pdu
open Go.RowKit Go.Proofs.Ytjjfamkljcipgaa.Row

set_option maxRecDepth 100000 in
set_option maxHeartbeats 2000000 in
theorem catch_panic (p q : Nat) (older : List PanicEntry) (w : World) {x0 x1 x2 x3 x4 x5 x6 x7 x8 x9 x10 y : Value} (hp : Cel w p 29 #[x0, x1, x2, x3, x4, x5, x6, x7, x8, x9, x10]) (hq : Cel w q 26 #[y]) (hne : p ≠ q) :
    CallsD Try.prog 36 #[.pointer (some ⟨p, 0, none⟩), .pointer (some ⟨q, 0, none⟩)] (.panicking ({ v := .iface 77 (.agg #[]), recovered := false } :: older)) w fun e u' w' =>
      e = .returned (.tuple #[]) ∧ u' = .panicking ({ v := .iface 77 (.agg #[]), recovered := true } :: older) ∧ w' = (put11 w p (I 0) (I 0) (I 0) (I 0) (.string ⟨#[]⟩) (I 0) (I 0) (.slice none 0 0) (.int .u32 0) (I 0) (.slice none 0 0)).setCell ⟨q, 0, none⟩ (I 4) := by
  have c0 := hp.cell 0
  have f0 := hp.free 0
  have c1 := hp.cell 1
  have f1 := hp.free 1
  have c2 := hp.cell 2
  have f2 := hp.free 2
  have c3 := hp.cell 3
  have f3 := hp.free 3
  have c4 := hp.cell 4
  have f4 := hp.free 4
  have c5 := hp.cell 5
  have f5 := hp.free 5
  have c6 := hp.cell 6
  have f6 := hp.free 6
  have c7 := hp.cell 7
  have f7 := hp.free 7
  have c8 := hp.cell 8
  have f8 := hp.free 8
  have c9 := hp.cell 9
  have f9 := hp.free 9
  have c10 := hp.cell 10
  have f10 := hp.free 10
  have d0 := hq.cell 0
  have g0 := hq.free 0
  simp only [List.getElem?_toArray, List.getElem?_cons_zero, List.getElem?_cons_succ] at c0 c1 c2 c3 c4 c5 c6 c7 c8 c9 c10 d0
  refine callsD_of_wpS Try.func36 rfl fun c₀ cs hu => ?_
  apply wpS_seq
  apply wpS_region
  simp [wpOpsS, go_sem, recoverD, hu, Try.ntmps36, Exit.thenS]
  refine wpS_cond (t := true) (by simp [Act.eval, Array.replicate]) ?_
  simp only [if_true]
  refine wpS_of_wp ?_
  simp only [show (#[Value.pointer (some ⟨p, 0, none⟩), Value.pointer (some ⟨q, 0, none⟩)] ++ ((Array.replicate 3 undef).setIfInBounds 0 (Value.iface 77 (Value.agg #[]))).setIfInBounds 1 (Value.bool true)) = #[Value.pointer (some ⟨p, 0, none⟩), Value.pointer (some ⟨q, 0, none⟩), Value.iface 77 (Value.agg #[]), Value.bool true, undef] from rfl]
  go_wp2
  exact ⟨rfl, _, rfl, _, results_none rfl _ _ _, rfl, rfl, rfl⟩
theorem catch_idle (p q : Addr) (w : World) :
    CallsD Try.prog 36 #[.pointer (some p), .pointer (some q)] .returning w fun e u' w' => e = .returned (.tuple #[]) ∧ u' = .returning ∧ w' = w := by
  refine callsD_of_wpS Try.func36 rfl fun c₀ cs hu => ?_
  apply wpS_seq
  apply wpS_region
  simp [wpOpsS, go_sem, recoverD, hu, Try.ntmps36, Exit.thenS]
  refine wpS_cond (t := false) (by simp [Act.eval, Array.replicate]) ?_
  simp only [Bool.false_eq_true, if_false]
  refine wpS_of_wp (wp_skip ?_)
  cases c₀
  simp_all [bodyPostS, results, Try.results36]
end Go.Proofs.Ytjjfamkljcipgaa.Pdu
