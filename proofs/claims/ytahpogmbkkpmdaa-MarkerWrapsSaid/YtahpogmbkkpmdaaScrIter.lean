/-
  Package scramble: the closure of firstBytes calls the body with each byte of the sequence, in order.
-/
import Derived.RangeFuncNested
import Derived.RangeFuncBound
import Derived.RangeFuncCalls
import Derived.RangeFuncLeaves
import Derived.RangeFuncBox
import Derived.Shelf.Abstract
import Derived.Shelf.RegionOpen
import Derived.WalkKit
import Derived.OwnWalkIn
import Derived.TacticsInMore
import Derived.LoopNIn
import Derived.LoopIn
import Derived.BigRegionIn
import Derived.Sort.CutIn
import Derived.Test.YtahpogmbkkpmdaaScrW0
namespace Go.Proofs.Ytahpogmbkkpmdaa.Scr
open Go.RowKit Go.Shelf

attribute [local go_sem] Oper.semAt_some

/-- block b is as it was -/
def Kb (b : Nat) (A B : World) : Prop := B.heap[b]? = A.heap[b]?
section
variable {b : Nat} {A B C : World} {S : List Nat}
theorem Kb.refl : Kb b A A := rfl
theorem Kb.trans (h : Kb b A B) (k : Kb b B C) : Kb b A C := Eq.trans k h
theorem Kb.one (h : Kb b A B) (i : Nat) : B.cell? ⟨b, i, none⟩ = A.cell? ⟨b, i, none⟩ := by unfold World.cell?; simp only [show B.heap[b]? = A.heap[b]? from h]
theorem Kb.only (h : Only S A B) (h1 : b < A.heap.size) (n1 : b ∉ S) : Kb b A B := h.block _ h1 n1
theorem Kb_b {w : World} (h1 : b < w.heap.size) (W : World) (l : Nat) (o o' : Obj) (hl : w.heap.size ≤ l) (_ : W.heap[l]? = some o) (_ : o.isCells = false) (_ : o.isWalk = false) : Kb b W (W.putObj l o') :=
  World.putObj_heap_other (by omega)
end

set_option maxRecDepth 100000 in
set_option maxHeartbeats 2000000 in
/-- the closure, for every body that keeps its box -/
theorem bytes1_in (F : Fence) (n : Nat) (hF : ∀ k, F.fn k) (hro : F.round = none) (hn : 3 ≤ n)
    (hW : ∀ {f : FuncId} {args : Array Value} {w : World} {R : Ending → World → Prop} (n : Nat), Calls Try.prog f args w R → CallsIn F n Try.prog f args w R) (l Bn N : Nat) (m : Int) (hN : N = m.toNat) (hm : N ≤ 1099511627776)
    (W₀ : World) (J Jx : List (Fin N) → World → Prop)
    (hY : ∀ pre (x : Fin N) W, J pre W → pre.length < N → YieldAt F (n - 1) Try.prog l #[B8 (sq x.val)] W fun e W' =>
      (e = .returned (.bool true) ∧ J (pre ++ [x]) W' ∧ Kb Bn W W') ∨ (e = .returned (.bool false) ∧ Jx (pre ++ [x]) W'))
    (hcn : W₀.cell? ⟨Bn, 0, none⟩ = some (.int .i64 m)) (h0 : J [] W₀) :
    CallsIn F n Try.prog 30 #[.func (.yield l) #[] #[], .pointer (some ⟨Bn, 0, none⟩)] W₀ fun e W' => (∃ v, e = .returned v) ∧
      ((∃ ys, ys = List.finRange N ∧ J ys W') ∨ (∃ pre, Jx pre W')) := by
  refine callsIn_of_wp Try.func30 rfl (hF _) ?_ hro
  simp only [Try.ntmps30, List.size_toArray, List.length_cons, List.length_nil, Nat.reduceAdd, Nat.reduceSub, Array.replicate_succ, Array.replicate_zero, List.push_toArray, List.append_toArray, List.nil_append, List.cons_append]
  gi_wp2
  gi_loopw [3, 5] (fun t i wr => ∃ k : Nat, k ≤ N ∧ i = .int .i64 (k : Int) ∧ t = B8 (sq k) ∧ J ((List.finRange N).take k) wr)
    (fun _ i _ => N - (intOf i).toNat)
  case atStart => exact ⟨0, Nat.zero_le _, by simp, rfl, by simpa using h0⟩
  case round =>
    obtain ⟨k, hk, rfl, rfl, hJs⟩ := hrel
    by_cases hkN : k < N
    · have hlt : (k : Int) < m := by omega
      have hd : decide ((k : Int) < m) = true := by simpa using hlt
      obtain ⟨fn, tmps, assign, body, hy, hR⟩ := hY _ ⟨k, hkN⟩ wr hJs (by rw [List.length_take, List.length_finRange]; omega)
      have htk : (List.finRange N).take k ++ [⟨k, hkN⟩] = (List.finRange N).take (k + 1) := by
        rw [List.take_add_one, List.getElem?_eq_getElem (by rw [List.length_finRange]; exact hkN), List.getElem_finRange]; rfl
      obtain ⟨x, hx⟩ : ∃ x, sq k = x := ⟨_, rfl⟩
      have hs := sq_succ k
      simp only [hx] at hy hs ⊢
      have HS := Lib.hid hs
      clear hs hx hJs
      gi_wp2
      refine ⟨fun _ => by omega, hR.mono ?_⟩
      rintro e W3 (⟨rfl, hJ3, _⟩ | ⟨rfl, hJx3⟩)
      · gi_wp2_with fail
        refine ⟨fun _ => by omega, (hW (n - 1) (nextByte_any x _)).mono ?_⟩
        rintro e W4 ⟨rfl, rfl⟩
        gi_wp2
        go_roundw
        case rel => exact ⟨k + 1, hkN, by go_num, by rw [HS.out], by rw [← htk]; exact hJ3⟩
        case measure => simp [intOf]; omega
      · gi_wp2
        refine bodyPost_ret (results_none rfl _ _ _) rfl ?_
        exact ⟨⟨_, rfl⟩, .inr ⟨_, hJx3⟩⟩
    · obtain rfl : k = N := by omega
      have hlt : ¬ (k : Int) < m := by omega
      have hd : decide ((k : Int) < m) = false := by simpa using hlt
      gi_wp2
      go_end0
      exact ⟨⟨_, rfl⟩, .inl (by rw [List.take_of_length_le (by simp)] at hJs; exact hJs)⟩

theorem bytes_stops (F : Fence) (n : Nat) (hF : ∀ k, F.fn k) (hro : F.round = none) (hn : 3 ≤ n)
    (hW : ∀ {f : FuncId} {args : Array Value} {w : World} {R : Ending → World → Prop} (n : Nat), Calls Try.prog f args w R → CallsIn F n Try.prog f args w R) (Bn N : Nat) (m : Int) (hN : N = m.toNat) (hm : N ≤ 1099511627776)
    (w : World) (hBn : Bn < w.heap.size) (hcn : w.cell? ⟨Bn, 0, none⟩ = some (.int .i64 m)) :
    SeqStopsK F n Try.prog 30 #[.pointer (some ⟨Bn, 0, none⟩)] (fun x : Fin N => #[B8 (sq x.val)]) (Kb Bn) (fun ys => ys = List.finRange N) (fun _ => True) N w := fun l J Jx W hW' hJ _ hY h0 => by
  have hcn' := (hW'.cell (p := ⟨Bn, 0, none⟩) hBn).trans hcn
  refine (bytes1_in F n hF hro hn hW l Bn N m hN hm W J Jx hY hcn' h0).mono ?_
  rintro e W' ⟨he, h | ⟨pre, hj⟩⟩
  · exact ⟨he, .inl h⟩
  · exact ⟨he, .inr ⟨pre, trivial, hj⟩⟩
end Go.Proofs.Ytahpogmbkkpmdaa.Scr
