/-
  slices.Chunk at a slice of bytes: its closure calls the body with each piece, in order.
-/
import Derived.RangeFuncNested
import Derived.RangeFuncBound
import Derived.RangeFuncCalls
import Derived.RangeFuncLeaves
import Derived.RangeFuncBox
import Derived.Shelf.Abstract
import Derived.Shelf.RegionOpen
import Derived.WalkKit
import Derived.OwnWalkIn
import Derived.TacticsInMore
import Derived.LoopNIn
import Derived.LoopIn
import Derived.BigRegionIn
import Derived.Sort.CutIn
import Derived.Test.YtfjmlgclgmcjcaaParW0
namespace Go.Proofs.Ytfjmlgclgmcjcaa.Par
open Go.RowKit Go.Shelf Go.Proofs.Ytfjmlgclgmcjcaa.Row
open Pac (Pk bel_new Cel.later Cel.within)

attribute [local go_sem] Oper.semAt_some

/-- piece number k of a slice of L bytes at b, off -/
def pv (b off L m k : Nat) : Value := .slice (some ⟨b, off + k * m, none⟩) (min m (L - k * m)) (min m (L - k * m))

/-- blocks b and b' are as they were -/
def Kb (b b' : Nat) (A B : World) : Prop := B.heap[b]? = A.heap[b]? ∧ B.heap[b']? = A.heap[b']?
section
variable {b b' : Nat} {A B C : World} {S : List Nat}
theorem Kb.refl : Kb b b' A A := ⟨rfl, rfl⟩
theorem Kb.trans (h : Kb b b' A B) (k : Kb b b' B C) : Kb b b' A C := ⟨k.1.trans h.1, k.2.trans h.2⟩
theorem Kb.one (h : Kb b b' A B) (i : Nat) : B.cell? ⟨b, i, none⟩ = A.cell? ⟨b, i, none⟩ := by unfold World.cell?; simp only [h.1]
theorem Kb.two (h : Kb b b' A B) (i : Nat) : B.cell? ⟨b', i, none⟩ = A.cell? ⟨b', i, none⟩ := by unfold World.cell?; simp only [h.2]
theorem Kb.only (h : Only S A B) (h1 : b < A.heap.size) (h2 : b' < A.heap.size) (n1 : b ∉ S) (n2 : b' ∉ S) : Kb b b' A B := ⟨h.block _ h1 n1, h.block _ h2 n2⟩
theorem Kb_b {w : World} (h1 : b < w.heap.size) (h2 : b' < w.heap.size) (W : World) (l : Nat) (o o' : Obj) (hl : w.heap.size ≤ l) (_ : W.heap[l]? = some o) (_ : o.isCells = false) (_ : o.isWalk = false) : Kb b b' W (W.putObj l o') :=
  ⟨World.putObj_heap_other (by omega), World.putObj_heap_other (by omega)⟩
end

set_option maxRecDepth 100000 in
set_option maxHeartbeats 4000000 in
/-- slices.Chunk's closure, for every body that keeps its two boxes -/
theorem chunk1_in (F : Fence) (n : Nat) (hf : F.fn 27) (hro : F.round = none) (hn : 1 ≤ n) (l Bs Bn b off L cap m N : Nat) (hN : N = num L m) (hm : 0 < m) (hm2 : m ≤ 1000000) (hL : L ≤ 1099511627776) (hcap : L ≤ cap)
    (W₀ : World) (J Jx : List (Fin N) → World → Prop) (hJd : ∀ pre W, J pre W → J pre W.drew)
    (hY : ∀ pre (x : Fin N) W, J pre W → pre.length < N → YieldAt F (n - 1) Try.prog l #[pv b off L m x.val] W fun e W' =>
      (e = .returned (.bool true) ∧ J (pre ++ [x]) W' ∧ Kb Bs Bn W W') ∨ (e = .returned (.bool false) ∧ Jx (pre ++ [x]) W'))
    (hcs : W₀.cell? ⟨Bs, 0, none⟩ = some (.slice (some ⟨b, off, none⟩) L cap)) (hcn : W₀.cell? ⟨Bn, 0, none⟩ = some (.int .i64 (m : Int))) (h0 : J [] W₀) :
    CallsIn F n Try.prog 27 #[.func (.yield l) #[] #[], .pointer (some ⟨Bs, 0, none⟩), .pointer (some ⟨Bn, 0, none⟩)] W₀ fun e W' => (∃ v, e = .returned v) ∧
      ((∃ ys, ys = List.finRange N ∧ J ys W') ∨ (∃ pre, Jx pre W')) := by
  refine callsIn_of_wp Try.func27 rfl hf ?_ hro
  simp only [Try.ntmps27, List.size_toArray, List.length_cons, List.length_nil, Nat.reduceAdd, Nat.reduceSub, Array.replicate_succ, Array.replicate_zero, List.push_toArray, List.append_toArray, List.nil_append, List.cons_append]
  gi_wp2
  gi_loopw [4] (fun i wr => ∃ k : Nat, k ≤ N ∧ i = .int .i64 ((k * m : Nat) : Int) ∧ J ((List.finRange N).take k) wr ∧ Kb Bs Bn W₀ wr)
    (fun i _ => L + m - (intOf i).toNat)
  case atStart => exact ⟨0, Nat.zero_le _, by simp, by simpa using h0, Kb.refl⟩
  case round =>
    obtain ⟨k, hk, rfl, hJs, hnx⟩ := hrel
    have c1 := (hnx.one 0).trans hcs
    have c2 := (hnx.two 0).trans hcn
    have hlt := num_lt (L := L) (k := k) hm
    rw [← hN] at hlt
    obtain ⟨I, hI⟩ : ∃ I, I = k * m := ⟨_, rfl⟩
    have hI2 : I + m = (k + 1) * m := by rw [hI, Nat.succ_mul]
    rw [← hI] at hlt ⊢
    by_cases hIL : I < L
    · have hkN := hlt.2 hIL
      obtain ⟨fn, tmps, assign, body, hy, hR⟩ := hY _ ⟨k, hkN⟩ wr.drew (hJd _ _ hJs) (by rw [List.length_take, List.length_finRange]; omega)
      unfold pv at hy
      simp only [← hI] at hy
      obtain ⟨E, hE⟩ : ∃ E, E = min m (L - I) := ⟨_, rfl⟩
      rw [← hE] at hy
      have htk : (List.finRange N).take k ++ [⟨k, hkN⟩] = (List.finRange N).take (k + 1) := by
        rw [List.take_add_one, List.getElem?_eq_getElem (by rw [List.length_finRange]; exact hkN), List.getElem_finRange]; rfl
      have HI := Lib.hid (And.intro hI hI2)
      have hE1 : E ≤ m := by omega
      have hE2 : I + E ≤ L := by omega
      have hE0 : 0 < E := by omega
      have hc0 : cap ≠ I := by omega
      have hIc : (I : Int) ≤ (cap : Int) := by omega
      have hIL' : (I : Int) < (L : Int) := by omega
      have e1 : min (m : Int) (((L - I : Nat) : Int)) = (E : Int) := by omega
      have e2 : (if ((L - I : Nat) : Int) < (m : Int) then ((L - I : Nat) : Int) else (m : Int)) = (E : Int) := by split <;> omega
      have e3 : (if L - I < m then ((L - I : Nat) : Int) else (m : Int)) = (E : Int) := by split <;> omega
      have z1 : 0 ≤ (I : Int) := by omega
      have z2 : (0 ≤ (I : Int) ∧ (I : Int) ≤ (cap : Int)) := by omega
      have z3 : ((I : Int)).toNat = I := by omega
      have z4 : I ≤ cap := by omega
      obtain ⟨T, hT⟩ : ∃ T, T = I + E := ⟨_, rfl⟩
      have r1 : (I : Int) + (E : Int) = (T : Int) := by omega
      have r2 : T - I = E := by omega
      have r3 : (T : Int) ≤ (cap : Int) := by omega
      have r4 : I ≤ T := by omega
      have r5 : (I : Int) ≤ (T : Int) := by omega
      have r6 : T ≤ 1099511627776 := by omega
      have r7 : ((T : Int)).toNat = T := by omega
      have r8 : T ≤ cap := by omega
      have HE := Lib.hid (And.intro hE hT)
      clear hE hI hI2 hlt hJs hE2 hT
      gi_wp2
      gi_cut [5] from 6 (fun s5 wx => s5 = .int .i64 (E : Int) ∧ wx = wr.drew)
      case first =>
        gi_region
        all_goals
          gi_wp2_with fail
          gi_meet
          exact ⟨rfl, rfl⟩
      case rest =>
        obtain ⟨rfl, rfl⟩ := hcut
        gi_wp2
        refine hR.mono ?_
        have hb1 : Kb Bs Bn W₀ wr.drew := hnx.trans ⟨rfl, rfl⟩
        obtain ⟨U, hU⟩ : ∃ U, U = I + m := ⟨_, rfl⟩
        have u1 : (I : Int) + (m : Int) = (U : Int) := by omega
        have u2 : U ≤ 1099512627776 := by omega
        have HU := Lib.hid hU
        clear hU hR hy
        rintro e W3 (⟨rfl, hJ3, hk3⟩ | ⟨rfl, hJx3⟩)
        · have hb3 := hb1.trans hk3
          have d2 := (hb3.two 0).trans hcn
          clear c1 c2
          gi_wp2
          go_roundw
          case rel => exact ⟨k + 1, hkN, by rw [HU.out, HI.out.2], by rw [← htk]; exact hJ3, hb3⟩
          case measure => simp [intOf]; have := HU.out; omega
        · gi_wp2
          refine bodyPost_ret (results_none rfl _ _ _) rfl ?_
          exact ⟨⟨_, rfl⟩, .inr ⟨_, hJx3⟩⟩
    · obtain rfl : k = N := by have := not_congr hlt; omega
      have HI := Lib.hid (And.intro hI hI2)
      clear hI hI2 hlt
      gi_wp2
      go_end0
      exact ⟨⟨_, rfl⟩, .inl ⟨_, rfl, by rw [List.take_of_length_le (by simp)] at hJs; exact hJs⟩⟩

theorem chunk_stops (F : Fence) (n : Nat) (hf : F.fn 27) (hro : F.round = none) (hn : 1 ≤ n) (Bs Bn b off L cap m N : Nat) (hN : N = num L m) (hm : 0 < m) (hm2 : m ≤ 1000000) (hL : L ≤ 1099511627776) (hcap : L ≤ cap)
    (w : World) (hBs : Bs < w.heap.size) (hBn : Bn < w.heap.size) (hcs : w.cell? ⟨Bs, 0, none⟩ = some (.slice (some ⟨b, off, none⟩) L cap)) (hcn : w.cell? ⟨Bn, 0, none⟩ = some (.int .i64 (m : Int))) :
    SeqStopsK F n Try.prog 27 #[.pointer (some ⟨Bs, 0, none⟩), .pointer (some ⟨Bn, 0, none⟩)] (fun x : Fin N => #[pv b off L m x.val]) (Kb Bs Bn) (fun ys => ys = List.finRange N) (fun _ => True) N w := fun l J Jx W hW hJ _ hY h0 => by
  have hcs' := (hW.cell (p := ⟨Bs, 0, none⟩) hBs).trans hcs
  have hcn' := (hW.cell (p := ⟨Bn, 0, none⟩) hBn).trans hcn
  refine (chunk1_in F n hf hro hn l Bs Bn b off L cap m N hN hm hm2 hL hcap W J Jx (fun pre W1 hj => hJ pre W1 _ none hj ⟨rfl, rfl, rfl, Nat.le_refl _, fun _ _ _ => rfl⟩ (fun r e => by cases e)) hY hcs' hcn' h0).mono ?_
  rintro e W' ⟨he, h | ⟨pre, hj⟩⟩
  · exact ⟨he, .inl h⟩
  · exact ⟨he, .inr ⟨pre, trivial, hj⟩⟩

set_option maxHeartbeats 1000000 in
theorem chunk_any (A : Option Addr) (len cap : Nat) (m : Int) (hm : decide (m < 1) = false) (w : World) :
    Calls Try.prog 20 #[.slice A len cap, .int .i64 m] w fun e w' => e = .returned (.func (.func 27) #[] #[.pointer (some ⟨w.heap.size, 0, none⟩), .pointer (some ⟨w.heap.size + 1, 0, none⟩)]) ∧
      w' = (w.alloc (.cells #[.slice A len cap] 22)).alloc (.cells #[.int .i64 m] 3) := by
  go_enter Try.func20, Try.ntmps20
  go_wp2
  go_ret
  exact ⟨by simp, rfl⟩
end Go.Proofs.Ytfjmlgclgmcjcaa.Par
