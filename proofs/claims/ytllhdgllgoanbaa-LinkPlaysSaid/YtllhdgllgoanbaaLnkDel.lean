/-
  Package link: slices.Delete of the first transmissions.
-/
import Derived.Shelf.Abstract
import Derived.Shelf.RegionOpenPlain
import Derived.WalkKit
import Derived.Deep.LoopGhost
import Derived.Deep.RegionLaw
import Derived.Lib.Walk
import Derived.Test.YtllhdgllgoanbaaLnkH
import Derived.Test.YtllhdgllgoanbaaRowK
namespace Go.Proofs.Ytllhdgllgoanbaa.Lnk
open Go.RowKit Go.Shelf Go.Proofs.Ytllhdgllgoanbaa.Row

theorem zc2 (n : Nat) : (Builtin.zeroCells #[I 0, .slice none 0 0] n).toList.length = n * 2 ∧ ∀ u ∈ (Builtin.zeroCells #[I 0, .slice none 0 0] n).toList, u.oneCell' = true := by
  constructor
  · simp [Builtin.zeroCells]
  · intro u hu
    simp only [Builtin.zeroCells, Array.toList_map, List.mem_map] at hu
    obtain ⟨i, _, rfl⟩ := hu
    have h : i % (#[I 0, Value.slice none 0 0] : Array Value).size = 0 ∨ i % (#[I 0, Value.slice none 0 0] : Array Value).size = 1 := by
      show i % 2 = 0 ∨ i % 2 = 1
      omega
    rcases h with h | h <;> rw [h] <;> rfl
theorem run_clearG {P : Program} (w : World) (tS ty elem : TypeId) (z : Value) (g o n c : Nat) (cur : List Value) (t : TypeId)
    (hu : P.underlying tS = some (.slice elem)) (hv : ∀ w, (zeroValue elem).run P w = .ok z w) (hz : z.cells = #[I 0, .slice none 0 0])
    (hg : Cel w g t cur.toArray) (hfit : o + (Builtin.zeroCells #[I 0, .slice none 0 0] n).toList.length ≤ cur.length) (h1 : ∀ u ∈ (Builtin.zeroCells #[I 0, .slice none 0 0] n).toList, u.oneCell' = true) (hn : 1 ≤ n) :
    (Builtin.clear_ #[tS] ty #[.slice (some ⟨g, o, none⟩) n c]).run P w = .ok (.tuple #[]) (w.setRow g (splice cur o (Builtin.zeroCells #[I 0, .slice none 0 0] n).toList).toArray) := by
  have hst := run_storeCells_at P g o t (Builtin.zeroCells #[I 0, .slice none 0 0] n).toList 0 cur.toArray w hg (by simpa using hfit) h1
  obtain ⟨Z, hZ⟩ : ∃ Z, Z = (Builtin.zeroCells #[I 0, .slice none 0 0] n).toList := ⟨_, rfl⟩
  rw [← hZ] at hst ⊢
  have esp : splice cur o Z = cur.take (o + 0) ++ Z ++ cur.drop (o + 0 + Z.length) := by simp [splice]
  rw [esp]
  obtain ⟨k, rfl⟩ : ∃ k, n = k + 1 := ⟨n - 1, by omega⟩
  simp [Builtin.clear_, run_underlying hu, hv, hz, ← hZ, hst]

set_option maxHeartbeats 4000000 in
set_option maxRecDepth 100000 in
theorem tdel_any (EX FB : List Tq) (n : Nat) (w : World) (base : Nat) (v : Value) (hn : EX.length = n) (h1 : 1 ≤ n) (h : Row.Os encT 2 w base 71 v (EX ++ FB)) (hl : (EX ++ FB).length ≤ 1000000) :
    Calls Try.prog 31 #[v, .int .i64 0, .int .i64 (n : Int)] w fun e w' => ∃ v', e = .returned v' ∧ Row.Os encT 2 w' base 71 v' FB ∧ v'.ownBlock = v.ownBlock ∧ Only v.ownBlock.toList w w' := by
  obtain ⟨g, c, rfl, hb, hcl, sp, hg, hs, hm⟩ := h.row (by rw [List.length_append]; omega)
  clear h
  obtain ⟨m, hmm⟩ : ∃ m, m = FB.length := ⟨_, rfl⟩
  have hnm : (EX ++ FB).length = n + m := by rw [List.length_append]; omega
  rw [hnm] at hs hl hcl ⊢
  obtain ⟨SE, hSE⟩ : ∃ SE, SE = Row.flat encT EX := ⟨_, rfl⟩
  obtain ⟨SF, hSF⟩ : ∃ SF, SF = Row.flat encT FB := ⟨_, rfl⟩
  have hlE : SE.length = n * 2 := by rw [hSE, Row.flat_length encT_ok, hn]
  have hlF : SF.length = m * 2 := by rw [hSF, Row.flat_length encT_ok, ← hmm]
  have h1F : ∀ u ∈ SF, u.oneCell' = true := by rw [hSF]; exact Row.flat_one encT_ok _
  rw [Row.flat_append, ← hSE, ← hSF, List.append_assoc] at hg
  obtain ⟨Z, hZ⟩ : ∃ Z, Z = (Builtin.zeroCells #[I 0, .slice none 0 0] n).toList := ⟨_, rfl⟩
  have hZl : Z.length = n * 2 := by rw [hZ]; exact (zc2 n).1
  have hZ1 : ∀ u ∈ Z, u.oneCell' = true := by rw [hZ]; exact (zc2 n).2
  obtain ⟨sp', hY, hsp'⟩ := Row.splice_delete [] SE SF sp Z (by rw [hZl, hlE])
  simp only [List.nil_append, List.length_nil] at hY
  rw [hlF] at hY
  obtain ⟨X0, hX0⟩ : ∃ X0, X0 = SE ++ (SF ++ sp) := ⟨_, rfl⟩
  have hXl : X0.length = (n + m) * 2 + sp.length := by rw [hX0]; simp only [List.length_append, hlE, hlF]; omega
  have hXB : ∀ j u, SF[j]? = some u → X0[n * 2 + j]? = some u := fun j u hu => by
    have hj := (List.getElem?_eq_some_iff.1 hu).1
    rw [hX0, List.getElem?_append_right (by rw [hlE]; omega), hlE, show n * 2 + j - n * 2 = j by omega, List.getElem?_append_left hj, hu]
  rw [← hX0] at hg hY
  obtain ⟨Y1, hY1⟩ : ∃ Y1, Y1 = splice X0 0 SF := ⟨_, rfl⟩
  rw [← hY1] at hY
  have hYl : Y1.length = X0.length := by rw [hY1]; exact length_splice _ _ _ (by rw [hlF]; omega)
  obtain ⟨A, hA, hsrc⟩ : ∃ A : Addr, (if c = n then (some (⟨g, 0, none⟩ : Addr)) else some ⟨g, n * 2, none⟩) = some A ∧ Hid (∀ j u, SF[j]? = some u → w.drew.cell? (A.add j) = some u) := by
    by_cases hc : c = n
    · refine ⟨⟨g, 0, none⟩, by simp [hc], Lib.hid fun j u hu => ?_⟩
      have := (List.getElem?_eq_some_iff.1 hu).1
      rw [hlF] at this; omega
    · refine ⟨⟨g, n * 2, none⟩, by simp [hc], Lib.hid fun j u hu => ?_⟩
      rw [Addr.add_lit]
      have := hg.cell (n * 2 + j)
      rw [List.getElem?_toArray, hXB j u hu] at this
      exact this
  obtain ⟨W1, hW1⟩ : ∃ W1, W1 = w.drew.setRow g Y1.toArray := ⟨_, rfl⟩
  have hg1 : Cel W1 g 71 Y1.toArray := by rw [hW1]; exact Row.Cel_row (hg.draws 1) Y1
  have hap : ∀ ty c', (Builtin.append_ #[59, 59] ty #[.slice (some ⟨g, 0, none⟩) 0 c, .slice (some A) m c']).run Try.prog w.drew = .ok (.slice (some ⟨g, 0, none⟩) m c) W1 := fun ty c' => by
    rw [hW1, hY1]
    have := Row.run_appendK w.drew _ ty 71 2 g 0 c A m c' m X0 71 SF Try.underlying59 (by obtain ⟨_, _, i, h0, h1, h2, h3⟩ := is_trans; rw [h0]; simp [h2]) (hg.draws 1) hlF hsrc.out (by omega) (by omega) (by rw [hlF]; omega) h1F
    rw [Nat.zero_mul] at this
    exact this
  have hcl : ∀ ty c', (Builtin.clear_ #[59] ty #[.slice (some ⟨g, m * 2, none⟩) n c']).run Try.prog W1 = .ok (.tuple #[]) (W1.setRow g (splice Y1 (m * 2) Z).toArray) := fun ty c' => by
    rw [hZ]
    exact run_clearG W1 _ ty 71 (.agg #[I 0, .slice none 0 0]) g (m * 2) n c' Y1 71 Try.underlying59 Try.zeroValue71 rfl hg1 (by rw [hYl, hXl]; have := (zc2 n).1; omega) (zc2 n).2 h1
  have hfin : Row.Os encT 2 (W1.setRow g (splice Y1 (m * 2) Z).toArray) base 71 (.slice (some ⟨g, 0, none⟩) m c) FB ∧ Only [g] w (W1.setRow g (splice Y1 (m * 2) Z).toArray) := by
    constructor
    · have : Row.Rw encT 2 (W1.setRow g (splice Y1 (m * 2) Z).toArray) 71 g c FB := ⟨sp', by rw [← hSF, ← hY]; exact Row.Cel_row hg1 _, by rw [hsp', hlE]; omega, hm⟩
      have := this.os encT_ok hb (by omega)
      rwa [← hmm] at this
    · rw [hW1]
      exact Row.Only_row (Row.Only_row ((Only.refl [g] w).drew) (.inl (by simp)) _) (.inl (by simp)) _
  obtain ⟨W2, hW2⟩ : ∃ W2, W2 = W1.setRow g (splice Y1 (m * 2) Z).toArray := ⟨_, rfl⟩
  rw [← hW2] at hcl hfin
  have hcb : n + m ≤ c := by omega
  have HF := Lib.hid hfin
  have hbig : c ≤ 9223372036854775807 := by simp only [maxLen] at hm; omega
  have z0 : decide ((0 : Int) = (n : Int)) = false := by simp; omega
  have z1 : decide (0 = n) = false := by simp; omega
  have hck : c ≠ m := by omega
  have hkc1 : n ≤ c := by omega
  have hkc2 : (n : Int) ≤ (c : Int) := by omega
  have hkm : n + m - n = m := by omega
  have hkk : (n : Int) ≤ (n : Int) + (m : Int) := by omega
  have hq0 : n ≤ n + m := by omega
  have hq1 : (m : Int) ≤ (n : Int) + (m : Int) := by omega
  have hq2 : (n : Int) + (m : Int) ≤ (c : Int) := by omega
  have hq3 : ((n : Int) + (m : Int)).toNat = n + m := by omega
  have hq5 : m ≤ n + m := by omega
  have hq6 : (0 : Int) ≤ (n : Int) + (m : Int) := by omega
  have mixed : Try.prog.follows Departure.mixedOrders = true := by kernel_rfl
  clear hmm hn
  clear hfin hW2 hW1 hg1 hsrc hY hY1 hX0 hXl hXB hYl hs hlE hlF hsp' hg hnm hm hSE hSF h1F hZ hZl hZ1
  go_enter Try.func31, Try.ntmps31
  go_wp2_with fail
  go_region_law (refine Row.step_appendK _ rfl (.tmp 22) (.tmp 25) 59 59 rfl (.slice (some ⟨g, 0, none⟩) 0 c) (.slice (some A) m (c - n)) (by simp [Act.eval, Act.put]) (by simp [Act.eval, Act.put]) (hap _ (c - n)) ?_)
  go_wp2
  go_ret
  exact ⟨_, rfl, HF.out.1, rfl, HF.out.2⟩
theorem tdel_zero (w : World) (A : Option Addr) (m c : Nat) (hc : m ≤ c) (hm : c ≤ maxLen) :
    Calls Try.prog 31 #[.slice A m c, .int .i64 0, .int .i64 0] w fun e w' => e = .returned (.slice A m c) ∧ w = w' := by
  have hbig : c ≤ 9223372036854775807 := by simp only [maxLen] at hm; omega
  have hq0 : (m : Int) ≤ (c : Int) := by omega
  have hq6 : (0 : Int) ≤ (m : Int) := by omega
  have z0 : ((0 : Int) == 0) = true := rfl
  go_enter Try.func31, Try.ntmps31
  go_wp2
  go_ret
  exact ⟨rfl, rfl⟩
theorem tdel_n (ts : List Tq) (k : Nat) (w : World) (base : Nat) (v : Value) (hk : k ≤ ts.length) (h : Row.Os encT 2 w base 71 v ts) (hl : ts.length ≤ 1000000) :
    Calls Try.prog 31 #[v, .int .i64 0, .int .i64 (k : Int)] w fun e w' => ∃ v', e = .returned v' ∧ Row.Os encT 2 w' base 71 v' (ts.drop k) ∧ v'.ownBlock = v.ownBlock ∧ Only v.ownBlock.toList w w' := by
  rcases Nat.eq_zero_or_pos k with rfl | h0
  · obtain ⟨A, c, rfl, _, _, hc, hm⟩ := h.reads encT_ok
    refine (tdel_zero w A ts.length c hc hm).mono ?_
    rintro e w' ⟨rfl, rfl⟩
    exact ⟨_, rfl, h, rfl, Only.refl _ _⟩
  · have e := List.take_append_drop k ts
    refine tdel_any (ts.take k) (ts.drop k) k w base v (by rw [List.length_take]; omega) h0 (by rw [e]; exact h) (by rw [e]; exact hl)
end Go.Proofs.Ytllhdgllgoanbaa.Lnk
