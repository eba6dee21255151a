/-
  Package files, the names of the laws: nn a i = the byte a, then the byte 33 + i; a store whose names are among some; the sum of the sizes, name by name. Mathematics, and the two words of a walk: the conversion of one byte, the sum of two strings.
-/
import Derived.Test.YtbeekfbcflmemaaFilH
namespace Go.Proofs.Ytbeekfbcflmemaa.Fil
open Go.RowKit

def ch (i : Nat) : UInt8 := UInt8.ofNat (33 + i)
def nn (a : UInt8) (i : Nat) : Nm := [a, ch i]
theorem ch_nat {i : Nat} (h : i ≤ 60) : (ch i).toNat = 33 + i := by
  show (33 + i) % 256 = _
  omega
theorem ch_inj {i j : Nat} (hi : i ≤ 60) (hj : j ≤ 60) (h : ch i = ch j) : i = j := by
  have := congrArg UInt8.toNat h
  rw [ch_nat hi, ch_nat hj] at this
  omega
theorem nn_inj {a : UInt8} {i j : Nat} (hi : i ≤ 60) (hj : j ≤ 60) (h : nn a i = nn a j) : i = j := ch_inj hi hj (by
  unfold nn at h
  simp only [List.cons.injEq, and_true, true_and] at h
  exact h)
theorem okN_nn {a : UInt8} (ha : nch a = true) {i : Nat} (hi : i ≤ 60) : okN (nn a i) = true := by
  have hc : nch (ch i) = true := decide_eq_true (by rw [ch_nat hi]; omega)
  unfold okN nn
  simp [ha, hc]
theorem nm_cat (a b : Nm) : nm a ++ nm b = nm (a ++ b) := by
  apply ByteArray.ext
  rw [ByteArray.data_append]
  simp [nm]
/-- 'string([]byte{byte(33 + i)})' -/
theorem conv_ch (W : World) (g : Nat) {i : Nat} (hi : i ≤ 60) (hc : Cel W g 5 #[.int .u8 (33 + (i : Int))]) :
    (convert 30 9 (.slice (some ⟨g, 0, none⟩) 1 1)).run Try.prog W = .ok (.string (nm [ch i])) W := by
  have h := run_str (P := Try.prog) (l := [(ch i).toBitVec]) (B := W.heap.size) W is_bytes Try.underlying9 (A := some ⟨g, 0, none⟩) (c := 1) (fun _ => ⟨g, 0, rfl, hc.lt, fun j x hx => by
    cases j with
    | zero =>
      injection hx with hx
      subst hx
      have := hc.cell 0
      rw [Nat.zero_add, this]
      show some (Value.int .u8 (33 + (i : Int))) = some (.int .u8 ((ch i).toNat : Int))
      rw [ch_nat hi]; rfl
    | succ j => simp at hx⟩) (fun h => by cases h)
  exact h

/-- what stands where n files have been put -/
structure Among (s : St) (a : UInt8) (i : Nat) : Prop where
  ok : s.Ok
  ns : ∀ p ∈ s.l, ∃ j, j < i ∧ p.1 = nn a j
theorem Among.none {s : St} {a : UInt8} {i : Nat} (h : Among s a i) (hi : i ≤ 60) : get (nn a i) s.l = none := by
  cases hg : get (nn a i) s.l with
  | none => rfl
  | some d =>
    obtain ⟨j, hj, e⟩ := h.ns _ (get_some hg)
    have := nn_inj (by omega) (by omega) e
    omega
theorem Among.next {s : St} {a : UInt8} {i : Nat} (h : Among s a i) (d : List Byte) : Among (puS s (nn a i) d) a (i + 1) := by
  refine ⟨h.ok.put _ _, fun p hp => ?_⟩
  unfold puS at hp
  split at hp
  · rcases mem_put.1 hp with rfl | hp
    · exact ⟨i, by omega, rfl⟩
    · obtain ⟨j, hj, e⟩ := h.ns p hp.1
      exact ⟨j, by omega, e⟩
  · obtain ⟨j, hj, e⟩ := h.ns p hp
    exact ⟨j, by omega, e⟩
theorem put_len {s : St} {x : Nm} (h : get x s.l = none) (d : List Byte) : (put x d s.l).length = s.l.length + 1 ∧ sz (put x d s.l) = sz s.l + d.length := by
  unfold put
  rw [del_same h, ins_len, sz_ins]
  exact ⟨rfl, rfl⟩

/-- the sizes, name by name -/
theorem sz_names : ∀ (NS : List Nm) {L : List F}, Srt L → NS.Nodup → (∀ p ∈ L, p.1 ∈ NS) → sz L = (NS.map fun x => ((get x L).getD []).length).sum
  | [], L, _, _, h => by
    have : L = [] := List.eq_nil_iff_forall_not_mem.2 fun p hp => by have := h p hp; cases this
    subst this; rfl
  | x :: NS, L, hs, hn, h => by
    obtain ⟨h1, h2⟩ := List.nodup_cons.1 hn
    have ih := sz_names NS (hs.del x) h2 (fun p hp => by
      have := mem_del.1 hp
      rcases List.mem_cons.1 (h p this.1) with e | e
      · exact absurd e this.2
      · exact e)
    have hd := sz_del (n := x) hs
    have hm : (NS.map fun y => ((get y (del x L)).getD []).length) = (NS.map fun y => ((get y L).getD []).length) := List.map_congr_left fun y hy => by
      rw [get_del_other hs (show y ≠ x from fun e => h1 (by rw [← e]; exact hy))]
    rw [hm] at ih
    rw [List.map_cons, List.sum_cons]
    omega
end Go.Proofs.Ytbeekfbcflmemaa.Fil
