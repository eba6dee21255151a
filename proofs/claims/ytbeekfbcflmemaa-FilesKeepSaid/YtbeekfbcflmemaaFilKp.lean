/-
  The mathematics of the law FilesKeep: the store while the files are put (K1), behind the change of another one (K2), the sum of the sizes that are read back.
-/
import Derived.Test.YtbeekfbcflmemaaFilNm
namespace Go.Proofs.Ytbeekfbcflmemaa.Fil
open Go.RowKit

/-- behind i Puts -/
structure K1 (s : St) (l : List (List Byte)) (i : Nat) : Prop where
  am : Among s 102 i
  m : s.most = 64
  r : s.room = 10000
  n : s.l.length = i
  z : sz s.l ≤ 100 * i
  g : ∀ j, j < i → ∀ d, l[j]? = some d → get (nn 102 j) s.l = some d
theorem K1.new (l : List (List Byte)) : K1 (s0 64 10000) l 0 := ⟨⟨s0_ok _ _, by simp [s0]⟩, by rfl, by rfl, rfl, by simp [s0, sz], fun j hj => by omega⟩
theorem okf {i : Nat} (hi : i ≤ 60) : okN (nn 102 i) = true := okN_nn (by decide) hi
theorem K1.step {s : St} {l : List (List Byte)} {i : Nat} (h : K1 s l i) (hi : i ≤ 40) {d : List Byte} (hd : l[i]? = some d) (hl : d.length ≤ 100) : puE s (nn 102 i) d = 0 ∧ K1 (puS s (nn 102 i) d) l (i + 1) := by
  have hn := h.am.none (by omega)
  have h0 : puE s (nn 102 i) d = 0 := by
    unfold puE
    rw [if_pos (okf (by omega)), if_neg (by omega), fits_ref h.am.ok, del_same hn, decide_eq_false (show ¬ s.most ≤ s.l.length by rw [h.m, h.n]; omega), decide_eq_true (show sz s.l + d.length ≤ s.room by rw [h.r]; have := h.z; omega)]
    rfl
  have hp := put_len hn d
  have e : puS s (nn 102 i) d = ⟨s.most, s.room, Fil.put (nn 102 i) d s.l⟩ := by unfold puS; rw [if_pos h0]
  have ha := h.am.next d
  rw [e] at ha ⊢
  refine ⟨h0, ha, h.m, h.r, by rw [hp.1, h.n], by show sz (put (nn 102 i) d s.l) ≤ _; rw [hp.2]; have := h.z; omega, fun j hj d2 hd2 => ?_⟩
  by_cases hji : j = i
  · subst hji
    rw [hd] at hd2
    injection hd2 with hd2
    rw [← hd2]
    exact get_put h.am.ok.srt _ _
  · show get (nn 102 j) (put (nn 102 i) d s.l) = some d2
    rw [get_put_other h.am.ok.srt d (fun e => hji (nn_inj (by omega) (by omega) e))]
    exact h.g j (by omega) d2 hd2

/-- behind the change of file k: o >= 128 Delete, else Put of data -/
structure K2 (s : St) (l : List (List Byte)) (n k o : Nat) (data : List Byte) : Prop where
  ok : s.Ok
  r : s.room = 10000
  oth : ∀ j, j < n → j ≠ k → ∀ d, l[j]? = some d → get (nn 102 j) s.l = some d
  at_ : get (nn 102 k) s.l = if 128 ≤ o then none else some data
  ns : ∀ p ∈ s.l, (∃ j, j < n ∧ p.1 = nn 102 j) ∨ p.1 = nn 102 k
theorem K1.dele {s : St} {l : List (List Byte)} {n : Nat} (h : K1 s l n) (hn : n ≤ 40) {k o : Nat} (hk : k ≤ 40) (ho : 128 ≤ o) (data : List Byte) : K2 (deS s (nn 102 k)) l n k o data := by
  have e : (deS s (nn 102 k)).room = s.room ∧ (deS s (nn 102 k)).l = del (nn 102 k) s.l := by
    unfold deS
    split
    · exact ⟨rfl, rfl⟩
    · rename_i h0
      unfold geE at h0
      rw [if_pos (okf (by omega))] at h0
      cases hg : get (nn 102 k) s.l with
      | none => exact ⟨rfl, (del_same hg).symm⟩
      | some d => rw [hg] at h0; simp at h0
  refine ⟨h.am.ok.dele _, by rw [e.1, h.r], fun j hj hjk d hd => ?_, ?_, fun p hp => ?_⟩
  · rw [e.2, get_del_other h.am.ok.srt (fun e => hjk (nn_inj (by omega) (by omega) e))]
    exact h.g j hj d hd
  · rw [e.2, del_none, if_pos ho]
  · rw [e.2] at hp
    obtain ⟨j, hj, e⟩ := h.am.ns p (mem_del.1 hp).1
    exact .inl ⟨j, hj, e⟩
theorem K1.puts {s : St} {l : List (List Byte)} {n : Nat} (h : K1 s l n) (hn : n ≤ 40) {k o : Nat} (hk : k ≤ 40) (ho : ¬ 128 ≤ o) {data : List Byte} (hd : data.length ≤ 100) : K2 (puS s (nn 102 k) data) l n k o data := by
  have h0 : puE s (nn 102 k) data = 0 := by
    unfold puE
    have h1 := del_len (n := nn 102 k) h.am.ok.srt
    have h2 := sz_del (n := nn 102 k) h.am.ok.srt
    have h3 := h.z
    have h4 := h.n
    rw [if_pos (okf (by omega)), if_neg (by omega), fits_ref h.am.ok, decide_eq_false (show ¬ s.most ≤ (del (nn 102 k) s.l).length by rw [h.m]; omega), decide_eq_true (show sz (del (nn 102 k) s.l) + data.length ≤ s.room by rw [h.r]; omega)]
    rfl
  have e : puS s (nn 102 k) data = ⟨s.most, s.room, Fil.put (nn 102 k) data s.l⟩ := by unfold puS; rw [if_pos h0]
  have hok := h.am.ok.put (nn 102 k) data
  rw [e] at hok ⊢
  refine ⟨hok, h.r, fun j hj hjk d hd => ?_, ?_, fun p hp => ?_⟩
  · show get (nn 102 j) (put (nn 102 k) data s.l) = some d
    rw [get_put_other h.am.ok.srt data (fun e => hjk (nn_inj (by omega) (by omega) e))]
    exact h.g j hj d hd
  · rw [if_neg ho]
    exact get_put h.am.ok.srt _ _
  · rcases mem_put.1 hp with rfl | hp
    · exact .inr rfl
    · obtain ⟨j, hj, e⟩ := h.am.ns p hp.1
      exact .inl ⟨j, hj, e⟩

/-- the sum of the sizes of the first j files that are read back -/
def sm (s : St) (j : Nat) : Nat := ((List.range j).map fun i => (geD s (nn 102 i)).length).sum
theorem sm_succ (s : St) (j : Nat) : sm s (j + 1) = sm s j + (geD s (nn 102 j)).length := by
  unfold sm
  rw [List.range_succ, List.map_append, List.sum_append]
  simp
theorem sm_le (s : St) : ∀ {i j : Nat}, i ≤ j → sm s i ≤ sm s j
  | i, 0, h => by
    obtain rfl : i = 0 := by omega
    exact Nat.le_refl _
  | i, j + 1, h => by
    rcases Nat.lt_or_ge i (j + 1) with h1 | h1
    · have := sm_le s (i := i) (j := j) (by omega)
      rw [sm_succ]; omega
    · obtain rfl : i = j + 1 := by omega
      exact Nat.le_refl _
theorem geD_ok {s : St} {i : Nat} (hi : i ≤ 60) : geD s (nn 102 i) = (get (nn 102 i) s.l).getD [] := by unfold geD; rw [if_pos (okf hi)]
theorem geE_ok {s : St} {i : Nat} (hi : i ≤ 60) : geE s (nn 102 i) = if (get (nn 102 i) s.l).isSome then 0 else 8 := by unfold geE; rw [if_pos (okf hi)]
section
variable {s : St} {l : List (List Byte)} {n k o : Nat} {data : List Byte}
theorem K2.total (h : K2 s l n k o data) (hn : n ≤ 40) (hk : k ≤ 40) : sm s n + (if k < n then 0 else (geD s (nn 102 k)).length) = sz s.l := by
  by_cases hkn : k < n
  · have := sz_names ((List.range n).map (nn 102)) h.ok.srt (List.pairwise_map.2 ((List.nodup_range).imp_of_mem (fun {a b} ha hb hab e => hab (nn_inj (by have := List.mem_range.1 ha; omega) (by have := List.mem_range.1 hb; omega) e)))) (fun p hp => by
      rcases h.ns p hp with ⟨j, hj, e⟩ | e
      · exact List.mem_map.2 ⟨j, List.mem_range.2 hj, e.symm⟩
      · exact List.mem_map.2 ⟨k, List.mem_range.2 hkn, e.symm⟩)
    rw [this, if_pos hkn, List.map_map]
    unfold sm
    rw [Nat.add_zero]
    congr 1
    exact List.map_congr_left fun j hj => by rw [geD_ok (by have := List.mem_range.1 hj; omega)]; rfl
  · have := sz_names ((List.range n).map (nn 102) ++ [nn 102 k]) h.ok.srt (List.nodup_append.2 ⟨List.pairwise_map.2 ((List.nodup_range).imp_of_mem (fun {a b} ha hb hab e => hab (nn_inj (by have := List.mem_range.1 ha; omega) (by have := List.mem_range.1 hb; omega) e))), by simp, fun a ha b hb => by
      obtain ⟨j, hj, rfl⟩ := List.mem_map.1 ha
      have hj := List.mem_range.1 hj
      simp at hb
      subst hb
      intro e
      have := nn_inj (by omega) (by omega) e
      omega⟩) (fun p hp => by
      rcases h.ns p hp with ⟨j, hj, e⟩ | e
      · exact List.mem_append.2 (.inl (List.mem_map.2 ⟨j, List.mem_range.2 hj, e.symm⟩))
      · exact List.mem_append.2 (.inr (by simp [e])))
    rw [this, if_neg hkn, List.map_append, List.map_map, List.sum_append]
    unfold sm
    congr 1
    · congr 1
      exact List.map_congr_left fun j hj => by rw [geD_ok (by have := List.mem_range.1 hj; omega)]; rfl
    · rw [geD_ok (by omega)]; simp
theorem K2.sm_max (h : K2 s l n k o data) (hn : n ≤ 40) (hk : k ≤ 40) {j : Nat} (hj : j ≤ n) : sm s j ≤ 10000 := by
  have h1 := h.total hn hk
  have h2 := sm_le s hj
  have h3 := h.ok.sum
  have h4 := h.r
  omega
theorem K2.other (h : K2 s l n k o data) (hn : n ≤ 40) {j : Nat} (hj : j < n) (hjk : j ≠ k) {d : List Byte} (hd : l[j]? = some d) : geE s (nn 102 j) = 0 ∧ geD s (nn 102 j) = d := by
  have := h.oth j hj hjk d hd
  rw [geE_ok (by omega), geD_ok (by omega), this]
  exact ⟨rfl, rfl⟩
theorem K2.gone (h : K2 s l n k o data) (hk : k ≤ 40) (ho : 128 ≤ o) : geE s (nn 102 k) = 8 ∧ geD s (nn 102 k) = [] := by
  have := h.at_
  rw [if_pos ho] at this
  rw [geE_ok (by omega), geD_ok (by omega), this]
  exact ⟨rfl, rfl⟩
theorem K2.there (h : K2 s l n k o data) (hk : k ≤ 40) (ho : ¬ 128 ≤ o) : geE s (nn 102 k) = 0 ∧ geD s (nn 102 k) = data := by
  have := h.at_
  rw [if_neg ho] at this
  rw [geE_ok (by omega), geD_ok (by omega), this]
  exact ⟨rfl, rfl⟩
end
end Go.Proofs.Ytbeekfbcflmemaa.Fil
