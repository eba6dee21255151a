/-
  Package files: Names (a range over the map, the library's sort), Clone.
-/
import Derived.Test.YtbeekfbcflmemaaFilW2
import Derived.Test.YtbeekfbcflmemaaLay
import Derived.Sort.OwnSorted
namespace Go.Proofs.Ytbeekfbcflmemaa.Fil
open Go.RowKit Go.Proofs.Ytbeekfbcflmemaa.Row
open Lst (Qb Dt)

theorem lt_lt : ∀ {a b : Nm}, lt a b = true → a < b
  | [], [], h => by simp [lt, bytesBefore] at h
  | [], y :: q, _ => List.nil_lt_cons y q
  | x :: r, [], h => by simp [lt, bytesBefore] at h
  | x :: r, y :: q, h => by
    have h2 : (x < y) ∨ (x = y ∧ lt r q = true) := by simpa [lt, bytesBefore] using h
    rcases h2 with h2 | ⟨rfl, h2⟩
    · exact List.cons_lt_cons_iff.2 (.inl h2)
    · exact List.cons_lt_cons_iff.2 (.inr ⟨rfl, lt_lt h2⟩)
theorem lt_le {a b : Nm} (h : lt a b = true) : leB a b = true := by
  simp only [leB, decide_eq_true_eq]
  exact List.le_of_lt (lt_lt h)
theorem sort_names {α : Type} {L : List (Nm × α)} (h : Srt L) {ss : List Nm} (hp : ss.Perm (L.map (·.1))) : ss.mergeSort leB = L.map (·.1) := by
  rw [mergeSort_of_perm hp]
  refine List.mergeSort_of_pairwise ?_
  rw [List.pairwise_map]
  exact h.imp fun h => lt_le h
theorem ins_perm {α : Type} {n : Nm} {d : α} : ∀ {L : List (Nm × α)}, (ins n d L).Perm ((n, d) :: L)
  | [] => List.Perm.refl _
  | y :: r => by
    unfold ins
    split
    · exact List.Perm.refl _
    · exact (List.Perm.cons y ins_perm).trans (List.Perm.swap _ _ _)
theorem names_step {Q : List T} (hs : Srt Q) {gn : Nm → Bool} {x : Nm} {q : Qb} (hm : (x, q) ∈ Q) (hn : gn x = false) {ss : List Nm} (hp : ss.Perm ((gl gn Q).map (·.1))) : (ss ++ [x]).Perm ((gl (fun z => gn z || z == x) Q).map (·.1)) := by
  rw [gl_step hs hm]
  unfold put
  rw [gl_new hn]
  refine (List.perm_append_comm.trans ?_).trans (ins_perm.map _).symm
  simpa using hp
theorem gl_len {α : Type} (gn : Nm → Bool) (Q : List (Nm × α)) : (gl gn Q).length ≤ Q.length := List.length_filter_le _ _
theorem sen_flat (l : List Nm) : flat sen l = l.map Go.Proofs.encStr := by
  induction l with
  | nil => rfl
  | cons x l ih => rw [flat_cons, ih]; rfl

/-- the sort's contract, in the words Os and Only -/
theorem sort_any (w : World) (base : Nat) (v : Value) (ss ts : List Nm) (ho : Row.Os sen 1 w base 9 v ss) (hts : ss.mergeSort leB = ts) (hm : ss.length ≤ 1000000) :
    Calls Try.prog 29 #[v] w fun e w' => e = .returned (.tuple #[]) ∧ Row.Os sen 1 w' base 9 v ts ∧ Only v.ownBlock.toList w w' := by
  have hlen : ts.length = ss.length := by rw [← hts]; simp
  rcases Nat.eq_zero_or_pos ss.length with h0 | h0
  · have he : ss = [] := List.eq_nil_of_length_eq_zero h0
    have he2 : ts = [] := List.eq_nil_of_length_eq_zero (by omega)
    subst he he2
    obtain ⟨A, c, rfl, _⟩ := ho.reads_len sen_ok (n := 0) rfl
    refine (Any.slices_Sort_string_none sortS A c w).mono ?_
    rintro e w' ⟨rfl, rfl⟩
    exact ⟨rfl, ho, Only.refl _ _⟩
  · rcases ho.2 with ⟨_, hz⟩ | ⟨g, cap, cur, rfl, hb, hh, h1, h2, h3, h4⟩
    · omega
    · have hg : g < w.heap.size := (Array.getElem?_eq_some_iff.1 hh).1
      refine (Any.slices_Sort_string sortS g 0 cap ss w (holds_of_block hh (by rw [← sen_flat]; simpa using h4)) hg (by omega)).mono ?_
      rintro e w' ⟨rfl, nn, os, rfl⟩
      refine ⟨rfl, ?_, Only.of_grown (grownBy_sorted _)⟩
      have key := ownsRow_sorted (n := nn) (os := os) (ss := ss) (ts := ts) hlen hb hh h1 h2 h3
      unfold Row.Os
      rw [sen_flat, hlen]
      rw [show (ss.mergeSort fun x y => decide (x ≤ y)) = ts from hts]
      exact key

set_option maxHeartbeats 1000000 in
theorem names_any (w : World) (g b : Nat) (s : St) (h : FW w g b s) :
    Calls Try.prog 22 #[.pointer (some ⟨g, 0, none⟩)] w fun e w' => ∃ v, e = .returned v ∧ Row.Os sen 1 w' w.heap.size 9 v (s.l.map (·.1)) ∧ Below w.heap.size w w' := by
  obtain ⟨Q, h1, h2, h3⟩ := h.ex
  have hsr := h.srt h1
  have hsv : Srt (vs Q) := on_srt qv hsr
  have c3 := h.cel.cell 3; simp at c3
  have hwk := works_any w g true _ _ _ h.cel
  have hQ : Q.length ≤ 256 := by rw [FW_len h1]; have := h.ok.cnt; have := h.ok.m; omega
  obtain ⟨E, hE⟩ : ∃ E, E = s.l.map (·.1) := ⟨_, rfl⟩
  have hE2 : E = Q.map (·.1) := by rw [hE, ← h1]; simp [lst]
  rw [← hE]
  have HE := Lib.hid hE2
  have hbl := h.lt.2
  clear hE hE2 h h1 h3
  go_enter Try.func22, Try.ntmps22
  go_wp2_with (first
    | (go_at_call 24; refine hwk.mono ?_; rintro e w' ⟨rfl, rfl⟩)
    | (at_range; refine wpList_range rfl h2 hsv Try.underlying9 map_ty _ rfl rfl ?_; intro w0 hrg0 hbel0))
  go_frame
  go_loopw [3] (fun v wr => ∃ (gn : Nm → Bool) (ss : List Nm), Row.Os sen 1 wr w.heap.size 9 v ss ∧ Hid (ss.Perm ((gl gn Q).map (·.1))) ∧ Rg Try.prog 9 wr b w.heap.size (vs Q) gn ∧ Below w.heap.size w wr) (fun _ wr => wr.rangeLeft b w.heap.size)
  case atStart => exact ⟨_, [], Row.Os.nil_ _ _ _, Lib.hid (by rw [gl_none]; exact List.Perm.refl _), hrg0, hbel0⟩
  case round =>
    obtain ⟨gn, ss, hos, hp, hrg, hbel⟩ := hrel
    go_wp2_with (at_next; refine wpList_next rfl hrg Try.underlying9 _ rfl rfl ?_ ?_)
    · intro hall
      have hs : ss.mergeSort leB = E := by
        have h2 : gl gn Q = Q := gl_all fun p hp => hall p.1 (qv p.2) (List.mem_map.2 ⟨p, hp, rfl⟩)
        have h3 := hp.out
        rw [h2] at h3
        rw [HE.out]
        exact sort_names hsr h3
      have hl : ss.length ≤ 1000000 := by have := hp.out.length_eq; rw [List.length_map] at this; have := gl_len gn Q; omega
      clear hall
      go_wp2_with (go_at_call 29; refine (sort_any _ _ _ ss E hos hs hl).mono ?_; rintro e w' ⟨rfl, hos2, ho2⟩)
      go_ret
      exact ⟨_, rfl, hos2, hbel.trans (ho2.below hbel.size (fun i hi => (hos.lt i (by simpa using hi)).1))⟩
    · intro x y w1 hm hgx hrg1 hlt ho hen
      obtain ⟨q, hq, rfl⟩ := of_vs hm
      have hp2 := Lib.hid (names_step hsr hq hgx hp.out)
      have hl : ss.length ≤ 1000000 := by have := hp.out.length_eq; rw [List.length_map] at this; have := gl_len gn Q; omega
      have hb1 := hbel.trans (ho.below hbel.size (by simp))
      have hen2 : (Instr.entry (.pointer (some ⟨w.heap.size, 0, none⟩))).run Try.prog w1 = .ok (.tuple #[.string (nm x), .slice q.a q.l.length q.c]) w1 := hen
      have hos1 : Row.Os sen 1 w1 w.heap.size 9 _ ss := hos.only ho (fun i hi hm => by
        obtain ⟨cs, hc⟩ := Lst.own_cel hos hi
        exact hrg.cel_ne hc (by simpa using hm))
      have k1 : (qv q).v = .slice q.a q.l.length q.c := rfl
      rw [k1]
      have hr1 := Row.Rs_new1 sen_ok w1 9 x #[.string (nm x)] rfl
      clear hen k1 hm hq
      go_wp2_with (at_builtin; refine wpList_row _ sen_ok is_strs (by decide) rfl (.tmp 17) (.tmp 19) rfl rfl (hos1.alloc _) (l := [x]) rfl rfl hr1 (by simp) (by simp; omega) (Nat.le_trans hb1.size (by simp)) ?_; intro v2 w2 hos2 hg2 hv2)
      have hg3 : (w1.alloc (.cells #[.string (nm x)] 9)).grownBy w2 u3.ownBlock := hg2
      have ho3 : Only u3.ownBlock.toList w1 w2 := (Only.of_below (S := u3.ownBlock.toList) (bel_new w1 _)).trans (Only.of_grown hg3) (fun _ h => .inl h)
      have hlow : ∀ i ∈ u3.ownBlock.toList, w.heap.size ≤ i ∧ i ≠ w.heap.size := fun i hi => by
        have hi : u3.ownBlock = some i := by simpa using hi
        obtain ⟨cs, hc⟩ := Lst.own_cel hos1 hi
        exact ⟨(hos1.lt i hi).1, hrg1.cel_ne hc⟩
      have n1 : b ∉ u3.ownBlock.toList := fun hm => by have := (hlow b hm).1; omega
      have n2 : w.heap.size ∉ u3.ownBlock.toList := fun hm => (hlow _ hm).2 rfl
      refine ⟨⟨_, _, hos2, hp2, hrg1.only ho3 n1 n2, hb1.trans (ho3.below hb1.size fun i hi => (hlow i hi).1)⟩, ?_⟩
      rw [rangeLeft_only hrg1 ho3 n1 n2]
      exact hlt
end Go.Proofs.Ytbeekfbcflmemaa.Fil
