/-
  The laws of layer 19: a Packer in play beside two byte slices; what data fields hold while no idle packet has begun.
-/
import Derived.Test.YtjjjlgaidklokaaLaw19d
namespace Go.Proofs.Ytjjjlgaidklokaa.Pkr
open Go.RowKit
open Pac (bel_new deE deN deP)

theorem keep_yes {Z : Nat} {s : PS} (hr : s.rs = []) (h : Z ≤ s.wt.length) : nxF Z s = s.wt.take Z ∧ (nxS Z s).rs = [] ∧ (nxS Z s).wt = s.wt.drop Z := by
  have hA : nxA Z s = Z := by unfold nxA; rw [hr]; simp
  have hB : nxB Z s = 0 := by unfold nxB; rw [hA, List.length_take]; omega
  refine ⟨by unfold nxF; rw [hA, hB, hr]; simp, ?_, by rw [nx_wt, hA]⟩
  show (if nxB Z s = 0 then s.rs.drop Z else _) = _
  rw [if_pos hB, hr, List.drop_nil]
theorem keep_last {Z : Nat} {s : PS} (hr : s.rs = []) (h : s.wt.length < Z) : nxF Z s = s.wt ++ (fil (Z - s.wt.length)).take (Z - s.wt.length) ∧ (nxS Z s).wt = [] := by
  have hA : nxA Z s = Z := by unfold nxA; rw [hr]; simp
  have hB : nxB Z s = Z - s.wt.length := by unfold nxB; rw [hA, List.length_take]; omega
  refine ⟨by unfold nxF; rw [hA, hB, hr, List.take_nil, List.nil_append, List.take_of_length_le (by omega)], by rw [nx_wt, hA, List.drop_eq_nil_of_le (by omega)]⟩
theorem sev_part : ∀ q : Fin 7, deE (sev.take q) = 3 := by decide +kernel
theorem tl_fil {q : Nat} (hq : q ≤ 1012) : Tl ((fil q).take q) := by
  by_cases h : q < 7
  · rw [fil_sev (by omega)]
    exact .inr (.inl (sev_part ⟨q, h⟩))
  · have hl := fil_len (m := q) (by omega)
    have hw := fil_whole (m := q) (by omega) []
    rw [List.append_nil] at hw
    rw [List.take_of_length_le (by omega)]
    exact .inr (.inr ⟨hw.1, hw.2.1, by rw [hw.2.2, hl]⟩)
theorem rdy_yes {Z : Nat} {s : PS} (hr : s.rs = []) (h : 0 < s.wt.length) (h2 : Z ≤ s.wt.length) : rdy Z s = true := by
  unfold rdy; rw [hr, decide_eq_true h, decide_eq_true (by simpa using h2)]; rfl
theorem rdy_no {Z : Nat} {s : PS} (hr : s.rs = []) (h : ¬ (0 < s.wt.length ∧ Z ≤ s.wt.length)) : rdy Z s = false := by
  unfold rdy
  rw [hr]
  by_cases h1 : 0 < s.wt.length
  · rw [decide_eq_false (p := Z ≤ _) (by simp; omega)]; simp
  · rw [decide_eq_false h1]; rfl

/-- the packets of the laws: packet k has l[k] + 1 data bytes k -/
def pq (l : List Byte) (k : Nat) : List Byte := pkE ((l.getD k 0#8).toNat + 1) (BitVec.ofNat 8 k)
def pks (l : List Byte) (k : Nat) : List (List Byte) := (List.range k).map (pq l)
theorem pq_bound (l : List Byte) (k : Nat) : 1 ≤ (l.getD k 0#8).toNat + 1 ∧ (l.getD k 0#8).toNat + 1 ≤ 256 := by have := (l.getD k 0#8).isLt; omega
theorem pq_pkt (l : List Byte) (k : Nat) : Pkt (pq l k) := by have := pq_bound l k; exact pkE_pkt this.1 (by omega)
theorem pq_len (l : List Byte) (k : Nat) : (pq l k).length = (l.getD k 0#8).toNat + 7 := by
  have := pq_bound l k
  unfold pq
  rw [pkE_len this.1 (by omega)]
theorem pks_succ (l : List Byte) (k : Nat) : pks l (k + 1) = pks l k ++ [pq l k] := by unfold pks; rw [List.range_succ, List.map_append]; rfl
theorem pks_flat (l : List Byte) (k : Nat) : (pks l (k + 1)).flatten = (pks l k).flatten ++ pq l k := by rw [pks_succ]; simp
theorem pks_len (l : List Byte) : ∀ k, (pks l k).flatten.length ≤ 262 * k
  | 0 => by simp [pks]
  | k + 1 => by
    have := pks_len l k
    have h2 := pq_len l k
    have h3 := pq_bound l k
    rw [pks_flat, List.length_append]
    omega
theorem pks_pkt (l : List Byte) (k : Nat) : ∀ x ∈ pks l k, Pkt x := fun x hx => by
  unfold pks at hx
  obtain ⟨i, _, rfl⟩ := List.mem_map.1 hx
  exact pq_pkt l i
theorem pbytes_any {l : List Byte} {k X : Nat} {x : Byte} (hx : l[k]? = some x) (hX : x.toNat = X) (hk : k < 256) (w : World) :
    Calls Try.prog 10 #[.int .i64 ((X : Int) + 1), .int .u8 (k : Int)] w fun e w' => ∃ v, e = .returned v ∧ Ow w' w.heap.size 5 v (pq l k) ∧ Below w.heap.size w w' := by
  have e : l.getD k 0#8 = x := by rw [List.getD_eq_getElem?_getD, hx]; rfl
  have hb := pq_bound l k
  have h := lbytes_any ((l.getD k 0#8).toNat + 1) (BitVec.ofNat 8 k) hb.1 (by omega) w
  have e1 : (((l.getD k 0#8).toNat + 1 : Nat) : Int) = (X : Int) + 1 := by rw [e, hX]; rfl
  have e2 : ((BitVec.ofNat 8 k).toNat : Int) = (k : Int) := by rw [BitVec.toNat_ofNat, Nat.mod_eq_of_lt hk]
  rw [e1, e2] at h
  exact h

theorem Rd.grown {w w' : World} {A : Option Addr} {l : List Byte} {n c : Nat} {v : Value} (h : Rd w A l n c) (hg : w.grownBy w' v.ownBlock) (hd : ∀ y ∈ blkA A, v.ownBlock ≠ some y) : Rd w' A l n c :=
  Rd.put h (Only.of_grown hg) (fun y hy hm => hd y hy (by simpa using hm))
/-- a Packer in play beside two slices of the call's own, all apart from each other -/
structure KP (w0 w : World) (g : Nat) (F : List Nat) (Z R : Nat) (s : PS) (iv ov : Value) (I O : List Byte) : Prop where
  pl : PL w0 w g F Z R s
  iw : Ow w w0.heap.size 5 iv I
  ow : Ow w w0.heap.size 5 ov O
  ai : ∀ i, iv.ownBlock = some i → i ∉ F
  ao : ∀ i, ov.ownBlock = some i → i ∉ F ∧ iv.ownBlock ≠ some i
section
variable {w0 w w' : World} {g Z R : Nat} {F F' S : List Nat} {s s' : PS} {iv ov iv' ov' : Value} {I O I' O' : List Byte}
theorem PL.only (h : PL w0 w g F Z R s) (k : Only S w w') (hS : ∀ x ∈ S, w0.heap.size ≤ x) (hd : ∀ x ∈ F, x ∉ S) : PL w0 w' g F Z R s := ⟨h.p.only k hd, h.lo, h.b.trans (k.below h.b.size hS)⟩
theorem KP.below (h : KP w0 w g F Z R s iv ov I O) (k : Below w.heap.size w w') : KP w0 w' g F Z R s iv ov I O := ⟨h.pl.below k, h.iw.below k, h.ow.below k, h.ai, h.ao⟩
theorem KP.turn (h : KP w0 w g F Z R s iv ov I O) (k : Only F w w') (p : PL w0 w' g F' Z R s') (hn : ∀ x ∈ F', x ∈ F ∨ w.heap.size ≤ x) : KP w0 w' g F' Z R s' iv ov I O := by
  refine ⟨p, h.iw.only k h.ai, h.ow.only k (fun i hi => (h.ao i hi).1), fun i hi hm => ?_, fun i hi => ⟨fun hm => ?_, (h.ao i hi).2⟩⟩
  · rcases hn i hm with h1 | h1
    · exact h.ai i hi h1
    · have := (h.iw.lt i hi).2; omega
  · rcases hn i hm with h1 | h1
    · exact (h.ao i hi).1 h1
    · have := (h.ow.lt i hi).2; omega
theorem KP.appI (h : KP w0 w g F Z R s iv ov I O) (hg : w.grownBy w' iv.ownBlock) (ho : Ow w' w0.heap.size 5 iv' I') (hv : iv'.ownBlock = iv.ownBlock ∨ iv'.ownBlock = some w.heap.size) : KP w0 w' g F Z R s iv' ov I' O := by
  have k := Only.of_grown hg
  have hm : ∀ x, x ∈ iv.ownBlock.toList → iv.ownBlock = some x := fun x hx => by simpa using hx
  refine ⟨h.pl.only k (fun x hx => (h.iw.lt x (hm x hx)).1) (fun x hx hx2 => h.ai x (hm x hx2) hx), ho, h.ow.only k (fun i hi hx => (h.ao i hi).2 (hm i hx)), fun i hi hF => ?_, fun i hi => ⟨(h.ao i hi).1, fun e => ?_⟩⟩
  · rcases hv with e | e
    · exact h.ai i (e ▸ hi) hF
    · rw [e] at hi
      injection hi with hi
      have := h.pl.p.lt i hF
      omega
  · rcases hv with e2 | e2
    · exact (h.ao i hi).2 (e2 ▸ e)
    · rw [e2] at e
      injection e with e
      have := (h.ow.lt i hi).2
      omega
theorem KP.appO (h : KP w0 w g F Z R s iv ov I O) (hg : w.grownBy w' ov.ownBlock) (ho : Ow w' w0.heap.size 5 ov' O') (hv : ov'.ownBlock = ov.ownBlock ∨ ov'.ownBlock = some w.heap.size) : KP w0 w' g F Z R s iv ov' I O' := by
  have k := Only.of_grown hg
  have hm : ∀ x, x ∈ ov.ownBlock.toList → ov.ownBlock = some x := fun x hx => by simpa using hx
  refine ⟨h.pl.only k (fun x hx => (h.ow.lt x (hm x hx)).1) (fun x hx hx2 => (h.ao x (hm x hx2)).1 hx), h.iw.only k (fun i hi hx => (h.ao i (hm i hx)).2 hi), ho, h.ai, fun i hi => ?_⟩
  rcases hv with e | e
  · exact h.ao i (e ▸ hi)
  · rw [e] at hi
    injection hi with hi
    subst hi
    exact ⟨fun hF => by have := h.pl.p.lt _ hF; omega, fun e2 => by have := (h.iw.lt _ e2).2; omega⟩
theorem KP.start (h : PL w0 w g F Z R s) : KP w0 w g F Z R s (.slice none 0 0) (.slice none 0 0) [] [] := ⟨h, World.ownsRow_nil _ _ _ _, World.ownsRow_nil _ _ _ _, (fun i hi => by cases hi), (fun i hi => by cases hi)⟩
end
end Go.Proofs.Ytjjjlgaidklokaa.Pkr
