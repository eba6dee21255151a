/-
  The law LinkDelivers: a Link beside two lists of byte strings (DL).
-/
import Derived.Test.YtllhdgllgoanbaaLaw23a
import Derived.Test.YtllhdgllgoanbaaLnkDv
namespace Go.Proofs.Ytllhdgllgoanbaa.Lnk
open Go.RowKit Go.Proofs.Ytllhdgllgoanbaa.Row
open Rng (R)
open Lst (Qb)

/-- a list of byte strings that lie below w0's blocks, in a row of the call's own -/
structure WL (w0 w : World) (v : Value) (ls : List (List Byte)) : Prop where
  ex : ∃ qs : List Qb, qs.map (·.l) = ls ∧ Row.Os Lst.enc 1 w w0.heap.size 39 v qs ∧ ∀ q ∈ qs, Lst.Dt w w0.heap.size q.l q.a q.c
section
variable {w0 w w' : World} {v : Value} {ls : List (List Byte)} {S : List Nat}
theorem WL.only (h : WL w0 w v ls) (k : Only S w w') (b : Below w0.heap.size w w') (hS : ∀ i, v.ownBlock = some i → i ∉ S) : WL w0 w' v ls := by
  obtain ⟨qs, h1, h2, h3⟩ := h
  exact ⟨qs, h1, Row.Os.only h2 k hS, fun q hq => (h3 q hq).below b⟩
theorem WL.lt (h : WL w0 w v ls) : ∀ i, v.ownBlock = some i → w0.heap.size ≤ i ∧ i < w.heap.size := by
  obtain ⟨qs, _, h2, _⟩ := h
  exact h2.lt
theorem WL.len (h : WL w0 w v ls) (hw : w0.heap.size ≤ w.heap.size) {n : Nat} (hn : ls.length = n) : ∃ A k, v = .slice A n k ∧ Lst.LS w w.heap.size A ls ∧ (A = none → k = 0) ∧ n ≤ k ∧ k ≤ maxLen := by
  obtain ⟨qs, rfl, h2, h3⟩ := h
  obtain ⟨A, k, hv, hr, h4, h5, h6⟩ := h2.reads_len Lst.enc_ok (n := n) (by simpa using hn)
  exact ⟨A, k, hv, ⟨qs, rfl, hr, fun q hq => (h3 q hq).more hw⟩, h4, h5, h6⟩
end
/-- a Link beside what is wanted and what has come -/
structure DL (w0 w : World) (g : Nat) (F : List Nat) (c : Cf) (s : LS) (N : Nat) (vw : Value) (lw : List (List Byte)) (vg : Value) (lg : List (List Byte)) : Prop where
  p : PL w0 w g F c s N
  want : WL w0 w vw lw
  got : Ls w w0.heap.size vg lg
  ow : ∀ i, vw.ownBlock = some i → i ∉ F
  og : ∀ i, vg.ownBlock = some i → i ∉ F
  wg : ∀ i, vw.ownBlock = some i → vg.ownBlock ≠ some i
section
variable {w0 w w' : World} {g : Nat} {F F' S : List Nat} {c : Cf} {s s' : LS} {N : Nat} {vw vg : Value} {lw lg : List (List Byte)}
theorem DL.below (h : DL w0 w g F c s N vw lw vg lg) (k : Below w.heap.size w w') : DL w0 w' g F c s N vw lw vg lg :=
  ⟨h.p.below k, h.want.only (S := []) (Only.of_below k) (k.mono h.p.b.size) (by simp), h.got.below k, h.ow, h.og, h.wg⟩
theorem DL.up {M : Nat} (h : DL w0 w g F c s N vw lw vg lg) (k : N ≤ M) : DL w0 w g F c s M vw lw vg lg := ⟨⟨h.p.l, h.p.ge, h.p.ok.up k, h.p.m, h.p.b⟩, h.want, h.got, h.ow, h.og, h.wg⟩
theorem DL.turn (h : DL w0 w g F c s N vw lw vg lg) {N' : Nat} (p : PL w0 w' g F' c s' N') (k : Only F w w') (hF : ∀ x ∈ F', x ∈ F ∨ w.heap.size ≤ x) : DL w0 w' g F' c s' N' vw lw vg lg := by
  have hg := h.got.past h.og h.p k hF
  refine ⟨p, h.want.only k (k.below h.p.b.size (fun x hx => (h.p.lo x hx).1)) h.ow, hg.1, fun i hi hm => ?_, hg.2, h.wg⟩
  rcases hF i hm with e | e
  · exact h.ow i hi e
  · have := (h.want.lt i hi).2; omega
theorem DL.send (h : DL w0 w g F c s N vw lw vg lg) (hN : N < 100000) {now : Int} {a : Option Addr} {b : List Byte} {n k : Nat} (hl : b.length = n) (hb : Bs w0 w0.heap.size a b) (hn : a = none → k = 0) (hm : n ≤ 1000000) (hs : snd c now b s = s') :
    Calls Try.prog 11 #[.pointer (some ⟨g, 0, none⟩), I now, .slice a n k] w fun e w' => e = .returned (.int .i64 0) ∧ ∃ F', DL w0 w' g F' c s' (N + 1) vw lw vg lg := by
  refine (h.p.send hN hl (h.p.bo_low hb) hn hm hs).mono ?_
  rintro e w' ⟨rfl, F', p, k', hF⟩
  exact ⟨rfl, F', h.turn p k' hF⟩
theorem DL.recv (h : DL w0 w g F c s N vw lw vg lg) (hN : N ≤ 100000) {now : Int} {ls : List (List Byte)} (hs : rcS now s = s') (ho : rcO now s = ls) :
    Calls Try.prog 13 #[.pointer (some ⟨g, 0, none⟩), I now] w fun e w' => ∃ v, e = .returned v ∧ Ls w' w.heap.size v ls ∧ DL w0 w' g F c s' N vw lw vg lg := by
  refine (h.p.recv hN hs ho).mono ?_
  rintro e w' ⟨v, rfl, hls, p, k⟩
  exact ⟨v, rfl, hls, h.turn p k (fun x hx => .inl hx)⟩
/-- what an append to the list of what is wanted leaves -/
theorem DL.addw {vw2 : Value} {qs : List Qb} {q : Qb} (h : DL w0 w g F c s N vw lw vg lg) (hq : qs.map (·.l) = lw) (h3 : ∀ q ∈ qs, Lst.Dt w w0.heap.size q.l q.a q.c) (hd : Lst.Dt w w0.heap.size q.l q.a q.c) {row : Option Nat} (hr : vw.ownBlock = row) (gr : w.grownBy w' row) (own : Row.Os Lst.enc 1 w' w0.heap.size 39 vw2 (qs ++ [q])) (hv : vw2.ownBlock = row ∨ vw2.ownBlock = some w.heap.size) :
    DL w0 w' g F c s N vw2 (lw ++ [q.l]) vg lg := by
  have k := Only.of_grown gr
  subst hr
  have hlo : ∀ x ∈ vw.ownBlock.toList, w0.heap.size ≤ x ∧ x < w.heap.size := fun x hx => h.want.lt x (by simpa using hx)
  have hb : Below w0.heap.size w w' := k.below h.p.b.size (fun x hx => (hlo x hx).1)
  have hK : Kq w w' := .of_only k (fun x hx => by
    obtain ⟨qs, _, h2, _⟩ := h.want
    obtain ⟨cs, hc⟩ := Lst.own_cel h2 (i := x) (by simpa using hx)
    exact not_fx hc (by decide))
  refine ⟨h.p.only k hK (fun x hx => ⟨h.ow x (by simpa using hx), (hlo x hx).1⟩), ⟨qs ++ [q], by rw [List.map_append, hq]; rfl, own, fun y hy => ?_⟩, h.got.only k hK (fun i hi hm => h.wg i (by simpa using hm) hi), fun i hi hm => ?_, h.og, fun i hi e => ?_⟩
  · rcases List.mem_append.1 hy with hy | hy
    · exact (h3 y hy).below hb
    · rw [List.mem_singleton.1 hy]; exact hd.below hb
  · rcases hv with e | e
    · exact h.ow i (by rw [← e]; exact hi) hm
    · rw [hi] at e; injection e with e; have := (h.p.lo i hm).2; omega
  · rcases hv with e2 | e2
    · exact h.wg i (by rw [← e2]; exact hi) e
    · rw [hi] at e2; injection e2 with e2; have := (h.got.lt i e).2; omega
/-- what an append to the list of what has come leaves -/
theorem DL.addg {vg2 : Value} {qs ms : List Qb} (h : DL w0 w g F c s N vw lw vg lg) (hq : qs.map (·.l) = lg) (h3 : ∀ q ∈ qs, Dq w q.l q.a q.c) (hd : ∀ q ∈ ms, Dq w q.l q.a q.c) {row : Option Nat} (hr : vg.ownBlock = row) (gr : w.grownBy w' row) (own : Row.Os Lst.enc 1 w' w0.heap.size 39 vg2 (qs ++ ms)) (hv : vg2.ownBlock = row ∨ vg2.ownBlock = some w.heap.size) :
    DL w0 w' g F c s N vw lw vg2 (lg ++ ms.map (·.l)) := by
  have k := Only.of_grown gr
  subst hr
  have hlo : ∀ x ∈ vg.ownBlock.toList, w0.heap.size ≤ x ∧ x < w.heap.size := fun x hx => h.got.lt x (by simpa using hx)
  have hb : Below w0.heap.size w w' := k.below h.p.b.size (fun x hx => (hlo x hx).1)
  have hK : Kq w w' := .of_only k (fun x hx => by
    obtain ⟨qs, _, h2, _⟩ := h.got
    obtain ⟨cs, hc⟩ := Lst.own_cel h2 (i := x) (by simpa using hx)
    exact not_fx hc (by decide))
  refine ⟨h.p.only k hK (fun x hx => ⟨h.og x (by simpa using hx), (hlo x hx).1⟩), h.want.only k hb (fun i hi hm => h.wg i hi (by simpa using hm)), ⟨qs ++ ms, by rw [List.map_append, hq], own, fun y hy => ?_⟩, h.ow, fun i hi hm => ?_, fun i hi e => ?_⟩
  · rcases List.mem_append.1 hy with hy | hy
    · exact (h3 y hy).keep hK
    · exact (hd y hy).keep hK
  · rcases hv with e | e
    · exact h.og i (by rw [← e]; exact hi) hm
    · rw [hi] at e; injection e with e; have := (h.p.lo i hm).2; omega
  · rcases hv with e2 | e2
    · exact h.wg i hi (by rw [← e2]; exact e)
    · rw [e] at e2; injection e2 with e2; have := (h.want.lt i hi).2; omega
end
end Go.Proofs.Ytllhdgllgoanbaa.Lnk
