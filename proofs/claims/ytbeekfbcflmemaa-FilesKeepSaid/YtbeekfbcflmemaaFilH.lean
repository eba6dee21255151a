/-
  The heap words of package files: blocks that no call writes (Fx, Bt, Kq), bytes in such a block (Dq), a Store at block g whose map lies in block b (FW), slices of strings (sen).
-/
import Derived.Test.YtbeekfbcflmemaaFilM
import Derived.Test.YtbeekfbcflmemaaBase
import Derived.Test.YtbeekfbcflmemaaLstH
namespace Go.Proofs.Ytbeekfbcflmemaa.Fil
open Go.RowKit Go.Proofs.Ytbeekfbcflmemaa.Row
open Lst (Qb Dt)
abbrev I (n : Int) : Value := .int .i64 n
theorem bel_new (w : World) (o : Obj) : Below w.heap.size w (w.alloc o) := (Below.refl _ _).alloc (Nat.le_refl _) _
theorem Cel.on {w w' : World} {g : Nat} {t : TypeId} {cs : Array Value} (h : Cel w g t cs) (hb : Below w.heap.size w w') : Cel w' g t cs := (hb.block g h.lt).trans h

/-- a type whose blocks are never written once they are laid -/
def Fx (t : TypeId) : Prop := t ≠ 28
instance (t : TypeId) : Decidable (Fx t) := by unfold Fx; infer_instance
def Bt (w : World) (b : Nat) : Prop := ∃ t cs, Cel w b t cs ∧ Fx t
/-- all such blocks stay -/
def Kq (w w' : World) : Prop := ∀ b t cs, Cel w b t cs → Fx t → Cel w' b t cs
section
variable {w w' w2 : World} {b n c B g : Nat} {l : List Byte} {a A : Option Addr} {S : List Nat}
theorem Kq.refl (w : World) : Kq w w := fun _ _ _ h _ => h
theorem Kq.of_below (h : Below w.heap.size w w') : Kq w w' := fun b _ _ hc _ => (h.block b hc.lt).trans hc
theorem Kq.trans (h : Kq w w') (k : Kq w' w2) : Kq w w2 := fun b t cs hc h1 => k b t cs (h b t cs hc h1) h1
theorem Kq.of_only (k : Only S w w') (hS : ∀ x ∈ S, ∀ t cs, Cel w x t cs → ¬ Fx t) : Kq w w' := fun b t cs hc h1 => hc.only k (fun hm => hS b hm t cs hc h1)
theorem not_fx {t : TypeId} {cs : Array Value} (h : Cel w g t cs) (ht : ¬ Fx t) : ∀ t' cs', Cel w g t' cs' → ¬ Fx t' := fun t' cs' h' hf => by
  have e : some (Obj.cells cs t (0, 0)) = some (.cells cs' t' (0, 0)) := h.symm.trans h'
  simp at e
  exact ht (e.2 ▸ hf)
theorem not_mp {P : Program} {k : TypeId} {Q : List (Nm × V)} (h : Mp P k w b Q) : ∀ t' cs', Cel w b t' cs' → ¬ Fx t' := fun _ _ h' _ => h.ne h' rfl
theorem Kq.cel {t : TypeId} {cs : Array Value} (k : Kq w w') (h : Cel w g t cs) (ht : Fx t) : Cel w' g t cs := k g t cs h ht
theorem Bt.lt (h : Bt w b) : b < w.heap.size := by
  obtain ⟨t, cs, h, _⟩ := h
  exact h.lt
theorem Bt.keep (h : Bt w b) (k : Kq w w') : Bt w' b := by
  obtain ⟨t, cs, hc, h1⟩ := h
  exact ⟨t, cs, k b t cs hc h1, h1⟩
theorem Bt.cell (h : Bt w b) (k : Kq w w') (i : Nat) : w'.cell? ⟨b, i, none⟩ = w.cell? ⟨b, i, none⟩ := by
  obtain ⟨t, cs, hc, h1⟩ := h
  rw [(k b t cs hc h1).cell, hc.cell]

/-- bytes in such a block -/
structure Dq (w : World) (l : List Byte) (a : Option Addr) (c : Nat) : Prop where
  b : 0 < l.length → ∃ b off, a = some ⟨b, off, none⟩ ∧ Bt w b ∧ ∀ i x, l[i]? = some x → w.cell? ⟨b, off + i, none⟩ = some (B8 x)
  n : a = none → c = 0
  l : l.length ≤ c
  m : c ≤ maxLen
theorem Dq.nil_ (w : World) : Dq w [] none 0 := ⟨fun h => absurd h (by simp), fun _ => rfl, Nat.le_refl _, Nat.zero_le _⟩
theorem Dq.keep (h : Dq w l a c) (k : Kq w w') : Dq w' l a c := ⟨fun hl => by
  obtain ⟨b, off, e, hb, hc⟩ := h.b hl
  exact ⟨b, off, e, hb.keep k, fun i x hx => (hb.cell k _).trans (hc i x hx)⟩, h.n, h.l, h.m⟩
theorem Dq.later (h : Dq w l a c) (k : Below w.heap.size w w') : Dq w' l a c := h.keep (.of_below k)
theorem Dq.bs (h : Dq w l a c) : Bs w w.heap.size a l := fun hl => by
  obtain ⟨b, off, e, hb, hc⟩ := h.b hl
  exact ⟨b, off, e, hb.lt, hc⟩
theorem Dq.dt (h : Dq w l a c) : Dt w w.heap.size l a c := ⟨h.bs, h.n, h.l, h.m⟩
theorem own_cel {base : Nat} {e : TypeId} {v : Value} (h : Ow w base e v l) {i : Nat} (hi : v.ownBlock = some i) : ∃ cs, Cel w i e cs := by
  rcases h.2 with ⟨rfl, _⟩ | ⟨g, cap, cur, rfl, _, hg, _⟩
  · cases hi
  · injection hi with hi
    exact ⟨cur, by have h2 : g = i := hi; rw [← h2]; exact hg⟩
theorem Dq.own {base : Nat} (h : Ow w base 5 (.slice a n c) l) : Dq w l a c := by
  obtain ⟨A', c', hv, hb, hn, hl, hm⟩ := h.reads
  injection hv with h1 h2 h3
  subst h1 h2 h3
  refine ⟨fun h0 => ?_, hn, hl, hm⟩
  obtain ⟨b, off, rfl, hlt, hc⟩ := hb h0
  obtain ⟨cs, hcel⟩ := own_cel h (i := b) rfl
  exact ⟨b, off, rfl, ⟨_, cs, hcel, by decide⟩, hc⟩
/-- .. and of any own slice -/
theorem Dq.of {base : Nat} {v : Value} (h : Ow w base 5 v l) (hl : l.length = n) : ∃ A c, v = .slice A n c ∧ Dq w l A c := by
  obtain ⟨A, c, rfl, _⟩ := h.reads_len hl
  exact ⟨A, c, rfl, Dq.own h⟩
theorem Dq.conv (h : Dq w l a c) (hl : l.length = n) (hb : Below w.heap.size w w') : (convert 30 9 (.slice a n c)).run Try.prog w' = .ok (.string (str l)) w' := by
  subst hl
  exact run_str w' is_bytes Try.underlying9 (h.bs.below hb) h.n
end

/-- a string's cell -/
def sen (x : Nm) : List Value := [.string (nm x)]
theorem sen_ok : Row.Enc sen 1 := ⟨fun _ => rfl, fun x u hu => by
  simp only [sen, List.mem_cons, List.not_mem_nil, or_false] at hu
  subst hu; rfl, by decide⟩
theorem info_str : (Try.prog.info? 9).map (fun i => (i.zero, i.size, i.bytes)) = some (some (.string ⟨#[]⟩), 1, 16) := by kernel_rfl
theorem is_strs : Row.IsRows Try.prog 47 9 (.string ⟨#[]⟩) 1 16 := Row.IsRows.of Try.underlying47 rfl info_str

/-- a file as it lies in the map -/
abbrev T := Nm × Qb
def vs (Q : List T) : List (Nm × V) := Q.map fun p => (p.1, ⟨p.2.a, p.2.l.length, p.2.c⟩)
def lst (Q : List T) : List F := Q.map fun p => (p.1, p.2.l)
def qv (q : Qb) : V := ⟨q.a, q.l.length, q.c⟩
section
variable {α β : Type} (f : α → β)
def on (Q : List (Nm × α)) : List (Nm × β) := Q.map fun p => (p.1, f p.2)
theorem get_on (n : Nm) : ∀ Q : List (Nm × α), get n (on f Q) = (get n Q).map f
  | [] => rfl
  | p :: Q => by
    have ih := get_on n Q
    unfold get on at ih ⊢
    rw [List.map_cons, List.find?_cons, List.find?_cons]
    cases p.1 == n
    · exact ih
    · rfl
theorem del_on (n : Nm) (Q : List (Nm × α)) : del n (on f Q) = on f (del n Q) := by
  unfold del on
  rw [List.filter_map]
  rfl
theorem ins_on (n : Nm) (x : α) : ∀ Q : List (Nm × α), ins n (f x) (on f Q) = on f (ins n x Q)
  | [] => rfl
  | p :: Q => by
    have ih := ins_on n x Q
    unfold on at ih ⊢
    rw [List.map_cons]
    unfold ins
    show (if lt n p.1 = true then _ else _) = _
    split
    · rfl
    · rw [List.map_cons, ← ih]
theorem put_on (n : Nm) (x : α) (Q : List (Nm × α)) : put n (f x) (on f Q) = on f (put n x Q) := by
  unfold put
  rw [del_on, ins_on]
theorem gl_on (gn : Nm → Bool) (Q : List (Nm × α)) : gl gn (on f Q) = on f (gl gn Q) := by
  unfold gl on
  rw [List.filter_map]
  rfl
theorem srt_on {Q : List (Nm × α)} (h : Srt (on f Q)) : Srt Q := by
  unfold Srt on at h
  rw [List.pairwise_map] at h
  exact h
theorem on_srt {Q : List (Nm × α)} (h : Srt Q) : Srt (on f Q) := by
  unfold Srt on
  rw [List.pairwise_map]
  exact h
end
theorem vs_eq (Q : List T) : vs Q = on qv Q := rfl
theorem lst_eq (Q : List T) : lst Q = on Qb.l Q := rfl

/-- block g is a Store of New in state s, its map in block b -/
structure FW (w : World) (g b : Nat) (s : St) : Prop where
  cel : Cel w g 56 #[.bool true, I s.most, I s.room, .map (some b)]
  ex : ∃ Q : List T, lst Q = s.l ∧ Mp Try.prog 9 w b (vs Q) ∧ ∀ p ∈ Q, Dq w p.2.l p.2.a p.2.c
  ok : s.Ok
section
variable {w w' : World} {g b : Nat} {s : St} {S : List Nat}
theorem FW.keep (h : FW w g b s) (k : Only S w w') (q : Kq w w') (hb : b ∉ S) : FW w' g b s := by
  obtain ⟨Q, h1, h2, h3⟩ := h.ex
  exact ⟨q.cel h.cel (by decide), ⟨Q, h1, h2.only k hb, fun p hp => (h3 p hp).keep q⟩, h.ok⟩
theorem FW.below (h : FW w g b s) (k : Below w.heap.size w w') : FW w' g b s := h.keep (Only.of_below (S := []) k) (.of_below k) (by simp)
theorem FW.draws (h : FW w g b s) (n : Nat) : FW (w.drewN n) g b s := h.below (drewN_below _ _)
theorem FW.lt (h : FW w g b s) : g < w.heap.size ∧ b < w.heap.size := by
  obtain ⟨Q, h1, h2, h3⟩ := h.ex
  exact ⟨h.cel.lt, h2.lt⟩
theorem FW.kq (h : FW w g b s) (k : Only [b] w w') : Kq w w' := .of_only k fun x hx => by
  obtain ⟨Q, h1, h2, h3⟩ := h.ex
  rw [List.mem_singleton] at hx
  subst hx
  exact not_mp h2
/-- two Stores, one map: no -/
theorem FW_len {Q : List T} (h1 : lst Q = s.l) : Q.length = s.l.length := by rw [← h1]; simp [lst]
end
theorem map_ty : Try.prog.underlying 54 = some (.map 9 30) := Try.underlying54
end Go.Proofs.Ytbeekfbcflmemaa.Fil
