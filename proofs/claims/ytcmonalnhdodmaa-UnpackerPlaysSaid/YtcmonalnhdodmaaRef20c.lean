/-
  The reference of layer 20: its state, what Take leaves of it; the bytes that its loop looks at.
-/
import Derived.Test.YtcmonalnhdodmaaRef20b
import Derived.Test.YtcmonalnhdodmaaUnpW2
namespace Go.Proofs.Ytcmonalnhdodmaa.Unp
open Go.RowKit Go.Proofs.Ytcmonalnhdodmaa.Row Lst
open Pac (bel_new siE siN tot b8 siE_short siE_zero Cel.later)

/-! ### plain mathematics -/
structure RU where
  st : Bool
  nx : Nat
  lo : Nat
  sp : Bool
  rs : List Byte
def RU.us (r : RU) : US := ⟨r.st, r.nx, r.lo, if r.sp then r.rs else []⟩
structure RU.Ok (r : RU) : Prop where
  k : Rok r.rs
  e : r.nx < 256
def RU.flw (r : RU) (c : Nat) : RU := ⟨true, (c + 1) % 256, r.lo + dst r.us c, r.sp && decide (dst r.us c = 0), r.rs⟩
theorem RU.flw_us (r : RU) (c : Nat) : (r.flw c).us = Unp.flw r.us c := by
  unfold RU.flw RU.us Unp.flw
  simp only
  congr 1
  by_cases h : dst ⟨r.st, r.nx, r.lo, if r.sp = true then r.rs else []⟩ c = 0 <;> simp [h]
theorem fit_fts {r d : List Byte} (hok : Rok r) (h : 0 < r.length) {f : Int} (hf : 0 ≤ f) : fts r f d = decide (f = fit r d) := by
  have hs := hok.short (d := d)
  unfold fit fts
  by_cases h0 : d.length = 0
  · have hd : d = [] := List.eq_nil_of_length_eq_zero h0
    subst hd
    rw [List.append_nil] at hs ⊢
    rw [if_pos h0]
    rcases hok with h1 | ⟨h1, h2⟩
    · rw [(siE_short h1).1]
      simp
    · rw [h1]
      simp
      omega
  · rw [if_neg h0, if_neg (show ¬ r.length = 0 by omega)]
    by_cases h6 : r.length + d.length < 6
    · rw [if_pos h6, (siE_short (l := r ++ d) (by rw [List.length_append]; exact h6)).1, if_pos rfl]
    · rw [if_neg h6, if_neg (fun k => h6 (by rw [← List.length_append]; exact siE_three.1 k))]
      by_cases hz : siE (r ++ d) = 0
      · have hz' : ¬ siE (r ++ d) ≠ 0 := fun k => k hz
        rw [if_neg hz', if_neg hz', List.length_append]
        by_cases hq : tot (r ++ d) < r.length + d.length
        · rw [if_pos hq, if_neg (by omega)]
        · rw [if_neg hq, if_pos (by omega)]
      · rw [if_pos hz, if_pos hz]
        exact (decide_eq_false (by omega)).symm
theorem stm_fit {r d : List Byte} (hok : Rok r) {f : Int} (hf : 0 ≤ f) (h : f = fit r d) : stm r f d = r ++ d := by
  unfold stm
  by_cases h0 : 0 < r.length
  · rw [if_pos ⟨fun k => by rw [k] at h0; simp at h0, by rw [fit_fts hok h0 hf]; exact decide_eq_true h⟩]
  · have hr : r = [] := List.eq_nil_of_length_eq_zero (by omega)
    subst hr
    rw [if_neg (fun k => k.1 rfl), List.nil_append]
    unfold fit at h
    by_cases hd : d.length = 0
    · rw [if_pos hd] at h
      rw [if_pos h, List.eq_nil_of_length_eq_zero hd]
    · rw [if_neg hd, if_pos (by simp)] at h
      rw [if_neg (by omega), h]
      rfl
theorem stm_not {r d : List Byte} (hok : Rok r) {f : Int} (hf : 0 ≤ f) (h : f ≠ fit r d) : stm r f d = if f = 2047 then [] else d.drop f.toNat := by
  unfold stm
  by_cases h0 : 0 < r.length
  · rw [if_neg (fun k => by rw [fit_fts hok h0 hf] at k; exact h (of_decide_eq_true k.2))]
  · have hr : r = [] := List.eq_nil_of_length_eq_zero (by omega)
    rw [if_neg (fun k => k.1 hr)]
theorem stm_out {f : Int} (d : List Byte) : stm [] f d = if f = 2047 then [] else d.drop f.toNat := by
  unfold stm
  rw [if_neg (fun k => k.1 rfl)]

/-! ### what lies below a block, or is a row of bytes -/
/-- where A leads is an old block, or a row of bytes -/
def Bb (B : Nat) (w : World) (A : Option Addr) : Prop := ∀ x ∈ blkA A, x < B ∨ ∃ cs, Cel w x 5 cs
section
variable {w w' : World} {B n c : Nat} {A : Option Addr} {S : List Nat} {l : List Byte}
theorem Bb.only (h : Bb B w A) (k : Only S w w') (hS : ∀ x ∈ S, w.heap.size ≤ x ∨ (B ≤ x ∧ ∃ t cs, t ≠ 5 ∧ Cel w x t cs)) : (∀ x ∈ blkA A, x ∉ S ∨ w.heap.size ≤ x) ∧ Bb B w' A := by
  have hne : ∀ x ∈ blkA A, x ∉ S ∨ w.heap.size ≤ x := fun x hx => by
    by_cases hm : x ∈ S
    · rcases hS x hm with h1 | ⟨h1, t, cs, h2, h3⟩
      · exact .inr h1
      · rcases h x hx with h4 | ⟨cs', h4⟩
        · omega
        · exact absurd rfl (h4.apart h3 (fun e => h2 e.symm))
    · exact .inl hm
  refine ⟨hne, fun x hx => ?_⟩
  rcases h x hx with h1 | ⟨cs, h1⟩
  · exact .inl h1
  · rcases hne x hx with h2 | h2
    · exact .inr ⟨cs, h1.only k h2⟩
    · have := h1.lt; omega
theorem Bb.rd (h : Bb B w A) (hl : Rd w A l n c) (hlt : ∀ x ∈ blkA A, x < w.heap.size) (k : Only S w w') (hS : ∀ x ∈ S, w.heap.size ≤ x ∨ (B ≤ x ∧ ∃ t cs, t ≠ 5 ∧ Cel w x t cs)) : Rd w' A l n c :=
  Rd.put hl k (fun x hx => ((h.only k hS).1 x hx).elim id (fun e => by have := hlt x hx; omega))
end
/-- bytes that are looked at: they lie in an old block, or in a row of bytes -/
structure Lk (B : Nat) (w : World) (A : Option Addr) (l : List Byte) (n c : Nat) : Prop where
  r : Rd w A l n c
  b : Bb B w A
  t : ∀ x ∈ blkA A, x < w.heap.size
section
variable {w w' : World} {B n c : Nat} {A : Option Addr} {S : List Nat} {l : List Byte}
theorem Lk.only (h : Lk B w A l n c) (k : Only S w w') (hS : ∀ x ∈ S, w.heap.size ≤ x ∨ (B ≤ x ∧ ∃ t cs, t ≠ 5 ∧ Cel w x t cs)) : Lk B w' A l n c :=
  ⟨h.b.rd h.r h.t k hS, (h.b.only k hS).2, fun x hx => Nat.lt_of_lt_of_le (h.t x hx) k.size⟩
theorem Lk.below (h : Lk B w A l n c) (k : Below w.heap.size w w') : Lk B w' A l n c := h.only (S := []) (Only.of_below k) (by simp)
theorem Lk.nil_ (w : World) (B : Nat) : Lk B w none [] 0 0 := ⟨⟨rfl, Bs.nil_, fun _ => rfl, Nat.le_refl _, by decide⟩, (fun x hx => nomatch hx), (fun x hx => nomatch hx)⟩
theorem Lk.own (h : Ow w B 5 (.slice A n c) l) (hn : l.length = n) : Lk B w A l n c :=
  have hm := Md.of h hn
  ⟨Md.rd (hm.more (Nat.zero_le _)), fun x hx => .inr (hm.cel x hx), fun x hx => (hm.lt x hx).2⟩
theorem Lk.drop (h : Lk B w A l n c) {k : Nat} (hk : k ≤ n) : Lk B w (if c = k then A else A.map (fun x => x.add k)) (l.drop k) (n - k) (c - k) := by
  have hb := blkA_drop A c k
  refine ⟨h.r.drop hk, fun x hx => h.b x (by rw [← hb]; exact hx), fun x hx => h.t x (by rw [← hb]; exact hx)⟩
theorem Rd.blk (h : Rd w A l n c) (h0 : 0 < n) : ∀ x ∈ blkA A, x < w.heap.size := fun x hx => by
  obtain ⟨b, off, rfl, hb, _⟩ := h.at_ h0
  obtain rfl : x = b := by simpa [blkA] using hx
  exact hb
/-- what was there already -/
theorem Lk.old (h : Rd w A l n c) (h0 : 0 < n) : Lk w.heap.size w A l n c := ⟨h, fun x hx => .inl (Rd.blk h h0 x hx), Rd.blk h h0⟩
end

/-! ### what Take leaves -/
structure XtOut (w : World) (A : Option Addr) (s' : US) (O : List (List Byte)) (r' : RU) (A' : Option Addr) (n' c' : Nat) (R : Value) (w' : World) : Prop where
  rd : Rd w' A' r'.rs n' c'
  us : r'.us = s'
  ok : r'.Ok
  lo : ∃ E, LO w' w.heap.size 26 5 R O E
  ap : ∀ x ∈ blkA A', x ∈ blkA A ∨ (w.heap.size ≤ x ∧ x < w'.heap.size)
  b : Below w.heap.size w w'
/-- a struct of five cells stored whole over another -/
def put5 (w : World) (g : Nat) (v0 v1 v2 v3 v4 : Value) : World :=
  ((((w.setCell ⟨g, 0, none⟩ v0).setCell ⟨g, 1, none⟩ v1).setCell ⟨g, 2, none⟩ v2).setCell ⟨g, 3, none⟩ v3).setCell ⟨g, 4, none⟩ v4
theorem put5_cel {w : World} {g : Nat} {t : TypeId} {x0 x1 x2 x3 x4 : Value} (h : Cel w g t #[x0, x1, x2, x3, x4]) (v0 v1 v2 v3 v4 : Value) : Cel (put5 w g v0 v1 v2 v3 v4) g t #[v0, v1, v2, v3, v4] := by
  unfold put5
  have h0 : Cel _ g t #[v0, x1, x2, x3, x4] := h.put 0 v0
  have h1 : Cel _ g t #[v0, v1, x2, x3, x4] := h0.put 1 v1
  have h2 : Cel _ g t #[v0, v1, v2, x3, x4] := h1.put 2 v2
  have h3 : Cel _ g t #[v0, v1, v2, v3, x4] := h2.put 3 v3
  exact h3.put 4 v4
theorem put5_only (w : World) (g : Nat) (v0 v1 v2 v3 v4 : Value) : Only [g] w (put5 w g v0 v1 v2 v3 v4) := by
  unfold put5
  exact set_then (set_then (set_then (set_then (set_only _ g 0 _) 1 _) 2 _) 3 _) 4 _
theorem Cel_at {w : World} {k : Nat} {t : TypeId} {cs : Array Value} (h : w.heap.size = k) : Cel (w.alloc (.cells cs t)) k t cs := by subst h; exact Cel.new _ _ _
theorem xt_results {tmps : Array Value} {W : World} {g : Nat} {u0 u1 u2 u3 u4 R : Value} (h2 : tmps.getD 8 undef = .pointer (some ⟨g, 0, none⟩)) (h3 : tmps.getD 9 undef = R)
    (hC : Cel W g 28 #[u0, u1, u2, u3, u4]) :
    (results Try.f12 tmps).run Try.prog W = .ok (.tuple #[.agg #[u0, u1, u2, u3, u4], R]) W := by
  have c0 := hC.cell 0
  have c1 := hC.cell 1
  have c2 := hC.cell 2
  have c3 := hC.cell 3
  have c4 := hC.cell 4
  simp at c0 c1 c2 c3 c4
  simp only [Array.getD_eq_getD_getElem?] at h2 h3
  simp [results, Try.results12, go_sem, h2, h3, c0, c1, c2, c3, c4]
/-- the struct's cells as values -/
def RU.cs (r : RU) (A : Option Addr) (n c : Nat) : Array Value := #[.bool r.st, .int .i64 (r.nx : Int), .int .i64 (r.lo : Int), .bool r.sp, .slice A n c]
/-- what is known behind the entry: g is the state's block, g + 1 the result's -/
structure Xs (w : World) (r : RU) (A : Option Addr) (n c : Nat) (wx : World) : Prop where
  p : Cel wx w.heap.size 28 (r.cs A n c)
  z : Cel wx (w.heap.size + 1) 28 #[.bool false, .int .i64 0, .int .i64 0, .bool false, .slice none 0 0]
  b : Below w.heap.size w wx
section
variable {w wx w2 : World} {r r2 : RU} {A A2 : Option Addr} {n c n2 c2 : Nat} {S : List Nat}
theorem Xs.start (w : World) (r : RU) (A : Option Addr) (n c : Nat) : Xs w r A n c ((w.alloc (.cells (r.cs A n c) 28)).alloc (.cells #[.bool false, .int .i64 0, .int .i64 0, .bool false, .slice none 0 0] 28)) :=
  ⟨Cel.later (Cel_at rfl) (bel_new _ _), Cel_at (by simp), (bel_new _ _).alloc (by simp) _⟩
theorem Xs.below (h : Xs w r A n c wx) (k : Below wx.heap.size wx w2) : Xs w r A n c w2 := ⟨Cel.later h.p k, Cel.later h.z k, h.b.trans (k.mono h.b.size)⟩
theorem Xs.set_ (h : Xs w r A n c wx) {i : Nat} {v : Value} (hc : (r.cs A n c).setIfInBounds i v = r2.cs A2 n2 c2) : Xs w r2 A2 n2 c2 (wx.setCell ⟨w.heap.size, i, none⟩ v) := by
  have k := set_only wx w.heap.size i v
  exact ⟨by rw [← hc]; exact h.p.put i v, h.z.only k (by simp), h.b.trans (k.below h.b.size (by simp))⟩
theorem Xs.hS (h : Xs w r A n c wx) : ∀ x ∈ [w.heap.size], wx.heap.size ≤ x ∨ (w.heap.size ≤ x ∧ ∃ t cs, t ≠ 5 ∧ Cel wx x t cs) := fun x hx => by
  rw [List.mem_singleton.1 hx]
  exact .inr ⟨Nat.le_refl _, _, _, by decide, h.p⟩
end

/-- what the loop of Take has done so far: l is left of the bytes Y, the packets O are in the slice ov -/
structure Ls (w : World) (N L : Nat) (rs : List Byte) (A : Option Addr) (n c : Nat) (Y l : List Byte) (A3 : Option Addr) (n3 c3 : Nat) (O : List (List Byte)) (ov : Value) (E : List Nat) (stp : Bool) (wr : World) : Prop where
  xs : Xs w ⟨true, N, L, stp, rs⟩ A n c wr
  lk : Lk w.heap.size wr A3 l n3 c3
  ol : LO wr w.heap.size 26 5 ov O E
  hp : prs Y = (O ++ (prs l).1, (prs l).2)
  hz : stp = false → l = []
section
variable {w wr w2 w4 w6 w8 : World} {N L n c n3 c3 n4 c4 c8 : Nat} {rs Y l x : List Byte} {A A3 A4 A8 : Option Addr} {O O' : List (List Byte)} {ov v2 : Value} {E : List Nat} {stp : Bool} {S' : US}
theorem Ls.below (h : Ls w N L rs A n c Y l A3 n3 c3 O ov E stp wr) (k : Below wr.heap.size wr w2) : Ls w N L rs A n c Y l A3 n3 c3 O ov E stp w2 := ⟨h.xs.below k, h.lk.below k, h.ol.below k, h.hp, h.hz⟩
theorem Ls.draws (h : Ls w N L rs A n c Y l A3 n3 c3 O ov E stp wr) (k : Nat) : Ls w N L rs A n c Y l A3 n3 c3 O ov E stp (wr.drewN k) := h.below ⟨rfl, rfl, rfl, Nat.le_refl _, fun _ _ => rfl⟩
theorem Ls.start (hx : Xs w ⟨true, N, L, true, rs⟩ A n c wr) (hl : Lk w.heap.size wr A3 Y n3 c3) : Ls w N L rs A n c Y Y A3 n3 c3 [] (.slice none 0 0) [] true wr := ⟨hx, hl, LO.nil_ _ _ _ _, rfl, fun h => nomatch h⟩
theorem Ls.len (h : Ls w N L rs A n c Y l A3 n3 c3 O ov E stp wr) : O.length ≤ Y.length := by
  have := prs_len Y
  rw [h.hp, List.length_append] at this
  omega
/-- a malformed header -/
theorem Ls.bad (h : Ls w N L rs A n c Y l A3 n3 c3 O ov E true wr) (h6 : ¬ l.length < 6) (hb : siE l ≠ 0) : Ls w N L rs A n c Y [] none 0 0 O ov E false (wr.setCell ⟨w.heap.size, 3, none⟩ (.bool false)) := by
  have k := set_only wr w.heap.size 3 (.bool false)
  refine ⟨h.xs.set_ rfl, Lk.nil_ _ _, h.ol.only k (fun i hi hm => h.ol.row_apart h.xs.p (by decide) (by rw [hi, List.mem_singleton.1 hm])) (fun i hi hm => h.ol.el_apart h.xs.p (by decide) (List.mem_singleton.1 hm ▸ hi)), ?_, fun _ => rfl⟩
  rw [h.hp, prs_bad h6 hb, prs_few (l := []) (by simp)]
/-- an idle packet is skipped -/
theorem Ls.skip (h : Ls w N L rs A n c Y l A3 n3 c3 O ov E true wr) (hs : siE l = 0) (ht : tot l ≤ n3) (hi : idl l = true) :
    Ls w N L rs A n c Y (l.drop (tot l)) (if c3 = tot l then A3 else A3.map (fun x => x.add (tot l))) (n3 - tot l) (c3 - tot l) O ov E true wr := by
  refine ⟨h.xs, h.lk.drop ht, h.ol, ?_, fun h => nomatch h⟩
  rw [prs_step h.hp hs (by have := h.lk.r.len; omega), hi, if_pos rfl, List.append_nil]
/-- a packet more -/
theorem Ls.add {ob : Obj} {qs : List Qb} (h : Ls w N L rs A n c Y l A3 n3 c3 O ov E true wr) (hs : siE l = 0) (ht : tot l ≤ n3) (hi : idl l = false)
    (o4 : Ow w4 wr.heap.size 5 (.slice A4 n4 c4) (l.take (tot l))) (hn : (l.take (tot l)).length = n4) (b4 : Below wr.heap.size wr w4)
    (he : qs.map (·.l) = O) (h3 : ∀ q ∈ qs, Ow (w4.alloc ob) w.heap.size 5 q.v q.l ∧ ∀ k, q.v.ownBlock = some k → k ∈ E) {row : Option Nat} (hR : ov.ownBlock = row) (hg6 : (w4.alloc ob).grownBy w6 row) (ho6 : Row.Os enc 1 w6 w.heap.size 26 v2 (qs ++ [⟨l.take (tot l), A4, c4⟩])) :
    Ls w N L rs A n c Y (l.drop (tot l)) (if c3 = tot l then A3 else A3.map (fun x => x.add (tot l))) (n3 - tot l) (c3 - tot l) (O ++ [l.take (tot l)]) v2 (E ++ (Value.slice A4 n4 c4).ownBlock.toList) true w6 := by
  have b5 : Below wr.heap.size wr (w4.alloc ob) := b4.alloc b4.size ob
  have l5 := h.ol.below b5
  have x5 := h.xs.below b5
  have k6 := Only.of_grown hg6
  have hrow : ∀ i ∈ row.toList, (w4.alloc ob).heap.size ≤ i ∨ (w.heap.size ≤ i ∧ ∃ t cs, t ≠ 5 ∧ Cel (w4.alloc ob) i t cs) := fun i hi => by
    have hi : ov.ownBlock = some i := by rw [hR]; simpa using hi
    obtain ⟨⟨qs', _, h2, _⟩, _⟩ := l5
    obtain ⟨cs, hc⟩ := own_cel h2 hi
    exact .inr ⟨(h2.lt i hi).1, _, cs, by decide, hc⟩
  have hng : ∀ i ∈ row.toList, i ≠ w.heap.size ∧ i ≠ w.heap.size + 1 := fun i hi => by
    have hi : ov.ownBlock = some i := by rw [hR]; simpa using hi
    exact ⟨fun e => l5.row_apart x5.p (by decide) (e ▸ hi), fun e => l5.row_apart x5.z (by decide) (e ▸ hi)⟩
  refine ⟨⟨x5.p.only k6 (fun hm => (hng _ hm).1 rfl), x5.z.only k6 (fun hm => (hng _ hm).2 rfl), x5.b.trans (k6.below x5.b.size (fun i hi => ?_))⟩, (((h.lk.below b5).only k6 hrow).drop ht), h.ol.push1 (by decide) o4 h.xs.b.size hn b4 he h3 hR hg6 ho6, ?_, fun h => nomatch h⟩
  · rcases hrow i hi with h1 | h1
    · exact Nat.le_trans x5.b.size h1
    · exact h1.1
  · rw [prs_step h.hp hs (by have := h.lk.r.len; omega), hi]
    simp
/-- the end -/
theorem Ls.done (h : Ls w N L rs A n c Y l A3 n3 c3 O ov E stp wr) (hp : prs Y = (O, l)) (b8 : Below wr.heap.size wr w8) (o8 : Ow w8 wr.heap.size 5 (.slice A8 n3 c8) l)
    (hS : (⟨true, N, L, (prs Y).2⟩ : US) = S') (hO : (prs Y).1 = O') (hN : N < 256) :
    Cel (put5 (w8.setCell ⟨w.heap.size, 4, none⟩ (.slice A8 n3 c8)) (w.heap.size + 1) (.bool true) (.int .i64 (N : Int)) (.int .i64 (L : Int)) (.bool stp) (.slice A8 n3 c8)) (w.heap.size + 1) 28 #[.bool true, .int .i64 (N : Int), .int .i64 (L : Int), .bool stp, .slice A8 n3 c8] ∧
    XtOut w A S' O' ⟨true, N, L, stp, l⟩ A8 n3 c8 ov (put5 (w8.setCell ⟨w.heap.size, 4, none⟩ (.slice A8 n3 c8)) (w.heap.size + 1) (.bool true) (.int .i64 (N : Int)) (.int .i64 (L : Int)) (.bool stp) (.slice A8 n3 c8)) := by
  have x8 := h.xs.below b8
  have x9 : Xs w ⟨true, N, L, stp, l⟩ A8 n3 c8 (w8.setCell ⟨w.heap.size, 4, none⟩ (.slice A8 n3 c8)) := x8.set_ rfl
  obtain ⟨W, hW⟩ : ∃ W, W = put5 (w8.setCell ⟨w.heap.size, 4, none⟩ (.slice A8 n3 c8)) (w.heap.size + 1) (.bool true) (.int .i64 (N : Int)) (.int .i64 (L : Int)) (.bool stp) (.slice A8 n3 c8) := ⟨_, rfl⟩
  have q := put5_cel x9.z (.bool true) (.int .i64 (N : Int)) (.int .i64 (L : Int)) (.bool stp) (.slice A8 n3 c8)
  have k5 := put5_only (w8.setCell ⟨w.heap.size, 4, none⟩ (.slice A8 n3 c8)) (w.heap.size + 1) (.bool true) (.int .i64 (N : Int)) (.int .i64 (L : Int)) (.bool stp) (.slice A8 n3 c8)
  rw [← hW] at q k5 ⊢
  have kk : Only [w.heap.size, w.heap.size + 1] w8 W := ((set_only w8 w.heap.size 4 (.slice A8 n3 c8)).more (T := [w.heap.size, w.heap.size + 1]) (fun x hx => .inl (by simp at hx; simp [hx]))).trans k5 (fun x hx => .inl (by simp at hx; simp [hx]))
  have lo8 := h.ol.below b8
  have hgs : ∀ i ∈ [w.heap.size, w.heap.size + 1], ∃ cs, Cel w8 i 28 cs := fun i hi => by
    rcases List.mem_cons.1 hi with rfl | hi
    · exact ⟨_, x8.p⟩
    · rw [List.mem_singleton.1 hi]; exact ⟨_, x8.z⟩
  have hl3 : l.length = n3 := h.lk.r.len
  have lk : Lk w.heap.size w8 A8 l n3 c8 := Lk.own (o8.more h.xs.b.size) hl3
  have lkW := lk.only kk (fun i hi => by
    obtain ⟨cs, hc⟩ := hgs i hi
    refine .inr ⟨?_, _, cs, by decide, hc⟩
    rcases List.mem_cons.1 hi with rfl | hi
    · exact Nat.le_refl _
    · rw [List.mem_singleton.1 hi]; omega)
  have hrs : (if stp = true then l else []) = l := by
    cases stp with
    | true => rfl
    | false => rw [h.hz rfl]; rfl
  refine ⟨q, lkW.r, ?_, ⟨?_, hN⟩, ⟨E, ?_⟩, fun x hx => .inr ?_, x9.b.trans (k5.below x9.b.size (by simp))⟩
  · rw [← hS, hp]
    show (⟨true, N, L, if stp = true then l else []⟩ : US) = _
    rw [hrs]
  · have := prs_ok Y
    rw [hp] at this
    exact this
  · rw [← hO, hp]
    exact lo8.only kk (fun i hi hm => by
      obtain ⟨cs, hc⟩ := hgs i hm
      exact lo8.row_apart hc (by decide) hi) (fun i hi hm => by
      obtain ⟨cs, hc⟩ := hgs i hm
      exact lo8.el_apart hc (by decide) hi)
  · rw [blkA_own A8 n3 c8] at hx
    have h1 := o8.lt x (by simpa using hx)
    have h2 := h.xs.b.size
    have h3 := kk.size
    omega
end
end Go.Proofs.Ytcmonalnhdodmaa.Unp
