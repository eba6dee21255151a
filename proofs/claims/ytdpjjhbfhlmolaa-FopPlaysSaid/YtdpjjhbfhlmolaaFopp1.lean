/-
  Ref17a Ref17b Ref17c Ref17d, one after another.
-/
import Derived.Test.YtdpjjhbfhlmolaaFops1
import Derived.Deep.QuietTactic
import Derived.BigQuiet
import Derived.BigRegion

/-
  The reference of layer 17: a sending end by value; clamp, New, at.
-/
namespace Go.Proofs.Ytdpjjhbfhlmolaa.Fop
open Go.RowKit
open Pac (bel_new Cel.later)
open Tcf (Fr)

/-- a struct of fourteen cells stored whole over another -/
def put14 (w : World) (g : Nat) (v0 v1 v2 v3 v4 v5 v6 v7 v8 v9 v10 v11 v12 v13 : Value) : World :=
  (((((((((((((w.setCell ⟨g, 0, none⟩ v0).setCell ⟨g, 1, none⟩ v1).setCell ⟨g, 2, none⟩ v2).setCell ⟨g, 3, none⟩ v3).setCell ⟨g, 4, none⟩ v4).setCell ⟨g, 5, none⟩ v5).setCell ⟨g, 6, none⟩ v6).setCell ⟨g, 7, none⟩ v7).setCell ⟨g, 8, none⟩ v8).setCell ⟨g, 9, none⟩ v9).setCell ⟨g, 10, none⟩ v10).setCell ⟨g, 11, none⟩ v11).setCell ⟨g, 12, none⟩ v12).setCell ⟨g, 13, none⟩ v13
theorem put14_cel {w : World} {g : Nat} {t : TypeId} {x0 x1 x2 x3 x4 x5 x6 x7 x8 x9 x10 x11 x12 x13 : Value} (h : Cel w g t #[x0, x1, x2, x3, x4, x5, x6, x7, x8, x9, x10, x11, x12, x13]) (v0 v1 v2 v3 v4 v5 v6 v7 v8 v9 v10 v11 v12 v13 : Value) : Cel (put14 w g v0 v1 v2 v3 v4 v5 v6 v7 v8 v9 v10 v11 v12 v13) g t #[v0, v1, v2, v3, v4, v5, v6, v7, v8, v9, v10, v11, v12, v13] := by
  unfold put14
  have h0 : Cel _ g t #[v0, x1, x2, x3, x4, x5, x6, x7, x8, x9, x10, x11, x12, x13] := h.put 0 v0
  have h1 : Cel _ g t #[v0, v1, x2, x3, x4, x5, x6, x7, x8, x9, x10, x11, x12, x13] := h0.put 1 v1
  have h2 : Cel _ g t #[v0, v1, v2, x3, x4, x5, x6, x7, x8, x9, x10, x11, x12, x13] := h1.put 2 v2
  have h3 : Cel _ g t #[v0, v1, v2, v3, x4, x5, x6, x7, x8, x9, x10, x11, x12, x13] := h2.put 3 v3
  have h4 : Cel _ g t #[v0, v1, v2, v3, v4, x5, x6, x7, x8, x9, x10, x11, x12, x13] := h3.put 4 v4
  have h5 : Cel _ g t #[v0, v1, v2, v3, v4, v5, x6, x7, x8, x9, x10, x11, x12, x13] := h4.put 5 v5
  have h6 : Cel _ g t #[v0, v1, v2, v3, v4, v5, v6, x7, x8, x9, x10, x11, x12, x13] := h5.put 6 v6
  have h7 : Cel _ g t #[v0, v1, v2, v3, v4, v5, v6, v7, x8, x9, x10, x11, x12, x13] := h6.put 7 v7
  have h8 : Cel _ g t #[v0, v1, v2, v3, v4, v5, v6, v7, v8, x9, x10, x11, x12, x13] := h7.put 8 v8
  have h9 : Cel _ g t #[v0, v1, v2, v3, v4, v5, v6, v7, v8, v9, x10, x11, x12, x13] := h8.put 9 v9
  have h10 : Cel _ g t #[v0, v1, v2, v3, v4, v5, v6, v7, v8, v9, v10, x11, x12, x13] := h9.put 10 v10
  have h11 : Cel _ g t #[v0, v1, v2, v3, v4, v5, v6, v7, v8, v9, v10, v11, x12, x13] := h10.put 11 v11
  have h12 : Cel _ g t #[v0, v1, v2, v3, v4, v5, v6, v7, v8, v9, v10, v11, v12, x13] := h11.put 12 v12
  exact h12.put 13 v13
theorem put14_only (w : World) (g : Nat) (v0 v1 v2 v3 v4 v5 v6 v7 v8 v9 v10 v11 v12 v13 : Value) : Only [g] w (put14 w g v0 v1 v2 v3 v4 v5 v6 v7 v8 v9 v10 v11 v12 v13) := by
  unfold put14
  exact only_put (only_put (only_put (only_put (only_put (only_put (only_put (only_put (only_put (only_put (only_put (only_put (only_put ((put_only _ g 0 _)) 1 _) 2 _) 3 _) 4 _) 5 _) 6 _) 7 _) 8 _) 9 _) 10 _) 11 _) 12 _) 13 _

theorem no_byte {l : List Value} (h : ∀ v ∈ l, ∀ x : Byte, v ≠ B8 x) : ∀ (i : Nat) (x : Byte), (l.toArray)[i]? ≠ some (B8 x) := fun i x e => h _ (List.mem_of_getElem? (by simpa using e)) x rfl

theorem Cel_at {w : World} {k : Nat} {t : TypeId} {cs : Array Value} (h : w.heap.size = k) : Cel (w.alloc (.cells cs t)) k t cs := by subst h; exact Cel.new _ _ _

/-- the time of a call -/
def adn (n m : Int) : Int := if m < n ∧ n ≤ 1099511627776 then n else m
theorem adv_adn (n : Int) (s : Fs) : adv n s = { s with nw := adn n s.nw } := by unfold adv adn; split <;> rfl

set_option maxHeartbeats 400000 in
theorem clamp_any (n lo hi : Int) (w : World) :
    Calls Try.prog 35 #[.int .i64 n, .int .i64 lo, .int .i64 hi] w fun e w' => e = .returned (.int .i64 (clp n lo hi)) ∧ w = w' := by
  obtain ⟨M, hM⟩ : ∃ M, M = max n lo := ⟨_, rfl⟩
  obtain ⟨m1, m2, m3, m4⟩ := clp_facts n lo hi M hM
  obtain ⟨X, hX⟩ : ∃ X, X = clp n lo hi := ⟨_, rfl⟩
  rw [← hX] at m3 m4 ⊢
  clear hM hX
  go_enter Try.func35, Try.ntmps35
  go_wp2
  go_ret
  exact ⟨rfl, rfl⟩
theorem xn_results {tmps : Array Value} {W : World} {g : Nat} {u0 u1 u2 u3 u4 u5 u6 u7 u8 u9 u10 u11 u12 u13 : Value} (h2 : tmps.getD 10 undef = .pointer (some ⟨g, 0, none⟩))
    (hC : Cel W g 31 #[u0, u1, u2, u3, u4, u5, u6, u7, u8, u9, u10, u11, u12, u13]) :
    (results Try.f11 tmps).run Try.prog W = .ok (.agg #[u0, u1, u2, u3, u4, u5, u6, u7, u8, u9, u10, u11, u12, u13]) W := by
  have c0 := hC.cell 0
  have c1 := hC.cell 1
  have c2 := hC.cell 2
  have c3 := hC.cell 3
  have c4 := hC.cell 4
  have c5 := hC.cell 5
  have c6 := hC.cell 6
  have c7 := hC.cell 7
  have c8 := hC.cell 8
  have c9 := hC.cell 9
  have c10 := hC.cell 10
  have c11 := hC.cell 11
  have c12 := hC.cell 12
  have c13 := hC.cell 13
  simp at c0 c1 c2 c3 c4 c5 c6 c7 c8 c9 c10 c11 c12 c13
  simp only [Array.getD_eq_getD_getElem?] at h2
  simp [results, Try.results11, go_sem, h2, c0, c1, c2, c3, c4, c5, c6, c7, c8, c9, c10, c11, c12, c13]
theorem xat_results {tmps : Array Value} {W : World} {g : Nat} {u0 u1 u2 u3 u4 u5 u6 u7 u8 u9 u10 u11 u12 u13 : Value} (h2 : tmps.getD 4 undef = .pointer (some ⟨g, 0, none⟩))
    (hC : Cel W g 31 #[u0, u1, u2, u3, u4, u5, u6, u7, u8, u9, u10, u11, u12, u13]) :
    (results Try.f44 tmps).run Try.prog W = .ok (.agg #[u0, u1, u2, u3, u4, u5, u6, u7, u8, u9, u10, u11, u12, u13]) W := by
  have c0 := hC.cell 0
  have c1 := hC.cell 1
  have c2 := hC.cell 2
  have c3 := hC.cell 3
  have c4 := hC.cell 4
  have c5 := hC.cell 5
  have c6 := hC.cell 6
  have c7 := hC.cell 7
  have c8 := hC.cell 8
  have c9 := hC.cell 9
  have c10 := hC.cell 10
  have c11 := hC.cell 11
  have c12 := hC.cell 12
  have c13 := hC.cell 13
  simp at c0 c1 c2 c3 c4 c5 c6 c7 c8 c9 c10 c11 c12 c13
  simp only [Array.getD_eq_getD_getElem?] at h2
  simp [results, Try.results44, go_sem, h2, c0, c1, c2, c3, c4, c5, c6, c7, c8, c9, c10, c11, c12, c13]

set_option maxHeartbeats 4000000 in
theorem xnew17_any (K H W T R : Int) (w : World) {K' H' W' T' R' : Int} (hK : clp K 0 1023 = K') (hH : clp H 0 7 = H') (hW : clp W 1 127 = W') (hT : clp T 1 1099511627776 = T') (hR : clp R 0 255 = R') :
    Calls Try.prog 11 #[.int .i64 K, .int .i64 H, .int .i64 W, .int .i64 T, .int .i64 R] w fun e w' => e = .returned (.agg #[.int .i64 K', .int .i64 H', .int .i64 W', .int .i64 T', .int .i64 R', .int .i64 1, .slice none 0 0, .int .i64 0, .int .i64 0, .int .i64 0, .slice none 0 0, .int .i64 0, .int .i64 0, .int .i64 0]) ∧ Below w.heap.size w w' := by
  have x1 := fun w => clamp_any K 0 1023 w
  have x2 := fun w => clamp_any H 0 7 w
  have x3 := fun w => clamp_any W 1 127 w
  have x4 := fun w => clamp_any T 1 1099511627776 w
  have x5 := fun w => clamp_any R 0 255 w
  rw [hK] at x1
  rw [hH] at x2
  rw [hW] at x3
  rw [hT] at x4
  rw [hR] at x5
  have pz := Cel.new w 31 #[.int .i64 0, .int .i64 0, .int .i64 0, .int .i64 0, .int .i64 0, .int .i64 0, .slice none 0 0, .int .i64 0, .int .i64 0, .int .i64 0, .slice none 0 0, .int .i64 0, .int .i64 0, .int .i64 0]
  have bz := bel_new w (.cells #[.int .i64 0, .int .i64 0, .int .i64 0, .int .i64 0, .int .i64 0, .int .i64 0, .slice none 0 0, .int .i64 0, .int .i64 0, .int .i64 0, .slice none 0 0, .int .i64 0, .int .i64 0, .int .i64 0] 31)
  clear hK hH hW hT hR
  go_enter Try.func11, Try.ntmps11
  go_wp2_with fail
  refine (x1 _).mono ?_
  rintro e w1 ⟨rfl, rfl⟩
  go_wp2_with fail
  refine (x2 _).mono ?_
  rintro e w1 ⟨rfl, rfl⟩
  go_wp2_with fail
  refine (x3 _).mono ?_
  rintro e w1 ⟨rfl, rfl⟩
  go_wp2_with fail
  refine (x4 _).mono ?_
  rintro e w1 ⟨rfl, rfl⟩
  go_wp2_with fail
  refine (x5 _).mono ?_
  rintro e w1 ⟨rfl, rfl⟩
  go_wp2
  exact bodyPost_ret (xn_results rfl (Cel.new _ _ _)) rfl ⟨rfl, bel_new _ _⟩

set_option maxHeartbeats 4000000 in
theorem xat_any (m : Int) (K H W T R st : Int) (A : Option Addr) (n c : Nat) (ac fl fr : Int) (A2 : Option Addr) (n2 c2 : Nat) (nw tm rp : Int) (w : World) {nw' : Int} (hN : adn m nw = nw') :
    Calls Try.prog 44 #[.agg #[.int .i64 K, .int .i64 H, .int .i64 W, .int .i64 T, .int .i64 R, .int .i64 st, .slice A n c, .int .i64 ac, .int .i64 fl, .int .i64 fr, .slice A2 n2 c2, .int .i64 nw, .int .i64 tm, .int .i64 rp], .int .i64 m] w fun e w' => e = .returned (.agg #[.int .i64 K, .int .i64 H, .int .i64 W, .int .i64 T, .int .i64 R, .int .i64 st, .slice A n c, .int .i64 ac, .int .i64 fl, .int .i64 fr, .slice A2 n2 c2, .int .i64 nw', .int .i64 tm, .int .i64 rp]) ∧ Below w.heap.size w w' := by
  by_cases h1 : nw < m
  · by_cases h2 : m ≤ 1099511627776
    · have e : nw' = m := by rw [← hN]; unfold adn; rw [if_pos ⟨h1, h2⟩]
      subst e
      clear hN
      go_enter Try.func44, Try.ntmps44
      go_wp2
      exact bodyPost_ret (xat_results rfl (Cel_at (by simp))) rfl ⟨rfl, (bel_new _ _).alloc (by simp) _⟩
    · have e : nw' = nw := by rw [← hN]; unfold adn; rw [if_neg (fun h => h2 h.2)]
      subst e
      have h3 : 1099511627776 < m := by omega
      clear hN h2
      go_enter Try.func44, Try.ntmps44
      go_wp2
      exact bodyPost_ret (xat_results rfl (Cel_at (by simp))) rfl ⟨rfl, (bel_new _ _).alloc (by simp) _⟩
  · have e : nw' = nw := by rw [← hN]; unfold adn; rw [if_neg (fun h => h1 h.1)]
    subst e
    have h3 : m ≤ nw' := by omega
    clear hN h1
    go_enter Try.func44, Try.ntmps44
    go_wp2
    exact bodyPost_ret (xat_results rfl (Cel_at (by simp))) rfl ⟨rfl, (bel_new _ _).alloc (by simp) _⟩
end Go.Proofs.Ytdpjjhbfhlmolaa.Fop

/-
  The reference of layer 17: the memory of its units (US), Send.
-/
namespace Go.Proofs.Ytdpjjhbfhlmolaa.Fop
open Go.RowKit
open Pac (bel_new Cel.later)
open Lst (Qb)

/-- a block that neither a sending end's calls nor a store to the reference's variable write -/
def Bt (w : World) (b : Nat) : Prop := ∃ t cs, Cel w b t cs ∧ t ≠ 70 ∧ t ≠ 9 ∧ t ≠ 31
/-- all such blocks stay -/
def Kq (w w' : World) : Prop := ∀ b t cs, Cel w b t cs → t ≠ 70 → t ≠ 9 → t ≠ 31 → Cel w' b t cs
section
variable {w w' w2 : World} {b n c : Nat} {l : List Byte} {a A : Option Addr} {ls us : List (List Byte)}
theorem Kq.of_below (h : Below w.heap.size w w') : Kq w w' := fun b _ _ hc _ _ _ => (h.block b hc.lt).trans hc
theorem Kq.trans (h : Kq w w') (k : Kq w' w2) : Kq w w2 := fun b t cs hc h1 h2 h3 => k b t cs (h b t cs hc h1 h2 h3) h1 h2 h3
theorem Kq.of_ref {X : Nat} {cs : Array Value} (h : Cel w X 31 cs) (k : Only [X] w w') : Kq w w' := fun b t cs' hc _ _ h3 => hc.only k (by rw [List.mem_singleton]; exact fun e => Cel.apart hc h h3 e)
theorem Bt.lt (h : Bt w b) : b < w.heap.size := by
  obtain ⟨t, cs, h, _⟩ := h
  exact h.lt
theorem Bt.keep (h : Bt w b) (k : Kq w w') : Bt w' b := by
  obtain ⟨t, cs, hc, h1, h2, h3⟩ := h
  exact ⟨t, cs, k b t cs hc h1 h2 h3, h1, h2, h3⟩
theorem Bt.cell (h : Bt w b) (k : Kq w w') (i : Nat) : w'.cell? ⟨b, i, none⟩ = w.cell? ⟨b, i, none⟩ := by
  obtain ⟨t, cs, hc, h1, h2, h3⟩ := h
  rw [(k b t cs hc h1 h2 h3).cell, hc.cell]

/-- bytes in such a block -/
structure Dq (w : World) (l : List Byte) (a : Option Addr) (c : Nat) : Prop where
  b : 0 < l.length → ∃ b off, a = some ⟨b, off, none⟩ ∧ Bt w b ∧ ∀ i x, l[i]? = some x → w.cell? ⟨b, off + i, none⟩ = some (B8 x)
  n : a = none → c = 0
  l : l.length ≤ c
  m : c ≤ maxLen
theorem Dq.keep (h : Dq w l a c) (k : Kq w w') : Dq w' l a c := ⟨fun hl => by
  obtain ⟨b, off, e, hb, hc⟩ := h.b hl
  exact ⟨b, off, e, hb.keep k, fun i x hx => (hb.cell k _).trans (hc i x hx)⟩, h.n, h.l, h.m⟩
theorem Dq.bs (h : Dq w l a c) : Bs w w.heap.size a l := fun hl => by
  obtain ⟨b, off, e, hb, hc⟩ := h.b hl
  exact ⟨b, off, e, hb.lt, hc⟩
theorem Dq.rd (h : Dq w l a c) (hn : l.length = n) : Rd w a l n c := ⟨hn, h.bs, h.n, by rw [← hn]; exact h.l, h.m⟩
theorem Dq.own {base : Nat} (h : Ow w base 5 (.slice a n c) l) : Dq w l a c := by
  obtain ⟨A', c', hv, hb, hn, hl, hm⟩ := h.reads
  injection hv with h1 h2 h3
  subst h1 h2 h3
  refine ⟨fun h0 => ?_, hn, hl, hm⟩
  obtain ⟨b, off, rfl, hlt, hc⟩ := hb h0
  obtain ⟨cs, hcel⟩ := Lst.own_cel h (i := b) rfl
  exact ⟨b, off, rfl, ⟨_, cs, hcel, by decide, by decide, by decide⟩, hc⟩

/-- 'A' leads to byte strings; they and their slices lie in such blocks -/
def LT (w : World) (A : Option Addr) (ls : List (List Byte)) : Prop := ∃ qs : List Qb, qs.map (·.l) = ls ∧
  (0 < qs.length → ∃ b off, A = some ⟨b, off, none⟩ ∧ Bt w b ∧ ∀ i q, qs[i]? = some q → w.cell? ⟨b, off + i, none⟩ = some (.slice q.a q.l.length q.c)) ∧ ∀ q ∈ qs, Dq w q.l q.a q.c
theorem LT.nil_ : LT w A [] := ⟨[], rfl, fun h => absurd h (by simp), fun q hq => by cases hq⟩
theorem LT.keep (h : LT w A ls) (k : Kq w w') : LT w' A ls := by
  obtain ⟨qs, h1, h2, h3⟩ := h
  refine ⟨qs, h1, fun hl => ?_, fun q hq => (h3 q hq).keep k⟩
  obtain ⟨b, off, e, hb, hc⟩ := h2 hl
  exact ⟨b, off, e, hb.keep k, fun i q hq => (hb.cell k _).trans (hc i q hq)⟩
theorem LT.at_ (h : LT w A ls) {i : Nat} (hl : ls[i]? = some l) : ∃ b off a c, A = some ⟨b, off, none⟩ ∧ w.cell? ⟨b, off + i, none⟩ = some (.slice a l.length c) ∧ Dq w l a c := by
  obtain ⟨qs, rfl, h2, h3⟩ := h
  rw [List.getElem?_map] at hl
  cases hq : qs[i]? with
  | none => rw [hq] at hl; cases hl
  | some q =>
    rw [hq] at hl
    injection hl with hl
    subst hl
    obtain ⟨b, off, rfl, _, hc⟩ := h2 (by have := (List.getElem?_eq_some_iff.1 hq).1; omega)
    exact ⟨b, off, q.a, q.c, rfl, hc i q hq, h3 q (List.mem_of_getElem? hq)⟩
theorem LT.drop {off : Nat} (h : LT w (some ⟨b, off, none⟩) ls) (d : Nat) : LT w (some ⟨b, off + d, none⟩) (ls.drop d) := by
  obtain ⟨qs, rfl, h2, h3⟩ := h
  refine ⟨qs.drop d, List.map_drop, fun hl => ?_, fun q hq => h3 q (List.mem_of_mem_drop hq)⟩
  obtain ⟨b', off', e, hb, hc⟩ := h2 (by rw [List.length_drop] at hl; omega)
  injection e with e
  injection e with e1 e2
  subst e1 e2
  refine ⟨b, off + d, rfl, hb, fun i q hq => ?_⟩
  rw [List.getElem?_drop] at hq
  have := hc _ q hq
  rwa [← Nat.add_assoc] at this
theorem LT.rs (h : LT w A ls) : ∃ qs : List Qb, qs.map (·.l) = ls ∧ Row.Rs Lst.enc 1 w w.heap.size A qs ∧ ∀ q ∈ qs, Dq w q.l q.a q.c := by
  obtain ⟨qs, h1, h2, h3⟩ := h
  refine ⟨qs, h1, fun hl => ?_, h3⟩
  obtain ⟨b, off, e, hb, hc⟩ := h2 hl
  refine ⟨b, off, e, hb.lt, fun i q hq j u hu => ?_⟩
  have hj : j = 0 := by
    have := (List.getElem?_eq_some_iff.1 hu).1
    simp only [Lst.enc, List.length_cons, List.length_nil] at this
    omega
  subst hj
  have e2 : (Lst.enc q)[0]? = some (.slice q.a q.l.length q.c) := rfl
  rw [e2] at hu
  injection hu with hu
  subst hu
  rw [Nat.mul_one, Nat.add_zero]
  exact hc i q hq
theorem LT.row {base : Nat} {qs : List Qb} (h : Row.Os Lst.enc 1 w base 33 (.slice A n c) qs) (h3 : ∀ q ∈ qs, Dq w q.l q.a q.c) : LT w A (qs.map (·.l)) := by
  refine ⟨qs, rfl, fun hl => ?_, h3⟩
  obtain ⟨b, off, rfl, _, hc⟩ := h.rs Lst.enc_ok hl
  obtain ⟨cs, hcel⟩ := Lst.own_cel h (i := b) rfl
  refine ⟨b, off, rfl, ⟨_, cs, hcel, by decide, by decide, by decide⟩, fun i q hq => ?_⟩
  have := hc i q hq 0 _ rfl
  rwa [Nat.mul_one, Nat.add_zero] at this

/-- the slice (A, n, c) holds the units us -/
structure US (w : World) (A : Option Addr) (n c : Nat) (us : List (List Byte)) : Prop where
  lt : LT w A us
  len : us.length = n
  nil : A = none → c = 0
  le : n ≤ c
  max : c ≤ maxLen
theorem US.keep (h : US w A n c us) (k : Kq w w') : US w' A n c us := ⟨h.lt.keep k, h.len, h.nil, h.le, h.max⟩
theorem US.below (h : US w A n c us) (k : Below w.heap.size w w') : US w' A n c us := h.keep (.of_below k)
theorem US.none_ (w : World) : US w none 0 0 [] := ⟨LT.nil_, rfl, fun _ => rfl, Nat.le_refl _, by decide⟩
end

/-- Send, as the units see it -/
def sn (d : List Byte) (us : List (List Byte)) : Int × List (List Byte) := if d.length < 1 ∨ 1017 < d.length then (1, us) else if 256 ≤ us.length then (7, us) else (0, us ++ [d])
theorem snd_sn (d : List Byte) (s : Fs) : snd d s = ((sn d s.us).1, { s with us := (sn d s.us).2 }) := by
  unfold snd sn
  split
  · rfl
  · split <;> rfl

theorem is_lists_ref : Row.IsRows Try.prog 28 33 (.slice none 0 0) 1 24 := Row.IsRows.of Try.underlying28 rfl (by kernel_rfl)
theorem xs_results {tmps : Array Value} {W : World} {g : Nat} {E : Int} {u0 u1 u2 u3 u4 u5 u6 u7 u8 u9 u10 u11 u12 u13 : Value} (h2 : tmps.getD 4 undef = .pointer (some ⟨g, 0, none⟩)) (h3 : tmps.getD 5 undef = .int .i64 E)
    (hC : Cel W g 31 #[u0, u1, u2, u3, u4, u5, u6, u7, u8, u9, u10, u11, u12, u13]) :
    (results Try.f13 tmps).run Try.prog W = .ok (.tuple #[.agg #[u0, u1, u2, u3, u4, u5, u6, u7, u8, u9, u10, u11, u12, u13], .int .i64 E]) W := by
  have c0 := hC.cell 0
  have c1 := hC.cell 1
  have c2 := hC.cell 2
  have c3 := hC.cell 3
  have c4 := hC.cell 4
  have c5 := hC.cell 5
  have c6 := hC.cell 6
  have c7 := hC.cell 7
  have c8 := hC.cell 8
  have c9 := hC.cell 9
  have c10 := hC.cell 10
  have c11 := hC.cell 11
  have c12 := hC.cell 12
  have c13 := hC.cell 13
  simp at c0 c1 c2 c3 c4 c5 c6 c7 c8 c9 c10 c11 c12 c13
  simp only [Array.getD_eq_getD_getElem?] at h2 h3
  simp [results, Try.results13, go_sem, h2, h3, c0, c1, c2, c3, c4, c5, c6, c7, c8, c9, c10, c11, c12, c13]

set_option maxHeartbeats 4000000 in
theorem xsend_bad (a : Option Addr) (l : List Byte) (N cap : Nat) (K H W T R st : Int) {A : Option Addr} {n c : Nat} {us : List (List Byte)} (ac fl fr : Int) (A2 : Option Addr) (n2 c2 : Nat) (nw tm rp : Int) (w : World) (hl : l.length = N) (hU : US w A n c us) (hb : N < 1 ∨ 1017 < N ∨ 256 ≤ n) :
    Calls Try.prog 13 #[.agg #[.int .i64 K, .int .i64 H, .int .i64 W, .int .i64 T, .int .i64 R, .int .i64 st, .slice A n c, .int .i64 ac, .int .i64 fl, .int .i64 fr, .slice A2 n2 c2, .int .i64 nw, .int .i64 tm, .int .i64 rp], .slice a N cap] w fun e w' => (∃ A' n' c', e = .returned (.tuple #[.agg #[.int .i64 K, .int .i64 H, .int .i64 W, .int .i64 T, .int .i64 R, .int .i64 st, .slice A' n' c', .int .i64 ac, .int .i64 fl, .int .i64 fr, .slice A2 n2 c2, .int .i64 nw, .int .i64 tm, .int .i64 rp], .int .i64 (sn l us).1]) ∧ US w' A' n' c' (sn l us).2) ∧ Below w.heap.size w w' := by
  have HU := Lib.hid hU
  have hlen := hU.len
  by_cases h1 : N < 1
  · have e : sn l us = (1, us) := by unfold sn; rw [if_pos (by omega)]
    rw [e]
    have t1 : decide ((N : Int) < 1) = true := by simp; omega
    have t2 : decide (N < 1) = true := by simpa using h1
    clear e hl hb hlen hU h1
    go_enter Try.func13, Try.ntmps13
    go_wp2
    exact bodyPost_ret (xs_results rfl rfl (Cel_at (by simp))) rfl ⟨⟨_, _, _, rfl, HU.out.below ((bel_new _ _).alloc (by simp) _)⟩, (bel_new _ _).alloc (by simp) _⟩
  have g1 : decide ((N : Int) < 1) = false := by simp; omega
  have g2 : decide (N < 1) = false := by simpa using h1
  by_cases h2 : 1017 < N
  · have e : sn l us = (1, us) := by unfold sn; rw [if_pos (by omega)]
    rw [e]
    have t1 : decide ((1017 : Int) < (N : Int)) = true := by simp; omega
    have t2 : decide (1017 < N) = true := by simpa using h2
    clear e hl hb hlen hU h1 h2
    go_enter Try.func13, Try.ntmps13
    go_wp2
    exact bodyPost_ret (xs_results rfl rfl (Cel_at (by simp))) rfl ⟨⟨_, _, _, rfl, HU.out.below ((bel_new _ _).alloc (by simp) _)⟩, (bel_new _ _).alloc (by simp) _⟩
  have e : sn l us = (7, us) := by unfold sn; rw [if_neg (by omega), if_pos (by omega)]
  rw [e]
  have g3 : decide ((1017 : Int) < (N : Int)) = false := by simp; omega
  have g4 : decide (1017 < N) = false := by simpa using h2
  have t1 : decide ((256 : Int) ≤ (n : Int)) = true := by simp; omega
  have t2 : decide (256 ≤ n) = true := by simp; omega
  clear e hl hb hlen hU h1 h2
  go_enter Try.func13, Try.ntmps13
  go_wp2
  exact bodyPost_ret (xs_results rfl rfl (Cel_at (by simp))) rfl ⟨⟨_, _, _, rfl, HU.out.below ((bel_new _ _).alloc (by simp) _)⟩, (bel_new _ _).alloc (by simp) _⟩

set_option maxRecDepth 100000 in
set_option maxHeartbeats 8000000 in
theorem xsend_good (a : Option Addr) (l : List Byte) (N cap : Nat) (K H W T R st : Int) {A : Option Addr} {n c : Nat} {us : List (List Byte)} (ac fl fr : Int) (A2 : Option Addr) (n2 c2 : Nat) (nw tm rp : Int) (w : World) (hD : Rd w a l N cap) (hU : US w A n c us) (h1 : 1 ≤ N) (h2 : N ≤ 1017) (h3 : n < 256) :
    Calls Try.prog 13 #[.agg #[.int .i64 K, .int .i64 H, .int .i64 W, .int .i64 T, .int .i64 R, .int .i64 st, .slice A n c, .int .i64 ac, .int .i64 fl, .int .i64 fr, .slice A2 n2 c2, .int .i64 nw, .int .i64 tm, .int .i64 rp], .slice a N cap] w fun e w' => (∃ A' n' c', e = .returned (.tuple #[.agg #[.int .i64 K, .int .i64 H, .int .i64 W, .int .i64 T, .int .i64 R, .int .i64 st, .slice A' n' c', .int .i64 ac, .int .i64 fl, .int .i64 fr, .slice A2 n2 c2, .int .i64 nw, .int .i64 tm, .int .i64 rp], .int .i64 (sn l us).1]) ∧ US w' A' n' c' (sn l us).2) ∧ Below w.heap.size w w' := by
  have hl := Lib.hid hD.len
  have e : sn l us = (0, us ++ [l]) := by unfold sn; rw [if_neg (by rw [hl.out]; omega), if_neg (by rw [hU.len]; omega)]
  rw [e]
  clear e
  obtain ⟨qs, hq1, hq2, hq3⟩ := hU.lt.rs
  have hqn : Hid (qs.length = n) := Lib.hid (by rw [← hU.len, ← hq1, List.length_map])
  have hz := hU.nil
  obtain ⟨w2, hw2⟩ : ∃ w2, w2 = (w.alloc (.cells #[.int .i64 K, .int .i64 H, .int .i64 W, .int .i64 T, .int .i64 R, .int .i64 st, .slice A n c, .int .i64 ac, .int .i64 fl, .int .i64 fr, .slice A2 n2 c2, .int .i64 nw, .int .i64 tm, .int .i64 rp] 31)).alloc (.cells #[.int .i64 0, .int .i64 0, .int .i64 0, .int .i64 0, .int .i64 0, .int .i64 0, .slice none 0 0, .int .i64 0, .int .i64 0, .int .i64 0, .slice none 0 0, .int .i64 0, .int .i64 0, .int .i64 0] 31) := ⟨_, rfl⟩
  have s2 : w2.heap.size = w.heap.size + 1 + 1 := by rw [hw2]; simp
  have b2 : Below w.heap.size w w2 := by rw [hw2]; exact (bel_new _ _).alloc (by simp) _
  have pr2 : Cel w2 w.heap.size 31 #[.int .i64 K, .int .i64 H, .int .i64 W, .int .i64 T, .int .i64 R, .int .i64 st, .slice A n c, .int .i64 ac, .int .i64 fl, .int .i64 fr, .slice A2 n2 c2, .int .i64 nw, .int .i64 tm, .int .i64 rp] := by rw [hw2]; exact Cel.later (Cel_at rfl) (bel_new _ _)
  have pz2 : Cel w2 (w.heap.size + 1) 31 #[.int .i64 0, .int .i64 0, .int .i64 0, .int .i64 0, .int .i64 0, .int .i64 0, .slice none 0 0, .int .i64 0, .int .i64 0, .int .i64 0, .slice none 0 0, .int .i64 0, .int .i64 0, .int .i64 0] := by rw [hw2]; exact Cel_at (by simp)
  obtain ⟨w3, hw3⟩ : ∃ w3, w3 = w2.alloc (.cells #[] 33) := ⟨_, rfl⟩
  have s3 : w3.heap.size = w.heap.size + 1 + 1 + 1 := by rw [hw3]; simp [s2]
  have k3 : Below w2.heap.size w2 w3 := by rw [hw3]; exact bel_new _ _
  have b3 := b2.trans (k3.mono b2.size)
  have own3 : Row.Os Lst.enc 1 w3 w.heap.size 33 (.slice (some ⟨w.heap.size + 1 + 1, 0, none⟩) 0 0) [] := by rw [hw3, ← s2]; exact Row.Os.empty w2 w.heap.size _ (by omega)
  have pr3 := Cel.later pr2 k3
  have pz3 := Cel.later pz2 k3
  have rs3 : Row.Rs Lst.enc 1 w3 w.heap.size A qs := hq2.below b3
  have hbs : Bs w w.heap.size a l := hD.bs
  have hnil := hD.nil
  have g1 : decide ((N : Int) < 1) = false := by simp; omega
  have g2 : decide (N < 1) = false := by simp; omega
  have g3 : decide ((1017 : Int) < (N : Int)) = false := by simp; omega
  have g4 : decide (1017 < N) = false := by simp; omega
  have g5 : decide ((256 : Int) ≤ (n : Int)) = false := by simp; omega
  have g6 : decide (256 ≤ n) = false := by simp; omega
  rw [hw2] at hw3
  have H3 := Lib.hid (And.intro own3 (And.intro rs3 (And.intro hbs hnil)))
  have HP := Lib.hid (And.intro pr3 pz3)
  have HB := Lib.hid b3
  have HS := Lib.hid s3
  have HQ := Lib.hid (And.intro hq1 (And.intro hq3 hU))
  clear hw2 s2 b2 pr2 pz2 k3 b3 own3 pr3 pz3 rs3 hbs hnil hq1 hq2 hq3 hU s3 hD
  go_enter Try.func13, Try.ntmps13
  go_wp2_with (at_builtin; rw [← hw3]; refine Row.wpList_row _ Lst.enc_ok is_lists_ref (by decide) rfl (.tmp 20) (.tmp 22) rfl (m := []) rfl H3.out.1 (l := qs) (n := n) hqn.out rfl H3.out.2.1 hz (by rw [hqn.out]; simp; omega) HB.out.size ?_)
  intro v4 w4 own4 gr4 hv4
  rw [← hw3] at gr4
  try rw [List.nil_append] at own4
  obtain ⟨A4, c4, rfl, _, _, _, _⟩ := own4.reads_len Lst.enc_ok hqn.out
  have k4 := Only.of_grown gr4
  have hne0 : ∀ x, x < w.heap.size + 1 + 1 → x ∉ (Value.slice (some ⟨w.heap.size + 1 + 1, 0, none⟩) 0 0).ownBlock.toList := fun x hx hm => by
    have : x = w.heap.size + 1 + 1 := by simpa [Value.ownBlock] using hm
    omega
  have pr4 := HP.out.1.only k4 (hne0 _ (by omega))
  have pz4 := HP.out.2.only k4 (hne0 _ (by omega))
  have b4 : Below w.heap.size w w4 := HB.out.trans (k4.below HB.out.size (fun x hx => by
    have : x = w.heap.size + 1 + 1 := by simpa [Value.ownBlock] using hx
    omega))
  obtain ⟨w5, hw5⟩ : ∃ w5, w5 = w4.alloc (.cells #[] 5) := ⟨_, rfl⟩
  have s4 : w.heap.size + 1 + 1 + 1 ≤ w4.heap.size := by rw [← HS.out]; exact k4.size
  have k5 : Below w4.heap.size w4 w5 := by rw [hw5]; exact bel_new _ _
  have b5 := b4.trans (k5.mono b4.size)
  have own5 : Ow w5 w4.heap.size 5 (.slice (some ⟨w4.heap.size, 0, none⟩) 0 0) [] := by rw [hw5]; exact Ow_new w4 _ _ [] 0 #[] rfl rfl (Nat.le_refl _) (by decide) _ rfl
  have pr5 := Cel.later pr4 k5
  have pz5 := Cel.later pz4 k5
  have bs5 := H3.out.2.2.1.below b5
  have hn5 := H3.out.2.2.2
  have H4 := Lib.hid own4
  have H5 := Lib.hid (And.intro own5 (And.intro bs5 hn5))
  have HP5 := Lib.hid (And.intro pr5 pz5)
  have HB4 := Lib.hid b4
  have HB5 := Lib.hid (And.intro b5 k5)
  have HS4 := Lib.hid s4
  clear hv4 gr4 k4 pr4 pz4 b4 b5 k5 own5 own4 pr5 pz5 bs5 hn5 hne0 s4 hw3
  go_wp2_with (at_builtin; rw [← hw5]; refine wpList_app _ is_bytes rfl (.tmp 24) (.tmp 25) rfl (m := []) rfl H5.out.1 (l := l) (A := a) (c := cap) (by rw [hl.out]; rfl) H5.out.2.1 H5.out.2.2 (by rw [hl.out]; simp; omega) HB5.out.2.size ?_)
  intro v6 w6 own6 gr6
  rw [← hw5] at gr6
  try rw [List.nil_append] at own6
  obtain ⟨A6, c6, rfl, _, _, _, _⟩ := own6.reads_len hl.out
  have k6 := Only.of_grown gr6
  have hb6 : ∀ x ∈ (Value.slice (some ⟨w4.heap.size, 0, none⟩) 0 0).ownBlock.toList, x = w4.heap.size := fun x hx => by simpa [Value.ownBlock] using hx
  have pr6 := HP5.out.1.only k6 (fun hm => by have := hb6 _ hm; have := HS4.out; omega)
  have pz6 := HP5.out.2.only k6 (fun hm => by have := hb6 _ hm; have := HS4.out; omega)
  have k46 : Below w4.heap.size w4 w6 := HB5.out.2.trans (k6.below HB5.out.2.size (fun x hx => by have := hb6 _ hx; omega))
  have own46 := H4.out.below k46
  obtain ⟨w7, hw7⟩ : ∃ w7, w7 = w6.alloc (.cells #[.slice A6 N c6] 33) := ⟨_, rfl⟩
  have k7 : Below w6.heap.size w6 w7 := by rw [hw7]; exact bel_new _ _
  have pr7 := Cel.later pr6 k7
  have pz7 := Cel.later pz6 k7
  have own7 := own46.below k7
  have dat7 := own6.below k7
  have rs7 : Row.Rs Lst.enc 1 w7 (w6.heap.size + 1) (some ⟨w6.heap.size, 0, none⟩) [⟨l, A6, c6⟩] := by rw [hw7]; exact Row.Rs_new1 Lst.enc_ok w6 _ _ _ (by simp only [Lst.enc, hl.out])
  have b7 : Below w.heap.size w w7 := (HB4.out.trans (k46.mono HB4.out.size)).trans (k7.mono (Nat.le_trans HB4.out.size k46.size))
  have H7 := Lib.hid (And.intro own7 (And.intro rs7 dat7))
  have HP7 := Lib.hid (And.intro pr7 pz7)
  have HB7 := Lib.hid b7
  have HS6 : Hid (w.heap.size + 1 + 1 + 1 ≤ w6.heap.size) := Lib.hid (Nat.le_trans HS4.out k46.size)
  have HL4 := Lib.hid H4.out.lt
  clear gr6 k6 hb6 pr6 pz6 k46 own46 k7 own7 dat7 rs7 b7 pr7 pz7 own6 hw5
  go_wp2_with (at_builtin; rw [← hw7]; refine Row.wpList_row _ Lst.enc_ok is_lists_ref (by decide) rfl (.tmp 23) (.tmp 27) rfl (m := qs) rfl H7.out.1 (l := [⟨l, A6, c6⟩]) (n := 1) rfl rfl H7.out.2.1 (fun h => nomatch h) (by rw [hqn.out]; simp; omega) HB7.out.size ?_)
  intro v8 w8 own8 gr8 hv8
  rw [← hw7] at gr8
  obtain ⟨n8, hn8⟩ : ∃ n8, n8 = n + 1 := ⟨_, rfl⟩
  have hl8 : (qs ++ [(⟨l, A6, c6⟩ : Qb)]).length = n8 := by rw [List.length_append, hqn.out, hn8]; rfl
  obtain ⟨A8, c8, rfl, _, hz8, hle8, hm8⟩ := own8.reads_len Lst.enc_ok hl8
  have k8 := Only.of_grown gr8
  have hlow : ∀ x ∈ (Value.slice A4 n c4).ownBlock.toList, w.heap.size ≤ x := fun x hx => (H7.out.1.lt x (by simpa using hx)).1
  have hap : ∀ {g : Nat} {t : TypeId} {cs : Array Value}, Cel w7 g t cs → 33 ≠ t → g ∉ (Value.slice A4 n c4).ownBlock.toList := fun hc ht hm => Row.Os.apart H7.out.1 hc ht (by simpa using hm)
  have pr8 := HP7.out.1.only k8 (hap HP7.out.1 (by decide))
  have pz8 := HP7.out.2.only k8 (hap HP7.out.2 (by decide))
  have b8 : Below w.heap.size w w8 := HB7.out.trans (k8.below HB7.out.size hlow)
  have dat8 := H7.out.2.2.only k8 (fun i hi => by
    obtain ⟨cs, hc⟩ := Lst.own_cel H7.out.2.2 hi
    exact hap hc (by decide))
  have dq8 : ∀ q ∈ qs ++ [(⟨l, A6, c6⟩ : Qb)], Dq w8 q.l q.a q.c := fun q hq => by
    rcases List.mem_append.1 hq with hq | hq
    · exact (HQ.out.2.1 q hq).keep (.of_below b8)
    · rw [List.mem_singleton] at hq
      subst hq
      exact Dq.own dat8
  have us8 : US w8 A8 n8 c8 (us ++ [l]) := by
    have := LT.row own8 dq8
    rw [List.map_append, HQ.out.1] at this
    exact ⟨this, by rw [List.length_append, HQ.out.2.2.len, hn8]; rfl, hz8, hle8, hm8⟩
  obtain ⟨W9, hW9⟩ : ∃ W9, W9 = w8.setCell ⟨w.heap.size, 6, none⟩ (.slice A8 n8 c8) := ⟨_, rfl⟩
  have k9 : Only [w.heap.size] w8 W9 := by rw [hW9]; exact put_only _ _ 6 _
  have pz9 := pz8.only k9 (by simp)
  have us9 := us8.keep (Kq.of_ref pr8 k9)
  have k10 := put14_only W9 (w.heap.size + 1) (.int .i64 K) (.int .i64 H) (.int .i64 W) (.int .i64 T) (.int .i64 R) (.int .i64 st) (.slice A8 n8 c8) (.int .i64 ac) (.int .i64 fl) (.int .i64 fr) (.slice A2 n2 c2) (.int .i64 nw) (.int .i64 tm) (.int .i64 rp)
  have pz10 := put14_cel pz9 (.int .i64 K) (.int .i64 H) (.int .i64 W) (.int .i64 T) (.int .i64 R) (.int .i64 st) (.slice A8 n8 c8) (.int .i64 ac) (.int .i64 fl) (.int .i64 fr) (.slice A2 n2 c2) (.int .i64 nw) (.int .i64 tm) (.int .i64 rp)
  have us10 := us9.keep (Kq.of_ref pz9 k10)
  have b9 := b8.trans (k9.below b8.size (by simp))
  have b10 := b9.trans (k10.below b9.size (by simp))
  unfold put14 at pz10 us10 b10
  rw [hW9] at pz10 us10 b10
  have HFIN := Lib.hid (And.intro pz10 (And.intro us10 b10))
  have r0 := pr8.cell 0
  have r1 := pr8.cell 1
  have r2 := pr8.cell 2
  have r3 := pr8.cell 3
  have r4 := pr8.cell 4
  have r5 := pr8.cell 5
  have r6 := pr8.cell 6
  have r7 := pr8.cell 7
  have r8 := pr8.cell 8
  have r9 := pr8.cell 9
  have r10 := pr8.cell 10
  have r11 := pr8.cell 11
  have r12 := pr8.cell 12
  have r13 := pr8.cell 13
  simp at r0 r1 r2 r3 r4 r5 r6 r7 r8 r9 r10 r11 r12 r13
  have f6 := pr8.free 6
  have z0 := pz8.cell 0
  have z1 := pz8.cell 1
  have z2 := pz8.cell 2
  have z3 := pz8.cell 3
  have z4 := pz8.cell 4
  have z5 := pz8.cell 5
  have z6 := pz8.cell 6
  have z7 := pz8.cell 7
  have z8 := pz8.cell 8
  have z9 := pz8.cell 9
  have z10 := pz8.cell 10
  have z11 := pz8.cell 11
  have z12 := pz8.cell 12
  have z13 := pz8.cell 13
  simp at z0 z1 z2 z3 z4 z5 z6 z7 z8 z9 z10 z11 z12 z13
  have yz0 := pz8.free 0
  have yz1 := pz8.free 1
  have yz2 := pz8.free 2
  have yz3 := pz8.free 3
  have yz4 := pz8.free 4
  have yz5 := pz8.free 5
  have yz6 := pz8.free 6
  have yz7 := pz8.free 7
  have yz8 := pz8.free 8
  have yz9 := pz8.free 9
  have yz10 := pz8.free 10
  have yz11 := pz8.free 11
  have yz12 := pz8.free 12
  have yz13 := pz8.free 13
  clear own8 gr8 hv8 hn8 hl8 hz8 hle8 hm8 k8 hlow pr8 pz8 b8 dat8 dq8 us8 hW9 k9 pz9 us9 k10 pz10 us10 b9 b10 hap hw7
  go_wp2
  exact bodyPost_ret (xs_results rfl rfl HFIN.out.1) rfl ⟨⟨_, _, _, rfl, HFIN.out.2.1⟩, HFIN.out.2.2⟩

theorem xsend17_any (a : Option Addr) (l : List Byte) (N cap : Nat) (K H W T R st : Int) {A : Option Addr} {n c : Nat} {us : List (List Byte)} (ac fl fr : Int) (A2 : Option Addr) (n2 c2 : Nat) (nw tm rp : Int) (w : World) (hD : Rd w a l N cap) (hU : US w A n c us) :
    Calls Try.prog 13 #[.agg #[.int .i64 K, .int .i64 H, .int .i64 W, .int .i64 T, .int .i64 R, .int .i64 st, .slice A n c, .int .i64 ac, .int .i64 fl, .int .i64 fr, .slice A2 n2 c2, .int .i64 nw, .int .i64 tm, .int .i64 rp], .slice a N cap] w fun e w' => (∃ A' n' c', e = .returned (.tuple #[.agg #[.int .i64 K, .int .i64 H, .int .i64 W, .int .i64 T, .int .i64 R, .int .i64 st, .slice A' n' c', .int .i64 ac, .int .i64 fl, .int .i64 fr, .slice A2 n2 c2, .int .i64 nw, .int .i64 tm, .int .i64 rp], .int .i64 (sn l us).1]) ∧ US w' A' n' c' (sn l us).2) ∧ Below w.heap.size w w' := by
  by_cases h : N < 1 ∨ 1017 < N ∨ 256 ≤ n
  · exact xsend_bad a l N cap K H W T R st ac fl fr A2 n2 c2 nw tm rp w hD.len hU h
  · exact xsend_good a l N cap K H W T R st ac fl fr A2 n2 c2 nw tm rp w hD hU (by omega) (by omega) (by omega)
end Go.Proofs.Ytdpjjhbfhlmolaa.Fop

/-
  The reference of layer 17: Next without a data frame: control frames, nothing to send.
-/
namespace Go.Proofs.Ytdpjjhbfhlmolaa.Fop
open Go.RowKit
open Pac (bel_new Cel.later)
open Tcf (Fr)

/-- a control frame in the cells of block b from off on -/
def Fc (w : World) (b off : Nat) (K H : Int) (d : List Byte) : Prop := ∃ a c, w.cell? ⟨b, off, none⟩ = some (.bool true) ∧ w.cell? ⟨b, off + 1, none⟩ = some (.bool true) ∧ w.cell? ⟨b, off + 2, none⟩ = some (.int .i64 K) ∧
  w.cell? ⟨b, off + 3, none⟩ = some (.int .i64 H) ∧ w.cell? ⟨b, off + 4, none⟩ = some (.int .i64 0) ∧ w.cell? ⟨b, off + 5, none⟩ = some (.slice a d.length c) ∧ Dq w d a c
/-- the data of the second control frame -/
def sd (ac : Int) : List Byte := [130#8, 0#8, BitVec.ofNat 8 (ac % 256).toNat]
/-- the slice (A, n, c) holds the control frames that are still to be sent -/
def CT (w : World) (K H ac ct : Int) (A : Option Addr) (n c : Nat) : Prop := (ct = 0 ∧ n = 0) ∨
  (ct = 1 ∧ ∃ b, A = some ⟨b, 6, none⟩ ∧ n = 1 ∧ c = 1 ∧ Bt w b ∧ Fc w b 6 K H (sd ac)) ∨
  (ct = 2 ∧ ∃ b, A = some ⟨b, 0, none⟩ ∧ n = 2 ∧ c = 2 ∧ Bt w b ∧ Fc w b 0 K H [0#8] ∧ Fc w b 6 K H (sd ac))
section
variable {w w' : World} {b off n c : Nat} {K H ac ct : Int} {A : Option Addr} {d : List Byte}
theorem Fc.keep (h : Fc w b off K H d) (hb : Bt w b) (k : Kq w w') : Fc w' b off K H d := by
  obtain ⟨a, c, h0, h1, h2, h3, h4, h5, h6⟩ := h
  exact ⟨a, c, (hb.cell k _).trans h0, (hb.cell k _).trans h1, (hb.cell k _).trans h2, (hb.cell k _).trans h3, (hb.cell k _).trans h4, (hb.cell k _).trans h5, h6.keep k⟩
theorem CT.keep (h : CT w K H ac ct A n c) (k : Kq w w') : CT w' K H ac ct A n c := by
  rcases h with h | ⟨h, b, h1, h2, h3, h4, h5⟩ | ⟨h, b, h1, h2, h3, h4, h5, h6⟩
  · exact .inl h
  · exact .inr (.inl ⟨h, b, h1, h2, h3, h4.keep k, h5.keep h4 k⟩)
  · exact .inr (.inr ⟨h, b, h1, h2, h3, h4.keep k, h5.keep h4 k, h6.keep h4 k⟩)
theorem CT.below (h : CT w K H ac ct A n c) (k : Below w.heap.size w w') : CT w' K H ac ct A n c := h.keep (.of_below k)
theorem CT.len (h : CT w K H ac ct A n c) : (n : Int) = ct := by
  rcases h with ⟨rfl, rfl⟩ | ⟨rfl, b, h1, rfl, _⟩ | ⟨rfl, b, h1, rfl, _⟩ <;> rfl
end

theorem xnx_results {tmps : Array Value} {W : World} {g q : Nat} {ok : Bool} {u0 u1 u2 u3 u4 u5 u6 u7 u8 u9 u10 u11 u12 u13 y0 y1 y2 y3 y4 y5 : Value} (h2 : tmps.getD 4 undef = .pointer (some ⟨g, 0, none⟩)) (h3 : tmps.getD 5 undef = .pointer (some ⟨q, 0, none⟩)) (h4 : tmps.getD 6 undef = .bool ok)
    (hC : Cel W g 31 #[u0, u1, u2, u3, u4, u5, u6, u7, u8, u9, u10, u11, u12, u13]) (hD : Cel W q 43 #[y0, y1, y2, y3, y4, y5]) :
    (results Try.f15 tmps).run Try.prog W = .ok (.tuple #[.agg #[u0, u1, u2, u3, u4, u5, u6, u7, u8, u9, u10, u11, u12, u13], .agg #[y0, y1, y2, y3, y4, y5], .bool ok]) W := by
  have c0 := hC.cell 0
  have c1 := hC.cell 1
  have c2 := hC.cell 2
  have c3 := hC.cell 3
  have c4 := hC.cell 4
  have c5 := hC.cell 5
  have c6 := hC.cell 6
  have c7 := hC.cell 7
  have c8 := hC.cell 8
  have c9 := hC.cell 9
  have c10 := hC.cell 10
  have c11 := hC.cell 11
  have c12 := hC.cell 12
  have c13 := hC.cell 13
  have d0 := hD.cell 0
  have d1 := hD.cell 1
  have d2 := hD.cell 2
  have d3 := hD.cell 3
  have d4 := hD.cell 4
  have d5 := hD.cell 5
  simp at c0 c1 c2 c3 c4 c5 c6 c7 c8 c9 c10 c11 c12 c13 d0 d1 d2 d3 d4 d5
  simp only [Array.getD_eq_getD_getElem?] at h2 h3 h4
  simp [results, Try.results15, go_sem, h2, h3, h4, c0, c1, c2, c3, c4, c5, c6, c7, c8, c9, c10, c11, c12, c13, d0, d1, d2, d3, d4, d5]
theorem fin2 {w Wn : World} {B X Y : Nat} {x0 x1 x2 x3 x4 x5 x6 x7 x8 x9 x10 x11 x12 x13 : Value} {z0 z1 z2 z3 z4 z5 : Value} (hb : Below B w Wn) (hs : B ≤ Wn.heap.size) (px : Cel Wn X 31 #[x0, x1, x2, x3, x4, x5, x6, x7, x8, x9, x10, x11, x12, x13]) (py : Cel Wn Y 43 #[z0, z1, z2, z3, z4, z5]) (hX : B ≤ X) (hY : B ≤ Y) (u0 u1 u2 u3 u4 u5 u6 u7 u8 u9 u10 u11 u12 u13 : Value) (y0 y1 y2 y3 y4 y5 : Value) :
    Cel (put6 (put14 Wn X u0 u1 u2 u3 u4 u5 u6 u7 u8 u9 u10 u11 u12 u13) Y y0 y1 y2 y3 y4 y5) X 31 #[u0, u1, u2, u3, u4, u5, u6, u7, u8, u9, u10, u11, u12, u13] ∧ Cel (put6 (put14 Wn X u0 u1 u2 u3 u4 u5 u6 u7 u8 u9 u10 u11 u12 u13) Y y0 y1 y2 y3 y4 y5) Y 43 #[y0, y1, y2, y3, y4, y5] ∧ Below B w (put6 (put14 Wn X u0 u1 u2 u3 u4 u5 u6 u7 u8 u9 u10 u11 u12 u13) Y y0 y1 y2 y3 y4 y5) := by
  have k1 := put14_only Wn X u0 u1 u2 u3 u4 u5 u6 u7 u8 u9 u10 u11 u12 u13
  have k2 := put6_only (put14 Wn X u0 u1 u2 u3 u4 u5 u6 u7 u8 u9 u10 u11 u12 u13) Y y0 y1 y2 y3 y4 y5
  have hne : X ≠ Y := Cel.apart px py (by decide)
  exact ⟨(put14_cel px _ _ _ _ _ _ _ _ _ _ _ _ _ _).only k2 (by simpa using hne), put6_cel (py.only k1 (by simpa using hne.symm)) _ _ _ _ _ _, (hb.trans (k1.below hs (by simpa using hX))).trans (k2.below (Nat.le_trans hs k1.size) (by simpa using hY))⟩

set_option maxRecDepth 100000 in
set_option maxHeartbeats 8000000 in
theorem xnext_idle (m : Int) (K H W T R st : Int) (A : Option Addr) (n c : Nat) (ac fl fr : Int) (A2 : Option Addr) (c2 : Nat) (nw tm rp : Int) (w : World) {nw1 : Int} (hN : adn m nw = nw1) (hst : st ≠ 1 ∨ n = 0) :
    Calls Try.prog 15 #[.agg #[.int .i64 K, .int .i64 H, .int .i64 W, .int .i64 T, .int .i64 R, .int .i64 st, .slice A n c, .int .i64 ac, .int .i64 fl, .int .i64 fr, .slice A2 0 c2, .int .i64 nw, .int .i64 tm, .int .i64 rp], .int .i64 m] w fun e w' => (e = .returned (.tuple #[.agg #[.int .i64 K, .int .i64 H, .int .i64 W, .int .i64 T, .int .i64 R, .int .i64 st, .slice A n c, .int .i64 ac, .int .i64 fl, .int .i64 fr, .slice A2 0 c2, .int .i64 nw1, .int .i64 tm, .int .i64 rp], .agg #[.bool false, .bool false, .int .i64 0, .int .i64 0, .int .i64 0, .slice none 0 0], .bool false])) ∧ Below w.heap.size w w' := by
  obtain ⟨w3, hw3⟩ : ∃ w3, w3 = ((w.alloc (.cells #[.int .i64 K, .int .i64 H, .int .i64 W, .int .i64 T, .int .i64 R, .int .i64 st, .slice A n c, .int .i64 ac, .int .i64 fl, .int .i64 fr, .slice A2 0 c2, .int .i64 nw, .int .i64 tm, .int .i64 rp] 31)).alloc (.cells #[.int .i64 0, .int .i64 0, .int .i64 0, .int .i64 0, .int .i64 0, .int .i64 0, .slice none 0 0, .int .i64 0, .int .i64 0, .int .i64 0, .slice none 0 0, .int .i64 0, .int .i64 0, .int .i64 0] 31)).alloc (.cells #[.bool false, .bool false, .int .i64 0, .int .i64 0, .int .i64 0, .slice none 0 0] 43) := ⟨_, rfl⟩
  have b3 : Below w.heap.size w w3 := by rw [hw3]; exact ((bel_new _ _).alloc (by simp) _).alloc (by simp; omega) _
  have pr3 : Cel w3 w.heap.size 31 #[.int .i64 K, .int .i64 H, .int .i64 W, .int .i64 T, .int .i64 R, .int .i64 st, .slice A n c, .int .i64 ac, .int .i64 fl, .int .i64 fr, .slice A2 0 c2, .int .i64 nw, .int .i64 tm, .int .i64 rp] := by rw [hw3]; exact Cel.later (Cel.later (Cel_at rfl) (bel_new _ _)) (bel_new _ _)
  have pz3 : Cel w3 (w.heap.size + 1) 31 #[.int .i64 0, .int .i64 0, .int .i64 0, .int .i64 0, .int .i64 0, .int .i64 0, .slice none 0 0, .int .i64 0, .int .i64 0, .int .i64 0, .slice none 0 0, .int .i64 0, .int .i64 0, .int .i64 0] := by rw [hw3]; exact Cel.later (Cel_at (by simp)) (bel_new _ _)
  have pq3 : Cel w3 (w.heap.size + 1 + 1) 43 #[.bool false, .bool false, .int .i64 0, .int .i64 0, .int .i64 0, .slice none 0 0] := by rw [hw3]; exact Cel_at (by simp)
  have xa := xat_any m K H W T R st A n c ac fl fr A2 0 c2 nw tm rp w3 hN
  have HP := Lib.hid (And.intro pr3 (And.intro pz3 pq3))
  have HB := Lib.hid b3
  clear pr3 pz3 pq3 b3 hN
  go_enter Try.func15, Try.ntmps15
  go_wp2_with fail
  rw [← hw3]
  clear hw3
  refine xa.mono ?_
  rintro e w4 ⟨rfl, k4⟩
  clear xa
  have pr4 := Cel.later HP.out.1 k4
  have pz4 := Cel.later HP.out.2.1 k4
  have pq4 := Cel.later HP.out.2.2 k4
  have b4 := HB.out.trans (k4.mono HB.out.size)
  obtain ⟨W5, hW5⟩ : ∃ W5, W5 = put14 w4 w.heap.size (.int .i64 K) (.int .i64 H) (.int .i64 W) (.int .i64 T) (.int .i64 R) (.int .i64 st) (.slice A n c) (.int .i64 ac) (.int .i64 fl) (.int .i64 fr) (.slice A2 0 c2) (.int .i64 nw1) (.int .i64 tm) (.int .i64 rp) := ⟨_, rfl⟩
  have k5 : Only [w.heap.size] w4 W5 := by rw [hW5]; exact put14_only _ _ _ _ _ _ _ _ _ _ _ _ _ _ _ _
  have pr5 : Cel W5 w.heap.size 31 #[.int .i64 K, .int .i64 H, .int .i64 W, .int .i64 T, .int .i64 R, .int .i64 st, .slice A n c, .int .i64 ac, .int .i64 fl, .int .i64 fr, .slice A2 0 c2, .int .i64 nw1, .int .i64 tm, .int .i64 rp] := by rw [hW5]; exact put14_cel pr4 _ _ _ _ _ _ _ _ _ _ _ _ _ _
  have pz5 := pz4.only k5 (by simp)
  have pq5 := pq4.only k5 (by simp; omega)
  have b5 := b4.trans (k5.below b4.size (by simp))
  unfold put14 at hW5
  have a0 := pr4.cell 0
  have a1 := pr4.cell 1
  have a2 := pr4.cell 2
  have a3 := pr4.cell 3
  have a4 := pr4.cell 4
  have a5 := pr4.cell 5
  have a6 := pr4.cell 6
  have a7 := pr4.cell 7
  have a8 := pr4.cell 8
  have a9 := pr4.cell 9
  have a10 := pr4.cell 10
  have a11 := pr4.cell 11
  have a12 := pr4.cell 12
  have a13 := pr4.cell 13
  simp at a0 a1 a2 a3 a4 a5 a6 a7 a8 a9 a10 a11 a12 a13
  have ya0 := pr4.free 0
  have ya1 := pr4.free 1
  have ya2 := pr4.free 2
  have ya3 := pr4.free 3
  have ya4 := pr4.free 4
  have ya5 := pr4.free 5
  have ya6 := pr4.free 6
  have ya7 := pr4.free 7
  have ya8 := pr4.free 8
  have ya9 := pr4.free 9
  have ya10 := pr4.free 10
  have ya11 := pr4.free 11
  have ya12 := pr4.free 12
  have ya13 := pr4.free 13
  clear k4 k5 pz4 pq4 b4 pr4
  go_upto_region 2 with fail
  rw [← hW5]
  clear hW5 a0 ya0 a1 ya1 a2 ya2 a3 ya3 a4 ya4 a5 ya5 a6 ya6 a7 ya7 a8 ya8 a9 ya9 a10 ya10 a11 ya11 a12 ya12 a13 ya13
  have r0 := pr5.cell 0
  have r1 := pr5.cell 1
  have r2 := pr5.cell 2
  have r3 := pr5.cell 3
  have r4 := pr5.cell 4
  have r5 := pr5.cell 5
  have r6 := pr5.cell 6
  have r7 := pr5.cell 7
  have r8 := pr5.cell 8
  have r9 := pr5.cell 9
  have r10 := pr5.cell 10
  have r11 := pr5.cell 11
  have r12 := pr5.cell 12
  have r13 := pr5.cell 13
  simp at r0 r1 r2 r3 r4 r5 r6 r7 r8 r9 r10 r11 r12 r13
  have yr0 := pr5.free 0
  have yr1 := pr5.free 1
  have yr2 := pr5.free 2
  have yr3 := pr5.free 3
  have yr4 := pr5.free 4
  have yr5 := pr5.free 5
  have yr6 := pr5.free 6
  have yr7 := pr5.free 7
  have yr8 := pr5.free 8
  have yr9 := pr5.free 9
  have yr10 := pr5.free 10
  have yr11 := pr5.free 11
  have yr12 := pr5.free 12
  have yr13 := pr5.free 13
  have z0 := pz5.cell 0
  have z1 := pz5.cell 1
  have z2 := pz5.cell 2
  have z3 := pz5.cell 3
  have z4 := pz5.cell 4
  have z5 := pz5.cell 5
  have z6 := pz5.cell 6
  have z7 := pz5.cell 7
  have z8 := pz5.cell 8
  have z9 := pz5.cell 9
  have z10 := pz5.cell 10
  have z11 := pz5.cell 11
  have z12 := pz5.cell 12
  have z13 := pz5.cell 13
  simp at z0 z1 z2 z3 z4 z5 z6 z7 z8 z9 z10 z11 z12 z13
  have yz0 := pz5.free 0
  have yz1 := pz5.free 1
  have yz2 := pz5.free 2
  have yz3 := pz5.free 3
  have yz4 := pz5.free 4
  have yz5 := pz5.free 5
  have yz6 := pz5.free 6
  have yz7 := pz5.free 7
  have yz8 := pz5.free 8
  have yz9 := pz5.free 9
  have yz10 := pz5.free 10
  have yz11 := pz5.free 11
  have yz12 := pz5.free 12
  have yz13 := pz5.free 13
  have q0 := pq5.cell 0
  have q1 := pq5.cell 1
  have q2 := pq5.cell 2
  have q3 := pq5.cell 3
  have q4 := pq5.cell 4
  have q5 := pq5.cell 5
  simp at q0 q1 q2 q3 q4 q5
  have yq0 := pq5.free 0
  have yq1 := pq5.free 1
  have yq2 := pq5.free 2
  have yq3 := pq5.free 3
  have yq4 := pq5.free 4
  have yq5 := pq5.free 5
  have HFIN := Lib.hid (fin2 b5 b5.size pz5 pq5 (by omega) (by omega) (.int .i64 K) (.int .i64 H) (.int .i64 W) (.int .i64 T) (.int .i64 R) (.int .i64 st) (.slice A n c) (.int .i64 ac) (.int .i64 fl) (.int .i64 fr) (.slice A2 0 c2) (.int .i64 nw1) (.int .i64 tm) (.int .i64 rp) (.bool false) (.bool false) (.int .i64 0) (.int .i64 0) (.int .i64 0) (.slice none 0 0))
  unfold put14 put6 at HFIN
  clear b5 pr5 pz5 pq5
  by_cases h1 : st = 1
  · have t1 : (st != 1) = false := by simpa using h1
    have h0 : n = 0 := by omega
    subst h0
    clear hst h1
    go_wp2
    exact bodyPost_ret (xnx_results rfl rfl rfl HFIN.out.1 HFIN.out.2.1) rfl ⟨rfl, HFIN.out.2.2⟩
  · have t1 : (st != 1) = true := by simpa using h1
    clear hst h1
    go_wp2
    exact bodyPost_ret (xnx_results rfl rfl rfl HFIN.out.1 HFIN.out.2.1) rfl ⟨rfl, HFIN.out.2.2⟩

set_option maxRecDepth 100000 in
set_option maxHeartbeats 8000000 in
theorem xnext_ctl1 (m : Int) (K H W T R st : Int) (A : Option Addr) (n c : Nat) (ac fl fr : Int) (b : Nat) (nw tm rp : Int) (w : World) {nw1 : Int} (hN : adn m nw = nw1) (a : Option Addr) (cd : Nat) (hlt : b < w.heap.size) (e0 : w.cell? ⟨b, 6, none⟩ = some (.bool true)) (e1 : w.cell? ⟨b, 7, none⟩ = some (.bool true)) (e2 : w.cell? ⟨b, 8, none⟩ = some (.int .i64 K)) (e3 : w.cell? ⟨b, 9, none⟩ = some (.int .i64 H)) (e4 : w.cell? ⟨b, 10, none⟩ = some (.int .i64 0)) (e5 : w.cell? ⟨b, 11, none⟩ = some (.slice a 3 cd)) :
    Calls Try.prog 15 #[.agg #[.int .i64 K, .int .i64 H, .int .i64 W, .int .i64 T, .int .i64 R, .int .i64 st, .slice A n c, .int .i64 ac, .int .i64 fl, .int .i64 fr, .slice (some ⟨b, 6, none⟩) 1 1, .int .i64 nw, .int .i64 tm, .int .i64 rp], .int .i64 m] w fun e w' => (e = .returned (.tuple #[.agg #[.int .i64 K, .int .i64 H, .int .i64 W, .int .i64 T, .int .i64 R, .int .i64 st, .slice A n c, .int .i64 ac, .int .i64 fl, .int .i64 fr, .slice (some ⟨b, 6, none⟩) 0 0, .int .i64 nw1, .int .i64 tm, .int .i64 rp], .agg #[.bool true, .bool true, .int .i64 K, .int .i64 H, .int .i64 0, .slice a 3 cd], .bool true])) ∧ Below w.heap.size w w' := by
  obtain ⟨w3, hw3⟩ : ∃ w3, w3 = ((w.alloc (.cells #[.int .i64 K, .int .i64 H, .int .i64 W, .int .i64 T, .int .i64 R, .int .i64 st, .slice A n c, .int .i64 ac, .int .i64 fl, .int .i64 fr, .slice (some ⟨b, 6, none⟩) 1 1, .int .i64 nw, .int .i64 tm, .int .i64 rp] 31)).alloc (.cells #[.int .i64 0, .int .i64 0, .int .i64 0, .int .i64 0, .int .i64 0, .int .i64 0, .slice none 0 0, .int .i64 0, .int .i64 0, .int .i64 0, .slice none 0 0, .int .i64 0, .int .i64 0, .int .i64 0] 31)).alloc (.cells #[.bool false, .bool false, .int .i64 0, .int .i64 0, .int .i64 0, .slice none 0 0] 43) := ⟨_, rfl⟩
  have b3 : Below w.heap.size w w3 := by rw [hw3]; exact ((bel_new _ _).alloc (by simp) _).alloc (by simp; omega) _
  have pr3 : Cel w3 w.heap.size 31 #[.int .i64 K, .int .i64 H, .int .i64 W, .int .i64 T, .int .i64 R, .int .i64 st, .slice A n c, .int .i64 ac, .int .i64 fl, .int .i64 fr, .slice (some ⟨b, 6, none⟩) 1 1, .int .i64 nw, .int .i64 tm, .int .i64 rp] := by rw [hw3]; exact Cel.later (Cel.later (Cel_at rfl) (bel_new _ _)) (bel_new _ _)
  have pz3 : Cel w3 (w.heap.size + 1) 31 #[.int .i64 0, .int .i64 0, .int .i64 0, .int .i64 0, .int .i64 0, .int .i64 0, .slice none 0 0, .int .i64 0, .int .i64 0, .int .i64 0, .slice none 0 0, .int .i64 0, .int .i64 0, .int .i64 0] := by rw [hw3]; exact Cel.later (Cel_at (by simp)) (bel_new _ _)
  have pq3 : Cel w3 (w.heap.size + 1 + 1) 43 #[.bool false, .bool false, .int .i64 0, .int .i64 0, .int .i64 0, .slice none 0 0] := by rw [hw3]; exact Cel_at (by simp)
  have xa := xat_any m K H W T R st A n c ac fl fr (some ⟨b, 6, none⟩) 1 1 nw tm rp w3 hN
  have HP := Lib.hid (And.intro pr3 (And.intro pz3 pq3))
  have HB := Lib.hid b3
  clear pr3 pz3 pq3 b3 hN
  go_enter Try.func15, Try.ntmps15
  go_wp2_with fail
  rw [← hw3]
  clear hw3
  refine xa.mono ?_
  rintro e w4 ⟨rfl, k4⟩
  clear xa
  have pr4 := Cel.later HP.out.1 k4
  have pz4 := Cel.later HP.out.2.1 k4
  have pq4 := Cel.later HP.out.2.2 k4
  have b4 := HB.out.trans (k4.mono HB.out.size)
  obtain ⟨W5, hW5⟩ : ∃ W5, W5 = put14 w4 w.heap.size (.int .i64 K) (.int .i64 H) (.int .i64 W) (.int .i64 T) (.int .i64 R) (.int .i64 st) (.slice A n c) (.int .i64 ac) (.int .i64 fl) (.int .i64 fr) (.slice (some ⟨b, 6, none⟩) 1 1) (.int .i64 nw1) (.int .i64 tm) (.int .i64 rp) := ⟨_, rfl⟩
  have k5 : Only [w.heap.size] w4 W5 := by rw [hW5]; exact put14_only _ _ _ _ _ _ _ _ _ _ _ _ _ _ _ _
  have pr5 : Cel W5 w.heap.size 31 #[.int .i64 K, .int .i64 H, .int .i64 W, .int .i64 T, .int .i64 R, .int .i64 st, .slice A n c, .int .i64 ac, .int .i64 fl, .int .i64 fr, .slice (some ⟨b, 6, none⟩) 1 1, .int .i64 nw1, .int .i64 tm, .int .i64 rp] := by rw [hW5]; exact put14_cel pr4 _ _ _ _ _ _ _ _ _ _ _ _ _ _
  have pz5 := pz4.only k5 (by simp)
  have pq5 := pq4.only k5 (by simp; omega)
  have b5 := b4.trans (k5.below b4.size (by simp))
  unfold put14 at hW5
  have a0 := pr4.cell 0
  have a1 := pr4.cell 1
  have a2 := pr4.cell 2
  have a3 := pr4.cell 3
  have a4 := pr4.cell 4
  have a5 := pr4.cell 5
  have a6 := pr4.cell 6
  have a7 := pr4.cell 7
  have a8 := pr4.cell 8
  have a9 := pr4.cell 9
  have a10 := pr4.cell 10
  have a11 := pr4.cell 11
  have a12 := pr4.cell 12
  have a13 := pr4.cell 13
  simp at a0 a1 a2 a3 a4 a5 a6 a7 a8 a9 a10 a11 a12 a13
  have ya0 := pr4.free 0
  have ya1 := pr4.free 1
  have ya2 := pr4.free 2
  have ya3 := pr4.free 3
  have ya4 := pr4.free 4
  have ya5 := pr4.free 5
  have ya6 := pr4.free 6
  have ya7 := pr4.free 7
  have ya8 := pr4.free 8
  have ya9 := pr4.free 9
  have ya10 := pr4.free 10
  have ya11 := pr4.free 11
  have ya12 := pr4.free 12
  have ya13 := pr4.free 13
  clear k4 k5 pz4 pq4 b4 pr4
  go_upto_region 2 with fail
  rw [← hW5]
  clear hW5 a0 ya0 a1 ya1 a2 ya2 a3 ya3 a4 ya4 a5 ya5 a6 ya6 a7 ya7 a8 ya8 a9 ya9 a10 ya10 a11 ya11 a12 ya12 a13 ya13
  have r0 := pr5.cell 0
  have r1 := pr5.cell 1
  have r2 := pr5.cell 2
  have r3 := pr5.cell 3
  have r4 := pr5.cell 4
  have r5 := pr5.cell 5
  have r6 := pr5.cell 6
  have r7 := pr5.cell 7
  have r8 := pr5.cell 8
  have r9 := pr5.cell 9
  have r10 := pr5.cell 10
  have r11 := pr5.cell 11
  have r12 := pr5.cell 12
  have r13 := pr5.cell 13
  simp at r0 r1 r2 r3 r4 r5 r6 r7 r8 r9 r10 r11 r12 r13
  have yr0 := pr5.free 0
  have yr1 := pr5.free 1
  have yr2 := pr5.free 2
  have yr3 := pr5.free 3
  have yr4 := pr5.free 4
  have yr5 := pr5.free 5
  have yr6 := pr5.free 6
  have yr7 := pr5.free 7
  have yr8 := pr5.free 8
  have yr9 := pr5.free 9
  have yr10 := pr5.free 10
  have yr11 := pr5.free 11
  have yr12 := pr5.free 12
  have yr13 := pr5.free 13
  have z0 := pz5.cell 0
  have z1 := pz5.cell 1
  have z2 := pz5.cell 2
  have z3 := pz5.cell 3
  have z4 := pz5.cell 4
  have z5 := pz5.cell 5
  have z6 := pz5.cell 6
  have z7 := pz5.cell 7
  have z8 := pz5.cell 8
  have z9 := pz5.cell 9
  have z10 := pz5.cell 10
  have z11 := pz5.cell 11
  have z12 := pz5.cell 12
  have z13 := pz5.cell 13
  simp at z0 z1 z2 z3 z4 z5 z6 z7 z8 z9 z10 z11 z12 z13
  have yz0 := pz5.free 0
  have yz1 := pz5.free 1
  have yz2 := pz5.free 2
  have yz3 := pz5.free 3
  have yz4 := pz5.free 4
  have yz5 := pz5.free 5
  have yz6 := pz5.free 6
  have yz7 := pz5.free 7
  have yz8 := pz5.free 8
  have yz9 := pz5.free 9
  have yz10 := pz5.free 10
  have yz11 := pz5.free 11
  have yz12 := pz5.free 12
  have yz13 := pz5.free 13
  have q0 := pq5.cell 0
  have q1 := pq5.cell 1
  have q2 := pq5.cell 2
  have q3 := pq5.cell 3
  have q4 := pq5.cell 4
  have q5 := pq5.cell 5
  simp at q0 q1 q2 q3 q4 q5
  have yq0 := pq5.free 0
  have yq1 := pq5.free 1
  have yq2 := pq5.free 2
  have yq3 := pq5.free 3
  have yq4 := pq5.free 4
  have yq5 := pq5.free 5
  have e0 := (b5.cell (p := ⟨b, 6, none⟩) hlt).trans e0
  have e1 := (b5.cell (p := ⟨b, 7, none⟩) hlt).trans e1
  have e2 := (b5.cell (p := ⟨b, 8, none⟩) hlt).trans e2
  have e3 := (b5.cell (p := ⟨b, 9, none⟩) hlt).trans e3
  have e4 := (b5.cell (p := ⟨b, 10, none⟩) hlt).trans e4
  have e5 := (b5.cell (p := ⟨b, 11, none⟩) hlt).trans e5
  obtain ⟨W6, hW6⟩ : ∃ W6, W6 = W5.alloc (.cells #[.bool true, .bool true, .int .i64 K, .int .i64 H, .int .i64 0, .slice a 3 cd] 43) := ⟨_, rfl⟩
  have k6 : Below W5.heap.size W5 W6 := by rw [hW6]; exact bel_new _ _
  have pr6 := Cel.later pr5 k6
  have pz6 := Cel.later pz5 k6
  have pq6 := Cel.later pq5 k6
  have HLT := Lib.hid pq5.lt
  have pf6 : Cel W6 W5.heap.size 43 #[.bool true, .bool true, .int .i64 K, .int .i64 H, .int .i64 0, .slice a 3 cd] := by rw [hW6]; exact Cel_at rfl
  have b6 := b5.trans (k6.mono b5.size)
  go_upto_region 4 with fail
  rw [← hW6]
  clear r0 yr0 z0 yz0 r1 yr1 z1 yz1 r2 yr2 z2 yz2 r3 yr3 z3 yz3 r4 yr4 z4 yz4 r5 yr5 z5 yz5 r6 yr6 z6 yz6 r7 yr7 z7 yz7 r8 yr8 z8 yz8 r9 yr9 z9 yz9 r10 yr10 z10 yz10 r11 yr11 z11 yz11 r12 yr12 z12 yz12 r13 yr13 z13 yz13 q0 yq0 q1 yq1 q2 yq2 q3 yq3 q4 yq4 q5 yq5
  clear hW6 k6 b5 pr5 pz5 pq5 e0 e1 e2 e3 e4 e5 hlt
  obtain ⟨F, hF⟩ : ∃ F, F = W5.heap.size := ⟨_, rfl⟩
  have hFne : F ≠ w.heap.size := by rw [hF]; exact fun e => by have := HLT.out; omega
  have hF1 : F ≠ w.heap.size + 1 := by rw [hF]; exact fun e => by have := HLT.out; omega
  have hF2 : F ≠ w.heap.size + 1 + 1 := by rw [hF]; exact fun e => by have := HLT.out; omega
  have hG1 := hF1.symm
  have hG2 := hF2.symm
  rw [← hF] at pf6 ⊢
  clear hF
  have r0 := pr6.cell 0
  have r1 := pr6.cell 1
  have r2 := pr6.cell 2
  have r3 := pr6.cell 3
  have r4 := pr6.cell 4
  have r5 := pr6.cell 5
  have r6 := pr6.cell 6
  have r7 := pr6.cell 7
  have r8 := pr6.cell 8
  have r9 := pr6.cell 9
  have r10 := pr6.cell 10
  have r11 := pr6.cell 11
  have r12 := pr6.cell 12
  have r13 := pr6.cell 13
  simp at r0 r1 r2 r3 r4 r5 r6 r7 r8 r9 r10 r11 r12 r13
  have yr0 := pr6.free 0
  have yr1 := pr6.free 1
  have yr2 := pr6.free 2
  have yr3 := pr6.free 3
  have yr4 := pr6.free 4
  have yr5 := pr6.free 5
  have yr6 := pr6.free 6
  have yr7 := pr6.free 7
  have yr8 := pr6.free 8
  have yr9 := pr6.free 9
  have yr10 := pr6.free 10
  have yr11 := pr6.free 11
  have yr12 := pr6.free 12
  have yr13 := pr6.free 13
  have z0 := pz6.cell 0
  have z1 := pz6.cell 1
  have z2 := pz6.cell 2
  have z3 := pz6.cell 3
  have z4 := pz6.cell 4
  have z5 := pz6.cell 5
  have z6 := pz6.cell 6
  have z7 := pz6.cell 7
  have z8 := pz6.cell 8
  have z9 := pz6.cell 9
  have z10 := pz6.cell 10
  have z11 := pz6.cell 11
  have z12 := pz6.cell 12
  have z13 := pz6.cell 13
  simp at z0 z1 z2 z3 z4 z5 z6 z7 z8 z9 z10 z11 z12 z13
  have yz0 := pz6.free 0
  have yz1 := pz6.free 1
  have yz2 := pz6.free 2
  have yz3 := pz6.free 3
  have yz4 := pz6.free 4
  have yz5 := pz6.free 5
  have yz6 := pz6.free 6
  have yz7 := pz6.free 7
  have yz8 := pz6.free 8
  have yz9 := pz6.free 9
  have yz10 := pz6.free 10
  have yz11 := pz6.free 11
  have yz12 := pz6.free 12
  have yz13 := pz6.free 13
  have q0 := pq6.cell 0
  have q1 := pq6.cell 1
  have q2 := pq6.cell 2
  have q3 := pq6.cell 3
  have q4 := pq6.cell 4
  have q5 := pq6.cell 5
  simp at q0 q1 q2 q3 q4 q5
  have yq0 := pq6.free 0
  have yq1 := pq6.free 1
  have yq2 := pq6.free 2
  have yq3 := pq6.free 3
  have yq4 := pq6.free 4
  have yq5 := pq6.free 5
  have f0 := pf6.cell 0
  have f1 := pf6.cell 1
  have f2 := pf6.cell 2
  have f3 := pf6.cell 3
  have f4 := pf6.cell 4
  have f5 := pf6.cell 5
  simp at f0 f1 f2 f3 f4 f5
  obtain ⟨W7, hW7⟩ : ∃ W7, W7 = W6.setCell ⟨w.heap.size, 10, none⟩ (.slice (some ⟨b, 6, none⟩) 0 0) := ⟨_, rfl⟩
  have k7 : Only [w.heap.size] W6 W7 := by rw [hW7]; exact put_only _ _ 10 _
  have pr7 : Cel W7 w.heap.size 31 #[.int .i64 K, .int .i64 H, .int .i64 W, .int .i64 T, .int .i64 R, .int .i64 st, .slice A n c, .int .i64 ac, .int .i64 fl, .int .i64 fr, .slice (some ⟨b, 6, none⟩) 0 0, .int .i64 nw1, .int .i64 tm, .int .i64 rp] := by rw [hW7]; exact pr6.put 10 _
  have pf7 := pf6.only k7 (by simpa using hFne)
  have pz7 := pz6.only k7 (by simp)
  have pq7 := pq6.only k7 (by simp; omega)
  have b7 := b6.trans (k7.below b6.size (by simp))
  have HFIN := Lib.hid (fin2 b7 b7.size pz7 pq7 (by omega) (by omega) (.int .i64 K) (.int .i64 H) (.int .i64 W) (.int .i64 T) (.int .i64 R) (.int .i64 st) (.slice A n c) (.int .i64 ac) (.int .i64 fl) (.int .i64 fr) (.slice (some ⟨b, 6, none⟩) 0 0) (.int .i64 nw1) (.int .i64 tm) (.int .i64 rp) (.bool true) (.bool true) (.int .i64 K) (.int .i64 H) (.int .i64 0) (.slice a 3 cd))
  unfold put14 put6 at HFIN
  go_upto_region 5 with fail
  rw [← hW7]
  clear r0 yr0 z0 yz0 r1 yr1 z1 yz1 r2 yr2 z2 yz2 r3 yr3 z3 yz3 r4 yr4 z4 yz4 r5 yr5 z5 yz5 r6 yr6 z6 yz6 r7 yr7 z7 yz7 r8 yr8 z8 yz8 r9 yr9 z9 yz9 r10 yr10 z10 yz10 r11 yr11 z11 yz11 r12 yr12 z12 yz12 r13 yr13 z13 yz13 q0 yq0 q1 yq1 q2 yq2 q3 yq3 q4 yq4 q5 yq5
  clear f0 f1 f2 f3 f4 f5 hW7
  have r0 := pr7.cell 0
  have r1 := pr7.cell 1
  have r2 := pr7.cell 2
  have r3 := pr7.cell 3
  have r4 := pr7.cell 4
  have r5 := pr7.cell 5
  have r6 := pr7.cell 6
  have r7 := pr7.cell 7
  have r8 := pr7.cell 8
  have r9 := pr7.cell 9
  have r10 := pr7.cell 10
  have r11 := pr7.cell 11
  have r12 := pr7.cell 12
  have r13 := pr7.cell 13
  simp at r0 r1 r2 r3 r4 r5 r6 r7 r8 r9 r10 r11 r12 r13
  have z0 := pz7.cell 0
  have z1 := pz7.cell 1
  have z2 := pz7.cell 2
  have z3 := pz7.cell 3
  have z4 := pz7.cell 4
  have z5 := pz7.cell 5
  have z6 := pz7.cell 6
  have z7 := pz7.cell 7
  have z8 := pz7.cell 8
  have z9 := pz7.cell 9
  have z10 := pz7.cell 10
  have z11 := pz7.cell 11
  have z12 := pz7.cell 12
  have z13 := pz7.cell 13
  simp at z0 z1 z2 z3 z4 z5 z6 z7 z8 z9 z10 z11 z12 z13
  have yz0 := pz7.free 0
  have yz1 := pz7.free 1
  have yz2 := pz7.free 2
  have yz3 := pz7.free 3
  have yz4 := pz7.free 4
  have yz5 := pz7.free 5
  have yz6 := pz7.free 6
  have yz7 := pz7.free 7
  have yz8 := pz7.free 8
  have yz9 := pz7.free 9
  have yz10 := pz7.free 10
  have yz11 := pz7.free 11
  have yz12 := pz7.free 12
  have yz13 := pz7.free 13
  have q0 := pq7.cell 0
  have q1 := pq7.cell 1
  have q2 := pq7.cell 2
  have q3 := pq7.cell 3
  have q4 := pq7.cell 4
  have q5 := pq7.cell 5
  simp at q0 q1 q2 q3 q4 q5
  have yq0 := pq7.free 0
  have yq1 := pq7.free 1
  have yq2 := pq7.free 2
  have yq3 := pq7.free 3
  have yq4 := pq7.free 4
  have yq5 := pq7.free 5
  have f0 := pf7.cell 0
  have f1 := pf7.cell 1
  have f2 := pf7.cell 2
  have f3 := pf7.cell 3
  have f4 := pf7.cell 4
  have f5 := pf7.cell 5
  simp at f0 f1 f2 f3 f4 f5
  clear k7 pr7 pz7 pq7 pf7 b7 b6 pr6 pz6 pq6 pf6
  go_region
  go_wp2
  exact bodyPost_ret (xnx_results rfl rfl rfl (HFIN.out.1.draws 1) (HFIN.out.2.1.draws 1)) rfl ⟨rfl, HFIN.out.2.2.trans ((drewN_below _ 1).mono HFIN.out.2.2.size)⟩

set_option maxRecDepth 100000 in
set_option maxHeartbeats 8000000 in
theorem xnext_ctl2 (m : Int) (K H W T R st : Int) (A : Option Addr) (n c : Nat) (ac fl fr : Int) (b : Nat) (nw tm rp : Int) (w : World) {nw1 : Int} (hN : adn m nw = nw1) (a : Option Addr) (cd : Nat) (hlt : b < w.heap.size) (e0 : w.cell? ⟨b, 0, none⟩ = some (.bool true)) (e1 : w.cell? ⟨b, 1, none⟩ = some (.bool true)) (e2 : w.cell? ⟨b, 2, none⟩ = some (.int .i64 K)) (e3 : w.cell? ⟨b, 3, none⟩ = some (.int .i64 H)) (e4 : w.cell? ⟨b, 4, none⟩ = some (.int .i64 0)) (e5 : w.cell? ⟨b, 5, none⟩ = some (.slice a 1 cd)) :
    Calls Try.prog 15 #[.agg #[.int .i64 K, .int .i64 H, .int .i64 W, .int .i64 T, .int .i64 R, .int .i64 st, .slice A n c, .int .i64 ac, .int .i64 fl, .int .i64 fr, .slice (some ⟨b, 0, none⟩) 2 2, .int .i64 nw, .int .i64 tm, .int .i64 rp], .int .i64 m] w fun e w' => (e = .returned (.tuple #[.agg #[.int .i64 K, .int .i64 H, .int .i64 W, .int .i64 T, .int .i64 R, .int .i64 st, .slice A n c, .int .i64 ac, .int .i64 fl, .int .i64 fr, .slice (some ⟨b, 6, none⟩) 1 1, .int .i64 nw1, .int .i64 tm, .int .i64 rp], .agg #[.bool true, .bool true, .int .i64 K, .int .i64 H, .int .i64 0, .slice a 1 cd], .bool true])) ∧ Below w.heap.size w w' := by
  obtain ⟨w3, hw3⟩ : ∃ w3, w3 = ((w.alloc (.cells #[.int .i64 K, .int .i64 H, .int .i64 W, .int .i64 T, .int .i64 R, .int .i64 st, .slice A n c, .int .i64 ac, .int .i64 fl, .int .i64 fr, .slice (some ⟨b, 0, none⟩) 2 2, .int .i64 nw, .int .i64 tm, .int .i64 rp] 31)).alloc (.cells #[.int .i64 0, .int .i64 0, .int .i64 0, .int .i64 0, .int .i64 0, .int .i64 0, .slice none 0 0, .int .i64 0, .int .i64 0, .int .i64 0, .slice none 0 0, .int .i64 0, .int .i64 0, .int .i64 0] 31)).alloc (.cells #[.bool false, .bool false, .int .i64 0, .int .i64 0, .int .i64 0, .slice none 0 0] 43) := ⟨_, rfl⟩
  have b3 : Below w.heap.size w w3 := by rw [hw3]; exact ((bel_new _ _).alloc (by simp) _).alloc (by simp; omega) _
  have pr3 : Cel w3 w.heap.size 31 #[.int .i64 K, .int .i64 H, .int .i64 W, .int .i64 T, .int .i64 R, .int .i64 st, .slice A n c, .int .i64 ac, .int .i64 fl, .int .i64 fr, .slice (some ⟨b, 0, none⟩) 2 2, .int .i64 nw, .int .i64 tm, .int .i64 rp] := by rw [hw3]; exact Cel.later (Cel.later (Cel_at rfl) (bel_new _ _)) (bel_new _ _)
  have pz3 : Cel w3 (w.heap.size + 1) 31 #[.int .i64 0, .int .i64 0, .int .i64 0, .int .i64 0, .int .i64 0, .int .i64 0, .slice none 0 0, .int .i64 0, .int .i64 0, .int .i64 0, .slice none 0 0, .int .i64 0, .int .i64 0, .int .i64 0] := by rw [hw3]; exact Cel.later (Cel_at (by simp)) (bel_new _ _)
  have pq3 : Cel w3 (w.heap.size + 1 + 1) 43 #[.bool false, .bool false, .int .i64 0, .int .i64 0, .int .i64 0, .slice none 0 0] := by rw [hw3]; exact Cel_at (by simp)
  have xa := xat_any m K H W T R st A n c ac fl fr (some ⟨b, 0, none⟩) 2 2 nw tm rp w3 hN
  have HP := Lib.hid (And.intro pr3 (And.intro pz3 pq3))
  have HB := Lib.hid b3
  clear pr3 pz3 pq3 b3 hN
  go_enter Try.func15, Try.ntmps15
  go_wp2_with fail
  rw [← hw3]
  clear hw3
  refine xa.mono ?_
  rintro e w4 ⟨rfl, k4⟩
  clear xa
  have pr4 := Cel.later HP.out.1 k4
  have pz4 := Cel.later HP.out.2.1 k4
  have pq4 := Cel.later HP.out.2.2 k4
  have b4 := HB.out.trans (k4.mono HB.out.size)
  obtain ⟨W5, hW5⟩ : ∃ W5, W5 = put14 w4 w.heap.size (.int .i64 K) (.int .i64 H) (.int .i64 W) (.int .i64 T) (.int .i64 R) (.int .i64 st) (.slice A n c) (.int .i64 ac) (.int .i64 fl) (.int .i64 fr) (.slice (some ⟨b, 0, none⟩) 2 2) (.int .i64 nw1) (.int .i64 tm) (.int .i64 rp) := ⟨_, rfl⟩
  have k5 : Only [w.heap.size] w4 W5 := by rw [hW5]; exact put14_only _ _ _ _ _ _ _ _ _ _ _ _ _ _ _ _
  have pr5 : Cel W5 w.heap.size 31 #[.int .i64 K, .int .i64 H, .int .i64 W, .int .i64 T, .int .i64 R, .int .i64 st, .slice A n c, .int .i64 ac, .int .i64 fl, .int .i64 fr, .slice (some ⟨b, 0, none⟩) 2 2, .int .i64 nw1, .int .i64 tm, .int .i64 rp] := by rw [hW5]; exact put14_cel pr4 _ _ _ _ _ _ _ _ _ _ _ _ _ _
  have pz5 := pz4.only k5 (by simp)
  have pq5 := pq4.only k5 (by simp; omega)
  have b5 := b4.trans (k5.below b4.size (by simp))
  unfold put14 at hW5
  have a0 := pr4.cell 0
  have a1 := pr4.cell 1
  have a2 := pr4.cell 2
  have a3 := pr4.cell 3
  have a4 := pr4.cell 4
  have a5 := pr4.cell 5
  have a6 := pr4.cell 6
  have a7 := pr4.cell 7
  have a8 := pr4.cell 8
  have a9 := pr4.cell 9
  have a10 := pr4.cell 10
  have a11 := pr4.cell 11
  have a12 := pr4.cell 12
  have a13 := pr4.cell 13
  simp at a0 a1 a2 a3 a4 a5 a6 a7 a8 a9 a10 a11 a12 a13
  have ya0 := pr4.free 0
  have ya1 := pr4.free 1
  have ya2 := pr4.free 2
  have ya3 := pr4.free 3
  have ya4 := pr4.free 4
  have ya5 := pr4.free 5
  have ya6 := pr4.free 6
  have ya7 := pr4.free 7
  have ya8 := pr4.free 8
  have ya9 := pr4.free 9
  have ya10 := pr4.free 10
  have ya11 := pr4.free 11
  have ya12 := pr4.free 12
  have ya13 := pr4.free 13
  clear k4 k5 pz4 pq4 b4 pr4
  go_upto_region 2 with fail
  rw [← hW5]
  clear hW5 a0 ya0 a1 ya1 a2 ya2 a3 ya3 a4 ya4 a5 ya5 a6 ya6 a7 ya7 a8 ya8 a9 ya9 a10 ya10 a11 ya11 a12 ya12 a13 ya13
  have r0 := pr5.cell 0
  have r1 := pr5.cell 1
  have r2 := pr5.cell 2
  have r3 := pr5.cell 3
  have r4 := pr5.cell 4
  have r5 := pr5.cell 5
  have r6 := pr5.cell 6
  have r7 := pr5.cell 7
  have r8 := pr5.cell 8
  have r9 := pr5.cell 9
  have r10 := pr5.cell 10
  have r11 := pr5.cell 11
  have r12 := pr5.cell 12
  have r13 := pr5.cell 13
  simp at r0 r1 r2 r3 r4 r5 r6 r7 r8 r9 r10 r11 r12 r13
  have yr0 := pr5.free 0
  have yr1 := pr5.free 1
  have yr2 := pr5.free 2
  have yr3 := pr5.free 3
  have yr4 := pr5.free 4
  have yr5 := pr5.free 5
  have yr6 := pr5.free 6
  have yr7 := pr5.free 7
  have yr8 := pr5.free 8
  have yr9 := pr5.free 9
  have yr10 := pr5.free 10
  have yr11 := pr5.free 11
  have yr12 := pr5.free 12
  have yr13 := pr5.free 13
  have z0 := pz5.cell 0
  have z1 := pz5.cell 1
  have z2 := pz5.cell 2
  have z3 := pz5.cell 3
  have z4 := pz5.cell 4
  have z5 := pz5.cell 5
  have z6 := pz5.cell 6
  have z7 := pz5.cell 7
  have z8 := pz5.cell 8
  have z9 := pz5.cell 9
  have z10 := pz5.cell 10
  have z11 := pz5.cell 11
  have z12 := pz5.cell 12
  have z13 := pz5.cell 13
  simp at z0 z1 z2 z3 z4 z5 z6 z7 z8 z9 z10 z11 z12 z13
  have yz0 := pz5.free 0
  have yz1 := pz5.free 1
  have yz2 := pz5.free 2
  have yz3 := pz5.free 3
  have yz4 := pz5.free 4
  have yz5 := pz5.free 5
  have yz6 := pz5.free 6
  have yz7 := pz5.free 7
  have yz8 := pz5.free 8
  have yz9 := pz5.free 9
  have yz10 := pz5.free 10
  have yz11 := pz5.free 11
  have yz12 := pz5.free 12
  have yz13 := pz5.free 13
  have q0 := pq5.cell 0
  have q1 := pq5.cell 1
  have q2 := pq5.cell 2
  have q3 := pq5.cell 3
  have q4 := pq5.cell 4
  have q5 := pq5.cell 5
  simp at q0 q1 q2 q3 q4 q5
  have yq0 := pq5.free 0
  have yq1 := pq5.free 1
  have yq2 := pq5.free 2
  have yq3 := pq5.free 3
  have yq4 := pq5.free 4
  have yq5 := pq5.free 5
  have e0 := (b5.cell (p := ⟨b, 0, none⟩) hlt).trans e0
  have e1 := (b5.cell (p := ⟨b, 1, none⟩) hlt).trans e1
  have e2 := (b5.cell (p := ⟨b, 2, none⟩) hlt).trans e2
  have e3 := (b5.cell (p := ⟨b, 3, none⟩) hlt).trans e3
  have e4 := (b5.cell (p := ⟨b, 4, none⟩) hlt).trans e4
  have e5 := (b5.cell (p := ⟨b, 5, none⟩) hlt).trans e5
  obtain ⟨W6, hW6⟩ : ∃ W6, W6 = W5.alloc (.cells #[.bool true, .bool true, .int .i64 K, .int .i64 H, .int .i64 0, .slice a 1 cd] 43) := ⟨_, rfl⟩
  have k6 : Below W5.heap.size W5 W6 := by rw [hW6]; exact bel_new _ _
  have pr6 := Cel.later pr5 k6
  have pz6 := Cel.later pz5 k6
  have pq6 := Cel.later pq5 k6
  have HLT := Lib.hid pq5.lt
  have pf6 : Cel W6 W5.heap.size 43 #[.bool true, .bool true, .int .i64 K, .int .i64 H, .int .i64 0, .slice a 1 cd] := by rw [hW6]; exact Cel_at rfl
  have b6 := b5.trans (k6.mono b5.size)
  go_upto_region 4 with fail
  rw [← hW6]
  clear r0 yr0 z0 yz0 r1 yr1 z1 yz1 r2 yr2 z2 yz2 r3 yr3 z3 yz3 r4 yr4 z4 yz4 r5 yr5 z5 yz5 r6 yr6 z6 yz6 r7 yr7 z7 yz7 r8 yr8 z8 yz8 r9 yr9 z9 yz9 r10 yr10 z10 yz10 r11 yr11 z11 yz11 r12 yr12 z12 yz12 r13 yr13 z13 yz13 q0 yq0 q1 yq1 q2 yq2 q3 yq3 q4 yq4 q5 yq5
  clear hW6 k6 b5 pr5 pz5 pq5 e0 e1 e2 e3 e4 e5 hlt
  obtain ⟨F, hF⟩ : ∃ F, F = W5.heap.size := ⟨_, rfl⟩
  have hFne : F ≠ w.heap.size := by rw [hF]; exact fun e => by have := HLT.out; omega
  have hF1 : F ≠ w.heap.size + 1 := by rw [hF]; exact fun e => by have := HLT.out; omega
  have hF2 : F ≠ w.heap.size + 1 + 1 := by rw [hF]; exact fun e => by have := HLT.out; omega
  have hG1 := hF1.symm
  have hG2 := hF2.symm
  rw [← hF] at pf6 ⊢
  clear hF
  have r0 := pr6.cell 0
  have r1 := pr6.cell 1
  have r2 := pr6.cell 2
  have r3 := pr6.cell 3
  have r4 := pr6.cell 4
  have r5 := pr6.cell 5
  have r6 := pr6.cell 6
  have r7 := pr6.cell 7
  have r8 := pr6.cell 8
  have r9 := pr6.cell 9
  have r10 := pr6.cell 10
  have r11 := pr6.cell 11
  have r12 := pr6.cell 12
  have r13 := pr6.cell 13
  simp at r0 r1 r2 r3 r4 r5 r6 r7 r8 r9 r10 r11 r12 r13
  have yr0 := pr6.free 0
  have yr1 := pr6.free 1
  have yr2 := pr6.free 2
  have yr3 := pr6.free 3
  have yr4 := pr6.free 4
  have yr5 := pr6.free 5
  have yr6 := pr6.free 6
  have yr7 := pr6.free 7
  have yr8 := pr6.free 8
  have yr9 := pr6.free 9
  have yr10 := pr6.free 10
  have yr11 := pr6.free 11
  have yr12 := pr6.free 12
  have yr13 := pr6.free 13
  have z0 := pz6.cell 0
  have z1 := pz6.cell 1
  have z2 := pz6.cell 2
  have z3 := pz6.cell 3
  have z4 := pz6.cell 4
  have z5 := pz6.cell 5
  have z6 := pz6.cell 6
  have z7 := pz6.cell 7
  have z8 := pz6.cell 8
  have z9 := pz6.cell 9
  have z10 := pz6.cell 10
  have z11 := pz6.cell 11
  have z12 := pz6.cell 12
  have z13 := pz6.cell 13
  simp at z0 z1 z2 z3 z4 z5 z6 z7 z8 z9 z10 z11 z12 z13
  have yz0 := pz6.free 0
  have yz1 := pz6.free 1
  have yz2 := pz6.free 2
  have yz3 := pz6.free 3
  have yz4 := pz6.free 4
  have yz5 := pz6.free 5
  have yz6 := pz6.free 6
  have yz7 := pz6.free 7
  have yz8 := pz6.free 8
  have yz9 := pz6.free 9
  have yz10 := pz6.free 10
  have yz11 := pz6.free 11
  have yz12 := pz6.free 12
  have yz13 := pz6.free 13
  have q0 := pq6.cell 0
  have q1 := pq6.cell 1
  have q2 := pq6.cell 2
  have q3 := pq6.cell 3
  have q4 := pq6.cell 4
  have q5 := pq6.cell 5
  simp at q0 q1 q2 q3 q4 q5
  have yq0 := pq6.free 0
  have yq1 := pq6.free 1
  have yq2 := pq6.free 2
  have yq3 := pq6.free 3
  have yq4 := pq6.free 4
  have yq5 := pq6.free 5
  have f0 := pf6.cell 0
  have f1 := pf6.cell 1
  have f2 := pf6.cell 2
  have f3 := pf6.cell 3
  have f4 := pf6.cell 4
  have f5 := pf6.cell 5
  simp at f0 f1 f2 f3 f4 f5
  obtain ⟨W7, hW7⟩ : ∃ W7, W7 = W6.setCell ⟨w.heap.size, 10, none⟩ (.slice (some ⟨b, 6, none⟩) 1 1) := ⟨_, rfl⟩
  have k7 : Only [w.heap.size] W6 W7 := by rw [hW7]; exact put_only _ _ 10 _
  have pr7 : Cel W7 w.heap.size 31 #[.int .i64 K, .int .i64 H, .int .i64 W, .int .i64 T, .int .i64 R, .int .i64 st, .slice A n c, .int .i64 ac, .int .i64 fl, .int .i64 fr, .slice (some ⟨b, 6, none⟩) 1 1, .int .i64 nw1, .int .i64 tm, .int .i64 rp] := by rw [hW7]; exact pr6.put 10 _
  have pf7 := pf6.only k7 (by simpa using hFne)
  have pz7 := pz6.only k7 (by simp)
  have pq7 := pq6.only k7 (by simp; omega)
  have b7 := b6.trans (k7.below b6.size (by simp))
  have HFIN := Lib.hid (fin2 b7 b7.size pz7 pq7 (by omega) (by omega) (.int .i64 K) (.int .i64 H) (.int .i64 W) (.int .i64 T) (.int .i64 R) (.int .i64 st) (.slice A n c) (.int .i64 ac) (.int .i64 fl) (.int .i64 fr) (.slice (some ⟨b, 6, none⟩) 1 1) (.int .i64 nw1) (.int .i64 tm) (.int .i64 rp) (.bool true) (.bool true) (.int .i64 K) (.int .i64 H) (.int .i64 0) (.slice a 1 cd))
  unfold put14 put6 at HFIN
  go_upto_region 5 with fail
  rw [← hW7]
  clear r0 yr0 z0 yz0 r1 yr1 z1 yz1 r2 yr2 z2 yz2 r3 yr3 z3 yz3 r4 yr4 z4 yz4 r5 yr5 z5 yz5 r6 yr6 z6 yz6 r7 yr7 z7 yz7 r8 yr8 z8 yz8 r9 yr9 z9 yz9 r10 yr10 z10 yz10 r11 yr11 z11 yz11 r12 yr12 z12 yz12 r13 yr13 z13 yz13 q0 yq0 q1 yq1 q2 yq2 q3 yq3 q4 yq4 q5 yq5
  clear f0 f1 f2 f3 f4 f5 hW7
  have r0 := pr7.cell 0
  have r1 := pr7.cell 1
  have r2 := pr7.cell 2
  have r3 := pr7.cell 3
  have r4 := pr7.cell 4
  have r5 := pr7.cell 5
  have r6 := pr7.cell 6
  have r7 := pr7.cell 7
  have r8 := pr7.cell 8
  have r9 := pr7.cell 9
  have r10 := pr7.cell 10
  have r11 := pr7.cell 11
  have r12 := pr7.cell 12
  have r13 := pr7.cell 13
  simp at r0 r1 r2 r3 r4 r5 r6 r7 r8 r9 r10 r11 r12 r13
  have z0 := pz7.cell 0
  have z1 := pz7.cell 1
  have z2 := pz7.cell 2
  have z3 := pz7.cell 3
  have z4 := pz7.cell 4
  have z5 := pz7.cell 5
  have z6 := pz7.cell 6
  have z7 := pz7.cell 7
  have z8 := pz7.cell 8
  have z9 := pz7.cell 9
  have z10 := pz7.cell 10
  have z11 := pz7.cell 11
  have z12 := pz7.cell 12
  have z13 := pz7.cell 13
  simp at z0 z1 z2 z3 z4 z5 z6 z7 z8 z9 z10 z11 z12 z13
  have yz0 := pz7.free 0
  have yz1 := pz7.free 1
  have yz2 := pz7.free 2
  have yz3 := pz7.free 3
  have yz4 := pz7.free 4
  have yz5 := pz7.free 5
  have yz6 := pz7.free 6
  have yz7 := pz7.free 7
  have yz8 := pz7.free 8
  have yz9 := pz7.free 9
  have yz10 := pz7.free 10
  have yz11 := pz7.free 11
  have yz12 := pz7.free 12
  have yz13 := pz7.free 13
  have q0 := pq7.cell 0
  have q1 := pq7.cell 1
  have q2 := pq7.cell 2
  have q3 := pq7.cell 3
  have q4 := pq7.cell 4
  have q5 := pq7.cell 5
  simp at q0 q1 q2 q3 q4 q5
  have yq0 := pq7.free 0
  have yq1 := pq7.free 1
  have yq2 := pq7.free 2
  have yq3 := pq7.free 3
  have yq4 := pq7.free 4
  have yq5 := pq7.free 5
  have f0 := pf7.cell 0
  have f1 := pf7.cell 1
  have f2 := pf7.cell 2
  have f3 := pf7.cell 3
  have f4 := pf7.cell 4
  have f5 := pf7.cell 5
  simp at f0 f1 f2 f3 f4 f5
  clear k7 pr7 pz7 pq7 pf7 b7 b6 pr6 pz6 pq6 pf6
  go_region
  go_wp2
  exact bodyPost_ret (xnx_results rfl rfl rfl (HFIN.out.1.draws 1) (HFIN.out.2.1.draws 1)) rfl ⟨rfl, HFIN.out.2.2.trans ((drewN_below _ 1).mono HFIN.out.2.2.size)⟩

end Go.Proofs.Ytdpjjhbfhlmolaa.Fop

/-
  The reference of layer 17: Next with data frames.
-/
namespace Go.Proofs.Ytdpjjhbfhlmolaa.Fop
open Go.RowKit
open Pac (bel_new Cel.later)
open Tcf (Fr)

theorem if_max_d (a b : Int) : (if a < b then b else a) = max a b := by split <;> omega

set_option maxRecDepth 100000 in
set_option maxHeartbeats 16000000 in
theorem xnext_wait (m : Int) (K H W T R : Int) (A : Option Addr) (n c : Nat) (ac fl fr : Int) (A2 : Option Addr) (c2 : Nat) (nw tm rp : Int) (w : World) {nw1 M : Int} (hN : adn m nw = nw1) (hn : n ≠ 0) (hM : min (n : Int) W = M) (hf : M ≤ fl) (t0 : 0 ≤ tm) (t1 : tm ≤ 1099511627776) (t2 : 0 ≤ T) (t3 : T ≤ 1099511627776) (ht : nw1 < tm + T) :
    Calls Try.prog 15 #[.agg #[.int .i64 K, .int .i64 H, .int .i64 W, .int .i64 T, .int .i64 R, .int .i64 1, .slice A n c, .int .i64 ac, .int .i64 fl, .int .i64 fr, .slice A2 0 c2, .int .i64 nw, .int .i64 tm, .int .i64 rp], .int .i64 m] w fun e w' => (e = .returned (.tuple #[.agg #[.int .i64 K, .int .i64 H, .int .i64 W, .int .i64 T, .int .i64 R, .int .i64 1, .slice A n c, .int .i64 ac, .int .i64 fl, .int .i64 fr, .slice A2 0 c2, .int .i64 nw1, .int .i64 tm, .int .i64 rp], .agg #[.bool false, .bool false, .int .i64 0, .int .i64 0, .int .i64 0, .slice none 0 0], .bool false])) ∧ Below w.heap.size w w' := by
  have mm1 : (if W < (n : Int) then W else (n : Int)) = M := by split <;> omega
  have tn1 : ((n : Int) == 0) = false := by simpa using hn
  have tn2 : decide (n = 0) = false := by simpa using hn
  have ts1 : ((1 : Int) != 1) = false := rfl
  obtain ⟨S, hS⟩ : ∃ S, S = tm + T := ⟨_, rfl⟩
  rw [← hS] at ht
  have s1 : tm + T = S := hS.symm
  have s2 : wrap64 (tm + T) = S := by rw [wr64 (by omega) (by omega)]; exact hS.symm
  have s2c : wrap64 S = S := wr64 (by omega) (by omega)
  have s2d : IntKind.i64.wrap S = S := by rw [IntKind.wrap_i64]; omega
  have d1 : decide (M ≤ fl) = true := by simpa using hf
  have d2 : decide (nw1 < S) = true := by simpa using ht
  clear hS hf ht hn
  obtain ⟨w3, hw3⟩ : ∃ w3, w3 = ((w.alloc (.cells #[.int .i64 K, .int .i64 H, .int .i64 W, .int .i64 T, .int .i64 R, .int .i64 1, .slice A n c, .int .i64 ac, .int .i64 fl, .int .i64 fr, .slice A2 0 c2, .int .i64 nw, .int .i64 tm, .int .i64 rp] 31)).alloc (.cells #[.int .i64 0, .int .i64 0, .int .i64 0, .int .i64 0, .int .i64 0, .int .i64 0, .slice none 0 0, .int .i64 0, .int .i64 0, .int .i64 0, .slice none 0 0, .int .i64 0, .int .i64 0, .int .i64 0] 31)).alloc (.cells #[.bool false, .bool false, .int .i64 0, .int .i64 0, .int .i64 0, .slice none 0 0] 43) := ⟨_, rfl⟩
  have b3 : Below w.heap.size w w3 := by rw [hw3]; exact ((bel_new _ _).alloc (by simp) _).alloc (by simp; omega) _
  have pr3 : Cel w3 w.heap.size 31 #[.int .i64 K, .int .i64 H, .int .i64 W, .int .i64 T, .int .i64 R, .int .i64 1, .slice A n c, .int .i64 ac, .int .i64 fl, .int .i64 fr, .slice A2 0 c2, .int .i64 nw, .int .i64 tm, .int .i64 rp] := by rw [hw3]; exact Cel.later (Cel.later (Cel_at rfl) (bel_new _ _)) (bel_new _ _)
  have pz3 : Cel w3 (w.heap.size + 1) 31 #[.int .i64 0, .int .i64 0, .int .i64 0, .int .i64 0, .int .i64 0, .int .i64 0, .slice none 0 0, .int .i64 0, .int .i64 0, .int .i64 0, .slice none 0 0, .int .i64 0, .int .i64 0, .int .i64 0] := by rw [hw3]; exact Cel.later (Cel_at (by simp)) (bel_new _ _)
  have pq3 : Cel w3 (w.heap.size + 1 + 1) 43 #[.bool false, .bool false, .int .i64 0, .int .i64 0, .int .i64 0, .slice none 0 0] := by rw [hw3]; exact Cel_at (by simp)
  have xa := xat_any m K H W T R 1 A n c ac fl fr A2 0 c2 nw tm rp w3 hN
  have HP := Lib.hid (And.intro pr3 (And.intro pz3 pq3))
  have HB := Lib.hid b3
  clear pr3 pz3 pq3 b3 hN
  go_enter Try.func15, Try.ntmps15
  go_wp2_with fail
  rw [← hw3]
  clear hw3
  refine xa.mono ?_
  rintro e w4 ⟨rfl, k4⟩
  clear xa
  have pr4 := Cel.later HP.out.1 k4
  have pz4 := Cel.later HP.out.2.1 k4
  have pq4 := Cel.later HP.out.2.2 k4
  have b4 := HB.out.trans (k4.mono HB.out.size)
  obtain ⟨W5, hW5⟩ : ∃ W5, W5 = put14 w4 w.heap.size (.int .i64 K) (.int .i64 H) (.int .i64 W) (.int .i64 T) (.int .i64 R) (.int .i64 1) (.slice A n c) (.int .i64 ac) (.int .i64 fl) (.int .i64 fr) (.slice A2 0 c2) (.int .i64 nw1) (.int .i64 tm) (.int .i64 rp) := ⟨_, rfl⟩
  have k5 : Only [w.heap.size] w4 W5 := by rw [hW5]; exact put14_only _ _ _ _ _ _ _ _ _ _ _ _ _ _ _ _
  have pr5 : Cel W5 w.heap.size 31 #[.int .i64 K, .int .i64 H, .int .i64 W, .int .i64 T, .int .i64 R, .int .i64 1, .slice A n c, .int .i64 ac, .int .i64 fl, .int .i64 fr, .slice A2 0 c2, .int .i64 nw1, .int .i64 tm, .int .i64 rp] := by rw [hW5]; exact put14_cel pr4 _ _ _ _ _ _ _ _ _ _ _ _ _ _
  have pz5 := pz4.only k5 (by simp)
  have pq5 := pq4.only k5 (by simp; omega)
  have b5 := b4.trans (k5.below b4.size (by simp))
  unfold put14 at hW5
  have a0 := pr4.cell 0
  have a1 := pr4.cell 1
  have a2 := pr4.cell 2
  have a3 := pr4.cell 3
  have a4 := pr4.cell 4
  have a5 := pr4.cell 5
  have a6 := pr4.cell 6
  have a7 := pr4.cell 7
  have a8 := pr4.cell 8
  have a9 := pr4.cell 9
  have a10 := pr4.cell 10
  have a11 := pr4.cell 11
  have a12 := pr4.cell 12
  have a13 := pr4.cell 13
  simp at a0 a1 a2 a3 a4 a5 a6 a7 a8 a9 a10 a11 a12 a13
  have ya0 := pr4.free 0
  have ya1 := pr4.free 1
  have ya2 := pr4.free 2
  have ya3 := pr4.free 3
  have ya4 := pr4.free 4
  have ya5 := pr4.free 5
  have ya6 := pr4.free 6
  have ya7 := pr4.free 7
  have ya8 := pr4.free 8
  have ya9 := pr4.free 9
  have ya10 := pr4.free 10
  have ya11 := pr4.free 11
  have ya12 := pr4.free 12
  have ya13 := pr4.free 13
  clear k4 k5 pz4 pq4 b4 pr4
  go_upto_region 2 with fail
  rw [← hW5]
  clear hW5 a0 ya0 a1 ya1 a2 ya2 a3 ya3 a4 ya4 a5 ya5 a6 ya6 a7 ya7 a8 ya8 a9 ya9 a10 ya10 a11 ya11 a12 ya12 a13 ya13
  have r0 := pr5.cell 0
  have r1 := pr5.cell 1
  have r2 := pr5.cell 2
  have r3 := pr5.cell 3
  have r4 := pr5.cell 4
  have r5 := pr5.cell 5
  have r6 := pr5.cell 6
  have r7 := pr5.cell 7
  have r8 := pr5.cell 8
  have r9 := pr5.cell 9
  have r10 := pr5.cell 10
  have r11 := pr5.cell 11
  have r12 := pr5.cell 12
  have r13 := pr5.cell 13
  simp at r0 r1 r2 r3 r4 r5 r6 r7 r8 r9 r10 r11 r12 r13
  have yr0 := pr5.free 0
  have yr1 := pr5.free 1
  have yr2 := pr5.free 2
  have yr3 := pr5.free 3
  have yr4 := pr5.free 4
  have yr5 := pr5.free 5
  have yr6 := pr5.free 6
  have yr7 := pr5.free 7
  have yr8 := pr5.free 8
  have yr9 := pr5.free 9
  have yr10 := pr5.free 10
  have yr11 := pr5.free 11
  have yr12 := pr5.free 12
  have yr13 := pr5.free 13
  have z0 := pz5.cell 0
  have z1 := pz5.cell 1
  have z2 := pz5.cell 2
  have z3 := pz5.cell 3
  have z4 := pz5.cell 4
  have z5 := pz5.cell 5
  have z6 := pz5.cell 6
  have z7 := pz5.cell 7
  have z8 := pz5.cell 8
  have z9 := pz5.cell 9
  have z10 := pz5.cell 10
  have z11 := pz5.cell 11
  have z12 := pz5.cell 12
  have z13 := pz5.cell 13
  simp at z0 z1 z2 z3 z4 z5 z6 z7 z8 z9 z10 z11 z12 z13
  have yz0 := pz5.free 0
  have yz1 := pz5.free 1
  have yz2 := pz5.free 2
  have yz3 := pz5.free 3
  have yz4 := pz5.free 4
  have yz5 := pz5.free 5
  have yz6 := pz5.free 6
  have yz7 := pz5.free 7
  have yz8 := pz5.free 8
  have yz9 := pz5.free 9
  have yz10 := pz5.free 10
  have yz11 := pz5.free 11
  have yz12 := pz5.free 12
  have yz13 := pz5.free 13
  have q0 := pq5.cell 0
  have q1 := pq5.cell 1
  have q2 := pq5.cell 2
  have q3 := pq5.cell 3
  have q4 := pq5.cell 4
  have q5 := pq5.cell 5
  simp at q0 q1 q2 q3 q4 q5
  have yq0 := pq5.free 0
  have yq1 := pq5.free 1
  have yq2 := pq5.free 2
  have yq3 := pq5.free 3
  have yq4 := pq5.free 4
  have yq5 := pq5.free 5
  have HFIN := Lib.hid (fin2 b5 b5.size pz5 pq5 (by omega) (by omega) (.int .i64 K) (.int .i64 H) (.int .i64 W) (.int .i64 T) (.int .i64 R) (.int .i64 1) (.slice A n c) (.int .i64 ac) (.int .i64 fl) (.int .i64 fr) (.slice A2 0 c2) (.int .i64 nw1) (.int .i64 tm) (.int .i64 rp) (.bool false) (.bool false) (.int .i64 0) (.int .i64 0) (.int .i64 0) (.slice none 0 0))
  unfold put14 put6 at HFIN
  clear b5 pr5 pz5 pq5
  go_wp2
  exact bodyPost_ret (xnx_results rfl rfl rfl HFIN.out.1 HFIN.out.2.1) rfl ⟨rfl, HFIN.out.2.2⟩

set_option maxRecDepth 100000 in
set_option maxHeartbeats 16000000 in
theorem xnext_stop (m : Int) (K H W T R : Int) (A : Option Addr) (n c : Nat) (ac fl fr : Int) (A2 : Option Addr) (c2 : Nat) (nw tm rp : Int) (w : World) {nw1 M : Int} (hN : adn m nw = nw1) (hn : n ≠ 0) (hM : min (n : Int) W = M) (hf : M ≤ fl) (t0 : 0 ≤ tm) (t1 : tm ≤ 1099511627776) (t2 : 0 ≤ T) (t3 : T ≤ 1099511627776) (ht : tm + T ≤ nw1) (hr : R ≤ rp) :
    Calls Try.prog 15 #[.agg #[.int .i64 K, .int .i64 H, .int .i64 W, .int .i64 T, .int .i64 R, .int .i64 1, .slice A n c, .int .i64 ac, .int .i64 fl, .int .i64 fr, .slice A2 0 c2, .int .i64 nw, .int .i64 tm, .int .i64 rp], .int .i64 m] w fun e w' => (e = .returned (.tuple #[.agg #[.int .i64 K, .int .i64 H, .int .i64 W, .int .i64 T, .int .i64 R, .int .i64 4, .slice A n c, .int .i64 ac, .int .i64 fl, .int .i64 fr, .slice A2 0 c2, .int .i64 nw1, .int .i64 tm, .int .i64 rp], .agg #[.bool false, .bool false, .int .i64 0, .int .i64 0, .int .i64 0, .slice none 0 0], .bool false])) ∧ Below w.heap.size w w' := by
  have mm1 : (if W < (n : Int) then W else (n : Int)) = M := by split <;> omega
  have tn1 : ((n : Int) == 0) = false := by simpa using hn
  have tn2 : decide (n = 0) = false := by simpa using hn
  have ts1 : ((1 : Int) != 1) = false := rfl
  obtain ⟨S, hS⟩ : ∃ S, S = tm + T := ⟨_, rfl⟩
  rw [← hS] at ht
  have s1 : tm + T = S := hS.symm
  have s2 : wrap64 (tm + T) = S := by rw [wr64 (by omega) (by omega)]; exact hS.symm
  have s2c : wrap64 S = S := wr64 (by omega) (by omega)
  have s2d : IntKind.i64.wrap S = S := by rw [IntKind.wrap_i64]; omega
  have d1 : decide (M ≤ fl) = true := by simpa using hf
  have d2 : decide (nw1 < S) = false := by simp; omega
  have d3 : decide (R ≤ rp) = true := by simpa using hr
  clear hS hf ht hn hr
  obtain ⟨w3, hw3⟩ : ∃ w3, w3 = ((w.alloc (.cells #[.int .i64 K, .int .i64 H, .int .i64 W, .int .i64 T, .int .i64 R, .int .i64 1, .slice A n c, .int .i64 ac, .int .i64 fl, .int .i64 fr, .slice A2 0 c2, .int .i64 nw, .int .i64 tm, .int .i64 rp] 31)).alloc (.cells #[.int .i64 0, .int .i64 0, .int .i64 0, .int .i64 0, .int .i64 0, .int .i64 0, .slice none 0 0, .int .i64 0, .int .i64 0, .int .i64 0, .slice none 0 0, .int .i64 0, .int .i64 0, .int .i64 0] 31)).alloc (.cells #[.bool false, .bool false, .int .i64 0, .int .i64 0, .int .i64 0, .slice none 0 0] 43) := ⟨_, rfl⟩
  have b3 : Below w.heap.size w w3 := by rw [hw3]; exact ((bel_new _ _).alloc (by simp) _).alloc (by simp; omega) _
  have pr3 : Cel w3 w.heap.size 31 #[.int .i64 K, .int .i64 H, .int .i64 W, .int .i64 T, .int .i64 R, .int .i64 1, .slice A n c, .int .i64 ac, .int .i64 fl, .int .i64 fr, .slice A2 0 c2, .int .i64 nw, .int .i64 tm, .int .i64 rp] := by rw [hw3]; exact Cel.later (Cel.later (Cel_at rfl) (bel_new _ _)) (bel_new _ _)
  have pz3 : Cel w3 (w.heap.size + 1) 31 #[.int .i64 0, .int .i64 0, .int .i64 0, .int .i64 0, .int .i64 0, .int .i64 0, .slice none 0 0, .int .i64 0, .int .i64 0, .int .i64 0, .slice none 0 0, .int .i64 0, .int .i64 0, .int .i64 0] := by rw [hw3]; exact Cel.later (Cel_at (by simp)) (bel_new _ _)
  have pq3 : Cel w3 (w.heap.size + 1 + 1) 43 #[.bool false, .bool false, .int .i64 0, .int .i64 0, .int .i64 0, .slice none 0 0] := by rw [hw3]; exact Cel_at (by simp)
  have xa := xat_any m K H W T R 1 A n c ac fl fr A2 0 c2 nw tm rp w3 hN
  have HP := Lib.hid (And.intro pr3 (And.intro pz3 pq3))
  have HB := Lib.hid b3
  clear pr3 pz3 pq3 b3 hN
  go_enter Try.func15, Try.ntmps15
  go_wp2_with fail
  rw [← hw3]
  clear hw3
  refine xa.mono ?_
  rintro e w4 ⟨rfl, k4⟩
  clear xa
  have pr4 := Cel.later HP.out.1 k4
  have pz4 := Cel.later HP.out.2.1 k4
  have pq4 := Cel.later HP.out.2.2 k4
  have b4 := HB.out.trans (k4.mono HB.out.size)
  obtain ⟨W5, hW5⟩ : ∃ W5, W5 = put14 w4 w.heap.size (.int .i64 K) (.int .i64 H) (.int .i64 W) (.int .i64 T) (.int .i64 R) (.int .i64 1) (.slice A n c) (.int .i64 ac) (.int .i64 fl) (.int .i64 fr) (.slice A2 0 c2) (.int .i64 nw1) (.int .i64 tm) (.int .i64 rp) := ⟨_, rfl⟩
  have k5 : Only [w.heap.size] w4 W5 := by rw [hW5]; exact put14_only _ _ _ _ _ _ _ _ _ _ _ _ _ _ _ _
  have pr5 : Cel W5 w.heap.size 31 #[.int .i64 K, .int .i64 H, .int .i64 W, .int .i64 T, .int .i64 R, .int .i64 1, .slice A n c, .int .i64 ac, .int .i64 fl, .int .i64 fr, .slice A2 0 c2, .int .i64 nw1, .int .i64 tm, .int .i64 rp] := by rw [hW5]; exact put14_cel pr4 _ _ _ _ _ _ _ _ _ _ _ _ _ _
  have pz5 := pz4.only k5 (by simp)
  have pq5 := pq4.only k5 (by simp; omega)
  have b5 := b4.trans (k5.below b4.size (by simp))
  unfold put14 at hW5
  have a0 := pr4.cell 0
  have a1 := pr4.cell 1
  have a2 := pr4.cell 2
  have a3 := pr4.cell 3
  have a4 := pr4.cell 4
  have a5 := pr4.cell 5
  have a6 := pr4.cell 6
  have a7 := pr4.cell 7
  have a8 := pr4.cell 8
  have a9 := pr4.cell 9
  have a10 := pr4.cell 10
  have a11 := pr4.cell 11
  have a12 := pr4.cell 12
  have a13 := pr4.cell 13
  simp at a0 a1 a2 a3 a4 a5 a6 a7 a8 a9 a10 a11 a12 a13
  have ya0 := pr4.free 0
  have ya1 := pr4.free 1
  have ya2 := pr4.free 2
  have ya3 := pr4.free 3
  have ya4 := pr4.free 4
  have ya5 := pr4.free 5
  have ya6 := pr4.free 6
  have ya7 := pr4.free 7
  have ya8 := pr4.free 8
  have ya9 := pr4.free 9
  have ya10 := pr4.free 10
  have ya11 := pr4.free 11
  have ya12 := pr4.free 12
  have ya13 := pr4.free 13
  clear k4 k5 pz4 pq4 b4 pr4
  go_upto_region 2 with fail
  rw [← hW5]
  clear hW5 a0 ya0 a1 ya1 a2 ya2 a3 ya3 a4 ya4 a5 ya5 a6 ya6 a7 ya7 a8 ya8 a9 ya9 a10 ya10 a11 ya11 a12 ya12 a13 ya13
  have r0 := pr5.cell 0
  have r1 := pr5.cell 1
  have r2 := pr5.cell 2
  have r3 := pr5.cell 3
  have r4 := pr5.cell 4
  have r5 := pr5.cell 5
  have r6 := pr5.cell 6
  have r7 := pr5.cell 7
  have r8 := pr5.cell 8
  have r9 := pr5.cell 9
  have r10 := pr5.cell 10
  have r11 := pr5.cell 11
  have r12 := pr5.cell 12
  have r13 := pr5.cell 13
  simp at r0 r1 r2 r3 r4 r5 r6 r7 r8 r9 r10 r11 r12 r13
  have yr0 := pr5.free 0
  have yr1 := pr5.free 1
  have yr2 := pr5.free 2
  have yr3 := pr5.free 3
  have yr4 := pr5.free 4
  have yr5 := pr5.free 5
  have yr6 := pr5.free 6
  have yr7 := pr5.free 7
  have yr8 := pr5.free 8
  have yr9 := pr5.free 9
  have yr10 := pr5.free 10
  have yr11 := pr5.free 11
  have yr12 := pr5.free 12
  have yr13 := pr5.free 13
  have z0 := pz5.cell 0
  have z1 := pz5.cell 1
  have z2 := pz5.cell 2
  have z3 := pz5.cell 3
  have z4 := pz5.cell 4
  have z5 := pz5.cell 5
  have z6 := pz5.cell 6
  have z7 := pz5.cell 7
  have z8 := pz5.cell 8
  have z9 := pz5.cell 9
  have z10 := pz5.cell 10
  have z11 := pz5.cell 11
  have z12 := pz5.cell 12
  have z13 := pz5.cell 13
  simp at z0 z1 z2 z3 z4 z5 z6 z7 z8 z9 z10 z11 z12 z13
  have yz0 := pz5.free 0
  have yz1 := pz5.free 1
  have yz2 := pz5.free 2
  have yz3 := pz5.free 3
  have yz4 := pz5.free 4
  have yz5 := pz5.free 5
  have yz6 := pz5.free 6
  have yz7 := pz5.free 7
  have yz8 := pz5.free 8
  have yz9 := pz5.free 9
  have yz10 := pz5.free 10
  have yz11 := pz5.free 11
  have yz12 := pz5.free 12
  have yz13 := pz5.free 13
  have q0 := pq5.cell 0
  have q1 := pq5.cell 1
  have q2 := pq5.cell 2
  have q3 := pq5.cell 3
  have q4 := pq5.cell 4
  have q5 := pq5.cell 5
  simp at q0 q1 q2 q3 q4 q5
  have yq0 := pq5.free 0
  have yq1 := pq5.free 1
  have yq2 := pq5.free 2
  have yq3 := pq5.free 3
  have yq4 := pq5.free 4
  have yq5 := pq5.free 5
  obtain ⟨W6, hW6⟩ : ∃ W6, W6 = W5.setCell ⟨w.heap.size, 5, none⟩ (.int .i64 4) := ⟨_, rfl⟩
  have k6 : Only [w.heap.size] W5 W6 := by rw [hW6]; exact put_only _ _ 5 _
  have pz6 := pz5.only k6 (by simp)
  have pq6 := pq5.only k6 (by simp; omega)
  have b6 := b5.trans (k6.below b5.size (by simp))
  have HFIN := Lib.hid (fin2 b6 b6.size pz6 pq6 (by omega) (by omega) (.int .i64 K) (.int .i64 H) (.int .i64 W) (.int .i64 T) (.int .i64 R) (.int .i64 4) (.slice A n c) (.int .i64 ac) (.int .i64 fl) (.int .i64 fr) (.slice A2 0 c2) (.int .i64 nw1) (.int .i64 tm) (.int .i64 rp) (.bool false) (.bool false) (.int .i64 0) (.int .i64 0) (.int .i64 0) (.slice none 0 0))
  unfold put14 put6 at HFIN
  rw [hW6] at HFIN
  clear b5 b6 pr5 pz5 pq5 pz6 pq6 k6 hW6
  go_wp2
  exact bodyPost_ret (xnx_results rfl rfl rfl HFIN.out.1 HFIN.out.2.1) rfl ⟨rfl, HFIN.out.2.2⟩

end Go.Proofs.Ytdpjjhbfhlmolaa.Fop
