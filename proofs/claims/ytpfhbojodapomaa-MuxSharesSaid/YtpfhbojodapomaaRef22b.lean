/-
  The reference of layer 22: New.
-/
import Derived.Test.YtpfhbojodapomaaRef22a
import Derived.Deep.OwnRows
namespace Go.Proofs.Ytpfhbojodapomaa.Mux
open Go.RowKit Go.Shelf Go.Proofs.Ytpfhbojodapomaa.Row

def put3 (w : World) (g : Nat) (v0 v1 v2 : Value) : World := ((w.setCell ⟨g, 0, none⟩ v0).setCell ⟨g, 1, none⟩ v1).setCell ⟨g, 2, none⟩ v2
theorem put3_cel {w : World} {g : Nat} {t : TypeId} {x0 x1 x2 : Value} (h : Cel w g t #[x0, x1, x2]) (v0 v1 v2 : Value) : Cel (put3 w g v0 v1 v2) g t #[v0, v1, v2] := by
  unfold put3
  have h0 : Cel _ g t #[v0, x1, x2] := h.put 0 v0
  have h1 : Cel _ g t #[v0, v1, x2] := h0.put 1 v1
  exact h1.put 2 v2
theorem put3_only (w : World) (g : Nat) (v0 v1 v2 : Value) : Only [g] w (put3 w g v0 v1 v2) := by
  unfold put3
  exact ((put1 w g 0 v0).trans (put1 _ g 1 v1) (fun _ h => .inl h)).trans (put1 _ g 2 v2) (fun _ h => .inl h)

/-- what has been made on the way to a new one: the empty row, the channels, the credits, the counts -/
structure Inv (w0 : World) (B p n : Nat) (l : List Ch) (W : World) (oe : Option Nat) (oa o1 o2 : Option Value) : Prop where
  bel : Below B w0 W
  size : B ≤ W.heap.size
  cel : Cel W p 30 #[.slice none 0 0, .slice none 0 0, .slice none 0 0]
  pB : B ≤ p
  e : ∀ b, oe = some b → Cel W b 42 #[] ∧ B ≤ b
  a : ∀ v, oa = some v → Row.Os encA 3 W B 42 v l
  i1 : ∀ v, o1 = some v → Row.Os encI 1 W B 3 v (List.replicate n 0)
  i2 : ∀ v, o2 = some v → Row.Os encI 1 W B 3 v (List.replicate n 0)
  ap : ∀ v u, o1 = some v → o2 = some u → ∀ i, v.ownBlock = some i → u.ownBlock ≠ some i
section
variable {w0 W W' : World} {B p n : Nat} {l : List Ch} {oe : Option Nat} {oa o1 o2 : Option Value}
theorem Inv.only {S : List Nat} (h : Inv w0 B p n l W oe oa o1 o2) (k : Only S W W') (hS : ∀ x ∈ S, B ≤ x) (hp : p ∉ S) (he : ∀ b, oe = some b → b ∉ S) (ha : ∀ v, oa = some v → ∀ i, v.ownBlock = some i → i ∉ S)
    (h1 : ∀ v, o1 = some v → ∀ i, v.ownBlock = some i → i ∉ S) (h2 : ∀ v, o2 = some v → ∀ i, v.ownBlock = some i → i ∉ S) : Inv w0 B p n l W' oe oa o1 o2 :=
  ⟨h.bel.trans (k.below h.size hS), Nat.le_trans h.size k.size, h.cel.only k hp, h.pB, fun b hb => ⟨(h.e b hb).1.only k (he b hb), (h.e b hb).2⟩, fun v hv => (h.a v hv).only k (ha v hv), fun v hv => (h.i1 v hv).only k (h1 v hv),
    fun v hv => (h.i2 v hv).only k (h2 v hv), h.ap⟩
theorem Inv.below (h : Inv w0 B p n l W oe oa o1 o2) (k : Below W.heap.size W W') : Inv w0 B p n l W' oe oa o1 o2 := h.only (Only.of_below (S := []) k) (by simp) (by simp) (by simp) (by simp) (by simp) (by simp)
theorem inv_new (h : Inv w0 B p n l W oe oa o1 o2) (o : Obj) : Inv w0 B p n l (W.alloc o) oe oa o1 o2 := h.below (bel_new W o)
theorem inv_drew (h : Inv w0 B p n l W oe oa o1 o2) : Inv w0 B p n l W.drew oe oa o1 o2 := h.below (drewN_below W 1)
theorem Inv.empty (h : Inv w0 B p n l W none oa o1 o2) : Inv w0 B p n l (W.alloc (.cells #[] 42)) (some W.heap.size) oa o1 o2 := by
  have h' := h.below (bel_new W (.cells #[] 42))
  exact ⟨h'.bel, h'.size, h'.cel, h'.pB, fun b hb => by cases hb; exact ⟨Cel.new _ _ _, h.size⟩, h'.a, h'.i1, h'.i2, h'.ap⟩
theorem flat_zeros : ∀ n, flat encI (List.replicate n (0 : Int)) = List.replicate n (.int .i64 0)
  | 0 => rfl
  | n + 1 => by rw [List.replicate_succ, flat_cons, flat_zeros n, List.replicate_succ]; rfl
theorem made_os (W : World) (B n : Nat) (hB : B ≤ W.heap.size) (hn : n ≤ 1000000) : Row.Os encI 1 (W.alloc (.cells (madeCells #[.int .i64 0] n) 3)) B 3 (.slice (some ⟨W.heap.size, 0, none⟩) n n) (List.replicate n 0) := by
  have e : (flat encI (List.replicate n (0 : Int))).toArray = madeCells #[.int .i64 0] n := by
    rw [flat_zeros]
    refine Array.ext (by simp [size_madeCells]) fun i h1 h2 => ?_
    simp [madeCells, Nat.mod_one]
  have hc : Cel (W.alloc (.cells (madeCells #[.int .i64 0] n) 3)) W.heap.size 3 (flat encI (List.replicate n (0 : Int))).toArray := by
    rw [e]; exact Cel.new _ _ _
  have := Os_of_cel encI_ok hc hB (by rw [List.length_replicate]; unfold maxLen; omega)
  rwa [List.length_replicate] at this
theorem Inv.make1 (h : Inv w0 B p n l W oe oa none o2) (hn : n ≤ 1000000) : Inv w0 B p n l (W.alloc (.cells (madeCells #[.int .i64 0] n) 3)) oe oa (some (.slice (some ⟨W.heap.size, 0, none⟩) n n)) o2 := by
  have h' := h.below (bel_new W (.cells (madeCells #[.int .i64 0] n) 3))
  refine ⟨h'.bel, h'.size, h'.cel, h'.pB, h'.e, h'.a, fun v hv => by cases hv; exact made_os W B n h.size hn, h'.i2, fun v u hv hu i hi hi2 => ?_⟩
  cases hv
  have := ((h.i2 u hu).lt i hi2).2
  cases hi
  exact Nat.lt_irrefl _ this
theorem Inv.make2 (h : Inv w0 B p n l W oe oa o1 none) (hn : n ≤ 1000000) : Inv w0 B p n l (W.alloc (.cells (madeCells #[.int .i64 0] n) 3)) oe oa o1 (some (.slice (some ⟨W.heap.size, 0, none⟩) n n)) := by
  have h' := h.below (bel_new W (.cells (madeCells #[.int .i64 0] n) 3))
  refine ⟨h'.bel, h'.size, h'.cel, h'.pB, h'.e, h'.a, h'.i1, fun v hv => by cases hv; exact made_os W B n h.size hn, fun v u hv hu i hi hi2 => ?_⟩
  cases hu
  have := ((h.i1 v hv).lt i hi).2
  cases hi2
  exact Nat.lt_irrefl _ this
theorem Inv.swap (h : Inv w0 B p n l W oe oa o1 o2) : Inv w0 B p n l W oe oa o2 o1 := ⟨h.bel, h.size, h.cel, h.pB, h.e, h.a, h.i2, h.i1, fun v u hv hu i hi hi2 => h.ap u v hu hv i hi2 hi⟩
theorem Inv.emptyA (h : Inv w0 B p n l W none oa o1 o2) (b : Nat) (hb : W.heap.size = b) : Inv w0 B p n l (W.alloc (.cells #[] 42)) (some b) oa o1 o2 := hb ▸ h.empty
theorem Inv.make1A (h : Inv w0 B p n l W oe oa none o2) (hn : n ≤ 1000000) (b : Nat) (hb : W.heap.size = b) : Inv w0 B p n l (W.alloc (.cells (madeCells #[.int .i64 0] n) 3)) oe oa (some (.slice (some ⟨b, 0, none⟩) n n)) o2 := hb ▸ h.make1 hn
theorem Inv.make2A (h : Inv w0 B p n l W oe oa o1 none) (hn : n ≤ 1000000) (b : Nat) (hb : W.heap.size = b) : Inv w0 B p n l (W.alloc (.cells (madeCells #[.int .i64 0] n) 3)) oe oa o1 (some (.slice (some ⟨b, 0, none⟩) n n)) := hb ▸ h.make2 hn
theorem Inv.z0 (h : Inv w0 B p n l W oe oa o1 o2) : W.cell? ⟨p, 0, none⟩ = some (.slice none 0 0) := h.cel.cell 0
theorem Inv.z1 (h : Inv w0 B p n l W oe oa o1 o2) : W.cell? ⟨p, 1, none⟩ = some (.slice none 0 0) := h.cel.cell 1
theorem Inv.z2 (h : Inv w0 B p n l W oe oa o1 o2) : W.cell? ⟨p, 2, none⟩ = some (.slice none 0 0) := h.cel.cell 2
theorem Inv.row {b : Nat} (h : Inv w0 B p n l W (some b) oa o1 o2) : Row.Os encA 3 W B 42 (.slice (some ⟨b, 0, none⟩) 0 0) [] :=
  ⟨by simp [flat], .inr ⟨b, 0, #[], rfl, (h.e b rfl).2, (h.e b rfl).1, Nat.le_refl _, by simp, by simp, by simp [flat]⟩⟩
theorem Inv.app {b : Nat} {v : Value} (h : Inv w0 B p n l W (some b) none o1 o2) (ho : Row.Os encA 3 W' B 42 v l) (hg : W.grownBy W' (some b)) : Inv w0 B p n l W' none (some v) o1 o2 := by
  have hcb := (h.e b rfl).1
  have hbB := (h.e b rfl).2
  have hp : p ≠ b := fun e => by
    have h1 := h.cel
    rw [e] at h1
    unfold Cel at h1 hcb
    rw [h1] at hcb
    exact absurd hcb (by simp)
  have hk := Only.of_grown hg
  have h0 : Inv w0 B p n l W none none o1 o2 := ⟨h.bel, h.size, h.cel, h.pB, (fun _ e => nomatch e), (fun _ e => nomatch e), h.i1, h.i2, h.ap⟩
  have h' := h0.only hk (by simpa using hbB) (by simpa using hp) (by simp) (by simp) (fun v hv i hi hm => by
    have e : i = b := by simpa using hm
    subst e
    exact Row.Os.apart (h.i1 v hv) hcb (by decide) hi) (fun v hv i hi hm => by
    have e : i = b := by simpa using hm
    subst e
    exact Row.Os.apart (h.i2 v hv) hcb (by decide) hi)
  exact ⟨h'.bel, h'.size, h'.cel, h'.pB, (fun _ e => nomatch e), fun u hu => by cases hu; exact ho, h'.i1, h'.i2, h'.ap⟩
end

theorem run_mk (n : Nat) (hn : n ≤ 1000000) (w : World) : (Instr.makeSlice 28 (.int .i64 (n : Int)) (.int .i64 (n : Int))).run Try.prog w = .ok (.slice (some ⟨w.heap.size, 0, none⟩) n n) (w.alloc (.cells (madeCells #[.int .i64 0] n) 3)) :=
  run_make_row' (P := Try.prog) 28 3 (.int .i64 0) 8 Try.underlying28 (by kernel_rfl) rfl .i64 .i64 n (by omega) (by omega) w
theorem Inv.done {w0 W : World} {B p n : Nat} {l : List Ch} {va v1 v2 : Value} (h : Inv w0 B p n l W none (some va) (some v1) (some v2)) (hz : l.map Ch.cr = List.replicate n 0 ∧ l.map Ch.sn = List.replicate n 0) :
    Cel (put3 W p va v1 v2) p 30 #[va, v1, v2] ∧ Below B w0 (put3 W p va v1 v2) ∧ RZ (put3 W p va v1 v2) B va v1 v2 (v1.ownBlock.toList ++ v2.ownBlock.toList) l := by
  have ha := h.a va rfl
  have h1 := h.i1 v1 rfl
  have h2 := h.i2 v2 rfl
  have hk := put3_only W p va v1 v2
  refine ⟨put3_cel h.cel va v1 v2, h.bel.trans (hk.below h.size (by simpa using h.pB)), ha.only hk fun i hi hm => ?_, ?_, ?_, rfl, ?_⟩
  · have e : i = p := by simpa using hm
    subst e
    exact Row.Os.apart ha h.cel (by decide) hi
  · rw [hz.1]
    exact h1.only hk fun i hi hm => by
      have e : i = p := by simpa using hm
      subst e
      exact Row.Os.apart h1 h.cel (by decide) hi
  · rw [hz.2]
    exact h2.only hk fun i hi hm => by
      have e : i = p := by simpa using hm
      subst e
      exact Row.Os.apart h2 h.cel (by decide) hi
  · rw [List.nodup_append]
    refine ⟨by cases v1.ownBlock <;> simp, by cases v2.ownBlock <;> simp, fun x hx y hy e => ?_⟩
    subst e
    exact h.ap v1 v2 rfl rfl x (by simpa using hx) (by simpa using hy)

theorem xnw_results {tmps : Array Value} {W : World} {g : Nat} {u0 u1 u2 : Value} {z : Int} (h2 : tmps.getD 2 undef = .pointer (some ⟨g, 0, none⟩)) (h3 : tmps.getD 3 undef = .int .i64 z)
    (hC : Cel W g 30 #[u0, u1, u2]) :
    (results Try.f9 tmps).run Try.prog W = .ok (.tuple #[.agg #[u0, u1, u2], .int .i64 z]) W := by
  have c0 := hC.cell 0
  have c1 := hC.cell 1
  have c2 := hC.cell 2
  simp at c0 c1 c2
  simp only [Array.getD_eq_getD_getElem?] at h2 h3
  simp [results, Try.results9, go_sem, h2, h3, c0, c1, c2]

set_option maxHeartbeats 4000000 in
set_option maxRecDepth 100000 in
theorem xnew_any (l : List Ch) (w : World) (A : Option Addr) (n c : Nat) (hln : l.length = n) (hr : Rs encA 3 w w.heap.size A l) (hnn : A = none → c = 0) (hl : n ≤ 1000000) (hz : Hid (∀ x ∈ l, x.cr = 0 ∧ x.sn = 0)) :
    Calls Try.prog 9 #[.slice A n c] w fun e w' => Below w.heap.size w w' ∧ ((chk [] l ≠ 0 ∧ e = .returned (.tuple #[.agg #[.slice none 0 0, .slice none 0 0, .slice none 0 0], .int .i64 (chk [] l)])) ∨
      (chk [] l = 0 ∧ ∃ v1 v2 v3 F, e = .returned (.tuple #[.agg #[v1, v2, v3], .int .i64 0]) ∧ RZ w' w.heap.size v1 v2 v3 F l)) := by
  have HL := Lib.hid hln
  clear hln
  obtain ⟨R, hR⟩ : ∃ R, R = chk [] l := ⟨_, rfl⟩
  rw [← hR]
  have HR := Lib.hid hR
  clear hR
  obtain ⟨P0, hP0⟩ : ∃ P0, P0 = w.alloc (.cells #[.slice none 0 0, .slice none 0 0, .slice none 0 0] 30) := ⟨_, rfl⟩
  have hcel : Cel P0 w.heap.size 30 #[.slice none 0 0, .slice none 0 0, .slice none 0 0] := by rw [hP0]; exact Cel.new _ _ _
  have hb0 : Below w.heap.size w P0 := by rw [hP0]; exact bel_new _ _
  have hsP : P0.heap.size = w.heap.size + 1 := by rw [hP0]; simp
  go_enter Try.func9, Try.ntmps9
  go_wp2
  rw [← hP0]
  clear hP0
  go_loopw [4, 5, 6] (fun i _ _ wr => ∃ k : Nat, k ≤ n ∧ i = .int .i64 k ∧ Below P0.heap.size P0 wr ∧ Hid (R = chk (l.take k) (l.drop k)) ∧ Hid (Good (l.take k))) (fun i _ _ _ => n - (intOf i).toNat)
  case atStart => exact ⟨0, Nat.zero_le _, rfl, Below.refl _ _, HR, Lib.hid ⟨by simp, by simp [ids]⟩⟩
  case round =>
    obtain ⟨k, hk, rfl, hbel, hchk, hgood⟩ := hrel
    have hsz := hbel.size
    have hBw : Below w.heap.size w wr := hb0.trans (hbel.mono (by omega))
    have hcw := hcel.only (Only.of_below (S := []) hbel) (by simp)
    by_cases hlt : k < n
    · have hkl : k < l.length := by rw [HL.out]; exact hlt
      obtain ⟨b, off, rfl, hbw, d0, d1, d2⟩ := a_at (hr.below hBw) hkl
      have htk : Hid (l.take (k + 1) = l.take k ++ [l[k]]) := Lib.hid (by rw [List.take_add_one, List.getElem?_eq_getElem hkl]; rfl)
      have hdr : Hid (l.drop k = l[k] :: l.drop (k + 1)) := Lib.hid (List.drop_eq_getElem_cons hkl)
      generalize l[k] = y at d0 d1 d2 htk hdr
      obtain ⟨x0, x1, x2, x3, x4⟩ := y
      dsimp only at d0 d1 d2
      obtain ⟨W1, hW1⟩ : ∃ W1, W1 = wr.alloc (.cells #[I x0, I x1, I x2] 42) := ⟨_, rfl⟩
      have e0 : W1.cell? ⟨wr.heap.size, 0, none⟩ = some (I x0) := by rw [hW1]; simp
      have e1 : W1.cell? ⟨wr.heap.size, 1, none⟩ = some (I x1) := by rw [hW1]; simp
      have e2 : W1.cell? ⟨wr.heap.size, 2, none⟩ = some (I x2) := by rw [hW1]; simp
      have hb1 : Below P0.heap.size P0 W1 := by rw [hW1]; exact hbel.alloc hsz _
      have hs1 : W1.heap.size = wr.heap.size + 1 := by rw [hW1]; simp
      have hBw1 : Below w.heap.size w W1 := hb0.trans (hb1.mono (by omega))
      have hr1 := hr.below hBw1
      have hcw1 := hcel.only (Only.of_below (S := []) hb1) (by simp)
      have z0 : W1.cell? ⟨w.heap.size, 0, none⟩ = some (.slice none 0 0) := hcw1.cell 0
      have z1 : W1.cell? ⟨w.heap.size, 1, none⟩ = some (.slice none 0 0) := hcw1.cell 1
      have z2 : W1.cell? ⟨w.heap.size, 2, none⟩ = some (.slice none 0 0) := hcw1.cell 2
      have y0 : W1.frozen? ⟨w.heap.size, 0, none⟩ = false := hcw1.free 0
      have y1 : W1.frozen? ⟨w.heap.size, 1, none⟩ = false := hcw1.free 1
      have y2 : W1.frozen? ⟨w.heap.size, 2, none⟩ = false := hcw1.free 2
      have hbad := hBw1.trans ((put3_only W1 w.heap.size (.slice none 0 0) (.slice none 0 0) (.slice none 0 0)).below hBw1.size (by simp))
      have hcbad := put3_cel hcw1 (.slice none 0 0) (.slice none 0 0) (.slice none 0 0)
      clear hr hcw hcel
      by_cases h1 : x0 < 0
      · have HR1 : R = 1 := by rw [hchk.out, hdr.out]; exact chk_bad (of_decide_eq_false (ok_no (by omega)))
        clear hr1 hchk hdr htk
        rw [hW1] at z0 z1 z2 y0 y1 y2 hbad hcbad
        clear hcw1 e0 e1 e2 hb1 hs1 hBw1 hW1
        go_wp2_with fail
        (try simp only [Exit.inBlock, Exit.then]); exact bodyPost_ret (xnw_results rfl rfl hcbad) rfl ⟨hbad, .inl ⟨by rw [HR1]; decide, by rw [HR1]⟩⟩
      have p1 : 0 ≤ x0 := by omega
      clear h1
      by_cases h2 : 7 < x0
      · have HR1 : R = 1 := by rw [hchk.out, hdr.out]; exact chk_bad (of_decide_eq_false (ok_no (by omega)))
        clear hr1 hchk hdr htk
        rw [hW1] at z0 z1 z2 y0 y1 y2 hbad hcbad
        clear hcw1 e0 e1 e2 hb1 hs1 hBw1 hW1
        go_wp2_with fail
        (try simp only [Exit.inBlock, Exit.then]); exact bodyPost_ret (xnw_results rfl rfl hcbad) rfl ⟨hbad, .inl ⟨by rw [HR1]; decide, by rw [HR1]⟩⟩
      have p2 : x0 ≤ 7 := by omega
      clear h2
      by_cases h3 : x1 < 0
      · have HR1 : R = 1 := by rw [hchk.out, hdr.out]; exact chk_bad (of_decide_eq_false (ok_no (by omega)))
        clear hr1 hchk hdr htk
        rw [hW1] at z0 z1 z2 y0 y1 y2 hbad hcbad
        clear hcw1 e0 e1 e2 hb1 hs1 hBw1 hW1
        go_wp2_with fail
        (try simp only [Exit.inBlock, Exit.then]); exact bodyPost_ret (xnw_results rfl rfl hcbad) rfl ⟨hbad, .inl ⟨by rw [HR1]; decide, by rw [HR1]⟩⟩
      have p3 : 0 ≤ x1 := by omega
      clear h3
      by_cases h4 : 15 < x1
      · have HR1 : R = 1 := by rw [hchk.out, hdr.out]; exact chk_bad (of_decide_eq_false (ok_no (by omega)))
        clear hr1 hchk hdr htk
        rw [hW1] at z0 z1 z2 y0 y1 y2 hbad hcbad
        clear hcw1 e0 e1 e2 hb1 hs1 hBw1 hW1
        go_wp2_with fail
        (try simp only [Exit.inBlock, Exit.then]); exact bodyPost_ret (xnw_results rfl rfl hcbad) rfl ⟨hbad, .inl ⟨by rw [HR1]; decide, by rw [HR1]⟩⟩
      have p4 : x1 ≤ 15 := by omega
      clear h4
      by_cases h5 : x2 < 1
      · have HR1 : R = 1 := by rw [hchk.out, hdr.out]; exact chk_bad (of_decide_eq_false (ok_no (by omega)))
        clear hr1 hchk hdr htk
        rw [hW1] at z0 z1 z2 y0 y1 y2 hbad hcbad
        clear hcw1 e0 e1 e2 hb1 hs1 hBw1 hW1
        go_wp2_with fail
        (try simp only [Exit.inBlock, Exit.then]); exact bodyPost_ret (xnw_results rfl rfl hcbad) rfl ⟨hbad, .inl ⟨by rw [HR1]; decide, by rw [HR1]⟩⟩
      have p5 : 1 ≤ x2 := by omega
      clear h5
      by_cases h6 : 100 < x2
      · have HR1 : R = 1 := by rw [hchk.out, hdr.out]; exact chk_bad (of_decide_eq_false (ok_no (by omega)))
        have d6 : decide (100 < x2) = true := decide_eq_true (by omega)
        clear hr1 hchk hdr htk
        rw [hW1] at z0 z1 z2 y0 y1 y2 hbad hcbad
        clear hcw1 e0 e1 e2 hb1 hs1 hBw1 hW1
        go_wp2_with fail
        (try simp only [Exit.inBlock, Exit.then]); exact bodyPost_ret (xnw_results rfl rfl hcbad) rfl ⟨hbad, .inl ⟨by rw [HR1]; decide, by rw [HR1]⟩⟩
      have p6 : x2 ≤ 100 := by omega
      clear h6
      have t6 : decide (100 < x2) = false := decide_eq_false (by omega)
      have Hok := Lib.hid (show Ch.ok ⟨x0, x1, x2, x3, x4⟩ from ⟨p1, p2, p3, p4, p5, p6⟩)
      have hbadq := fun q => (bel_dr hBw1 q).trans ((put3_only (W1.drewN q) w.heap.size (.slice none 0 0) (.slice none 0 0) (.slice none 0 0)).below hBw1.size (by simp))
      have hcbadq := fun q => put3_cel (show Cel (W1.drewN q) w.heap.size 30 _ from hcw1) (.slice none 0 0) (.slice none 0 0) (.slice none 0 0)
      clear hbad hcbad
      go_wp2_with fail
      rw [← hW1]
      clear hW1
      go_loopw [6] (fun j wq => ∃ (j' q : Nat), j = .int .i64 j' ∧ j' ≤ k ∧ wq = W1.drewN q ∧ Hid (∀ y ∈ l.take j', y.id ≠ x0)) (fun j _ => k - (intOf j).toNat)
      case atStart => exact ⟨0, 0, rfl, Nat.zero_le _, rfl, Lib.hid (by simp)⟩
      case round =>
        obtain ⟨j, q, rfl, hj, rfl, hno⟩ := hrel
        by_cases hjk : j < k
        · have hjl : j < l.length := by rw [HL.out]; omega
          obtain ⟨_, _, e5, _, q0, _, _⟩ := a_at hr1 hjl
          cases e5
          have htj : Hid (l.take (j + 1) = l.take j ++ [l[j]]) := Lib.hid (by rw [List.take_add_one, List.getElem?_eq_getElem hjl]; rfl)
          have hmem : Hid (l[j] ∈ l.take k) := Lib.hid (by rw [List.mem_take_iff_getElem]; exact ⟨j, by omega, rfl⟩)
          have hjn : j < n := by omega
          generalize l[j] = y at q0 htj hmem
          obtain ⟨u0, u1, u2, u3, u4⟩ := y
          dsimp only at q0
          by_cases he : u0 = x0
          · have t1 : (u0 == x0) = true := by simpa using he
            have HR1 : R = 9 := by
              rw [hchk.out, hdr.out]
              refine chk_twice Hok.out ?_
              show x0 ∈ ids (l.take k)
              have hm := List.mem_map_of_mem (f := Ch.id) hmem.out
              rw [← he]
              exact hm
            have hbadz := hbadq
            clear he hchk hdr htk hr1 htj hmem
            go_wp2_with fail
            go_quiet (fail)
            go_wp2_with fail
            (try simp only [Exit.inBlock, Exit.then]); exact bodyPost_ret (xnw_results rfl rfl (hcbadq _)) rfl ⟨hbadq _, .inl ⟨by rw [HR1]; decide, by rw [HR1]⟩⟩
          · have t1 : (u0 == x0) = false := by simpa using he
            have HE := Lib.hid he
            clear he
            go_wp2_with fail
            go_quiet (fail)
            go_wp2_with fail
            go_roundw
            case rel =>
              refine ⟨j + 1, _, by simp, hjk, rfl, Lib.hid ?_⟩
              intro z hz
              rw [htj.out] at hz
              rcases List.mem_append.1 hz with hz | hz
              · exact hno.out z hz
              · rw [List.mem_singleton.1 hz]; exact HE.out
            case measure => simp [intOf]; omega
        · obtain rfl : j = k := by omega
          have hnin : x0 ∉ ids (l.take j) := fun hin => by
            obtain ⟨z, hz1, hz2⟩ := List.mem_map.1 hin
            exact hno.out z hz1 hz2
          have HR2 : Hid (R = chk (l.take (j + 1)) (l.drop (j + 1))) := Lib.hid (by rw [hchk.out, hdr.out, htk.out]; exact chk_on Hok.out hnin)
          have HG2 : Hid (Good (l.take (j + 1))) := Lib.hid (by
            rw [htk.out]
            exact chk_good (l := [⟨x0, x1, x2, x3, x4⟩]) hgood.out (by rw [chk_on Hok.out hnin]; rfl))
          clear hnin
          go_wp2_with fail
          go_roundw
          case rel => exact ⟨j + 1, hlt, by simp, bel_dr hb1 _, HR2, HG2⟩
          case measure => simp [intOf]; omega
    · obtain rfl : k = n := by omega
      have htk : l.take k = l := by rw [← HL.out, List.take_length]
      have hdr : l.drop k = [] := by rw [← HL.out, List.drop_length]
      have hgd := hgood.out
      rw [htk] at hgd
      have HG := Lib.hid hgd
      have HR0 : R = 0 := by rw [hchk.out, hdr]; rfl
      have hzr : Hid (l.map Ch.cr = List.replicate k 0 ∧ l.map Ch.sn = List.replicate k 0) := Lib.hid (by
        rw [← HL.out]
        exact ⟨List.eq_replicate_iff.2 ⟨by simp, fun x hx => by obtain ⟨y, hy, rfl⟩ := List.mem_map.1 hx; exact (hz.out y hy).1⟩, List.eq_replicate_iff.2 ⟨by simp, fun x hx => by obtain ⟨y, hy, rfl⟩ := List.mem_map.1 hx; exact (hz.out y hy).2⟩⟩)
      have hI : Inv w w.heap.size w.heap.size k l wr none none none none := ⟨hBw, hBw.size, hcw, Nat.le_refl _, (fun _ e => nomatch e), (fun _ e => nomatch e), (fun _ e => nomatch e), (fun _ e => nomatch e), (fun _ _ e => nomatch e)⟩
      have hrI := fun W (h : Below w.heap.size w W) => hr.below h
      clear htk hdr hr hgd hgood hchk hcw hcel
      have hk47 : ([] : List Ch).length + l.length ≤ 34359738368 := by rw [HL.out]; simp; omega
      have hmk := run_mk k hl
      go_wp2_with fail
      go_region_law (first | (refine step_row _ encA_ok is_apis (by decide) rfl (.tmp 60) (.tmp 61) rfl rfl (inv_drew (hI.emptyA wr.heap.size (by simp))).row (l := l) (n := k) (A := A) (c := c) HL.out rfl (hrI _ (inv_drew (hI.emptyA wr.heap.size (by simp))).bel) hnn hk47 (inv_drew (hI.emptyA wr.heap.size (by simp))).size ?_; intro v7 w7 ho7 hg7 hb7; have hI := (inv_drew (hI.emptyA wr.heap.size (by simp))).app (by simpa using ho7) hg7; have k1 := inv_new hI (.cells (madeCells #[.int .i64 0] k) 3); have k2 := inv_new k1 (.cells (madeCells #[.int .i64 0] k) 3); have az0 := hI.z0; have ay0 := hI.cel.free 0; have az1 := hI.z1; have ay1 := hI.cel.free 1; have az2 := hI.z2; have ay2 := hI.cel.free 2; have bz0 := k1.z0; have by0 := k1.cel.free 0; have bz1 := k1.z1; have by1 := k1.cel.free 1; have bz2 := k1.z2; have by2 := k1.cel.free 2; have cz0 := k2.z0; have cy0 := k2.cel.free 0; have cz1 := k2.z1; have cy1 := k2.cel.free 1; have cz2 := k2.z2; have cy2 := k2.cel.free 2; obtain ⟨A7, c7, rfl, _⟩ := ho7.reads_len encA_ok (n := k) (by simpa using HL.out); clear ho7 hg7 hb7) | (refine step_row _ encA_ok is_apis (by decide) rfl (.tmp 60) (.tmp 61) rfl rfl (inv_drew ((hI.emptyA wr.heap.size (by simp)).make1A hl (wr.heap.size + 1) (by simp))).row (l := l) (n := k) (A := A) (c := c) HL.out rfl (hrI _ (inv_drew ((hI.emptyA wr.heap.size (by simp)).make1A hl (wr.heap.size + 1) (by simp))).bel) hnn hk47 (inv_drew ((hI.emptyA wr.heap.size (by simp)).make1A hl (wr.heap.size + 1) (by simp))).size ?_; intro v7 w7 ho7 hg7 hb7; have hI := (inv_drew ((hI.emptyA wr.heap.size (by simp)).make1A hl (wr.heap.size + 1) (by simp))).app (by simpa using ho7) hg7; have k1 := inv_new hI (.cells (madeCells #[.int .i64 0] k) 3); have k2 := inv_new k1 (.cells (madeCells #[.int .i64 0] k) 3); have az0 := hI.z0; have ay0 := hI.cel.free 0; have az1 := hI.z1; have ay1 := hI.cel.free 1; have az2 := hI.z2; have ay2 := hI.cel.free 2; have bz0 := k1.z0; have by0 := k1.cel.free 0; have bz1 := k1.z1; have by1 := k1.cel.free 1; have bz2 := k1.z2; have by2 := k1.cel.free 2; have cz0 := k2.z0; have cy0 := k2.cel.free 0; have cz1 := k2.z1; have cy1 := k2.cel.free 1; have cz2 := k2.z2; have cy2 := k2.cel.free 2; obtain ⟨A7, c7, rfl, _⟩ := ho7.reads_len encA_ok (n := k) (by simpa using HL.out); clear ho7 hg7 hb7) | (refine step_row _ encA_ok is_apis (by decide) rfl (.tmp 60) (.tmp 61) rfl rfl (inv_drew ((hI.make1A hl wr.heap.size (by simp)).emptyA (wr.heap.size + 1) (by simp))).row (l := l) (n := k) (A := A) (c := c) HL.out rfl (hrI _ (inv_drew ((hI.make1A hl wr.heap.size (by simp)).emptyA (wr.heap.size + 1) (by simp))).bel) hnn hk47 (inv_drew ((hI.make1A hl wr.heap.size (by simp)).emptyA (wr.heap.size + 1) (by simp))).size ?_; intro v7 w7 ho7 hg7 hb7; have hI := (inv_drew ((hI.make1A hl wr.heap.size (by simp)).emptyA (wr.heap.size + 1) (by simp))).app (by simpa using ho7) hg7; have k1 := inv_new hI (.cells (madeCells #[.int .i64 0] k) 3); have k2 := inv_new k1 (.cells (madeCells #[.int .i64 0] k) 3); have az0 := hI.z0; have ay0 := hI.cel.free 0; have az1 := hI.z1; have ay1 := hI.cel.free 1; have az2 := hI.z2; have ay2 := hI.cel.free 2; have bz0 := k1.z0; have by0 := k1.cel.free 0; have bz1 := k1.z1; have by1 := k1.cel.free 1; have bz2 := k1.z2; have by2 := k1.cel.free 2; have cz0 := k2.z0; have cy0 := k2.cel.free 0; have cz1 := k2.z1; have cy1 := k2.cel.free 1; have cz2 := k2.z2; have cy2 := k2.cel.free 2; obtain ⟨A7, c7, rfl, _⟩ := ho7.reads_len encA_ok (n := k) (by simpa using HL.out); clear ho7 hg7 hb7) | (refine step_row _ encA_ok is_apis (by decide) rfl (.tmp 60) (.tmp 61) rfl rfl (inv_drew ((hI.emptyA wr.heap.size (by simp)).make2A hl (wr.heap.size + 1) (by simp))).row (l := l) (n := k) (A := A) (c := c) HL.out rfl (hrI _ (inv_drew ((hI.emptyA wr.heap.size (by simp)).make2A hl (wr.heap.size + 1) (by simp))).bel) hnn hk47 (inv_drew ((hI.emptyA wr.heap.size (by simp)).make2A hl (wr.heap.size + 1) (by simp))).size ?_; intro v7 w7 ho7 hg7 hb7; have hI := (inv_drew ((hI.emptyA wr.heap.size (by simp)).make2A hl (wr.heap.size + 1) (by simp))).app (by simpa using ho7) hg7; have k1 := inv_new hI (.cells (madeCells #[.int .i64 0] k) 3); have k2 := inv_new k1 (.cells (madeCells #[.int .i64 0] k) 3); have az0 := hI.z0; have ay0 := hI.cel.free 0; have az1 := hI.z1; have ay1 := hI.cel.free 1; have az2 := hI.z2; have ay2 := hI.cel.free 2; have bz0 := k1.z0; have by0 := k1.cel.free 0; have bz1 := k1.z1; have by1 := k1.cel.free 1; have bz2 := k1.z2; have by2 := k1.cel.free 2; have cz0 := k2.z0; have cy0 := k2.cel.free 0; have cz1 := k2.z1; have cy1 := k2.cel.free 1; have cz2 := k2.z2; have cy2 := k2.cel.free 2; obtain ⟨A7, c7, rfl, _⟩ := ho7.reads_len encA_ok (n := k) (by simpa using HL.out); clear ho7 hg7 hb7) | (refine step_row _ encA_ok is_apis (by decide) rfl (.tmp 60) (.tmp 61) rfl rfl (inv_drew ((hI.make2A hl wr.heap.size (by simp)).emptyA (wr.heap.size + 1) (by simp))).row (l := l) (n := k) (A := A) (c := c) HL.out rfl (hrI _ (inv_drew ((hI.make2A hl wr.heap.size (by simp)).emptyA (wr.heap.size + 1) (by simp))).bel) hnn hk47 (inv_drew ((hI.make2A hl wr.heap.size (by simp)).emptyA (wr.heap.size + 1) (by simp))).size ?_; intro v7 w7 ho7 hg7 hb7; have hI := (inv_drew ((hI.make2A hl wr.heap.size (by simp)).emptyA (wr.heap.size + 1) (by simp))).app (by simpa using ho7) hg7; have k1 := inv_new hI (.cells (madeCells #[.int .i64 0] k) 3); have k2 := inv_new k1 (.cells (madeCells #[.int .i64 0] k) 3); have az0 := hI.z0; have ay0 := hI.cel.free 0; have az1 := hI.z1; have ay1 := hI.cel.free 1; have az2 := hI.z2; have ay2 := hI.cel.free 2; have bz0 := k1.z0; have by0 := k1.cel.free 0; have bz1 := k1.z1; have by1 := k1.cel.free 1; have bz2 := k1.z2; have by2 := k1.cel.free 2; have cz0 := k2.z0; have cy0 := k2.cel.free 0; have cz1 := k2.z1; have cy1 := k2.cel.free 1; have cz2 := k2.z2; have cy2 := k2.cel.free 2; obtain ⟨A7, c7, rfl, _⟩ := ho7.reads_len encA_ok (n := k) (by simpa using HL.out); clear ho7 hg7 hb7) | (refine step_row _ encA_ok is_apis (by decide) rfl (.tmp 60) (.tmp 61) rfl rfl (inv_drew (((hI.emptyA wr.heap.size (by simp)).make1A hl (wr.heap.size + 1) (by simp)).make2A hl (wr.heap.size + 2) (by simp))).row (l := l) (n := k) (A := A) (c := c) HL.out rfl (hrI _ (inv_drew (((hI.emptyA wr.heap.size (by simp)).make1A hl (wr.heap.size + 1) (by simp)).make2A hl (wr.heap.size + 2) (by simp))).bel) hnn hk47 (inv_drew (((hI.emptyA wr.heap.size (by simp)).make1A hl (wr.heap.size + 1) (by simp)).make2A hl (wr.heap.size + 2) (by simp))).size ?_; intro v7 w7 ho7 hg7 hb7; have hI := (inv_drew (((hI.emptyA wr.heap.size (by simp)).make1A hl (wr.heap.size + 1) (by simp)).make2A hl (wr.heap.size + 2) (by simp))).app (by simpa using ho7) hg7; have k1 := inv_new hI (.cells (madeCells #[.int .i64 0] k) 3); have k2 := inv_new k1 (.cells (madeCells #[.int .i64 0] k) 3); have az0 := hI.z0; have ay0 := hI.cel.free 0; have az1 := hI.z1; have ay1 := hI.cel.free 1; have az2 := hI.z2; have ay2 := hI.cel.free 2; have bz0 := k1.z0; have by0 := k1.cel.free 0; have bz1 := k1.z1; have by1 := k1.cel.free 1; have bz2 := k1.z2; have by2 := k1.cel.free 2; have cz0 := k2.z0; have cy0 := k2.cel.free 0; have cz1 := k2.z1; have cy1 := k2.cel.free 1; have cz2 := k2.z2; have cy2 := k2.cel.free 2; obtain ⟨A7, c7, rfl, _⟩ := ho7.reads_len encA_ok (n := k) (by simpa using HL.out); clear ho7 hg7 hb7) | (refine step_row _ encA_ok is_apis (by decide) rfl (.tmp 60) (.tmp 61) rfl rfl (inv_drew (((hI.emptyA wr.heap.size (by simp)).make2A hl (wr.heap.size + 1) (by simp)).make1A hl (wr.heap.size + 2) (by simp))).row (l := l) (n := k) (A := A) (c := c) HL.out rfl (hrI _ (inv_drew (((hI.emptyA wr.heap.size (by simp)).make2A hl (wr.heap.size + 1) (by simp)).make1A hl (wr.heap.size + 2) (by simp))).bel) hnn hk47 (inv_drew (((hI.emptyA wr.heap.size (by simp)).make2A hl (wr.heap.size + 1) (by simp)).make1A hl (wr.heap.size + 2) (by simp))).size ?_; intro v7 w7 ho7 hg7 hb7; have hI := (inv_drew (((hI.emptyA wr.heap.size (by simp)).make2A hl (wr.heap.size + 1) (by simp)).make1A hl (wr.heap.size + 2) (by simp))).app (by simpa using ho7) hg7; have k1 := inv_new hI (.cells (madeCells #[.int .i64 0] k) 3); have k2 := inv_new k1 (.cells (madeCells #[.int .i64 0] k) 3); have az0 := hI.z0; have ay0 := hI.cel.free 0; have az1 := hI.z1; have ay1 := hI.cel.free 1; have az2 := hI.z2; have ay2 := hI.cel.free 2; have bz0 := k1.z0; have by0 := k1.cel.free 0; have bz1 := k1.z1; have by1 := k1.cel.free 1; have bz2 := k1.z2; have by2 := k1.cel.free 2; have cz0 := k2.z0; have cy0 := k2.cel.free 0; have cz1 := k2.z1; have cy1 := k2.cel.free 1; have cz2 := k2.z2; have cy2 := k2.cel.free 2; obtain ⟨A7, c7, rfl, _⟩ := ho7.reads_len encA_ok (n := k) (by simpa using HL.out); clear ho7 hg7 hb7) | (refine step_row _ encA_ok is_apis (by decide) rfl (.tmp 60) (.tmp 61) rfl rfl (inv_drew (((hI.make1A hl wr.heap.size (by simp)).emptyA (wr.heap.size + 1) (by simp)).make2A hl (wr.heap.size + 2) (by simp))).row (l := l) (n := k) (A := A) (c := c) HL.out rfl (hrI _ (inv_drew (((hI.make1A hl wr.heap.size (by simp)).emptyA (wr.heap.size + 1) (by simp)).make2A hl (wr.heap.size + 2) (by simp))).bel) hnn hk47 (inv_drew (((hI.make1A hl wr.heap.size (by simp)).emptyA (wr.heap.size + 1) (by simp)).make2A hl (wr.heap.size + 2) (by simp))).size ?_; intro v7 w7 ho7 hg7 hb7; have hI := (inv_drew (((hI.make1A hl wr.heap.size (by simp)).emptyA (wr.heap.size + 1) (by simp)).make2A hl (wr.heap.size + 2) (by simp))).app (by simpa using ho7) hg7; have k1 := inv_new hI (.cells (madeCells #[.int .i64 0] k) 3); have k2 := inv_new k1 (.cells (madeCells #[.int .i64 0] k) 3); have az0 := hI.z0; have ay0 := hI.cel.free 0; have az1 := hI.z1; have ay1 := hI.cel.free 1; have az2 := hI.z2; have ay2 := hI.cel.free 2; have bz0 := k1.z0; have by0 := k1.cel.free 0; have bz1 := k1.z1; have by1 := k1.cel.free 1; have bz2 := k1.z2; have by2 := k1.cel.free 2; have cz0 := k2.z0; have cy0 := k2.cel.free 0; have cz1 := k2.z1; have cy1 := k2.cel.free 1; have cz2 := k2.z2; have cy2 := k2.cel.free 2; obtain ⟨A7, c7, rfl, _⟩ := ho7.reads_len encA_ok (n := k) (by simpa using HL.out); clear ho7 hg7 hb7) | (refine step_row _ encA_ok is_apis (by decide) rfl (.tmp 60) (.tmp 61) rfl rfl (inv_drew (((hI.make2A hl wr.heap.size (by simp)).emptyA (wr.heap.size + 1) (by simp)).make1A hl (wr.heap.size + 2) (by simp))).row (l := l) (n := k) (A := A) (c := c) HL.out rfl (hrI _ (inv_drew (((hI.make2A hl wr.heap.size (by simp)).emptyA (wr.heap.size + 1) (by simp)).make1A hl (wr.heap.size + 2) (by simp))).bel) hnn hk47 (inv_drew (((hI.make2A hl wr.heap.size (by simp)).emptyA (wr.heap.size + 1) (by simp)).make1A hl (wr.heap.size + 2) (by simp))).size ?_; intro v7 w7 ho7 hg7 hb7; have hI := (inv_drew (((hI.make2A hl wr.heap.size (by simp)).emptyA (wr.heap.size + 1) (by simp)).make1A hl (wr.heap.size + 2) (by simp))).app (by simpa using ho7) hg7; have k1 := inv_new hI (.cells (madeCells #[.int .i64 0] k) 3); have k2 := inv_new k1 (.cells (madeCells #[.int .i64 0] k) 3); have az0 := hI.z0; have ay0 := hI.cel.free 0; have az1 := hI.z1; have ay1 := hI.cel.free 1; have az2 := hI.z2; have ay2 := hI.cel.free 2; have bz0 := k1.z0; have by0 := k1.cel.free 0; have bz1 := k1.z1; have by1 := k1.cel.free 1; have bz2 := k1.z2; have by2 := k1.cel.free 2; have cz0 := k2.z0; have cy0 := k2.cel.free 0; have cz1 := k2.z1; have cy1 := k2.cel.free 1; have cz2 := k2.z2; have cy2 := k2.cel.free 2; obtain ⟨A7, c7, rfl, _⟩ := ho7.reads_len encA_ok (n := k) (by simpa using HL.out); clear ho7 hg7 hb7) | (refine step_row _ encA_ok is_apis (by decide) rfl (.tmp 60) (.tmp 61) rfl rfl (inv_drew (((hI.make1A hl wr.heap.size (by simp)).make2A hl (wr.heap.size + 1) (by simp)).emptyA (wr.heap.size + 2) (by simp))).row (l := l) (n := k) (A := A) (c := c) HL.out rfl (hrI _ (inv_drew (((hI.make1A hl wr.heap.size (by simp)).make2A hl (wr.heap.size + 1) (by simp)).emptyA (wr.heap.size + 2) (by simp))).bel) hnn hk47 (inv_drew (((hI.make1A hl wr.heap.size (by simp)).make2A hl (wr.heap.size + 1) (by simp)).emptyA (wr.heap.size + 2) (by simp))).size ?_; intro v7 w7 ho7 hg7 hb7; have hI := (inv_drew (((hI.make1A hl wr.heap.size (by simp)).make2A hl (wr.heap.size + 1) (by simp)).emptyA (wr.heap.size + 2) (by simp))).app (by simpa using ho7) hg7; have k1 := inv_new hI (.cells (madeCells #[.int .i64 0] k) 3); have k2 := inv_new k1 (.cells (madeCells #[.int .i64 0] k) 3); have az0 := hI.z0; have ay0 := hI.cel.free 0; have az1 := hI.z1; have ay1 := hI.cel.free 1; have az2 := hI.z2; have ay2 := hI.cel.free 2; have bz0 := k1.z0; have by0 := k1.cel.free 0; have bz1 := k1.z1; have by1 := k1.cel.free 1; have bz2 := k1.z2; have by2 := k1.cel.free 2; have cz0 := k2.z0; have cy0 := k2.cel.free 0; have cz1 := k2.z1; have cy1 := k2.cel.free 1; have cz2 := k2.z2; have cy2 := k2.cel.free 2; obtain ⟨A7, c7, rfl, _⟩ := ho7.reads_len encA_ok (n := k) (by simpa using HL.out); clear ho7 hg7 hb7) | (refine step_row _ encA_ok is_apis (by decide) rfl (.tmp 60) (.tmp 61) rfl rfl (inv_drew (((hI.make2A hl wr.heap.size (by simp)).make1A hl (wr.heap.size + 1) (by simp)).emptyA (wr.heap.size + 2) (by simp))).row (l := l) (n := k) (A := A) (c := c) HL.out rfl (hrI _ (inv_drew (((hI.make2A hl wr.heap.size (by simp)).make1A hl (wr.heap.size + 1) (by simp)).emptyA (wr.heap.size + 2) (by simp))).bel) hnn hk47 (inv_drew (((hI.make2A hl wr.heap.size (by simp)).make1A hl (wr.heap.size + 1) (by simp)).emptyA (wr.heap.size + 2) (by simp))).size ?_; intro v7 w7 ho7 hg7 hb7; have hI := (inv_drew (((hI.make2A hl wr.heap.size (by simp)).make1A hl (wr.heap.size + 1) (by simp)).emptyA (wr.heap.size + 2) (by simp))).app (by simpa using ho7) hg7; have k1 := inv_new hI (.cells (madeCells #[.int .i64 0] k) 3); have k2 := inv_new k1 (.cells (madeCells #[.int .i64 0] k) 3); have az0 := hI.z0; have ay0 := hI.cel.free 0; have az1 := hI.z1; have ay1 := hI.cel.free 1; have az2 := hI.z2; have ay2 := hI.cel.free 2; have bz0 := k1.z0; have by0 := k1.cel.free 0; have bz1 := k1.z1; have by1 := k1.cel.free 1; have bz2 := k1.z2; have by2 := k1.cel.free 2; have cz0 := k2.z0; have cy0 := k2.cel.free 0; have cz1 := k2.z1; have cy1 := k2.cel.free 1; have cz2 := k2.z2; have cy2 := k2.cel.free 2; obtain ⟨A7, c7, rfl, _⟩ := ho7.reads_len encA_ok (n := k) (by simpa using HL.out); clear ho7 hg7 hb7))
      all_goals
        clear az0 az1 az2 bz0 bz1 bz2 cz0 cz1 cz2 ay0 ay1 ay2 by0 by1 by2 cy0 cy1 cy2
        go_wp2
        first | (have hD := Inv.done hI hzr.out; exact bodyPost_ret (xnw_results rfl rfl hD.1) rfl ⟨hD.2.1, .inr ⟨HR0, _, _, _, _, rfl, hD.2.2⟩⟩) | (have hD := Inv.done (hI.make1A hl w7.heap.size (by simp)) hzr.out; exact bodyPost_ret (xnw_results rfl rfl hD.1) rfl ⟨hD.2.1, .inr ⟨HR0, _, _, _, _, rfl, hD.2.2⟩⟩) | (have hD := Inv.done (hI.make2A hl w7.heap.size (by simp)) hzr.out; exact bodyPost_ret (xnw_results rfl rfl hD.1) rfl ⟨hD.2.1, .inr ⟨HR0, _, _, _, _, rfl, hD.2.2⟩⟩) | (have hD := Inv.done ((hI.make1A hl w7.heap.size (by simp)).make2A hl (w7.heap.size + 1) (by simp)) hzr.out; exact bodyPost_ret (xnw_results rfl rfl hD.1) rfl ⟨hD.2.1, .inr ⟨HR0, _, _, _, _, rfl, hD.2.2⟩⟩) | (have hD := Inv.done ((hI.make2A hl w7.heap.size (by simp)).make1A hl (w7.heap.size + 1) (by simp)) hzr.out; exact bodyPost_ret (xnw_results rfl rfl hD.1) rfl ⟨hD.2.1, .inr ⟨HR0, _, _, _, _, rfl, hD.2.2⟩⟩) | (have hD := Inv.done hI.swap hzr.out; exact bodyPost_ret (xnw_results rfl rfl hD.1) rfl ⟨hD.2.1, .inr ⟨HR0, _, _, _, _, rfl, hD.2.2⟩⟩) | (have hD := Inv.done (hI.swap.make1A hl w7.heap.size (by simp)) hzr.out; exact bodyPost_ret (xnw_results rfl rfl hD.1) rfl ⟨hD.2.1, .inr ⟨HR0, _, _, _, _, rfl, hD.2.2⟩⟩) | (have hD := Inv.done (hI.swap.make2A hl w7.heap.size (by simp)) hzr.out; exact bodyPost_ret (xnw_results rfl rfl hD.1) rfl ⟨hD.2.1, .inr ⟨HR0, _, _, _, _, rfl, hD.2.2⟩⟩)
end Go.Proofs.Ytpfhbojodapomaa.Mux
