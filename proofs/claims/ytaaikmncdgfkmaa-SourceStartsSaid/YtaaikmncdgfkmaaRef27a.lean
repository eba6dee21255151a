/-
  The reference of layer 27: a sending end by value (XC, XX), Config, New, State.
-/
import Derived.Test.YtaaikmncdgfkmaaSrcW7
import Derived.Test.YtaaikmncdgfkmaaRef24v
import Derived.Deep.WholeRow
import Derived.Laws.Rows
import Derived.Laws.Tables
namespace Go.Proofs.Ytaaikmncdgfkmaa.Src
open Go.RowKit
open Go.Proofs.Ytaaikmncdgfkmaa.Pdu (Pd Gx Bx Px)
open Go.Proofs.Ytaaikmncdgfkmaa.Rng (R)

abbrev TX : TypeId := 38
/-- block g is the reference's value with K in state s; its data is the slice (D, d, e), its requests (A, n, c) -/
def XC (w : World) (g : Nat) (K : Kc) (s : SS) (D : Option Addr) (d e : Nat) (A : Option Addr) (n c : Nat) : Prop :=
  Cel w g TX #[.int .i64 K.sr, .int .i64 K.nm, .int .i64 K.cl, .string (str K.na), .slice D d e, .int .i64 K.ch, .int .i64 K.tt, .int .i64 K.rt, .int .i64 s.ph, .int .i64 (s.po : Int), .int .i64 s.nw, .int .i64 s.ti, .int .i64 s.re, .bool s.su, .bool s.ms, .bool s.mr, .bool s.ea, .bool s.ad, .slice A n c, .int .i64 s.co]
section
variable {w w' : World} {S : List Nat} {g : Nat} {K : Kc} {s : SS} {D : Option Addr} {d e : Nat} {A : Option Addr} {n c : Nat}
theorem XC.cell (h : XC w g K s D d e A n c) (i : Nat) : w.cell? ⟨g, i, none⟩ = (#[.int .i64 K.sr, .int .i64 K.nm, .int .i64 K.cl, .string (str K.na), .slice D d e, .int .i64 K.ch, .int .i64 K.tt, .int .i64 K.rt, .int .i64 s.ph, .int .i64 (s.po : Int), .int .i64 s.nw, .int .i64 s.ti, .int .i64 s.re, .bool s.su, .bool s.ms, .bool s.mr, .bool s.ea, .bool s.ad, .slice A n c, .int .i64 s.co] : Array Value)[i]? := Cel.cell (t := TX) h i
theorem XC.c0 (h : XC w g K s D d e A n c) : w.cell? ⟨g, 0, none⟩ = some (.int .i64 K.sr) := h.cell 0
theorem XC.c1 (h : XC w g K s D d e A n c) : w.cell? ⟨g, 1, none⟩ = some (.int .i64 K.nm) := h.cell 1
theorem XC.c2 (h : XC w g K s D d e A n c) : w.cell? ⟨g, 2, none⟩ = some (.int .i64 K.cl) := h.cell 2
theorem XC.c3 (h : XC w g K s D d e A n c) : w.cell? ⟨g, 3, none⟩ = some (.string (str K.na)) := h.cell 3
theorem XC.c4 (h : XC w g K s D d e A n c) : w.cell? ⟨g, 4, none⟩ = some (.slice D d e) := h.cell 4
theorem XC.c5 (h : XC w g K s D d e A n c) : w.cell? ⟨g, 5, none⟩ = some (.int .i64 K.ch) := h.cell 5
theorem XC.c6 (h : XC w g K s D d e A n c) : w.cell? ⟨g, 6, none⟩ = some (.int .i64 K.tt) := h.cell 6
theorem XC.c7 (h : XC w g K s D d e A n c) : w.cell? ⟨g, 7, none⟩ = some (.int .i64 K.rt) := h.cell 7
theorem XC.c8 (h : XC w g K s D d e A n c) : w.cell? ⟨g, 8, none⟩ = some (.int .i64 s.ph) := h.cell 8
theorem XC.c9 (h : XC w g K s D d e A n c) : w.cell? ⟨g, 9, none⟩ = some (.int .i64 (s.po : Int)) := h.cell 9
theorem XC.c10 (h : XC w g K s D d e A n c) : w.cell? ⟨g, 10, none⟩ = some (.int .i64 s.nw) := h.cell 10
theorem XC.c11 (h : XC w g K s D d e A n c) : w.cell? ⟨g, 11, none⟩ = some (.int .i64 s.ti) := h.cell 11
theorem XC.c12 (h : XC w g K s D d e A n c) : w.cell? ⟨g, 12, none⟩ = some (.int .i64 s.re) := h.cell 12
theorem XC.c13 (h : XC w g K s D d e A n c) : w.cell? ⟨g, 13, none⟩ = some (.bool s.su) := h.cell 13
theorem XC.c14 (h : XC w g K s D d e A n c) : w.cell? ⟨g, 14, none⟩ = some (.bool s.ms) := h.cell 14
theorem XC.c15 (h : XC w g K s D d e A n c) : w.cell? ⟨g, 15, none⟩ = some (.bool s.mr) := h.cell 15
theorem XC.c16 (h : XC w g K s D d e A n c) : w.cell? ⟨g, 16, none⟩ = some (.bool s.ea) := h.cell 16
theorem XC.c17 (h : XC w g K s D d e A n c) : w.cell? ⟨g, 17, none⟩ = some (.bool s.ad) := h.cell 17
theorem XC.c18 (h : XC w g K s D d e A n c) : w.cell? ⟨g, 18, none⟩ = some (.slice A n c) := h.cell 18
theorem XC.c19 (h : XC w g K s D d e A n c) : w.cell? ⟨g, 19, none⟩ = some (.int .i64 s.co) := h.cell 19
theorem XC.free (h : XC w g K s D d e A n c) (i : Nat) : w.frozen? ⟨g, i, none⟩ = false := Cel.free (t := TX) h i
theorem XC.only (h : XC w g K s D d e A n c) (k : Only S w w') (hg : g ∉ S) : XC w' g K s D d e A n c := Cel.only (t := TX) h k hg
theorem XC.lt (h : XC w g K s D d e A n c) : g < w.heap.size := Cel.lt (t := TX) h
theorem XC.below (h : XC w g K s D d e A n c) (k : Below w.heap.size w w') : XC w' g K s D d e A n c := h.only (Only.of_below (S := []) k) (by simp)
theorem XC.ph (h : XC w g K s D d e A n c) (x : Int) : XC (w.setCell ⟨g, 8, none⟩ (.int .i64 x)) g K { s with ph := x } D d e A n c := Cel.put (t := TX) h 8 _
theorem XC.po (h : XC w g K s D d e A n c) (x : Nat) : XC (w.setCell ⟨g, 9, none⟩ (.int .i64 (x : Int))) g K { s with po := x } D d e A n c := Cel.put (t := TX) h 9 _
theorem XC.nw (h : XC w g K s D d e A n c) (x : Int) : XC (w.setCell ⟨g, 10, none⟩ (.int .i64 x)) g K { s with nw := x } D d e A n c := Cel.put (t := TX) h 10 _
theorem XC.ti (h : XC w g K s D d e A n c) (x : Int) : XC (w.setCell ⟨g, 11, none⟩ (.int .i64 x)) g K { s with ti := x } D d e A n c := Cel.put (t := TX) h 11 _
theorem XC.re (h : XC w g K s D d e A n c) (x : Int) : XC (w.setCell ⟨g, 12, none⟩ (.int .i64 x)) g K { s with re := x } D d e A n c := Cel.put (t := TX) h 12 _
theorem XC.su (h : XC w g K s D d e A n c) (x : Bool) : XC (w.setCell ⟨g, 13, none⟩ (.bool x)) g K { s with su := x } D d e A n c := Cel.put (t := TX) h 13 _
theorem XC.ms (h : XC w g K s D d e A n c) (x : Bool) : XC (w.setCell ⟨g, 14, none⟩ (.bool x)) g K { s with ms := x } D d e A n c := Cel.put (t := TX) h 14 _
theorem XC.mr (h : XC w g K s D d e A n c) (x : Bool) : XC (w.setCell ⟨g, 15, none⟩ (.bool x)) g K { s with mr := x } D d e A n c := Cel.put (t := TX) h 15 _
theorem XC.ea (h : XC w g K s D d e A n c) (x : Bool) : XC (w.setCell ⟨g, 16, none⟩ (.bool x)) g K { s with ea := x } D d e A n c := Cel.put (t := TX) h 16 _
theorem XC.ad (h : XC w g K s D d e A n c) (x : Bool) : XC (w.setCell ⟨g, 17, none⟩ (.bool x)) g K { s with ad := x } D d e A n c := Cel.put (t := TX) h 17 _
theorem XC.co (h : XC w g K s D d e A n c) (x : Int) : XC (w.setCell ⟨g, 19, none⟩ (.int .i64 x)) g K { s with co := x } D d e A n c := Cel.put (t := TX) h 19 _
theorem XC.rq (h : XC w g K s D d e A n c) (l : List R) (A' : Option Addr) (n' c' : Nat) : XC (w.setCell ⟨g, 18, none⟩ (.slice A' n' c')) g K { s with rq := l } D d e A' n' c' := Cel.put (t := TX) h 18 _
theorem XC.kr (h : XC w g K s D d e A n c) (k : Only [g] w w') : Kr w w' := .of_only k fun x hx => by
  rw [List.mem_singleton.1 hx]
  exact not_rng (t := TX) h (by decide)
theorem XC.kr_put (h : XC w g K s D d e A n c) (i : Nat) (v : Value) : Kr w (w.setCell ⟨g, i, none⟩ v) := h.kr (put_only w g i v)
/-- .. with what its slices lead to -/
structure XX (w : World) (g : Nat) (K : Kc) (s : SS) (D : Option Addr) (d e : Nat) (A : Option Addr) (n c : Nat) : Prop where
  cel : XC w g K s D d e A n c
  q : Gq w s.rq A n c
theorem XX.below (h : XX w g K s D d e A n c) (k : Below w.heap.size w w') : XX w' g K s D d e A n c := ⟨h.cel.below k, h.q.below k⟩
theorem XX.only (h : XX w g K s D d e A n c) (k : Only S w w') (hg : g ∉ S) (hr : Kr w w') : XX w' g K s D d e A n c := ⟨h.cel.only k hg, h.q.keep hr⟩
end
theorem i64_cfg (ch tt rt : Int) : cfg ch tt rt = (decide (1 ≤ ch) && (decide (ch ≤ 512) && (decide (1 ≤ tt) && (decide (tt ≤ 1048576) && (decide (0 ≤ rt) && decide (rt ≤ 255)))))) := by
  unfold cfg
  rw [Bool.eq_iff_iff]
  simp only [Bool.and_eq_true, decide_eq_true_eq]
  omega
set_option maxHeartbeats 2000000 in
theorem xcfg_0 (ch tt rt : Int) (w : World)  (_h0 : ¬ 1 ≤ ch) : Calls Try.prog 24 #[.agg #[.int .i64 ch, .int .i64 tt, .int .i64 rt]] w fun e w' => e = .returned (.bool false) ∧ Below w.heap.size w w' := by
  have hb0 := bel_new w (.cells #[.int .i64 ch, .int .i64 tt, .int .i64 rt] 26)
  go_enter Try.func24, Try.ntmps24
  go_wp2
  go_ret
  exact ⟨rfl, hb0⟩
set_option maxHeartbeats 2000000 in
theorem xcfg_1 (ch tt rt : Int) (w : World) (_h0 : 1 ≤ ch) (_h1 : ¬ ch ≤ 512) : Calls Try.prog 24 #[.agg #[.int .i64 ch, .int .i64 tt, .int .i64 rt]] w fun e w' => e = .returned (.bool false) ∧ Below w.heap.size w w' := by
  have hb0 := bel_new w (.cells #[.int .i64 ch, .int .i64 tt, .int .i64 rt] 26)
  go_enter Try.func24, Try.ntmps24
  go_wp2
  go_ret
  exact ⟨rfl, hb0⟩
set_option maxHeartbeats 2000000 in
theorem xcfg_2 (ch tt rt : Int) (w : World) (_h0 : 1 ≤ ch) (_h1 : ch ≤ 512) (_h2 : ¬ 1 ≤ tt) : Calls Try.prog 24 #[.agg #[.int .i64 ch, .int .i64 tt, .int .i64 rt]] w fun e w' => e = .returned (.bool false) ∧ Below w.heap.size w w' := by
  have hb0 := bel_new w (.cells #[.int .i64 ch, .int .i64 tt, .int .i64 rt] 26)
  go_enter Try.func24, Try.ntmps24
  go_wp2
  go_ret
  exact ⟨rfl, hb0⟩
set_option maxHeartbeats 2000000 in
theorem xcfg_3 (ch tt rt : Int) (w : World) (_h0 : 1 ≤ ch) (_h1 : ch ≤ 512) (_h2 : 1 ≤ tt) (_h3 : ¬ tt ≤ 1048576) : Calls Try.prog 24 #[.agg #[.int .i64 ch, .int .i64 tt, .int .i64 rt]] w fun e w' => e = .returned (.bool false) ∧ Below w.heap.size w w' := by
  have hb0 := bel_new w (.cells #[.int .i64 ch, .int .i64 tt, .int .i64 rt] 26)
  go_enter Try.func24, Try.ntmps24
  go_wp2
  go_ret
  exact ⟨rfl, hb0⟩
set_option maxHeartbeats 2000000 in
theorem xcfg_4 (ch tt rt : Int) (w : World) (_h0 : 1 ≤ ch) (_h1 : ch ≤ 512) (_h2 : 1 ≤ tt) (_h3 : tt ≤ 1048576) (_h4 : ¬ 0 ≤ rt) : Calls Try.prog 24 #[.agg #[.int .i64 ch, .int .i64 tt, .int .i64 rt]] w fun e w' => e = .returned (.bool false) ∧ Below w.heap.size w w' := by
  have hb0 := bel_new w (.cells #[.int .i64 ch, .int .i64 tt, .int .i64 rt] 26)
  go_enter Try.func24, Try.ntmps24
  go_wp2
  go_ret
  exact ⟨rfl, hb0⟩
set_option maxHeartbeats 2000000 in
theorem xcfg_5 (ch tt rt : Int) (w : World) (_h0 : 1 ≤ ch) (_h1 : ch ≤ 512) (_h2 : 1 ≤ tt) (_h3 : tt ≤ 1048576) (_h4 : 0 ≤ rt) (_h5 : ¬ rt ≤ 255) : Calls Try.prog 24 #[.agg #[.int .i64 ch, .int .i64 tt, .int .i64 rt]] w fun e w' => e = .returned (.bool false) ∧ Below w.heap.size w w' := by
  have hb0 := bel_new w (.cells #[.int .i64 ch, .int .i64 tt, .int .i64 rt] 26)
  go_enter Try.func24, Try.ntmps24
  go_wp2
  go_ret
  exact ⟨rfl, hb0⟩
set_option maxHeartbeats 2000000 in
theorem xcfg_6 (ch tt rt : Int) (w : World) (_h0 : 1 ≤ ch) (_h1 : ch ≤ 512) (_h2 : 1 ≤ tt) (_h3 : tt ≤ 1048576) (_h4 : 0 ≤ rt) (_h5 : rt ≤ 255) : Calls Try.prog 24 #[.agg #[.int .i64 ch, .int .i64 tt, .int .i64 rt]] w fun e w' => e = .returned (.bool true) ∧ Below w.heap.size w w' := by
  have hb0 := bel_new w (.cells #[.int .i64 ch, .int .i64 tt, .int .i64 rt] 26)
  go_enter Try.func24, Try.ntmps24
  go_wp2
  go_ret
  exact ⟨rfl, hb0⟩
theorem xconfig_any (ch tt rt : Int) (w : World) : Calls Try.prog 24 #[.agg #[.int .i64 ch, .int .i64 tt, .int .i64 rt]] w fun e w' => e = .returned (.bool (cfg ch tt rt)) ∧ Below w.heap.size w w' := by
  rw [i64_cfg]
  by_cases h0 : 1 ≤ ch
  · rw [decide_eq_true h0, Bool.true_and]
    by_cases h1 : ch ≤ 512
    · rw [decide_eq_true h1, Bool.true_and]
      by_cases h2 : 1 ≤ tt
      · rw [decide_eq_true h2, Bool.true_and]
        by_cases h3 : tt ≤ 1048576
        · rw [decide_eq_true h3, Bool.true_and]
          by_cases h4 : 0 ≤ rt
          · rw [decide_eq_true h4, Bool.true_and]
            by_cases h5 : rt ≤ 255
            · rw [decide_eq_true h5]
              exact xcfg_6 ch tt rt w h0 h1 h2 h3 h4 h5
            · rw [decide_eq_false h5]
              exact xcfg_5 ch tt rt w h0 h1 h2 h3 h4 h5
          · rw [decide_eq_false h4, Bool.false_and]
            exact xcfg_4 ch tt rt w h0 h1 h2 h3 h4
        · rw [decide_eq_false h3, Bool.false_and]
          exact xcfg_3 ch tt rt w h0 h1 h2 h3
      · rw [decide_eq_false h2, Bool.false_and]
        exact xcfg_2 ch tt rt w h0 h1 h2
    · rw [decide_eq_false h1, Bool.false_and]
      exact xcfg_1 ch tt rt w h0 h1
  · rw [decide_eq_false h0, Bool.false_and]
    exact xcfg_0 ch tt rt w h0
end Go.Proofs.Ytaaikmncdgfkmaa.Src
/- structs of many cells: a whole one made, stored, as the operations of a walk (the walk's own steps have no end at twenty cells) -/
namespace Go.Proofs.Ytaaikmncdgfkmaa
open Go.RowKit
section
variable {P : Program} {ops : Array Oper} {rest : List Oper} {o : Oper} {a : Act} {w : World} {Q : Exit → Act → World → Prop}
theorem wpList_big_alloc {T : TypeId} {zs : Array Value} (hgd : o.guard = none) (ho : o.op = .alloc T)
    (hz : ∀ w, (Instr.alloc T true (.tuple #[])).run P w = .ok (.pointer (some ⟨w.heap.size, 0, none⟩)) (w.alloc (.cells zs T)))
    (h : ∀ W, W = w.alloc (.cells zs T) → wpList P ops Q rest (a.put o.dst (.pointer (some ⟨w.heap.size, 0, none⟩))) W) : wpList P ops Q (o :: rest) a w :=
  wpList_plain hgd fun _ hK => by
    unfold Oper.wp execOp
    simp only [ho, Sem.run_bind, Sem.run_pure, Result.andThen_ok, hz]
    exact hK _ _ (h _ rfl)
theorem wpList_big_new (hgd : o.guard = none) (T : TypeId) (p x : Operand) (ho : o.op = .store T p x) {c c' : Array Value}
    (hp : a.eval p = .pointer (some ⟨w.heap.size, 0, none⟩)) (hx : a.eval x = .agg c') (hi : (P.info? T).map (·.size) = some c'.size) (hs : c.size = c'.size) (h1 : c'.all (·.oneCell') = true)
    (h : wpList P ops Q rest (a.put o.dst undef) (w.alloc (.cells c' T))) : wpList P ops Q (o :: rest) a (w.alloc (.cells c T)) :=
  wpList_plain hgd fun _ hK => by
    unfold Oper.wp execOp
    simp only [ho, hp, hx, Instr.storeAt, Instr.sureAddr, Sem.run_bind, Sem.run_pure, Result.andThen_ok, run_storeVar_new w T c c' hi hs h1]
    exact hK _ _ h
theorem wpList_big_store (hgd : o.guard = none) (T : TypeId) (p x : Operand) (ho : o.op = .store T p x) {g : Nat} {t : TypeId} {c c' : Array Value}
    (hp : a.eval p = .pointer (some ⟨g, 0, none⟩)) (hx : a.eval x = .agg c') (hg : Cel w g t c) (hi : (P.info? T).map (·.size) = some c'.size) (hs : c.size = c'.size) (h1 : c'.all (·.oneCell') = true)
    (h : ∀ W, Cel W g t c' → Only [g] w W → wpList P ops Q rest (a.put o.dst undef) W) : wpList P ops Q (o :: rest) a w :=
  wpList_plain hgd fun _ hK => by
    unfold Oper.wp execOp
    simp only [ho, hp, hx, Instr.storeAt, Instr.sureAddr, Sem.run_bind, Sem.run_pure, Result.andThen_ok, run_storeVar_row w g t T c c' hg hi hs h1]
    refine hK _ _ (h _ (setRow_heap w g c _ t _ hg) ⟨rfl, rfl, rfl, by simp, fun k _ hk => setRow_other w g k _ (fun e => hk (by simp [e]))⟩)
theorem wpList_big_load (hgd : o.guard = none) (T : TypeId) (x : Operand) (ho : o.op = .load T x) {g : Nat} {t : TypeId} {c : Array Value} {d : TypeDesc}
    (hx : a.eval x = .pointer (some ⟨g, 0, none⟩)) (hg : Cel w g t c) (hu : P.underlying T = some d) (hd : (match d with | .struct _ | .array _ _ => true | _ => false) = true) (hi : (P.info? T).map (·.size) = some c.size)
    (h : wpList P ops Q rest (a.put o.dst (.agg c)) w) : wpList P ops Q (o :: rest) a w :=
  wpList_load_row hgd T x ho g hx t c (0, 0) d hg hu hd hi h
end
end Go.Proofs.Ytaaikmncdgfkmaa
