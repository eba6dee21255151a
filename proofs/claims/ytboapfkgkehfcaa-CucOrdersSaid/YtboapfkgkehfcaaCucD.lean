/-
  The walk of package cuc's Decode.
-/
import Derived.Test.YtboapfkgkehfcaaCucE
import Derived.Test.YtboapfkgkehfcaaOctR1
namespace Go.Proofs.Ytboapfkgkehfcaa
open Go.RowKit

/-- what Decode hands back -/
def dOut (t c f n e : Int) : Value := .tuple #[.int .i64 t, .agg #[.int .i64 c, .int .i64 f], .int .i64 n, .int .i64 e]

theorem dOut_fin {l : List Byte} {E : Int} {T C F N : Nat} {t c f n e : Int} (hd : dcd l = (E, T, C, F)) (hz : dsz l = N) (h1 : t = (T : Int)) (h2 : c = (C : Int)) (h3 : f = (F : Int)) (h4 : n = (N : Int)) (h5 : e = E) :
    Ending.returned (dOut t c f n e) = .returned (dOut (dcd l).2.1 (dcd l).2.2.1 (dcd l).2.2.2 (dsz l) (dcd l).1) := by rw [hd, hz, h1, h2, h3, h4, h5]
theorem dec_results {tmps : Array Value} {W : World} {g : Nat} {t c f n e : Int} (h2 : tmps.getD 2 undef = .int .i64 t) (h3 : tmps.getD 3 undef = .pointer (some ⟨g, 0, none⟩)) (h4 : tmps.getD 4 undef = .int .i64 n) (h5 : tmps.getD 5 undef = .int .i64 e) (hF : Fm W g c f) :
    (results Try.f17 tmps).run Try.prog W = .ok (dOut t c f n e) W := by
  obtain ⟨_, c0, c1⟩ := hF
  simp only [Array.getD_eq_getD_getElem?] at h2 h3 h4 h5
  simp [results, Try.results17, go_sem, dOut, h2, h3, h4, h5, c0, c1]
theorem Fm_store {w : World} {g : Nat} {t : TypeId} {x y : Value} (h : Cel w g t #[x, y]) (c f : Int) : Fm ((w.setCell ⟨g, 0, none⟩ (.int .i64 c)).setCell ⟨g, 1, none⟩ (.int .i64 f)) g c f := by
  have h2 := (h.put 0 (.int .i64 c)).put 1 (.int .i64 f)
  exact ⟨h2.lt, h2.cell 0, h2.cell 1⟩
theorem store_below {w W : World} {g : Nat} (h : Below w.heap.size w W) (hg : w.heap.size ≤ g) (u v : Value) : Below w.heap.size w ((W.setCell ⟨g, 0, none⟩ u).setCell ⟨g, 1, none⟩ v) :=
  h.trans ((((Only.refl [g] W).put (p := ⟨g, 0, none⟩) (.inl (by simp)) u).put (p := ⟨g, 1, none⟩) (.inl (by simp)) v).below h.size (by simp; omega))
theorem Fm_apart {w : World} {g g3 : Nat} {c f : Int} (h : Fm w g c f) (hne : g ≠ g3) (u v : Value) : Fm ((w.setCell ⟨g3, 0, none⟩ u).setCell ⟨g3, 1, none⟩ v) g c f := by
  have hO : Only [g3] w ((w.setCell ⟨g3, 0, none⟩ u).setCell ⟨g3, 1, none⟩ v) := ((Only.refl [g3] w).put (p := ⟨g3, 0, none⟩) (.inl (by simp)) u).put (p := ⟨g3, 1, none⟩) (.inl (by simp)) v
  have hb := hO.block g h.1 (by simpa using hne)
  exact ⟨Nat.lt_of_lt_of_le h.1 hO.size, (World.cell?_of_block (a := ⟨g, 0, none⟩) hb).trans h.2.1, (World.cell?_of_block (a := ⟨g, 1, none⟩) hb).trans h.2.2⟩
/-- the block of a named result, later -/
theorem Cel.later {w w' : World} {g : Nat} {t : TypeId} {cs : Array Value} (h : Cel w g t cs) (hb : Below w.heap.size w w') : Cel w' g t cs := h.only (Only.of_below (S := []) hb) (by simp)

set_option maxHeartbeats 1000000 in
theorem decode_empty (A : Option Addr) (c : Nat) (w : World) :
    Calls Try.prog 17 #[.slice A 0 c] w fun e w' => e = .returned (dOut 0 0 0 0 3) ∧ Below w.heap.size w w' := by
  go_enter Try.func17, Try.ntmps17
  go_wp2
  exact bodyPost_ret (dec_results rfl rfl rfl rfl (Fm_new _ _ _ _)) rfl ⟨rfl, bel_new _ _⟩

set_option maxHeartbeats 1000000 in
theorem decode_form (A : Option Addr) (p : Byte) (r : List Byte) (c : Nat) (w : World) (hb : Bs w w.heap.size A (p :: r)) (hp : p.toNat < 16 ∨ 31 < p.toNat) (hL : r.length < 1000000) :
    Calls Try.prog 17 #[.slice A (r.length + 1) c] w fun e w' => e = .returned (dOut 0 0 0 0 4) ∧ Below w.heap.size w w' := by
  obtain ⟨b, off, rfl, hbl, hcc⟩ := hb.at_ (k := 0) (by simp)
  have hfo := fun W => formatOf_any p W
  have hv := fun W => fvalid_any (foC p) (foF p) W
  have hval := fo_valid p
  rw [decide_eq_false (not_not_intro hp)] at hval
  simp only [hval] at hv
  obtain ⟨C, hC⟩ : ∃ C, C = foC p := ⟨_, rfl⟩
  obtain ⟨F, hF⟩ : ∃ F, F = foF p := ⟨_, rfl⟩
  simp only [← hC, ← hF] at hv hfo
  have hb0 := bel_new w (.cells #[.int .i64 0, .int .i64 0] 23)
  have hr0 := Cel.new w 23 #[.int .i64 0, .int .i64 0]
  have hc0 := (hb0.cell (p := ⟨b, off + 0, none⟩) hbl).trans hcc
  simp at hc0
  clear hval hC hF hb hp hcc
  go_enter Try.func17, Try.ntmps17
  go_wp2_with fail
  refine (hfo _).mono ?_
  rintro e w1 ⟨rfl, hb⟩
  have hb1 := (hb0.trans (hb.mono hb0.size)).alloc (hb0.trans (hb.mono hb0.size)).size (.cells #[.int .i64 C, .int .i64 F] 23)
  have hr1 := (hr0.later hb).later (bel_new w1 (.cells #[.int .i64 C, .int .i64 F] 23))
  clear hb hr0 hb0 hc0
  go_wp2_with fail
  refine (hv _).mono ?_
  rintro e w2 ⟨rfl, hb⟩
  have hb2 := hb1.trans (hb.mono hb1.size)
  have hr2 := hr1.later hb
  have c0 := hr2.cell 0
  have c1 := hr2.cell 1
  have f0 := hr2.free 0
  have f1 := hr2.free 1
  simp at c0 c1
  clear hb hr1 hb1 hv hfo
  go_wp2
  exact bodyPost_ret (dec_results rfl rfl rfl rfl (Fm_store hr2 0 0)) rfl ⟨rfl, store_below hb2 (Nat.le_refl _) _ _⟩

set_option maxHeartbeats 1000000 in
theorem decode_short (A : Option Addr) (p : Byte) (r : List Byte) (c C F : Nat) (w : World) (hb : Bs w w.heap.size A (p :: r)) (hp : ¬ (p.toNat < 16 ∨ 31 < p.toNat)) (hC : C = (p.toNat - 16) / 4 + 1) (hF : F = p.toNat % 4) (hr : r.length < C + F) :
    Calls Try.prog 17 #[.slice A (r.length + 1) c] w fun e w' => e = .returned (dOut 0 0 0 0 3) ∧ Below w.heap.size w w' := by
  obtain ⟨b, off, rfl, hbl, hcc⟩ := hb.at_ (k := 0) (by simp)
  have hval := fo_valid p
  rw [decide_eq_true hp] at hval
  obtain ⟨n1, n2⟩ := fo_nat hp
  rw [← hC] at n1
  rw [← hF] at n2
  rw [n1, n2] at hval
  have hfo := fun W => formatOf_any p W
  rw [n1, n2] at hfo
  have hv := fun W => fvalid_any (C : Int) (F : Int) W
  have hs := fun W => fsize_any (C : Int) (F : Int) W
  have hcs : csz (C : Int) (F : Int) = 1 + (C : Int) + (F : Int) := by unfold csz; rw [if_pos hval]
  simp only [hval] at hv
  rw [hcs] at hs
  have hb0 := bel_new w (.cells #[.int .i64 0, .int .i64 0] 23)
  have hr0 := Cel.new w 23 #[.int .i64 0, .int .i64 0]
  have hc0 := (hb0.cell (p := ⟨b, off + 0, none⟩) hbl).trans hcc
  simp at hc0
  have hC8 : (C : Int) ≤ 4 := by omega
  have hF8 : (F : Int) ≤ 3 := by omega
  have hlss : (r.length : Int) + 1 < 1 + (C : Int) + (F : Int) := by omega
  clear hval hb hp hcc hC hF hr n1 n2 hcs
  go_enter Try.func17, Try.ntmps17
  go_wp2_with fail
  refine (hfo _).mono ?_
  rintro e w1 ⟨rfl, hb⟩
  have hb1 := (hb0.trans (hb.mono hb0.size)).alloc (hb0.trans (hb.mono hb0.size)).size (.cells #[.int .i64 (C : Int), .int .i64 (F : Int)] 23)
  have hr1 := (hr0.later hb).later (bel_new w1 (.cells #[.int .i64 (C : Int), .int .i64 (F : Int)] 23))
  have hm1 := Fm_new w1 23 (C : Int) (F : Int)
  clear hb hr0 hb0 hc0
  go_wp2_with fail
  refine (hv _).mono ?_
  rintro e w2 ⟨rfl, hb⟩
  have hb2 := hb1.trans (hb.mono hb1.size)
  have hr2 := hr1.later hb
  obtain ⟨_, m0, m1⟩ := hm1.keep hb
  clear hb hr1 hb1 hv hfo hm1
  go_wp2_with fail
  refine (hs _).mono ?_
  rintro e w3 ⟨rfl, hb⟩
  have hb3 := hb2.trans (hb.mono hb2.size)
  have hr3 := hr2.later hb
  have c0 := hr3.cell 0
  have c1 := hr3.cell 1
  have f0 := hr3.free 0
  have f1 := hr3.free 1
  simp at c0 c1
  clear hb hr2 hb2 hs m0 m1
  go_wp2
  exact bodyPost_ret (dec_results rfl rfl rfl rfl (Fm_store hr3 0 0)) rfl ⟨rfl, store_below hb3 (Nat.le_refl _) _ _⟩

/-- the fine bytes: the first one, and whether the others are zeros -/
theorem fine_parts (T : List Byte) (F : Nat) (hl : T.length = F) (hF : F ≠ 0) : beV T / 256 ^ (F - 1) = (T.headD 0#8).toNat ∧ (beV T / 256 ^ (F - 1) * 256 ^ (F - 1) = beV T ↔ T.tail.all (fun x => decide (x = 0#8)) = true) := by
  cases T with
  | nil => simp at hl; omega
  | cons x b =>
    have hk : F - 1 = b.length := by simp at hl; omega
    have hp : 0 < 256 ^ b.length := Nat.pow_pos (by decide)
    have hlt := beV_lt b
    have e : beV (x :: b) / 256 ^ (F - 1) = x.toNat := by
      rw [hk, beV_cons, Nat.mul_comm, Nat.mul_add_div hp, Nat.div_eq_of_lt hlt]; rfl
    refine ⟨e, ?_⟩
    rw [e, hk, beV_cons, List.tail_cons, ← zeros_of]
    omega
theorem shr_tick (G F Q : Nat) (h1 : 1 ≤ F) (h3 : F ≤ 3) (hQ : Q = G / 256 ^ (F - 1)) : Op.shift .shr .u64 (G : Int) .i64 (8 * ((F : Int) - 1)) = pure (.int .u64 (Q : Int)) := by
  subst hQ
  have : F = 1 ∨ F = 2 ∨ F = 3 := by omega
  rcases this with rfl | rfl | rfl
  all_goals
    rw [shift_shr_any _ _ _ _ (by decide)]
    congr 2

set_option maxHeartbeats 2000000 in
theorem decode_rest (A : Option Addr) (p : Byte) (r : List Byte) (c C F : Nat) (w : World) (hb : Bs w w.heap.size A (p :: r)) (hlc : r.length + 1 ≤ c) (hcm : c ≤ maxLen) (hp : ¬ (p.toNat < 16 ∨ 31 < p.toNat)) (hC : C = (p.toNat - 16) / 4 + 1) (hF : F = p.toNat % 4) (hr : C + F ≤ r.length) :
    Calls Try.prog 17 #[.slice A (r.length + 1) c] w fun e w' => e = .returned (dOut (dcd (p :: r)).2.1 (dcd (p :: r)).2.2.1 (dcd (p :: r)).2.2.2 (dsz (p :: r)) (dcd (p :: r)).1) ∧ Below w.heap.size w w' := by
  unfold maxLen at hcm
  have hbr : Bs w w.heap.size A (p :: r) := hb
  obtain ⟨b, off, rfl, hbl, hcc⟩ := hb.at_ (k := 0) (by simp)
  have hbs : Bs w w.heap.size (some ⟨b, off + 1, none⟩) (r.take (C + F)) := by
    have := (hb.drop 1).take (C + F)
    simpa using this
  have hval := fo_valid p
  rw [decide_eq_true hp] at hval
  obtain ⟨n1, n2⟩ := fo_nat hp
  rw [← hC] at n1
  rw [← hF] at n2
  rw [n1, n2] at hval
  have hfo := fun W => formatOf_any p W
  rw [n1, n2] at hfo
  have hv := fun W => fvalid_any (C : Int) (F : Int) W
  have hs := fun W => fsize_any (C : Int) (F : Int) W
  have hcs : csz (C : Int) (F : Int) = 1 + (C : Int) + (F : Int) := by unfold csz; rw [if_pos hval]
  simp only [hval] at hv
  rw [hcs] at hs
  have hb0 := bel_new w (.cells #[.int .i64 0, .int .i64 0] 23)
  have hr0 := Cel.new w 23 #[.int .i64 0, .int .i64 0]
  have hc0 := (hb0.cell (p := ⟨b, off + 0, none⟩) hbl).trans hcc
  simp at hc0
  have hC1 : (1 : Int) ≤ (C : Int) := by omega
  have hC8 : (C : Int) ≤ 4 := by omega
  have hF0 : (0 : Int) ≤ (F : Int) := by omega
  have hF8 : (F : Int) ≤ 3 := by omega
  have hlss : decide ((r.length : Int) + 1 < 1 + (C : Int) + (F : Int)) = false := by simp; omega
  have hcap : 1 + (C : Int) + (F : Int) ≤ (c : Int) := by omega
  have hdc := dcd_rest (r := r) hp hC hF (by omega)
  have hL : (r.take (C + F)).length = C + F := List.length_take_of_le hr
  clear hb hp hcc hC hF n1 n2 hcs
  go_enter Try.func17, Try.ntmps17
  go_wp2_with fail
  refine (hfo _).mono ?_
  rintro e w1 ⟨rfl, hb⟩
  have hb1 := (hb0.trans (hb.mono hb0.size)).alloc (hb0.trans (hb.mono hb0.size)).size (.cells #[.int .i64 (C : Int), .int .i64 (F : Int)] 23)
  have hr1 := (hr0.later hb).later (bel_new w1 (.cells #[.int .i64 (C : Int), .int .i64 (F : Int)] 23))
  have hm1 := Fm_new w1 23 (C : Int) (F : Int)
  have hb1sz : w.heap.size < w1.heap.size := by have := hb.size; simp at this; omega
  clear hb hr0 hb0 hc0
  go_wp2_with fail
  refine (hv _).mono ?_
  rintro e w2 ⟨rfl, hb⟩
  have hb2 := hb1.trans (hb.mono hb1.size)
  have hr2 := hr1.later hb
  have hm2 := hm1.keep hb
  obtain ⟨_, m0, m1⟩ := hm2
  clear hb hr1 hb1 hv hfo hm1
  go_wp2_with fail
  refine (hs _).mono ?_
  rintro e w3 ⟨rfl, hb⟩
  have hb3 := hb2.trans (hb.mono hb2.size)
  have hr3 := hr2.later hb
  have hm3 := (show Fm w2 w1.heap.size (C : Int) (F : Int) from ⟨‹_›, m0, m1⟩).keep hb
  clear hb hr2 hb2 m0 m1
  obtain ⟨_, m0, m1⟩ := hm3
  go_wp2_with fail
  refine (hs _).mono ?_
  rintro e w4 ⟨rfl, hb⟩
  have hb4 := hb3.trans (hb.mono hb3.size)
  have hr4 := hr3.later hb
  have hm4 := (show Fm w3 w1.heap.size (C : Int) (F : Int) from ⟨‹_›, m0, m1⟩).keep hb
  clear hb hr3 hb3 m0 m1
  have hbs4 := (hbs.below hb4).more hb4.size
  obtain ⟨V, hV⟩ : ∃ V, V = beV (r.take C) := ⟨_, rfl⟩
  obtain ⟨T, hT⟩ : ∃ T, T = (r.drop C).take F := ⟨_, rfl⟩
  have hTl : T.length = F := by rw [hT, List.length_take, List.length_drop]; omega
  have hV4 : V < 4294967296 := by
    have h1 := beV_lt (r.take C)
    have h2 : (r.take C).length ≤ 4 := by rw [List.length_take]; omega
    have h3 : 256 ^ (r.take C).length ≤ 256 ^ 4 := Nat.pow_le_pow_right (by decide) h2
    omega
  have e1 : (r.take (C + F)).take C = r.take C := by rw [List.take_take, Nat.min_eq_left (by omega)]
  have e2 : (r.take (C + F)).drop C = T := by rw [hT, List.drop_take, Nat.add_sub_cancel_left]
  have huC : ∀ W g, OR W g g (some (r.take (C + F))) → Calls Try.prog 29 #[.pointer (some ⟨g, 0, none⟩), .int .i64 (C : Int)] W fun e w' => e = .returned (.int .u64 (V : Int)) ∧ OR w' g g (some T) ∧ Only [g] W w' := fun W g h => by
    have := oruint_ok W g g (r.take (C + F)) C h (by omega) (by omega) (by omega) (by omega)
    rwa [e1, e2, ← hV] at this
  rw [← hV, ← hT] at hdc
  have HL : Hid ((r.take (C + F)).length = 1 + C + F - 1) := Lib.hid (by omega)
  have hcl : 1 + C + F - 1 ≤ 140737488355328 := by omega
  clear e1 e2 hV hT hbs hL hbr hr
  go_wp2_with fail
  refine (orNew _ (r.take (C + F)) _ (c - 1) w4 HL hbs4 (fun h => nomatch h) hcl).mono ?_
  rintro e w5 ⟨g, rfl, hR, hg, hB5⟩
  obtain ⟨_, m0, m1⟩ := hm4.keep hB5
  have hR5 := huC w5 g hR
  clear huC hR HL hbs4
  go_wp2_with fail
  refine hR5.mono ?_
  rintro e w6 ⟨rfl, hR6, hO⟩
  have hB6 := hB5.trans (hO.below (B := w4.heap.size) hB5.size (by simp; omega))
  clear hR5 hO m0 m1
  have hs2 := hs
  clear hs
  have hr6 := hr4.later hB6
  have hb6 := hb4.trans (hB6.mono hb4.size)
  have hne : w1.heap.size ≠ w.heap.size := by have := hb1sz; omega
  obtain ⟨hlt6, m0, m1⟩ := hm4.keep hB6
  have hVI : (V : Int) < 4294967296 := by omega
  by_cases hf : F = 0
  · subst hf
    have hT0 : T = [] := List.eq_nil_of_length_eq_zero hTl
    subst hT0
    have hd : dcd (p :: r) = (0, V * 256, C, 0) := by rw [hdc]; simp
    have hdz : dsz (p :: r) = 1 + C := by unfold dsz; rw [hd]; rfl
    have hmE : Fm w6 w1.heap.size (C : Int) (0 : Int) := ⟨hlt6, m0, m1⟩
    have hrE := hr6
    have hbE := hb6
    go_wp2_with fail
    refine wp_region_held_drew (S := (fun w' => w'.cell? ⟨w1.heap.size, 0, none⟩ = some (.int .i64 (C : Int)) ∧ w'.cell? ⟨w1.heap.size, 1, none⟩ = some (.int .i64 (0 : Int)))) (by kernel_rfl) (⟨m0, m1⟩) (fun hHeld => ?_)
    refine wpAnyH_here 0 (v := ?_) rfl (by kernel_rfl) (by kernel_rfl) (by kernel_rfl) (fun _ _ _ h => h) (Or.inl ⟨by rfl, ?_⟩) hHeld ?_
    rotate_left
    · intro w hSw; (try dsimp only at hSw); go_simp; all_goals (with_reducible rfl)
    try simp only [Act.put, List.setIfInBounds_toArray, List.set_cons_zero, List.set_cons_succ]
    refine wpAnyH_here 2 (v := ?_) rfl (by kernel_rfl) (by kernel_rfl) (by kernel_rfl) (fun _ _ _ h => h) (Or.inl ⟨by rfl, ?_⟩) hHeld ?_
    rotate_left
    · intro w hSw; (try dsimp only at hSw); go_simp; all_goals (with_reducible rfl)
    try simp only [Act.put, List.setIfInBounds_toArray, List.set_cons_zero, List.set_cons_succ]
    refine wpAnyH_here 1 (v := ?_) rfl (by kernel_rfl) (by kernel_rfl) (by kernel_rfl) (fun _ _ _ h => h) (Or.inl ⟨by rfl, ?_⟩) hHeld ?_
    rotate_left
    · intro w hSw; (try dsimp only at hSw); go_simp; all_goals (with_reducible rfl)
    try simp only [Act.put, List.setIfInBounds_toArray, List.set_cons_zero, List.set_cons_succ]
    refine wpAnyH_alone 3 rfl (by kernel_rfl) (fun K hK => ?_)
    go_simp
    (go_at_call 14; refine (hs2 _).mono ?_; rintro e W7 ⟨rfl, hb⟩; have hm7 := hmE.drew.keep hb; have hr7 := (show Cel w6.drew w.heap.size 23 #[.int .i64 0, .int .i64 0] from hrE).later hb; have hB7 := hbE.drew.trans (hb.mono hbE.drew.size); have q0 := hr7.cell 0; have q1 := hr7.cell 1; have z0 := hr7.free 0; have z1 := hr7.free 1; simp at q0 q1; clear hb)
    refine hK.out _ _ (hm7.2) (fun hHeld => ?_)
    clear hK K
    try simp only [Act.put, List.setIfInBounds_toArray, List.set_cons_zero, List.set_cons_succ]
    refine wpAnyH_here 4 (v := ?_) rfl (by kernel_rfl) (by kernel_rfl) (by kernel_rfl) (fun _ _ _ h => h) (Or.inl ⟨by rfl, ?_⟩) hHeld ?_
    rotate_left
    · intro w hSw; (try dsimp only at hSw); go_simp; all_goals (with_reducible rfl)
    try simp only [Act.put, List.setIfInBounds_toArray, List.set_cons_zero, List.set_cons_succ]
    refine wpAnyH_alone 5 rfl (by kernel_rfl) (fun K hK => ?_)
    go_simp
    skip
    refine hK.out _ _ ((Fm_apart hm7 hne _ _).2) (fun hHeld => ?_)
    clear hK K
    try simp only [Act.put, List.setIfInBounds_toArray, List.set_cons_zero, List.set_cons_succ]
    refine wpAnyH_here 6 (v := ?_) rfl (by kernel_rfl) (by kernel_rfl) (by kernel_rfl) (fun _ _ _ h => h) (Or.inl ⟨by rfl, ?_⟩) hHeld ?_
    rotate_left
    · intro w hSw; (try dsimp only at hSw); go_simp; all_goals (with_reducible rfl)
    try simp only [Act.put, List.setIfInBounds_toArray, List.set_cons_zero, List.set_cons_succ]
    refine wpAnyH_here 7 (v := ?_) rfl (by kernel_rfl) (by kernel_rfl) (by kernel_rfl) (fun _ _ _ h => h) (Or.inl ⟨by rfl, ?_⟩) hHeld ?_
    rotate_left
    · intro w hSw; (try dsimp only at hSw); go_simp; all_goals (with_reducible rfl)
    try simp only [Act.put, List.setIfInBounds_toArray, List.set_cons_zero, List.set_cons_succ]
    refine wpAnyH_done (by kernel_rfl) ?_ _
    go_wp2
    exact bodyPost_ret (dec_results rfl rfl rfl rfl (Fm_store hr7 (C : Int) 0)) rfl ⟨dOut_fin hd hdz (by simp) rfl rfl (by simp) rfl, store_below hB7 (Nat.le_refl _) _ _⟩
  · have f0 : decide (0 < F) = true := by simp; omega
    have f2 : decide (0 < (F : Int)) = true := by simp; omega
    have f1 : (1 : Int) ≤ (F : Int) := by omega
    obtain ⟨G, hG⟩ : ∃ G, G = beV T := ⟨_, rfl⟩
    obtain ⟨hp1, hp2⟩ := fine_parts T F hTl hf
    rw [← hG] at hp1 hp2
    obtain ⟨Q, hQ⟩ : ∃ Q, Q = G / 256 ^ (F - 1) := ⟨_, rfl⟩
    rw [← hQ] at hp1 hp2
    obtain ⟨X, hX⟩ : ∃ X, X = Q * 256 ^ (F - 1) := ⟨_, rfl⟩
    rw [← hX] at hp2
    have hQ8 : Q < 256 := by rw [hp1]; exact (T.headD 0#8).isLt
    have hsp := fun W => fspare_any (C : Int) (F : Int) W f1 hF8
    have hshr := shr_tick G F Q (by omega) (by omega) hQ
    have hshl := shl_fine Q F hQ8 (by omega) (by omega)
    rw [← hX] at hshl
    have hG6 := oruint_ok w6 g g T F hR6 (by omega) (by omega) (by omega) (by omega)
    rw [← hTl, List.take_length, hTl, ← hG] at hG6
    have HF8 := Lib.hid hF8
    have HP1 := Lib.hid hp1
    have HP2 := Lib.hid hp2
    have HD := Lib.hid hdc
    clear hF8 hQ hX hG hTl hp1 hp2 hdc hcap hcl hlss hlc hcm
    go_wp2_with fail
    refine hG6.mono ?_
    rintro e w7 ⟨rfl, _, hO⟩
    have hB7 := hB6.trans (hO.below (B := w4.heap.size) hB6.size (by simp; omega))
    clear hG6 hO m0 m1 hlt6 hr6
    obtain ⟨hlt7, m0, m1⟩ := hm4.keep hB7
    go_wp2_with fail
    refine (hsp _).mono ?_
    rintro e w8 ⟨rfl, hb⟩
    have hB8 := hB7.trans (hb.mono hB7.size)
    clear hb m0 m1 hlt7 hB7
    obtain ⟨hlt8, m0, m1⟩ := hm4.keep hB8
    go_wp2_with fail
    refine (hsp _).mono ?_
    rintro e w9 ⟨rfl, hb⟩
    have hB9 := hB8.trans (hb.mono hB8.size)
    clear hb m0 m1 hlt8 hB8
    obtain ⟨hlt9, m0, m1⟩ := hm4.keep hB9
    have hr9 := hr4.later hB9
    have hb9 := hb4.trans (hB9.mono hb4.size)
    have hmE : Fm w9 w1.heap.size (C : Int) (F : Int) := ⟨hlt9, m0, m1⟩
    have hrE := hr9
    have hbE := hb9
    have hVQ : (V : Int) * 256 + (Q : Int) < 1099511627776 := by omega
    by_cases hxg : X = G
    · subst hxg
      have hdc := HD.out
      rw [if_pos (HP2.out.1 rfl), ← HP1.out] at hdc
      have hdz : dsz (p :: r) = 1 + C + F := by unfold dsz; rw [hdc]; rfl
      have HD2 := Lib.hid hdc
      have HZ := Lib.hid hdz
      clear hdc hdz
      go_wp2_with fail
      refine wp_region_held_drew (S := (fun w' => w'.cell? ⟨w1.heap.size, 0, none⟩ = some (.int .i64 (C : Int)) ∧ w'.cell? ⟨w1.heap.size, 1, none⟩ = some (.int .i64 (F : Int)))) (by kernel_rfl) (⟨m0, m1⟩) (fun hHeld => ?_)
      refine wpAnyH_here 0 (v := ?_) rfl (by kernel_rfl) (by kernel_rfl) (by kernel_rfl) (fun _ _ _ h => h) (Or.inl ⟨by rfl, ?_⟩) hHeld ?_
      rotate_left
      · intro w hSw; (try dsimp only at hSw); go_simp; all_goals (with_reducible rfl)
      try simp only [Act.put, List.setIfInBounds_toArray, List.set_cons_zero, List.set_cons_succ]
      refine wpAnyH_here 2 (v := ?_) rfl (by kernel_rfl) (by kernel_rfl) (by kernel_rfl) (fun _ _ _ h => h) (Or.inl ⟨by rfl, ?_⟩) hHeld ?_
      rotate_left
      · intro w hSw; (try dsimp only at hSw); go_simp; all_goals (with_reducible rfl)
      try simp only [Act.put, List.setIfInBounds_toArray, List.set_cons_zero, List.set_cons_succ]
      refine wpAnyH_here 1 (v := ?_) rfl (by kernel_rfl) (by kernel_rfl) (by kernel_rfl) (fun _ _ _ h => h) (Or.inl ⟨by rfl, ?_⟩) hHeld ?_
      rotate_left
      · intro w hSw; (try dsimp only at hSw); go_simp; all_goals (with_reducible rfl)
      try simp only [Act.put, List.setIfInBounds_toArray, List.set_cons_zero, List.set_cons_succ]
      refine wpAnyH_alone 3 rfl (by kernel_rfl) (fun K hK => ?_)
      go_simp
      (go_at_call 14; refine (hs2 _).mono ?_; rintro e W7 ⟨rfl, hb⟩; have hm7 := hmE.drew.keep hb; have hr7 := (show Cel w9.drew w.heap.size 23 #[.int .i64 0, .int .i64 0] from hrE).later hb; have hB7 := hbE.drew.trans (hb.mono hbE.drew.size); have q0 := hr7.cell 0; have q1 := hr7.cell 1; have z0 := hr7.free 0; have z1 := hr7.free 1; simp at q0 q1; clear hb)
      refine hK.out _ _ (hm7.2) (fun hHeld => ?_)
      clear hK K
      try simp only [Act.put, List.setIfInBounds_toArray, List.set_cons_zero, List.set_cons_succ]
      refine wpAnyH_here 4 (v := ?_) rfl (by kernel_rfl) (by kernel_rfl) (by kernel_rfl) (fun _ _ _ h => h) (Or.inl ⟨by rfl, ?_⟩) hHeld ?_
      rotate_left
      · intro w hSw; (try dsimp only at hSw); go_simp; all_goals (with_reducible rfl)
      try simp only [Act.put, List.setIfInBounds_toArray, List.set_cons_zero, List.set_cons_succ]
      refine wpAnyH_alone 5 rfl (by kernel_rfl) (fun K hK => ?_)
      go_simp
      skip
      refine hK.out _ _ ((Fm_apart hm7 hne _ _).2) (fun hHeld => ?_)
      clear hK K
      try simp only [Act.put, List.setIfInBounds_toArray, List.set_cons_zero, List.set_cons_succ]
      refine wpAnyH_here 6 (v := ?_) rfl (by kernel_rfl) (by kernel_rfl) (by kernel_rfl) (fun _ _ _ h => h) (Or.inl ⟨by rfl, ?_⟩) hHeld ?_
      rotate_left
      · intro w hSw; (try dsimp only at hSw); go_simp; all_goals (with_reducible rfl)
      try simp only [Act.put, List.setIfInBounds_toArray, List.set_cons_zero, List.set_cons_succ]
      refine wpAnyH_here 7 (v := ?_) rfl (by kernel_rfl) (by kernel_rfl) (by kernel_rfl) (fun _ _ _ h => h) (Or.inl ⟨by rfl, ?_⟩) hHeld ?_
      rotate_left
      · intro w hSw; (try dsimp only at hSw); go_simp; all_goals (with_reducible rfl)
      try simp only [Act.put, List.setIfInBounds_toArray, List.set_cons_zero, List.set_cons_succ]
      refine wpAnyH_done (by kernel_rfl) ?_ _
      go_wp2
      exact bodyPost_ret (dec_results rfl rfl rfl rfl (Fm_store hr7 (C : Int) (F : Int))) rfl ⟨dOut_fin HD2.out HZ.out (by simp) rfl rfl (by simp) rfl, store_below hB7 (Nat.le_refl _) _ _⟩
    · have hdc := HD.out
      rw [if_neg (fun h => hxg (HP2.out.2 h))] at hdc
      have hdz : dsz (p :: r) = 0 := by unfold dsz; rw [hdc]; rfl
      have x1 : ((X : Int) != (G : Int)) = true := by rw [bne_iff_ne]; omega
      clear hxg
      have c0 := hr9.cell 0
      have c1 := hr9.cell 1
      have f0 := hr9.free 0
      have f1 := hr9.free 1
      simp at c0 c1
      have HD2 := Lib.hid hdc
      have HZ := Lib.hid hdz
      clear hdc hdz
      go_wp2
      exact bodyPost_ret (dec_results rfl rfl rfl rfl (Fm_store hr9 0 0)) rfl ⟨dOut_fin HD2.out HZ.out rfl rfl rfl rfl rfl, store_below hb9 (Nat.le_refl _) _ _⟩

theorem decode_any (A : Option Addr) (l : List Byte) (n c : Nat) (w : World) (hn : Hid (l.length = n)) (hb : Bs w w.heap.size A l) (hlc : n ≤ c) (hcm : c ≤ maxLen) (hL : n < 1000000) :
    Calls Try.prog 17 #[.slice A n c] w fun e w' => e = .returned (dOut (dcd l).2.1 (dcd l).2.2.1 (dcd l).2.2.2 (dsz l) (dcd l).1) ∧ Below w.heap.size w w' := by
  have hn2 : l.length = n := hn
  subst hn2
  cases l with
  | nil => exact decode_empty A c w
  | cons p r =>
    by_cases hp : p.toNat < 16 ∨ 31 < p.toNat
    · have hd := dcd_form (r := r) hp
      have hz : dsz (p :: r) = 0 := by unfold dsz; rw [hd]; rfl
      rw [hd, hz]
      exact decode_form A p r c w hb hp (by simp at hL; omega)
    · obtain ⟨C, hC⟩ : ∃ C, C = (p.toNat - 16) / 4 + 1 := ⟨_, rfl⟩
      obtain ⟨F, hF⟩ : ∃ F, F = p.toNat % 4 := ⟨_, rfl⟩
      by_cases hr : r.length < C + F
      · have hd := dcd_short (r := r) hp hC hF hr
        have hz : dsz (p :: r) = 0 := by unfold dsz; rw [hd]; rfl
        rw [hd, hz]
        exact decode_short A p r c C F w hb hp hC hF hr
      · exact decode_rest A p r c C F w hb hlc hcm hp hC hF (by omega)
end Go.Proofs.Ytboapfkgkehfcaa
