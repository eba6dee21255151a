/-
  Package marker: search.
-/
import Derived.Test.YtahpogmbkkpmdaaMarW0
namespace Go.Proofs.Ytahpogmbkkpmdaa.Mar
open Go.RowKit Go.Proofs.Ytahpogmbkkpmdaa.Row Lst

theorem ne8 {x y : Byte} (h : x ≠ y) : ¬ (x.toNat : Int) = (y.toNat : Int) := fun e => h (BitVec.eq_of_toNat_eq (by omega))
theorem bne_t {x y : Byte} (h : x ≠ y) : ((x.toNat : Int) != (y.toNat : Int)) = true := by simpa using ne8 h
theorem bne_f {x y : Byte} (h : x = y) : ((x.toNat : Int) != (y.toNat : Int)) = false := by simp [h]
theorem beq_t {x y : Byte} (h : x = y) : ((x.toNat : Int) == (y.toNat : Int)) = true := by simp [h]
theorem beq_f {x y : Byte} (h : x ≠ y) : ((x.toNat : Int) == (y.toNat : Int)) = false := by simpa using ne8 h

theorem pat_index : ∀ m : Nat, m < 4 → ∃ p, pat[m]? = some p ∧ ∀ w, (Instr.index 9 (.string { data := #[26, 207, 252, 29] }) (.int .i64 (m : Int))).run Try.prog w = .ok (B8 p) w
  | 0, _ => ⟨26#8, rfl, fun w => by kernel_rfl⟩
  | 1, _ => ⟨207#8, rfl, fun w => by kernel_rfl⟩
  | 2, _ => ⟨252#8, rfl, fun w => by kernel_rfl⟩
  | 3, _ => ⟨29#8, rfl, fun w => by kernel_rfl⟩
  | m + 4, h => absurd h (by omega)

section
variable {w w' : World} {g N : Nat} {v : Value} {s : FS}
theorem FW.of (h : FW w g v N s) {s' : FS} (hc : Cel w' g 42 #[.int .i64 (N : Int), .int .i64 (s'.m : Int), v, .int .i64 (s'.sk : Int)]) (k : Only [g] w w') (hf : s'.fr = s.fr) (hw : Wf N s') : FW w' g v N s' :=
  ⟨hc, by rw [hf]; exact h.o.only k (fun i hi hm => h.apart (by rw [hi]; simpa using hm)), h.n, h.n2, hw⟩
theorem put1 {N m sk : Int} (h : Cel w g 42 #[.int .i64 N, .int .i64 m, v, .int .i64 sk]) (x : Int) : Cel (w.setCell ⟨g, 1, none⟩ (.int .i64 x)) g 42 #[.int .i64 N, .int .i64 x, v, .int .i64 sk] := by
  simpa using h.put 1 (.int .i64 x)
theorem put3 {N m sk : Int} (h : Cel w g 42 #[.int .i64 N, .int .i64 m, v, .int .i64 sk]) (x : Int) : Cel (w.setCell ⟨g, 3, none⟩ (.int .i64 x)) g 42 #[.int .i64 N, .int .i64 m, v, .int .i64 x] := by
  simpa using h.put 3 (.int .i64 x)
theorem put2 {N m sk : Int} (h : Cel w g 42 #[.int .i64 N, .int .i64 m, v, .int .i64 sk]) (x : Value) : Cel (w.setCell ⟨g, 2, none⟩ x) g 42 #[.int .i64 N, .int .i64 m, x, .int .i64 sk] := by
  simpa using h.put 2 x
theorem only_put (h : Only [g] w w') (i : Nat) (u : Value) : Only [g] w (w'.setCell ⟨g, i, none⟩ u) := h.put (.inl (by simp)) u

set_option maxHeartbeats 2000000 in
theorem search_any (h : FW w g v N s) (hm : s.m < 4) (x : Byte) (hb : s.sk ≤ 1000000000000) :
    Calls Try.prog 22 #[.pointer (some ⟨g, 0, none⟩), B8 x] w fun e w' => e = .returned (.tuple #[]) ∧ FW w' g v N (step N s x) ∧ Only [g] w w' := by
  obtain ⟨p, hp, hix⟩ := pat_index s.m hm
  obtain ⟨p0, hp0, hix0⟩ := pat_index 0 (by omega)
  obtain rfl : p0 = 26#8 := by injection hp0 with h; exact h.symm
  have c1 := h.c.cell 1
  have f1 := h.c.free 1
  have c3 := h.c.cell 3
  have f3 := h.c.free 3
  simp at c1 c3
  have hwf := h.f.step h.n x
  obtain ⟨T, hT⟩ : ∃ T, T = step N s x := ⟨_, rfl⟩
  have hT0 : T = ⟨nx s.m x, s.fr, s.sk + sx s.m x⟩ := by rw [hT]; unfold step; rw [if_pos hm]
  rw [← hT] at hwf ⊢
  by_cases hx : x = p
  · have e1 : T.m = s.m + 1 := by rw [hT0]; simp [nx, hp, hx]
    have e2 : T.sk = s.sk := by rw [hT0]; simp [sx, hp, hx]
    have e3 : T.fr = s.fr := by rw [hT0]
    have t1 : ((x.toNat : Int) != (p.toNat : Int)) = false := bne_f hx
    have t2 : ((x.toNat : Int) == (p.toNat : Int)) = true := beq_t hx
    have hfin : FW (w.setCell ⟨g, 1, none⟩ (.int .i64 ((s.m : Int) + 1))) g v N T := h.of (by rw [e1, e2]; exact put1 h.c _) (only_put (Only.refl _ _) _ _) e3 hwf
    have hon := only_put (Only.refl [g] w) 1 (.int .i64 ((s.m : Int) + 1))
    obtain ⟨M, hM⟩ : ∃ M, s.m = M := ⟨_, rfl⟩
    rw [hM] at hix c1 hm hfin hon
    clear h hp hM hx c3 f3 e1 e2 e3 hT hT0
    go_enter Try.func22, Try.ntmps22
    go_wp2
    go_end0
    exact ⟨rfl, hfin, hon⟩
  · have t1 := bne_t hx
    have hx' : ¬ p = x := fun e => hx e.symm
    by_cases h26 : x = 26#8
    · have t2 : ((x.toNat : Int) == ((({ data := #[26, 207, 252, 29] } : ByteArray)[0]'(by decide)).toNat : Int)) = true := beq_t h26
      have e1 : T.m = 1 := by rw [hT0]; simp [nx, hp, hx', h26]; intro e; exact absurd (e.trans h26.symm) hx'
      have e2 : T.sk = s.sk + s.m := by rw [hT0]; simp [sx, hp, hx', h26]; intro e; exact absurd (e.trans h26.symm) hx'
      have e3 : T.fr = s.fr := by rw [hT0]
      have hfin : ∀ n, FW ((((w.setCell ⟨g, 3, none⟩ (.int .i64 ((s.sk : Int) + (s.m : Int)))).setCell ⟨g, 1, none⟩ (.int .i64 0)).setCell ⟨g, 1, none⟩ (.int .i64 1)).drewN n) g v N T := fun n =>
        (h.of (by rw [e1, e2]; exact put1 (put1 (put3 h.c _) _) _) (only_put (only_put (only_put (Only.refl _ _) _ _) _ _) _ _) e3 hwf).draws n
      have hon : ∀ n, Only [g] w ((((w.setCell ⟨g, 3, none⟩ (.int .i64 ((s.sk : Int) + (s.m : Int)))).setCell ⟨g, 1, none⟩ (.int .i64 0)).setCell ⟨g, 1, none⟩ (.int .i64 1)).drewN n) := fun n => (only_put (only_put (only_put (Only.refl _ _) _ _) _ _) _ _).draws n
      obtain ⟨M, hM⟩ : ∃ M, s.m = M := ⟨_, rfl⟩
      obtain ⟨K, hK⟩ : ∃ K, s.sk = K := ⟨_, rfl⟩
      rw [hM] at hix c1 hm
      rw [hK] at c3 hb
      simp only [hM, hK] at hfin hon
      have H26 := Lib.hid h26
      have HF := Lib.hid (And.intro hfin hon)
      clear h hp hM hK hx hx' h26 e1 e2 e3 hT hT0 hfin hon
      go_enter Try.func22, Try.ntmps22
      go_wp2
      go_region
      all_goals
        go_wp2
        go_end0
        exact ⟨rfl, HF.out.1 _, HF.out.2 _⟩
    · have t2 : ((x.toNat : Int) == ((({ data := #[26, 207, 252, 29] } : ByteArray)[0]'(by decide)).toNat : Int)) = false := beq_f h26
      have e1 : T.m = 0 := by rw [hT0]; simp [nx, hp, hx', h26]
      have e2 : T.sk = s.sk + s.m + 1 := by rw [hT0]; simp [sx, hp, hx', h26]; omega
      have e3 : T.fr = s.fr := by rw [hT0]
      have hfin : ∀ n, FW ((((w.setCell ⟨g, 3, none⟩ (.int .i64 ((s.sk : Int) + (s.m : Int)))).setCell ⟨g, 1, none⟩ (.int .i64 0)).setCell ⟨g, 3, none⟩ (.int .i64 ((s.sk : Int) + (s.m : Int) + 1))).drewN n) g v N T := fun n =>
        (h.of (by rw [e1, e2]; exact put3 (put1 (put3 h.c _) _) _) (only_put (only_put (only_put (Only.refl _ _) _ _) _ _) _ _) e3 hwf).draws n
      have hon : ∀ n, Only [g] w ((((w.setCell ⟨g, 3, none⟩ (.int .i64 ((s.sk : Int) + (s.m : Int)))).setCell ⟨g, 1, none⟩ (.int .i64 0)).setCell ⟨g, 3, none⟩ (.int .i64 ((s.sk : Int) + (s.m : Int) + 1))).drewN n) := fun n => (only_put (only_put (only_put (Only.refl _ _) _ _) _ _) _ _).draws n
      obtain ⟨M, hM⟩ : ∃ M, s.m = M := ⟨_, rfl⟩
      obtain ⟨K, hK⟩ : ∃ K, s.sk = K := ⟨_, rfl⟩
      rw [hM] at hix c1 hm
      rw [hK] at c3 hb
      simp only [hM, hK] at hfin hon
      have HF := Lib.hid (And.intro hfin hon)
      clear h hp hM hK hx hx' h26 e1 e2 e3 hT hT0 hfin hon
      go_enter Try.func22, Try.ntmps22
      go_wp2
      go_region
      all_goals
        go_wp2
        go_end0
        exact ⟨rfl, HF.out.1 _, HF.out.2 _⟩
end
end Go.Proofs.Ytahpogmbkkpmdaa.Mar
