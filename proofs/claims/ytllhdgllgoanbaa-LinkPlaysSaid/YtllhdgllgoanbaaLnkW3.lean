/-
  Package link: damaged.
-/
import Derived.Test.YtllhdgllgoanbaaLnkW2
import Derived.Test.YtllhdgllgoanbaaClone
import Derived.Deep.RegionLaw
namespace Go.Proofs.Ytllhdgllgoanbaa.Lnk
open Go.RowKit Go.Proofs.Ytllhdgllgoanbaa.Row
open Rng (R)

theorem Ow_form {w : World} {base n : Nat} {e : TypeId} {v : Value} {l : List Byte} (h : Ow w base e v l) (hl : l.length = n) (h0 : 0 < n) : ∃ gr c, v = .slice (some ⟨gr, 0, none⟩) n c ∧ base ≤ gr ∧ gr < w.heap.size ∧ n ≤ c ∧ c ≤ maxLen := by
  obtain ⟨m, rfl⟩ : ∃ m, n = m + 1 := ⟨n - 1, by omega⟩
  obtain ⟨gr, c, h1, h2, h3, h4, h5, _⟩ := h.form_len hl
  exact ⟨gr, c, h1, h2, h3, h4, h5⟩
theorem Ow_at {w : World} {base n g c : Nat} {e : TypeId} {l : List Byte} (h : Ow w base e (.slice (some ⟨g, 0, none⟩) n c) l) (hl : l.length = n) {i : Nat} {x : Byte} (hx : l[i]? = some x) :
    w.cell? ⟨g, i, none⟩ = some (B8 x) ∧ w.frozen? ⟨g, i, none⟩ = false := by
  have hi := (List.getElem?_eq_some_iff.1 hx).1
  obtain ⟨m, rfl⟩ : ∃ m, n = m + 1 := ⟨n - 1, by omega⟩
  obtain ⟨gr, c', h1, h2, h3, h4, h5, h6, h7⟩ := h.form_len hl
  injection h1 with h1
  injection h1 with h1
  injection h1 with h1
  subst h1
  exact ⟨h6 i x hx, h7 i⟩

section
variable {c : Cf} {Ao Al Af : Option Addr} {no co nl cl nf cf base g : Nat} {w : World} {v : Value} {ts : List Tq} {s : LS}
set_option maxHeartbeats 4000000 in
theorem dmg_any (h : LC w base g v ts c s Ao no co Al nl cl Af nf cf) (idx : Int) (a : Option Addr) (b : List Byte) (n k : Nat) (hl : Hid (b.length = n)) (hb : Bs w w.heap.size a b) (hn : a = none → k = 0) (hm : n ≤ 1000000) (hf : nf ≤ 1000000) :
    Calls Try.prog 28 #[.pointer (some ⟨g, 0, none⟩), .slice a n k, I idx] w fun e w' => ∃ v', e = .returned v' ∧ Ow w' w.heap.size 5 v' (dmg c.fl idx b) ∧ Below w.heap.size w w' := by
  have hcl := clone_any a b n k w hl hb hn (by omega)
  obtain ⟨D, hD⟩ : ∃ D, D = dmg c.fl idx b := ⟨_, rfl⟩
  rw [← hD]
  rcases Nat.eq_zero_or_pos n with h0 | h0
  · subst h0
    rw [dmg_0 hl.out] at hD
    subst hD
    clear hb hn
    go_enter Try.func28, Try.ntmps28
    go_wp2_with fail
    refine hcl.mono ?_
    rintro e w1 ⟨v1, rfl, o1, b1⟩
    obtain ⟨A1, c1, rfl, _⟩ := o1.reads_len hl.out
    go_wp2
    go_ret
    exact ⟨_, rfl, o1, b1⟩
  · have hl0 := hl.out
    rw [dmg_1 (by omega)] at hD
    have HD := Lib.hid hD
    have HF := Lib.hid h.ch.f.len
    have HR := h.ch.cg.f.r
    have HP := Lib.hid (fun (x : R) (hx : x ∈ c.fl) => Cf.ok_fl h.ok hx)
    have c4 := h.cel.cell 4
    simp at c4
    have hg := h.cel.lt
    obtain ⟨fl, hfl⟩ : ∃ fl, fl = c.fl := ⟨_, rfl⟩
    rw [← hfl] at HD HF HR HP
    clear hfl h hD hl0 hb hn
    have t0 : ((n : Int) == 0) = false := by simp; omega
    have hn8a : (0 : Int) < 8 * (n : Int) := by omega
    go_enter Try.func28, Try.ntmps28
    go_wp2_with fail
    refine hcl.mono ?_
    rintro e w1 ⟨v1, rfl, o1, b1⟩
    obtain ⟨gr, cp, rfl, hgr, hgr2, _, _⟩ := Ow_form o1 hl.out h0
    have d4 : w1.cell? ⟨g, 4, none⟩ = some (.slice Af nf cf) := (b1.cell (p := ⟨g, 4, none⟩) hg).trans c4
    clear c4 hcl
    go_wp2_with fail
    go_loopw [9, 10, 23] (fun _ _ iv wr => ∃ k : Nat, iv = .int .i64 (k : Int) ∧ k ≤ nf ∧ Ow wr w.heap.size 5 (.slice (some ⟨gr, 0, none⟩) n cp) (flk fl idx b k) ∧ Below w.heap.size w wr) (fun _ _ iv _ => nf - (intOf iv).toNat)
    case atStart => exact ⟨0, rfl, Nat.zero_le _, o1, b1⟩
    case round =>
      obtain ⟨k, rfl, hk, ho, hB⟩ := hrel
      clear o1 b1 d4
      by_cases hkn : k < nf
      · have hkl : k < fl.length := by rw [HF.out]; exact hkn
        have hx := List.getElem?_eq_getElem hkl
        have HS := Lib.hid (flk_s (idx := idx) (b := b) hx)
        obtain ⟨bf, off, rfl, hbf, e0, e1⟩ := r_at (HR.below hB) hkl
        have hp := HP.out _ (List.getElem_mem hkl)
        clear hx HR
        obtain ⟨Y, hY⟩ : ∃ Y, Y = flk fl idx b k := ⟨_, rfl⟩
        have hYl : Y.length = n := by rw [hY, flk_len]; exact hl.out
        rw [← hY] at ho HS
        generalize fl[k] = f at e0 e1 hp HS
        clear hkl hY
        obtain ⟨fi, fbit⟩ := f
        dsimp only at e0 e1 hp
        have hfree := fun i x hi => (Ow_at ho hYl (i := i) (x := x) hi)
        have hne : gr ≠ wr.heap.size := by have := hB.size; have := (ho.lt gr rfl).2; omega
        have hsz := hB.size
        by_cases hq : fi = idx
        · subst hq
          obtain ⟨F, rfl⟩ := Int.eq_ofNat_of_zero_le hp.2
          obtain ⟨K, hK⟩ : ∃ K, K = F % (8 * n) := ⟨_, rfl⟩
          have hK8 : K < 8 * n := by rw [hK]; exact Nat.mod_lt _ (by omega)
          obtain ⟨J1, hJ1⟩ : ∃ J1, J1 = K / 8 := ⟨_, rfl⟩
          obtain ⟨J, hJ⟩ : ∃ J, J = K % 8 := ⟨_, rfl⟩
          have hJ8 : J < 8 := by omega
          have hJn : J1 < n := by omega
          obtain ⟨y, hy⟩ : ∃ y, Y[J1]? = some y := ⟨_, List.getElem?_eq_getElem (by omega)⟩
          have hst : flk fl fi b (k + 1) = Y.set J1 (y ^^^ mk J) := by
            rw [HS.out]
            unfold fl1
            simp only [if_pos, Int.toNat_natCast]
            rw [hYl, ← hK, fb_at (x := y) (by rw [← hJ1]; exact hy), ← hJ1, ← hJ]
          have hx := xor_p y hJ8
          obtain ⟨Z, hZ⟩ : ∃ Z, Z = y ^^^ mk J := ⟨_, rfl⟩
          rw [← hZ] at hx hst
          have t1 : (F : Int).tmod (8 * (n : Int)) = (K : Int) := by rw [hK, Int.tmod_eq_emod_of_nonneg (by omega)]; simp
          have t2 : (F : Int) % (8 * (n : Int)) = (K : Int) := by rw [hK]; simp
          have t3 : (K : Int) / 8 = (J1 : Int) := by omega
          have t4 : (K : Int).tdiv 8 = (J1 : Int) := by rw [Int.tdiv_eq_ediv_of_nonneg (by omega)]; omega
          have t5 : (K : Int) % 8 = (J : Int) := by omega
          have t6 : (K : Int).tmod 8 = (J : Int) := by rw [Int.tmod_eq_emod_of_nonneg (by omega)]; omega
          have t7 : (J1 : Int) < (n : Int) := by omega
          have t8 : ¬ 8 * (n : Int) = 0 := by omega
          obtain ⟨q1, q2⟩ := hfree J1 y hy
          have p1 : (wr.alloc (.cells #[I fi, I (F : Int)] 57)).cell? ⟨gr, J1, none⟩ = some (B8 y) := ((bel_new wr _).cell (p := ⟨gr, J1, none⟩) (ho.lt gr rfl).2).trans q1
          have p2 := Ow_at (ho.below (bel_new wr (.cells #[I fi, I (F : Int)] 57))) hYl hy
          have hnew := (ho.below (bel_new wr (.cells #[I fi, I (F : Int)] 57))).set_ (gr := gr) (i := J1) rfl Z
          rw [← hst] at hnew
          have hB2 : Below w.heap.size w ((wr.alloc (.cells #[I fi, I (F : Int)] 57)).setCell ⟨gr, J1, none⟩ (B8 Z)) :=
            (hB.alloc hsz _).trans (((Only.refl [gr] _).put (.inl (by simp)) _).below (by have := hB.size; simp; omega) (by simpa using hgr))
          have HH := Lib.hid (And.intro hnew hB2)
          obtain ⟨r1, r2⟩ := p2
          clear hfree p1 q1 q2 hnew hB2 hst HS hy hK hJ1 hJ hp ho hB hYl hZ hK8
          go_wp2_with fail
          go_region
          go_wp2
          go_roundw
          case rel => exact ⟨k + 1, by go_num, hkn, HH.out.1.drew, HH.out.2.trans (drewN_below _ 1)⟩
          case measure => simp [intOf]; omega
        · have hst : flk fl idx b (k + 1) = Y := by
            rw [HS.out]
            exact if_neg hq
          rw [← hst] at ho
          have t1 : (fi == idx) = false := by simpa using hq
          have HH := Lib.hid (And.intro (ho.below (bel_new wr (.cells #[I fi, I fbit] 57))) (hB.alloc hsz (.cells #[I fi, I fbit] 57)))
          clear hfree hst HS hp ho hB hYl hq
          go_wp2
          go_roundw
          case rel => exact ⟨k + 1, by go_num, hkn, HH.out.1, HH.out.2⟩
          case measure => simp [intOf]; omega
      · obtain rfl : k = nf := by omega
        have hfin : D = flk fl idx b k := by rw [HD.out, HF.out]
        rw [← hfin] at ho
        clear hfin HR
        go_wp2
        go_ret
        exact ⟨_, rfl, ho, hB⟩
end
end Go.Proofs.Ytllhdgllgoanbaa.Lnk
