/-
  The walk of the law MarkerFinds.
-/
import Derived.Test.YtahpogmbkkpmdaaLaw13c
namespace Go.Proofs.Ytahpogmbkkpmdaa.Mar
open Go.RowKit Go.Proofs.Ytahpogmbkkpmdaa.Row Lst
open Scr (app app_len app_app conv_at bel_new)

theorem step_no {N K : Nat} {y : Byte} (h : y ≠ 26#8) : step N ⟨0, [], K⟩ y = ⟨0, [], K + 1⟩ ∧ ost N ⟨0, [], K⟩ y = [] := by
  have h' : ¬ (26#8 = y) := fun e => h e.symm
  simp [step, ost, nx, sx, pat, h, h']
/-- a wrapped frame with bytes around it that begin no marker -/
theorem run_finds {N K : Nat} {y : Byte} {fr : List Byte} (h : y ≠ 26#8) (hf : fr.length = N) (hN : 0 < N) :
    run N ⟨0, [], K⟩ (([y, y] ++ (pat ++ app fr)) ++ [y]) = ⟨0, [], K + 3⟩ ∧ out N ⟨0, [], K⟩ (([y, y] ++ (pat ++ app fr)) ++ [y]) = [fr] := by
  have s0 := step_no (N := N) (K := K) h
  have s1 := step_no (N := N) (K := K + 1) h
  have s2 := step_no (N := N) (K := K + 2) h
  obtain ⟨p1, p2⟩ := run_pat N 0 (K + 2) (by omega)
  obtain ⟨q1, q2⟩ := run_whole (N := N) (K + 2) (t := app fr) (by rw [app_len, hf]) hN
  have r1 : run N ⟨0, [], K⟩ [y, y] = ⟨0, [], K + 2⟩ := by
    show step N (step N ⟨0, [], K⟩ y) y = _
    rw [s0.1, s1.1]
  have r2 : out N ⟨0, [], K⟩ [y, y] = [] := by
    show ost N ⟨0, [], K⟩ y ++ (ost N (step N ⟨0, [], K⟩ y) y ++ []) = _
    rw [s0.2, s0.1, s1.2]; rfl
  have e1 : run N ⟨0, [], K⟩ ([y, y] ++ (pat ++ app fr)) = ⟨0, [], K + 2⟩ := by rw [run_append, run_append, r1, p1, q1]
  have e2 : out N ⟨0, [], K⟩ ([y, y] ++ (pat ++ app fr)) = [fr] := by rw [out_append, out_append, r1, r2, p1, p2, q2, app_app]; rfl
  rw [run_snoc, out_snoc, e1, e2, s2.1, s2.2]
  exact ⟨rfl, List.append_nil _⟩

theorem Bx_own {w : World} {g base n c : Nat} {v : Value} {e : TypeId} {A : Option Addr} {l : List Byte} (h : Ow w base e (.slice A n c) l) (hlt : ∀ x ∈ blk g v, x < base) : Bx w g v A l := fun hl => by
  obtain ⟨A', c', he, hb, _⟩ := h.reads
  cases he
  obtain ⟨b, off, rfl, hb2, hc⟩ := hb hl
  have := (h.lt b rfl).1
  exact ⟨b, off, rfl, hb2, (fun hm => by have := hlt b hm; omega), hc⟩

set_option maxRecDepth 100000 in
set_option maxHeartbeats 8000000 in
theorem markerFinds_ok (N : Nat) (hN : 0 < N) (hN2 : N ≤ 1024) (A : Option Addr) (ls : List (List Byte)) (n c : Nat) (y : Byte) (w : World) (hl : Hid (ls.length = n)) (h : LS w w.heap.size A ls) (hfw : fw ls = true) (hnc : n ≤ c) (hcm : c ≤ maxLen) (hy : y ≠ 26#8) :
    Calls Try.prog 5 #[.int .i64 (N : Int), .slice A n c, B8 y] w fun e w' => e = .returned (.bool true) ∧ Below w.heap.size w w' := by
  have hsm : n ≤ 3000 := by have := hfw; unfold fw at this; rw [hl.out] at this; have := of_decide_eq_true this; omega
  have x1 := fun W => newFinder_ok N hN hN2 W
  have x2 := fun W => right_any (N : Int) W
  rw [decide_eq_true (show 1 ≤ (N : Int) ∧ (N : Int) ≤ 1024 by omega)] at x2
  have x3 := few_any ls n c A w hl h hnc hcm
  rw [hfw] at x3
  have ty : ((y.toNat : Int) == 26) = false := beq_f (y := 26#8) hy
  clear hfw hnc hcm
  go_enter Try.func5, Try.ntmps5
  go_wp2_with fail
  refine (x2 w).mono ?_
  rintro e w1' ⟨rfl, rfl⟩
  clear x2
  go_wp2_with fail
  refine x3.mono ?_
  rintro e w1' ⟨rfl, rfl⟩
  clear x3
  go_wp2_with fail
  refine (x1 w).mono ?_
  rintro e w1 ⟨rfl, hw1⟩
  have b1 : Below w.heap.size w w1 := by rw [hw1]; exact bel_new w _
  have f1 : FW w1 w.heap.size (.slice none 0 0) N ⟨0, [], 0⟩ := by rw [hw1]; exact Fw_new w N hN hN2
  clear hw1 x1 ty
  go_wp2_with fail
  go_loopw [8, 9] (fun nv iv wr => ∃ (k K : Nat) (v : Value), iv = .int .i64 (k : Int) ∧ nv = .int .i64 (K : Int) ∧ k ≤ n ∧ K ≤ 3 * k ∧ FW wr w.heap.size v N ⟨0, [], K⟩ ∧ (∀ x ∈ blk w.heap.size v, w.heap.size ≤ x) ∧ Below w.heap.size w wr) (fun _ iv _ => n - (intOf iv).toNat)
  case atStart => exact ⟨0, 0, _, rfl, rfl, Nat.zero_le _, Nat.zero_le _, f1, (fun x hx => by simp [blk, Value.ownBlock] at hx; omega), b1⟩
  case round =>
    obtain ⟨k, K, v, rfl, rfl, hk, hK, hf, hfb, hB⟩ := hrel
    by_cases hkn : k < n
    · obtain ⟨l, hkl⟩ : ∃ l, ls[k]? = some l := ⟨_, List.getElem?_eq_getElem (by rw [hl.out]; exact hkn)⟩
      obtain ⟨b, off, la, lc, rfl, hb, hcell, hdt⟩ := h.at_ hkl
      have c0 := (hB.cell (p := ⟨b, off + k, none⟩) hb).trans hcell
      obtain ⟨M, hM⟩ : ∃ M, l.length = M := ⟨_, rfl⟩
      rw [hM] at hcell c0
      by_cases hMN : M = N
      · subst hMN
        have t1 : ((M : Int) != (M : Int)) = false := by simp
        obtain ⟨z1, z2⟩ := run_finds (K := K) hy hM hN
        obtain ⟨w2, hw2⟩ : ∃ w2, w2 = wr.alloc (.cells #[B8 y, B8 y] 5) := ⟨_, rfl⟩
        have b2 : Below wr.heap.size wr w2 := by rw [hw2]; exact bel_new wr _
        have o2 : Ow w2 wr.heap.size 5 (.slice (some ⟨wr.heap.size, 0, none⟩) 2 2) [y, y] := by rw [hw2]; exact Ow_cel (l := [y, y]) (Cel.new wr _ _) (Nat.le_refl _) (by simp [maxLen])
        have B2 := hB.trans (b2.mono hB.size)
        have c2 : (wr.alloc (.cells #[B8 y, B8 y] 5)).cell? ⟨b, off + k, none⟩ = some (.slice la M lc) := Lib.cell?_alloc_some _ c0
        have x4 := wrap_any la l M lc w2 (Lib.hid hM) ((hdt.below B2).b.more B2.size) (by omega)
        obtain ⟨E, hE⟩ : ∃ E, E = pat ++ app l := ⟨_, rfl⟩
        have hEl : E.length = M + 4 := by rw [hE, List.length_append, app_len, pat_len, hM, Nat.add_comm]
        rw [← hE] at x4 z1 z2
        have HM := Lib.hid hM
        have HEl := Lib.hid hEl
        clear hE hM hEl
        go_wp2_with fail
        rw [← hw2]
        refine x4.mono ?_
        rintro e w3 ⟨v3, rfl, o3, b3⟩
        obtain ⟨A3, c3, rfl, hA3, hn3, _⟩ := o3.reads
        have b23 := b2.trans (b3.mono b2.size)
        have o2' := o2.below b3
        clear x4 hw2 c0 c2 hkl
        go_wp2_with (first
          | (at_builtin; refine wpList_app _ is_bytes rfl (.tmp 42) (.tmp 47) rfl (m := [y, y]) rfl o2' rfl hA3 hn3 (by rw [HEl.out]; simp; omega) b23.size ?_; intro v4 w4 ho4 hg4; have b4 := b23.grown hg4 b23.size o2'.base_le)
          | (at_builtin; refine wpList_app _ is_bytes rfl (.tmp 49) (.tmp 51) rfl (m := [y, y] ++ E) rfl (ho4.alloc _) (l := [y]) rfl (Bs_new1 w4 5 _ _ rfl) (by simp) (by rw [List.length_append, HEl.out]; simp; omega) (by have := b4.size; simp; omega) ?_; intro v5 w5 ho5 hg5; have b5 := (b4.alloc b4.size _).grown hg5 (by have := b4.size; simp; omega) ho4.base_le; obtain ⟨A5, c5, rfl, _⟩ := ho5.reads_len (n := M + 7) (by rw [List.length_append, List.length_append, HEl.out]; simp; omega)))
        have x6 := feed_any (hf.below b5) A5 (([y, y] ++ E) ++ [y]) (M + 7) c5 (Lib.hid (by rw [List.length_append, List.length_append, HEl.out]; simp; omega)) (Bx_own ho5 hf.lt) (by omega) (by simp only; omega)
        rw [z1, z2] at x6
        have t7 : (1 : Int) + 0 = 1 := rfl
        clear o2' o2 o3 hA3 hn3 ho4 hg4 ho5 hg5
        refine x6.mono ?_
        rintro e w6 ⟨R6, v6, E6, rfl, hd6, f6⟩
        have B6 : Below w.heap.size w w6 := (hB.trans (b5.mono hB.size)).trans (hd6.on.below (by have := hB.size; have := b5.size; omega) hfb)
        obtain ⟨A7, c7, rfl, hls, _⟩ := hd6.lo.len (n := 1) rfl
        obtain ⟨b7, off7, a7, c8, rfl, hb7, hc7, hd7⟩ := hls.at_ (i := 0) rfl
        rw [HM.out] at hc7
        simp at hc7
        have hnb : ∀ x ∈ blk w.heap.size v6, w.heap.size ≤ x := fun x hx => by
          rcases hd6.nb x hx with h1 | h1
          · exact hfb x h1
          · have := hB.size; have := b5.size; omega
        have c9 := (B6.cell (p := ⟨b, off + k, none⟩) hb).trans hcell
        have hdt6 := (hdt.below B6).more B6.size
        have e1 : ((str l).toList != (str l).toList) = false := by simp
        clear hd6 hls x6 b5 b4 b23 b2 b3 B2 z1 z2 hcell hdt
        go_wp2_with fail
        refine wp_region_later (by kernel_rfl) (by kernel_rfl) ?_
        have r1 : ∀ p : Later w6, p.W.cell? ⟨b7, off7, none⟩ = some (.slice a7 M c8) := later_cell hc7 hb7
        have r2 : ∀ p : Later w6, p.W.cell? ⟨b, off + k, none⟩ = some (.slice la M lc) := later_cell c9 (Nat.lt_of_lt_of_le hb B6.size)
        have q1 : ∀ p : Later w6, (convert 22 9 (.slice a7 M c8)).run Try.prog p.W = .ok (.string (str l)) p.W := conv_later HM.out hd7.b hd7.n
        have q2 : ∀ p : Later w6, (convert 22 9 (.slice la M lc)).run Try.prog p.W = .ok (.string (str l)) p.W := conv_later HM.out hdt6.b hdt6.n
        clear hc7 c9 hd7 hdt6
        repeat (go_big_quiet_step (fail))
        refine wpQuiet_nil ?_
        rintro _ ⟨⟨w9, b9⟩, rfl⟩
        go_wp2
        go_roundw
        case rel => exact ⟨k + 1, K + 3, v6, by go_num, by go_num, hkn, by omega, f6.below b9, hnb, B6.trans (b9.mono B6.size)⟩
        case measure => simp [intOf]; omega
      · have t1 : ((M : Int) != (N : Int)) = true := by simp; omega
        clear hcell hdt hkl hM
        go_wp2
        go_roundw
        case rel => exact ⟨k + 1, K, v, by go_num, rfl, hkn, by omega, hf, hfb, hB⟩
        case measure => simp [intOf]; omega
    · obtain rfl : k = n := by omega
      have x9 := skipped_any hf
      simp only at x9
      have t1 : ((K : Int) == (K : Int)) = true := by simp
      have hal := alive_any wr
      clear hkn
      go_wp2_with fail
      refine x9.mono ?_
      rintro e w9 ⟨rfl, rfl⟩
      go_wp2_with fail
      refine hal.mono ?_
      rintro e w6 ⟨rfl, b6⟩
      go_wp2
      go_ret
      exact ⟨rfl, hB.trans (b6.mono hB.size)⟩

set_option maxRecDepth 100000 in
set_option maxHeartbeats 2000000 in
theorem markerFinds_walk (z : Int) (A : Option Addr) (ls : List (List Byte)) (n c : Nat) (y : Byte) (w : World) (hl : Hid (ls.length = n)) (h : LS w w.heap.size A ls) (hnc : n ≤ c) (hcm : c ≤ maxLen) :
    Calls Try.prog 5 #[.int .i64 z, .slice A n c, B8 y] w fun e w' => e = .returned (.bool true) ∧ Below w.heap.size w w' := by
  have x2 := right_any z w
  by_cases hz : 1 ≤ z ∧ z ≤ 1024
  · have x3 := few_any ls n c A w hl h hnc hcm
    cases hfw : fw ls with
    | true =>
      by_cases hy : y = 26#8
      · have ty : ((y.toNat : Int) == 26) = true := beq_t (y := 26#8) hy
        rw [decide_eq_true hz] at x2
        rw [hfw] at x3
        clear hfw hnc hcm hz hy
        go_enter Try.func5, Try.ntmps5
        go_wp2_with fail
        refine x2.mono ?_
        rintro e w1 ⟨rfl, rfl⟩
        go_wp2_with fail
        refine x3.mono ?_
        rintro e w1 ⟨rfl, rfl⟩
        go_wp2_with fail
        refine (alive_any w).mono ?_
        rintro e w6 ⟨rfl, b6⟩
        go_wp2
        go_ret
        exact ⟨rfl, b6⟩
      · obtain ⟨N, rfl⟩ : ∃ N : Nat, z = (N : Int) := ⟨z.toNat, by omega⟩
        exact markerFinds_ok N (by omega) (by omega) A ls n c y w hl h hfw hnc hcm hy
    | false =>
      rw [decide_eq_true hz] at x2
      rw [hfw] at x3
      clear hfw hnc hcm hz
      go_enter Try.func5, Try.ntmps5
      go_wp2_with fail
      refine x2.mono ?_
      rintro e w1 ⟨rfl, rfl⟩
      go_wp2_with fail
      refine x3.mono ?_
      rintro e w1 ⟨rfl, rfl⟩
      go_wp2_with fail
      refine (alive_any w).mono ?_
      rintro e w6 ⟨rfl, b6⟩
      go_wp2
      go_ret
      exact ⟨rfl, b6⟩
  · rw [decide_eq_false hz] at x2
    clear hnc hcm hz
    go_enter Try.func5, Try.ntmps5
    go_wp2_with fail
    refine x2.mono ?_
    rintro e w1 ⟨rfl, rfl⟩
    go_wp2_with fail
    refine (alive_any w).mono ?_
    rintro e w6 ⟨rfl, b6⟩
    go_wp2
    go_ret
    exact ⟨rfl, b6⟩
end Go.Proofs.Ytahpogmbkkpmdaa.Mar
