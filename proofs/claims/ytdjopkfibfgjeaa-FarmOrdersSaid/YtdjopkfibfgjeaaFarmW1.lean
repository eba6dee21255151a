/-
  Package farm: accepts, obey, judge, Take, Report, Clone.
-/
import Derived.Test.YtdjopkfibfgjeaaFarmW0
import Derived.Test.YtdjopkfibfgjeaaRd
namespace Go.Proofs.Ytdjopkfibfgjeaa.Far
open Go.RowKit
open Pac (bel_new Cel.later)
open Tcf (Fr dir tvalid_any tdirective_any)

/-- a slice of bytes leads nowhere into a receiving end -/
theorem FC.keeps {w w' : World} {g n c : Nat} {K W H bc nx : Int} {lk wt rt : Bool} {a : Option Addr} {l : List Byte} (h : FC w g K W H lk wt rt bc nx) (hd : Rd w a l n c) (k : Only [g] w w') : Rd w' a l n c := by
  refine ⟨hd.len, fun hl => ?_, hd.nil, hd.le, hd.max⟩
  obtain ⟨b, off, e, hlt, hc⟩ := hd.bs hl
  refine ⟨b, off, e, Nat.lt_of_lt_of_le hlt k.size, fun i x hx => ?_⟩
  have h1 := hc i x hx
  have hb : b ≠ g := by
    rintro rfl
    have h2 := Cel.cell (t := 53) h (off + i)
    rw [h1] at h2
    have hlt8 := (Array.getElem?_eq_some_iff.1 h2.symm).1
    simp at hlt8
    rcases (show off + i = 0 ∨ off + i = 1 ∨ off + i = 2 ∨ off + i = 3 ∨ off + i = 4 ∨ off + i = 5 ∨ off + i = 6 ∨ off + i = 7 by omega) with h3 | h3 | h3 | h3 | h3 | h3 | h3 | h3 <;> (rw [h3] at h2; simp at h2)
  have h2 := k.block b hlt (by simpa using hb)
  unfold World.cell? at h1 ⊢
  simp only at h1 ⊢
  rw [h2]
  exact h1

set_option maxHeartbeats 4000000 in
theorem accepts_any (byp con : Bool) (cr ch sq : Int) (a : Option Addr) (l : List Byte) (n c : Nat) (w : World) (g : Nat) (K H W : Int) (s : St) (h : FW w g K H W s) (hl : Hid (l.length = n)) (hm : n ≤ maxLen) :
    Calls Try.prog 18 #[.pointer (some ⟨g, 0, none⟩), .agg #[.bool byp, .bool con, .int .i64 cr, .int .i64 ch, .int .i64 sq, .slice a n c]] w fun e w' => e = .returned (.bool (mine K H ⟨byp, con, cr, ch, sq, l⟩)) ∧ Below w.heap.size w w' := by
  have hv := fun W => tvalid_any byp con cr ch sq a l n c W hl hm
  obtain ⟨w1, hw1⟩ : ∃ w1, w1 = w.alloc (.cells #[.bool byp, .bool con, .int .i64 cr, .int .i64 ch, .int .i64 sq, .slice a n c] 32) := ⟨_, rfl⟩
  have b1 : Below w.heap.size w w1 := by rw [hw1]; exact bel_new _ _
  have p1 : Cel w1 w.heap.size 32 #[.bool byp, .bool con, .int .i64 cr, .int .i64 ch, .int .i64 sq, .slice a n c] := by rw [hw1]; exact Cel.new _ _ _
  have q1 := h.cel.below b1
  have m0 := p1.cell 0
  have m1 := p1.cell 1
  have m2 := p1.cell 2
  have m3 := p1.cell 3
  have m4 := p1.cell 4
  have m5 := p1.cell 5
  simp at m0 m1 m2 m3 m4 m5
  have z0 := q1.c0
  have z2 := q1.c2
  have hlt := p1.lt
  have hgt := q1.lt
  obtain ⟨V, hV⟩ : ∃ V, V = Fr.ok ⟨byp, con, cr, ch, sq, l⟩ := ⟨_, rfl⟩
  rw [← hV] at hv
  have HV := Lib.hid hV
  have hM : mine K H ⟨byp, con, cr, ch, sq, l⟩ = (V && cr == K && ch == H) := by rw [hV]; rfl
  rw [hM]
  clear hM hV p1 q1 h hl hm
  cases V with
  | false =>
    go_enter Try.func18, Try.ntmps18
    go_wp2_with fail
    rw [← hw1]
    clear hw1
    refine wp_region_later (by kernel_rfl) (by kernel_rfl) ?_
    have n0 : ∀ p : Later w1, p.W.cell? ⟨w.heap.size, 0, none⟩ = some (.bool byp) := later_cell m0 hlt
    have n1 : ∀ p : Later w1, p.W.cell? ⟨w.heap.size, 1, none⟩ = some (.bool con) := later_cell m1 hlt
    have n2 : ∀ p : Later w1, p.W.cell? ⟨w.heap.size, 2, none⟩ = some (.int .i64 cr) := later_cell m2 hlt
    have n3 : ∀ p : Later w1, p.W.cell? ⟨w.heap.size, 3, none⟩ = some (.int .i64 ch) := later_cell m3 hlt
    have n4 : ∀ p : Later w1, p.W.cell? ⟨w.heap.size, 4, none⟩ = some (.int .i64 sq) := later_cell m4 hlt
    have n5 : ∀ p : Later w1, p.W.cell? ⟨w.heap.size, 5, none⟩ = some (.slice a n c) := later_cell m5 hlt
    have y0 : ∀ p : Later w1, p.W.cell? ⟨g, 0, none⟩ = some (.int .i64 K) := later_cell z0 hgt
    have y2 : ∀ p : Later w1, p.W.cell? ⟨g, 2, none⟩ = some (.int .i64 H) := later_cell z2 hgt
    clear m0 m1 m2 m3 m4 m5 z0 z2
    repeat (go_big_quiet_step ((go_at_call 24; exact later_of (hv _))))
    refine wpQuiet_nil ?_
    rintro _ ⟨⟨w5, hbel5⟩, rfl⟩
    go_wp2
    go_ret
    exact ⟨rfl, b1.trans (hbel5.mono b1.size)⟩
  | true =>
    by_cases h1 : cr = K
    · have t1 : (cr == K) = true := by simpa using h1
      rw [t1]
      clear h1
      by_cases h2 : ch = H
      · have t2 : (ch == H) = true := by simpa using h2
        rw [t2]
        clear h2
        go_enter Try.func18, Try.ntmps18
        go_wp2_with fail
        rw [← hw1]
        clear hw1
        refine wp_region_later (by kernel_rfl) (by kernel_rfl) ?_
        have n0 : ∀ p : Later w1, p.W.cell? ⟨w.heap.size, 0, none⟩ = some (.bool byp) := later_cell m0 hlt
        have n1 : ∀ p : Later w1, p.W.cell? ⟨w.heap.size, 1, none⟩ = some (.bool con) := later_cell m1 hlt
        have n2 : ∀ p : Later w1, p.W.cell? ⟨w.heap.size, 2, none⟩ = some (.int .i64 cr) := later_cell m2 hlt
        have n3 : ∀ p : Later w1, p.W.cell? ⟨w.heap.size, 3, none⟩ = some (.int .i64 ch) := later_cell m3 hlt
        have n4 : ∀ p : Later w1, p.W.cell? ⟨w.heap.size, 4, none⟩ = some (.int .i64 sq) := later_cell m4 hlt
        have n5 : ∀ p : Later w1, p.W.cell? ⟨w.heap.size, 5, none⟩ = some (.slice a n c) := later_cell m5 hlt
        have y0 : ∀ p : Later w1, p.W.cell? ⟨g, 0, none⟩ = some (.int .i64 K) := later_cell z0 hgt
        have y2 : ∀ p : Later w1, p.W.cell? ⟨g, 2, none⟩ = some (.int .i64 H) := later_cell z2 hgt
        clear m0 m1 m2 m3 m4 m5 z0 z2
        repeat (go_big_quiet_step ((go_at_call 24; exact later_of (hv _))))
        refine wpQuiet_nil ?_
        rintro _ ⟨⟨w5, hbel5⟩, rfl⟩
        go_wp2
        go_ret
        exact ⟨rfl, b1.trans (hbel5.mono b1.size)⟩
      · have t2 : (ch == H) = false := by simpa using h2
        rw [t2]
        clear h2
        go_enter Try.func18, Try.ntmps18
        go_wp2_with fail
        rw [← hw1]
        clear hw1
        refine wp_region_later (by kernel_rfl) (by kernel_rfl) ?_
        have n0 : ∀ p : Later w1, p.W.cell? ⟨w.heap.size, 0, none⟩ = some (.bool byp) := later_cell m0 hlt
        have n1 : ∀ p : Later w1, p.W.cell? ⟨w.heap.size, 1, none⟩ = some (.bool con) := later_cell m1 hlt
        have n2 : ∀ p : Later w1, p.W.cell? ⟨w.heap.size, 2, none⟩ = some (.int .i64 cr) := later_cell m2 hlt
        have n3 : ∀ p : Later w1, p.W.cell? ⟨w.heap.size, 3, none⟩ = some (.int .i64 ch) := later_cell m3 hlt
        have n4 : ∀ p : Later w1, p.W.cell? ⟨w.heap.size, 4, none⟩ = some (.int .i64 sq) := later_cell m4 hlt
        have n5 : ∀ p : Later w1, p.W.cell? ⟨w.heap.size, 5, none⟩ = some (.slice a n c) := later_cell m5 hlt
        have y0 : ∀ p : Later w1, p.W.cell? ⟨g, 0, none⟩ = some (.int .i64 K) := later_cell z0 hgt
        have y2 : ∀ p : Later w1, p.W.cell? ⟨g, 2, none⟩ = some (.int .i64 H) := later_cell z2 hgt
        clear m0 m1 m2 m3 m4 m5 z0 z2
        repeat (go_big_quiet_step ((go_at_call 24; exact later_of (hv _))))
        refine wpQuiet_nil ?_
        rintro _ ⟨⟨w5, hbel5⟩, rfl⟩
        go_wp2
        go_ret
        exact ⟨rfl, b1.trans (hbel5.mono b1.size)⟩
    · have t1 : (cr == K) = false := by simpa using h1
      rw [t1]
      clear h1
      go_enter Try.func18, Try.ntmps18
      go_wp2_with fail
      rw [← hw1]
      clear hw1
      refine wp_region_later (by kernel_rfl) (by kernel_rfl) ?_
      have n0 : ∀ p : Later w1, p.W.cell? ⟨w.heap.size, 0, none⟩ = some (.bool byp) := later_cell m0 hlt
      have n1 : ∀ p : Later w1, p.W.cell? ⟨w.heap.size, 1, none⟩ = some (.bool con) := later_cell m1 hlt
      have n2 : ∀ p : Later w1, p.W.cell? ⟨w.heap.size, 2, none⟩ = some (.int .i64 cr) := later_cell m2 hlt
      have n3 : ∀ p : Later w1, p.W.cell? ⟨w.heap.size, 3, none⟩ = some (.int .i64 ch) := later_cell m3 hlt
      have n4 : ∀ p : Later w1, p.W.cell? ⟨w.heap.size, 4, none⟩ = some (.int .i64 sq) := later_cell m4 hlt
      have n5 : ∀ p : Later w1, p.W.cell? ⟨w.heap.size, 5, none⟩ = some (.slice a n c) := later_cell m5 hlt
      have y0 : ∀ p : Later w1, p.W.cell? ⟨g, 0, none⟩ = some (.int .i64 K) := later_cell z0 hgt
      have y2 : ∀ p : Later w1, p.W.cell? ⟨g, 2, none⟩ = some (.int .i64 H) := later_cell z2 hgt
      clear m0 m1 m2 m3 m4 m5 z0 z2
      repeat (go_big_quiet_step ((go_at_call 24; exact later_of (hv _))))
      refine wpQuiet_nil ?_
      rintro _ ⟨⟨w5, hbel5⟩, rfl⟩
      go_wp2
      go_ret
      exact ⟨ret_bool (by simp), b1.trans (hbel5.mono b1.size)⟩

set_option maxHeartbeats 4000000 in
theorem obey_any (byp con : Bool) (cr ch sq : Int) (a : Option Addr) (l : List Byte) (n c : Nat) (w : World) (g : Nat) (K H W : Int) (s : St) (h : FW w g K H W s) (hD : Rd w a l n c) :
    Calls Try.prog 25 #[.pointer (some ⟨g, 0, none⟩), .agg #[.bool byp, .bool con, .int .i64 cr, .int .i64 ch, .int .i64 sq, .slice a n c]] w fun e w' => e = .returned (.int .i64 (oby s (dir byp con l)).1) ∧ FW w' g K H W (oby s (dir byp con l)).2 ∧ Only [g] w w' := by
  obtain ⟨w1, hw1⟩ : ∃ w1, w1 = w.alloc (.cells #[.bool byp, .bool con, .int .i64 cr, .int .i64 ch, .int .i64 sq, .slice a n c] 32) := ⟨_, rfl⟩
  have b1 : Below w.heap.size w w1 := by rw [hw1]; exact bel_new _ _
  have p1 : Cel w1 w.heap.size 32 #[.bool byp, .bool con, .int .i64 cr, .int .i64 ch, .int .i64 sq, .slice a n c] := by rw [hw1]; exact Cel.new _ _ _
  have x1 := tdirective_any byp con cr ch sq a l n c w1 (hD.later b1)
  obtain ⟨hc, hok, hw1', hw2'⟩ := h
  have hdin := dir_in byp con l
  have hok2 := oby_ok hok hdin
  obtain ⟨d, hd⟩ : ∃ d, d = dir byp con l := ⟨_, rfl⟩
  rw [← hd] at x1 hdin hok2 ⊢
  obtain ⟨kd, nd, od⟩ := d
  dsimp only at x1 hdin
  obtain ⟨lk, wt, rt, bc, nx⟩ := s
  obtain ⟨k1, k2, k3, k4⟩ := hok
  dsimp only at hc k1 k2 k3 k4
  have hc1 := hc.below b1
  have Hw := Lib.hid (And.intro hw1' hw2')
  have m0 := p1.cell 0
  have m1 := p1.cell 1
  have m2 := p1.cell 2
  have m3 := p1.cell 3
  have m4 := p1.cell 4
  have m5 := p1.cell 5
  simp at m0 m1 m2 m3 m4 m5
  rw [hw1] at m0 m1 m2 m3 m4 m5
  clear hd hD p1 hw1' hw2' k3 k4
  have kb := Lib.hid (And.intro k1 k2)
  cases od with
  | false =>
    have e : oby ⟨lk, wt, rt, bc, nx⟩ (kd, nd, false) = (0, ⟨lk, wt, rt, bc, nx⟩) := rfl
    rw [e] at hok2 ⊢
    have Hok2 := Lib.hid hok2
    clear e hok2 hdin k1 k2
    go_enter Try.func25, Try.ntmps25
    go_wp2_with fail
    rw [← hw1]
    refine x1.mono ?_
    rintro e w2 ⟨rfl, h2⟩
    have b2 := b1.trans (h2.mono b1.size)
    have hc2 := hc1.below h2
    have o2 : Only [g] w w2 := Only.of_below b2
    clear x1 h2 hc1 b1 b2 m0 m1 m2 m3 m4 m5 hw1
    go_wp2
    go_ret
    exact ⟨rfl, ⟨hc2, Hok2.out, Hw.out.1, Hw.out.2⟩, o2⟩
  | true =>
    rcases hdin with rfl | ⟨rfl, n1, n2⟩
    · have e : oby ⟨lk, wt, rt, bc, nx⟩ (0, nd, true) = (5, ⟨false, false, false, (bc + 1) % 4, nx⟩) := rfl
      rw [e] at hok2 ⊢
      have Hok2 := Lib.hid hok2
      obtain ⟨B, hB⟩ : ∃ B, B = (bc + 1) % 4 := ⟨_, rfl⟩
      rw [← hB] at Hok2 ⊢
      clear e hok2 k1 k2
      go_enter Try.func25, Try.ntmps25
      go_wp2_with fail
      rw [← hw1]
      refine x1.mono ?_
      rintro e w2 ⟨rfl, h2⟩
      have b2 := b1.trans (h2.mono b1.size)
      have hc2 := hc1.below h2
      have o2 : Only [g] w w2 := Only.of_below b2
      clear x1 h2 hc1 b1 b2 m0 m1 m2 m3 m4 m5 hw1
      have d3 := hc2.c3
      have f3 := hc2.free 3
      go_wp2_with fail
      refine (clear_any _ g K W H bc nx false wt rt (hc2.lock false)).mono ?_
      rintro e w3 ⟨rfl, hc3, o3⟩
      go_wp2_with fail
      refine (count_any w3 g K W H bc nx false false false hc3 kb.out.1 kb.out.2).mono ?_
      rintro e w4 ⟨rfl, hc4, o4⟩
      rw [← hB] at hc4
      go_wp2
      go_ret
      exact ⟨rfl, ⟨hc4, Hok2.out, Hw.out.1, Hw.out.2⟩, only_then (only_then (only_then o2 (put_only w2 g 3 _)) o3) o4⟩
    · cases lk with
      | true =>
        have e : oby ⟨true, wt, rt, bc, nx⟩ (1, nd, true) = (4, ⟨true, wt, rt, bc, nx⟩) := rfl
        rw [e] at hok2 ⊢
        have Hok2 := Lib.hid hok2
        clear e hok2 k1 k2 n1 n2
        go_enter Try.func25, Try.ntmps25
        go_wp2_with fail
        rw [← hw1]
        refine x1.mono ?_
        rintro e w2 ⟨rfl, h2⟩
        have b2 := b1.trans (h2.mono b1.size)
        have hc2 := hc1.below h2
        have o2 : Only [g] w w2 := Only.of_below b2
        clear x1 h2 hc1 b1 b2 m0 m1 m2 m3 m4 m5 hw1
        have d3 := hc2.c3
        go_wp2
        go_ret
        exact ⟨rfl, ⟨hc2, Hok2.out, Hw.out.1, Hw.out.2⟩, o2⟩
      | false =>
        have e : oby ⟨false, wt, rt, bc, nx⟩ (1, nd, true) = (5, ⟨false, false, false, (bc + 1) % 4, nd⟩) := rfl
        rw [e] at hok2 ⊢
        have Hok2 := Lib.hid hok2
        obtain ⟨B, hB⟩ : ∃ B, B = (bc + 1) % 4 := ⟨_, rfl⟩
        rw [← hB] at Hok2 ⊢
        clear e hok2 k1 k2 n1 n2
        go_enter Try.func25, Try.ntmps25
        go_wp2_with fail
        rw [← hw1]
        refine x1.mono ?_
        rintro e w2 ⟨rfl, h2⟩
        have b2 := b1.trans (h2.mono b1.size)
        have hc2 := hc1.below h2
        have o2 : Only [g] w w2 := Only.of_below b2
        clear x1 h2 hc1 b1 b2 m0 m1 m2 m3 m4 m5 hw1
        have d3 := hc2.c3
        have d7 := hc2.c7
        have f7 := hc2.free 7
        go_wp2_with fail
        refine (clear_any _ g K W H bc nd false wt rt (hc2.next nd)).mono ?_
        rintro e w3 ⟨rfl, hc3, o3⟩
        go_wp2_with fail
        refine (count_any w3 g K W H bc nd false false false hc3 kb.out.1 kb.out.2).mono ?_
        rintro e w4 ⟨rfl, hc4, o4⟩
        rw [← hB] at hc4
        go_wp2
        go_ret
        exact ⟨rfl, ⟨hc4, Hok2.out, Hw.out.1, Hw.out.2⟩, only_then (only_then (only_then o2 (put_only w2 g 7 _)) o3) o4⟩

set_option maxHeartbeats 4000000 in
theorem judge_any (byp con : Bool) (cr ch sq : Int) (a : Option Addr) (l : List Byte) (n c : Nat) (room : Bool) (w : World) (g : Nat) (K H W : Int) (s : St) (h : FW w g K H W s) (hD : Rd w a l n c) (hq0 : 0 ≤ sq) (hq1 : sq ≤ 255) :
    Calls Try.prog 19 #[.pointer (some ⟨g, 0, none⟩), .agg #[.bool byp, .bool con, .int .i64 cr, .int .i64 ch, .int .i64 sq, .slice a n c], .bool room] w fun e w' => e = .returned (.int .i64 (jdg W s ⟨byp, con, cr, ch, sq, l⟩ room).1) ∧ FW w' g K H W (jdg W s ⟨byp, con, cr, ch, sq, l⟩ room).2 ∧ Only [g] w w' := by
  obtain ⟨w1, hw1⟩ : ∃ w1, w1 = w.alloc (.cells #[.bool byp, .bool con, .int .i64 cr, .int .i64 ch, .int .i64 sq, .slice a n c] 32) := ⟨_, rfl⟩
  have b1 : Below w.heap.size w w1 := by rw [hw1]; exact bel_new _ _
  have p1 : Cel w1 w.heap.size 32 #[.bool byp, .bool con, .int .i64 cr, .int .i64 ch, .int .i64 sq, .slice a n c] := by rw [hw1]; exact Cel.new _ _ _
  have hd1 := hD.later b1
  have h1 := h.below b1
  have o1 : Only [g] w w1 := Only.of_below b1
  have m0 := p1.cell 0
  have m1 := p1.cell 1
  have m2 := p1.cell 2
  have m3 := p1.cell 3
  have m4 := p1.cell 4
  have m5 := p1.cell 5
  simp at m0 m1 m2 m3 m4 m5
  rw [hw1] at m0 m1 m2 m3 m4 m5
  clear hD p1 h b1
  cases con with
  | true =>
    have x1 := obey_any byp true cr ch sq a l n c w1 g K H W s h1 hd1
    have e : jdg W s ⟨byp, true, cr, ch, sq, l⟩ room = oby s (dir byp true l) := rfl
    rw [e]
    obtain ⟨R, hR⟩ : ∃ R, R = oby s (dir byp true l) := ⟨_, rfl⟩
    rw [← hR] at x1 ⊢
    clear e hR hq0 hq1 h1 hd1
    go_enter Try.func19, Try.ntmps19
    go_wp2_with fail
    rw [← hw1]
    refine x1.mono ?_
    rintro e w2 ⟨rfl, h2, o2⟩
    go_wp2
    go_ret
    exact ⟨rfl, h2, only_then o1 o2⟩
  | false =>
    cases byp with
    | true =>
      obtain ⟨hc1, hok1, wi1, wi2⟩ := h1
      have hok2 : (jdg W s ⟨true, false, cr, ch, sq, l⟩ room).2.Ok := jdg_ok hok1 _ _
      have e : jdg W s ⟨true, false, cr, ch, sq, l⟩ room = (1, ⟨s.lk, s.wt, s.rt, (s.bc + 1) % 4, s.nx⟩) := rfl
      rw [e] at hok2 ⊢
      have x1 := count_any w1 g K W H s.bc s.nx s.lk s.wt s.rt hc1 hok1.1 hok1.2.1
      obtain ⟨B, hB⟩ : ∃ B, B = (s.bc + 1) % 4 := ⟨_, rfl⟩
      rw [← hB] at x1 hok2 ⊢
      have Hw := Lib.hid (And.intro hok2 (And.intro wi1 wi2))
      clear e hB hq0 hq1 hd1 hc1 hok1 wi1 wi2 hok2
      go_enter Try.func19, Try.ntmps19
      go_wp2_with fail
      rw [← hw1]
      refine x1.mono ?_
      rintro e w2 ⟨rfl, h2, o2⟩
      go_wp2
      go_ret
      exact ⟨rfl, ⟨h2, Hw.out.1, Hw.out.2.1, Hw.out.2.2⟩, only_then o1 o2⟩
    | false =>
      have c3 := h1.cel.c3
      rw [hw1] at c3
      cases hlk : s.lk with
      | true =>
        have e : jdg W s ⟨false, false, cr, ch, sq, l⟩ room = (4, s) := by unfold jdg; simp [hlk]
        rw [e]
        rw [hlk] at c3
        clear e hq0 hq1 hd1 hlk
        go_enter Try.func19, Try.ntmps19
        go_wp2_with fail
        rw [← hw1]
        go_ret
        exact ⟨rfl, h1, o1⟩
      | false =>
        have e : jdg W s ⟨false, false, cr, ch, sq, l⟩ room = rcv W s sq room := by unfold jdg; simp [hlk]
        rw [e]
        rw [hlk] at c3
        have x1 := receive_any sq room w1 g K H W s h1 hq0 hq1
        obtain ⟨R, hR⟩ : ∃ R, R = rcv W s sq room := ⟨_, rfl⟩
        rw [← hR] at x1 ⊢
        clear e hq0 hq1 hd1 hlk hR h1
        go_enter Try.func19, Try.ntmps19
        go_wp2_with fail
        rw [← hw1]
        refine x1.mono ?_
        rintro e w2 ⟨rfl, h2, o2⟩
        go_wp2
        go_ret
        exact ⟨rfl, h2, only_then o1 o2⟩
end Go.Proofs.Ytdjopkfibfgjeaa.Far
