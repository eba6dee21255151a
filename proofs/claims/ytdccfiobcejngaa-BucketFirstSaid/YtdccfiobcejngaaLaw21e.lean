/-
  The laws of layer 21: BucketFirst.
-/
import Derived.Test.YtdccfiobcejngaaLaw21c
namespace Go.Proofs.Ytdccfiobcejngaa.Buc
open Go.RowKit

set_option maxRecDepth 100000 in
set_option maxHeartbeats 8000000 in
theorem bucketFirst_walk (r z nn : Int) (l : List (Int × Int × Int)) (w : World) (A : Option Addr) (c : Nat) (hl : Sp w w.heap.size A l) :
    Calls Try.prog 5 #[.agg #[.int .i64 r, .int .i64 z, .int .i64 nn, .slice A l.length c]] w fun e w' => e = .returned (.bool true) ∧ Below w.heap.size w w' := by
  obtain ⟨n, hn⟩ : ∃ n, n = l.length := ⟨_, rfl⟩
  rw [← hn]
  obtain ⟨w0, hw0⟩ : ∃ w0, w0 = w.alloc (.cells #[.int .i64 r, .int .i64 z, .int .i64 nn, .slice A n c] 41) := ⟨_, rfl⟩
  have bw0 : Below w.heap.size w w0 := by rw [hw0]; exact bel_new _ _
  have p0 : Cel w0 w.heap.size 41 #[.int .i64 r, .int .i64 z, .int .i64 nn, .slice A n c] := by rw [hw0]; exact Cel.new _ _ _
  have c0 := p0.cell 0
  have c1 := p0.cell 1
  have c2 := p0.cell 2
  have c3 := p0.cell 3
  simp at c0 c1 c2 c3
  obtain ⟨B, hB⟩ : ∃ B, B = w.heap.size := ⟨_, rfl⟩
  rw [← hB] at bw0 c0 c1 c2 c3 hl ⊢
  have hxn := fun W => xnew_any r z W
  have HN := Lib.hid hn
  clear hn p0
  go_enter Try.func5, Try.ntmps5
  go_wp2_with fail
  rw [← hB, ← hw0]
  have HB := Lib.hid hB
  clear hw0 hB
  go_quiet (fail)
  have bwq : Below B w (w0.drewN nq) := ⟨bw0.os, bw0.tape, bw0.output, bw0.size, bw0.block⟩
  clear c0 c1 c2 c3 bw0
  obtain ⟨wq, hwq⟩ : ∃ wq, wq = w0.drewN nq := ⟨_, rfl⟩
  rw [← hwq] at bwq ⊢
  clear hwq
  have hnew := bnew_any r z wq
  obtain ⟨g, hg⟩ : ∃ g, g = wq.heap.size := ⟨_, rfl⟩
  have HG := Lib.hid hg
  rw [← hg] at hnew
  clear hg
  go_wp2_with fail
  refine hnew.mono ?_
  rintro e w1 ⟨rfl, h1, bw1⟩
  clear hnew
  go_wp2_with fail
  refine (hxn _).mono ?_
  rintro e w2 ⟨rfl, b2⟩
  have hx0 := PX.start (w := wq) h1 (by rw [← HG.out]; exact bw1) HG.out b2
  rw [← HG.out] at hx0
  have hBq : B ≤ wq.heap.size := by have := bwq.size; rw [← HB.out] at this; exact this
  have hx : PX w (w2.alloc (.cells #[.int .i64 (cl r), .int .i64 (cl z), .int .i64 (cl z), .int .i64 0] 26)) B g w2.heap.size (bs0 r z) :=
    ⟨hx0.o, bwq.trans (hx0.b.mono (by rw [HG.out]; exact hBq)), by have := hx0.s; rw [HG.out] at this; omega, by rw [HG.out]; exact hBq, by have := hx0.x; rw [HG.out] at this; omega⟩
  clear hxn h1 b2 bw1 hx0 hBq bwq
  obtain ⟨x, hxe⟩ : ∃ x, x = w2.heap.size := ⟨_, rfl⟩
  obtain ⟨w3, hw3⟩ : ∃ w3, w3 = w2.alloc (.cells #[.int .i64 (cl r), .int .i64 (cl z), .int .i64 (cl z), .int .i64 0] 26) := ⟨_, rfl⟩
  rw [← hxe, ← hw3] at hx
  by_cases hbig : 100 < n
  · have t1 : decide ((100 : Int) < (n : Int)) = true := by simp; omega
    have t2 : decide (100 < n) = true := by simpa using hbig
    clear hl hbig
    go_wp2_with fail
    rw [← hw3]
    refine (lives_any _).mono ?_
    rintro e w4 ⟨rfl, b4⟩
    go_wp2_with fail
    go_ret
    exact ⟨rfl, (hx.below b4).b⟩
  · have t1 : decide ((100 : Int) < (n : Int)) = false := by simp; omega
    have t2 : decide (100 < n) = false := by simpa using hbig
    have hn1 : n ≤ 100 := by omega
    clear hbig
    go_wp2_with fail
    rw [← hxe, ← hw3]
    clear hxe hw3
    go_loopw [9] (fun i wr => ∃ k : Nat, k ≤ n ∧ i = .int .i64 k ∧ ∃ s, PX w wr B g x s) (fun i _ => n - (intOf i).toNat)
    case atStart => exact ⟨0, Nat.zero_le _, rfl, _, hx⟩
    case round =>
      obtain ⟨k, hk, rfl, s, q⟩ := hrel
      clear hx
      by_cases hlt : k < n
      · obtain ⟨b, off, kd, n1, mm, rfl, hbw, p0, p1, p2, k0⟩ := hl.at_ (k := k) (by rw [← HN.out]; exact hlt)
        have c0 := (q.b.cell (p := ⟨b, off + k * 3, none⟩) hbw).trans p0
        have c1 := (q.b.cell (p := ⟨b, off + k * 3 + 1, none⟩) hbw).trans p1
        have c2 := (q.b.cell (p := ⟨b, off + k * 3 + 2, none⟩) hbw).trans p2
        have hst := q.step kd n1 mm k0
        clear p0 p1 p2 hl k0 q
        go_wp2_with fail
        refine hst.mono ?_
        rintro e w4 ⟨rfl, ⟨s4, q4⟩, _⟩
        clear hst c0 c1 c2
        go_wp2_with fail
        go_roundw
        case rel => exact ⟨k + 1, hlt, by simp, s4, q4⟩
        case measure => simp [intOf]; omega
      · obtain rfl : k = n := by omega
        have ok := q.o.b.ok
        have y1 := bwhen_any nn 0 wr g s q.o.b
        rw [adv_zero ok] at y1
        have hno := first_no (s := s) ok (n := nn)
        have hyes := first_yes (s := s) ok (n := nn)
        obtain ⟨W, hW⟩ : ∃ W, W = wn s nn := ⟨_, rfl⟩
        rw [← hW] at y1 hno hyes
        obtain ⟨T, o⟩ := W
        dsimp only at y1 hno hyes
        clear hW hl
        go_wp2_with fail
        refine y1.mono ?_
        rintro e w4 ⟨rfl, h4, o4⟩
        have x4 := q.o.x.only o4 (by simpa using Ne.symm q.o.ne)
        have bl4 := q.b.trans (o4.below q.s (by simpa using q.g))
        have s4 : B ≤ w4.heap.size := Nat.le_trans q.s o4.size
        have y2 := bclone_any w4 g s h4
        clear y1 q o4
        go_wp2_with fail
        refine y2.mono ?_
        rintro e w5 ⟨rfl, l5, b5⟩
        have h5 := h4.below b5
        have x5 := x4.below b5
        have y3 := bclone_any w5 g s h5
        have bl5 := bl4.trans (b5.mono s4)
        obtain ⟨L, hL⟩ : ∃ L, L = w4.heap.size := ⟨_, rfl⟩
        rw [← hL] at l5 s4 ⊢
        have s5 : B ≤ w5.heap.size := by have := l5.lt; omega
        clear y2 h4 x4 b5 bl4 hL
        go_wp2_with fail
        refine y3.mono ?_
        rintro e w6 ⟨rfl, e6, b6⟩
        have l6 := l5.below b6
        have x6 := x5.below b6
        have bl6 := bl5.trans (b6.mono s5)
        have lE : L ≠ w5.heap.size := by have := l5.lt; omega
        obtain ⟨E, hE⟩ : ∃ E, E = w5.heap.size := ⟨_, rfl⟩
        rw [← hE] at e6 lE s5 ⊢
        have s6 : B ≤ w6.heap.size := by have := e6.lt; omega
        have xt := x6.cel.c3
        clear y3 h5 x5 l5 b6 bl5 hE
        cases o with
        | false =>
          have y4 := btake_any nn 1099511627776 w6 L s l6
          rw [hno rfl] at y4
          clear hno hyes
          go_wp2_with fail
          refine y4.mono ?_
          rintro e w7 ⟨rfl, _, o7⟩
          have bl7 := bl6.trans (o7.below s6 (by simpa using s4))
          have s7 := Nat.le_trans s6 o7.size
          clear y4
          go_wp2_with fail
          refine (lives_any _).mono ?_
          rintro e w8 ⟨rfl, b8⟩
          go_wp2_with fail
          go_ret
          exact ⟨rfl, bl7.trans (b8.mono s7)⟩
        | true =>
          obtain ⟨ha, hb, hc, hd⟩ := hyes rfl
          obtain ⟨t, ht⟩ : ∃ t, t = s.t := ⟨_, rfl⟩
          rw [← ht] at xt hb hd
          by_cases hlt2 : t < T
          · have v1 : decide (t < T) = true := by simpa using hlt2
            obtain ⟨U, hU⟩ : ∃ U, U = T - 1 := ⟨_, rfl⟩
            have y4 := btake_any nn U w6 E s e6
            rw [hU, hd hlt2, ← hU] at y4
            have v2 : T - 1 = U := hU.symm
            have v3 : wrap64 U = U := wr64 (by have := ok.t0; omega) (by omega)
            have HT := Lib.hid (And.intro ok (And.intro ht (And.intro hb (And.intro hc hU))))
            have HA := Lib.hid ha
            have v3' : wrap64 (T - 1) = U := by rw [v2]; exact v3
            clear hno hyes ok ht hb hc hd ha hU hlt2
            go_wp2_with fail
            try simp only [v3]
            refine y4.mono ?_
            rintro e w7 ⟨rfl, _, o7⟩
            have l7 := l6.only o7 (by simpa using lE)
            have bl7 := bl6.trans (o7.below s6 (by simpa using s5))
            have s7 := Nat.le_trans s6 o7.size
            have y5 := btake_any nn T w7 L s l7
            rw [HA.out] at y5
            clear y4 xt
            go_wp2_with fail
            refine y5.mono ?_
            rintro e w8 ⟨rfl, _, o8⟩
            have bl8 := bl7.trans (o8.below s7 (by simpa using s4))
            have s8 := Nat.le_trans s7 o8.size
            clear y5
            go_wp2_with fail
            refine (lives_any _).mono ?_
            rintro e w9 ⟨rfl, b9⟩
            go_wp2_with fail
            go_ret
            exact ⟨rfl, bl8.trans (b9.mono s8)⟩
          · have v1 : decide (t < T) = false := by simpa using hlt2
            have HA := Lib.hid ha
            clear hno hyes ok ht hb hc hd ha
            have y5 := btake_any nn T w6 L s l6
            rw [HA.out] at y5
            go_wp2_with fail
            refine y5.mono ?_
            rintro e w8 ⟨rfl, _, o8⟩
            have bl8 := bl6.trans (o8.below s6 (by simpa using s4))
            have s8 := Nat.le_trans s6 o8.size
            clear y5
            go_wp2_with fail
            refine (lives_any _).mono ?_
            rintro e w9 ⟨rfl, b9⟩
            go_wp2_with fail
            go_ret
            exact ⟨rfl, bl8.trans (b9.mono s8)⟩
end Go.Proofs.Ytdccfiobcejngaa.Buc
