/-
  The laws of layer 21: BucketClones.
-/
import Derived.Test.YtdccfiobcejngaaLaw21c
namespace Go.Proofs.Ytdccfiobcejngaa.Buc
open Go.RowKit

/-- two pairs of buckets, apart from each other -/
structure P2 (w0 w : World) (B g x h y : Nat) (s t : BS) : Prop where
  a : SX w g x s
  c : SX w h y t
  gh : g ≠ h
  xy : x ≠ y
  b : Below B w0 w
  s : B ≤ w.heap.size
  g : B ≤ g
  x : B ≤ x
  h : B ≤ h
  y : B ≤ y
section
variable {w0 w w' : World} {B g x h y : Nat} {s t : BS} {k n m : Int}
theorem P2.swap (q : P2 w0 w B g x h y s t) : P2 w0 w B h y g x t s := ⟨q.c, q.a, Ne.symm q.gh, Ne.symm q.xy, q.b, q.s, q.h, q.y, q.g, q.x⟩
theorem P2.gy (q : P2 w0 w B g x h y s t) : g ≠ y := Cel.apart (t := 47) (t' := 26) q.a.b.cel q.c.x.cel (by decide)
theorem P2.hx (q : P2 w0 w B g x h y s t) : h ≠ x := Cel.apart (t := 47) (t' := 26) q.c.b.cel q.a.x.cel (by decide)
theorem P2.below (q : P2 w0 w B g x h y s t) (k : Below w.heap.size w w') : P2 w0 w' B g x h y s t := ⟨q.a.below k, q.c.below k, q.gh, q.xy, q.b.trans (k.mono q.s), Nat.le_trans q.s k.size, q.g, q.x, q.h, q.y⟩
theorem P2.step (q : P2 w0 w B g x h y s t) (k n m : Int) (k0 : 0 ≤ k) :
    Calls Try.prog 11 #[.pointer (some ⟨g, 0, none⟩), .pointer (some ⟨x, 0, none⟩), .agg #[.int .u8 k, .int .i64 n, .int .i64 m]] w fun e w' => e = .returned (.bool true) ∧ ∃ s', P2 w0 w' B g x h y s' t := by
  refine (step_any k n m w g x s q.a k0).mono ?_
  rintro e w' ⟨rfl, s', o, u⟩
  refine ⟨rfl, s', o, q.c.only u ?_ ?_, q.gh, q.xy, q.b.trans (u.below q.s (fun i hi => ?_)), Nat.le_trans q.s u.size, q.g, q.x, q.h, q.y⟩
  · simp only [List.mem_cons, List.not_mem_nil, or_false, not_or]
    exact ⟨Ne.symm q.gh, q.hx⟩
  · simp only [List.mem_cons, List.not_mem_nil, or_false, not_or]
    exact ⟨Ne.symm q.gy, Ne.symm q.xy⟩
  · simp at hi
    rcases hi with rfl | rfl
    · exact q.g
    · exact q.x
theorem P2.step2 (q : P2 w0 w B g x h y s t) (k n m : Int) (k0 : 0 ≤ k) :
    Calls Try.prog 11 #[.pointer (some ⟨h, 0, none⟩), .pointer (some ⟨y, 0, none⟩), .agg #[.int .u8 k, .int .i64 n, .int .i64 m]] w fun e w' => e = .returned (.bool true) ∧ ∃ t', P2 w0 w' B g x h y s t' :=
  (q.swap.step k n m k0).mono fun _ _ ⟨e, t', o⟩ => ⟨e, t', o.swap⟩
theorem P2.level (q : P2 w0 w B g x h y s t) :
    Calls Try.prog 12 #[.pointer (some ⟨g, 0, none⟩), .int .i64 0] w fun e w' => e = .returned (.int .i64 s.v) ∧ P2 w0 w' B g x h y s t := by
  have o := blevel_any 0 w g s q.a.b
  rw [adv_zero q.a.b.ok] at o
  refine o.mono ?_
  rintro e w' ⟨rfl, f, k⟩
  exact ⟨rfl, ⟨f, q.a.x.only k (by simpa using Ne.symm q.a.ne)⟩, q.c.only k (by simpa using Ne.symm q.gh) (by simpa using Ne.symm q.gy), q.gh, q.xy, q.b.trans (k.below q.s (by simpa using q.g)), Nat.le_trans q.s k.size, q.g, q.x, q.h, q.y⟩
theorem P2.xlevel (q : P2 w0 w B g x h y s t) :
    Calls Try.prog 13 #[.pointer (some ⟨x, 0, none⟩), .int .i64 0] w fun e w' => e = .returned (.int .i64 s.v) ∧ P2 w0 w' B g x h y s t := by
  have o := xlevel_any 0 w x s q.a.x
  rw [adv_zero q.a.x.ok] at o
  refine o.mono ?_
  rintro e w' ⟨rfl, f, k⟩
  exact ⟨rfl, ⟨q.a.b.only k (by simpa using q.a.ne), f⟩, q.c.only k (by simpa using q.hx) (by simpa using Ne.symm q.xy), q.gh, q.xy, q.b.trans (k.below q.s (by simpa using q.x)), Nat.le_trans q.s k.size, q.g, q.x, q.h, q.y⟩
end

set_option maxRecDepth 100000 in
set_option maxHeartbeats 8000000 in
theorem bucketClones_walk (r z : Int) (l : List (Int × Int × Int)) (w : World) (A : Option Addr) (c : Nat) (hl : Sp w w.heap.size A l) :
    Calls Try.prog 6 #[.int .i64 r, .int .i64 z, .slice A l.length c] w fun e w' => e = .returned (.bool true) ∧ Below w.heap.size w w' := by
  obtain ⟨n, hn⟩ : ∃ n, n = l.length := ⟨_, rfl⟩
  rw [← hn]
  have hnew := bnew_any r z w
  have hxn := fun W => xnew_any r z W
  obtain ⟨g, hg⟩ : ∃ g, g = w.heap.size := ⟨_, rfl⟩
  have HN := Lib.hid hn
  have HG := Lib.hid hg
  rw [← hg] at hnew hl ⊢
  clear hg hn
  go_enter Try.func6, Try.ntmps6
  go_wp2_with fail
  refine hnew.mono ?_
  rintro e w1 ⟨rfl, h1, bw1⟩
  clear hnew
  go_wp2_with fail
  refine (hxn _).mono ?_
  rintro e w2 ⟨rfl, b2⟩
  have hx := PX.start (w := w) h1 (by rw [← HG.out]; exact bw1) HG.out b2
  rw [← HG.out] at hx
  clear hxn h1 b2 bw1
  obtain ⟨x, hxe⟩ : ∃ x, x = w2.heap.size := ⟨_, rfl⟩
  obtain ⟨w3, hw3⟩ : ∃ w3, w3 = w2.alloc (.cells #[.int .i64 (cl r), .int .i64 (cl z), .int .i64 (cl z), .int .i64 0] 26) := ⟨_, rfl⟩
  rw [← hxe, ← hw3] at hx
  by_cases hbig : 200 < n
  · have t1 : decide ((200 : Int) < (n : Int)) = true := by simp; omega
    have t2 : decide (200 < n) = true := by simpa using hbig
    clear hl hbig
    go_wp2_with fail
    rw [← hw3]
    refine (lives_any _).mono ?_
    rintro e w4 ⟨rfl, b4⟩
    go_wp2_with fail
    go_ret
    exact ⟨rfl, (hx.below b4).b⟩
  · have t1 : decide ((200 : Int) < (n : Int)) = false := by simp; omega
    have t2 : decide (200 < n) = false := by simpa using hbig
    have hn1 : n ≤ 200 := by omega
    have hcl := bclone_any w3 g _ hx.o.b
    clear hbig
    go_wp2_with fail
    rw [← hxe, ← hw3]
    clear hxe hw3
    refine hcl.mono ?_
    rintro e w4 ⟨rfl, h4, b4⟩
    have q4 := hx.below b4
    have gh : g ≠ w3.heap.size := by have := hx.o.b.lt; omega
    have hh : g ≤ w3.heap.size := hx.s
    obtain ⟨h, hhe⟩ : ∃ h, h = w3.heap.size := ⟨_, rfl⟩
    rw [← hhe] at h4 gh hh ⊢
    have c0 := q4.o.x.cel.c0
    have c1 := q4.o.x.cel.c1
    have c2 := q4.o.x.cel.c2
    have c3 := q4.o.x.cel.c3
    obtain ⟨s0, hs0⟩ : ∃ s0, s0 = bs0 r z := ⟨_, rfl⟩
    rw [← hs0] at q4 h4 c0 c1 c2 c3
    have b5 := bel_new w4 (.cells #[.int .i64 s0.r, .int .i64 s0.z, .int .i64 s0.v, .int .i64 s0.t] 26)
    have q5 : P2 w (w4.alloc (.cells #[.int .i64 s0.r, .int .i64 s0.z, .int .i64 s0.v, .int .i64 s0.t] 26)) g g x h w4.heap.size s0 s0 :=
      ⟨q4.o.below b5, ⟨h4.below b5, ⟨Cel.new _ _ _, h4.ok⟩⟩, gh, by have := q4.o.x.lt; omega, (q4.below b5).b, (q4.below b5).s, q4.g, q4.x, hh, q4.s⟩
    clear hx hcl h4 b4 b5 q4 gh hh hhe hs0
    obtain ⟨w5, hw5⟩ : ∃ w5, w5 = w4.alloc (.cells #[.int .i64 s0.r, .int .i64 s0.z, .int .i64 s0.v, .int .i64 s0.t] 26) := ⟨_, rfl⟩
    obtain ⟨y, hy⟩ : ∃ y, y = w4.heap.size := ⟨_, rfl⟩
    rw [← hy, ← hw5] at q5
    go_wp2_with fail
    rw [← hy, ← hw5]
    clear hy hw5 c0 c1 c2 c3
    go_loopw [11] (fun i wr => ∃ k : Nat, k ≤ n ∧ i = .int .i64 k ∧ ∃ s t, P2 w wr g g x h y s t) (fun i _ => n - (intOf i).toNat)
    case atStart => exact ⟨0, Nat.zero_le _, rfl, _, _, q5⟩
    case round =>
      obtain ⟨k, hk, rfl, s, t, q⟩ := hrel
      clear q5
      by_cases hlt : k < n
      · obtain ⟨b, off, kd, nn, mm, rfl, hbw, p0, p1, p2, k0⟩ := hl.at_ (k := k) (by rw [← HN.out]; exact hlt)
        have c0 := (q.b.cell (p := ⟨b, off + k * 3, none⟩) hbw).trans p0
        have c1 := (q.b.cell (p := ⟨b, off + k * 3 + 1, none⟩) hbw).trans p1
        have c2 := (q.b.cell (p := ⟨b, off + k * 3 + 2, none⟩) hbw).trans p2
        have hst := q.step kd nn mm k0
        have hst2 := q.step2 kd nn mm k0
        obtain ⟨R, hR⟩ : ∃ R : Nat, k % 2 = R := ⟨_, rfl⟩
        have d1 : (k : Int).tmod 2 = (R : Int) := by rw [Int.tmod_eq_emod_of_nonneg (by omega)]; omega
        have d2 : (k : Int) % 2 = (R : Int) := by omega
        have hcs : ((R : Int) == 0) = true ∧ ((R : Int) == 1) = false ∧ (R == 0) = true ∧ (R == 1) = false ∨ ((R : Int) == 0) = false ∧ ((R : Int) == 1) = true ∧ (R == 0) = false ∧ (R == 1) = true := by
          rcases (show R = 0 ∨ R = 1 by omega) with h | h <;> (rw [h]; simp)
        clear p0 p1 p2 hl k0 q hR
        rcases hcs with ⟨e1, e2, e3, e4⟩ | ⟨e1, e2, e3, e4⟩
        · clear hst2
          go_wp2_with fail
          refine hst.mono ?_
          rintro e w6 ⟨rfl, s6, q6⟩
          go_wp2_with fail
          go_roundw
          case rel => exact ⟨k + 1, hlt, by simp, s6, t, q6⟩
          case measure => simp [intOf]; omega
        · clear hst
          go_wp2_with fail
          refine hst2.mono ?_
          rintro e w6 ⟨rfl, t6, q6⟩
          go_wp2_with fail
          go_roundw
          case rel => exact ⟨k + 1, hlt, by simp, s, t6, q6⟩
          case measure => simp [intOf]; omega
      · obtain rfl : k = n := by omega
        obtain ⟨V1, hV1⟩ : ∃ V1, V1 = s.v := ⟨_, rfl⟩
        obtain ⟨V2, hV2⟩ : ∃ V2, V2 = t.v := ⟨_, rfl⟩
        have HV1 := Lib.hid hV1
        have HV2 := Lib.hid hV2
        have u1 : (V1 == V1) = true := by simp
        have u2 : (V2 == V2) = true := by simp
        have y1 := q.level
        rw [← hV1] at y1
        clear hV1 hV2
        go_wp2_with fail
        refine y1.mono ?_
        rintro e w6 ⟨rfl, q6⟩
        have y2 := q6.xlevel
        rw [← HV1.out] at y2
        clear y1 q
        go_wp2_with fail
        refine y2.mono ?_
        rintro e w7 ⟨rfl, q7⟩
        have y3 := q7.swap.level
        rw [← HV2.out] at y3
        clear y2 q6
        go_wp2_with fail
        refine y3.mono ?_
        rintro e w8 ⟨rfl, q8⟩
        have y4 := q8.xlevel
        rw [← HV2.out] at y4
        clear y3 q7
        go_wp2_with fail
        refine y4.mono ?_
        rintro e w9 ⟨rfl, q9⟩
        clear y4 q8
        go_wp2_with fail
        refine (lives_any _).mono ?_
        rintro e w10 ⟨rfl, b10⟩
        go_wp2_with fail
        go_ret
        exact ⟨rfl, (q9.below b10).b⟩
end Go.Proofs.Ytdccfiobcejngaa.Buc
