/-
  The laws of layer 21: the steps as an argument; both buckets in play; BucketPlays.
-/
import Derived.Test.YtdccfiobcejngaaLaw21b
namespace Go.Proofs.Ytdccfiobcejngaa.Buc
open Go.RowKit

/-- 'A' leads to the steps l (kind, number, time), all below block B -/
def Sp (w : World) (B : Nat) (A : Option Addr) (l : List (Int × Int × Int)) : Prop :=
  0 < l.length → ∃ b off, A = some ⟨b, off, none⟩ ∧ b < B ∧ ∀ i x, l[i]? = some x → w.cell? ⟨b, off + i * 3, none⟩ = some (.int .u8 x.1) ∧ w.cell? ⟨b, off + i * 3 + 1, none⟩ = some (.int .i64 x.2.1) ∧ w.cell? ⟨b, off + i * 3 + 2, none⟩ = some (.int .i64 x.2.2) ∧ 0 ≤ x.1
theorem Sp.at_ {w : World} {B : Nat} {A : Option Addr} {l : List (Int × Int × Int)} (h : Sp w B A l) {k : Nat} (hk : k < l.length) : ∃ b off kd n m, A = some ⟨b, off, none⟩ ∧ b < B ∧ w.cell? ⟨b, off + k * 3, none⟩ = some (.int .u8 kd) ∧ w.cell? ⟨b, off + k * 3 + 1, none⟩ = some (.int .i64 n) ∧ w.cell? ⟨b, off + k * 3 + 2, none⟩ = some (.int .i64 m) ∧ 0 ≤ kd := by
  obtain ⟨b, off, rfl, hb, hc⟩ := h (by omega)
  exact ⟨b, off, l[k].1, l[k].2.1, l[k].2.2, rfl, hb, hc k _ (List.getElem?_eq_getElem hk)⟩

/-- both buckets, and what lies below block B is as it was -/
structure PX (w0 w : World) (B g x : Nat) (s : BS) : Prop where
  o : SX w g x s
  b : Below B w0 w
  s : B ≤ w.heap.size
  g : B ≤ g
  x : B ≤ x
section
variable {w0 w w' : World} {B g x : Nat} {s : BS} {k n m : Int}
theorem PX.below (h : PX w0 w B g x s) (q : Below w.heap.size w w') : PX w0 w' B g x s := ⟨h.o.below q, h.b.trans (q.mono h.s), Nat.le_trans h.s q.size, h.g, h.x⟩
theorem PX.only {S : List Nat} (h : PX w0 w B g x s) (q : Only S w w') (hS : ∀ i ∈ S, B ≤ i) (hg : g ∉ S) (hx : x ∉ S) : PX w0 w' B g x s := ⟨h.o.only q hg hx, h.b.trans (q.below h.s hS), Nat.le_trans h.s q.size, h.g, h.x⟩
theorem PX.step (h : PX w0 w B g x s) (k n m : Int) (k0 : 0 ≤ k) :
    Calls Try.prog 11 #[.pointer (some ⟨g, 0, none⟩), .pointer (some ⟨x, 0, none⟩), .agg #[.int .u8 k, .int .i64 n, .int .i64 m]] w fun e w' => e = .returned (.bool true) ∧ (∃ s', PX w0 w' B g x s') ∧ Only [g, x] w w' := by
  refine (step_any k n m w g x s h.o k0).mono ?_
  rintro e w' ⟨rfl, s', o, q⟩
  refine ⟨rfl, ⟨s', o, h.b.trans (q.below h.s (fun i hi => ?_)), Nat.le_trans h.s q.size, h.g, h.x⟩, q⟩
  simp at hi
  rcases hi with rfl | rfl
  · exact h.g
  · exact h.x
/-- Level at the time 0: nothing turns but the order's draws -/
theorem PX.level (h : PX w0 w B g x s) :
    Calls Try.prog 12 #[.pointer (some ⟨g, 0, none⟩), .int .i64 0] w fun e w' => e = .returned (.int .i64 s.v) ∧ PX w0 w' B g x s ∧ Only [g] w w' := by
  have q := blevel_any 0 w g s h.o.b
  rw [adv_zero h.o.b.ok] at q
  refine q.mono ?_
  rintro e w' ⟨rfl, f, k⟩
  exact ⟨rfl, ⟨⟨f, h.o.x.only k (by simpa using Ne.symm h.o.ne)⟩, h.b.trans (k.below h.s (by simpa using h.g)), Nat.le_trans h.s k.size, h.g, h.x⟩, k⟩
theorem PX.xlevel (h : PX w0 w B g x s) :
    Calls Try.prog 13 #[.pointer (some ⟨x, 0, none⟩), .int .i64 0] w fun e w' => e = .returned (.int .i64 s.v) ∧ PX w0 w' B g x s ∧ Only [x] w w' := by
  have q := xlevel_any 0 w x s h.o.x
  rw [adv_zero h.o.x.ok] at q
  refine q.mono ?_
  rintro e w' ⟨rfl, f, k⟩
  exact ⟨rfl, ⟨⟨h.o.b.only k (by simpa using h.o.ne), f⟩, h.b.trans (k.below h.s (by simpa using h.x)), Nat.le_trans h.s k.size, h.g, h.x⟩, k⟩
/-- both are new -/
theorem PX.start {w1 w2 : World} {r z : Int} (h1 : BW w1 g (bs0 r z)) (b1 : Below w.heap.size w w1) (hg : g = w.heap.size) (b2 : Below w1.heap.size w1 w2) :
    PX w (w2.alloc (.cells #[.int .i64 (cl r), .int .i64 (cl z), .int .i64 (cl z), .int .i64 0] 26)) w.heap.size g w2.heap.size (bs0 r z) := by
  have b3 := bel_new w2 (.cells #[.int .i64 (cl r), .int .i64 (cl z), .int .i64 (cl z), .int .i64 0] 26)
  have c2 := b1.trans (b2.mono b1.size)
  exact ⟨⟨(h1.below b2).below b3, ⟨Cel.new _ _ _, bs0_ok r z⟩⟩, c2.trans (b3.mono c2.size), Nat.le_trans c2.size b3.size, by omega, c2.size⟩
end

set_option maxRecDepth 100000 in
set_option maxHeartbeats 4000000 in
theorem bucketPlays_walk (r z : Int) (l : List (Int × Int × Int)) (w : World) (A : Option Addr) (c : Nat) (hl : Sp w w.heap.size A l) :
    Calls Try.prog 3 #[.int .i64 r, .int .i64 z, .slice A l.length c] w fun e w' => e = .returned (.bool true) ∧ Below w.heap.size w w' := by
  obtain ⟨n, hn⟩ : ∃ n, n = l.length := ⟨_, rfl⟩
  rw [← hn]
  have hnew := bnew_any r z w
  have hxn := fun W => xnew_any r z W
  obtain ⟨g, hg⟩ : ∃ g, g = w.heap.size := ⟨_, rfl⟩
  have HN := Lib.hid hn
  have HG := Lib.hid hg
  rw [← hg] at hnew hl ⊢
  clear hg hn
  go_enter Try.func3, Try.ntmps3
  go_wp2_with fail
  refine hnew.mono ?_
  rintro e w1 ⟨rfl, h1, bw1⟩
  clear hnew
  go_wp2_with fail
  refine (hxn _).mono ?_
  rintro e w2 ⟨rfl, b2⟩
  have hx := PX.start (w := w) h1 (by rw [← HG.out]; exact bw1) HG.out b2
  rw [← HG.out] at hx
  clear hxn h1 b2 bw1
  obtain ⟨x, hxe⟩ : ∃ x, x = w2.heap.size := ⟨_, rfl⟩
  obtain ⟨w3, hw3⟩ : ∃ w3, w3 = w2.alloc (.cells #[.int .i64 (cl r), .int .i64 (cl z), .int .i64 (cl z), .int .i64 0] 26) := ⟨_, rfl⟩
  rw [← hxe, ← hw3] at hx
  by_cases hbig : 200 < n
  · have t1 : decide ((200 : Int) < (n : Int)) = true := by simp; omega
    have t2 : decide (200 < n) = true := by simpa using hbig
    clear hl hbig
    go_wp2_with fail
    rw [← hw3]
    refine (lives_any _).mono ?_
    rintro e w4 ⟨rfl, b4⟩
    go_wp2_with fail
    go_ret
    exact ⟨rfl, (hx.below b4).b⟩
  · have t1 : decide ((200 : Int) < (n : Int)) = false := by simp; omega
    have t2 : decide (200 < n) = false := by simpa using hbig
    have hn1 : n ≤ 200 := by omega
    clear hbig
    go_wp2_with fail
    rw [← hxe, ← hw3]
    clear hxe hw3
    go_loopw [9] (fun i wr => ∃ k : Nat, k ≤ n ∧ i = .int .i64 k ∧ ∃ s, PX w wr g g x s) (fun i _ => n - (intOf i).toNat)
    case atStart => exact ⟨0, Nat.zero_le _, rfl, _, hx⟩
    case round =>
      obtain ⟨k, hk, rfl, s, q⟩ := hrel
      clear hx
      by_cases hlt : k < n
      · obtain ⟨b, off, kd, nn, mm, rfl, hbw, p0, p1, p2, k0⟩ := hl.at_ (k := k) (by rw [← HN.out]; exact hlt)
        have c0 := (q.b.cell (p := ⟨b, off + k * 3, none⟩) hbw).trans p0
        have c1 := (q.b.cell (p := ⟨b, off + k * 3 + 1, none⟩) hbw).trans p1
        have c2 := (q.b.cell (p := ⟨b, off + k * 3 + 2, none⟩) hbw).trans p2
        have hst := q.step kd nn mm k0
        clear p0 p1 p2 hl k0 q
        go_wp2_with fail
        refine hst.mono ?_
        rintro e w4 ⟨rfl, ⟨s4, q4⟩, _⟩
        clear hst c0 c1 c2
        obtain ⟨V, hV⟩ : ∃ V, V = s4.v := ⟨_, rfl⟩
        have y1 := q4.level
        rw [← hV] at y1
        go_wp2_with fail
        refine y1.mono ?_
        rintro e w5 ⟨rfl, q5, _⟩
        have y2 := q5.xlevel
        rw [← hV] at y2
        have t3 : (V != V) = false := by simp
        clear y1 q4 hV
        go_wp2_with fail
        refine y2.mono ?_
        rintro e w6 ⟨rfl, q6, _⟩
        clear y2 q5
        go_wp2_with fail
        go_roundw
        case rel => exact ⟨k + 1, hlt, by simp, s4, q6⟩
        case measure => simp [intOf]; omega
      · obtain rfl : k = n := by omega
        go_wp2_with fail
        refine (lives_any _).mono ?_
        rintro e w6 ⟨rfl, b6⟩
        go_wp2_with fail
        go_ret
        exact ⟨rfl, (q.below b6).b⟩
end Go.Proofs.Ytdccfiobcejngaa.Buc
