/-
  The walk of the law FarmBypasses.
-/
import Derived.Test.YtdjopkfibfgjeaaLaw16b
import Derived.Test.YtdjopkfibfgjeaaIntArg
namespace Go.Proofs.Ytdjopkfibfgjeaa.Far
open Go.RowKit
open Pac (bel_new Cel.later)
open Tcf (Fr dir)
open Ints (Ns)

/-- a slice of bytes leads nowhere into a block that holds no byte -/
theorem Rd.off_ {w w' : World} {g n c : Nat} {t : TypeId} {cs : Array Value} {a : Option Addr} {l : List Byte} (hc : Cel w g t cs) (hn : ∀ (i : Nat) (x : Byte), cs[i]? ≠ some (B8 x)) (hd : Rd w a l n c) (k : Only [g] w w') : Rd w' a l n c := by
  refine ⟨hd.len, fun hl => ?_, hd.nil, hd.le, hd.max⟩
  obtain ⟨b, off, e, hlt, h1⟩ := hd.bs hl
  refine ⟨b, off, e, Nat.lt_of_lt_of_le hlt k.size, fun i x hx => ?_⟩
  have h1 := h1 i x hx
  have hb : b ≠ g := by
    rintro rfl
    rw [hc.cell (off + i)] at h1
    exact hn _ _ h1
  have h2 := k.block b hlt (by simpa using hb)
  unfold World.cell? at h1 ⊢
  simp only at h1 ⊢
  rw [h2]
  exact h1
theorem word_no (ch bc nx : Int) (lk wt rt : Bool) : ∀ (i : Nat) (x : Byte), (#[.int .i64 ch, .bool lk, .bool wt, .bool rt, .int .i64 bc, .int .i64 nx] : Array Value)[i]? ≠ some (B8 x)
  | 0, _ => by simp
  | 1, _ => by simp
  | 2, _ => by simp
  | 3, _ => by simp
  | 4, _ => by simp
  | 5, _ => by simp
  | i + 6, _ => by simp
theorem conv_later {w : World} {A : Option Addr} {l : List Byte} {n c : Nat} (h : Rd w A l n c) (p : Later w) :
    (convert 28 9 (.slice A n c)).run Try.prog p.W = .ok (.string (str l)) p.W := h.conv p.h

set_option maxRecDepth 100000 in
set_option maxHeartbeats 8000000 in
theorem farmBypasses_walk (l : List Int) (w : World) (A : Option Addr) (c : Nat) (hl : Ns w w.heap.size A l) :
    Calls Try.prog 6 #[.slice A l.length c] w fun e w' => e = .returned (.bool true) ∧ Below w.heap.size w w' := by
  have x1 := PF.new (w := w) (K := 7) (H := 1) 4 (W := 4) (by decide) (by decide) (by decide) (by decide) (by decide)
  obtain ⟨n, hn⟩ : ∃ n, n = l.length := ⟨_, rfl⟩
  rw [← hn]
  obtain ⟨g, hg⟩ : ∃ g, g = w.heap.size := ⟨_, rfl⟩
  rw [← hg] at x1 hl ⊢
  have HN := Lib.hid hn
  by_cases hbig : 100 < n
  · have t1 : decide ((100 : Int) < (n : Int)) = true := by simp; omega
    have t2 : decide (100 < n) = true := by simpa using hbig
    clear hl hbig hn x1
    go_enter Try.func6, Try.ntmps6
    go_wp2_with fail
    refine (alive16_any w).mono ?_
    rintro e w4 ⟨rfl, b4⟩
    go_wp2
    go_ret
    exact ⟨rfl, by rw [hg]; exact b4⟩
  · have t1 : decide ((100 : Int) < (n : Int)) = false := by simp; omega
    have t2 : decide (100 < n) = false := by simpa using hbig
    have hn1 : n ≤ 100 := by omega
    clear hbig hn hg
    go_enter Try.func6, Try.ntmps6
    go_wp2_with fail
    refine x1.mono ?_
    rintro e w1 ⟨rfl, p1⟩
    clear x1
    go_wp2_with fail
    go_loopw [4, 5, 6, 7, 8] (fun i _ _ _ _ wr => ∃ k : Nat, k ≤ n ∧ i = .int .i64 k ∧ ∃ s : St, PF w wr g g 7 1 4 s) (fun i _ _ _ _ _ => n - (intOf i).toNat)
    case atStart => exact ⟨0, Nat.zero_le _, rfl, st0, p1⟩
    case round =>
      obtain ⟨k, hk, rfl, s, p⟩ := hrel
      clear p1
      by_cases hlt : k < n
      · have hkl : k < l.length := by have := HN.out; omega
        obtain ⟨b, off, rfl, hbw, q1⟩ := hl.at_ hkl
        generalize l[k] = x at q1
        have q2 := (p.b.cell (p := ⟨b, off + k, none⟩) hbw).trans q1
        obtain ⟨T, N, t3, u1, u2, v1, n1, n2⟩ := num256 x
        have dN := fun W => data_any N W n1 n2
        obtain ⟨R, hR⟩ : ∃ R, tke 7 1 4 s ⟨false, false, 7, 1, N, [bq N]⟩ false = R := ⟨_, rfl⟩
        obtain ⟨V, s1⟩ := R
        obtain ⟨D, hD⟩ : ∃ D, dat V [bq N] = D := ⟨_, rfl⟩
        obtain ⟨m, hm⟩ : ∃ m, D.length = m := ⟨_, rfl⟩
        have HR := Lib.hid hR
        have HD := Lib.hid hD
        have Hm := Lib.hid hm
        have hk100 : k ≤ 100 := by omega
        clear hR hD hm n1 n2 q1 hkl
        go_wp2_with fail
        refine (dN wr).mono ?_
        rintro e w2 ⟨A2, rfl, r2, b2⟩
        have p2 := p.below b2
        clear p b2 dN
        go_wp2_with fail
        refine (p2.take r2 false HR.out HD.out Hm.out).mono ?_
        rintro e w3 ⟨⟨A3, c3, rfl, r3⟩, p3, _⟩
        have x3 := p3.report
        have hok := p3.f.ok
        clear p2 r2 r3 HR HD Hm
        obtain ⟨lk, wt, rt, bc, nx⟩ := s1
        obtain ⟨o1, o2, _, _⟩ := hok
        dsimp only at x3 o1 o2
        go_wp2_with fail
        refine x3.mono ?_
        rintro e w4 ⟨rfl, p4, _⟩
        clear x3 p3
        obtain ⟨w5, hw5⟩ : ∃ w5, w5 = w4.alloc (.cells #[.int .i64 1, .bool lk, .bool wt, .bool rt, .int .i64 bc, .int .i64 nx] 34) := ⟨_, rfl⟩
        have b5 : Below w4.heap.size w4 w5 := by rw [hw5]; exact bel_new _ _
        have s5 : w5.heap.size = w4.heap.size + 1 := by rw [hw5]; simp
        have y5 : Cel w5 w4.heap.size 34 #[.int .i64 1, .bool lk, .bool wt, .bool rt, .int .i64 bc, .int .i64 nx] := by rw [hw5]; exact Cel.new _ _ _
        have p5 := p4.below b5
        have hgy : g < w4.heap.size := p4.f.cel.lt
        obtain ⟨w6, hw6⟩ : ∃ w6, w6 = w5.alloc (.cells #[.int .u8 9, .int .u8 (k : Int)] 5) := ⟨_, rfl⟩
        have b6 : Below w5.heap.size w5 w6 := by rw [hw6]; exact bel_new _ _
        have s6 : w6.heap.size = w5.heap.size + 1 := by rw [hw6]; simp
        have r6 : Rd w6 (some ⟨w5.heap.size, 0, none⟩) [9#8, bq (k : Int)] 2 2 := by rw [hw6]; exact ⟨rfl, Bs_new _ _ _ _ (by simp [bq_nat (q := (k : Int)) (by omega) (by omega)]) _ (by simp) _, (fun h => nomatch h), by decide, by decide⟩
        have p6 := p5.below b6
        have y6 := Cel.later y5 b6
        obtain ⟨w7, hw7⟩ : ∃ w7, w7 = w6.alloc (.cells #[.bool true, .bool false, .int .i64 7, .int .i64 1, .int .i64 0, .slice (some ⟨w5.heap.size, 0, none⟩) 2 2] 32) := ⟨_, rfl⟩
        have b7 : Below w6.heap.size w6 w7 := by rw [hw7]; exact bel_new _ _
        have z7 : Cel w7 w6.heap.size 32 #[.bool true, .bool false, .int .i64 7, .int .i64 1, .int .i64 0, .slice (some ⟨w5.heap.size, 0, none⟩) 2 2] := by rw [hw7]; exact Cel.new _ _ _
        have p7 := p6.below b7
        have y7 := Cel.later y6 b7
        have r7 := r6.later b7
        rw [s6, s5] at z7
        rw [s5] at r7 hw7
        rw [hw6, hw5] at hw7
        clear p4 p5 p6 r6 y5 y6 b5 b6 b7 hw5 hw6 s5 s6
        have m0 := z7.cell 0
        have m1 := z7.cell 1
        have m2 := z7.cell 2
        have m3 := z7.cell 3
        have m4 := z7.cell 4
        have m5 := z7.cell 5
        simp at m0 m1 m2 m3 m4 m5
        rw [hw7] at m0 m1 m2 m3 m4 m5
        go_wp2_with fail
        rw [← hw7]
        refine (p7.take r7 false (V := 1) (S' := ⟨lk, wt, rt, (bc + 1) % 4, nx⟩) (D := [9#8, bq (k : Int)]) (m := 2) (tke_by (show 1 ≤ 2 by decide) (show 2 ≤ 1017 by decide)) rfl rfl).mono ?_
        rintro e w8 ⟨⟨A8, c8, rfl, r8⟩, p8, k8⟩
        have r8x := p7.keeps r7 k8
        have hgg := p7.g
        have y8 := y7.only k8 (by simp; omega)
        have z8 := z7.only k8 (by simp; omega)
        obtain ⟨B, hB⟩ : ∃ B, B = (bc + 1) % 4 := ⟨_, rfl⟩
        have tB : (bc + 1).tmod 4 = B := by rw [hB]; exact Int.tmod_eq_emod_of_nonneg (by omega)
        have tB' : (bc + 1) % 4 = B := hB.symm
        rw [← hB] at p8
        obtain ⟨w9, hw9⟩ : ∃ w9, w9 = w8.setCell ⟨w4.heap.size, 4, none⟩ (.int .i64 B) := ⟨_, rfl⟩
        have k9 : Only [w4.heap.size] w8 w9 := by rw [hw9]; exact put_only w8 w4.heap.size 4 (.int .i64 B)
        have p9 := p8.only k9 (by simp; omega) (by simp; omega)
        have r9 := Rd.off_ y8 (word_no _ _ _ _ _ _) r8 k9
        have r9x := Rd.off_ y8 (word_no _ _ _ _ _ _) r8x k9
        have y9 : Cel w9 w4.heap.size 34 #[.int .i64 1, .bool lk, .bool wt, .bool rt, .int .i64 B, .int .i64 nx] := by rw [hw9]; exact y8.put 4 _
        have z9 := z8.only k9 (by simp; omega)
        have g4 := y8.free 4
        have e4 := y8.cell 4
        simp at e4
        clear hB p7 r7 y7 z7 k8 p8 r8 r8x z8 k9 m0 m1 m2 m3 m4 m5 y8 hw7
        go_wp2_with fail
        rw [← hw9]
        clear hw9 g4 e4
        refine wp_region_later (by kernel_rfl) (by kernel_rfl) ?_
        have e0 := y9.cell 0
        have e1 := y9.cell 1
        have e2 := y9.cell 2
        have e3 := y9.cell 3
        have e4 := y9.cell 4
        have e5 := y9.cell 5
        have e6 := z9.cell 5
        simp at e0 e1 e2 e3 e4 e5 e6
        have hy := y9.lt
        have hz := z9.lt
        have f0 : ∀ q : Later w9, q.W.cell? ⟨w4.heap.size, 0, none⟩ = some (.int .i64 1) := later_cell e0 hy
        have f1 : ∀ q : Later w9, q.W.cell? ⟨w4.heap.size, 1, none⟩ = some (.bool lk) := later_cell e1 hy
        have f2 : ∀ q : Later w9, q.W.cell? ⟨w4.heap.size, 2, none⟩ = some (.bool wt) := later_cell e2 hy
        have f3 : ∀ q : Later w9, q.W.cell? ⟨w4.heap.size, 3, none⟩ = some (.bool rt) := later_cell e3 hy
        have f4 : ∀ q : Later w9, q.W.cell? ⟨w4.heap.size, 4, none⟩ = some (.int .i64 B) := later_cell e4 hy
        have f5 : ∀ q : Later w9, q.W.cell? ⟨w4.heap.size, 5, none⟩ = some (.int .i64 nx) := later_cell e5 hy
        have f6 : ∀ q : Later w9, q.W.cell? ⟨w4.heap.size + 1 + 1, 5, none⟩ = some (.slice (some ⟨w4.heap.size + 1, 0, none⟩) 2 2) := later_cell e6 hz
        have c1 : ∀ q : Later w9, (convert 28 9 (.slice A8 2 c8)).run Try.prog q.W = .ok (.string (str [9#8, bq (k : Int)])) q.W := conv_later r9
        have c2 : ∀ q : Later w9, (convert 28 9 (.slice (some ⟨w4.heap.size + 1, 0, none⟩) 2 2)).run Try.prog q.W = .ok (.string (str [9#8, bq (k : Int)])) q.W := conv_later r9x
        obtain ⟨X, hX⟩ : ∃ X, X = str [9#8, bq (k : Int)] := ⟨_, rfl⟩
        rw [← hX] at c1 c2
        have h3 : ∀ q : Later w9, Calls Try.prog 10 #[.pointer (some ⟨g, 0, none⟩)] q.W fun e w' => e = .returned (.agg #[.int .i64 1, .bool lk, .bool wt, .bool rt, .int .i64 B, .int .i64 nx]) ∧ Below q.W.heap.size q.W w' := fun q => ((p9.below q.h).report).mono fun _ _ h => ⟨h.1, h.2.2⟩
        have j1 : (lk == lk) = true := by simp
        have j2 : (wt == wt) = true := by simp
        have j3 : (rt == rt) = true := by simp
        have j4 : (B == B) = true := by simp
        have j5 : (nx == nx) = true := by simp
        clear hX r9 r9x y9 z9 e0 e1 e2 e3 e4 e5 e6
        repeat (go_big_quiet_step ((go_at_call 10; exact later_of (h3 _))))
        refine wpQuiet_nil ?_
        rintro _ ⟨⟨w10, b10⟩, rfl⟩
        have p10 := p9.below b10
        go_wp2
        go_roundw
        case rel => exact ⟨k + 1, hlt, by simp, _, p10⟩
        case measure => simp [intOf]; omega
      · obtain rfl : k = n := by omega
        clear hlt
        go_wp2_with fail
        refine (alive16_any wr).mono ?_
        rintro e w6 ⟨rfl, b6⟩
        go_wp2
        go_ret
        exact ⟨rfl, (p.below b6).b⟩
end Go.Proofs.Ytdjopkfibfgjeaa.Far
