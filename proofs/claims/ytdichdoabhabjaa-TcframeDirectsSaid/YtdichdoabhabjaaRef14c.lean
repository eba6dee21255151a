/-
  The walk of the reference of layer 14: Decode.
-/
import Derived.Test.YtdichdoabhabjaaRef14b
import Derived.Test.YtdichdoabhabjaaHand
namespace Go.Proofs.Ytdichdoabhabjaa.Tcf
open Go.RowKit Go.Proofs.Ytdichdoabhabjaa.Pac

theorem yde_results {tmps : Array Value} {W : World} {g : Nat} {e : Int} {byp con : Bool} {cr ch sq : Int} {v : Value} (h2 : tmps.getD 2 undef = .pointer (some ⟨g, 0, none⟩)) (h3 : tmps.getD 3 undef = .int .i64 e)
    (hC : Cel W g 24 #[.bool byp, .bool con, .int .i64 cr, .int .i64 ch, .int .i64 sq, v]) :
    (results Try.f16 tmps).run Try.prog W = .ok (.tuple #[.agg #[.bool byp, .bool con, .int .i64 cr, .int .i64 ch, .int .i64 sq, v], .int .i64 e]) W := by
  have c0 := hC.cell 0
  have c1 := hC.cell 1
  have c2 := hC.cell 2
  have c3 := hC.cell 3
  have c4 := hC.cell 4
  have c5 := hC.cell 5
  simp at c0 c1 c2 c3 c4 c5
  simp only [Array.getD_eq_getD_getElem?] at h2 h3
  simp [results, Try.results16, go_sem, h2, h3, c0, c1, c2, c3, c4, c5]

theorem ycheck16_len (a : Option Addr) (l : List Byte) (n c : Nat) (w : World) (hl : l.length = n) (hb : Bs w w.heap.size a l) (hn : n ≤ c) (hm : n ≤ 2000) :
    Calls Try.prog 33 #[.slice a n c] w fun e w' => e = .returned (.bool (ck16 l)) ∧ Below w.heap.size w w' := by
  subst hl
  exact refCheck16_any a l c w hb hn hm
/-- the bytes of a header in memory -/
theorem head_at {w : World} {B : Nat} {a : Option Addr} {l : List Byte} (hb : Bs w B a l) (h : 5 ≤ l.length) : ∃ b off, a = some ⟨b, off, none⟩ ∧ b < B ∧ ∀ k, k < 5 → w.cell? ⟨b, off + k, none⟩ = some (.int .u8 ((b8 l k : Nat) : Int)) := by
  obtain ⟨b, off, rfl, hlt, hc⟩ := hb (by omega)
  refine ⟨b, off, rfl, hlt, fun k hk => ?_⟩
  have hx : l[k]? = some (l[k]'(by omega)) := List.getElem?_eq_getElem (by omega)
  rw [hc k _ hx, b8_at hx]

set_option maxHeartbeats 2000000 in
theorem ydecode_short (a : Option Addr) (l : List Byte) (n c : Nat) (w : World) (hl : Hid (l.length = n)) (_hb : Bs w w.heap.size a l) (_hnc : n ≤ c) (h : n < 8) :
    Calls Try.prog 16 #[.slice a n c] w fun e w' => e = .returned (.tuple #[.agg #[.bool false, .bool false, .int .i64 0, .int .i64 0, .int .i64 0, .slice none 0 0], .int .i64 3]) ∧ Below w.heap.size w w' := by
  have b0 := bel_new w (.cells #[.bool false, .bool false, .int .i64 0, .int .i64 0, .int .i64 0, .slice none 0 0] 24)
  have hR0 := Cel.new w 24 #[.bool false, .bool false, .int .i64 0, .int .i64 0, .int .i64 0, .slice none 0 0]
  have hln := hl.out
  have g1 : decide ((n : Int) < 8) = true := by simp; omega
  have g2 : decide (n < 8) = true := by simp; omega
  clear hl _hb _hnc hln
  have hR1 := hR0
  have bel1 := b0
  have c0 := hR1.cell 0
  have c1 := hR1.cell 1
  have c2 := hR1.cell 2
  have c3 := hR1.cell 3
  have c4 := hR1.cell 4
  have c5 := hR1.cell 5
  simp at c0 c1 c2 c3 c4 c5
  have f0 := hR1.free 0
  have f1 := hR1.free 1
  have f2 := hR1.free 2
  have f3 := hR1.free 3
  have f4 := hR1.free 4
  have f5 := hR1.free 5
  go_enter Try.func16, Try.ntmps16
  go_wp2
  exact bodyPost_ret (yde_results rfl rfl hR1) rfl ⟨rfl, bel1⟩

set_option maxHeartbeats 2000000 in
theorem ydecode_long (a : Option Addr) (l : List Byte) (n c : Nat) (w : World) (hl : Hid (l.length = n)) (_hb : Bs w w.heap.size a l) (_hnc : n ≤ c) (h : 1024 < n) :
    Calls Try.prog 16 #[.slice a n c] w fun e w' => e = .returned (.tuple #[.agg #[.bool false, .bool false, .int .i64 0, .int .i64 0, .int .i64 0, .slice none 0 0], .int .i64 6]) ∧ Below w.heap.size w w' := by
  have b0 := bel_new w (.cells #[.bool false, .bool false, .int .i64 0, .int .i64 0, .int .i64 0, .slice none 0 0] 24)
  have hR0 := Cel.new w 24 #[.bool false, .bool false, .int .i64 0, .int .i64 0, .int .i64 0, .slice none 0 0]
  have hln := hl.out
  have g1 : decide ((n : Int) < 8) = false := by simp; omega
  have g2 : decide (n < 8) = false := by simp; omega
  have g3 : decide ((1024 : Int) < (n : Int)) = true := by simp; omega
  have g4 : decide (1024 < n) = true := by simp; omega
  clear hl _hb _hnc hln
  have hR1 := hR0
  have bel1 := b0
  have c0 := hR1.cell 0
  have c1 := hR1.cell 1
  have c2 := hR1.cell 2
  have c3 := hR1.cell 3
  have c4 := hR1.cell 4
  have c5 := hR1.cell 5
  simp at c0 c1 c2 c3 c4 c5
  have f0 := hR1.free 0
  have f1 := hR1.free 1
  have f2 := hR1.free 2
  have f3 := hR1.free 3
  have f4 := hR1.free 4
  have f5 := hR1.free 5
  go_enter Try.func16, Try.ntmps16
  go_wp2
  exact bodyPost_ret (yde_results rfl rfl hR1) rfl ⟨rfl, bel1⟩

set_option maxHeartbeats 2000000 in
theorem ydecode_sum (a : Option Addr) (l : List Byte) (n c : Nat) (w : World) (hl : Hid (l.length = n)) (hb : Bs w w.heap.size a l) (hnc : n ≤ c) (h : 8 ≤ n) (h2 : n ≤ 1024) (hck : ck16 l = false) :
    Calls Try.prog 16 #[.slice a n c] w fun e w' => e = .returned (.tuple #[.agg #[.bool false, .bool false, .int .i64 0, .int .i64 0, .int .i64 0, .slice none 0 0], .int .i64 5]) ∧ Below w.heap.size w w' := by
  have b0 := bel_new w (.cells #[.bool false, .bool false, .int .i64 0, .int .i64 0, .int .i64 0, .slice none 0 0] 24)
  have hR0 := Cel.new w 24 #[.bool false, .bool false, .int .i64 0, .int .i64 0, .int .i64 0, .slice none 0 0]
  have hln := hl.out
  have g1 : decide ((n : Int) < 8) = false := by simp; omega
  have g2 : decide (n < 8) = false := by simp; omega
  have g3 : decide ((1024 : Int) < (n : Int)) = false := by simp; omega
  have g4 : decide (1024 < n) = false := by simp; omega
  have hs := ycheck16_len a l n c (w.alloc (.cells #[.bool false, .bool false, .int .i64 0, .int .i64 0, .int .i64 0, .slice none 0 0] 24)) hln ((hb.below b0).more b0.size) hnc (by omega)
  rw [hck] at hs
  clear hck hl hb hnc hln
  go_enter Try.func16, Try.ntmps16
  go_wp2_with fail
  refine hs.mono ?_
  rintro e w1 ⟨rfl, hb1⟩
  have hR1 := Cel.later hR0 hb1
  have bel1 := b0.trans (hb1.mono b0.size)
  have c0 := hR1.cell 0
  have c1 := hR1.cell 1
  have c2 := hR1.cell 2
  have c3 := hR1.cell 3
  have c4 := hR1.cell 4
  have c5 := hR1.cell 5
  simp at c0 c1 c2 c3 c4 c5
  have f0 := hR1.free 0
  have f1 := hR1.free 1
  have f2 := hR1.free 2
  have f3 := hR1.free 3
  have f4 := hR1.free 4
  have f5 := hR1.free 5
  clear hs hR0 b0
  go_wp2
  exact bodyPost_ret (yde_results rfl rfl (putAll_cel hR1 false false 0 0 0 (.slice none 0 0))) rfl ⟨rfl, putAll_below bel1 (Nat.le_refl _) _ _ _ _ _ _⟩

set_option maxHeartbeats 2000000 in
theorem ydecode_bad (a : Option Addr) (l : List Byte) (n c : Nat) (w : World) (hl : Hid (l.length = n)) (hb : Bs w w.heap.size a l) (hn : a = none → c = 0) (hnc : n ≤ c) (_hcm : c ≤ maxLen) (h : 8 ≤ n) (h2 : n ≤ 1024) (hck : ck16 l = true) (hok : (rd l).ok = false) :
    Calls Try.prog 16 #[.slice a n c] w fun e w' => e = .returned (.tuple #[.agg #[.bool false, .bool false, .int .i64 0, .int .i64 0, .int .i64 0, .slice none 0 0], .int .i64 4]) ∧ Below w.heap.size w w' := by
  have b0 := bel_new w (.cells #[.bool false, .bool false, .int .i64 0, .int .i64 0, .int .i64 0, .slice none 0 0] 24)
  have hR0 := Cel.new w 24 #[.bool false, .bool false, .int .i64 0, .int .i64 0, .int .i64 0, .slice none 0 0]
  have hln := hl.out
  have g1 : decide ((n : Int) < 8) = false := by simp; omega
  have g2 : decide (n < 8) = false := by simp; omega
  have g3 : decide ((1024 : Int) < (n : Int)) = false := by simp; omega
  have g4 : decide (1024 < n) = false := by simp; omega
  have hs := ycheck16_len a l n c (w.alloc (.cells #[.bool false, .bool false, .int .i64 0, .int .i64 0, .int .i64 0, .slice none 0 0] 24)) hln ((hb.below b0).more b0.size) hnc (by omega)
  rw [hck] at hs
  obtain ⟨b, off, rfl, hbl, hc⟩ := head_at hb (by omega)
  have hsub := fun W (hB : Bs W W.heap.size (some ⟨b, off, none⟩) l) => Bs_sub hB rfl 5 (l.length - 7)
  have hsub0 := Bs_sub hb rfl 5 (l.length - 7)
  obtain ⟨m, hm⟩ : ∃ m, n = m + 7 := ⟨n - 7, by omega⟩
  have hd : (rd l).d = (l.drop 5).take (l.length - 7) := rfl
  have hdl : (rd l).d.length = m := by rw [rd_len (by omega)]; omega
  rw [← hd] at hsub hsub0
  have z0 := b8_lt l 0
  have t0 := hc 0 (by decide)
  have z1 := b8_lt l 1
  have t1 := hc 1 (by decide)
  have z2 := b8_lt l 2
  have t2 := hc 2 (by decide)
  have z3 := b8_lt l 3
  have t3 := hc 3 (by decide)
  have z4 := b8_lt l 4
  have t4 := hc 4 (by decide)
  simp only [Nat.add_zero] at t0
  have q1 : (rd l).byp = decide (b8 l 0 / 32 % 2 = 1) := rfl
  have q2 : (rd l).con = decide (b8 l 0 / 16 % 2 = 1) := rfl
  have q3 : (rd l).cr = ((fst2 l % 1024 : Nat) : Int) := rfl
  have q4 : (rd l).ch = ((snd2 l / 1024 : Nat) : Int) := rfl
  have q5 : (rd l).sq = ((b8 l 4 : Nat) : Int) := rfl
  unfold fst2 at q3
  unfold snd2 at q4
  obtain ⟨N0, hN0⟩ : ∃ N, N = b8 l 0 := ⟨_, rfl⟩
  obtain ⟨N1, hN1⟩ : ∃ N, N = b8 l 1 := ⟨_, rfl⟩
  obtain ⟨N2, hN2⟩ : ∃ N, N = b8 l 2 := ⟨_, rfl⟩
  obtain ⟨N3, hN3⟩ : ∃ N, N = b8 l 3 := ⟨_, rfl⟩
  obtain ⟨N4, hN4⟩ : ∃ N, N = b8 l 4 := ⟨_, rfl⟩
  rw [← hN0] at q1 q2 q3 t0 z0
  rw [← hN1] at q3 t1 z1
  rw [← hN2] at q4 t2 z2
  rw [← hN3] at q4 t3 z3
  rw [← hN4] at q5 t4 z4
  obtain ⟨H, hH⟩ : ∃ H, H = 256 * N0 + N1 := ⟨_, rfl⟩
  obtain ⟨C, hC⟩ : ∃ C, C = 256 * N2 + N3 := ⟨_, rfl⟩
  have HI : Hid ((N0 : Int) * 256 + (N1 : Int) = (H : Int)) := Lib.hid (by omega)
  have CI : Hid ((N2 : Int) * 256 + (N3 : Int) = (C : Int)) := Lib.hid (by omega)
  have zH : H < 65536 := by omega
  have zC : C < 65536 := by omega
  rw [← hH] at q3
  rw [← hC] at q4
  have q1' : (rd l).byp = decide (H / 8192 % 2 = 1) := by rw [q1, decide_eq_decide]; omega
  have q2' : (rd l).con = decide (H / 4096 % 2 = 1) := by rw [q2, decide_eq_decide]; omega
  obtain ⟨CR, hCR⟩ : ∃ CR, CR = H % 1024 := ⟨_, rfl⟩
  obtain ⟨CH, hCH⟩ : ∃ CH, CH = C / 1024 := ⟨_, rfl⟩
  rw [← hCR] at q3
  rw [← hCH] at q4
  have v3 : (H : Int).tmod 1024 = (CR : Int) := by rw [Int.tmod_eq_emod_of_nonneg (by omega)]; omega
  have v3' : (H : Int) % 1024 = (CR : Int) := by omega
  have v4 : (C : Int).tdiv 1024 = (CH : Int) := by rw [Int.tdiv_eq_ediv_of_nonneg (by omega)]; omega
  have v4' : (C : Int) / 1024 = (CH : Int) := by omega
  have v1 : (((H : Int) / 8192).tmod 2 == 1) = decide (H / 8192 % 2 = 1) := by
    rw [Int.tmod_eq_emod_of_nonneg (by omega), Bool.eq_iff_iff]
    simp
    omega
  have v2 : (((H : Int) / 4096).tmod 2 == 1) = decide (H / 4096 % 2 = 1) := by
    rw [Int.tmod_eq_emod_of_nonneg (by omega), Bool.eq_iff_iff]
    simp
    omega
  have v5 : IntKind.i64.wrap (CH : Int) = (CH : Int) := from_u64 CH (by omega)
  have v6 : IntKind.i64.wrap (N4 : Int) = (N4 : Int) := from_u64 N4 (by omega)
  rw [← q1'] at v1
  rw [← q2'] at v2
  obtain ⟨En, hEn⟩ : ∃ En, En = (rd l).enc := ⟨_, rfl⟩
  obtain ⟨P, hP⟩ : ∃ P, P = rd l := ⟨_, rfl⟩
  rw [← hP] at hEn hsub hsub0 hok hdl v1 v2 q3 q4 q5
  obtain ⟨byp, con, cr, ch, sq, d⟩ := P
  simp only at hEn hsub hsub0 hok hdl v1 v2 q3 q4 q5
  have HL := Lib.hid hdl
  have s1 : (if c = 5 then (some ⟨b, off, none⟩ : Option Addr) else some ⟨b, off + 5, none⟩) = some ⟨b, off + 5, none⟩ := if_neg (by omega)
  obtain ⟨c3, hc3⟩ : ∃ c3, c - 5 = c3 := ⟨_, rfl⟩
  obtain ⟨M5, hM5⟩ : ∃ M5, M5 = m + 5 := ⟨_, rfl⟩
  have s2 : (4 : Int) < (n : Int) := by omega
  have s3 : IntKind.i64.wrap ((n : Int) - 2) = (M5 : Int) := by simp [IntKind.wrap, IntKind.bits, IntKind.signed]; omega
  have s4 : (M5 : Int) ≤ (c : Int) := by omega
  have s5 : max (M5 : Int) 0 = (M5 : Int) := by omega
  have s6 : (5 : Int) ≤ (M5 : Int) := by omega
  have s7 : M5 - 5 = m := by omega
  have hm1 : m ≤ 1017 := by omega
  clear hCR hCH q1' q2' hM5 hm hdl hd hln hP hck q1 q2 hH hC hN0 hN1 hN2 hN3 hN4 hc
  go_enter Try.func16, Try.ntmps16
  go_wp2_with fail
  refine hs.mono ?_
  rintro e w1 ⟨rfl, hb1⟩
  have hR1 := Cel.later hR0 hb1
  have bel1 := b0.trans (hb1.mono b0.size)
  have hB1 := (hb.below bel1).more bel1.size
  have hlt1 := hR1.lt
  have k0 := (bel1.cell (p := ⟨b, off, none⟩) hbl).trans t0
  have k1 := (bel1.cell (p := ⟨b, off + 1, none⟩) hbl).trans t1
  have k2 := (bel1.cell (p := ⟨b, off + 2, none⟩) hbl).trans t2
  have k3 := (bel1.cell (p := ⟨b, off + 3, none⟩) hbl).trans t3
  have k4 := (bel1.cell (p := ⟨b, off + 4, none⟩) hbl).trans t4
  clear hs hb1 hR0 b0
  go_wp2
  go_quiet (fail)
  rw [HI.out]
  obtain ⟨Wq, hWq⟩ : ∃ Wq, Wq = w1.drewN nq := ⟨_, rfl⟩
  have hq1 : Below w1.heap.size w1 Wq := by rw [hWq]; exact bel_drewN _ _ _
  rw [← hWq]
  replace k2 : Wq.cell? ⟨b, off + 2, none⟩ = some (.int .u8 (N2 : Int)) := by rw [hWq]; exact k2
  replace k3 : Wq.cell? ⟨b, off + 3, none⟩ = some (.int .u8 (N3 : Int)) := by rw [hWq]; exact k3
  replace k4 : Wq.cell? ⟨b, off + 4, none⟩ = some (.int .u8 (N4 : Int)) := by rw [hWq]; exact k4
  clear hWq k0 k1
  go_wp2
  go_quiet (fail)
  rw [CI.out]
  obtain ⟨Wr, hWr⟩ : ∃ Wr, Wr = Wq.drewN nq := ⟨_, rfl⟩
  have hq2 : Below w1.heap.size Wq Wr := by rw [hWr]; exact bel_drewN _ _ _
  rw [← hWr]
  replace k4 : Wr.cell? ⟨b, off + 4, none⟩ = some (.int .u8 (N4 : Int)) := by rw [hWr]; exact k4
  clear hWr k2 k3
  have hqr := hq1.trans hq2
  have hRr := Cel.later hR1 hqr
  have bel2 := bel1.trans (hqr.mono bel1.size)
  have hB2 := hsub0.below bel2
  have hltr := hRr.lt
  clear hq1 hq2 hqr hR1 bel1 hB1 hlt1
  go_upto_region 9 with fail
  go_cut [6] from 41 to 64 (fun gp wx => ∃ (G : Nat) (A5 : Option Addr) (c5 : Nat), gp = .pointer (some ⟨G, 0, none⟩) ∧ Cel wx G 24 #[.bool byp, .bool con, .int .i64 cr, .int .i64 ch, .int .i64 sq, .slice A5 m c5] ∧ Ow wx Wr.heap.size 5 (.slice A5 m c5) d ∧ Below Wr.heap.size Wr wx ∧ Wr.heap.size ≤ G)
  case first =>
    subst q3 q4 q5
    refine wp_region_held_drew (S := (fun w' => w'.cell? ⟨b, off + 4, none⟩ = some (.int .u8 (N4 : Int)))) (by kernel_rfl) (k4) (fun hHeld => ?_)
    refine wpAnyH_here 0 (v := ?_) rfl (by kernel_rfl) (by kernel_rfl) (by kernel_rfl) (fun _ _ _ h => h) (Or.inl ⟨by rfl, ?_⟩) hHeld ?_
    rotate_left
    · intro w hSw; (try dsimp only at hSw); go_simp; all_goals (with_reducible rfl)
    try simp only [Act.put, List.setIfInBounds_toArray, List.set_cons_zero, List.set_cons_succ]
    refine wpAnyH_here 1 (v := ?_) rfl (by kernel_rfl) (by kernel_rfl) (by kernel_rfl) (fun _ _ _ h => h) (Or.inl ⟨by rfl, ?_⟩) hHeld ?_
    rotate_left
    · intro w hSw; (try dsimp only at hSw); go_simp; all_goals (with_reducible rfl)
    try simp only [Act.put, List.setIfInBounds_toArray, List.set_cons_zero, List.set_cons_succ]
    refine wpAnyH_here 2 (v := ?_) rfl (by kernel_rfl) (by kernel_rfl) (by kernel_rfl) (fun _ _ _ h => h) (Or.inl ⟨by rfl, ?_⟩) hHeld ?_
    rotate_left
    · intro w hSw; (try dsimp only at hSw); go_simp; all_goals (with_reducible rfl)
    try simp only [Act.put, List.setIfInBounds_toArray, List.set_cons_zero, List.set_cons_succ]
    refine wpAnyH_here 3 (v := ?_) rfl (by kernel_rfl) (by kernel_rfl) (by kernel_rfl) (fun _ _ _ h => h) (Or.inl ⟨by rfl, ?_⟩) hHeld ?_
    rotate_left
    · intro w hSw; (try dsimp only at hSw); go_simp; all_goals (with_reducible rfl)
    try simp only [Act.put, List.setIfInBounds_toArray, List.set_cons_zero, List.set_cons_succ]
    refine wpAnyH_here 4 (v := ?_) rfl (by kernel_rfl) (by kernel_rfl) (by kernel_rfl) (fun _ _ _ h => h) (Or.inl ⟨by rfl, ?_⟩) hHeld ?_
    rotate_left
    · intro w hSw; (try dsimp only at hSw); go_simp; all_goals (with_reducible rfl)
    try simp only [Act.put, List.setIfInBounds_toArray, List.set_cons_zero, List.set_cons_succ]
    refine wpAnyH_here 5 (v := ?_) rfl (by kernel_rfl) (by kernel_rfl) (by kernel_rfl) (fun _ _ _ h => h) (Or.inl ⟨by rfl, ?_⟩) hHeld ?_
    rotate_left
    · intro w hSw; (try dsimp only at hSw); go_simp; all_goals (with_reducible rfl)
    try simp only [Act.put, List.setIfInBounds_toArray, List.set_cons_zero, List.set_cons_succ]
    refine wpAnyH_here 6 (v := ?_) rfl (by kernel_rfl) (by kernel_rfl) (by kernel_rfl) (fun _ _ _ h => h) (Or.inl ⟨by rfl, ?_⟩) hHeld ?_
    rotate_left
    · intro w hSw; (try dsimp only at hSw); go_simp; all_goals (with_reducible rfl)
    try simp only [Act.put, List.setIfInBounds_toArray, List.set_cons_zero, List.set_cons_succ]
    refine wpAnyH_here 7 (v := ?_) rfl (by kernel_rfl) (by kernel_rfl) (by kernel_rfl) (fun _ _ _ h => h) (Or.inl ⟨by rfl, ?_⟩) hHeld ?_
    rotate_left
    · intro w hSw; (try dsimp only at hSw); go_simp; all_goals (with_reducible rfl)
    try simp only [Act.put, List.setIfInBounds_toArray, List.set_cons_zero, List.set_cons_succ]
    refine wpAnyH_here 8 (v := ?_) rfl (by kernel_rfl) (by kernel_rfl) (by kernel_rfl) (fun _ _ _ h => h) (Or.inl ⟨by rfl, ?_⟩) hHeld ?_
    rotate_left
    · intro w hSw; (try dsimp only at hSw); go_simp; all_goals (with_reducible rfl)
    try simp only [Act.put, List.setIfInBounds_toArray, List.set_cons_zero, List.set_cons_succ]
    refine wpAnyH_here 9 (v := ?_) rfl (by kernel_rfl) (by kernel_rfl) (by kernel_rfl) (fun _ _ _ h => h) (Or.inl ⟨by rfl, ?_⟩) hHeld ?_
    rotate_left
    · intro w hSw; (try dsimp only at hSw); go_simp; all_goals (with_reducible rfl)
    try simp only [Act.put, List.setIfInBounds_toArray, List.set_cons_zero, List.set_cons_succ]
    refine wpAnyH_here 10 (v := ?_) rfl (by kernel_rfl) (by kernel_rfl) (by kernel_rfl) (fun _ _ _ h => h) (Or.inl ⟨by rfl, ?_⟩) hHeld ?_
    rotate_left
    · intro w hSw; (try dsimp only at hSw); go_simp; all_goals (with_reducible rfl)
    try simp only [Act.put, List.setIfInBounds_toArray, List.set_cons_zero, List.set_cons_succ]
    refine wpAnyH_here 11 (v := ?_) rfl (by kernel_rfl) (by kernel_rfl) (by kernel_rfl) (fun _ _ _ h => h) (Or.inl ⟨by rfl, ?_⟩) hHeld ?_
    rotate_left
    · intro w hSw; (try dsimp only at hSw); go_simp; all_goals (with_reducible rfl)
    try simp only [Act.put, List.setIfInBounds_toArray, List.set_cons_zero, List.set_cons_succ]
    refine wpAnyH_here 12 (v := ?_) rfl (by kernel_rfl) (by kernel_rfl) (by kernel_rfl) (fun _ _ _ h => h) (Or.inl ⟨by rfl, ?_⟩) hHeld ?_
    rotate_left
    · intro w hSw; (try dsimp only at hSw); go_simp; all_goals (with_reducible rfl)
    try simp only [Act.put, List.setIfInBounds_toArray, List.set_cons_zero, List.set_cons_succ]
    refine wpAnyH_here 13 (v := ?_) rfl (by kernel_rfl) (by kernel_rfl) (by kernel_rfl) (fun _ _ _ h => h) (Or.inl ⟨by rfl, ?_⟩) hHeld ?_
    rotate_left
    · intro w hSw; (try dsimp only at hSw); go_simp; all_goals (with_reducible rfl)
    try simp only [Act.put, List.setIfInBounds_toArray, List.set_cons_zero, List.set_cons_succ]
    refine wpAnyH_here 14 (v := ?_) rfl (by kernel_rfl) (by kernel_rfl) (by kernel_rfl) (fun _ _ _ h => h) (Or.inl ⟨by rfl, ?_⟩) hHeld ?_
    rotate_left
    · intro w hSw; (try dsimp only at hSw); go_simp; all_goals (with_reducible rfl)
    try simp only [Act.put, List.setIfInBounds_toArray, List.set_cons_zero, List.set_cons_succ]
    refine wpAnyH_here 15 (v := ?_) rfl (by kernel_rfl) (by kernel_rfl) (by kernel_rfl) (fun _ _ _ h => h) (Or.inl ⟨by rfl, ?_⟩) hHeld ?_
    rotate_left
    · intro w hSw; (try dsimp only at hSw); go_simp; all_goals (with_reducible rfl)
    try simp only [Act.put, List.setIfInBounds_toArray, List.set_cons_zero, List.set_cons_succ]
    refine wpAnyH_here 17 (v := ?_) rfl (by kernel_rfl) (by kernel_rfl) (by kernel_rfl) (fun _ _ _ h => h) (Or.inl ⟨by rfl, ?_⟩) hHeld ?_
    rotate_left
    · intro w hSw; (try dsimp only at hSw); go_simp; all_goals (with_reducible rfl)
    try simp only [Act.put, List.setIfInBounds_toArray, List.set_cons_zero, List.set_cons_succ]
    refine wpAnyH_here 18 (v := ?_) rfl (by kernel_rfl) (by kernel_rfl) (by kernel_rfl) (fun _ _ _ h => h) (Or.inl ⟨by rfl, ?_⟩) hHeld ?_
    rotate_left
    · intro w hSw; (try dsimp only at hSw); go_simp; all_goals (with_reducible rfl)
    try simp only [Act.put, List.setIfInBounds_toArray, List.set_cons_zero, List.set_cons_succ]
    refine wpAnyH_here 19 (v := ?_) rfl (by kernel_rfl) (by kernel_rfl) (by kernel_rfl) (fun _ _ _ h => h) (Or.inl ⟨by rfl, ?_⟩) hHeld ?_
    rotate_left
    · intro w hSw; (try dsimp only at hSw); go_simp; all_goals (with_reducible rfl)
    try simp only [Act.put, List.setIfInBounds_toArray, List.set_cons_zero, List.set_cons_succ]
    refine wpAnyH_here 20 (v := ?_) rfl (by kernel_rfl) (by kernel_rfl) (by kernel_rfl) (fun _ _ _ h => h) (Or.inl ⟨by rfl, ?_⟩) hHeld ?_
    rotate_left
    · intro w hSw; (try dsimp only at hSw); go_simp; all_goals (with_reducible rfl)
    try simp only [Act.put, List.setIfInBounds_toArray, List.set_cons_zero, List.set_cons_succ]
    refine wpAnyH_here 21 (v := ?_) rfl (by kernel_rfl) (by kernel_rfl) (by kernel_rfl) (fun _ _ _ h => h) (Or.inl ⟨by rfl, ?_⟩) hHeld ?_
    rotate_left
    · intro w hSw; (try dsimp only at hSw); go_simp; all_goals (with_reducible rfl)
    try simp only [Act.put, List.setIfInBounds_toArray, List.set_cons_zero, List.set_cons_succ]
    have hbr : b < Wr.heap.size := by omega
    have hBd : Bs Wr Wr.heap.size (some ⟨b, off + 5, none⟩) d := hB2.more (by omega)
    have hs0 : Wr.heap.size ≤ Wr.heap.size := Nat.le_refl _
    refine wpAnyH_both 16 24 rfl rfl (by kernel_rfl) (fun K hK => ?_) (fun K hK => ?_)
    · go_simp
      have own1 := (Ow_empty Wr Wr.heap.size 5 hs0).drew
      have HB1 : Below Wr.heap.size Wr (Wr.alloc (.cells #[] 5)).drew := (bel_new _ _).drew
      refine hK.out _ _ ((HB1.cell (p := ⟨b, off + 4, none⟩) hbr).trans k4) (fun hHeld => ?_)
      clear hK K
      try simp only [Act.put, List.setIfInBounds_toArray, List.set_cons_zero, List.set_cons_succ]
      obtain ⟨V1, hV1⟩ : ∃ V1, V1 = (Wr.alloc (.cells #[] 5)).drew := ⟨_, rfl⟩
      have sV : Wr.heap.size < V1.heap.size := by rw [hV1]; simp
      rw [← hV1] at own1 HB1 hHeld ⊢
      clear hV1
      refine wpAnyH_both 22 24 rfl rfl (by kernel_rfl) (fun K hK => ?_) (fun K hK => ?_)
      · refine step_app _ is_bytes rfl (.tmp 57) (.tmp 62) rfl (m := []) rfl own1 (l := d) (A := some ⟨b, off + 5, none⟩) (c := c3) (by rw [HL.out]; rfl) (hBd.below HB1) (fun h => nomatch h) (by rw [HL.out]; simp; omega) HB1.size ?_
        intro v5 W5 own5 gr5
        rw [List.nil_append] at own5
        have HB5 := HB1.grown gr5 HB1.size own1.base_le
        obtain ⟨A5, c5, rfl, _⟩ := own5.reads_len (n := m) HL.out
        refine hK.out _ _ ((HB5.cell (p := ⟨b, off + 4, none⟩) hbr).trans k4) (fun hHeld => ?_)
        clear hK K
        try simp only [Act.put, List.setIfInBounds_toArray, List.set_cons_zero, List.set_cons_succ]
        refine wpAnyH_here 23 (v := ?_) rfl (by kernel_rfl) (by kernel_rfl) (by kernel_rfl) (fun _ _ _ h => h) (Or.inl ⟨by rfl, ?_⟩) hHeld ?_
        rotate_left
        · intro w hSw; (try dsimp only at hSw); go_simp; all_goals (with_reducible rfl)
        try simp only [Act.put, List.setIfInBounds_toArray, List.set_cons_zero, List.set_cons_succ]
        refine wpAnyH_alone 24 rfl (by kernel_rfl) (fun K hK => ?_)
        go_simp
        have HB6 := HB5.alloc HB5.size (.cells #[.bool false, .bool false, .int .i64 0, .int .i64 0, .int .i64 0, .slice none 0 0] 24)
        refine hK.out _ _ ((HB6.cell (p := ⟨b, off + 4, none⟩) hbr).trans k4) (fun hHeld => ?_)
        clear hK K
        try simp only [Act.put, List.setIfInBounds_toArray, List.set_cons_zero, List.set_cons_succ]
        refine wpAnyH_alone 25 rfl (by kernel_rfl) (fun K hK => ?_)
        have HB7 := HB5.alloc HB5.size (.cells #[.bool byp, .bool con, .int .i64 (CR : Int), .int .i64 (CH : Int), .int .i64 (N4 : Int), .slice A5 m c5] 24)
        have own7 := own5.alloc (.cells #[.bool byp, .bool con, .int .i64 (CR : Int), .int .i64 (CH : Int), .int .i64 (N4 : Int), .slice A5 m c5] 24)
        have C7 := Cel.new W5 24 #[.bool byp, .bool con, .int .i64 (CR : Int), .int .i64 (CH : Int), .int .i64 (N4 : Int), .slice A5 m c5]
        go_simp
        refine hK.out _ _ ((HB7.cell (p := ⟨b, off + 4, none⟩) hbr).trans k4) (fun hHeld => ?_)
        clear hK K
        try simp only [Act.put, List.setIfInBounds_toArray, List.set_cons_zero, List.set_cons_succ]
        refine wpAnyH_done (by kernel_rfl) ?_ _
        go_wp2
        go_meet
        case rel => exact ⟨_, A5, c5, rfl, C7, own7, HB7, HB5.size⟩
      · go_simp
        have HB2 := HB1.alloc HB1.size (.cells #[.bool false, .bool false, .int .i64 0, .int .i64 0, .int .i64 0, .slice none 0 0] 24)
        have own2 := own1.alloc (.cells #[.bool false, .bool false, .int .i64 0, .int .i64 0, .int .i64 0, .slice none 0 0] 24)
        have R2 := Cel.new V1 24 #[.bool false, .bool false, .int .i64 0, .int .i64 0, .int .i64 0, .slice none 0 0]
        refine hK.out _ _ ((HB2.cell (p := ⟨b, off + 4, none⟩) hbr).trans k4) (fun hHeld => ?_)
        clear hK K
        try simp only [Act.put, List.setIfInBounds_toArray, List.set_cons_zero, List.set_cons_succ]
        refine wpAnyH_alone 22 rfl (by kernel_rfl) (fun K hK => ?_)
        refine step_app _ is_bytes rfl (.tmp 57) (.tmp 62) rfl (m := []) rfl own2 (l := d) (A := some ⟨b, off + 5, none⟩) (c := c3) (by rw [HL.out]; rfl) (hBd.below HB2) (fun h => nomatch h) (by rw [HL.out]; simp; omega) HB2.size ?_
        intro v5 W5 own5 gr5
        rw [List.nil_append] at own5
        have HB5 := HB2.grown gr5 HB2.size own2.base_le
        obtain ⟨A5, c5, rfl, _⟩ := own5.reads_len (n := m) HL.out
        refine hK.out _ _ ((HB5.cell (p := ⟨b, off + 4, none⟩) hbr).trans k4) (fun hHeld => ?_)
        clear hK K
        try simp only [Act.put, List.setIfInBounds_toArray, List.set_cons_zero, List.set_cons_succ]
        have R5 := R2.only (Only.of_grown gr5) (by show V1.heap.size ∉ [Wr.heap.size]; simp; omega)
        have e0 := R5.cell 0
        have e1 := R5.cell 1
        have e2 := R5.cell 2
        have e3 := R5.cell 3
        have e4 := R5.cell 4
        have e5 := R5.cell 5
        simp at e0 e1 e2 e3 e4 e5
        have f0 := R5.free 0
        have f1 := R5.free 1
        have f2 := R5.free 2
        have f3 := R5.free 3
        have f4 := R5.free 4
        have f5 := R5.free 5
        refine wpAnyH_here 23 (v := ?_) rfl (by kernel_rfl) (by kernel_rfl) (by kernel_rfl) (fun _ _ _ h => h) (Or.inl ⟨by rfl, ?_⟩) hHeld ?_
        rotate_left
        · intro w hSw; (try dsimp only at hSw); go_simp; all_goals (with_reducible rfl)
        try simp only [Act.put, List.setIfInBounds_toArray, List.set_cons_zero, List.set_cons_succ]
        refine wpAnyH_alone 25 rfl (by kernel_rfl) (fun K hK => ?_)
        have HB7 := HB5.trans ((putAll_only W5 V1.heap.size byp con (CR : Int) (CH : Int) (N4 : Int) (.slice A5 m c5)).below HB5.size (by simp; try omega))
        have own7 := own5.only (putAll_only W5 V1.heap.size byp con (CR : Int) (CH : Int) (N4 : Int) (.slice A5 m c5)) (fun i hi hm => own5.apart R5 (by decide) (by rw [hi, List.mem_singleton.1 hm]))
        have C7 := putAll_cel R5 byp con (CR : Int) (CH : Int) (N4 : Int) (.slice A5 m c5)
        go_simp
        refine hK.out _ _ ((HB7.cell (p := ⟨b, off + 4, none⟩) hbr).trans k4) (fun hHeld => ?_)
        clear hK K
        try simp only [Act.put, List.setIfInBounds_toArray, List.set_cons_zero, List.set_cons_succ]
        refine wpAnyH_done (by kernel_rfl) ?_ _
        go_wp2
        go_meet
        case rel => exact ⟨_, A5, c5, rfl, C7, own7, HB7, Nat.le_of_lt sV⟩
    · go_simp
      have HB1 : Below Wr.heap.size Wr (Wr.alloc (.cells #[.bool false, .bool false, .int .i64 0, .int .i64 0, .int .i64 0, .slice none 0 0] 24)).drew := (bel_new _ _).drew
      have R1 : Cel (Wr.alloc (.cells #[.bool false, .bool false, .int .i64 0, .int .i64 0, .int .i64 0, .slice none 0 0] 24)).drew Wr.heap.size 24 #[.bool false, .bool false, .int .i64 0, .int .i64 0, .int .i64 0, .slice none 0 0] := (Cel.new Wr 24 #[.bool false, .bool false, .int .i64 0, .int .i64 0, .int .i64 0, .slice none 0 0]).draws 1
      refine hK.out _ _ ((HB1.cell (p := ⟨b, off + 4, none⟩) hbr).trans k4) (fun hHeld => ?_)
      clear hK K
      try simp only [Act.put, List.setIfInBounds_toArray, List.set_cons_zero, List.set_cons_succ]
      obtain ⟨V1, hV1⟩ : ∃ V1, V1 = (Wr.alloc (.cells #[.bool false, .bool false, .int .i64 0, .int .i64 0, .int .i64 0, .slice none 0 0] 24)).drew := ⟨_, rfl⟩
      have sV : Wr.heap.size < V1.heap.size := by rw [hV1]; simp
      rw [← hV1] at HB1 R1 hHeld ⊢
      clear hV1
      refine wpAnyH_alone 16 rfl (by kernel_rfl) (fun K hK => ?_)
      go_simp
      have HB2 := HB1.alloc HB1.size (.cells #[] 5)
      have own2 := Ow_empty V1 Wr.heap.size 5 HB1.size
      have R2 := Cel.later R1 (bel_new V1 (.cells #[] 5))
      refine hK.out _ _ ((HB2.cell (p := ⟨b, off + 4, none⟩) hbr).trans k4) (fun hHeld => ?_)
      clear hK K
      try simp only [Act.put, List.setIfInBounds_toArray, List.set_cons_zero, List.set_cons_succ]
      refine wpAnyH_alone 22 rfl (by kernel_rfl) (fun K hK => ?_)
      refine step_app _ is_bytes rfl (.tmp 57) (.tmp 62) rfl (m := []) rfl own2 (l := d) (A := some ⟨b, off + 5, none⟩) (c := c3) (by rw [HL.out]; rfl) (hBd.below HB2) (fun h => nomatch h) (by rw [HL.out]; simp; omega) HB2.size ?_
      intro v5 W5 own5 gr5
      rw [List.nil_append] at own5
      have HB5 := HB2.grown gr5 HB2.size own2.base_le
      obtain ⟨A5, c5, rfl, _⟩ := own5.reads_len (n := m) HL.out
      refine hK.out _ _ ((HB5.cell (p := ⟨b, off + 4, none⟩) hbr).trans k4) (fun hHeld => ?_)
      clear hK K
      try simp only [Act.put, List.setIfInBounds_toArray, List.set_cons_zero, List.set_cons_succ]
      have R5 := R2.only (Only.of_grown gr5) (by show Wr.heap.size ∉ [V1.heap.size]; simp; omega)
      have e0 := R5.cell 0
      have e1 := R5.cell 1
      have e2 := R5.cell 2
      have e3 := R5.cell 3
      have e4 := R5.cell 4
      have e5 := R5.cell 5
      simp at e0 e1 e2 e3 e4 e5
      have f0 := R5.free 0
      have f1 := R5.free 1
      have f2 := R5.free 2
      have f3 := R5.free 3
      have f4 := R5.free 4
      have f5 := R5.free 5
      refine wpAnyH_here 23 (v := ?_) rfl (by kernel_rfl) (by kernel_rfl) (by kernel_rfl) (fun _ _ _ h => h) (Or.inl ⟨by rfl, ?_⟩) hHeld ?_
      rotate_left
      · intro w hSw; (try dsimp only at hSw); go_simp; all_goals (with_reducible rfl)
      try simp only [Act.put, List.setIfInBounds_toArray, List.set_cons_zero, List.set_cons_succ]
      refine wpAnyH_alone 25 rfl (by kernel_rfl) (fun K hK => ?_)
      have HB7 := HB5.trans ((putAll_only W5 Wr.heap.size byp con (CR : Int) (CH : Int) (N4 : Int) (.slice A5 m c5)).below HB5.size (by simp; try omega))
      have own7 := own5.only (putAll_only W5 Wr.heap.size byp con (CR : Int) (CH : Int) (N4 : Int) (.slice A5 m c5)) (fun i hi hm => own5.apart R5 (by decide) (by rw [hi, List.mem_singleton.1 hm]))
      have C7 := putAll_cel R5 byp con (CR : Int) (CH : Int) (N4 : Int) (.slice A5 m c5)
      go_simp
      refine hK.out _ _ ((HB7.cell (p := ⟨b, off + 4, none⟩) hbr).trans k4) (fun hHeld => ?_)
      clear hK K
      try simp only [Act.put, List.setIfInBounds_toArray, List.set_cons_zero, List.set_cons_succ]
      refine wpAnyH_done (by kernel_rfl) ?_ _
      go_wp2
      go_meet
      case rel => exact ⟨_, A5, c5, rfl, C7, own7, HB7, Nat.le_refl _⟩
  case rest =>
    subst q3 q4 q5
    obtain ⟨G, A5, cq, rfl, hG, own5, b5, hGle⟩ := hcut
    have hR5 := Cel.later hRr b5
    have bel5 := bel2.trans (b5.mono bel2.size)
    have hB5 := (hb.below bel5).more bel5.size
    have hltG := hG.lt
    obtain ⟨A', c', he, hD5⟩ := Rd.of own5 HL.out
    injection he with e1 e2 e3
    subst e1 e3
    have hen7 := yencode_any byp con (CR : Int) (CH : Int) (N4 : Int) A5 d m cq wc HL hD5.bs hD5.nil (by unfold maxLen; omega)
    rw [Fr.err_no hok, Fr.enc_no hok] at hen7
    clear b5 hRr hD5 hEn
    have g0 := hG.cell 0
    have g1 := hG.cell 1
    have g2 := hG.cell 2
    have g3 := hG.cell 3
    have g4 := hG.cell 4
    have g5 := hG.cell 5
    simp at g0 g1 g2 g3 g4 g5
    go_wp2_with fail
    refine hen7.mono ?_
    rintro e w7 ⟨v7, rfl, own7, b7⟩
    obtain ⟨A7, c7, rfl, hA7, hn7, _, _⟩ := own7.reads
    have hR7 := Cel.later hR5 b7
    have hG7 := Cel.later hG b7
    have bel7 := bel5.trans (b7.mono bel5.size)
    have hB7 := (hb.below bel7).more bel7.size
    have own57 := own5.below b7
    clear hen7 hR5 hG
    have c0 := hR7.cell 0
    have c1 := hR7.cell 1
    have c2 := hR7.cell 2
    have c3 := hR7.cell 3
    have c4 := hR7.cell 4
    have c5 := hR7.cell 5
    simp at c0 c1 c2 c3 c4 c5
    have f0 := hR7.free 0
    have f1 := hR7.free 1
    have f2 := hR7.free 2
    have f3 := hR7.free 3
    have f4 := hR7.free 4
    have f5 := hR7.free 5
    go_wp2
    exact bodyPost_ret (yde_results rfl rfl (putAll_cel hR7 false false 0 0 0 (.slice none 0 0))) rfl ⟨rfl, putAll_below bel7 (Nat.le_refl _) _ _ _ _ _ _⟩

set_option maxHeartbeats 2000000 in
theorem ydecode_size (a : Option Addr) (l : List Byte) (n c : Nat) (w : World) (hl : Hid (l.length = n)) (hb : Bs w w.heap.size a l) (hn : a = none → c = 0) (hnc : n ≤ c) (_hcm : c ≤ maxLen) (h : 8 ≤ n) (h2 : n ≤ 1024) (hck : ck16 l = true) (hok : (rd l).ok = true) (hen0 : (rd l).enc ≠ l) :
    Calls Try.prog 16 #[.slice a n c] w fun e w' => e = .returned (.tuple #[.agg #[.bool false, .bool false, .int .i64 0, .int .i64 0, .int .i64 0, .slice none 0 0], .int .i64 4]) ∧ Below w.heap.size w w' := by
  have b0 := bel_new w (.cells #[.bool false, .bool false, .int .i64 0, .int .i64 0, .int .i64 0, .slice none 0 0] 24)
  have hR0 := Cel.new w 24 #[.bool false, .bool false, .int .i64 0, .int .i64 0, .int .i64 0, .slice none 0 0]
  have hln := hl.out
  have g1 : decide ((n : Int) < 8) = false := by simp; omega
  have g2 : decide (n < 8) = false := by simp; omega
  have g3 : decide ((1024 : Int) < (n : Int)) = false := by simp; omega
  have g4 : decide (1024 < n) = false := by simp; omega
  have hs := ycheck16_len a l n c (w.alloc (.cells #[.bool false, .bool false, .int .i64 0, .int .i64 0, .int .i64 0, .slice none 0 0] 24)) hln ((hb.below b0).more b0.size) hnc (by omega)
  rw [hck] at hs
  obtain ⟨b, off, rfl, hbl, hc⟩ := head_at hb (by omega)
  have hsub := fun W (hB : Bs W W.heap.size (some ⟨b, off, none⟩) l) => Bs_sub hB rfl 5 (l.length - 7)
  have hsub0 := Bs_sub hb rfl 5 (l.length - 7)
  obtain ⟨m, hm⟩ : ∃ m, n = m + 7 := ⟨n - 7, by omega⟩
  have hd : (rd l).d = (l.drop 5).take (l.length - 7) := rfl
  have hdl : (rd l).d.length = m := by rw [rd_len (by omega)]; omega
  rw [← hd] at hsub hsub0
  have z0 := b8_lt l 0
  have t0 := hc 0 (by decide)
  have z1 := b8_lt l 1
  have t1 := hc 1 (by decide)
  have z2 := b8_lt l 2
  have t2 := hc 2 (by decide)
  have z3 := b8_lt l 3
  have t3 := hc 3 (by decide)
  have z4 := b8_lt l 4
  have t4 := hc 4 (by decide)
  simp only [Nat.add_zero] at t0
  have q1 : (rd l).byp = decide (b8 l 0 / 32 % 2 = 1) := rfl
  have q2 : (rd l).con = decide (b8 l 0 / 16 % 2 = 1) := rfl
  have q3 : (rd l).cr = ((fst2 l % 1024 : Nat) : Int) := rfl
  have q4 : (rd l).ch = ((snd2 l / 1024 : Nat) : Int) := rfl
  have q5 : (rd l).sq = ((b8 l 4 : Nat) : Int) := rfl
  unfold fst2 at q3
  unfold snd2 at q4
  obtain ⟨N0, hN0⟩ : ∃ N, N = b8 l 0 := ⟨_, rfl⟩
  obtain ⟨N1, hN1⟩ : ∃ N, N = b8 l 1 := ⟨_, rfl⟩
  obtain ⟨N2, hN2⟩ : ∃ N, N = b8 l 2 := ⟨_, rfl⟩
  obtain ⟨N3, hN3⟩ : ∃ N, N = b8 l 3 := ⟨_, rfl⟩
  obtain ⟨N4, hN4⟩ : ∃ N, N = b8 l 4 := ⟨_, rfl⟩
  rw [← hN0] at q1 q2 q3 t0 z0
  rw [← hN1] at q3 t1 z1
  rw [← hN2] at q4 t2 z2
  rw [← hN3] at q4 t3 z3
  rw [← hN4] at q5 t4 z4
  obtain ⟨H, hH⟩ : ∃ H, H = 256 * N0 + N1 := ⟨_, rfl⟩
  obtain ⟨C, hC⟩ : ∃ C, C = 256 * N2 + N3 := ⟨_, rfl⟩
  have HI : Hid ((N0 : Int) * 256 + (N1 : Int) = (H : Int)) := Lib.hid (by omega)
  have CI : Hid ((N2 : Int) * 256 + (N3 : Int) = (C : Int)) := Lib.hid (by omega)
  have zH : H < 65536 := by omega
  have zC : C < 65536 := by omega
  rw [← hH] at q3
  rw [← hC] at q4
  have q1' : (rd l).byp = decide (H / 8192 % 2 = 1) := by rw [q1, decide_eq_decide]; omega
  have q2' : (rd l).con = decide (H / 4096 % 2 = 1) := by rw [q2, decide_eq_decide]; omega
  obtain ⟨CR, hCR⟩ : ∃ CR, CR = H % 1024 := ⟨_, rfl⟩
  obtain ⟨CH, hCH⟩ : ∃ CH, CH = C / 1024 := ⟨_, rfl⟩
  rw [← hCR] at q3
  rw [← hCH] at q4
  have v3 : (H : Int).tmod 1024 = (CR : Int) := by rw [Int.tmod_eq_emod_of_nonneg (by omega)]; omega
  have v3' : (H : Int) % 1024 = (CR : Int) := by omega
  have v4 : (C : Int).tdiv 1024 = (CH : Int) := by rw [Int.tdiv_eq_ediv_of_nonneg (by omega)]; omega
  have v4' : (C : Int) / 1024 = (CH : Int) := by omega
  have v1 : (((H : Int) / 8192).tmod 2 == 1) = decide (H / 8192 % 2 = 1) := by
    rw [Int.tmod_eq_emod_of_nonneg (by omega), Bool.eq_iff_iff]
    simp
    omega
  have v2 : (((H : Int) / 4096).tmod 2 == 1) = decide (H / 4096 % 2 = 1) := by
    rw [Int.tmod_eq_emod_of_nonneg (by omega), Bool.eq_iff_iff]
    simp
    omega
  have v5 : IntKind.i64.wrap (CH : Int) = (CH : Int) := from_u64 CH (by omega)
  have v6 : IntKind.i64.wrap (N4 : Int) = (N4 : Int) := from_u64 N4 (by omega)
  rw [← q1'] at v1
  rw [← q2'] at v2
  obtain ⟨En, hEn⟩ : ∃ En, En = (rd l).enc := ⟨_, rfl⟩
  have hen := hen0
  rw [← hEn] at hen
  clear hen0
  obtain ⟨P, hP⟩ : ∃ P, P = rd l := ⟨_, rfl⟩
  rw [← hP] at hEn hsub hsub0 hok hdl v1 v2 q3 q4 q5
  obtain ⟨byp, con, cr, ch, sq, d⟩ := P
  simp only at hEn hsub hsub0 hok hdl v1 v2 q3 q4 q5
  have HL := Lib.hid hdl
  have s1 : (if c = 5 then (some ⟨b, off, none⟩ : Option Addr) else some ⟨b, off + 5, none⟩) = some ⟨b, off + 5, none⟩ := if_neg (by omega)
  obtain ⟨c3, hc3⟩ : ∃ c3, c - 5 = c3 := ⟨_, rfl⟩
  obtain ⟨M5, hM5⟩ : ∃ M5, M5 = m + 5 := ⟨_, rfl⟩
  have s2 : (4 : Int) < (n : Int) := by omega
  have s3 : IntKind.i64.wrap ((n : Int) - 2) = (M5 : Int) := by simp [IntKind.wrap, IntKind.bits, IntKind.signed]; omega
  have s4 : (M5 : Int) ≤ (c : Int) := by omega
  have s5 : max (M5 : Int) 0 = (M5 : Int) := by omega
  have s6 : (5 : Int) ≤ (M5 : Int) := by omega
  have s7 : M5 - 5 = m := by omega
  have hm1 : m ≤ 1017 := by omega
  clear hCR hCH q1' q2' hM5 hm hdl hd hln hP hck q1 q2 hH hC hN0 hN1 hN2 hN3 hN4 hc
  go_enter Try.func16, Try.ntmps16
  go_wp2_with fail
  refine hs.mono ?_
  rintro e w1 ⟨rfl, hb1⟩
  have hR1 := Cel.later hR0 hb1
  have bel1 := b0.trans (hb1.mono b0.size)
  have hB1 := (hb.below bel1).more bel1.size
  have hlt1 := hR1.lt
  have k0 := (bel1.cell (p := ⟨b, off, none⟩) hbl).trans t0
  have k1 := (bel1.cell (p := ⟨b, off + 1, none⟩) hbl).trans t1
  have k2 := (bel1.cell (p := ⟨b, off + 2, none⟩) hbl).trans t2
  have k3 := (bel1.cell (p := ⟨b, off + 3, none⟩) hbl).trans t3
  have k4 := (bel1.cell (p := ⟨b, off + 4, none⟩) hbl).trans t4
  clear hs hb1 hR0 b0
  go_wp2
  go_quiet (fail)
  rw [HI.out]
  obtain ⟨Wq, hWq⟩ : ∃ Wq, Wq = w1.drewN nq := ⟨_, rfl⟩
  have hq1 : Below w1.heap.size w1 Wq := by rw [hWq]; exact bel_drewN _ _ _
  rw [← hWq]
  replace k2 : Wq.cell? ⟨b, off + 2, none⟩ = some (.int .u8 (N2 : Int)) := by rw [hWq]; exact k2
  replace k3 : Wq.cell? ⟨b, off + 3, none⟩ = some (.int .u8 (N3 : Int)) := by rw [hWq]; exact k3
  replace k4 : Wq.cell? ⟨b, off + 4, none⟩ = some (.int .u8 (N4 : Int)) := by rw [hWq]; exact k4
  clear hWq k0 k1
  go_wp2
  go_quiet (fail)
  rw [CI.out]
  obtain ⟨Wr, hWr⟩ : ∃ Wr, Wr = Wq.drewN nq := ⟨_, rfl⟩
  have hq2 : Below w1.heap.size Wq Wr := by rw [hWr]; exact bel_drewN _ _ _
  rw [← hWr]
  replace k4 : Wr.cell? ⟨b, off + 4, none⟩ = some (.int .u8 (N4 : Int)) := by rw [hWr]; exact k4
  clear hWr k2 k3
  have hqr := hq1.trans hq2
  have hRr := Cel.later hR1 hqr
  have bel2 := bel1.trans (hqr.mono bel1.size)
  have hB2 := hsub0.below bel2
  have hltr := hRr.lt
  clear hq1 hq2 hqr hR1 bel1 hB1 hlt1
  go_upto_region 9 with fail
  go_cut [6] from 41 to 64 (fun gp wx => ∃ (G : Nat) (A5 : Option Addr) (c5 : Nat), gp = .pointer (some ⟨G, 0, none⟩) ∧ Cel wx G 24 #[.bool byp, .bool con, .int .i64 cr, .int .i64 ch, .int .i64 sq, .slice A5 m c5] ∧ Ow wx Wr.heap.size 5 (.slice A5 m c5) d ∧ Below Wr.heap.size Wr wx ∧ Wr.heap.size ≤ G)
  case first =>
    subst q3 q4 q5
    refine wp_region_held_drew (S := (fun w' => w'.cell? ⟨b, off + 4, none⟩ = some (.int .u8 (N4 : Int)))) (by kernel_rfl) (k4) (fun hHeld => ?_)
    refine wpAnyH_here 0 (v := ?_) rfl (by kernel_rfl) (by kernel_rfl) (by kernel_rfl) (fun _ _ _ h => h) (Or.inl ⟨by rfl, ?_⟩) hHeld ?_
    rotate_left
    · intro w hSw; (try dsimp only at hSw); go_simp; all_goals (with_reducible rfl)
    try simp only [Act.put, List.setIfInBounds_toArray, List.set_cons_zero, List.set_cons_succ]
    refine wpAnyH_here 1 (v := ?_) rfl (by kernel_rfl) (by kernel_rfl) (by kernel_rfl) (fun _ _ _ h => h) (Or.inl ⟨by rfl, ?_⟩) hHeld ?_
    rotate_left
    · intro w hSw; (try dsimp only at hSw); go_simp; all_goals (with_reducible rfl)
    try simp only [Act.put, List.setIfInBounds_toArray, List.set_cons_zero, List.set_cons_succ]
    refine wpAnyH_here 2 (v := ?_) rfl (by kernel_rfl) (by kernel_rfl) (by kernel_rfl) (fun _ _ _ h => h) (Or.inl ⟨by rfl, ?_⟩) hHeld ?_
    rotate_left
    · intro w hSw; (try dsimp only at hSw); go_simp; all_goals (with_reducible rfl)
    try simp only [Act.put, List.setIfInBounds_toArray, List.set_cons_zero, List.set_cons_succ]
    refine wpAnyH_here 3 (v := ?_) rfl (by kernel_rfl) (by kernel_rfl) (by kernel_rfl) (fun _ _ _ h => h) (Or.inl ⟨by rfl, ?_⟩) hHeld ?_
    rotate_left
    · intro w hSw; (try dsimp only at hSw); go_simp; all_goals (with_reducible rfl)
    try simp only [Act.put, List.setIfInBounds_toArray, List.set_cons_zero, List.set_cons_succ]
    refine wpAnyH_here 4 (v := ?_) rfl (by kernel_rfl) (by kernel_rfl) (by kernel_rfl) (fun _ _ _ h => h) (Or.inl ⟨by rfl, ?_⟩) hHeld ?_
    rotate_left
    · intro w hSw; (try dsimp only at hSw); go_simp; all_goals (with_reducible rfl)
    try simp only [Act.put, List.setIfInBounds_toArray, List.set_cons_zero, List.set_cons_succ]
    refine wpAnyH_here 5 (v := ?_) rfl (by kernel_rfl) (by kernel_rfl) (by kernel_rfl) (fun _ _ _ h => h) (Or.inl ⟨by rfl, ?_⟩) hHeld ?_
    rotate_left
    · intro w hSw; (try dsimp only at hSw); go_simp; all_goals (with_reducible rfl)
    try simp only [Act.put, List.setIfInBounds_toArray, List.set_cons_zero, List.set_cons_succ]
    refine wpAnyH_here 6 (v := ?_) rfl (by kernel_rfl) (by kernel_rfl) (by kernel_rfl) (fun _ _ _ h => h) (Or.inl ⟨by rfl, ?_⟩) hHeld ?_
    rotate_left
    · intro w hSw; (try dsimp only at hSw); go_simp; all_goals (with_reducible rfl)
    try simp only [Act.put, List.setIfInBounds_toArray, List.set_cons_zero, List.set_cons_succ]
    refine wpAnyH_here 7 (v := ?_) rfl (by kernel_rfl) (by kernel_rfl) (by kernel_rfl) (fun _ _ _ h => h) (Or.inl ⟨by rfl, ?_⟩) hHeld ?_
    rotate_left
    · intro w hSw; (try dsimp only at hSw); go_simp; all_goals (with_reducible rfl)
    try simp only [Act.put, List.setIfInBounds_toArray, List.set_cons_zero, List.set_cons_succ]
    refine wpAnyH_here 8 (v := ?_) rfl (by kernel_rfl) (by kernel_rfl) (by kernel_rfl) (fun _ _ _ h => h) (Or.inl ⟨by rfl, ?_⟩) hHeld ?_
    rotate_left
    · intro w hSw; (try dsimp only at hSw); go_simp; all_goals (with_reducible rfl)
    try simp only [Act.put, List.setIfInBounds_toArray, List.set_cons_zero, List.set_cons_succ]
    refine wpAnyH_here 9 (v := ?_) rfl (by kernel_rfl) (by kernel_rfl) (by kernel_rfl) (fun _ _ _ h => h) (Or.inl ⟨by rfl, ?_⟩) hHeld ?_
    rotate_left
    · intro w hSw; (try dsimp only at hSw); go_simp; all_goals (with_reducible rfl)
    try simp only [Act.put, List.setIfInBounds_toArray, List.set_cons_zero, List.set_cons_succ]
    refine wpAnyH_here 10 (v := ?_) rfl (by kernel_rfl) (by kernel_rfl) (by kernel_rfl) (fun _ _ _ h => h) (Or.inl ⟨by rfl, ?_⟩) hHeld ?_
    rotate_left
    · intro w hSw; (try dsimp only at hSw); go_simp; all_goals (with_reducible rfl)
    try simp only [Act.put, List.setIfInBounds_toArray, List.set_cons_zero, List.set_cons_succ]
    refine wpAnyH_here 11 (v := ?_) rfl (by kernel_rfl) (by kernel_rfl) (by kernel_rfl) (fun _ _ _ h => h) (Or.inl ⟨by rfl, ?_⟩) hHeld ?_
    rotate_left
    · intro w hSw; (try dsimp only at hSw); go_simp; all_goals (with_reducible rfl)
    try simp only [Act.put, List.setIfInBounds_toArray, List.set_cons_zero, List.set_cons_succ]
    refine wpAnyH_here 12 (v := ?_) rfl (by kernel_rfl) (by kernel_rfl) (by kernel_rfl) (fun _ _ _ h => h) (Or.inl ⟨by rfl, ?_⟩) hHeld ?_
    rotate_left
    · intro w hSw; (try dsimp only at hSw); go_simp; all_goals (with_reducible rfl)
    try simp only [Act.put, List.setIfInBounds_toArray, List.set_cons_zero, List.set_cons_succ]
    refine wpAnyH_here 13 (v := ?_) rfl (by kernel_rfl) (by kernel_rfl) (by kernel_rfl) (fun _ _ _ h => h) (Or.inl ⟨by rfl, ?_⟩) hHeld ?_
    rotate_left
    · intro w hSw; (try dsimp only at hSw); go_simp; all_goals (with_reducible rfl)
    try simp only [Act.put, List.setIfInBounds_toArray, List.set_cons_zero, List.set_cons_succ]
    refine wpAnyH_here 14 (v := ?_) rfl (by kernel_rfl) (by kernel_rfl) (by kernel_rfl) (fun _ _ _ h => h) (Or.inl ⟨by rfl, ?_⟩) hHeld ?_
    rotate_left
    · intro w hSw; (try dsimp only at hSw); go_simp; all_goals (with_reducible rfl)
    try simp only [Act.put, List.setIfInBounds_toArray, List.set_cons_zero, List.set_cons_succ]
    refine wpAnyH_here 15 (v := ?_) rfl (by kernel_rfl) (by kernel_rfl) (by kernel_rfl) (fun _ _ _ h => h) (Or.inl ⟨by rfl, ?_⟩) hHeld ?_
    rotate_left
    · intro w hSw; (try dsimp only at hSw); go_simp; all_goals (with_reducible rfl)
    try simp only [Act.put, List.setIfInBounds_toArray, List.set_cons_zero, List.set_cons_succ]
    refine wpAnyH_here 17 (v := ?_) rfl (by kernel_rfl) (by kernel_rfl) (by kernel_rfl) (fun _ _ _ h => h) (Or.inl ⟨by rfl, ?_⟩) hHeld ?_
    rotate_left
    · intro w hSw; (try dsimp only at hSw); go_simp; all_goals (with_reducible rfl)
    try simp only [Act.put, List.setIfInBounds_toArray, List.set_cons_zero, List.set_cons_succ]
    refine wpAnyH_here 18 (v := ?_) rfl (by kernel_rfl) (by kernel_rfl) (by kernel_rfl) (fun _ _ _ h => h) (Or.inl ⟨by rfl, ?_⟩) hHeld ?_
    rotate_left
    · intro w hSw; (try dsimp only at hSw); go_simp; all_goals (with_reducible rfl)
    try simp only [Act.put, List.setIfInBounds_toArray, List.set_cons_zero, List.set_cons_succ]
    refine wpAnyH_here 19 (v := ?_) rfl (by kernel_rfl) (by kernel_rfl) (by kernel_rfl) (fun _ _ _ h => h) (Or.inl ⟨by rfl, ?_⟩) hHeld ?_
    rotate_left
    · intro w hSw; (try dsimp only at hSw); go_simp; all_goals (with_reducible rfl)
    try simp only [Act.put, List.setIfInBounds_toArray, List.set_cons_zero, List.set_cons_succ]
    refine wpAnyH_here 20 (v := ?_) rfl (by kernel_rfl) (by kernel_rfl) (by kernel_rfl) (fun _ _ _ h => h) (Or.inl ⟨by rfl, ?_⟩) hHeld ?_
    rotate_left
    · intro w hSw; (try dsimp only at hSw); go_simp; all_goals (with_reducible rfl)
    try simp only [Act.put, List.setIfInBounds_toArray, List.set_cons_zero, List.set_cons_succ]
    refine wpAnyH_here 21 (v := ?_) rfl (by kernel_rfl) (by kernel_rfl) (by kernel_rfl) (fun _ _ _ h => h) (Or.inl ⟨by rfl, ?_⟩) hHeld ?_
    rotate_left
    · intro w hSw; (try dsimp only at hSw); go_simp; all_goals (with_reducible rfl)
    try simp only [Act.put, List.setIfInBounds_toArray, List.set_cons_zero, List.set_cons_succ]
    have hbr : b < Wr.heap.size := by omega
    have hBd : Bs Wr Wr.heap.size (some ⟨b, off + 5, none⟩) d := hB2.more (by omega)
    have hs0 : Wr.heap.size ≤ Wr.heap.size := Nat.le_refl _
    refine wpAnyH_both 16 24 rfl rfl (by kernel_rfl) (fun K hK => ?_) (fun K hK => ?_)
    · go_simp
      have own1 := (Ow_empty Wr Wr.heap.size 5 hs0).drew
      have HB1 : Below Wr.heap.size Wr (Wr.alloc (.cells #[] 5)).drew := (bel_new _ _).drew
      refine hK.out _ _ ((HB1.cell (p := ⟨b, off + 4, none⟩) hbr).trans k4) (fun hHeld => ?_)
      clear hK K
      try simp only [Act.put, List.setIfInBounds_toArray, List.set_cons_zero, List.set_cons_succ]
      obtain ⟨V1, hV1⟩ : ∃ V1, V1 = (Wr.alloc (.cells #[] 5)).drew := ⟨_, rfl⟩
      have sV : Wr.heap.size < V1.heap.size := by rw [hV1]; simp
      rw [← hV1] at own1 HB1 hHeld ⊢
      clear hV1
      refine wpAnyH_both 22 24 rfl rfl (by kernel_rfl) (fun K hK => ?_) (fun K hK => ?_)
      · refine step_app _ is_bytes rfl (.tmp 57) (.tmp 62) rfl (m := []) rfl own1 (l := d) (A := some ⟨b, off + 5, none⟩) (c := c3) (by rw [HL.out]; rfl) (hBd.below HB1) (fun h => nomatch h) (by rw [HL.out]; simp; omega) HB1.size ?_
        intro v5 W5 own5 gr5
        rw [List.nil_append] at own5
        have HB5 := HB1.grown gr5 HB1.size own1.base_le
        obtain ⟨A5, c5, rfl, _⟩ := own5.reads_len (n := m) HL.out
        refine hK.out _ _ ((HB5.cell (p := ⟨b, off + 4, none⟩) hbr).trans k4) (fun hHeld => ?_)
        clear hK K
        try simp only [Act.put, List.setIfInBounds_toArray, List.set_cons_zero, List.set_cons_succ]
        refine wpAnyH_here 23 (v := ?_) rfl (by kernel_rfl) (by kernel_rfl) (by kernel_rfl) (fun _ _ _ h => h) (Or.inl ⟨by rfl, ?_⟩) hHeld ?_
        rotate_left
        · intro w hSw; (try dsimp only at hSw); go_simp; all_goals (with_reducible rfl)
        try simp only [Act.put, List.setIfInBounds_toArray, List.set_cons_zero, List.set_cons_succ]
        refine wpAnyH_alone 24 rfl (by kernel_rfl) (fun K hK => ?_)
        go_simp
        have HB6 := HB5.alloc HB5.size (.cells #[.bool false, .bool false, .int .i64 0, .int .i64 0, .int .i64 0, .slice none 0 0] 24)
        refine hK.out _ _ ((HB6.cell (p := ⟨b, off + 4, none⟩) hbr).trans k4) (fun hHeld => ?_)
        clear hK K
        try simp only [Act.put, List.setIfInBounds_toArray, List.set_cons_zero, List.set_cons_succ]
        refine wpAnyH_alone 25 rfl (by kernel_rfl) (fun K hK => ?_)
        have HB7 := HB5.alloc HB5.size (.cells #[.bool byp, .bool con, .int .i64 (CR : Int), .int .i64 (CH : Int), .int .i64 (N4 : Int), .slice A5 m c5] 24)
        have own7 := own5.alloc (.cells #[.bool byp, .bool con, .int .i64 (CR : Int), .int .i64 (CH : Int), .int .i64 (N4 : Int), .slice A5 m c5] 24)
        have C7 := Cel.new W5 24 #[.bool byp, .bool con, .int .i64 (CR : Int), .int .i64 (CH : Int), .int .i64 (N4 : Int), .slice A5 m c5]
        go_simp
        refine hK.out _ _ ((HB7.cell (p := ⟨b, off + 4, none⟩) hbr).trans k4) (fun hHeld => ?_)
        clear hK K
        try simp only [Act.put, List.setIfInBounds_toArray, List.set_cons_zero, List.set_cons_succ]
        refine wpAnyH_done (by kernel_rfl) ?_ _
        go_wp2
        go_meet
        case rel => exact ⟨_, A5, c5, rfl, C7, own7, HB7, HB5.size⟩
      · go_simp
        have HB2 := HB1.alloc HB1.size (.cells #[.bool false, .bool false, .int .i64 0, .int .i64 0, .int .i64 0, .slice none 0 0] 24)
        have own2 := own1.alloc (.cells #[.bool false, .bool false, .int .i64 0, .int .i64 0, .int .i64 0, .slice none 0 0] 24)
        have R2 := Cel.new V1 24 #[.bool false, .bool false, .int .i64 0, .int .i64 0, .int .i64 0, .slice none 0 0]
        refine hK.out _ _ ((HB2.cell (p := ⟨b, off + 4, none⟩) hbr).trans k4) (fun hHeld => ?_)
        clear hK K
        try simp only [Act.put, List.setIfInBounds_toArray, List.set_cons_zero, List.set_cons_succ]
        refine wpAnyH_alone 22 rfl (by kernel_rfl) (fun K hK => ?_)
        refine step_app _ is_bytes rfl (.tmp 57) (.tmp 62) rfl (m := []) rfl own2 (l := d) (A := some ⟨b, off + 5, none⟩) (c := c3) (by rw [HL.out]; rfl) (hBd.below HB2) (fun h => nomatch h) (by rw [HL.out]; simp; omega) HB2.size ?_
        intro v5 W5 own5 gr5
        rw [List.nil_append] at own5
        have HB5 := HB2.grown gr5 HB2.size own2.base_le
        obtain ⟨A5, c5, rfl, _⟩ := own5.reads_len (n := m) HL.out
        refine hK.out _ _ ((HB5.cell (p := ⟨b, off + 4, none⟩) hbr).trans k4) (fun hHeld => ?_)
        clear hK K
        try simp only [Act.put, List.setIfInBounds_toArray, List.set_cons_zero, List.set_cons_succ]
        have R5 := R2.only (Only.of_grown gr5) (by show V1.heap.size ∉ [Wr.heap.size]; simp; omega)
        have e0 := R5.cell 0
        have e1 := R5.cell 1
        have e2 := R5.cell 2
        have e3 := R5.cell 3
        have e4 := R5.cell 4
        have e5 := R5.cell 5
        simp at e0 e1 e2 e3 e4 e5
        have f0 := R5.free 0
        have f1 := R5.free 1
        have f2 := R5.free 2
        have f3 := R5.free 3
        have f4 := R5.free 4
        have f5 := R5.free 5
        refine wpAnyH_here 23 (v := ?_) rfl (by kernel_rfl) (by kernel_rfl) (by kernel_rfl) (fun _ _ _ h => h) (Or.inl ⟨by rfl, ?_⟩) hHeld ?_
        rotate_left
        · intro w hSw; (try dsimp only at hSw); go_simp; all_goals (with_reducible rfl)
        try simp only [Act.put, List.setIfInBounds_toArray, List.set_cons_zero, List.set_cons_succ]
        refine wpAnyH_alone 25 rfl (by kernel_rfl) (fun K hK => ?_)
        have HB7 := HB5.trans ((putAll_only W5 V1.heap.size byp con (CR : Int) (CH : Int) (N4 : Int) (.slice A5 m c5)).below HB5.size (by simp; try omega))
        have own7 := own5.only (putAll_only W5 V1.heap.size byp con (CR : Int) (CH : Int) (N4 : Int) (.slice A5 m c5)) (fun i hi hm => own5.apart R5 (by decide) (by rw [hi, List.mem_singleton.1 hm]))
        have C7 := putAll_cel R5 byp con (CR : Int) (CH : Int) (N4 : Int) (.slice A5 m c5)
        go_simp
        refine hK.out _ _ ((HB7.cell (p := ⟨b, off + 4, none⟩) hbr).trans k4) (fun hHeld => ?_)
        clear hK K
        try simp only [Act.put, List.setIfInBounds_toArray, List.set_cons_zero, List.set_cons_succ]
        refine wpAnyH_done (by kernel_rfl) ?_ _
        go_wp2
        go_meet
        case rel => exact ⟨_, A5, c5, rfl, C7, own7, HB7, Nat.le_of_lt sV⟩
    · go_simp
      have HB1 : Below Wr.heap.size Wr (Wr.alloc (.cells #[.bool false, .bool false, .int .i64 0, .int .i64 0, .int .i64 0, .slice none 0 0] 24)).drew := (bel_new _ _).drew
      have R1 : Cel (Wr.alloc (.cells #[.bool false, .bool false, .int .i64 0, .int .i64 0, .int .i64 0, .slice none 0 0] 24)).drew Wr.heap.size 24 #[.bool false, .bool false, .int .i64 0, .int .i64 0, .int .i64 0, .slice none 0 0] := (Cel.new Wr 24 #[.bool false, .bool false, .int .i64 0, .int .i64 0, .int .i64 0, .slice none 0 0]).draws 1
      refine hK.out _ _ ((HB1.cell (p := ⟨b, off + 4, none⟩) hbr).trans k4) (fun hHeld => ?_)
      clear hK K
      try simp only [Act.put, List.setIfInBounds_toArray, List.set_cons_zero, List.set_cons_succ]
      obtain ⟨V1, hV1⟩ : ∃ V1, V1 = (Wr.alloc (.cells #[.bool false, .bool false, .int .i64 0, .int .i64 0, .int .i64 0, .slice none 0 0] 24)).drew := ⟨_, rfl⟩
      have sV : Wr.heap.size < V1.heap.size := by rw [hV1]; simp
      rw [← hV1] at HB1 R1 hHeld ⊢
      clear hV1
      refine wpAnyH_alone 16 rfl (by kernel_rfl) (fun K hK => ?_)
      go_simp
      have HB2 := HB1.alloc HB1.size (.cells #[] 5)
      have own2 := Ow_empty V1 Wr.heap.size 5 HB1.size
      have R2 := Cel.later R1 (bel_new V1 (.cells #[] 5))
      refine hK.out _ _ ((HB2.cell (p := ⟨b, off + 4, none⟩) hbr).trans k4) (fun hHeld => ?_)
      clear hK K
      try simp only [Act.put, List.setIfInBounds_toArray, List.set_cons_zero, List.set_cons_succ]
      refine wpAnyH_alone 22 rfl (by kernel_rfl) (fun K hK => ?_)
      refine step_app _ is_bytes rfl (.tmp 57) (.tmp 62) rfl (m := []) rfl own2 (l := d) (A := some ⟨b, off + 5, none⟩) (c := c3) (by rw [HL.out]; rfl) (hBd.below HB2) (fun h => nomatch h) (by rw [HL.out]; simp; omega) HB2.size ?_
      intro v5 W5 own5 gr5
      rw [List.nil_append] at own5
      have HB5 := HB2.grown gr5 HB2.size own2.base_le
      obtain ⟨A5, c5, rfl, _⟩ := own5.reads_len (n := m) HL.out
      refine hK.out _ _ ((HB5.cell (p := ⟨b, off + 4, none⟩) hbr).trans k4) (fun hHeld => ?_)
      clear hK K
      try simp only [Act.put, List.setIfInBounds_toArray, List.set_cons_zero, List.set_cons_succ]
      have R5 := R2.only (Only.of_grown gr5) (by show Wr.heap.size ∉ [V1.heap.size]; simp; omega)
      have e0 := R5.cell 0
      have e1 := R5.cell 1
      have e2 := R5.cell 2
      have e3 := R5.cell 3
      have e4 := R5.cell 4
      have e5 := R5.cell 5
      simp at e0 e1 e2 e3 e4 e5
      have f0 := R5.free 0
      have f1 := R5.free 1
      have f2 := R5.free 2
      have f3 := R5.free 3
      have f4 := R5.free 4
      have f5 := R5.free 5
      refine wpAnyH_here 23 (v := ?_) rfl (by kernel_rfl) (by kernel_rfl) (by kernel_rfl) (fun _ _ _ h => h) (Or.inl ⟨by rfl, ?_⟩) hHeld ?_
      rotate_left
      · intro w hSw; (try dsimp only at hSw); go_simp; all_goals (with_reducible rfl)
      try simp only [Act.put, List.setIfInBounds_toArray, List.set_cons_zero, List.set_cons_succ]
      refine wpAnyH_alone 25 rfl (by kernel_rfl) (fun K hK => ?_)
      have HB7 := HB5.trans ((putAll_only W5 Wr.heap.size byp con (CR : Int) (CH : Int) (N4 : Int) (.slice A5 m c5)).below HB5.size (by simp; try omega))
      have own7 := own5.only (putAll_only W5 Wr.heap.size byp con (CR : Int) (CH : Int) (N4 : Int) (.slice A5 m c5)) (fun i hi hm => own5.apart R5 (by decide) (by rw [hi, List.mem_singleton.1 hm]))
      have C7 := putAll_cel R5 byp con (CR : Int) (CH : Int) (N4 : Int) (.slice A5 m c5)
      go_simp
      refine hK.out _ _ ((HB7.cell (p := ⟨b, off + 4, none⟩) hbr).trans k4) (fun hHeld => ?_)
      clear hK K
      try simp only [Act.put, List.setIfInBounds_toArray, List.set_cons_zero, List.set_cons_succ]
      refine wpAnyH_done (by kernel_rfl) ?_ _
      go_wp2
      go_meet
      case rel => exact ⟨_, A5, c5, rfl, C7, own7, HB7, Nat.le_refl _⟩
  case rest =>
    subst q3 q4 q5
    obtain ⟨G, A5, cq, rfl, hG, own5, b5, hGle⟩ := hcut
    have hR5 := Cel.later hRr b5
    have bel5 := bel2.trans (b5.mono bel2.size)
    have hB5 := (hb.below bel5).more bel5.size
    have hltG := hG.lt
    obtain ⟨A', c', he, hD5⟩ := Rd.of own5 HL.out
    injection he with e1 e2 e3
    subst e1 e3
    have hen7 := yencode_any byp con (CR : Int) (CH : Int) (N4 : Int) A5 d m cq wc HL hD5.bs hD5.nil (by unfold maxLen; omega)
    rw [Fr.err_yes hok, ← hEn] at hen7
    clear b5 hRr hD5 hEn
    have g0 := hG.cell 0
    have g1 := hG.cell 1
    have g2 := hG.cell 2
    have g3 := hG.cell 3
    have g4 := hG.cell 4
    have g5 := hG.cell 5
    simp at g0 g1 g2 g3 g4 g5
    go_wp2_with fail
    refine hen7.mono ?_
    rintro e w7 ⟨v7, rfl, own7, b7⟩
    obtain ⟨A7, c7, rfl, hA7, hn7, _, _⟩ := own7.reads
    have hR7 := Cel.later hR5 b7
    have hG7 := Cel.later hG b7
    have bel7 := bel5.trans (b7.mono bel5.size)
    have hB7 := (hb.below bel7).more bel7.size
    have own57 := own5.below b7
    clear hen7 hR5 hG
    have y1 := run_str (P := Try.prog) w7 is_bytes Try.underlying9 hA7 hn7
    have y2 := run_str (P := Try.prog) (c := c) w7 is_bytes Try.underlying9 hB7 (fun h => nomatch h)
    rw [hl.out] at y2
    have y3 : ((str En).toList == (str l).toList) = false := by rw [str_beq, decide_eq_false hen]
    have y4 : ((str En).toList != (str l).toList) = true := by unfold bne; rw [y3]; rfl
    clear hen
    have c0 := hR7.cell 0
    have c1 := hR7.cell 1
    have c2 := hR7.cell 2
    have c3 := hR7.cell 3
    have c4 := hR7.cell 4
    have c5 := hR7.cell 5
    simp at c0 c1 c2 c3 c4 c5
    have f0 := hR7.free 0
    have f1 := hR7.free 1
    have f2 := hR7.free 2
    have f3 := hR7.free 3
    have f4 := hR7.free 4
    have f5 := hR7.free 5
    go_wp2
    exact bodyPost_ret (yde_results rfl rfl (putAll_cel hR7 false false 0 0 0 (.slice none 0 0))) rfl ⟨rfl, putAll_below bel7 (Nat.le_refl _) _ _ _ _ _ _⟩

set_option maxHeartbeats 2000000 in
theorem ydecode_good (a : Option Addr) (l : List Byte) (n c : Nat) (w : World) (hl : Hid (l.length = n)) (hb : Bs w w.heap.size a l) (hn : a = none → c = 0) (hnc : n ≤ c) (_hcm : c ≤ maxLen) (h : 8 ≤ n) (h2 : n ≤ 1024) (hck : ck16 l = true) (hok : (rd l).ok = true) (hen0 : (rd l).enc = l) :
    Calls Try.prog 16 #[.slice a n c] w fun e w' => ∃ v, e = .returned (.tuple #[.agg #[.bool (rd l).byp, .bool (rd l).con, .int .i64 (rd l).cr, .int .i64 (rd l).ch, .int .i64 (rd l).sq, v], .int .i64 0]) ∧ Ow w' w.heap.size 5 v (rd l).d ∧ Below w.heap.size w w' := by
  have b0 := bel_new w (.cells #[.bool false, .bool false, .int .i64 0, .int .i64 0, .int .i64 0, .slice none 0 0] 24)
  have hR0 := Cel.new w 24 #[.bool false, .bool false, .int .i64 0, .int .i64 0, .int .i64 0, .slice none 0 0]
  have hln := hl.out
  have g1 : decide ((n : Int) < 8) = false := by simp; omega
  have g2 : decide (n < 8) = false := by simp; omega
  have g3 : decide ((1024 : Int) < (n : Int)) = false := by simp; omega
  have g4 : decide (1024 < n) = false := by simp; omega
  have hs := ycheck16_len a l n c (w.alloc (.cells #[.bool false, .bool false, .int .i64 0, .int .i64 0, .int .i64 0, .slice none 0 0] 24)) hln ((hb.below b0).more b0.size) hnc (by omega)
  rw [hck] at hs
  obtain ⟨b, off, rfl, hbl, hc⟩ := head_at hb (by omega)
  have hsub := fun W (hB : Bs W W.heap.size (some ⟨b, off, none⟩) l) => Bs_sub hB rfl 5 (l.length - 7)
  have hsub0 := Bs_sub hb rfl 5 (l.length - 7)
  obtain ⟨m, hm⟩ : ∃ m, n = m + 7 := ⟨n - 7, by omega⟩
  have hd : (rd l).d = (l.drop 5).take (l.length - 7) := rfl
  have hdl : (rd l).d.length = m := by rw [rd_len (by omega)]; omega
  rw [← hd] at hsub hsub0
  have z0 := b8_lt l 0
  have t0 := hc 0 (by decide)
  have z1 := b8_lt l 1
  have t1 := hc 1 (by decide)
  have z2 := b8_lt l 2
  have t2 := hc 2 (by decide)
  have z3 := b8_lt l 3
  have t3 := hc 3 (by decide)
  have z4 := b8_lt l 4
  have t4 := hc 4 (by decide)
  simp only [Nat.add_zero] at t0
  have q1 : (rd l).byp = decide (b8 l 0 / 32 % 2 = 1) := rfl
  have q2 : (rd l).con = decide (b8 l 0 / 16 % 2 = 1) := rfl
  have q3 : (rd l).cr = ((fst2 l % 1024 : Nat) : Int) := rfl
  have q4 : (rd l).ch = ((snd2 l / 1024 : Nat) : Int) := rfl
  have q5 : (rd l).sq = ((b8 l 4 : Nat) : Int) := rfl
  unfold fst2 at q3
  unfold snd2 at q4
  obtain ⟨N0, hN0⟩ : ∃ N, N = b8 l 0 := ⟨_, rfl⟩
  obtain ⟨N1, hN1⟩ : ∃ N, N = b8 l 1 := ⟨_, rfl⟩
  obtain ⟨N2, hN2⟩ : ∃ N, N = b8 l 2 := ⟨_, rfl⟩
  obtain ⟨N3, hN3⟩ : ∃ N, N = b8 l 3 := ⟨_, rfl⟩
  obtain ⟨N4, hN4⟩ : ∃ N, N = b8 l 4 := ⟨_, rfl⟩
  rw [← hN0] at q1 q2 q3 t0 z0
  rw [← hN1] at q3 t1 z1
  rw [← hN2] at q4 t2 z2
  rw [← hN3] at q4 t3 z3
  rw [← hN4] at q5 t4 z4
  obtain ⟨H, hH⟩ : ∃ H, H = 256 * N0 + N1 := ⟨_, rfl⟩
  obtain ⟨C, hC⟩ : ∃ C, C = 256 * N2 + N3 := ⟨_, rfl⟩
  have HI : Hid ((N0 : Int) * 256 + (N1 : Int) = (H : Int)) := Lib.hid (by omega)
  have CI : Hid ((N2 : Int) * 256 + (N3 : Int) = (C : Int)) := Lib.hid (by omega)
  have zH : H < 65536 := by omega
  have zC : C < 65536 := by omega
  rw [← hH] at q3
  rw [← hC] at q4
  have q1' : (rd l).byp = decide (H / 8192 % 2 = 1) := by rw [q1, decide_eq_decide]; omega
  have q2' : (rd l).con = decide (H / 4096 % 2 = 1) := by rw [q2, decide_eq_decide]; omega
  obtain ⟨CR, hCR⟩ : ∃ CR, CR = H % 1024 := ⟨_, rfl⟩
  obtain ⟨CH, hCH⟩ : ∃ CH, CH = C / 1024 := ⟨_, rfl⟩
  rw [← hCR] at q3
  rw [← hCH] at q4
  have v3 : (H : Int).tmod 1024 = (CR : Int) := by rw [Int.tmod_eq_emod_of_nonneg (by omega)]; omega
  have v3' : (H : Int) % 1024 = (CR : Int) := by omega
  have v4 : (C : Int).tdiv 1024 = (CH : Int) := by rw [Int.tdiv_eq_ediv_of_nonneg (by omega)]; omega
  have v4' : (C : Int) / 1024 = (CH : Int) := by omega
  have v1 : (((H : Int) / 8192).tmod 2 == 1) = decide (H / 8192 % 2 = 1) := by
    rw [Int.tmod_eq_emod_of_nonneg (by omega), Bool.eq_iff_iff]
    simp
    omega
  have v2 : (((H : Int) / 4096).tmod 2 == 1) = decide (H / 4096 % 2 = 1) := by
    rw [Int.tmod_eq_emod_of_nonneg (by omega), Bool.eq_iff_iff]
    simp
    omega
  have v5 : IntKind.i64.wrap (CH : Int) = (CH : Int) := from_u64 CH (by omega)
  have v6 : IntKind.i64.wrap (N4 : Int) = (N4 : Int) := from_u64 N4 (by omega)
  rw [← q1'] at v1
  rw [← q2'] at v2
  obtain ⟨En, hEn⟩ : ∃ En, En = (rd l).enc := ⟨_, rfl⟩
  have hen := hen0
  rw [← hEn] at hen
  clear hen0
  obtain ⟨P, hP⟩ : ∃ P, P = rd l := ⟨_, rfl⟩
  rw [← hP] at hEn hsub hsub0 hok hdl v1 v2 q3 q4 q5 ⊢
  obtain ⟨byp, con, cr, ch, sq, d⟩ := P
  simp only at hEn hsub hsub0 hok hdl v1 v2 q3 q4 q5 ⊢
  have HL := Lib.hid hdl
  have s1 : (if c = 5 then (some ⟨b, off, none⟩ : Option Addr) else some ⟨b, off + 5, none⟩) = some ⟨b, off + 5, none⟩ := if_neg (by omega)
  obtain ⟨c3, hc3⟩ : ∃ c3, c - 5 = c3 := ⟨_, rfl⟩
  obtain ⟨M5, hM5⟩ : ∃ M5, M5 = m + 5 := ⟨_, rfl⟩
  have s2 : (4 : Int) < (n : Int) := by omega
  have s3 : IntKind.i64.wrap ((n : Int) - 2) = (M5 : Int) := by simp [IntKind.wrap, IntKind.bits, IntKind.signed]; omega
  have s4 : (M5 : Int) ≤ (c : Int) := by omega
  have s5 : max (M5 : Int) 0 = (M5 : Int) := by omega
  have s6 : (5 : Int) ≤ (M5 : Int) := by omega
  have s7 : M5 - 5 = m := by omega
  have hm1 : m ≤ 1017 := by omega
  clear hCR hCH q1' q2' hM5 hm hdl hd hln hP hck q1 q2 hH hC hN0 hN1 hN2 hN3 hN4 hc
  go_enter Try.func16, Try.ntmps16
  go_wp2_with fail
  refine hs.mono ?_
  rintro e w1 ⟨rfl, hb1⟩
  have hR1 := Cel.later hR0 hb1
  have bel1 := b0.trans (hb1.mono b0.size)
  have hB1 := (hb.below bel1).more bel1.size
  have hlt1 := hR1.lt
  have k0 := (bel1.cell (p := ⟨b, off, none⟩) hbl).trans t0
  have k1 := (bel1.cell (p := ⟨b, off + 1, none⟩) hbl).trans t1
  have k2 := (bel1.cell (p := ⟨b, off + 2, none⟩) hbl).trans t2
  have k3 := (bel1.cell (p := ⟨b, off + 3, none⟩) hbl).trans t3
  have k4 := (bel1.cell (p := ⟨b, off + 4, none⟩) hbl).trans t4
  clear hs hb1 hR0 b0
  go_wp2
  go_quiet (fail)
  rw [HI.out]
  obtain ⟨Wq, hWq⟩ : ∃ Wq, Wq = w1.drewN nq := ⟨_, rfl⟩
  have hq1 : Below w1.heap.size w1 Wq := by rw [hWq]; exact bel_drewN _ _ _
  rw [← hWq]
  replace k2 : Wq.cell? ⟨b, off + 2, none⟩ = some (.int .u8 (N2 : Int)) := by rw [hWq]; exact k2
  replace k3 : Wq.cell? ⟨b, off + 3, none⟩ = some (.int .u8 (N3 : Int)) := by rw [hWq]; exact k3
  replace k4 : Wq.cell? ⟨b, off + 4, none⟩ = some (.int .u8 (N4 : Int)) := by rw [hWq]; exact k4
  clear hWq k0 k1
  go_wp2
  go_quiet (fail)
  rw [CI.out]
  obtain ⟨Wr, hWr⟩ : ∃ Wr, Wr = Wq.drewN nq := ⟨_, rfl⟩
  have hq2 : Below w1.heap.size Wq Wr := by rw [hWr]; exact bel_drewN _ _ _
  rw [← hWr]
  replace k4 : Wr.cell? ⟨b, off + 4, none⟩ = some (.int .u8 (N4 : Int)) := by rw [hWr]; exact k4
  clear hWr k2 k3
  have hqr := hq1.trans hq2
  have hRr := Cel.later hR1 hqr
  have bel2 := bel1.trans (hqr.mono bel1.size)
  have hB2 := hsub0.below bel2
  have hltr := hRr.lt
  clear hq1 hq2 hqr hR1 bel1 hB1 hlt1
  go_upto_region 9 with fail
  go_cut [6] from 41 to 64 (fun gp wx => ∃ (G : Nat) (A5 : Option Addr) (c5 : Nat), gp = .pointer (some ⟨G, 0, none⟩) ∧ Cel wx G 24 #[.bool byp, .bool con, .int .i64 cr, .int .i64 ch, .int .i64 sq, .slice A5 m c5] ∧ Ow wx Wr.heap.size 5 (.slice A5 m c5) d ∧ Below Wr.heap.size Wr wx ∧ Wr.heap.size ≤ G)
  case first =>
    subst q3 q4 q5
    refine wp_region_held_drew (S := (fun w' => w'.cell? ⟨b, off + 4, none⟩ = some (.int .u8 (N4 : Int)))) (by kernel_rfl) (k4) (fun hHeld => ?_)
    refine wpAnyH_here 0 (v := ?_) rfl (by kernel_rfl) (by kernel_rfl) (by kernel_rfl) (fun _ _ _ h => h) (Or.inl ⟨by rfl, ?_⟩) hHeld ?_
    rotate_left
    · intro w hSw; (try dsimp only at hSw); go_simp; all_goals (with_reducible rfl)
    try simp only [Act.put, List.setIfInBounds_toArray, List.set_cons_zero, List.set_cons_succ]
    refine wpAnyH_here 1 (v := ?_) rfl (by kernel_rfl) (by kernel_rfl) (by kernel_rfl) (fun _ _ _ h => h) (Or.inl ⟨by rfl, ?_⟩) hHeld ?_
    rotate_left
    · intro w hSw; (try dsimp only at hSw); go_simp; all_goals (with_reducible rfl)
    try simp only [Act.put, List.setIfInBounds_toArray, List.set_cons_zero, List.set_cons_succ]
    refine wpAnyH_here 2 (v := ?_) rfl (by kernel_rfl) (by kernel_rfl) (by kernel_rfl) (fun _ _ _ h => h) (Or.inl ⟨by rfl, ?_⟩) hHeld ?_
    rotate_left
    · intro w hSw; (try dsimp only at hSw); go_simp; all_goals (with_reducible rfl)
    try simp only [Act.put, List.setIfInBounds_toArray, List.set_cons_zero, List.set_cons_succ]
    refine wpAnyH_here 3 (v := ?_) rfl (by kernel_rfl) (by kernel_rfl) (by kernel_rfl) (fun _ _ _ h => h) (Or.inl ⟨by rfl, ?_⟩) hHeld ?_
    rotate_left
    · intro w hSw; (try dsimp only at hSw); go_simp; all_goals (with_reducible rfl)
    try simp only [Act.put, List.setIfInBounds_toArray, List.set_cons_zero, List.set_cons_succ]
    refine wpAnyH_here 4 (v := ?_) rfl (by kernel_rfl) (by kernel_rfl) (by kernel_rfl) (fun _ _ _ h => h) (Or.inl ⟨by rfl, ?_⟩) hHeld ?_
    rotate_left
    · intro w hSw; (try dsimp only at hSw); go_simp; all_goals (with_reducible rfl)
    try simp only [Act.put, List.setIfInBounds_toArray, List.set_cons_zero, List.set_cons_succ]
    refine wpAnyH_here 5 (v := ?_) rfl (by kernel_rfl) (by kernel_rfl) (by kernel_rfl) (fun _ _ _ h => h) (Or.inl ⟨by rfl, ?_⟩) hHeld ?_
    rotate_left
    · intro w hSw; (try dsimp only at hSw); go_simp; all_goals (with_reducible rfl)
    try simp only [Act.put, List.setIfInBounds_toArray, List.set_cons_zero, List.set_cons_succ]
    refine wpAnyH_here 6 (v := ?_) rfl (by kernel_rfl) (by kernel_rfl) (by kernel_rfl) (fun _ _ _ h => h) (Or.inl ⟨by rfl, ?_⟩) hHeld ?_
    rotate_left
    · intro w hSw; (try dsimp only at hSw); go_simp; all_goals (with_reducible rfl)
    try simp only [Act.put, List.setIfInBounds_toArray, List.set_cons_zero, List.set_cons_succ]
    refine wpAnyH_here 7 (v := ?_) rfl (by kernel_rfl) (by kernel_rfl) (by kernel_rfl) (fun _ _ _ h => h) (Or.inl ⟨by rfl, ?_⟩) hHeld ?_
    rotate_left
    · intro w hSw; (try dsimp only at hSw); go_simp; all_goals (with_reducible rfl)
    try simp only [Act.put, List.setIfInBounds_toArray, List.set_cons_zero, List.set_cons_succ]
    refine wpAnyH_here 8 (v := ?_) rfl (by kernel_rfl) (by kernel_rfl) (by kernel_rfl) (fun _ _ _ h => h) (Or.inl ⟨by rfl, ?_⟩) hHeld ?_
    rotate_left
    · intro w hSw; (try dsimp only at hSw); go_simp; all_goals (with_reducible rfl)
    try simp only [Act.put, List.setIfInBounds_toArray, List.set_cons_zero, List.set_cons_succ]
    refine wpAnyH_here 9 (v := ?_) rfl (by kernel_rfl) (by kernel_rfl) (by kernel_rfl) (fun _ _ _ h => h) (Or.inl ⟨by rfl, ?_⟩) hHeld ?_
    rotate_left
    · intro w hSw; (try dsimp only at hSw); go_simp; all_goals (with_reducible rfl)
    try simp only [Act.put, List.setIfInBounds_toArray, List.set_cons_zero, List.set_cons_succ]
    refine wpAnyH_here 10 (v := ?_) rfl (by kernel_rfl) (by kernel_rfl) (by kernel_rfl) (fun _ _ _ h => h) (Or.inl ⟨by rfl, ?_⟩) hHeld ?_
    rotate_left
    · intro w hSw; (try dsimp only at hSw); go_simp; all_goals (with_reducible rfl)
    try simp only [Act.put, List.setIfInBounds_toArray, List.set_cons_zero, List.set_cons_succ]
    refine wpAnyH_here 11 (v := ?_) rfl (by kernel_rfl) (by kernel_rfl) (by kernel_rfl) (fun _ _ _ h => h) (Or.inl ⟨by rfl, ?_⟩) hHeld ?_
    rotate_left
    · intro w hSw; (try dsimp only at hSw); go_simp; all_goals (with_reducible rfl)
    try simp only [Act.put, List.setIfInBounds_toArray, List.set_cons_zero, List.set_cons_succ]
    refine wpAnyH_here 12 (v := ?_) rfl (by kernel_rfl) (by kernel_rfl) (by kernel_rfl) (fun _ _ _ h => h) (Or.inl ⟨by rfl, ?_⟩) hHeld ?_
    rotate_left
    · intro w hSw; (try dsimp only at hSw); go_simp; all_goals (with_reducible rfl)
    try simp only [Act.put, List.setIfInBounds_toArray, List.set_cons_zero, List.set_cons_succ]
    refine wpAnyH_here 13 (v := ?_) rfl (by kernel_rfl) (by kernel_rfl) (by kernel_rfl) (fun _ _ _ h => h) (Or.inl ⟨by rfl, ?_⟩) hHeld ?_
    rotate_left
    · intro w hSw; (try dsimp only at hSw); go_simp; all_goals (with_reducible rfl)
    try simp only [Act.put, List.setIfInBounds_toArray, List.set_cons_zero, List.set_cons_succ]
    refine wpAnyH_here 14 (v := ?_) rfl (by kernel_rfl) (by kernel_rfl) (by kernel_rfl) (fun _ _ _ h => h) (Or.inl ⟨by rfl, ?_⟩) hHeld ?_
    rotate_left
    · intro w hSw; (try dsimp only at hSw); go_simp; all_goals (with_reducible rfl)
    try simp only [Act.put, List.setIfInBounds_toArray, List.set_cons_zero, List.set_cons_succ]
    refine wpAnyH_here 15 (v := ?_) rfl (by kernel_rfl) (by kernel_rfl) (by kernel_rfl) (fun _ _ _ h => h) (Or.inl ⟨by rfl, ?_⟩) hHeld ?_
    rotate_left
    · intro w hSw; (try dsimp only at hSw); go_simp; all_goals (with_reducible rfl)
    try simp only [Act.put, List.setIfInBounds_toArray, List.set_cons_zero, List.set_cons_succ]
    refine wpAnyH_here 17 (v := ?_) rfl (by kernel_rfl) (by kernel_rfl) (by kernel_rfl) (fun _ _ _ h => h) (Or.inl ⟨by rfl, ?_⟩) hHeld ?_
    rotate_left
    · intro w hSw; (try dsimp only at hSw); go_simp; all_goals (with_reducible rfl)
    try simp only [Act.put, List.setIfInBounds_toArray, List.set_cons_zero, List.set_cons_succ]
    refine wpAnyH_here 18 (v := ?_) rfl (by kernel_rfl) (by kernel_rfl) (by kernel_rfl) (fun _ _ _ h => h) (Or.inl ⟨by rfl, ?_⟩) hHeld ?_
    rotate_left
    · intro w hSw; (try dsimp only at hSw); go_simp; all_goals (with_reducible rfl)
    try simp only [Act.put, List.setIfInBounds_toArray, List.set_cons_zero, List.set_cons_succ]
    refine wpAnyH_here 19 (v := ?_) rfl (by kernel_rfl) (by kernel_rfl) (by kernel_rfl) (fun _ _ _ h => h) (Or.inl ⟨by rfl, ?_⟩) hHeld ?_
    rotate_left
    · intro w hSw; (try dsimp only at hSw); go_simp; all_goals (with_reducible rfl)
    try simp only [Act.put, List.setIfInBounds_toArray, List.set_cons_zero, List.set_cons_succ]
    refine wpAnyH_here 20 (v := ?_) rfl (by kernel_rfl) (by kernel_rfl) (by kernel_rfl) (fun _ _ _ h => h) (Or.inl ⟨by rfl, ?_⟩) hHeld ?_
    rotate_left
    · intro w hSw; (try dsimp only at hSw); go_simp; all_goals (with_reducible rfl)
    try simp only [Act.put, List.setIfInBounds_toArray, List.set_cons_zero, List.set_cons_succ]
    refine wpAnyH_here 21 (v := ?_) rfl (by kernel_rfl) (by kernel_rfl) (by kernel_rfl) (fun _ _ _ h => h) (Or.inl ⟨by rfl, ?_⟩) hHeld ?_
    rotate_left
    · intro w hSw; (try dsimp only at hSw); go_simp; all_goals (with_reducible rfl)
    try simp only [Act.put, List.setIfInBounds_toArray, List.set_cons_zero, List.set_cons_succ]
    have hbr : b < Wr.heap.size := by omega
    have hBd : Bs Wr Wr.heap.size (some ⟨b, off + 5, none⟩) d := hB2.more (by omega)
    have hs0 : Wr.heap.size ≤ Wr.heap.size := Nat.le_refl _
    refine wpAnyH_both 16 24 rfl rfl (by kernel_rfl) (fun K hK => ?_) (fun K hK => ?_)
    · go_simp
      have own1 := (Ow_empty Wr Wr.heap.size 5 hs0).drew
      have HB1 : Below Wr.heap.size Wr (Wr.alloc (.cells #[] 5)).drew := (bel_new _ _).drew
      refine hK.out _ _ ((HB1.cell (p := ⟨b, off + 4, none⟩) hbr).trans k4) (fun hHeld => ?_)
      clear hK K
      try simp only [Act.put, List.setIfInBounds_toArray, List.set_cons_zero, List.set_cons_succ]
      obtain ⟨V1, hV1⟩ : ∃ V1, V1 = (Wr.alloc (.cells #[] 5)).drew := ⟨_, rfl⟩
      have sV : Wr.heap.size < V1.heap.size := by rw [hV1]; simp
      rw [← hV1] at own1 HB1 hHeld ⊢
      clear hV1
      refine wpAnyH_both 22 24 rfl rfl (by kernel_rfl) (fun K hK => ?_) (fun K hK => ?_)
      · refine step_app _ is_bytes rfl (.tmp 57) (.tmp 62) rfl (m := []) rfl own1 (l := d) (A := some ⟨b, off + 5, none⟩) (c := c3) (by rw [HL.out]; rfl) (hBd.below HB1) (fun h => nomatch h) (by rw [HL.out]; simp; omega) HB1.size ?_
        intro v5 W5 own5 gr5
        rw [List.nil_append] at own5
        have HB5 := HB1.grown gr5 HB1.size own1.base_le
        obtain ⟨A5, c5, rfl, _⟩ := own5.reads_len (n := m) HL.out
        refine hK.out _ _ ((HB5.cell (p := ⟨b, off + 4, none⟩) hbr).trans k4) (fun hHeld => ?_)
        clear hK K
        try simp only [Act.put, List.setIfInBounds_toArray, List.set_cons_zero, List.set_cons_succ]
        refine wpAnyH_here 23 (v := ?_) rfl (by kernel_rfl) (by kernel_rfl) (by kernel_rfl) (fun _ _ _ h => h) (Or.inl ⟨by rfl, ?_⟩) hHeld ?_
        rotate_left
        · intro w hSw; (try dsimp only at hSw); go_simp; all_goals (with_reducible rfl)
        try simp only [Act.put, List.setIfInBounds_toArray, List.set_cons_zero, List.set_cons_succ]
        refine wpAnyH_alone 24 rfl (by kernel_rfl) (fun K hK => ?_)
        go_simp
        have HB6 := HB5.alloc HB5.size (.cells #[.bool false, .bool false, .int .i64 0, .int .i64 0, .int .i64 0, .slice none 0 0] 24)
        refine hK.out _ _ ((HB6.cell (p := ⟨b, off + 4, none⟩) hbr).trans k4) (fun hHeld => ?_)
        clear hK K
        try simp only [Act.put, List.setIfInBounds_toArray, List.set_cons_zero, List.set_cons_succ]
        refine wpAnyH_alone 25 rfl (by kernel_rfl) (fun K hK => ?_)
        have HB7 := HB5.alloc HB5.size (.cells #[.bool byp, .bool con, .int .i64 (CR : Int), .int .i64 (CH : Int), .int .i64 (N4 : Int), .slice A5 m c5] 24)
        have own7 := own5.alloc (.cells #[.bool byp, .bool con, .int .i64 (CR : Int), .int .i64 (CH : Int), .int .i64 (N4 : Int), .slice A5 m c5] 24)
        have C7 := Cel.new W5 24 #[.bool byp, .bool con, .int .i64 (CR : Int), .int .i64 (CH : Int), .int .i64 (N4 : Int), .slice A5 m c5]
        go_simp
        refine hK.out _ _ ((HB7.cell (p := ⟨b, off + 4, none⟩) hbr).trans k4) (fun hHeld => ?_)
        clear hK K
        try simp only [Act.put, List.setIfInBounds_toArray, List.set_cons_zero, List.set_cons_succ]
        refine wpAnyH_done (by kernel_rfl) ?_ _
        go_wp2
        go_meet
        case rel => exact ⟨_, A5, c5, rfl, C7, own7, HB7, HB5.size⟩
      · go_simp
        have HB2 := HB1.alloc HB1.size (.cells #[.bool false, .bool false, .int .i64 0, .int .i64 0, .int .i64 0, .slice none 0 0] 24)
        have own2 := own1.alloc (.cells #[.bool false, .bool false, .int .i64 0, .int .i64 0, .int .i64 0, .slice none 0 0] 24)
        have R2 := Cel.new V1 24 #[.bool false, .bool false, .int .i64 0, .int .i64 0, .int .i64 0, .slice none 0 0]
        refine hK.out _ _ ((HB2.cell (p := ⟨b, off + 4, none⟩) hbr).trans k4) (fun hHeld => ?_)
        clear hK K
        try simp only [Act.put, List.setIfInBounds_toArray, List.set_cons_zero, List.set_cons_succ]
        refine wpAnyH_alone 22 rfl (by kernel_rfl) (fun K hK => ?_)
        refine step_app _ is_bytes rfl (.tmp 57) (.tmp 62) rfl (m := []) rfl own2 (l := d) (A := some ⟨b, off + 5, none⟩) (c := c3) (by rw [HL.out]; rfl) (hBd.below HB2) (fun h => nomatch h) (by rw [HL.out]; simp; omega) HB2.size ?_
        intro v5 W5 own5 gr5
        rw [List.nil_append] at own5
        have HB5 := HB2.grown gr5 HB2.size own2.base_le
        obtain ⟨A5, c5, rfl, _⟩ := own5.reads_len (n := m) HL.out
        refine hK.out _ _ ((HB5.cell (p := ⟨b, off + 4, none⟩) hbr).trans k4) (fun hHeld => ?_)
        clear hK K
        try simp only [Act.put, List.setIfInBounds_toArray, List.set_cons_zero, List.set_cons_succ]
        have R5 := R2.only (Only.of_grown gr5) (by show V1.heap.size ∉ [Wr.heap.size]; simp; omega)
        have e0 := R5.cell 0
        have e1 := R5.cell 1
        have e2 := R5.cell 2
        have e3 := R5.cell 3
        have e4 := R5.cell 4
        have e5 := R5.cell 5
        simp at e0 e1 e2 e3 e4 e5
        have f0 := R5.free 0
        have f1 := R5.free 1
        have f2 := R5.free 2
        have f3 := R5.free 3
        have f4 := R5.free 4
        have f5 := R5.free 5
        refine wpAnyH_here 23 (v := ?_) rfl (by kernel_rfl) (by kernel_rfl) (by kernel_rfl) (fun _ _ _ h => h) (Or.inl ⟨by rfl, ?_⟩) hHeld ?_
        rotate_left
        · intro w hSw; (try dsimp only at hSw); go_simp; all_goals (with_reducible rfl)
        try simp only [Act.put, List.setIfInBounds_toArray, List.set_cons_zero, List.set_cons_succ]
        refine wpAnyH_alone 25 rfl (by kernel_rfl) (fun K hK => ?_)
        have HB7 := HB5.trans ((putAll_only W5 V1.heap.size byp con (CR : Int) (CH : Int) (N4 : Int) (.slice A5 m c5)).below HB5.size (by simp; try omega))
        have own7 := own5.only (putAll_only W5 V1.heap.size byp con (CR : Int) (CH : Int) (N4 : Int) (.slice A5 m c5)) (fun i hi hm => own5.apart R5 (by decide) (by rw [hi, List.mem_singleton.1 hm]))
        have C7 := putAll_cel R5 byp con (CR : Int) (CH : Int) (N4 : Int) (.slice A5 m c5)
        go_simp
        refine hK.out _ _ ((HB7.cell (p := ⟨b, off + 4, none⟩) hbr).trans k4) (fun hHeld => ?_)
        clear hK K
        try simp only [Act.put, List.setIfInBounds_toArray, List.set_cons_zero, List.set_cons_succ]
        refine wpAnyH_done (by kernel_rfl) ?_ _
        go_wp2
        go_meet
        case rel => exact ⟨_, A5, c5, rfl, C7, own7, HB7, Nat.le_of_lt sV⟩
    · go_simp
      have HB1 : Below Wr.heap.size Wr (Wr.alloc (.cells #[.bool false, .bool false, .int .i64 0, .int .i64 0, .int .i64 0, .slice none 0 0] 24)).drew := (bel_new _ _).drew
      have R1 : Cel (Wr.alloc (.cells #[.bool false, .bool false, .int .i64 0, .int .i64 0, .int .i64 0, .slice none 0 0] 24)).drew Wr.heap.size 24 #[.bool false, .bool false, .int .i64 0, .int .i64 0, .int .i64 0, .slice none 0 0] := (Cel.new Wr 24 #[.bool false, .bool false, .int .i64 0, .int .i64 0, .int .i64 0, .slice none 0 0]).draws 1
      refine hK.out _ _ ((HB1.cell (p := ⟨b, off + 4, none⟩) hbr).trans k4) (fun hHeld => ?_)
      clear hK K
      try simp only [Act.put, List.setIfInBounds_toArray, List.set_cons_zero, List.set_cons_succ]
      obtain ⟨V1, hV1⟩ : ∃ V1, V1 = (Wr.alloc (.cells #[.bool false, .bool false, .int .i64 0, .int .i64 0, .int .i64 0, .slice none 0 0] 24)).drew := ⟨_, rfl⟩
      have sV : Wr.heap.size < V1.heap.size := by rw [hV1]; simp
      rw [← hV1] at HB1 R1 hHeld ⊢
      clear hV1
      refine wpAnyH_alone 16 rfl (by kernel_rfl) (fun K hK => ?_)
      go_simp
      have HB2 := HB1.alloc HB1.size (.cells #[] 5)
      have own2 := Ow_empty V1 Wr.heap.size 5 HB1.size
      have R2 := Cel.later R1 (bel_new V1 (.cells #[] 5))
      refine hK.out _ _ ((HB2.cell (p := ⟨b, off + 4, none⟩) hbr).trans k4) (fun hHeld => ?_)
      clear hK K
      try simp only [Act.put, List.setIfInBounds_toArray, List.set_cons_zero, List.set_cons_succ]
      refine wpAnyH_alone 22 rfl (by kernel_rfl) (fun K hK => ?_)
      refine step_app _ is_bytes rfl (.tmp 57) (.tmp 62) rfl (m := []) rfl own2 (l := d) (A := some ⟨b, off + 5, none⟩) (c := c3) (by rw [HL.out]; rfl) (hBd.below HB2) (fun h => nomatch h) (by rw [HL.out]; simp; omega) HB2.size ?_
      intro v5 W5 own5 gr5
      rw [List.nil_append] at own5
      have HB5 := HB2.grown gr5 HB2.size own2.base_le
      obtain ⟨A5, c5, rfl, _⟩ := own5.reads_len (n := m) HL.out
      refine hK.out _ _ ((HB5.cell (p := ⟨b, off + 4, none⟩) hbr).trans k4) (fun hHeld => ?_)
      clear hK K
      try simp only [Act.put, List.setIfInBounds_toArray, List.set_cons_zero, List.set_cons_succ]
      have R5 := R2.only (Only.of_grown gr5) (by show Wr.heap.size ∉ [V1.heap.size]; simp; omega)
      have e0 := R5.cell 0
      have e1 := R5.cell 1
      have e2 := R5.cell 2
      have e3 := R5.cell 3
      have e4 := R5.cell 4
      have e5 := R5.cell 5
      simp at e0 e1 e2 e3 e4 e5
      have f0 := R5.free 0
      have f1 := R5.free 1
      have f2 := R5.free 2
      have f3 := R5.free 3
      have f4 := R5.free 4
      have f5 := R5.free 5
      refine wpAnyH_here 23 (v := ?_) rfl (by kernel_rfl) (by kernel_rfl) (by kernel_rfl) (fun _ _ _ h => h) (Or.inl ⟨by rfl, ?_⟩) hHeld ?_
      rotate_left
      · intro w hSw; (try dsimp only at hSw); go_simp; all_goals (with_reducible rfl)
      try simp only [Act.put, List.setIfInBounds_toArray, List.set_cons_zero, List.set_cons_succ]
      refine wpAnyH_alone 25 rfl (by kernel_rfl) (fun K hK => ?_)
      have HB7 := HB5.trans ((putAll_only W5 Wr.heap.size byp con (CR : Int) (CH : Int) (N4 : Int) (.slice A5 m c5)).below HB5.size (by simp; try omega))
      have own7 := own5.only (putAll_only W5 Wr.heap.size byp con (CR : Int) (CH : Int) (N4 : Int) (.slice A5 m c5)) (fun i hi hm => own5.apart R5 (by decide) (by rw [hi, List.mem_singleton.1 hm]))
      have C7 := putAll_cel R5 byp con (CR : Int) (CH : Int) (N4 : Int) (.slice A5 m c5)
      go_simp
      refine hK.out _ _ ((HB7.cell (p := ⟨b, off + 4, none⟩) hbr).trans k4) (fun hHeld => ?_)
      clear hK K
      try simp only [Act.put, List.setIfInBounds_toArray, List.set_cons_zero, List.set_cons_succ]
      refine wpAnyH_done (by kernel_rfl) ?_ _
      go_wp2
      go_meet
      case rel => exact ⟨_, A5, c5, rfl, C7, own7, HB7, Nat.le_refl _⟩
  case rest =>
    subst q3 q4 q5
    obtain ⟨G, A5, cq, rfl, hG, own5, b5, hGle⟩ := hcut
    have hR5 := Cel.later hRr b5
    have bel5 := bel2.trans (b5.mono bel2.size)
    have hB5 := (hb.below bel5).more bel5.size
    have hltG := hG.lt
    obtain ⟨A', c', he, hD5⟩ := Rd.of own5 HL.out
    injection he with e1 e2 e3
    subst e1 e3
    have hen7 := yencode_any byp con (CR : Int) (CH : Int) (N4 : Int) A5 d m cq wc HL hD5.bs hD5.nil (by unfold maxLen; omega)
    rw [Fr.err_yes hok, ← hEn] at hen7
    clear b5 hRr hD5 hEn
    have g0 := hG.cell 0
    have g1 := hG.cell 1
    have g2 := hG.cell 2
    have g3 := hG.cell 3
    have g4 := hG.cell 4
    have g5 := hG.cell 5
    simp at g0 g1 g2 g3 g4 g5
    go_wp2_with fail
    refine hen7.mono ?_
    rintro e w7 ⟨v7, rfl, own7, b7⟩
    obtain ⟨A7, c7, rfl, hA7, hn7, _, _⟩ := own7.reads
    have hR7 := Cel.later hR5 b7
    have hG7 := Cel.later hG b7
    have bel7 := bel5.trans (b7.mono bel5.size)
    have hB7 := (hb.below bel7).more bel7.size
    have own57 := own5.below b7
    clear hen7 hR5 hG
    have y1 := run_str (P := Try.prog) w7 is_bytes Try.underlying9 hA7 hn7
    have y2 := run_str (P := Try.prog) (c := c) w7 is_bytes Try.underlying9 hB7 (fun h => nomatch h)
    rw [hl.out] at y2
    have y3 : ((str En).toList == (str l).toList) = true := by rw [str_beq, decide_eq_true hen]
    have y4 : ((str En).toList != (str l).toList) = false := by unfold bne; rw [y3]; rfl
    clear hen
    have c0 := hR7.cell 0
    have c1 := hR7.cell 1
    have c2 := hR7.cell 2
    have c3 := hR7.cell 3
    have c4 := hR7.cell 4
    have c5 := hR7.cell 5
    simp at c0 c1 c2 c3 c4 c5
    have f0 := hR7.free 0
    have f1 := hR7.free 1
    have f2 := hR7.free 2
    have f3 := hR7.free 3
    have f4 := hR7.free 4
    have f5 := hR7.free 5
    have p0 := hG7.cell 0
    have p1 := hG7.cell 1
    have p2 := hG7.cell 2
    have p3 := hG7.cell 3
    have p4 := hG7.cell 4
    have p5 := hG7.cell 5
    simp at p0 p1 p2 p3 p4 p5
    go_wp2
    refine bodyPost_ret (yde_results rfl rfl (putAll_cel hR7 byp con (CR : Int) (CH : Int) (N4 : Int) (.slice A5 m cq))) rfl ⟨_, rfl, ?_, putAll_below bel7 (Nat.le_refl _) _ _ _ _ _ _⟩
    exact (own57.only (putAll_only _ _ _ _ _ _ _ _) (fun i hi => by have := (own5.lt i hi).1; simp; omega)).more (Nat.le_of_lt hltr)

theorem ydecode_any (a : Option Addr) (l : List Byte) (n c : Nat) (w : World) (hl : Hid (l.length = n)) (hb : Bs w w.heap.size a l) (hn : a = none → c = 0) (hnc : n ≤ c) (hcm : c ≤ maxLen) :
    Calls Try.prog 16 #[.slice a n c] w fun e w' => ∃ v, e = .returned (.tuple #[.agg #[.bool (deP l).byp, .bool (deP l).con, .int .i64 (deP l).cr, .int .i64 (deP l).ch, .int .i64 (deP l).sq, v], .int .i64 (deE l)]) ∧ Ow w' w.heap.size 5 v (deP l).d ∧ Below w.heap.size w w' := by
  have hln := hl.out
  by_cases h1 : n < 8
  · obtain ⟨e1, e2⟩ := de_short (l := l) (by omega)
    rw [e1, e2]
    exact (ydecode_short a l n c w hl hb hnc h1).mono fun e w' ⟨k1, k2⟩ => ⟨_, k1, Ow_nil _ _, k2⟩
  by_cases h2 : 1024 < n
  · obtain ⟨e1, e2⟩ := de_long (l := l) (by omega)
    rw [e1, e2]
    exact (ydecode_long a l n c w hl hb hnc h2).mono fun e w' ⟨k1, k2⟩ => ⟨_, k1, Ow_nil _ _, k2⟩
  have g1 : 8 ≤ n := by omega
  have g2 : n ≤ 1024 := by omega
  cases hck : ck16 l with
  | false =>
    obtain ⟨e1, e2⟩ := de_sum (l := l) (by omega) (by omega) hck
    rw [e1, e2]
    exact (ydecode_sum a l n c w hl hb hnc g1 g2 hck).mono fun e w' ⟨k1, k2⟩ => ⟨_, k1, Ow_nil _ _, k2⟩
  | true =>
    cases hok : (rd l).ok with
    | false =>
      have hg : gd l = false := by unfold gd; rw [hok, Bool.and_false]
      obtain ⟨e1, e2⟩ := de_form (l := l) (by omega) (by omega) hck hg
      rw [e1, e2]
      exact (ydecode_bad a l n c w hl hb hn hnc hcm g1 g2 hck hok).mono fun e w' ⟨k1, k2⟩ => ⟨_, k1, Ow_nil _ _, k2⟩
    | true =>
      have hge := gd_enc (l := l) (by omega) (by omega) hck hok
      by_cases he : (rd l).enc = l
      · rw [decide_eq_true he] at hge
        obtain ⟨e1, e2⟩ := de_good (l := l) (by omega) (by omega) hck hge
        rw [e1, e2]
        exact ydecode_good a l n c w hl hb hn hnc hcm g1 g2 hck hok he
      · rw [decide_eq_false he] at hge
        obtain ⟨e1, e2⟩ := de_form (l := l) (by omega) (by omega) hck hge
        rw [e1, e2]
        exact (ydecode_size a l n c w hl hb hn hnc hcm g1 g2 hck hok he).mono fun e w' ⟨k1, k2⟩ => ⟨_, k1, Ow_nil _ _, k2⟩
end Go.Proofs.Ytdichdoabhabjaa.Tcf
