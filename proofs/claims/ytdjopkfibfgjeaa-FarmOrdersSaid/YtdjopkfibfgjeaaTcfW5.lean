/-
  The walks of bytes.Equal, bytes.HasPrefix and bytes.CutPrefix at a prefix of two bytes, and of package tcframe's Directive.
-/
import Derived.Test.YtdjopkfibfgjeaaTcfW4
namespace Go.Proofs.Ytdjopkfibfgjeaa.Tcf
open Go.RowKit Go.Proofs.Ytdjopkfibfgjeaa.Pac

set_option maxHeartbeats 400000 in
theorem equal_any (a p : Option Addr) (l q : List Byte) (n m c k : Nat) (B B' : Nat) (w : World) (hl : Hid (l.length = n)) (hq : Hid (q.length = m)) (hb : Bs w B a l) (hp : Bs w B' p q) (hn : a = none → c = 0) (hk : p = none → k = 0) :
    Calls Try.prog 42 #[.slice a n c, .slice p m k] w fun e w' => e = .returned (.bool (decide (l = q))) ∧ w = w' := by
  have s1 := run_str (P := Try.prog) w is_bytes Try.underlying9 hb hn
  have s2 := run_str (P := Try.prog) w is_bytes Try.underlying9 hp hk
  rw [hl.out] at s1
  rw [hq.out] at s2
  have h1 := str_beq l q
  go_enter Try.func42, Try.ntmps42
  go_wp2
  go_ret
  exact ⟨rfl, rfl⟩

set_option maxHeartbeats 400000 in
theorem hasPrefix_no (a p : Option Addr) (n c k : Nat) (w : World) (h : n < 2) :
    Calls Try.prog 41 #[.slice a n c, .slice p 2 k] w fun e w' => e = .returned (.bool false) ∧ w = w' := by
  have g1 : decide ((2 : Int) ≤ (n : Int)) = false := by simp; omega
  have g2 : decide (2 ≤ n) = false := by simp; omega
  clear h
  go_enter Try.func41, Try.ntmps41
  go_wp2
  go_ret
  exact ⟨rfl, rfl⟩
set_option maxHeartbeats 400000 in
theorem hasPrefix_yes (a p : Option Addr) (l q : List Byte) (n c k : Nat) (B B' : Nat) (w : World) (hl : Hid (l.length = n)) (hq : Hid (q.length = 2)) (hb : Bs w B a l) (hp : Bs w B' p q) (hn : a = none → c = 0) (hk : p = none → k = 0) (h : 2 ≤ n) (hnc : n ≤ c) :
    Calls Try.prog 41 #[.slice a n c, .slice p 2 k] w fun e w' => e = .returned (.bool (decide (l.take 2 = q))) ∧ w = w' := by
  have g1 : decide ((2 : Int) ≤ (n : Int)) = true := by simp; omega
  have g2 : decide (2 ≤ n) = true := by simp; omega
  have g3 : (2 : Int) ≤ (c : Int) := by omega
  have hl2 : Hid ((l.take 2).length = 2) := by show _ = _; rw [List.length_take]; have := hl.out; omega
  have he := equal_any a p (l.take 2) q 2 2 c k B B' w hl2 hq (hb.take 2) hp hn hk
  obtain ⟨r, hr⟩ : ∃ r, r = decide (l.take 2 = q) := ⟨_, rfl⟩
  rw [← hr] at he ⊢
  clear h hr hl2
  go_enter Try.func41, Try.ntmps41
  go_wp2_with fail
  refine he.mono ?_
  rintro e w' ⟨rfl, rfl⟩
  go_wp2
  go_ret
  exact ⟨ret_bool (by simp), rfl⟩

set_option maxHeartbeats 400000 in
theorem cutPrefix_no (a p : Option Addr) (l q : List Byte) (n c k : Nat) (B B' : Nat) (w : World) (hl : Hid (l.length = n)) (hq : Hid (q.length = 2)) (hb : Bs w B a l) (hp : Bs w B' p q) (hn : a = none → c = 0) (hk : p = none → k = 0) (hnc : n ≤ c) (h : ¬ (2 ≤ n ∧ l.take 2 = q)) :
    Calls Try.prog 37 #[.slice a n c, .slice p 2 k] w fun e w' => e = .returned (.tuple #[.slice a n c, .bool false]) ∧ w = w' := by
  have hx : Calls Try.prog 41 #[.slice a n c, .slice p 2 k] w fun e w' => e = .returned (.bool false) ∧ w = w' := by
    by_cases h2 : 2 ≤ n
    · have := hasPrefix_yes a p l q n c k B B' w hl hq hb hp hn hk h2 hnc
      rw [decide_eq_false (fun e => h ⟨h2, e⟩)] at this
      exact this
    · exact hasPrefix_no a p n c k w (by omega)
  clear h hnc hl hq hb hp hn hk
  go_enter Try.func37, Try.ntmps37
  go_wp2_with fail
  refine hx.mono ?_
  rintro e w' ⟨rfl, rfl⟩
  go_wp2
  go_ret2
  exact ⟨rfl, rfl⟩
set_option maxHeartbeats 400000 in
theorem cutPrefix_yes (b off : Nat) (p : Option Addr) (l q : List Byte) (n c k m : Nat) (B B' : Nat) (w : World) (hl : Hid (l.length = n)) (hq : Hid (q.length = 2)) (hb : Bs w B (some ⟨b, off, none⟩) l) (hp : Bs w B' p q) (hk : p = none → k = 0) (hnc : n ≤ c) (h2 : n = m + 2) (h : l.take 2 = q) :
    Calls Try.prog 37 #[.slice (some ⟨b, off, none⟩) n c, .slice p 2 k] w fun e w' => (∃ A, e = .returned (.tuple #[.slice A m (c - 2), .bool true]) ∧ (0 < m → A = some ⟨b, off + 2, none⟩)) ∧ w = w' := by
  have hx := hasPrefix_yes (some ⟨b, off, none⟩) p l q n c k B B' w hl hq hb hp (fun h => nomatch h) hk (by omega) hnc
  rw [decide_eq_true h] at hx
  obtain ⟨A, hA⟩ : ∃ A, (if c = 2 then (some ⟨b, off, none⟩ : Option Addr) else some ⟨b, off + 2, none⟩) = A := ⟨_, rfl⟩
  have HA : Hid (0 < m → A = some ⟨b, off + 2, none⟩) := by
    show _ → _
    intro h0
    rw [← hA, if_neg (by omega)]
  have q1 : n - 2 = m := by omega
  have q2 : (2 : Int) ≤ (n : Int) := by omega
  have q3 : (n : Int) ≤ (c : Int) := by omega
  obtain ⟨c2, hc2⟩ : ∃ c2, c - 2 = c2 := ⟨_, rfl⟩
  rw [hc2]
  clear h h2 hnc hl hq hb hp hk
  go_enter Try.func37, Try.ntmps37
  go_wp2_with fail
  refine hx.mono ?_
  rintro e w' ⟨rfl, rfl⟩
  go_wp2
  go_ret2
  exact ⟨⟨A, rfl, HA.out⟩, rfl⟩

set_option maxHeartbeats 400000 in
theorem tdir_noByp (con : Bool) (cr ch sq : Int) (a : Option Addr) (n c : Nat) (w : World) :
    Calls Try.prog 32 #[.agg #[.bool false, .bool con, .int .i64 cr, .int .i64 ch, .int .i64 sq, .slice a n c]] w fun e w' => e = .returned (.tuple #[.int .i64 0, .int .i64 0, .bool false]) ∧ Below w.heap.size w w' := by
  go_enter Try.func32, Try.ntmps32
  go_wp2
  go_ret3
  exact ⟨rfl, bel_new _ _⟩

set_option maxHeartbeats 400000 in
theorem tdir_noCon (cr ch sq : Int) (a : Option Addr) (n c : Nat) (w : World) :
    Calls Try.prog 32 #[.agg #[.bool true, .bool false, .int .i64 cr, .int .i64 ch, .int .i64 sq, .slice a n c]] w fun e w' => e = .returned (.tuple #[.int .i64 0, .int .i64 0, .bool false]) ∧ Below w.heap.size w w' := by
  go_enter Try.func32, Try.ntmps32
  go_wp2
  go_ret3
  exact ⟨rfl, bel_new _ _⟩

set_option maxHeartbeats 1000000 in
theorem tdir_unlock (cr ch sq : Int) (a : Option Addr) (l : List Byte) (n c : Nat) (w : World) (hD : Rd w a l n c) (hd : l = [0#8]) :
    Calls Try.prog 32 #[.agg #[.bool true, .bool true, .int .i64 cr, .int .i64 ch, .int .i64 sq, .slice a n c]] w fun e w' => e = .returned (.tuple #[.int .i64 0, .int .i64 0, .bool true]) ∧ Below w.heap.size w w' := by
  obtain ⟨hl, hb, hn, hnc, hcm⟩ := hD
  obtain ⟨W0, hW0⟩ : ∃ W0, W0 = w.alloc (.cells #[.bool true, .bool true, .int .i64 cr, .int .i64 ch, .int .i64 sq, .slice a n c] 32) := ⟨_, rfl⟩
  have b0 : Below w.heap.size w W0 := by rw [hW0]; exact bel_new _ _
  have s0 : W0.heap.size = w.heap.size + 1 := by rw [hW0]; simp
  have hbb := (hb.below b0)
  have s1 := run_str (P := Try.prog) W0 is_bytes Try.underlying9 hbb hn
  rw [hl, hW0] at s1
  subst hd
  have e1 : ((str [0#8]).toList == [0]) = true := by decide +kernel
  rw [hW0] at b0
  clear hW0 s0 hbb hl hb hn hnc hcm
  go_enter Try.func32, Try.ntmps32
  go_wp2
  go_ret3
  exact ⟨rfl, b0⟩

set_option maxHeartbeats 1000000 in
theorem tdir_no (cr ch sq : Int) (a : Option Addr) (l : List Byte) (n c : Nat) (w : World) (hD : Rd w a l n c) (hd : l ≠ [0#8]) (hx : ¬ (2 ≤ n ∧ l.take 2 = [130#8, 0#8])) :
    Calls Try.prog 32 #[.agg #[.bool true, .bool true, .int .i64 cr, .int .i64 ch, .int .i64 sq, .slice a n c]] w fun e w' => e = .returned (.tuple #[.int .i64 0, .int .i64 0, .bool false]) ∧ Below w.heap.size w w' := by
  obtain ⟨hl, hb, hn, hnc, hcm⟩ := hD
  obtain ⟨W0, hW0⟩ : ∃ W0, W0 = w.alloc (.cells #[.bool true, .bool true, .int .i64 cr, .int .i64 ch, .int .i64 sq, .slice a n c] 32) := ⟨_, rfl⟩
  have b0 : Below w.heap.size w W0 := by rw [hW0]; exact bel_new _ _
  have s0 : W0.heap.size = w.heap.size + 1 := by rw [hW0]; simp
  have hbb := (hb.below b0)
  have s1 := run_str (P := Try.prog) W0 is_bytes Try.underlying9 hbb hn
  rw [hl, hW0] at s1
  have e1 : ((str l).toList == [0]) = false := by
    have h1 := str_beq l [0#8]
    have h2 : (str [0#8]).toList = [0] := by decide +kernel
    rw [decide_eq_false hd, h2] at h1
    exact h1
  have kc : (convert 28 28 (.slice (some ⟨w.heap.size + 1, 0, none⟩) 2 2)).run Try.prog ((w.alloc (.cells #[.bool true, .bool true, .int .i64 cr, .int .i64 ch, .int .i64 sq, .slice a n c] 32)).alloc (.cells #[.int .u8 130, .int .u8 0] 5)) = .ok (.slice (some ⟨w.heap.size + 1, 0, none⟩) 2 2) ((w.alloc (.cells #[.bool true, .bool true, .int .i64 cr, .int .i64 ch, .int .i64 sq, .slice a n c] 32)).alloc (.cells #[.int .u8 130, .int .u8 0] 5 (2, 3))) := by
    have h := Lib.run_convert_bytes_const (P := Try.prog) (w.alloc (.cells #[.bool true, .bool true, .int .i64 cr, .int .i64 ch, .int .i64 sq, .slice a n c] 32)) 28 5 #[.int .u8 130, .int .u8 0] 2 2 Try.underlying28 Try.underlying5
    rw [show (w.alloc (.cells #[.bool true, .bool true, .int .i64 cr, .int .i64 ch, .int .i64 sq, .slice a n c] 32)).heap.size = w.heap.size + 1 by simp] at h
    exact h
  have hp : Bs (W0.alloc (.cells #[.int .u8 130, .int .u8 0] 5 (2, 3))) (w.heap.size + 2) (some ⟨w.heap.size + 1, 0, none⟩) [130#8, 0#8] := by
    rw [← s0]; exact Bs_new _ _ _ _ (by simp) _ (by omega) _
  have b1 : Below w.heap.size w (W0.alloc (.cells #[.int .u8 130, .int .u8 0] 5 (2, 3))) := b0.alloc b0.size _
  have hb1 := hb.below b1
  have hcut := cutPrefix_no a (some ⟨w.heap.size + 1, 0, none⟩) l [130#8, 0#8] n c 2 _ _ _ (Lib.hid hl) (Lib.hid rfl) hb1 hp hn (fun h => nomatch h) hnc hx
  rw [hW0] at hcut b1
  clear hW0 s0 hbb hl hb hn hnc hcm hd hx hp hb1 b0
  go_enter Try.func32, Try.ntmps32
  go_wp2_with fail
  refine hcut.mono ?_
  rintro e w' ⟨rfl, rfl⟩
  go_wp2
  go_ret3
  exact ⟨rfl, b1⟩

set_option maxHeartbeats 1000000 in
theorem tdir_long (cr ch sq : Int) (a : Option Addr) (l : List Byte) (n c : Nat) (w : World) (hD : Rd w a l n c) (hd : l ≠ [0#8]) (hx : l.take 2 = [130#8, 0#8]) (m : Nat) (hnm : n = m + 2) (hm : m ≠ 1) :
    Calls Try.prog 32 #[.agg #[.bool true, .bool true, .int .i64 cr, .int .i64 ch, .int .i64 sq, .slice a n c]] w fun e w' => e = .returned (.tuple #[.int .i64 0, .int .i64 0, .bool false]) ∧ Below w.heap.size w w' := by
  obtain ⟨hl, hb, hn, hnc, hcm⟩ := hD
  obtain ⟨W0, hW0⟩ : ∃ W0, W0 = w.alloc (.cells #[.bool true, .bool true, .int .i64 cr, .int .i64 ch, .int .i64 sq, .slice a n c] 32) := ⟨_, rfl⟩
  have b0 : Below w.heap.size w W0 := by rw [hW0]; exact bel_new _ _
  have s0 : W0.heap.size = w.heap.size + 1 := by rw [hW0]; simp
  have hbb := (hb.below b0)
  have s1 := run_str (P := Try.prog) W0 is_bytes Try.underlying9 hbb hn
  rw [hl, hW0] at s1
  have e1 : ((str l).toList == [0]) = false := by
    have h1 := str_beq l [0#8]
    have h2 : (str [0#8]).toList = [0] := by decide +kernel
    rw [decide_eq_false hd, h2] at h1
    exact h1
  have kc : (convert 28 28 (.slice (some ⟨w.heap.size + 1, 0, none⟩) 2 2)).run Try.prog ((w.alloc (.cells #[.bool true, .bool true, .int .i64 cr, .int .i64 ch, .int .i64 sq, .slice a n c] 32)).alloc (.cells #[.int .u8 130, .int .u8 0] 5)) = .ok (.slice (some ⟨w.heap.size + 1, 0, none⟩) 2 2) ((w.alloc (.cells #[.bool true, .bool true, .int .i64 cr, .int .i64 ch, .int .i64 sq, .slice a n c] 32)).alloc (.cells #[.int .u8 130, .int .u8 0] 5 (2, 3))) := by
    have h := Lib.run_convert_bytes_const (P := Try.prog) (w.alloc (.cells #[.bool true, .bool true, .int .i64 cr, .int .i64 ch, .int .i64 sq, .slice a n c] 32)) 28 5 #[.int .u8 130, .int .u8 0] 2 2 Try.underlying28 Try.underlying5
    rw [show (w.alloc (.cells #[.bool true, .bool true, .int .i64 cr, .int .i64 ch, .int .i64 sq, .slice a n c] 32)).heap.size = w.heap.size + 1 by simp] at h
    exact h
  have hp : Bs (W0.alloc (.cells #[.int .u8 130, .int .u8 0] 5 (2, 3))) (w.heap.size + 2) (some ⟨w.heap.size + 1, 0, none⟩) [130#8, 0#8] := by
    rw [← s0]; exact Bs_new _ _ _ _ (by simp) _ (by omega) _
  have b1 : Below w.heap.size w (W0.alloc (.cells #[.int .u8 130, .int .u8 0] 5 (2, 3))) := b0.alloc b0.size _
  have hb1 := hb.below b1
  have h2 : 2 ≤ n := by omega
  obtain ⟨b, off, rfl⟩ : ∃ b off, a = some ⟨b, off, none⟩ := by obtain ⟨b, off, h, _⟩ := hb (by omega); exact ⟨b, off, h⟩
  have hcut := cutPrefix_yes b off (some ⟨w.heap.size + 1, 0, none⟩) l [130#8, 0#8] n c 2 m _ _ _ (Lib.hid hl) (Lib.hid rfl) hb1 hp (fun h => nomatch h) hnc hnm hx
  have g1 : ((m : Int) == 1) = false := by simp; omega
  have g2 : (m == 1) = false := by simpa using hm
  rw [hW0] at hcut b1
  obtain ⟨c2, hc2⟩ : ∃ c2, c - 2 = c2 := ⟨_, rfl⟩
  rw [hc2] at hcut
  clear hc2 hW0 s0 hbb hl hb hn hnc hcm hd hx hp hb1 b0 hnm hm h2
  go_enter Try.func32, Try.ntmps32
  go_wp2_with fail
  refine hcut.mono ?_
  rintro e w' ⟨⟨A, rfl, _⟩, rfl⟩
  go_wp2
  go_ret3
  exact ⟨rfl, b1⟩

set_option maxHeartbeats 1000000 in
theorem tdir_next (cr ch sq : Int) (a : Option Addr) (l : List Byte) (n c : Nat) (w : World) (hD : Rd w a l n c) (z : Byte) (hd : l = [130#8, 0#8, z]) :
    Calls Try.prog 32 #[.agg #[.bool true, .bool true, .int .i64 cr, .int .i64 ch, .int .i64 sq, .slice a n c]] w fun e w' => e = .returned (.tuple #[.int .i64 1, .int .i64 (z.toNat : Int), .bool true]) ∧ Below w.heap.size w w' := by
  obtain ⟨hl, hb, hn, hnc, hcm⟩ := hD
  obtain ⟨W0, hW0⟩ : ∃ W0, W0 = w.alloc (.cells #[.bool true, .bool true, .int .i64 cr, .int .i64 ch, .int .i64 sq, .slice a n c] 32) := ⟨_, rfl⟩
  have b0 : Below w.heap.size w W0 := by rw [hW0]; exact bel_new _ _
  have s0 : W0.heap.size = w.heap.size + 1 := by rw [hW0]; simp
  have hbb := (hb.below b0)
  have s1 := run_str (P := Try.prog) W0 is_bytes Try.underlying9 hbb hn
  rw [hl, hW0] at s1
  have hx : l.take 2 = [130#8, 0#8] := by rw [hd]; rfl
  have hl3 : n = 1 + 2 := by rw [← hl, hd]; rfl
  have hz : l[2]? = some z := by rw [hd]; rfl
  replace hd : l ≠ [0#8] := by rw [hd]; simp
  have e1 : ((str l).toList == [0]) = false := by
    have h1 := str_beq l [0#8]
    have h2 : (str [0#8]).toList = [0] := by decide +kernel
    rw [decide_eq_false hd, h2] at h1
    exact h1
  have kc : (convert 28 28 (.slice (some ⟨w.heap.size + 1, 0, none⟩) 2 2)).run Try.prog ((w.alloc (.cells #[.bool true, .bool true, .int .i64 cr, .int .i64 ch, .int .i64 sq, .slice a n c] 32)).alloc (.cells #[.int .u8 130, .int .u8 0] 5)) = .ok (.slice (some ⟨w.heap.size + 1, 0, none⟩) 2 2) ((w.alloc (.cells #[.bool true, .bool true, .int .i64 cr, .int .i64 ch, .int .i64 sq, .slice a n c] 32)).alloc (.cells #[.int .u8 130, .int .u8 0] 5 (2, 3))) := by
    have h := Lib.run_convert_bytes_const (P := Try.prog) (w.alloc (.cells #[.bool true, .bool true, .int .i64 cr, .int .i64 ch, .int .i64 sq, .slice a n c] 32)) 28 5 #[.int .u8 130, .int .u8 0] 2 2 Try.underlying28 Try.underlying5
    rw [show (w.alloc (.cells #[.bool true, .bool true, .int .i64 cr, .int .i64 ch, .int .i64 sq, .slice a n c] 32)).heap.size = w.heap.size + 1 by simp] at h
    exact h
  have hp : Bs (W0.alloc (.cells #[.int .u8 130, .int .u8 0] 5 (2, 3))) (w.heap.size + 2) (some ⟨w.heap.size + 1, 0, none⟩) [130#8, 0#8] := by
    rw [← s0]; exact Bs_new _ _ _ _ (by simp) _ (by omega) _
  have b1 : Below w.heap.size w (W0.alloc (.cells #[.int .u8 130, .int .u8 0] 5 (2, 3))) := b0.alloc b0.size _
  have hb1 := hb.below b1
  obtain ⟨b, off, rfl⟩ : ∃ b off, a = some ⟨b, off, none⟩ := by obtain ⟨b, off, h, _⟩ := hb (by omega); exact ⟨b, off, h⟩
  have hcut := cutPrefix_yes b off (some ⟨w.heap.size + 1, 0, none⟩) l [130#8, 0#8] n c 2 1 _ _ _ (Lib.hid hl) (Lib.hid rfl) hb1 hp (fun h => nomatch h) hnc hl3 hx
  obtain ⟨b', off', ha, _, hce⟩ := hb1 (by omega)
  injection ha with ha
  injection ha with e2 e3
  subst e2 e3
  have hcell := hce 2 z hz
  rw [hW0] at hcut b1 hcell
  obtain ⟨c2, hc2⟩ : ∃ c2, c - 2 = c2 := ⟨_, rfl⟩
  rw [hc2] at hcut
  clear hce hc2 hW0 s0 hbb hl hb hn hnc hcm hd hx hp hb1 b0 hl3 hz
  go_enter Try.func32, Try.ntmps32
  go_wp2_with fail
  refine hcut.mono ?_
  rintro e w' ⟨⟨A, rfl, hA⟩, rfl⟩
  obtain rfl := hA (by decide)
  go_wp2
  go_quiet (fail)
  go_wp2
  go_ret3
  exact ⟨rfl, b1.trans (bel_drewN _ _ _)⟩

theorem tdirective_any (byp con : Bool) (cr ch sq : Int) (a : Option Addr) (l : List Byte) (n c : Nat) (w : World) (hD : Rd w a l n c) :
    Calls Try.prog 32 #[.agg #[.bool byp, .bool con, .int .i64 cr, .int .i64 ch, .int .i64 sq, .slice a n c]] w fun e w' => e = .returned (.tuple #[.int .i64 (dir byp con l).1, .int .i64 (dir byp con l).2.1, .bool (dir byp con l).2.2]) ∧ Below w.heap.size w w' := by
  cases byp with
  | false => rw [dir_off rfl]; exact tdir_noByp con cr ch sq a n c w
  | true =>
    cases con with
    | false => rw [dir_off rfl]; exact tdir_noCon cr ch sq a n c w
    | true =>
      by_cases h0 : l = [0#8]
      · rw [h0, dir_unlock]
        exact tdir_unlock cr ch sq a l n c w hD h0
      by_cases hx : 2 ≤ n ∧ l.take 2 = [130#8, 0#8]
      · obtain ⟨m, hm⟩ : ∃ m, n = m + 2 := ⟨n - 2, by omega⟩
        by_cases h1 : m = 1
        · obtain ⟨z, hz⟩ : ∃ z, l = [130#8, 0#8, z] := by
            have e := (List.take_append_drop 2 l).symm
            have h3 : (l.drop 2).length = 1 := by rw [List.length_drop, hD.len]; omega
            match hq : l.drop 2, h3 with
            | [z], _ => exact ⟨z, by rw [e, hx.2, hq]; rfl⟩
          rw [hz, dir_next]
          exact tdir_next cr ch sq a l n c w hD z hz
        · rw [dir_else h0 (fun z hz => h1 (by have := hD.len; rw [hz] at this; simp at this; omega))]
          exact tdir_long cr ch sq a l n c w hD h0 hx.2 m hm h1
      · rw [dir_else h0 (fun z hz => hx ⟨by have := hD.len; rw [hz] at this; simp at this; omega, by rw [hz]; rfl⟩)]
        exact tdir_no cr ch sq a l n c w hD h0 hx
end Go.Proofs.Ytdjopkfibfgjeaa.Tcf
