/-
  The walk of the law CrcContinues.
-/
import Derived.Test.YtgomkhllhpghmaaAlive01
namespace Go.Proofs.Ytgomkhllhpghmaa
open Go.RowKit

theorem update16_len (r : BitVec 16) (a : Option Addr) (l : List Byte) (len c B : Nat) (w : World) (hlen : l.length = len) (hb : Bs w B a l) (hm : len ≤ maxLen) :
    Calls Try.prog 11 #[.int .u16 (r.toNat : Int), .slice a len c] w fun e w' => e = .returned (.int .u16 ((up16 r l).toNat : Int)) ∧ w = w' := by
  subst hlen; exact update16_any r a l c B w hb hm
theorem update32_len (r : BitVec 32) (a : Option Addr) (l : List Byte) (len c B : Nat) (w : World) (hlen : l.length = len) (hb : Bs w B a l) (hm : len ≤ maxLen) :
    Calls Try.prog 15 #[.int .u32 (r.toNat : Int), .slice a len c] w fun e w' => e = .returned (.int .u32 ((up32 r l).toNat : Int)) ∧ w = w' := by
  subst hlen; exact update32_any r a l c B w hb hm
theorem sum32_len (a : Option Addr) (l : List Byte) (len c B : Nat) (w : World) (hlen : l.length = len) (hb : Bs w B a l) (hm : len ≤ maxLen) :
    Calls Try.prog 13 #[.slice a len c] w fun e w' => e = .returned (.int .u32 ((up32 0#32 l).toNat : Int)) ∧ w = w' := by
  subst hlen; exact sum32_any a l c B w hb hm
theorem sum16_len' (a : Option Addr) (l : List Byte) (len c B : Nat) (w : World) (hlen : l.length = len) (hb : Bs w B a l) (hm : len ≤ maxLen) :
    Calls Try.prog 9 #[.slice a len c] w fun e w' => e = .returned (.int .u16 ((up16 0xffff#16 l).toNat : Int)) ∧ w = w' := by
  subst hlen; exact sum16_any a l c B w hb hm

set_option maxHeartbeats 1000000 in
theorem crcContinues_walk (a b : Option Addr) (l m : List Byte) (c d : Nat) (r : BitVec 16) (s : BitVec 32) (w : World) (ha : Bs w w.heap.size a l) (hb : Bs w w.heap.size b m)
    (hna : a = none → c = 0) (hnb : b = none → d = 0) (hl : l.length ≤ maxLen) (hm : m.length ≤ maxLen) :
    Calls Try.prog 5 #[.slice a l.length c, .slice b m.length d, .int .u16 (r.toNat : Int), .int .u32 (s.toNat : Int)] w fun e w' => e = .returned (.bool true) ∧ Below w.heap.size w w' := by
  by_cases h : 2000 < l.length
  · go_enter Try.func5, Try.ntmps5
    go_wp2_with (go_at_call 8; refine (alive_any _).mono ?_; rintro e w1 ⟨rfl, hbel⟩)
    go_ret
    exact ⟨rfl, hbel⟩
  by_cases h' : 2000 < m.length
  · go_enter Try.func5, Try.ntmps5
    go_wp2_with (go_at_call 8; refine (alive_any _).mono ?_; rintro e w1 ⟨rfl, hbel⟩)
    go_ret
    exact ⟨rfl, hbel⟩
  have bel1 := (Below.refl w.heap.size w).alloc (Nat.le_refl _) (.cells #[] 5)
  have hown1 := Ow_empty w w.heap.size 5 (Nat.le_refl _)
  go_enter Try.func5, Try.ntmps5
  go_wp2_with (first
    | (at_builtin; refine wpList_app _ is_bytes rfl (.tmp 19) (.tmp 20) rfl (m := []) rfl hown1 rfl (ha.below bel1) hna (by simp; omega) bel1.size ?_; intro v2 w2 hown2 hgrow2; have bel2 := bel1.grown hgrow2 bel1.size (Ow.base_le (l := []) hown1))
    | (at_builtin; refine wpList_app _ is_bytes rfl (.tmp 21) (.tmp 22) rfl (m := l) rfl hown2 rfl (hb.below bel2) hnb (by omega) bel2.size ?_; intro v3 w3 hown3 hgrow3; have bel3 := bel2.grown hgrow3 bel2.size (Ow.base_le (l := l) hown2); obtain ⟨A, k, rfl, hrd, _, _, _⟩ := hown3.reads)
    | fail)
  have ha3 := ha.below bel3
  have hb3 := hb.below bel3
  have hlm : Hid ((l ++ m).length = l.length + m.length) := List.length_append
  have hl2 : l.length ≤ 2000 := by omega
  have hm2 : m.length ≤ 2000 := by omega
  have hx : l.length + m.length ≤ maxLen := by unfold maxLen; omega
  clear hown1 hown2 hown3 hgrow2 hgrow3 bel1 bel2 ha hb h h'
  refine (sum16_len' a l _ _ _ _ rfl ha3 hl).mono ?_
  rintro e w' ⟨rfl, rfl⟩
  go_wp2_with fail
  refine (update16_len _ b m _ _ _ _ rfl hb3 hm).mono ?_
  rintro e w' ⟨rfl, rfl⟩
  go_wp2_with fail
  refine (sum16_len' A (l ++ m) _ _ _ _ hlm.out hrd hx).mono ?_
  rintro e w' ⟨rfl, rfl⟩
  rw [up16_append]
  go_wp2_with fail
  refine (sum32_len a l _ _ _ _ rfl ha3 hl).mono ?_
  rintro e w' ⟨rfl, rfl⟩
  go_wp2_with fail
  refine (update32_len _ b m _ _ _ _ rfl hb3 hm).mono ?_
  rintro e w' ⟨rfl, rfl⟩
  go_wp2_with fail
  refine (sum32_len A (l ++ m) _ _ _ _ hlm.out hrd hx).mono ?_
  rintro e w' ⟨rfl, rfl⟩
  rw [up32_append]
  go_wp2_with fail
  refine (update16_len _ a l _ _ _ _ rfl ha3 hl).mono ?_
  rintro e w' ⟨rfl, rfl⟩
  go_wp2_with fail
  refine (update16_len _ b m _ _ _ _ rfl hb3 hm).mono ?_
  rintro e w' ⟨rfl, rfl⟩
  go_wp2_with fail
  refine (update16_len _ A (l ++ m) _ _ _ _ hlm.out hrd hx).mono ?_
  rintro e w' ⟨rfl, rfl⟩
  rw [up16_append]
  go_wp2_with fail
  refine (update32_len _ a l _ _ _ _ rfl ha3 hl).mono ?_
  rintro e w' ⟨rfl, rfl⟩
  go_wp2_with fail
  refine (update32_len _ b m _ _ _ _ rfl hb3 hm).mono ?_
  rintro e w' ⟨rfl, rfl⟩
  go_wp2_with fail
  refine (update32_len _ A (l ++ m) _ _ _ _ hlm.out hrd hx).mono ?_
  rintro e w' ⟨rfl, rfl⟩
  rw [up32_append]
  go_wp2_with (go_at_call 8; refine (alive_any _).mono ?_; rintro e w4 ⟨rfl, hbel⟩)
  go_ret
  exact ⟨rfl, bel3.trans (hbel.mono bel3.size)⟩

end Go.Proofs.Ytgomkhllhpghmaa
