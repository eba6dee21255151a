/-
  The walk of the law CrcAppends.
-/
import Derived.Test.YtgomkhllhpghmaaLaw01e
import Derived.Test.YtgomkhllhpghmaaLaw01c
import Derived.Test.YtgomkhllhpghmaaLater
namespace Go.Proofs.Ytgomkhllhpghmaa
open Go.RowKit

theorem ap16_len (l : List Byte) : (ap16 l).length = l.length + 2 := by simp [ap16, crcb]
theorem ap16_take (l : List Byte) : (ap16 l).take l.length = l := List.take_left
theorem ck_ap (l : List Byte) : ck16 (ap16 l) = true := ck_of_zero _ (by rw [ap16_len]; omega) (up16_ap l)

theorem conv_len {A : Option Addr} {l : List Byte} {n c : Nat} {w1 : World} (hn : l.length = n) (hr : Bs w1 w1.heap.size A l) (hz : A = none → c = 0) (W : World) (hW : Below w1.heap.size w1 W) :
    (convert 22 9 (.slice A n c)).run Try.prog W = .ok (.string (str l)) W := by
  subst hn; exact conv_of hr hz W hW

theorem check16_len (a : Option Addr) (l : List Byte) (n c B : Nat) (w : World) (hl : l.length = n) (hb : Bs w B a l) (hn : n ≤ c) (hc : c ≤ maxLen) :
    Calls Try.prog 19 #[.slice a n c] w fun e w' => e = .returned (.bool (ck16 l)) ∧ Below w.heap.size w w' := by
  subst hl
  exact (check16_any a l c B w hb hn hc).mono fun e w' ⟨h1, n, h2⟩ => ⟨h1, by rw [h2]; exact drewN_below _ _⟩

theorem check16_as (b : Bool) (a : Option Addr) (l : List Byte) (n c B : Nat) (w : World) (hck : ck16 l = b) (hl : l.length = n) (hb : Bs w B a l) (hn : n ≤ c) (hc : c ≤ maxLen) :
    Calls Try.prog 19 #[.slice a n c] w fun e w' => e = .returned (.bool b) ∧ Below w.heap.size w w' := by
  subst hck; exact check16_len a l n c B w hl hb hn hc

theorem changed_len (a : Option Addr) (s : List Byte) (n c i : Nat) (pat : BitVec 16) (w : World) (hl : s.length = n) (ha : Bs w w.heap.size a s) (hna : a = none → c = 0) (hs : n ≤ 2002) (hi : i < 65536) :
    Calls Try.prog 21 #[.slice a n c, .int .i64 i, .int .u16 (pat.toNat : Int)] w fun e w' => ∃ v x, e = .returned v ∧ Ow w' w.heap.size 5 v x ∧ Near s x i 16 ∧ Below w.heap.size w w' := by
  subst hl
  exact changed_any a s c i pat w ha hna hs hi

set_option maxHeartbeats 1000000 in
theorem crcAppends_walk (a : Option Addr) (l : List Byte) (c : Nat) (at_ pat : BitVec 16) (w : World) (hb : Bs w w.heap.size a l) (hn : a = none → c = 0) :
    Calls Try.prog 6 #[.slice a l.length c, .int .u16 (at_.toNat : Int), .int .u16 (pat.toNat : Int)] w fun e w' => e = .returned (.bool true) ∧ Below w.heap.size w w' := by
  by_cases h : 2000 < l.length
  · go_enter Try.func6, Try.ntmps6
    go_wp2_with (go_at_call 8; refine (alive_any _).mono ?_; rintro e w1 ⟨rfl, hbel⟩)
    go_ret
    exact ⟨rfl, hbel⟩
  have hl2 : l.length ≤ 2000 := by omega
  have hat := at_.isLt
  go_enter Try.func6, Try.ntmps6
  go_wp2_with fail
  refine (append16_any a l c w hb hn (by omega)).mono ?_
  rintro e w1 ⟨v, rfl, hown, hbel⟩
  obtain ⟨A, c1, rfl, hr, hz, hc1, hc2⟩ := hown.reads
  have HL : Hid ((ap16 l).length = l.length + 2) := ap16_len l
  rw [ap16_len]
  rw [ap16_len] at hc1
  have hr2 : Bs w1 w1.heap.size A l := by have := hr.take l.length; rwa [ap16_take] at this
  have hb1 := (hb.below hbel).more hbel.size
  clear hown hb
  go_wp2_with fail
  refine wp_region_later (by kernel_rfl) (by kernel_rfl) ?_
  have r1 : ∀ p : Later w1, (convert 22 9 (.slice A l.length c1)).run Try.prog p.W = .ok (.string (str l)) p.W := fun p => conv_of hr2 hz p.W p.h
  have r2 : ∀ p : Later w1, (convert 22 9 (.slice a l.length c)).run Try.prog p.W = .ok (.string (str l)) p.W := fun p => conv_of hb1 hn p.W p.h
  have hlc : (l.length : Int) ≤ (c1 : Int) := by omega
  repeat (go_big_quiet_step ((go_at_call 19; exact later_of (check16_as true A (ap16 l) _ _ _ _ (ck_ap l) HL.out (hr.below (Later.h _)) hc1 hc2))))
  refine wpQuiet_nil ?_
  rintro w2 ⟨⟨_, hbel2⟩, rfl⟩
  clear r1 r2
  have hbt2 := below_step hbel hbel2
  have hm0 : 0 < 8 * ((l.length : Int) + 2) := by omega
  go_wp2_with fail
  rw [show ((at_.toNat : Int) % (8 * ((l.length : Int) + 2))) = ((at_.toNat % (8 * (l.length + 2)) : Nat) : Int) by push_cast; rfl]
  have hr3 := (hr.below hbel2).more hbel2.size
  refine (changed_len A (ap16 l) _ c1 _ pat _ HL.out hr3 hz (by omega) (Nat.lt_of_le_of_lt (Nat.mod_le _ _) (by omega))).mono ?_
  rintro e w3 ⟨v, x, rfl, hown, hnear, hbel3⟩
  obtain ⟨A2, c2, rfl, hrx, hzx, hcx, hcx2⟩ := hown.reads
  have hbt3 := below_step hbt2 hbel3
  have HX : Hid (x.length = l.length + 2) := by show x.length = _; rw [hnear.1, ap16_len]
  have r3 := conv_len HX.out hrx hzx w3 (Below.refl _ _)
  have r4 := conv_len HL.out hr3 hz w3 hbel3
  rw [HX.out] at hcx
  rw [HX.out]
  have hbq := str_beq x (ap16 l)
  clear hown hr hr2 hb1 hr3 hm0 hlc hz hn hzx
  by_cases hx : x = ap16 l
  · rw [decide_eq_true hx] at hbq
    clear hx hnear
    go_wp2_with (go_at_call 8; refine (alive_any _).mono ?_; rintro e w4 ⟨rfl, hbel4⟩)
    go_ret
    exact ⟨rfl, below_step hbt3 hbel4⟩
  · rw [decide_eq_false hx] at hbq
    have hck : ck16 x = false := by
      cases hc : ck16 x
      · rfl
      · exact absurd (near_ck l x _ hnear hc) hx
    clear hx hnear
    have HC := Lib.hid hck
    clear hck
    go_wp2_with fail
    refine (check16_as false A2 x _ _ _ _ HC.out HX.out hrx hcx hcx2).mono ?_
    rintro e w4 ⟨rfl, hbel4⟩
    have hbt4 := below_step hbt3 hbel4
    go_wp2_with (go_at_call 8; refine (alive_any _).mono ?_; rintro e w5 ⟨rfl, hbel5⟩)
    go_ret
    exact ⟨rfl, below_step hbt4 hbel5⟩

end Go.Proofs.Ytgomkhllhpghmaa
