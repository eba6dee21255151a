/-
  The walk of the law CrcLinear.
-/
import Derived.Test.YtgomkhllhpghmaaLaw01b
import Derived.Test.YtgomkhllhpghmaaLaw01c
import Derived.Deep.RegionHeld3
import Derived.Test.YtgomkhllhpghmaaLater
namespace Go.Proofs.Ytgomkhllhpghmaa
open Go.RowKit

theorem min3 (x y z : Nat) : ∃ n : Nat, (if (z : Int) < (if y < x then (y : Int) else (x : Int)) then (z : Int) else if y < x then (y : Int) else (x : Int)) = (n : Int) ∧ n ≤ x ∧ n ≤ y ∧ n ≤ z := by
  refine ⟨min (min x y) z, ?_, by omega, by omega, by omega⟩
  split <;> split <;> omega

def X3 (a b c : List Byte) (n : Nat) : List Byte := xors (xors (a.take n) (b.take n)) (c.take n)
section
variable {a b c : List Byte} {n : Nat}
theorem X3_len (ha : n ≤ a.length) (hb : n ≤ b.length) (hc : n ≤ c.length) : (X3 a b c n).length = n := by
  simp [X3, xors]; omega
theorem X3_take (ha : n ≤ a.length) (hb : n ≤ b.length) (hc : n ≤ c.length) (k : Nat) (hk : k < n) :
    (X3 a b c n).take (k + 1) = (X3 a b c n).take k ++ [(a[k]'(by omega)) ^^^ (b[k]'(by omega)) ^^^ (c[k]'(by omega))] := by
  have hl := X3_len ha hb hc
  rw [List.take_succ_eq_append_getElem (by omega)]
  congr 2
  simp [X3, xors]
theorem X3_16 (ha : n ≤ a.length) (hb : n ≤ b.length) (hc : n ≤ c.length) (i : BitVec 16) :
    up16 i (X3 a b c n) = up16 i (a.take n) ^^^ up16 i (b.take n) ^^^ up16 i (c.take n) := by
  have e : i = (i ^^^ i) ^^^ i := by simp
  conv => lhs; rw [e, X3]
  rw [up16_xor _ _ (by simp [xors]; omega), up16_xor _ _ (by simp; omega)]
theorem X3_raw (ha : n ≤ a.length) (hb : n ≤ b.length) (hc : n ≤ c.length) (i : BitVec 32) :
    raw32 i (X3 a b c n) = raw32 i (a.take n) ^^^ raw32 i (b.take n) ^^^ raw32 i (c.take n) := by
  have e : i = (i ^^^ i) ^^^ i := by simp
  conv => lhs; rw [e, X3]
  rw [raw32_xor _ _ (by simp [xors]; omega), raw32_xor _ _ (by simp; omega)]
theorem not3 (p q s : BitVec 32) : ~~~(p ^^^ q ^^^ s) = ~~~p ^^^ ~~~q ^^^ ~~~s := by
  ext i hi; simp
theorem X3_32 (ha : n ≤ a.length) (hb : n ≤ b.length) (hc : n ≤ c.length) :
    up32 0#32 (X3 a b c n) = up32 0#32 (a.take n) ^^^ up32 0#32 (b.take n) ^^^ up32 0#32 (c.take n) := by
  unfold up32; rw [X3_raw ha hb hc, not3]
end

theorem b8_xor (x y : Byte) : bits .xor .u8 (x.toNat : Int) (y.toNat : Int) = ((x ^^^ y).toNat : Int) := by
  rw [u8_xor_nat _ _ x.isLt y.isLt, BitVec.toNat_xor]
theorem b8_xor3 (x y z : Byte) : bits .xor .u8 (bits .xor .u8 (x.toNat : Int) (y.toNat : Int)) (z.toNat : Int) = ((x ^^^ y ^^^ z).toNat : Int) := by
  rw [b8_xor, b8_xor]

set_option maxHeartbeats 1000000 in
theorem crcLinear_walk (p q s : Option Addr) (a b c : List Byte) (cp cq cs : Nat) (w : World) (ha : Bs w w.heap.size p a) (hb : Bs w w.heap.size q b) (hc : Bs w w.heap.size s c)
    (hp : a.length ≤ cp) (hq : b.length ≤ cq) (hs : c.length ≤ cs) (hp2 : cp ≤ maxLen) :
    Calls Try.prog 7 #[.slice p a.length cp, .slice q b.length cq, .slice s c.length cs] w fun e w' => e = .returned (.bool true) ∧ Below w.heap.size w w' := by
  unfold maxLen at *
  obtain ⟨n, hmin, hna, hnb, hnc⟩ := min3 a.length b.length c.length
  by_cases h : 2000 < n
  · go_enter Try.func7, Try.ntmps7
    go_wp2_with (go_at_call 8; refine (alive_any _).mono ?_; rintro e w1 ⟨rfl, hbel⟩)
    go_ret
    exact ⟨rfl, hbel⟩
  go_enter Try.func7, Try.ntmps7
  go_wp2_with fail
  clear hmin
  go_loopw [8, 9] (fun v i wr => ∃ k : Nat, k ≤ n ∧ i = .int .i64 k ∧ Ow wr w.heap.size 5 v ((X3 a b c n).take k) ∧ Below w.heap.size w wr) (fun _ i _ => n - (intOf i).toNat)
  case atStart => exact ⟨0, Nat.zero_le _, rfl, World.ownsRow_nil _ _ _ _, Below.refl _ _⟩
  case round =>
    obtain ⟨k, hk, rfl, hown, hbel⟩ := hrel
    by_cases hlt : k < n
    · obtain ⟨b1, o1, rfl, _, hc1⟩ := (ha.below hbel).at_ (k := k) (by omega)
      obtain ⟨b2, o2, rfl, _, hc2⟩ := (hb.below hbel).at_ (k := k) (by omega)
      obtain ⟨b3, o3, rfl, _, hc3⟩ := (hc.below hbel).at_ (k := k) (by omega)
      have k0 : (0 : Int) ≤ (k : Int) := Int.natCast_nonneg _
      have k1 : (k : Int) < (a.length : Int) := by omega
      have k2 : (k : Int) < (b.length : Int) := by omega
      have k3 : (k : Int) < (c.length : Int) := by omega
      go_wp2_with fail
      have hlk : ((X3 a b c n).take k).length ≤ 2000 := by rw [List.length_take]; omega
      go_region_held3 (fun w' => w'.cell? ⟨b1, o1 + k, none⟩ = some (B8 a[k]) ∧ w'.cell? ⟨b2, o2 + k, none⟩ = some (B8 b[k]) ∧ w'.cell? ⟨b3, o3 + k, none⟩ = some (B8 c[k])) (first | go_keep | exact ⟨d1, d2, d3⟩)
        (first | (refine step_app _ is_bytes rfl (.tmp 25) (.tmp 40) rfl rfl (hown.alloc _).drew (l := [a[k] ^^^ b[k] ^^^ c[k]]) rfl (Bs_new1 wr 5 _ _ (b8_xor3 _ _ _)).drew (by simp) (by simp only [List.length_cons, List.length_nil]; omega) (by have := hbel.size; simp; omega) ?_; intro v1 w1 hown1 hgrow1; have hbel1 := ((hbel.alloc hbel.size (.cells #[.int .u8 (bits .xor .u8 (bits .xor .u8 (a[k].toNat : Int) (b[k].toNat : Int)) (c[k].toNat : Int))] 5)).drew).grown hgrow1 (by have := hbel.size; simp; omega) hown.base_le; have d1 := (hbel1.cell (p := ⟨b1, o1 + k, none⟩) (by assumption)).trans ((hbel.cell (p := ⟨b1, o1 + k, none⟩) (by assumption)).symm.trans hc1); have d2 := (hbel1.cell (p := ⟨b2, o2 + k, none⟩) (by assumption)).trans ((hbel.cell (p := ⟨b2, o2 + k, none⟩) (by assumption)).symm.trans hc2); have d3 := (hbel1.cell (p := ⟨b3, o3 + k, none⟩) (by assumption)).trans ((hbel.cell (p := ⟨b3, o3 + k, none⟩) (by assumption)).symm.trans hc3)))
      have R := X3_take hna hnb hnc k hlt
      rw [← R] at hown1
      clear R hown hgrow1 d1 d2 d3 hc1 hc2 hc3 hlk
      go_wp2
      go_roundw
      case rel => exact ⟨k + 1, by omega, by go_num, hown1, hbel1⟩
      case measure => simp [intOf]; omega
    · have hkn : Hid (k = n) := by show k = n; omega
      have hxl := X3_len hna hnb hnc
      rw [hkn.out, List.take_of_length_le (by omega)] at hown
      obtain ⟨A, e, rfl, hr, _, he1, he2⟩ := hown.reads
      rw [hxl] at he1
      have HL := Lib.hid hxl
      rw [hxl]
      clear hxl
      have HA : Hid ((a.take n).length = n) := List.length_take_of_le hna
      have HB : Hid ((b.take n).length = n) := List.length_take_of_le hnb
      have HC : Hid ((c.take n).length = n) := List.length_take_of_le hnc
      have ta := (ha.below hbel).take n
      have tb := (hb.below hbel).take n
      have tc := (hc.below hbel).take n
      have n1 : n ≤ cp := by omega
      have n2 : n ≤ cq := by omega
      have n3 : n ≤ cs := by omega
      have nm : n ≤ maxLen := by unfold maxLen; omega
      have q16 : (((up16 0xffff#16 (X3 a b c n)).toNat : Int) == bits .xor .u16 (bits .xor .u16 ((up16 0xffff#16 (a.take n)).toNat : Int) ((up16 0xffff#16 (b.take n)).toNat : Int)) ((up16 0xffff#16 (c.take n)).toNat : Int)) = true := by
        rw [b16_xor, b16_xor, X3_16 hna hnb hnc]; simp
      have q32 : (((up32 0#32 (X3 a b c n)).toNat : Int) == bits .xor .u32 (bits .xor .u32 ((up32 0#32 (a.take n)).toNat : Int) ((up32 0#32 (b.take n)).toNat : Int)) ((up32 0#32 (c.take n)).toNat : Int)) = true := by
        rw [b32_xor, b32_xor, X3_32 hna hnb hnc]; simp
      clear ha hb hc hown
      go_wp2_with fail
      refine wp_region_later (by kernel_rfl) (by kernel_rfl) ?_
      repeat (go_big_quiet_step ((first
        | (go_at_call_of 9 (Value.slice A n e); exact later_same (sum16_len' A (X3 a b c n) _ _ wr.heap.size _ HL.out (hr.below (Later.h _)) nm))
        | (go_at_call_of 9 (Value.slice p n cp); exact later_same (sum16_len' p (a.take n) _ _ wr.heap.size _ HA.out ((ta.more hbel.size).below (Later.h _)) nm))
        | (go_at_call_of 9 (Value.slice q n cq); exact later_same (sum16_len' q (b.take n) _ _ wr.heap.size _ HB.out ((tb.more hbel.size).below (Later.h _)) nm))
        | (go_at_call_of 9 (Value.slice s n cs); exact later_same (sum16_len' s (c.take n) _ _ wr.heap.size _ HC.out ((tc.more hbel.size).below (Later.h _)) nm))
        | (go_at_call_of 13 (Value.slice A n e); exact later_same (sum32_len A (X3 a b c n) _ _ wr.heap.size _ HL.out (hr.below (Later.h _)) nm))
        | (go_at_call_of 13 (Value.slice p n cp); exact later_same (sum32_len p (a.take n) _ _ wr.heap.size _ HA.out ((ta.more hbel.size).below (Later.h _)) nm))
        | (go_at_call_of 13 (Value.slice q n cq); exact later_same (sum32_len q (b.take n) _ _ wr.heap.size _ HB.out ((tb.more hbel.size).below (Later.h _)) nm))
        | (go_at_call_of 13 (Value.slice s n cs); exact later_same (sum32_len s (c.take n) _ _ wr.heap.size _ HC.out ((tc.more hbel.size).below (Later.h _)) nm))
        | (go_at_call 8; exact later_of (alive_any _)))))
      refine wpQuiet_nil ?_
      rintro _ ⟨⟨w5, hbel5⟩, rfl⟩
      go_wp2
      go_ret
      exact ⟨rfl, below_step hbel hbel5⟩

end Go.Proofs.Ytgomkhllhpghmaa
