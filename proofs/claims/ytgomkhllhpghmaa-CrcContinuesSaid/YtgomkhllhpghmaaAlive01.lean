/-
  The walk of 'alive': the chapter's examples.
-/
import Derived.Test.YtgomkhllhpghmaaRef01c
import Derived.Lib.SlBytesConst
namespace Go.Proofs.Ytgomkhllhpghmaa
open Go.RowKit

def digits : List Byte := [49, 50, 51, 52, 53, 54, 55, 56, 57]
theorem digits16 : up16 0xffff#16 digits = 0x29b1#16 := by decide +kernel
theorem digits32 : up32 0#32 digits = 0xe3069283#32 := by decide +kernel
theorem one16 : ap16 [0#8] = [0#8, 0xe1#8, 0xf0#8] := by decide +kernel
theorem ck_one : ck16 [0#8, 0xe1#8, 0xf0#8] = true := by decide +kernel

set_option maxHeartbeats 400000 in
theorem alive_any (w : World) : Calls Try.prog 8 #[] w fun e w' => e = .returned (.bool true) ∧ Below w.heap.size w w' := by
  have hcv := fun (w : World) (C : Array Value) (n c : Nat) => Lib.run_convert_bytes_const (P := Try.prog) w 22 5 C n c Try.underlying22 Try.underlying5
  go_enter Try.func8, Try.ntmps8
  go_wp2_with fail
  have hd := Bs_new w 5 digits _ rfl (w.heap.size + 1) (by omega) (9, 10)
  refine (sum16_len _ digits 9 _ _ _ rfl hd (by decide)).mono ?_
  rintro e w1 ⟨rfl, rfl⟩
  rw [digits16]
  go_wp2_with fail
  have hd := Bs_new w 5 digits _ rfl (w.heap.size + 1) (by omega) (9, 10)
  refine (sum32_any _ digits 9 _ _ hd (by decide)).mono ?_
  rintro e w1 ⟨rfl, rfl⟩
  rw [digits32]
  go_wp2_with fail
  refine (sum16_len _ [] 0 0 0 _ rfl Bs.nil_ (by decide)).mono ?_
  rintro e w1 ⟨rfl, rfl⟩
  rw [show up16 65535#16 [] = 65535#16 from rfl]
  go_wp2_with fail
  refine (sum32_any _ [] 0 0 _ Bs.nil_ (by decide)).mono ?_
  rintro e w1 ⟨rfl, rfl⟩
  rw [show up32 0#32 [] = 0#32 from rfl]
  go_wp2_with fail
  have bel0 := (Below.refl w.heap.size w).alloc (Nat.le_refl _) (.cells (List.map B8 digits).toArray 5 (9, 10))
  have h1 := Bs_new (w.alloc (.cells (List.map B8 digits).toArray 5 (9, 10))) 5 [0#8] #[.int .u8 0] rfl (w.heap.size + 2) (by simp)
  rw [show (w.alloc (.cells (List.map B8 digits).toArray 5 (9, 10))).heap.size = w.heap.size + 1 by simp] at h1
  refine (append16_any _ [0#8] 1 _ (h1.more (by simp)) (by simp) (by decide)).mono ?_
  rintro e w1 ⟨v, rfl, hown, hbel⟩
  rw [one16] at hown
  obtain ⟨A, c1, rfl, hrd, hnn, _, _⟩ := hown.reads
  have hs1 := run_str (P := Try.prog) w1 is_bytes Try.underlying9 hrd hnn
  have bel1 : Below w.heap.size w w1 := (bel0.alloc (by simp) (.cells #[.int .u8 0] 5)).trans (hbel.mono (by simp; omega))
  rw [show str [0#8, 0xe1#8, 0xf0#8] = ⟨#[0, 225, 240]⟩ from rfl] at hs1
  rw [show [0#8, 0xe1#8, 0xf0#8].length = 3 from rfl] at hs1
  clear h1 hown hbel hrd
  go_wp2_with fail
  have h3 := Bs_new w1 5 [0#8, 0xe1#8, 0xf0#8] #[.int .u8 0, .int .u8 225, .int .u8 240] rfl (w1.heap.size + 1) (by omega)
  refine (check16_any _ [0#8, 0xe1#8, 0xf0#8] 3 _ _ h3 (by decide) (by decide)).mono ?_
  rintro e w2 ⟨rfl, n, rfl⟩
  rw [ck_one]
  clear hs1 h3
  have bel2 : Below w.heap.size w ((w1.alloc (.cells #[.int .u8 0, .int .u8 225, .int .u8 240] 5)).drewN n) := (bel1.alloc bel1.size _).trans ⟨rfl, rfl, rfl, Nat.le_refl _, fun _ _ => rfl⟩
  go_wp2
  go_ret
  exact ⟨rfl, bel2⟩

end Go.Proofs.Ytgomkhllhpghmaa
