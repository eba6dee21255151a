/-
  The walk of the reference's Check16, 
-/
import Derived.Test.YtdichdoabhabjaaRef01b
import Derived.Deep.RegionWith
namespace Go.Proofs.Ytdichdoabhabjaa
open Go.RowKit

set_option maxHeartbeats 400000 in
theorem refCheck16_short (a : Option Addr) (l : List Byte) (c : Nat) (w : World) (hm : l.length < 2) :
    Calls Try.prog 33 #[.slice a l.length c] w fun e w' => e = .returned (.bool false) ∧ Below w.heap.size w w' := by
  have hd : decide (2 ≤ (l.length : Int)) = false := by simp; omega
  go_enter Try.func33, Try.ntmps33
  go_wp2
  go_quiet (fail)
  go_wp2
  go_ret
  exact ⟨rfl, drewN_below _ _⟩

theorem str_eq_iff (l m : List Byte) : (str l = str m) ↔ l = m := ⟨str_inj, fun h => by rw [h]⟩

theorem refAppend16_len (a : Option Addr) (l : List Byte) (len c : Nat) (w : World) (hlen : l.length = len) (hb : Bs w w.heap.size a l) (hn : a = none → c = 0) (hm : len ≤ 2000) :
    Calls Try.prog 23 #[.slice a len c] w fun e w' => ∃ v, e = .returned v ∧ Ow w' w.heap.size 5 v (ap16 l) ∧ Below w.heap.size w w' := by
  subst hlen
  exact refAppend16_any a l c w hb hn hm

set_option maxHeartbeats 400000 in
theorem refCheck16_long (a : Option Addr) (l : List Byte) (n c : Nat) (w : World) (hl : Hid (l.length = n + 2)) (hb : Bs w w.heap.size a l) (hn : n + 2 ≤ c) (hm : n + 2 ≤ 2000) :
    Calls Try.prog 33 #[.slice a ((n + 2 : Nat) : Nat) c] w fun e w' => e = .returned (.bool (ck16 l)) ∧ Below w.heap.size w w' := by
  have hbt := hb.take n
  have hlt : Hid ((l.take n).length = n) := by have := hl.out; exact List.length_take_of_le (by omega)
  have hna : a ≠ none := by
    obtain ⟨b, off, h, _⟩ := hb (by have := hl.out; omega)
    rw [h]; simp
  have hs0 : ∀ W, Below w.heap.size w W → (convert 22 9 (.slice a (n + 2) c)).run Try.prog W = .ok (.string (str l)) W := fun W hW => by
    rw [← hl.out]
    exact run_str W is_bytes Try.underlying9 (hb.below hW) (fun h => absurd h hna)
  have hB0 : Below w.heap.size w w.drew := (Below.refl _ _).drew
  go_enter Try.func33, Try.ntmps33
  go_wp2
  go_region_with ((go_at_call 23; refine (refAppend16_len _ (l.take n) _ _ _ hlt.out ?_ ?_ ?_).mono ?_; exact hbt; exact (fun h => absurd h hna); omega; rintro e w1 ⟨v, rfl, hown, hbel⟩; obtain ⟨A, c1, rfl, hrd, hnn, _, _⟩ := hown.reads; have hs1 := run_str (P := Try.prog) w1 is_bytes Try.underlying9 hrd hnn; have hs2 := hs0 w1 (hB0.trans hbel)))
  all_goals
    go_wp2
    go_ret
    refine ⟨ret_bool ?_, hB0.trans hbel⟩
    rw [str_beq]
    unfold ck16
    rw [show l.length - 2 = n by have := hl.out; omega, decide_eq_decide]
    exact ⟨fun h => ⟨by have := hl.out; omega, h⟩, fun h => h.2⟩

theorem refCheck16_any (a : Option Addr) (l : List Byte) (c : Nat) (w : World) (hb : Bs w w.heap.size a l) (hn : l.length ≤ c) (hm : l.length ≤ 2000) :
    Calls Try.prog 33 #[.slice a l.length c] w fun e w' => e = .returned (.bool (ck16 l)) ∧ Below w.heap.size w w' := by
  by_cases h : l.length < 2
  · refine (refCheck16_short a l c w h).mono fun e w' ⟨h1, h2⟩ => ⟨?_, h2⟩
    rw [h1]
    exact ret_bool (by unfold ck16; symm; rw [decide_eq_false_iff_not]; omega)
  · obtain ⟨n, hl⟩ : ∃ n, l.length = n + 2 := ⟨l.length - 2, by omega⟩
    rw [hl]
    exact refCheck16_long a l n c w hl hb (by omega) (by omega)

end Go.Proofs.Ytdichdoabhabjaa
