/-
  The reference of layer 23: Same of two equal lists.
-/
import Derived.Test.YtllhdgllgoanbaaLnkH
import Derived.Test.YtllhdgllgoanbaaLater
import Derived.Deep.QuietTactic
import Derived.BigQuiet
import Derived.BigRegion
namespace Go.Proofs.Ytllhdgllgoanbaa.Lnk
open Go.RowKit


theorem conv_n {w : World} {B n c : Nat} {A : Option Addr} {l : List Byte} (hl : l.length = n) (hb : Bs w B A l) (hn : A = none → c = 0) :
    (convert 39 9 (.slice A n c)).run Try.prog w = .ok (.string (str l)) w := by
  subst hl
  exact run_str w is_bytes Try.underlying9 hb hn
theorem conv_later {w : World} {A : Option Addr} {l : List Byte} {n c : Nat} (hl : l.length = n) (hb : Bs w w.heap.size A l) (hn : A = none → c = 0) (p : Later w) :
    (convert 39 9 (.slice A n c)).run Try.prog p.W = .ok (.string (str l)) p.W := conv_n hl (hb.below p.h) hn

set_option maxRecDepth 100000 in
set_option maxHeartbeats 2000000 in
theorem same_eq (ls : List (List Byte)) (n c1 c2 : Nat) (A1 A2 : Option Addr) (w : World) (hl : Hid (ls.length = n)) (h1 : Lst.LS w w.heap.size A1 ls) (h2 : Lst.LS w w.heap.size A2 ls) (hm : n ≤ 1000000) :
    Calls Try.prog 15 #[.slice A1 n c1, .slice A2 n c2] w fun e w' => e = .returned (.bool true) ∧ Below w.heap.size w w' := by
  have t1 : ((n : Int) != (n : Int)) = false := by simp
  go_enter Try.func15, Try.ntmps15
  go_wp2
  go_loopw [5] (fun i wr => ∃ k : Nat, k ≤ n ∧ i = .int .i64 (k : Int) ∧ Below w.heap.size w wr) (fun i _ => n - (intOf i).toNat)
  case atStart => exact ⟨0, Nat.zero_le _, rfl, Below.refl _ _⟩
  case round =>
    obtain ⟨k, hk, rfl, hB⟩ := hrel
    by_cases hkn : k < n
    · obtain ⟨l, hkl⟩ : ∃ l, ls[k]? = some l := ⟨_, List.getElem?_eq_getElem (by rw [hl.out]; exact hkn)⟩
      obtain ⟨b1, o1, s1, v1, rfl, hb1, u1, d1⟩ := (h1.below hB).at_ hkl
      obtain ⟨b2, o2, s2, v2, rfl, hb2, u2, d2⟩ := (h2.below hB).at_ hkl
      obtain ⟨M, hM⟩ : ∃ M, l.length = M := ⟨_, rfl⟩
      rw [hM] at u1 u2
      have hb1' : b1 < wr.heap.size := Nat.lt_of_lt_of_le hb1 hB.size
      have hb2' : b2 < wr.heap.size := Nat.lt_of_lt_of_le hb2 hB.size
      have e1 : ((str l).toList != (str l).toList) = false := by simp
      have d1' := d1.more hB.size
      have d2' := d2.more hB.size
      clear hkl
      go_wp2_with fail
      refine wp_region_later (by kernel_rfl) (by kernel_rfl) ?_
      have r1 : ∀ p : Later wr, p.W.cell? ⟨b1, o1 + k, none⟩ = some (.slice s1 M v1) := later_cell u1 hb1'
      have r2 : ∀ p : Later wr, p.W.cell? ⟨b2, o2 + k, none⟩ = some (.slice s2 M v2) := later_cell u2 hb2'
      have q1 : ∀ p : Later wr, (convert 39 9 (.slice s1 M v1)).run Try.prog p.W = .ok (.string (str l)) p.W := conv_later hM d1'.b d1'.n
      have q2 : ∀ p : Later wr, (convert 39 9 (.slice s2 M v2)).run Try.prog p.W = .ok (.string (str l)) p.W := conv_later hM d2'.b d2'.n
      clear u1 u2 d1 d2 d1' d2' hM h1 h2
      repeat (go_big_quiet_step (fail))
      refine wpQuiet_nil ?_
      rintro _ ⟨⟨w5, hbel5⟩, rfl⟩
      go_wp2
      go_round
      case rel => exact ⟨k + 1, hkn, by go_num, hB.trans (hbel5.mono hB.size)⟩
      case measure => simp [intOf]; omega
    · obtain rfl : k = n := by omega
      go_wp2
      go_ret
      exact ⟨rfl, hB⟩

end Go.Proofs.Ytllhdgllgoanbaa.Lnk
