/-
  Package ranges: normal, over slices.SortedFunc(slices.Values(l), byFrom).
-/
import Derived.Test.YtaaikmncdgfkmaaRngSort
import Derived.Test.YtaaikmncdgfkmaaRngW1
namespace Go.Proofs.Ytaaikmncdgfkmaa.Rng
open Go.RowKit

theorem joins_length : ∀ (s v : List R), (s.foldl join v).length ≤ v.length + s.length
  | [], v => by simp
  | r :: s, v => by have := joins_length s (join v r); have := join_length v r; simp; omega
theorem foldl_take {α β : Type} (f : β → α → β) (b : β) {s : List α} {k : Nat} {x : α} (h : s[k]? = some x) : (s.take (k + 1)).foldl f b = f ((s.take k).foldl f b) x := by
  rw [List.take_add_one, h]; simp
theorem made_below {w w' : World} {base B : Nat} {v v' : Value} {l : List R} (h : Made w w' base v v' l) (hB : B ≤ w.heap.size) (hb : ∀ k, v.ownBlock = some k → B ≤ k) : Below B w w' :=
  h.only.below hB fun x hx => hb x (by simpa using hx)

set_option maxHeartbeats 1000000 in
theorem collect_any (Bs n₀ cap : Nat) (A : Option Addr) (zs : List R) (hl : zs.length ≤ 1099511627776) (w : World) (hBs : Bs < w.heap.size) (hn₀ : n₀ ≤ w.heap.size) (hc : w.cell? ⟨Bs, 0, none⟩ = some (.slice A zs.length cap)) (hI : Rs w n₀ A zs) :
    Calls Try.prog 69 #[.func (.func 71) #[] #[.pointer (some ⟨Bs, 0, none⟩)]] w
      fun e W' => ∃ v, e = .returned v ∧ Os W' w.heap.size 62 v zs ∧ Below w.heap.size w W' := by
  have hcon := callsIn_wide.1 (append_seq_in Fence.wide 3 trivial trivial rfl (by omega) Bs n₀ cap A zs hl w hBs hn₀ hc hI)
  clear hc hI
  go_enter Try.func69, Try.ntmps69
  go_wp2_with (go_at_call 73; refine hcon.mono ?_; rintro e w' ⟨v, rfl, ho, hb⟩)
  go_ret
  exact ⟨_, rfl, ho, hb⟩

set_option maxHeartbeats 1000000 in
theorem sorted_any (Bs n₀ cap : Nat) (A : Option Addr) (zs : List R) (hl : zs.length ≤ 1099511627776) (w : World) (hBs : Bs < w.heap.size) (hn₀ : n₀ ≤ w.heap.size) (hc : w.cell? ⟨Bs, 0, none⟩ = some (.slice A zs.length cap)) (hI : Rs w n₀ A zs) :
    Calls Try.prog 64 #[.func (.func 71) #[] #[.pointer (some ⟨Bs, 0, none⟩)], .func (.func 66) #[] #[]] w
      fun e W' => ∃ v, e = .returned v ∧ ∃ s, s.Pairwise (fun a b : R => a.1 ≤ b.1) ∧ s.Perm zs ∧ Os W' w.heap.size 62 v s ∧ Below w.heap.size w W' := by
  have hcon := collect_any Bs n₀ cap A zs hl w hBs hn₀ hc hI
  clear hc hI
  go_enter Try.func64, Try.ntmps64
  go_wp2_with (first
    | (go_at_call 69; refine hcon.mono ?_; rintro e w1 ⟨v, rfl, ho, hb⟩)
    | (go_at_call 70; refine (sort_any zs _ _ _ ho hl).mono ?_; rintro e w2 ⟨rfl, s, hs, hp, ho2, hon⟩))
  go_ret
  exact ⟨_, rfl, s, hs, hp, ho2, hb.trans (hon.below hb.size (fun x hx => ho.base_le x (by simpa using hx)))⟩

set_option maxHeartbeats 2000000 in
theorem normal_any (l : List R) (w : World) (A : Option Addr) (c : Nat) (h : Rs w w.heap.size A l) (hl : l.length ≤ 1000000000000) :
    Calls Try.prog 60 #[.slice A l.length c] w fun e w' => ∃ v, e = .returned v ∧ Os w' w.heap.size 62 v (nrm l) ∧ Below w.heap.size w w' := by
  have b1 : Below w.heap.size w (w.alloc (.cells #[.slice A l.length c] 36)) := (Below.refl _ w).alloc (Nat.le_refl _) _
  have hcon := sorted_any w.heap.size w.heap.size c A l (by omega) (w.alloc (.cells #[.slice A l.length c] 36)) (by simp) (by simp) ((Cel.new w 36 #[.slice A l.length c]).cell 0) (h.below b1)
  have hs1 : (w.alloc (.cells #[.slice A l.length c] 36)).heap.size = w.heap.size + 1 := by simp
  obtain ⟨w1, hw1⟩ : ∃ w1, w1 = w.alloc (.cells #[.slice A l.length c] 36) := ⟨_, rfl⟩
  rw [← hw1] at b1 hcon hs1
  have hv := values_any A l.length c w
  rw [← hw1] at hv
  clear hw1 h
  go_enter Try.func60, Try.ntmps60
  go_wp2_with (first
    | (go_at_call 65; refine hv.mono ?_; rintro e w1 ⟨rfl, rfl⟩)
    | (go_at_call 64; refine hcon.mono ?_; rintro e w2 ⟨v, rfl, s, hs, hp, ho2, hb2⟩; obtain ⟨A2, c2, rfl, hr2, _, _, _⟩ := ho2.reads))
  have hsl : s.length ≤ 1000000000000 := by rw [hp.length_eq]; exact hl
  have hN := Lib.hid (joins_nrm hs hp)
  clear hs hp hcon hv ho2
  go_loopw [3, 10] (fun o i wr => ∃ k : Nat, k ≤ s.length ∧ i = .int .i64 k ∧ Os wr w2.heap.size 62 o ((s.take k).foldl join []) ∧ Below w2.heap.size w2 wr)
    (fun _ i _ => s.length - (intOf i).toNat)
  case atStart => exact ⟨0, Nat.zero_le _, rfl, Os.nil_ _ _ _, Below.refl _ _⟩
  case round =>
    obtain ⟨k, hk, rfl, ho, hbel⟩ := hrel
    by_cases hlt : k < s.length
    · obtain ⟨b, off, rfl, hbw, hc1, hc2⟩ := (hr2.below hbel).at_ hlt
      obtain ⟨⟨p, q⟩, hx⟩ : ∃ z, z = s[k] := ⟨_, rfl⟩
      have hfl := Lib.hid (foldl_take join [] (List.getElem?_eq_getElem hlt))
      have hjl := joins_length (s.take k) []
      rw [List.length_take] at hjl
      rw [← hx] at hc1 hc2 hfl
      clear hx
      dsimp only at hc1 hc2
      have hsz := hbel.size
      go_wp2_with (go_at_call 62; refine (join_any _ p q _ w2.heap.size _ (ho.alloc _) (by simp; omega) (by simp at hjl; omega)).mono ?_; rintro e w3 ⟨v3, rfl, hm⟩)
      go_roundw
      case rel => exact ⟨k + 1, hlt, by simp, by rw [hfl.out]; exact hm.own, (hbel.alloc hsz _).trans (made_below hm (by simp; omega) ho.base_le)⟩
      case measure => simp [intOf]; omega
    · obtain rfl : k = s.length := by omega
      rw [List.take_length, hN.out] at ho
      have hfin : Below w.heap.size w wr := b1.trans ((hb2.mono (by omega)).trans (hbel.mono (by have := b1.size; have := hb2.size; omega)))
      have hbase : w.heap.size ≤ w2.heap.size := by have := b1.size; have := hb2.size; omega
      go_wp2
      go_ret
      exact ⟨_, rfl, ho.more hbase, hfin⟩
end Go.Proofs.Ytaaikmncdgfkmaa.Rng
