/-
  Package slices at ints: Index, Contains, Clone, Delete of one; what an int's type is.
-/
import Derived.Shelf.Abstract
import Derived.Shelf.RegionOpenPlain
import Derived.WalkKit
import Derived.Deep.LoopGhost
import Derived.Deep.RegionLaw
import Derived.Lib.Walk
import Derived.Laws.MakeOwn
import Derived.Test.YtllhdgllgoanbaaBase
import Derived.Test.YtllhdgllgoanbaaIntH
import Derived.Test.YtllhdgllgoanbaaRowK
namespace Go.Proofs.Ytllhdgllgoanbaa.Ints
open Go.RowKit Go.Shelf

theorem info_int : (Try.prog.info? 3).map (fun i => (i.zero, i.size, i.bytes)) = some (some (I 0), 1, 8) := by kernel_rfl
theorem is_ints : IsInts Try.prog 23 3 := by
  obtain ⟨i, h0, h1, h2, h3⟩ := info_parts info_int
  exact ⟨Try.underlying23, i, h0, h1, h2, h3⟩
theorem On_ns {w : World} {base n c : Nat} {e : TypeId} {A : Option Addr} {l : List Int} (h : On w base e (.slice A n c) l) : Ns w w.heap.size A l := by
  obtain ⟨A', c', he, h2, _⟩ := h.reads
  cases he
  exact h2

/-- make([]int, 0, n) -/
theorem run_make_ints {P : Program} {t e : TypeId} (hT : IsInts P t e) (n : Nat) (hn : n ≤ 1000000) (w : World) :
    (Instr.makeSlice t (.int .i64 0) (.int .i64 (n : Int))).run P w = .ok (.slice (some ⟨w.heap.size, 0, none⟩) 0 n) (w.alloc (.cells (madeCells #[I 0] n) e)) := by
  obtain ⟨ht, i, hi, hz, hs, hb⟩ := hT
  have hr := run_make (P := P) w t e i (I 0) ht hi hz .i64 .i64 0 n (Int.le_refl _) (by omega) (by rw [hb]; omega) (by omega)
  simp only [Int.toNat_natCast, hs, Nat.mul_one, Int.toNat_zero] at hr
  exact hr
theorem On_made (w : World) (e : TypeId) (base n : Nat) (hb : base ≤ w.heap.size) (hn : n ≤ 1000000) : On (w.alloc (.cells (madeCells #[I 0] n) e)) base e (.slice (some ⟨w.heap.size, 0, none⟩) 0 n) [] :=
  World.ownsRow_made w _ n hb (by simp only [maxLen]; omega) (by rw [size_madeCells]; simp)
theorem Ns.drop {w : World} {B b off : Nat} {l : List Int} (h : Ns w B (some ⟨b, off, none⟩) l) (n : Nat) : Ns w B (some ⟨b, off + n, none⟩) (l.drop n) := fun hl => by
  obtain ⟨b', off', he, hb, hc⟩ := h (by simp at hl; omega)
  cases he
  refine ⟨b, off + n, rfl, hb, fun i x hx => ?_⟩
  rw [List.getElem?_drop] at hx
  rw [Nat.add_assoc]
  exact hc (n + i) x hx
theorem Ns.take {w : World} {B : Nat} {a : Option Addr} {l : List Int} (h : Ns w B a l) (n : Nat) : Ns w B a (l.take n) := fun hl => by
  obtain ⟨b, off, rfl, hb, hc⟩ := h (by simp at hl; omega)
  refine ⟨b, off, rfl, hb, fun i x hx => hc i x ?_⟩
  rw [List.getElem?_take] at hx
  split at hx
  · exact hx
  · cases hx

set_option maxHeartbeats 1000000 in
theorem iindex_any (x : Int) (l : List Int) (w : World) (A : Option Addr) (c : Nat) (hr : Ns w w.heap.size A l) (hl : l.length ≤ 1000000) :
    Calls Try.prog 40 #[.slice A l.length c, I x] w fun e w' => ∃ r : Int, e = .returned (I r) ∧ w = w' ∧ Hid ((0 ≤ r ∧ x ∈ l) ∨ (r = -1 ∧ x ∉ l)) := by
  go_enter Try.func40, Try.ntmps40
  go_wp2
  go_loopw [5, 8] (fun _ i wr => ∃ k : Nat, k ≤ l.length ∧ i = .int .i64 k ∧ wr = w ∧ Hid (x ∉ l.take k)) (fun _ i _ => l.length - (intOf i).toNat)
  case atStart => exact ⟨0, Nat.zero_le _, rfl, rfl, Lib.hid (by simp)⟩
  case round =>
    obtain ⟨k, hk, rfl, rfl, hno⟩ := hrel
    by_cases hlt : k < l.length
    · obtain ⟨b, off, rfl, hbw, hc1⟩ := hr.at_ hlt
      have htk : Hid (l.take (k + 1) = l.take k ++ [l[k]]) := Lib.hid (by rw [List.take_add_one, List.getElem?_eq_getElem hlt]; rfl)
      have hmem : Hid (l[k] ∈ l) := Lib.hid (List.getElem_mem hlt)
      clear hr
      generalize l[k] = y at hc1 htk hmem
      by_cases hq : x = y
      · subst hq
        go_wp2
        go_ret
        exact ⟨_, rfl, rfl, Lib.hid (.inl ⟨by omega, hmem.out⟩)⟩
      · have hqd : (x == y) = false := by simpa using hq
        have HQ := Lib.hid hq
        clear hq
        go_wp2
        go_roundw
        case rel =>
          refine ⟨k + 1, hlt, by simp, trivial, Lib.hid ?_⟩
          rw [htk.out]
          simp only [List.mem_append, List.mem_singleton, not_or]
          exact ⟨hno.out, HQ.out⟩
        case measure => simp [intOf]; omega
    · obtain rfl : k = l.length := by omega
      go_wp2
      go_ret
      exact ⟨_, rfl, rfl, Lib.hid (.inr ⟨rfl, by have := hno.out; rwa [List.take_length] at this⟩)⟩

set_option maxHeartbeats 1000000 in
theorem icontains_any (x : Int) (l : List Int) (w : World) (A : Option Addr) (c : Nat) (hr : Ns w w.heap.size A l) (hl : l.length ≤ 1000000) :
    Calls Try.prog 27 #[.slice A l.length c, I x] w fun e w' => e = .returned (.bool (decide (x ∈ l))) ∧ w = w' := by
  have hi := iindex_any x l w A c hr hl
  obtain ⟨E, hE⟩ : ∃ E, E = decide (x ∈ l) := ⟨_, rfl⟩
  rw [← hE]
  have HE := Lib.hid hE
  clear hE hr
  go_enter Try.func27, Try.ntmps27
  go_wp2_with fail
  refine hi.mono ?_
  rintro e w1 ⟨r, rfl, rfl, hx⟩
  rcases hx.out with ⟨h0, h1⟩ | ⟨rfl, h1⟩
  · have hT : E = true := by rw [HE.out]; simpa using h1
    subst hT
    have t1 : decide ((0 : Int) ≤ r) = true := by simpa using h0
    clear hx HE h1
    go_wp2_with fail
    go_ret
    exact ⟨rfl, rfl⟩
  · have hF : E = false := by rw [HE.out]; simpa using h1
    subst hF
    clear hx HE h1
    go_wp2_with fail
    go_ret
    exact ⟨rfl, rfl⟩

set_option maxHeartbeats 1000000 in
theorem iclone_any (L : List Int) (w : World) (A : Option Addr) (c : Nat) (hr : Ns w w.heap.size A L) (hn : A = none → c = 0) (hl : L.length ≤ 1000000) :
    Calls Try.prog 21 #[.slice A L.length c] w fun e w' => ∃ v, e = .returned v ∧ On w' w.heap.size 3 v L ∧ Below w.heap.size w w' := by
  have q := fun (w : World) (a : Option Addr) (n c n' c' : Nat) => Lib.run_eql_slice_nil w 23 3 a n c n' c' Try.underlying23
  cases A with
  | none =>
    have hL : L = [] := by
      rcases Nat.eq_zero_or_pos L.length with h0 | h0
      · exact List.eq_nil_of_length_eq_zero h0
      · obtain ⟨b, off, h, _⟩ := hr h0; cases h
    subst hL
    clear hr
    go_enter Try.func21, Try.ntmps21
    go_wp2
    go_ret
    exact ⟨_, rfl, On.nil_ _ _ _, Below.refl _ _⟩
  | some a =>
    obtain ⟨ab, ao, asp⟩ := a
    have b1 : Below w.heap.size w (w.alloc (.cells #[] 3)) := (Below.refl _ w).alloc (Nat.le_refl _) _
    have hr1 := (hr.below b1)
    have ho1 : On (w.alloc (.cells #[] 3)) w.heap.size 3 (.slice (some ⟨w.heap.size, 0, none⟩) 0 0) [] :=
      ⟨rfl, .inr ⟨w.heap.size, 0, #[], rfl, Nat.le_refl _, heap_alloc_new w _, Nat.le_refl _, by simp, rfl, rfl⟩⟩
    clear hr
    go_enter Try.func21, Try.ntmps21
    go_wp2_with (at_builtin; refine wpList_iapp _ is_ints rfl (.tmp 5) (.tmp 6) rfl rfl ho1 (l := L) rfl rfl hr1 hn (by simp; omega) (by simp) ?_; intro v2 w2 hown2 hg2 hv2)
    go_ret
    exact ⟨_, rfl, by simpa using hown2, b1.grown hg2 (by simp) (fun i hi => by have := ho1.base_le i hi; omega)⟩

/-! ### the row behind a slice of the call's own -/
section
variable {w w' : World} {base g c : Nat} {e : TypeId} {v : Value} {L : List Int}
/-- block g holds the ints L and as many cells more as capacity c says -/
def Rw1 (w : World) (e : TypeId) (g c : Nat) (L : List Int) : Prop := ∃ sp : List Value, Cel w g e (L.map I ++ sp).toArray ∧ L.length + sp.length = c ∧ c ≤ maxLen
theorem On_row (h : On w base e v L) (hl : 0 < L.length) : ∃ g c, v = .slice (some ⟨g, 0, none⟩) L.length c ∧ base ≤ g ∧ Rw1 w e g c L := by
  rcases h.2 with ⟨rfl, h0⟩ | ⟨g, cap, cur, rfl, hb, hh, hn, hm, hs, ht⟩
  · omega
  · refine ⟨g, cap, rfl, hb, cur.toList.drop L.length, ?_, ?_, hm⟩
    · have : L.map I ++ cur.toList.drop L.length = cur.toList := by
        have h2 : cur.toList.take L.length = L.map I := by simpa using ht
        rw [← h2, List.take_append_drop]
      unfold Cel
      rw [this]; exact hh
    · rw [List.length_drop, show cur.toList.length = cap by simpa using hs]; omega
theorem Rw1.on (h : Rw1 w e g c L) (hb : base ≤ g) : On w base e (.slice (some ⟨g, 0, none⟩) L.length c) L := by
  obtain ⟨sp, hh, hs, hm⟩ := h
  refine ⟨by simp, .inr ⟨g, c, _, rfl, hb, hh, by omega, hm, ?_, ?_⟩⟩
  · simp; omega
  · rw [List.toList_toArray, Nat.mul_one, show L.length = (L.map I).length by simp, List.take_left]
end

end Go.Proofs.Ytllhdgllgoanbaa.Ints
