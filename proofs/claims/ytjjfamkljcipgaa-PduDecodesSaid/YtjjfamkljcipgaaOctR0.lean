/-
  The walks of package octets' Reader: works, Left, Failed, End, NewReader, take, parse, unfold; and what it is to be a Reader.
-/
import Derived.Test.YtjjfamkljcipgaaOctW0
namespace Go.Proofs.Ytjjfamkljcipgaa
open Go.RowKit

theorem Bs.drop {w : World} {B b off : Nat} {l : List Byte} (h : Bs w B (some ⟨b, off, none⟩) l) (k : Nat) : Bs w B (some ⟨b, off + k, none⟩) (l.drop k) := fun hl => by
  rw [List.length_drop] at hl
  obtain ⟨b', off', he, hb, hc⟩ := h (by omega)
  injection he with he
  injection he with h1 h2
  subst h1 h2
  refine ⟨b, off + k, rfl, hb, fun i x hx => ?_⟩
  rw [List.getElem?_drop] at hx
  rw [Nat.add_assoc]
  exact hc _ x hx

theorem at_nonempty {w : World} {B : Nat} {A : Option Addr} {l : List Byte} (h : Bs w B A l) (hl : 0 < l.length) : ∃ b off, A = some ⟨b, off, none⟩ ∧ b < B := by
  obtain ⟨b, off, h1, h2, _⟩ := h hl
  exact ⟨b, off, h1, h2⟩

/-- an address without a spot -/
def Plain (A : Option Addr) : Prop := A = none ∨ ∃ b off, A = some ⟨b, off, none⟩
theorem Ow.plain {w : World} {base : Nat} {e : TypeId} {A : Option Addr} {n c : Nat} {l : List Byte} (h : Ow w base e (.slice A n c) l) : Plain A := by
  rcases h.2 with ⟨h2, _⟩ | ⟨g, cap, cur, h2, _⟩
  · injection h2 with h2
    exact .inl h2
  · injection h2 with h2
    exact .inr ⟨g, 0, h2⟩

/-- block g is a Reader of package octets: st is what it has left, or that it has failed; its bytes lie below block B -/
def OR (w : World) (B g : Nat) (st : Option (List Byte)) : Prop :=
  ∃ A l c, Cel w g 74 #[.bool true, .bool st.isNone, .slice A l.length c] ∧ Bs w B A l ∧ (A = none → c = 0) ∧ l.length ≤ c ∧ c ≤ maxLen ∧ B ≤ g ∧ Plain A ∧ ∀ m, st = some m → l = m

section
variable {w w' : World} {B g : Nat} {st : Option (List Byte)} {S : List Nat}
theorem OR.lt (h : OR w B g st) : B ≤ g ∧ g < w.heap.size := by
  obtain ⟨A, l, c, hc, _, _, _, _, hB, _⟩ := h
  exact ⟨hB, hc.lt⟩
theorem OR.only (h : OR w B g st) (k : Only S w w') (hg : g ∉ S) (hr : ∀ x ∈ S, B ≤ x) : OR w' B g st := by
  obtain ⟨A, l, c, hc, hb, rest⟩ := h
  have hB := rest.2.2.2.1
  exact ⟨A, l, c, hc.only k hg, hb.below (k.below (by have := hc.lt; omega) hr), rest⟩
theorem OR.below (h : OR w B g st) (k : Below w.heap.size w w') : OR w' B g st := h.only (Only.of_below (S := []) k) (by simp) (by simp)
theorem OR.draws (h : OR w B g st) (n : Nat) : OR (w.drewN n) B g st := h
theorem OR.drew (h : OR w B g st) : OR w.drew B g st := h
theorem OR.failed (h : OR w B g st) : OR (w.setCell ⟨g, 1, none⟩ (.bool true)) B g none := by
  obtain ⟨A, l, c, hc, hb, h1, h2, h3, hB, hpl, _⟩ := h
  refine ⟨A, l, c, ?_, ?_, h1, h2, h3, hB, hpl, fun m hm => by cases hm⟩
  · have := hc.put 1 (.bool true)
    simpa using this
  · exact hb.keep fun p hp => World.cell?_of_block (Below.heap_setCell w ⟨g, 1, none⟩ _ p.block (fun e => by simp at e; omega))
end

set_option maxHeartbeats 400000 in
theorem orWorks (w : World) (B g : Nat) (st : Option (List Byte)) (h : OR w B g st) :
    Calls Try.prog 60 #[.pointer (some ⟨g, 0, none⟩)] w fun e w' => e = .returned (.bool st.isSome) ∧ w = w' := by
  obtain ⟨A, l, c, hc, _⟩ := h
  have c0 := hc.cell 0
  have c1 := hc.cell 1
  simp at c0 c1
  clear hc
  cases st with
  | none =>
    go_enter Try.func60, Try.ntmps60
    go_wp2
    go_ret
    exact ⟨rfl, rfl⟩
  | some m =>
    go_enter Try.func60, Try.ntmps60
    go_wp2
    go_ret
    exact ⟨rfl, rfl⟩
set_option maxHeartbeats 400000 in
theorem or_works_nil (w : World) : Calls Try.prog 60 #[.pointer none] w fun e w' => e = .returned (.bool false) ∧ w = w' := by
  go_enter Try.func60, Try.ntmps60
  go_wp2
  go_ret
  exact ⟨rfl, rfl⟩

set_option maxHeartbeats 400000 in
theorem orFailed (w : World) (B g : Nat) (st : Option (List Byte)) (h : OR w B g st) :
    Calls Try.prog 67 #[.pointer (some ⟨g, 0, none⟩)] w fun e w' => e = .returned (.bool st.isNone) ∧ w = w' := by
  obtain ⟨A, l, c, hc, _⟩ := h
  have c1 := hc.cell 1
  simp at c1
  clear hc
  go_enter Try.func67, Try.ntmps67
  go_wp2
  go_ret
  exact ⟨rfl, rfl⟩
set_option maxHeartbeats 400000 in
theorem or_failed_nil (w : World) : Calls Try.prog 67 #[.pointer none] w fun e w' => e = .returned (.bool false) ∧ w = w' := by
  go_enter Try.func67, Try.ntmps67
  go_wp2
  go_ret
  exact ⟨rfl, rfl⟩

/-- the number of bytes that are left -/
def lftO (st : Option (List Byte)) : Nat := (st.getD []).length

set_option maxHeartbeats 400000 in
theorem orLeft (w : World) (B g : Nat) (st : Option (List Byte)) (h : OR w B g st) :
    Calls Try.prog 40 #[.pointer (some ⟨g, 0, none⟩)] w fun e w' => e = .returned (.int .i64 (lftO st : Int)) ∧ w = w' := by
  have hw := orWorks w B g st h
  cases st with
  | none =>
    go_enter Try.func40, Try.ntmps40
    go_wp2_with (go_at_call 60; refine hw.mono ?_; rintro e w' ⟨rfl, rfl⟩)
    go_ret
    exact ⟨rfl, rfl⟩
  | some m =>
    obtain ⟨A, l, c, hc, hb, hn, h1, h2, hB, _, hm⟩ := h
    obtain rfl := hm m rfl
    have c2 := hc.cell 2
    simp at c2
    go_enter Try.func40, Try.ntmps40
    go_wp2_with (go_at_call 60; refine hw.mono ?_; rintro e w' ⟨rfl, rfl⟩)
    go_ret
    exact ⟨rfl, rfl⟩

/-- nothing has failed, nothing is left -/
def endO (st : Option (List Byte)) : Bool := st == some []
set_option maxHeartbeats 400000 in
theorem orNew (a : Option Addr) (l : List Byte) (n c : Nat) (w : World) (hl : Hid (l.length = n)) (hb : Bs w w.heap.size a l) (hn : a = none → c = 0) (hm : n ≤ 140737488355328) :
    Calls Try.prog 37 #[.slice a n c] w fun e w' => ∃ g, e = .returned (.pointer (some ⟨g, 0, none⟩)) ∧ OR w' g g (some l) ∧ w.heap.size ≤ g ∧ Below w.heap.size w w' := by
  go_enter Try.func37, Try.ntmps37
  go_wp2_with (go_at_call 48; refine (clone_any a l _ c _ hl hb hn hm).mono ?_; rintro e w1 ⟨v, rfl, hown, hbel⟩; obtain ⟨A, c2, rfl, hA, hAn, hAc, hAm⟩ := hown.reads)
  go_ret
  exact ⟨w1.heap.size, rfl, ⟨A, l, c2, Cel.new _ _ _, hA.below ((Below.refl _ _).alloc (Nat.le_refl _) _), hAn, hAc, hAm, Nat.le_refl _, (hown.plain), fun m hm => by injection hm⟩, hbel.size, hbel.alloc hbel.size _⟩

set_option maxHeartbeats 400000 in
theorem take_some (w : World) (g b off : Nat) (n c k : Nat) (h : Cel w g 74 #[.bool true, .bool false, .slice (some ⟨b, off, none⟩) n c]) (hk : k ≤ n) (hn : n ≤ c) (hc : c ≤ 9223372036854775807) :
    Calls Try.prog 71 #[.pointer (some ⟨g, 0, none⟩), .int .i64 (k : Int)] w fun e w' => e = .returned (.slice (some ⟨b, off, none⟩) k c) ∧ ∃ o, (o = off + k ∨ c = k) ∧ w' = w.setCell ⟨g, 2, none⟩ (.slice (some ⟨b, o, none⟩) (n - k) (c - k)) := by
  have c2 := h.cell 2
  have f2 := h.free 2
  simp at c2
  by_cases hck : c = k
  · have hnk : n = k := by omega
    subst hck hnk
    go_enter Try.func71, Try.ntmps71
    go_wp2
    go_ret
    exact ⟨rfl, off, .inr trivial, by simp⟩
  · have hck2 : ¬ (c ≤ k) := by omega
    go_enter Try.func71, Try.ntmps71
    go_wp2
    go_ret
    exact ⟨rfl, off + k, .inl rfl, by simp⟩
set_option maxHeartbeats 400000 in
theorem take_none (w : World) (g : Nat) (h : Cel w g 74 #[.bool true, .bool false, .slice none 0 0]) :
    Calls Try.prog 71 #[.pointer (some ⟨g, 0, none⟩), .int .i64 0] w fun e w' => e = .returned (.slice none 0 0) ∧ w' = w.setCell ⟨g, 2, none⟩ (.slice none 0 0) := by
  have c2 := h.cell 2
  have f2 := h.free 2
  simp at c2
  go_enter Try.func71, Try.ntmps71
  go_wp2
  go_ret
  exact ⟨rfl, rfl⟩

theorem orTake (w : World) (B g : Nat) (l : List Byte) (k : Nat) (K : Int) (hK : K = (k : Int)) (h : OR w B g (some l)) (hk : k ≤ l.length) :
    Calls Try.prog 71 #[.pointer (some ⟨g, 0, none⟩), .int .i64 K] w fun e w' => ∃ A c, e = .returned (.slice A k c) ∧ Bs w' B A (l.take k) ∧ (A = none → c = 0) ∧ k ≤ c ∧ c ≤ maxLen ∧ OR w' B g (some (l.drop k)) ∧ Only [g] w w' := by
  subst hK
  obtain ⟨A, m, c, hc, hb, hn, h1, h2, hB, hpl, hm⟩ := h
  obtain rfl := hm l rfl
  have hkeep : ∀ A' m' u, Bs w B A' m' → Bs (w.setCell ⟨g, 2, none⟩ u) B A' m' := fun A' m' u hb => hb.keep fun p hp => World.cell?_of_block (Below.heap_setCell w ⟨g, 2, none⟩ _ p.block (fun e => by simp at e; omega))
  rcases hpl with rfl | ⟨b, off, rfl⟩
  · obtain rfl : c = 0 := hn rfl
    have hm0 : m = [] := List.eq_nil_of_length_eq_zero (by omega)
    subst hm0
    obtain rfl : k = 0 := by simpa using hk
    refine (take_none w g hc).mono fun e w' ⟨he, hw⟩ => ?_
    subst hw
    refine ⟨none, 0, he, Bs.nil_, fun _ => rfl, Nat.le_refl _, Nat.zero_le _, ⟨none, [], 0, ?_, Bs.nil_, fun _ => rfl, Nat.le_refl _, Nat.zero_le _, hB, .inl rfl, fun m hm => by simpa using hm⟩, (Only.refl _ _).put (.inl (by simp)) _⟩
    have := hc.put 2 (.slice none 0 0)
    simpa using this
  · refine (take_some w g b off m.length c k hc hk h1 (by unfold maxLen at h2; omega)).mono fun e w' ⟨he, o, ho, hw⟩ => ?_
    subst hw
    have hl : (m.drop k).length = m.length - k := List.length_drop
    refine ⟨_, c, he, hkeep _ _ _ (hb.take k), (fun h => nomatch h), by omega, h2, ⟨some ⟨b, o, none⟩, m.drop k, c - k, ?_, ?_, (fun h => nomatch h), by omega, by omega, hB, .inr ⟨_, _, rfl⟩, fun m' hm' => by injection hm'⟩, (Only.refl _ _).put (.inl (by simp)) _⟩
    · have := hc.put 2 (.slice (some ⟨b, o, none⟩) (m.length - k) (c - k))
      rw [hl]
      simpa using this
    · rcases ho with rfl | rfl
      · exact hkeep _ _ _ (hb.drop k)
      · rw [List.drop_of_length_le (by omega)]
        exact Bs.nil_
end Go.Proofs.Ytjjfamkljcipgaa
