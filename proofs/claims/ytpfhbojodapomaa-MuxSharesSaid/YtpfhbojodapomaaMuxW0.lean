/-
  Package mux: what it is to be a Mux; valid, works, find, slices.IndexFunc, slices.Clone, Sent, Clone.
-/
import Derived.Shelf.Abstract
import Derived.Shelf.RegionOpen
import Derived.WalkKit
import Derived.Deep.QuietTactic
import Derived.BigQuiet
import Derived.BigRegion
import Derived.Test.YtpfhbojodapomaaMuxMath
import Derived.Test.YtpfhbojodapomaaRowH
import Derived.Test.YtpfhbojodapomaaIntS
import Derived.Test.YtpfhbojodapomaaHand
namespace Go.Proofs.Ytpfhbojodapomaa.Mux
open Go.RowKit Go.Shelf Go.Proofs.Ytpfhbojodapomaa.Row
abbrev I (n : Int) : Value := .int .i64 n

/-- a channel of the program's; one of api's -/
def encC (x : Ch) : List Value := [I x.id, I x.pr, I x.wt, I x.cr, I x.sn]
def encA (x : Ch) : List Value := [I x.id, I x.pr, I x.wt]
theorem encC_ok : Enc encC 5 := ⟨fun _ => rfl, fun x u hu => by simp [encC] at hu; rcases hu with rfl | rfl | rfl | rfl | rfl <;> rfl, by decide⟩
theorem encA_ok : Enc encA 3 := ⟨fun _ => rfl, fun x u hu => by simp [encA] at hu; rcases hu with rfl | rfl | rfl <;> rfl, by decide⟩
theorem is_chans : IsRows Try.prog 48 53 (.agg #[I 0, I 0, I 0, I 0, I 0]) 5 40 := IsRows.of Try.underlying48 rfl (by kernel_rfl)
theorem is_apis : IsRows Try.prog 22 42 (.agg #[I 0, I 0, I 0]) 3 24 := IsRows.of Try.underlying22 rfl (by kernel_rfl)
theorem bel_new (w : World) (o : Obj) : Below w.heap.size w (w.alloc o) := (Below.refl _ _).alloc (Nat.le_refl _) _
theorem c_at {w : World} {B : Nat} {A : Option Addr} {l : List Ch} {i : Nat} (h : Rs encC 5 w B A l) (hi : i < l.length) : ∃ b off, A = some ⟨b, off, none⟩ ∧ b < B ∧ w.cell? ⟨b, off + i * 5, none⟩ = some (I l[i].id) ∧ w.cell? ⟨b, off + i * 5 + 1, none⟩ = some (I l[i].pr) ∧
    w.cell? ⟨b, off + i * 5 + 2, none⟩ = some (I l[i].wt) ∧ w.cell? ⟨b, off + i * 5 + 3, none⟩ = some (I l[i].cr) ∧ w.cell? ⟨b, off + i * 5 + 4, none⟩ = some (I l[i].sn) := by
  obtain ⟨b, off, e, hb, hc⟩ := h.at_ hi
  exact ⟨b, off, e, hb, hc 0 _ rfl, hc 1 _ rfl, hc 2 _ rfl, hc 3 _ rfl, hc 4 _ rfl⟩
theorem a_at {w : World} {B : Nat} {A : Option Addr} {l : List Ch} {i : Nat} (h : Rs encA 3 w B A l) (hi : i < l.length) : ∃ b off, A = some ⟨b, off, none⟩ ∧ b < B ∧ w.cell? ⟨b, off + i * 3, none⟩ = some (I l[i].id) ∧ w.cell? ⟨b, off + i * 3 + 1, none⟩ = some (I l[i].pr) ∧
    w.cell? ⟨b, off + i * 3 + 2, none⟩ = some (I l[i].wt) := by
  obtain ⟨b, off, e, hb, hc⟩ := h.at_ hi
  exact ⟨b, off, e, hb, hc 0 _ rfl, hc 1 _ rfl, hc 2 _ rfl⟩

/-- block g is a Mux of New with the channels L, in block r -/
def MW (w : World) (base g : Nat) (r : Option Nat) (L : List Ch) : Prop :=
  ∃ v, Cel w g 50 #[.bool true, v] ∧ Row.Os encC 5 w base 53 v L ∧ v.ownBlock = r
section
variable {w w' : World} {base g : Nat} {r : Option Nat} {L : List Ch} {S : List Nat}
theorem MW.lt (h : MW w base g r L) : g < w.heap.size := by
  obtain ⟨v, hc, _⟩ := h
  exact hc.lt
theorem MW.row (h : MW w base g r L) : ∀ i, r = some i → base ≤ i ∧ i < w.heap.size ∧ i ≠ g := by
  obtain ⟨v, hc, ho, rfl⟩ := h
  intro i hi
  have := Row.Os.lt ho i hi
  exact ⟨this.1, this.2, fun e => Row.Os.apart ho hc (by decide) (by rw [hi, e])⟩
theorem MW.only (h : MW w base g r L) (k : Only S w w') (hg : g ∉ S) (hr : ∀ i, r = some i → i ∉ S) : MW w' base g r L := by
  obtain ⟨v, hc, ho, rfl⟩ := h
  exact ⟨v, hc.only k hg, Row.Os.only ho k hr, rfl⟩
theorem MW.below (h : MW w base g r L) (k : Below w.heap.size w w') : MW w' base g r L := h.only (Only.of_below (S := []) k) (by simp) (by simp)
theorem MW.more (h : MW w base g r L) {b' : Nat} (hb : b' ≤ base) : MW w b' g r L := by
  obtain ⟨v, hc, ho, h1⟩ := h
  exact ⟨v, hc, Row.Os.more ho hb, h1⟩
theorem MW.draws (h : MW w base g r L) (n : Nat) : MW (w.drewN n) base g r L := h
theorem MW.drew (h : MW w base g r L) : MW w.drew base g r L := h
end

/-! ### valid -/
theorem ok_no {a b c d e : Int} (h : a < 0 ∨ 7 < a ∨ b < 0 ∨ 15 < b ∨ c < 1 ∨ 100 < c) : decide (Ch.ok ⟨a, b, c, d, e⟩) = false := by
  refine decide_eq_false fun h' => ?_
  have h' : 0 ≤ a ∧ a ≤ 7 ∧ 0 ≤ b ∧ b ≤ 15 ∧ 1 ≤ c ∧ c ≤ 100 := h'
  omega
set_option maxHeartbeats 2000000 in
theorem valid_any (a b c d e : Int) (w : World) :
    Calls Try.prog 16 #[.agg #[I a, I b, I c]] w fun e' w' => e' = .returned (.bool (decide (Ch.ok ⟨a, b, c, d, e⟩))) ∧ Below w.heap.size w w' := by
  by_cases h1 : a < 0
  · rw [ok_no (by omega)]
    go_enter Try.func16, Try.ntmps16
    go_wp2
    go_ret
    exact ⟨rfl, bel_new _ _⟩
  have p1 : 0 ≤ a := by omega
  clear h1
  by_cases h2 : 7 < a
  · rw [ok_no (by omega)]
    go_enter Try.func16, Try.ntmps16
    go_wp2
    go_ret
    exact ⟨rfl, bel_new _ _⟩
  have p2 : a ≤ 7 := by omega
  clear h2
  by_cases h3 : b < 0
  · rw [ok_no (by omega)]
    go_enter Try.func16, Try.ntmps16
    go_wp2
    go_ret
    exact ⟨rfl, bel_new _ _⟩
  have p3 : 0 ≤ b := by omega
  clear h3
  by_cases h4 : 15 < b
  · rw [ok_no (by omega)]
    go_enter Try.func16, Try.ntmps16
    go_wp2
    go_ret
    exact ⟨rfl, bel_new _ _⟩
  have p4 : b ≤ 15 := by omega
  clear h4
  by_cases h5 : c < 1
  · rw [ok_no (by omega)]
    go_enter Try.func16, Try.ntmps16
    go_wp2
    go_ret
    exact ⟨rfl, bel_new _ _⟩
  have p5 : 1 ≤ c := by omega
  clear h5
  by_cases h6 : 100 < c
  · rw [ok_no (by omega)]
    have d6 : decide (c ≤ 100) = false := decide_eq_false (by omega)
    go_enter Try.func16, Try.ntmps16
    go_wp2
    go_ret
    exact ⟨rfl, bel_new _ _⟩
  have p6 : c ≤ 100 := by omega
  clear h6
  have hk : decide (Ch.ok ⟨a, b, c, d, e⟩) = true := decide_eq_true (show Ch.ok ⟨a, b, c, d, e⟩ from ⟨p1, p2, p3, p4, p5, p6⟩)
  rw [hk]
  clear hk
  go_enter Try.func16, Try.ntmps16
  go_wp2
  go_ret
  exact ⟨rfl, bel_new _ _⟩

/-! ### works -/
set_option maxHeartbeats 400000 in
theorem mOk (w : World) (base g : Nat) (r : Option Nat) (L : List Ch) (h : MW w base g r L) :
    Calls Try.prog 22 #[.pointer (some ⟨g, 0, none⟩)] w fun e w' => e = .returned (.bool true) ∧ w = w' := by
  obtain ⟨v, hc, ho, _⟩ := h
  have c0 := hc.cell 0
  simp at c0
  clear hc ho
  go_enter Try.func22, Try.ntmps22
  go_wp2
  go_ret
  exact ⟨rfl, rfl⟩
set_option maxHeartbeats 400000 in
theorem m_works_nil (w : World) : Calls Try.prog 22 #[.pointer none] w fun e w' => e = .returned (.bool false) ∧ w = w' := by
  go_enter Try.func22, Try.ntmps22
  go_wp2
  go_ret
  exact ⟨rfl, rfl⟩

/-! ### slices.IndexFunc, find -/
/-- what is asked of a predicate that may lay blocks of its own -/
def PB (g : Nat) (lb : Array Value) (p : Ch → Bool) (w : World) : Prop :=
  ∀ (W : World) (x : Ch), Below w.heap.size w W → Calls Try.prog g (#[.agg #[I x.id, I x.pr, I x.wt, I x.cr, I x.sn]] ++ lb) W fun e w' => e = .returned (.bool (p x)) ∧ Below W.heap.size W w'
set_option maxHeartbeats 1000000 in
theorem find1_any (item : Int) (B : Nat) (w : World) (hB : w.cell? ⟨B, 0, none⟩ = some (I item)) (hl : B < w.heap.size) :
    PB 29 #[.pointer (some ⟨B, 0, none⟩)] (fun x => x.id == item) w := fun W x hb => by
  have hc : W.cell? ⟨B, 0, none⟩ = some (I item) := (hb.cell (p := ⟨B, 0, none⟩) hl).trans hB
  have hBW : B < W.heap.size := Nat.lt_of_lt_of_le hl hb.size
  have hne : B ≠ W.heap.size := by omega
  obtain ⟨a, b, c, d, e⟩ := x
  show Calls Try.prog 29 #[.agg #[I a, I b, I c, I d, I e], .pointer (some ⟨B, 0, none⟩)] W _
  go_enter Try.func29, Try.ntmps29
  go_wp2
  go_ret
  exact ⟨rfl, (Below.refl _ W).alloc (Nat.le_refl _) _⟩
/-- what IndexFunc hands back -/
def Fnd (p : Ch → Bool) (l : List Ch) (r : Int) : Prop :=
  (r = -1 ∧ ∀ y ∈ l, p y = false) ∨ ∃ (A : List Ch) (x : Ch) (B : List Ch), l = A ++ x :: B ∧ r = A.length ∧ p x = true ∧ ∀ y ∈ A, p y = false
set_option maxHeartbeats 2000000 in
theorem indexFunc_any (p : Ch → Bool) (g : Nat) (lb : Array Value) (eg : ∀ args w, (callFunc g args).run Try.prog w = .ok (.enter g args) w) (l : List Ch) (w : World) (A : Option Addr) (c : Nat)
    (hr : Rs encC 5 w w.heap.size A l) (hp : PB g lb p w) (hl : l.length ≤ 1000000) :
    Calls Try.prog 28 #[.slice A l.length c, .func (.func g) #[] lb] w fun e w' => ∃ r : Int, e = .returned (I r) ∧ Hid (Fnd p l r) ∧ Below w.heap.size w w' := by
  go_enter Try.func28, Try.ntmps28
  go_wp2
  go_loopw [5, 8] (fun _ i wr => ∃ k : Nat, k ≤ l.length ∧ i = .int .i64 k ∧ Below w.heap.size w wr ∧ Hid (∀ y ∈ l.take k, p y = false)) (fun _ i _ => l.length - (intOf i).toNat)
  case atStart => exact ⟨0, Nat.zero_le _, rfl, Below.refl _ _, Lib.hid (by simp)⟩
  case round =>
    obtain ⟨k, hk, rfl, hbel, hno⟩ := hrel
    have hsz := hbel.size
    by_cases hlt : k < l.length
    · obtain ⟨b, off, rfl, hbw, hc0, hc1, hc2, hc3, hc4⟩ := c_at (hr.below hbel) hlt
      have hcall := hp wr l[k] hbel
      have hsplit : Hid (l = l.take k ++ l[k] :: l.drop (k + 1)) := Lib.hid (by rw [← List.drop_eq_getElem_cons hlt, List.take_append_drop])
      have htk : Hid (l.take (k + 1) = l.take k ++ [l[k]]) := Lib.hid (by rw [List.take_add_one, List.getElem?_eq_getElem hlt]; rfl)
      clear hr hp
      generalize l[k] = y at hc0 hc1 hc2 hc3 hc4 hcall hsplit htk
      obtain ⟨a, b', c', d', e'⟩ := y
      dsimp only at hc0 hc1 hc2 hc3 hc4 hcall
      cases hq : p ⟨a, b', c', d', e'⟩ with
      | true =>
        rw [hq] at hcall
        have HQ := Lib.hid hq
        clear hq
        go_wp2_with (go_at_fn g; refine hcall.mono ?_; rintro e w' ⟨rfl, hb'⟩)
        go_ret
        exact ⟨_, rfl, Lib.hid (.inr ⟨_, _, _, hsplit.out, by simp; omega, HQ.out, hno.out⟩), hbel.trans (hb'.mono hsz)⟩
      | false =>
        rw [hq] at hcall
        have HQ := Lib.hid hq
        clear hq
        go_wp2_with (go_at_fn g; refine hcall.mono ?_; rintro e w' ⟨rfl, hb'⟩)
        go_roundw
        case rel =>
          refine ⟨k + 1, hlt, by simp, hbel.trans (hb'.mono hsz), Lib.hid ?_⟩
          intro y hy
          rw [htk.out] at hy
          rcases List.mem_append.1 hy with hy | hy
          · exact hno.out y hy
          · rw [List.mem_singleton.1 hy]; exact HQ.out
        case measure => simp [intOf]; omega
    · obtain rfl : k = l.length := by omega
      go_wp2
      go_ret
      exact ⟨_, rfl, Lib.hid (.inl ⟨rfl, by have := hno.out; rwa [List.take_length] at this⟩), hbel⟩

set_option maxHeartbeats 1000000 in
theorem mfind_any (w : World) (g : Nat) (A : Option Addr) (c : Nat) (L : List Ch) (item : Int) (hg : g < w.heap.size) (c2 : w.cell? ⟨g, 1, none⟩ = some (.slice A L.length c)) (hr : Rs encC 5 w w.heap.size A L) (hl : L.length ≤ 1000000) :
    Calls Try.prog 17 #[.pointer (some ⟨g, 0, none⟩), I item] w fun e w' => ∃ r : Int, e = .returned (I r) ∧ Hid (Fnd (fun x => x.id == item) L r) ∧ Below w.heap.size w w' := by
  have hne : g ≠ w.heap.size := by omega
  have eg : ∀ args w, (callFunc 29 args).run Try.prog w = .ok (.enter 29 args) w := enters_of Try.func29 (by kernel_rfl) rfl
  have bx : Below w.heap.size w (w.alloc (.cells #[I item] 3)) := (Below.refl _ w).alloc (Nat.le_refl _) _
  have hcon := indexFunc_any (fun x => x.id == item) 29 #[.pointer (some ⟨w.heap.size, 0, none⟩)] eg L (w.alloc (.cells #[I item] 3)) A c ((hr.below bx).more (by simp))
    (find1_any item w.heap.size _ (by simp) (by simp)) (by omega)
  clear hr eg
  go_enter Try.func17, Try.ntmps17
  go_wp2_with fail
  refine hcon.mono ?_
  rintro e w' ⟨q, rfl, hf, hb'⟩
  go_wp2_with fail
  go_ret
  exact ⟨q, rfl, hf, bx.trans (hb'.mono (by simp))⟩

/-! ### Sent -/
theorem Fnd.snt {L : List Ch} {i r : Int} (h : Fnd (fun x => x.id == i) L r) (g : Good L) : (r = -1 ∧ snt L i = 0) ∨ ∃ k : Nat, r = k ∧ ∃ hk : k < L.length, L[k].id = i ∧ snt L i = L[k].sn := by
  rcases h with ⟨rfl, h⟩ | ⟨A, x, B, rfl, rfl, h, _⟩
  · refine .inl ⟨rfl, snt_no fun k => ?_⟩
    obtain ⟨y, hy, e⟩ := List.mem_map.1 k
    have := h y hy
    simp [e] at this
  · have e : x.id = i := by simpa using h
    refine .inr ⟨A.length, rfl, by simp, ?_⟩
    have e2 : (A ++ x :: B)[A.length]'(by simp) = x := by simp
    rw [e2]
    exact ⟨e, by rw [← e]; exact snt_of g (by simp)⟩
set_option maxHeartbeats 1000000 in
theorem msent_any (w : World) (base g : Nat) (r : Option Nat) (L : List Ch) (i : Int) (h : MW w base g r L) (hg : Good L) :
    Calls Try.prog 11 #[.pointer (some ⟨g, 0, none⟩), I i] w fun e w' => e = .returned (I (snt L i)) ∧ Below w.heap.size w w' := by
  have hw := mOk w base g r L h
  have hlen := hg.len
  obtain ⟨V, hV⟩ : ∃ V, V = snt L i := ⟨_, rfl⟩
  rw [← hV]
  obtain ⟨v, hc, ho, _⟩ := h
  obtain ⟨A, c, rfl, hr, _, _, _⟩ := ho.reads encC_ok
  have c2 : w.cell? ⟨g, 1, none⟩ = some (.slice A L.length c) := hc.cell 1
  have hglt := hc.lt
  have hcon := mfind_any w g A c L i hc.lt c2 hr (by omega)
  clear ho hc
  go_enter Try.func11, Try.ntmps11
  go_wp2_with fail
  refine hw.mono ?_
  rintro e w1 ⟨rfl, rfl⟩
  go_wp2_with fail
  refine hcon.mono ?_
  rintro e w1 ⟨q, rfl, hf, hb⟩
  have c3 : w1.cell? ⟨g, 1, none⟩ = some (.slice A L.length c) := (hb.cell (p := ⟨g, 1, none⟩) hglt).trans c2
  have hr1 := hr.below hb
  clear hr c2 hcon hw
  rcases hf.out.snt hg with ⟨rfl, e0⟩ | ⟨k, rfl, hk, _, e0⟩
  · rw [← hV] at e0
    subst e0
    clear hV hf
    go_wp2_with fail
    go_ret
    exact ⟨rfl, hb⟩
  · obtain ⟨b, off, rfl, hbb, _, _, _, _, d4⟩ := c_at hr1 hk
    rw [← e0, ← hV] at d4
    clear hV hf e0 hr1
    go_wp2_with fail
    go_ret
    exact ⟨rfl, hb⟩
set_option maxHeartbeats 400000 in
theorem msent_nil (w : World) (i : Int) : Calls Try.prog 11 #[.pointer none, I i] w fun e w' => e = .returned (I 0) ∧ w = w' := by
  have hw := m_works_nil w
  go_enter Try.func11, Try.ntmps11
  go_wp2_with (go_at_call 22; refine hw.mono ?_; rintro e w1 ⟨rfl, rfl⟩)
  go_ret
  exact ⟨rfl, rfl⟩

/-! ### Clone -/
set_option maxHeartbeats 1000000 in
theorem sclone_any (L : List Ch) (w : World) (A : Option Addr) (c : Nat) (hr : Rs encC 5 w w.heap.size A L) (hn : A = none → c = 0) (hl : L.length ≤ 1000000) :
    Calls Try.prog 26 #[.slice A L.length c] w fun e w' => ∃ v, e = .returned v ∧ Row.Os encC 5 w' w.heap.size 53 v L ∧ Below w.heap.size w w' := by
  have q := fun (w : World) (a : Option Addr) (n c n' c' : Nat) => Lib.run_eql_slice_nil w 48 53 a n c n' c' Try.underlying48
  cases A with
  | none =>
    have hL : L = [] := by
      rcases Nat.eq_zero_or_pos L.length with h0 | h0
      · exact List.eq_nil_of_length_eq_zero h0
      · obtain ⟨b, off, h, _⟩ := hr h0; cases h
    subst hL
    clear hr
    go_enter Try.func26, Try.ntmps26
    go_wp2
    go_ret
    exact ⟨_, rfl, Row.Os.nil_ _ _ _, Below.refl _ _⟩
  | some a =>
    obtain ⟨ab, ao, asp⟩ := a
    have b1 : Below w.heap.size w (w.alloc (.cells #[] 53)) := (Below.refl _ w).alloc (Nat.le_refl _) _
    have hr1 := (hr.below b1)
    have ho1 : Row.Os encC 5 (w.alloc (.cells #[] 53)) w.heap.size 53 (.slice (some ⟨w.heap.size, 0, none⟩) 0 0) [] := Row.Os.empty _ _ _ (Nat.le_refl _)
    clear hr
    go_enter Try.func26, Try.ntmps26
    go_wp2_with (at_builtin; refine wpList_row _ encC_ok is_chans (by decide) rfl (.tmp 5) (.tmp 6) rfl rfl ho1 (l := L) rfl rfl hr1 hn (by simp; omega) (by simp) ?_; intro v2 w2 hown2 hg2 hv2)
    go_ret
    exact ⟨_, rfl, by simpa using hown2, b1.grown hg2 (by simp) (fun i hi => by have := ho1.base_le i hi; omega)⟩
set_option maxHeartbeats 1000000 in
theorem mclone_any (w : World) (base g : Nat) (r : Option Nat) (L : List Ch) (h : MW w base g r L) (hl : L.length ≤ 1000) :
    Calls Try.prog 12 #[.pointer (some ⟨g, 0, none⟩)] w fun e w' => ∃ g' r', e = .returned (.pointer (some ⟨g', 0, none⟩)) ∧ w.heap.size ≤ g' ∧ MW w' w.heap.size g' r' L ∧ Below w.heap.size w w' := by
  have hw := mOk w base g r L h
  obtain ⟨v, hc, ho, hvr⟩ := h
  obtain ⟨A, c, rfl, hr, hn, _, _⟩ := ho.reads encC_ok
  have hcon := sclone_any L w A c hr hn (by omega)
  have c1 : w.cell? ⟨g, 1, none⟩ = some (.slice A L.length c) := hc.cell 1
  have hg := hc.lt
  clear hc ho hr
  go_enter Try.func12, Try.ntmps12
  go_wp2_with fail
  refine hw.mono ?_
  rintro e w1 ⟨rfl, rfl⟩
  go_wp2_with fail
  refine hcon.mono ?_
  rintro e w1 ⟨v, rfl, ho, hb⟩
  obtain ⟨A2, c2, rfl, _, _, _, _⟩ := ho.reads encC_ok
  have hs := hb.size
  have hfin : MW (w1.alloc (.cells #[.bool true, .slice A2 L.length c2] 50)) w.heap.size w1.heap.size (Value.ownBlock (.slice A2 L.length c2)) L := ⟨_, Cel.new _ _ _, Row.Os.alloc ho _, rfl⟩
  have hb2 := hb.alloc hs (.cells #[.bool true, .slice A2 L.length c2] 50)
  clear ho
  go_wp2_with fail
  go_ret
  exact ⟨_, _, rfl, hs, hfin, hb2⟩
set_option maxHeartbeats 400000 in
theorem mclone_nil (w : World) : Calls Try.prog 12 #[.pointer none] w fun e w' => e = .returned (.pointer none) ∧ w = w' := by
  have hw := m_works_nil w
  go_enter Try.func12, Try.ntmps12
  go_wp2_with (go_at_call 22; refine hw.mono ?_; rintro e w1 ⟨rfl, rfl⟩)
  go_ret
  exact ⟨rfl, rfl⟩
set_option maxHeartbeats 400000 in
theorem mnext_nil (w : World) (a : Option Addr) (n c : Nat) : Calls Try.prog 10 #[.pointer none, .slice a n c] w fun e w' => e = .returned (.tuple #[I 0, .bool false]) ∧ w = w' := by
  have hw := m_works_nil w
  go_enter Try.func10, Try.ntmps10
  go_wp2_with (go_at_call 22; refine hw.mono ?_; rintro e w1 ⟨rfl, rfl⟩)
  go_ret2
  exact ⟨rfl, rfl⟩
end Go.Proofs.Ytpfhbojodapomaa.Mux
