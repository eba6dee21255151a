/-
  The reference of layer 9: New, Copy, Same, Has.
-/
import Derived.Deep.QuietTactic
import Derived.BigQuiet
import Derived.BigRegion
import Derived.Test.YtnkbilbaljdfgaaHisW0
namespace Go.Proofs.Ytnkbilbaljdfgaa.His
open Go.RowKit Go.Shelf Ints

theorem bel_draws {B : Nat} {w w1 : World} (h : Below B w w1) (n : Nat) : Below B w (w1.drewN n) := h.trans (drewN_below w1 n)
theorem bel_drew {B : Nat} {w w1 : World} (h : Below B w w1) : Below B w w1.drew := h.trans ⟨rfl, rfl, rfl, Nat.le_refl _, fun _ _ => rfl⟩

theorem rnew_results {tmps : Array Value} {W : World} {g : Nat} {x y z : Value} (h2 : tmps.getD 2 undef = .pointer (some ⟨g, 0, none⟩)) (c0 : W.cell? ⟨g, 0, none⟩ = some x) (c1 : W.cell? ⟨g, 1, none⟩ = some y) (c2 : W.cell? ⟨g, 2, none⟩ = some z) :
    (results Try.f8 tmps).run Try.prog W = .ok (.agg #[x, y, z]) W := by
  simp only [Array.getD_eq_getD_getElem?] at h2
  simp [results, Try.results8, go_sem, h2, c0, c1, c2]

set_option maxHeartbeats 1000000 in
theorem rnew_any (n : Int) (w : World) :
    Calls Try.prog 8 #[I n] w fun e w' => e = .returned (.agg #[I (hcap n), I 0, .slice none 0 0]) ∧ Below w.heap.size w w' := by
  obtain ⟨C, hC⟩ : ∃ C, C = hcap n := ⟨_, rfl⟩
  rw [← hC]
  have b1 := fun o => (Below.refl w.heap.size w).alloc (Nat.le_refl _) o
  have hfin : ∀ (a : Array Value) (z : Value) (_ : z = I C), a.getD 2 undef = .pointer (some ⟨w.heap.size, 0, none⟩) →
      bodyPost Try.prog Try.f8 (fun e w' => e = Ending.returned (.agg #[I C, I 0, .slice none 0 0]) ∧ Below w.heap.size w w') Exit.ret { tmps := a, defers := [] } (w.alloc (.cells #[z, I 0, .slice none 0 0] 27)) := by
    rintro a z rfl ha
    exact bodyPost_ret (rnew_results (g := w.heap.size) (x := I C) (y := I 0) (z := .slice none 0 0) ha (by simp) (by simp) (by simp)) rfl ⟨rfl, b1 _⟩
  have HF := Lib.hid hfin
  have c0 : Hid (n < 0 → C = 0) := Lib.hid fun h => by rw [hC]; unfold hcap; omega
  have c1 : Hid (256 < n → C = 256) := Lib.hid fun h => by rw [hC]; unfold hcap; omega
  have c2 : Hid (0 ≤ n → n ≤ 256 → n = C) := Lib.hid fun h h' => by rw [hC]; unfold hcap; omega
  clear hC hfin b1
  go_enter Try.func8, Try.ntmps8
  go_wp2
  · exact HF.out _ _ (by rw [c0.out (by omega)]; rfl) rfl
  · exact HF.out _ _ (by rw [c1.out (by omega)]; rfl) rfl
  · exact HF.out _ _ (by rw [← c2.out (by omega) (by omega)]) rfl

set_option maxHeartbeats 1000000 in
theorem rcopy_any (L : List Int) (w : World) (A : Option Addr) (c : Nat) (hr : Ns w w.heap.size A L) (hl : L.length ≤ 1000000) :
    Calls Try.prog 23 #[.slice A L.length c] w fun e w' => ∃ v, e = .returned v ∧ On w' w.heap.size 3 v L ∧ Below w.heap.size w w' := by
  go_enter Try.func23, Try.ntmps23
  go_wp2
  go_loopw [3, 4] (fun o i wr => ∃ k : Nat, k ≤ L.length ∧ i = .int .i64 k ∧ Below w.heap.size w wr ∧ On wr w.heap.size 3 o (L.take k)) (fun _ i _ => L.length - (intOf i).toNat)
  case atStart => exact ⟨0, Nat.zero_le _, rfl, Below.refl _ _, On.nil_ _ _ _⟩
  case round =>
    obtain ⟨k, hk, rfl, hbel, ho⟩ := hrel
    have hsz := hbel.size
    by_cases hlt : k < L.length
    · obtain ⟨b, off, rfl, hbw, hc1⟩ := (hr.below hbel).at_ hlt
      have htk : Hid (L.take (k + 1) = L.take k ++ [L[k]]) := Lib.hid (by rw [List.take_add_one, List.getElem?_eq_getElem hlt]; rfl)
      have hkl : (L.take k).length = k := by simp; omega
      clear hr
      generalize L[k] = y at hc1 htk
      generalize L.take k = Lk at ho htk hkl
      go_wp2_with (at_builtin; refine wpList_iapp _ is_ints rfl (.tmp 11) (.tmp 16) rfl rfl (ho.alloc _) (l := [y]) (n := 1) rfl rfl (Ns_new1 _ _ y) (by simp) (by simp; omega) (by simp; omega) ?_; intro v2 w2 hown2 hg2 hv2; have hb2 : Below w.heap.size w w2 := (hbel.alloc hsz _).grown hg2 (by simp; omega) (fun i hi => by have := ho.base_le i hi; omega); obtain ⟨A2, c2, rfl, _, _, _, _⟩ := hown2.reads_len (n := k + 1) (by simp [hkl]))
      go_roundw
      case rel => exact ⟨k + 1, hlt, by simp, hb2, by rw [htk.out]; exact hown2⟩
      case measure => simp [intOf]; omega
    · obtain rfl : k = L.length := by omega
      go_wp2
      rw [List.take_length] at ho
      obtain ⟨A2, c2, rfl, _, _, _, _⟩ := ho.reads
      go_ret
      exact ⟨_, rfl, ho, hbel⟩

set_option maxHeartbeats 2000000 in
theorem rsame_any (a b : List Int) (w : World) (A B : Option Addr) (c d : Nat) (ha : Ns w w.heap.size A a) (hb : Ns w w.heap.size B b) (hla : a.length ≤ 1000000) :
    Calls Try.prog 15 #[.slice A a.length c, .slice B b.length d] w fun e w' => e = .returned (.bool (decide (a = b))) ∧ Below w.heap.size w w' := by
  obtain ⟨E, hE⟩ : ∃ E, E = decide (a = b) := ⟨_, rfl⟩
  rw [← hE]
  by_cases hlen : a.length = b.length
  · obtain ⟨n, hn⟩ : ∃ n, n = a.length := ⟨_, rfl⟩
    have hm : b.length = n := by omega
    rw [hm, ← hn]
    have HN := Lib.hid hn
    have HM := Lib.hid hm
    have HE := Lib.hid hE
    have hn1 : n ≤ 1000000 := by omega
    have hz : ((n : Int) != (n : Int)) = false := by simp
    clear hn hm hE hlen hla
    go_enter Try.func15, Try.ntmps15
    go_wp2
    go_loopw [5] (fun i wr => ∃ k : Nat, k ≤ n ∧ i = .int .i64 k ∧ Below w.heap.size w wr ∧ Hid (a.take k = b.take k)) (fun i _ => n - (intOf i).toNat)
    case atStart => exact ⟨0, Nat.zero_le _, rfl, Below.refl _ _, Lib.hid (by simp)⟩
    case round =>
      obtain ⟨k, hk, rfl, hbel, heq⟩ := hrel
      by_cases hlt : k < n
      · have hka : k < a.length := by have := HN.out; omega
        have hkb : k < b.length := by have := HM.out; omega
        obtain ⟨b1, o1, rfl, hb1, hc1⟩ := (ha.below hbel).at_ hka
        obtain ⟨b2, o2, rfl, hb2, hc2⟩ := (hb.below hbel).at_ hkb
        have hta : Hid (a.take (k + 1) = a.take k ++ [a[k]]) := Lib.hid (by rw [List.take_add_one, List.getElem?_eq_getElem hka]; rfl)
        have htb : Hid (b.take (k + 1) = b.take k ++ [b[k]]) := Lib.hid (by rw [List.take_add_one, List.getElem?_eq_getElem hkb]; rfl)
        have hla : Hid (a[k]? = some a[k]) := Lib.hid (List.getElem?_eq_getElem hka)
        have hlb : Hid (b[k]? = some b[k]) := Lib.hid (List.getElem?_eq_getElem hkb)
        generalize a[k] = p at hc1 hta hla
        generalize b[k] = q at hc2 htb hlb
        clear hka hkb ha hb
        by_cases hpq : p = q
        · subst hpq
          have hz2 : (p != p) = false := by simp
          go_wp2_with fail
          go_quiet (fail)
          go_wp2_with fail
          go_roundw
          case rel => exact ⟨k + 1, hlt, by simp, bel_draws hbel _, Lib.hid (by rw [hta.out, htb.out, heq.out])⟩
          case measure => simp [intOf]; omega
        · have hz2 : (p != q) = true := by simpa using hpq
          have HP := Lib.hid hpq
          clear hpq
          go_wp2_with fail
          go_quiet (fail)
          go_wp2_with fail
          go_ret
          refine ⟨?_, bel_draws hbel _⟩
          have : a ≠ b := fun e => by
            have h1 := hla.out
            rw [e, hlb.out] at h1
            injection h1 with h1
            exact HP.out h1.symm
          rw [HE.out, decide_eq_false this]; rfl
      · obtain rfl : k = n := by omega
        go_wp2
        go_ret
        refine ⟨?_, hbel⟩
        have h1 := heq.out
        rw [List.take_of_length_le (by have := HN.out; omega), List.take_of_length_le (by have := HM.out; omega)] at h1
        rw [HE.out, decide_eq_true h1]; rfl
  · have hf : E = false := by rw [hE]; exact decide_eq_false fun e => hlen (by rw [e])
    subst hf
    have hz : ((a.length : Int) != (b.length : Int)) = true := by simp; omega
    clear ha hb hE hlen
    go_enter Try.func15, Try.ntmps15
    go_wp2
    go_ret
    exact ⟨rfl, Below.refl _ _⟩

/-! ### the reference's History -/
/-- block g is the reference's History with capacity cap that keeps the ints L, in block r; D were dropped -/
def XW (w : World) (base g : Nat) (r : Option Nat) (cap : Nat) (L : List Int) (D : Int) : Prop :=
  ∃ v, Cel w g 27 #[I cap, I D, v] ∧ On w base 3 v L ∧ v.ownBlock = r

section
variable {w w' : World} {base g cap : Nat} {D : Int} {r : Option Nat} {L : List Int} {S : List Nat}
theorem XW.lt (h : XW w base g r cap L D) : g < w.heap.size := by
  obtain ⟨v, hc, _⟩ := h
  exact hc.lt
theorem XW.row (h : XW w base g r cap L D) : ∀ i, r = some i → base ≤ i ∧ i < w.heap.size ∧ i ≠ g := by
  obtain ⟨v, hc, ho, rfl⟩ := h
  intro i hi
  have := ho.lt i hi
  exact ⟨this.1, this.2, fun e => own_apart ho hc (by decide) (by rw [hi, e])⟩
theorem XW.only (h : XW w base g r cap L D) (k : Only S w w') (hg : g ∉ S) (hr : ∀ i, r = some i → i ∉ S) : XW w' base g r cap L D := by
  obtain ⟨v, hc, ho, rfl⟩ := h
  exact ⟨v, hc.only k hg, ho.only k hr, rfl⟩
theorem XW.below (h : XW w base g r cap L D) (k : Below w.heap.size w w') : XW w' base g r cap L D := h.only (Only.of_below (S := []) k) (by simp) (by simp)
theorem XW.more (h : XW w base g r cap L D) {b' : Nat} (hb : b' ≤ base) : XW w b' g r cap L D := by
  obtain ⟨v, hc, ho, h1⟩ := h
  exact ⟨v, hc, ho.more hb, h1⟩
theorem XW.draws (h : XW w base g r cap L D) (n : Nat) : XW (w.drewN n) base g r cap L D := h
theorem XW.drew (h : XW w base g r cap L D) : XW w.drew base g r cap L D := h
end

set_option maxHeartbeats 1000000 in
theorem rhas_any (x : Int) (w : World) (base g cap : Nat) (D : Int) (r : Option Nat) (L : List Int) (h : XW w base g r cap L D) (hl : L.length ≤ 1000000) :
    Calls Try.prog 11 #[.pointer (some ⟨g, 0, none⟩), I x] w fun e w' => e = .returned (.bool (decide (x ∈ L))) ∧ w = w' := by
  obtain ⟨v, hc, ho, _⟩ := h
  obtain ⟨A, c, rfl, hr, _, _, _⟩ := ho.reads
  have c2 : w.cell? ⟨g, 2, none⟩ = some (.slice A L.length c) := hc.cell 2
  obtain ⟨E, hE⟩ : ∃ E, E = decide (x ∈ L) := ⟨_, rfl⟩
  rw [← hE]
  have HE := Lib.hid hE
  clear hE ho hc
  go_enter Try.func11, Try.ntmps11
  go_wp2
  go_loopw [5] (fun i wr => ∃ k : Nat, k ≤ L.length ∧ i = .int .i64 k ∧ wr = w ∧ Hid (x ∉ L.take k)) (fun i _ => L.length - (intOf i).toNat)
  case atStart => exact ⟨0, Nat.zero_le _, rfl, rfl, Lib.hid (by simp)⟩
  case round =>
    obtain ⟨k, hk, rfl, rfl, hno⟩ := hrel
    by_cases hlt : k < L.length
    · obtain ⟨b, off, rfl, hbw, hc1⟩ := hr.at_ hlt
      have htk : Hid (L.take (k + 1) = L.take k ++ [L[k]]) := Lib.hid (by rw [List.take_add_one, List.getElem?_eq_getElem hlt]; rfl)
      have hmem : Hid (L[k] ∈ L) := Lib.hid (List.getElem_mem hlt)
      clear hr
      generalize L[k] = y at hc1 htk hmem
      by_cases hq : y = x
      · subst hq
        have hT : E = true := by rw [HE.out]; simpa using hmem.out
        subst hT
        go_wp2
        go_ret
        exact ⟨rfl, rfl⟩
      · have hqd : (y == x) = false := by simpa using hq
        have HQ := Lib.hid hq
        clear hq
        go_wp2
        go_roundw
        case rel =>
          refine ⟨k + 1, hlt, by simp, trivial, Lib.hid ?_⟩
          rw [htk.out]
          simp only [List.mem_append, List.mem_singleton, not_or]
          exact ⟨hno.out, fun e => HQ.out e.symm⟩
        case measure => simp [intOf]; omega
    · obtain rfl : k = L.length := by omega
      have hF : E = false := by
        rw [HE.out]
        have := hno.out
        rw [List.take_length] at this
        simpa using this
      subst hF
      go_wp2
      go_ret
      exact ⟨rfl, rfl⟩
end Go.Proofs.Ytnkbilbaljdfgaa.His
