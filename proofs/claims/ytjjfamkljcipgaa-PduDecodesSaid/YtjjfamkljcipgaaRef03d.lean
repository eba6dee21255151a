/-
  The walks of the reference of layer 3: the four methods of its Reader.
-/
import Derived.Test.YtjjfamkljcipgaaRef03c
namespace Go.Proofs.Ytjjfamkljcipgaa
open Go.RowKit

theorem nxt_rd {α : Type} {d : α} {tk : List Byte → Option (α × Nat)} (h0 : tk [] = none) (hk : ∀ l v k, tk l = some (v, k) → 1 ≤ k ∧ k ≤ l.length) (st : Option (List Byte)) :
    ((tk (st.getD [])).getD (d, 0)).1 = (rd d tk st).1 ∧ nxt st ((tk (st.getD [])).getD (d, 0)).2 = (rd d tk st).2 ∧ ((tk (st.getD [])).getD (d, 0)).2 ≤ lftO st := by
  cases st with
  | none => simp [h0, rd, nxt, lftO]
  | some l =>
    cases ht : tk l with
    | none => simp [ht, rd, nxt, lftO]
    | some p =>
      obtain ⟨v, k⟩ := p
      obtain ⟨h1, h2⟩ := hk l v k ht
      have h3 : k ≠ 0 := by omega
      simp [ht, rd, nxt, lftO, h2, h3]

theorem tkU_len (size : Int) : ∀ (l : List Byte) (v k : Nat), tkU l size = some (v, k) → 1 ≤ k ∧ k ≤ l.length := by
  intro l v k h
  unfold tkU at h
  split at h
  · injection h with h
    have := congrArg Prod.snd h
    simp only at this
    omega
  · cases h
theorem tkI_len : ∀ (l : List Byte) (v : Int) (k : Nat), tkI l = some (v, k) → 1 ≤ k ∧ k ≤ l.length := fun l v k h => by
  have := tkI_some h
  omega
theorem tkC_len (most : Int) : ∀ (l : List Byte) (v : Int) (k : Nat), tkC l most = some (v, k) → 1 ≤ k ∧ k ≤ l.length := fun l v k h => tkI_len l v k (tkC_some h).1
theorem tkB_len (most : Int) : ∀ (l m : List Byte) (k : Nat), tkB l most = some (m, k) → 1 ≤ k ∧ k ≤ l.length := fun l m k h => by
  obtain ⟨n, j, hc, hj, _, rfl⟩ := tkB_some h
  have := tkC_len most _ _ _ hc
  omega
theorem tkU_nil (size : Int) : tkU [] size = none := by unfold tkU; rw [if_neg (by simp; omega)]
theorem tkI_nil : tkI [] = none := rfl
theorem tkC_nil (most : Int) : tkC [] most = none := rfl
theorem tkB_nil (most : Int) : tkB [] most = none := rfl

set_option maxHeartbeats 1000000 in
theorem yuint_any (w : World) (B g : Nat) (st : Option (List Byte)) (size : Int) (h : YR w B g st) (hL : lftO st < 1000000) :
    Calls Try.prog 41 #[.pointer (some ⟨g, 0, none⟩), .int .i64 size] w fun e w' => e = .returned (.int .u64 ((rd 0 (fun l => tkU l size) st).1 : Int)) ∧ YR w' B g (rd 0 (fun l => tkU l size) st).2 ∧ Only [g] w w' := by
  obtain ⟨q1, q2, q3⟩ := nxt_rd (d := 0) (tkU_nil size) (tkU_len size) st
  have hh := h
  obtain ⟨A, n, c, hc, hn, hb, hna, hnc, hcm, hB⟩ := hh
  have hx := xtku_any A (st.getD []) n c B size w (Lib.hid hn.symm) hb (by omega)
  have c0 := hc.cell 0
  simp at c0
  have hnx := ynext_any w B g st ((tkU (st.getD []) size).getD (0, 0)).2 _ rfl h q3
  rw [q2] at hnx
  unfold okU at hx
  rw [q1] at hx
  obtain ⟨V, hV⟩ : ∃ V, V = (rd 0 (fun l => tkU l size) st).1 := ⟨_, rfl⟩
  obtain ⟨st', hst⟩ : ∃ st', st' = (rd 0 (fun l => tkU l size) st).2 := ⟨_, rfl⟩
  rw [← hV] at hx ⊢
  rw [← hst] at hnx ⊢
  obtain ⟨k, hk⟩ : ∃ k, k = ((tkU (st.getD []) size).getD (0, 0)).2 := ⟨_, rfl⟩
  rw [← hk] at hx hnx
  clear q1 q2 q3 hV hst hk hc hb hn
  go_enter Try.func41, Try.ntmps41
  go_wp2_with (first
    | (go_at_call 61; refine hx.mono ?_; rintro e w1 ⟨rfl, rfl⟩)
    | (go_at_call 62; refine hnx.mono ?_; rintro e w1 ⟨rfl, hR, hO⟩))
  go_ret
  exact ⟨rfl, hR, hO⟩

set_option maxHeartbeats 1000000 in
theorem yint_any (w : World) (B g : Nat) (st : Option (List Byte)) (h : YR w B g st) (hL : lftO st < 1000000) :
    Calls Try.prog 42 #[.pointer (some ⟨g, 0, none⟩)] w fun e w' => e = .returned (.int .i64 (rd 0 tkI st).1) ∧ YR w' B g (rd 0 tkI st).2 ∧ Only [g] w w' := by
  obtain ⟨q1, q2, q3⟩ := nxt_rd (d := 0) tkI_nil tkI_len st
  have hh := h
  obtain ⟨A, n, c, hc, hn, hb, hna, hnc, hcm, hB⟩ := hh
  have hx := xtki_any A (st.getD []) n c w (Lib.hid hn.symm) (hb.more (by have := hc.lt; omega)) hna hnc (by unfold maxLen at hcm; exact hcm) (by omega)
  have c0 := hc.cell 0
  simp at c0
  have hnx := fun W (hW : Below w.heap.size w W) => ynext_any W B g st ((tkI (st.getD [])).getD (0, 0)).2 _ rfl (h.below hW) q3
  simp only [q2] at hnx
  unfold okI at hx
  rw [q1] at hx
  obtain ⟨V, hV⟩ : ∃ V, V = (rd 0 tkI st).1 := ⟨_, rfl⟩
  obtain ⟨st', hst⟩ : ∃ st', st' = (rd 0 tkI st).2 := ⟨_, rfl⟩
  rw [← hV] at hx ⊢
  simp only [← hst] at hnx
  rw [← hst]
  obtain ⟨k, hk⟩ : ∃ k, k = ((tkI (st.getD [])).getD (0, 0)).2 := ⟨_, rfl⟩
  rw [← hk] at hx
  simp only [← hk] at hnx
  clear q1 q2 q3 hV hst hk hc hb hn
  go_enter Try.func42, Try.ntmps42
  go_wp2_with (first
    | (go_at_call 63; refine hx.mono ?_; rintro e w1 ⟨rfl, hbel⟩)
    | (go_at_call 62; refine (hnx w1 hbel).mono ?_; rintro e w2 ⟨rfl, hR, hO⟩))
  go_ret
  exact ⟨rfl, hR, (Only.of_below (S := [g]) hbel).trans hO (by simp)⟩

set_option maxHeartbeats 1000000 in
theorem ycount_any (w : World) (B g : Nat) (st : Option (List Byte)) (most : Int) (h : YR w B g st) (hL : lftO st < 1000000) :
    Calls Try.prog 44 #[.pointer (some ⟨g, 0, none⟩), .int .i64 most] w fun e w' => e = .returned (.int .i64 (rd 0 (fun l => tkC l most) st).1) ∧ YR w' B g (rd 0 (fun l => tkC l most) st).2 ∧ Only [g] w w' := by
  obtain ⟨q1, q2, q3⟩ := nxt_rd (d := 0) (tk := fun l => tkC l most) (tkC_nil most) (tkC_len most) st
  have hh := h
  obtain ⟨A, n, c, hc, hn, hb, hna, hnc, hcm, hB⟩ := hh
  have hx := xtkc_any A (st.getD []) n c most w (Lib.hid hn.symm) (hb.more (by have := hc.lt; omega)) hna hnc (by unfold maxLen at hcm; exact hcm) (by omega)
  have c0 := hc.cell 0
  simp at c0
  have hnx := fun W (hW : Below w.heap.size w W) => ynext_any W B g st ((tkC (st.getD []) most).getD (0, 0)).2 _ rfl (h.below hW) q3
  simp only [q2] at hnx
  unfold okI at hx
  rw [q1] at hx
  obtain ⟨V, hV⟩ : ∃ V, V = (rd 0 (fun l => tkC l most) st).1 := ⟨_, rfl⟩
  obtain ⟨st', hst⟩ : ∃ st', st' = (rd 0 (fun l => tkC l most) st).2 := ⟨_, rfl⟩
  rw [← hV] at hx ⊢
  simp only [← hst] at hnx
  rw [← hst]
  obtain ⟨k, hk⟩ : ∃ k, k = ((tkC (st.getD []) most).getD (0, 0)).2 := ⟨_, rfl⟩
  rw [← hk] at hx
  simp only [← hk] at hnx
  clear q1 q2 q3 hV hst hk hc hb hn
  go_enter Try.func44, Try.ntmps44
  go_wp2_with (first
    | (go_at_call 65; refine hx.mono ?_; rintro e w1 ⟨rfl, hbel⟩)
    | (go_at_call 62; refine (hnx w1 hbel).mono ?_; rintro e w2 ⟨rfl, hR, hO⟩))
  go_ret
  exact ⟨rfl, hR, (Only.of_below (S := [g]) hbel).trans hO (by simp)⟩

set_option maxHeartbeats 1000000 in
theorem yblob_any (w : World) (B g : Nat) (st : Option (List Byte)) (most : Int) (h : YR w B g st) (hL : lftO st < 1000000) :
    Calls Try.prog 43 #[.pointer (some ⟨g, 0, none⟩), .int .i64 most] w fun e w' => (∃ A m c, e = .returned (.slice A m c) ∧ m = (rd [] (fun l => tkB l most) st).1.length ∧ Bs w' B A (rd [] (fun l => tkB l most) st).1 ∧ (A = none → c = 0)) ∧ YR w' B g (rd [] (fun l => tkB l most) st).2 ∧ Only [g] w w' := by
  obtain ⟨q1, q2, q3⟩ := nxt_rd (d := []) (tk := fun l => tkB l most) (tkB_nil most) (tkB_len most) st
  have hh := h
  obtain ⟨A, n, c, hc, hn, hb, hna, hnc, hcm, hB⟩ := hh
  have hgl := hc.lt
  have hx := xtkb_any A (st.getD []) n c B most w (Lib.hid hn.symm) hb (by omega) hna hnc (by unfold maxLen at hcm; exact hcm) (by omega)
  have c0 := hc.cell 0
  simp at c0
  have hnx := fun W (hW : Below w.heap.size w W) => ynext_any W B g st ((tkB (st.getD []) most).getD ([], 0)).2 _ rfl (h.below hW) q3
  simp only [q2] at hnx
  unfold okB at hx
  rw [q1] at hx
  obtain ⟨V, hV⟩ : ∃ V, V = (rd [] (fun l => tkB l most) st).1 := ⟨_, rfl⟩
  obtain ⟨st', hst⟩ : ∃ st', st' = (rd [] (fun l => tkB l most) st).2 := ⟨_, rfl⟩
  rw [← hV] at hx ⊢
  simp only [← hst] at hnx
  rw [← hst]
  obtain ⟨k, hk⟩ : ∃ k, k = ((tkB (st.getD []) most).getD ([], 0)).2 := ⟨_, rfl⟩
  rw [← hk] at hx
  simp only [← hk] at hnx
  clear q1 q2 q3 hV hst hk hc hb hn
  go_enter Try.func43, Try.ntmps43
  go_wp2_with (first
    | (go_at_call 64; refine hx.mono ?_; rintro e w1 ⟨A1, m1, c1, rfl, hm1, hb1, hn1, hbel⟩; have Hm := Lib.hid hm1; clear hm1)
    | (go_at_call 62; refine (hnx w1 hbel).mono ?_; rintro e w2 ⟨rfl, hR, hO⟩))
  go_ret
  exact ⟨⟨A1, m1, c1, rfl, Hm.out, (hb1.below (hbel.mono (by omega))).only hO (by have := hbel.size; omega) (by simpa using hB), hn1⟩, hR, (Only.of_below (S := [g]) hbel).trans hO (by simp)⟩
end Go.Proofs.Ytjjfamkljcipgaa
