/-
  Package files: Name and the reference's Name; New; works; slices.Clone of bytes.
-/
import Derived.Test.YtbeekfbcflmemaaFilH
import Derived.Deep.QuietTactic
import Derived.BigQuiet
import Derived.BigRegion
import Derived.Lib.Walk
namespace Go.Proofs.Ytbeekfbcflmemaa.Fil
open Go.RowKit Go.Proofs.Ytbeekfbcflmemaa.Row
open Lst (Qb Dt)

theorem idx_nm {l : Nm} {k : Nat} {x : UInt8} (h : l[k]? = some x) (W : World) : (Instr.index 9 (.string (nm l)) (.int .i64 (k : Int))).run Try.prog W = .ok (.int .u8 (x.toNat : Int)) W := by
  obtain ⟨hk, hx⟩ := List.getElem?_eq_some_iff.1 h
  rw [run_index_string W 9 (nm l) .i64 (k : Int) Try.underlying9, dif_pos ⟨by omega, by rw [nm_size]; omega⟩]
  have e : (nm l)[((k : Nat) : Int).toNat]'(by rw [nm_size]; simpa using hk) = x := by
    show (nm l).data[((k : Nat) : Int).toNat]'_ = _
    simp [nm, hx]
  rw [e]
theorem nch_lo {x : UInt8} (h : x.toNat < 33) : nch x = false := decide_eq_false (fun q => by omega)
theorem nch_hi {x : UInt8} (h : 126 < x.toNat) : nch x = false := decide_eq_false (fun q => by omega)
theorem nch_in {x : UInt8} (h : 33 ≤ x.toNat) (g : x.toNat ≤ 126) : nch x = true := decide_eq_true ⟨h, g⟩
theorem all_step {α : Type} {l : List α} {p : α → Bool} {k : Nat} {x : α} (h : l[k]? = some x) : (l.take (k + 1)).all p = ((l.take k).all p && p x) := by
  rw [List.take_add_one, h, List.all_append]; simp
theorem all_no {α : Type} {l : List α} {p : α → Bool} {k : Nat} {x : α} (h : l[k]? = some x) (hp : p x = false) : l.all p = false := by
  rw [List.all_eq_false]
  exact ⟨x, List.mem_of_getElem? h, by rw [hp]; simp⟩
theorem okN_len {l : Nm} (h : l.length < 1 ∨ 64 < l.length) : okN l = false := by
  unfold okN
  rcases h with h | h
  · rw [decide_eq_false (show ¬ 1 ≤ l.length by omega)]; rfl
  · rw [decide_eq_false (show ¬ l.length ≤ 64 by omega), Bool.and_false]; rfl
theorem okN_mid {l : Nm} (h : 1 ≤ l.length ∧ l.length ≤ 64) : okN l = l.all nch := by
  unfold okN
  rw [decide_eq_true h.1, decide_eq_true h.2]; rfl
theorem okN_le {l : Nm} (h : okN l = true) : l.length ≤ 64 := by
  rcases Nat.lt_or_ge 64 l.length with h1 | h1
  · rw [okN_len (.inr h1)] at h; cases h
  · exact h1

set_option maxHeartbeats 1000000 in
theorem rname_any (l : Nm) (n : Nat) (w : World) (hl : Hid (l.length = n)) :
    Calls Try.prog 18 #[.string (nm l)] w fun e w' => e = .returned (.bool (okN l)) ∧ w = w' := by
  have hsz : (nm l).size = n := by rw [nm_size]; exact hl.out
  by_cases h0 : n < 1
  · rw [okN_len (by rw [hl.out]; omega)]
    obtain rfl : n = 0 := by omega
    clear h0 hl
    go_enter Try.func18, Try.ntmps18
    go_wp2
    go_ret
    exact ⟨rfl, rfl⟩
  by_cases h1 : 64 < n
  · rw [okN_len (by rw [hl.out]; omega)]
    have t0 : decide ((n : Int) < 1) = false := decide_eq_false (by omega)
    have t1 : decide ((64 : Int) < (n : Int)) = true := decide_eq_true (by omega)
    have t2 : decide (64 < n) = true := decide_eq_true (by omega)
    clear h0 h1 hl
    go_enter Try.func18, Try.ntmps18
    go_wp2
    go_ret
    exact ⟨rfl, rfl⟩
  have hh := hl.out
  rw [okN_mid (by omega)]
  have t0 : decide ((n : Int) < 1) = false := decide_eq_false (by omega)
  have t1 : decide ((64 : Int) < (n : Int)) = false := decide_eq_false (by omega)
  have t2 : decide (64 < n) = false := decide_eq_false (by omega)
  clear hh
  obtain ⟨E, hE⟩ : ∃ E, E = l.all nch := ⟨_, rfl⟩
  rw [← hE]
  have HE := Lib.hid hE
  clear hE
  go_enter Try.func18, Try.ntmps18
  go_wp2
  go_loop [3] (fun i => ∃ k : Nat, k ≤ n ∧ i = .int .i64 k ∧ Hid ((l.take k).all nch = true)) (fun i => n - (intOf i).toNat)
  case atStart => exact ⟨0, Nat.zero_le _, rfl, Lib.hid (by simp)⟩
  case round =>
    obtain ⟨k, hk, rfl, hz⟩ := hrel
    by_cases hlt : k < n
    · obtain ⟨x, hx⟩ : ∃ x, l[k]? = some x := ⟨_, List.getElem?_eq_getElem (by rw [hl.out]; exact hlt)⟩
      have hi := fun W => idx_nm hx W
      by_cases c0 : x.toNat < 33
      · have HF := Lib.hid (all_no hx (nch_lo c0))
        have q0 : decide ((x.toNat : Int) < 33) = true := decide_eq_true (by omega)
        clear hz hx c0
        go_wp2
        go_ret
        exact ⟨ret_bool (by rw [HE.out, HF.out]), rfl⟩
      by_cases c1 : 126 < x.toNat
      · have HF := Lib.hid (all_no hx (nch_hi c1))
        have q0 : decide ((x.toNat : Int) < 33) = false := decide_eq_false (by omega)
        have q1 : decide ((126 : Int) < (x.toNat : Int)) = true := decide_eq_true (by omega)
        have q2 : decide (126 < x.toNat) = true := decide_eq_true (by omega)
        clear hz hx c0 c1
        go_wp2
        go_ret
        exact ⟨ret_bool (by rw [HE.out, HF.out]), rfl⟩
      have HS := Lib.hid (show (l.take (k + 1)).all nch = true by rw [all_step hx, hz.out, nch_in (by omega) (by omega)]; rfl)
      have q0 : decide ((x.toNat : Int) < 33) = false := decide_eq_false (by omega)
      have q1 : decide ((126 : Int) < (x.toNat : Int)) = false := decide_eq_false (by omega)
      have q2 : decide (126 < x.toNat) = false := decide_eq_false (by omega)
      clear hz hx c0 c1
      go_wp2
      go_round
      case rel => exact ⟨k + 1, by omega, by go_num, HS⟩
      case measure => simp [intOf]; omega
    · have HF := Lib.hid (show l.all nch = true by have := hz.out; rwa [List.take_of_length_le (by rw [hl.out]; omega)] at this)
      clear hz
      go_wp2
      go_ret
      exact ⟨ret_bool (by rw [HE.out, HF.out]), rfl⟩

set_option maxHeartbeats 1000000 in
theorem name_any (l : Nm) (n : Nat) (w : World) (hl : Hid (l.length = n)) :
    Calls Try.prog 17 #[.string (nm l)] w fun e w' => e = .returned (.bool (okN l)) ∧ w = w' := by
  have hsz : (nm l).size = n := by rw [nm_size]; exact hl.out
  by_cases h0 : n < 1
  · rw [okN_len (by rw [hl.out]; omega)]
    obtain rfl : n = 0 := by omega
    clear h0 hl
    go_enter Try.func17, Try.ntmps17
    go_wp2
    go_ret
    exact ⟨rfl, rfl⟩
  by_cases h1 : 64 < n
  · rw [okN_len (by rw [hl.out]; omega)]
    have t0 : decide ((n : Int) < 1) = false := decide_eq_false (by omega)
    have t1 : decide ((64 : Int) < (n : Int)) = true := decide_eq_true (by omega)
    have t2 : decide (64 < n) = true := decide_eq_true (by omega)
    clear h0 h1 hl
    go_enter Try.func17, Try.ntmps17
    go_wp2
    go_ret
    exact ⟨rfl, rfl⟩
  have hh := hl.out
  rw [okN_mid (by omega)]
  have t0 : decide ((n : Int) < 1) = false := decide_eq_false (by omega)
  have t1 : decide ((64 : Int) < (n : Int)) = false := decide_eq_false (by omega)
  have t2 : decide (64 < n) = false := decide_eq_false (by omega)
  clear hh
  obtain ⟨E, hE⟩ : ∃ E, E = l.all nch := ⟨_, rfl⟩
  rw [← hE]
  have HE := Lib.hid hE
  clear hE
  go_enter Try.func17, Try.ntmps17
  go_wp2
  go_loop [14] (fun i => ∃ k : Nat, k ≤ n ∧ i = .int .i64 k ∧ Hid ((l.take k).all nch = true)) (fun i => n - (intOf i).toNat)
  case atStart => exact ⟨0, Nat.zero_le _, rfl, Lib.hid (by simp)⟩
  case round =>
    obtain ⟨k, hk, rfl, hz⟩ := hrel
    by_cases hlt : k < n
    · obtain ⟨x, hx⟩ : ∃ x, l[k]? = some x := ⟨_, List.getElem?_eq_getElem (by rw [hl.out]; exact hlt)⟩
      have hi := fun W => idx_nm hx W
      by_cases c0 : x.toNat < 33
      · have HF := Lib.hid (all_no hx (nch_lo c0))
        have q0 : decide ((x.toNat : Int) < 33) = true := decide_eq_true (by omega)
        clear hz hx c0
        go_wp2
        go_ret
        exact ⟨ret_bool (by rw [HE.out, HF.out]), rfl⟩
      by_cases c1 : 126 < x.toNat
      · have HF := Lib.hid (all_no hx (nch_hi c1))
        have q0 : decide ((x.toNat : Int) < 33) = false := decide_eq_false (by omega)
        have q1 : decide ((126 : Int) < (x.toNat : Int)) = true := decide_eq_true (by omega)
        have q2 : decide (126 < x.toNat) = true := decide_eq_true (by omega)
        clear hz hx c0 c1
        go_wp2
        go_ret
        exact ⟨ret_bool (by rw [HE.out, HF.out]), rfl⟩
      have HS := Lib.hid (show (l.take (k + 1)).all nch = true by rw [all_step hx, hz.out, nch_in (by omega) (by omega)]; rfl)
      have q0 : decide ((x.toNat : Int) < 33) = false := decide_eq_false (by omega)
      have q1 : decide ((126 : Int) < (x.toNat : Int)) = false := decide_eq_false (by omega)
      have q2 : decide (126 < x.toNat) = false := decide_eq_false (by omega)
      clear hz hx c0 c1
      go_wp2
      go_round
      case rel => exact ⟨k + 1, by omega, by go_num, HS⟩
      case measure => simp [intOf]; omega
    · have HF := Lib.hid (show l.all nch = true by have := hz.out; rwa [List.take_of_length_le (by rw [hl.out]; omega)] at this)
      clear hz
      go_wp2
      go_ret
      exact ⟨ret_bool (by rw [HE.out, HF.out]), rfl⟩


set_option maxHeartbeats 1000000 in
theorem works_any (w : World) (g : Nat) (x : Bool) (a b : Value) (c : Value) (h : Cel w g 56 #[.bool x, a, b, c]) :
    Calls Try.prog 24 #[.pointer (some ⟨g, 0, none⟩)] w fun e w' => e = .returned (.bool x) ∧ w = w' := by
  have c0 := h.cell 0; simp at c0
  go_enter Try.func24, Try.ntmps24
  go_wp2
  go_ret
  exact ⟨rfl, rfl⟩
theorem works_nil (w : World) : Calls Try.prog 24 #[.pointer none] w fun e w' => e = .returned (.bool false) ∧ w = w' := by
  go_enter Try.func24, Try.ntmps24
  go_wp2
  go_ret
  exact ⟨rfl, rfl⟩

set_option maxHeartbeats 1000000 in
theorem clone_any (l : List Byte) (n : Nat) (w : World) (A : Option Addr) (c : Nat) (hl : Hid (l.length = n)) (h : Dt w w.heap.size l A c) (hm : n ≤ 140737488355328) :
    Calls Try.prog 26 #[.slice A n c] w fun e w' => ∃ A' c', e = .returned (.slice A' n c') ∧ Dq w' l A' c' ∧ Below w.heap.size w w' := by
  have hL : l.length = n := hl
  subst hL
  obtain ⟨hb, hn, _, _⟩ := h
  cases A with
  | none =>
    have hl : l = [] := by
      rcases Nat.eq_zero_or_pos l.length with h0 | h0
      · exact List.eq_nil_of_length_eq_zero h0
      · obtain ⟨b, off, h, _⟩ := hb h0; cases h
    subst hl
    obtain rfl : c = 0 := hn rfl
    have hnil := fun W => Lib.run_eql_slice_nil (P := Try.prog) W 30 5 none 0 0 0 0 Try.underlying30
    go_enter Try.func26, Try.ntmps26
    go_wp2
    go_ret
    exact ⟨_, _, rfl, Dq.nil_ _, Below.refl _ _⟩
  | some ad =>
    have bel1 := (Below.refl w.heap.size w).alloc (Nat.le_refl _) (.cells #[] 5)
    have hown1 := Ow_empty w w.heap.size 5 (Nat.le_refl _)
    have hnil := fun W => Lib.run_eql_slice_nil (P := Try.prog) W 30 5 (some ad) l.length c 0 0 Try.underlying30
    go_enter Try.func26, Try.ntmps26
    go_wp2_with (first
      | (at_builtin; refine wpList_app _ is_bytes rfl (.tmp 5) (.tmp 6) rfl (m := []) rfl hown1 rfl (hb.below bel1) hn (by simp; omega) bel1.size ?_; intro v2 w2 hown2 hgrow2; have bel2 := bel1.grown hgrow2 bel1.size (Ow.base_le (l := []) hown1)))
    go_ret
    have ho : Ow w2 w.heap.size 5 v2 l := hown2
    obtain ⟨A', c', rfl, hd⟩ := Dq.of ho rfl
    exact ⟨A', c', rfl, hd, bel2⟩

set_option maxHeartbeats 1000000 in
theorem new_any (most room : Int) (w : World) :
    Calls Try.prog 8 #[I most, I room] w fun e w' => ∃ g b, e = .returned (.pointer (some ⟨g, 0, none⟩)) ∧ FW w' g b (s0 most room) ∧ w.heap.size ≤ g ∧ w.heap.size ≤ b ∧ Below w.heap.size w w' := by
  have hmm := @run_makeMap Try.prog
  go_enter Try.func8, Try.ntmps8
  go_wp2
  go_ret
  have e1 : (min (max most 0) 256) = ((s0 most room).most : Int) := by show _ = ((clp most 256 : Nat) : Int); unfold clp; omega
  have e2 : (min (max room 0) 2147483648) = ((s0 most room).room : Int) := by show _ = ((clp room 2147483648 : Nat) : Int); unfold clp; omega
  rw [e1, e2]
  have hc : Cel ((w.alloc (.map #[] 0)).alloc (.cells #[.bool true, I (s0 most room).most, I (s0 most room).room, .map (some w.heap.size)] 56)) (w.heap.size + 1) 56 #[.bool true, I (s0 most room).most, I (s0 most room).room, .map (some w.heap.size)] := by
    have := Cel.new (w.alloc (.map #[] 0)) 56 #[.bool true, I (s0 most room).most, I (s0 most room).room, .map (some w.heap.size)]
    simpa using this
  exact ⟨_, _, rfl, ⟨hc, ⟨[], rfl, (Mp.new w).below (bel_new _ _), by simp⟩, s0_ok _ _⟩, by omega, Nat.le_refl _, (bel_new _ _).alloc (by simp) _⟩
end Go.Proofs.Ytbeekfbcflmemaa.Fil
