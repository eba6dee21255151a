/-
  The walks of the reference of layer 3: TakeUint, TakeInt, TakeCount, TakeBlob.
-/
import Derived.Test.YtjjfamkljcipgaaRef03a
import Derived.Test.YtjjfamkljcipgaaHand
namespace Go.Proofs.Ytjjfamkljcipgaa
open Go.RowKit

def okU (o : Option (Nat × Nat)) : Nat × Nat := o.getD (0, 0)
def okI (o : Option (Int × Nat)) : Int × Nat := o.getD (0, 0)

set_option maxHeartbeats 1000000 in
theorem xtku_ok (A : Option Addr) (l : List Byte) (n c k B : Nat) (w : World) (hl : Hid (l.length = n)) (hb : Bs w B A l) (hk1 : 1 ≤ k) (hk8 : k ≤ 8) (hkn : k ≤ n) (hL : n < 1000000) :
    Calls Try.prog 61 #[.slice A n c, .int .i64 (k : Int)] w fun e w' => e = .returned (.tuple #[.int .u64 (beV (l.take k) : Int), .int .i64 (k : Int)]) ∧ w = w' := by
  have t1 : decide ((k : Int) < 1) = false := by simp; omega
  have t2 : decide (8 < (k : Int)) = false := by simp; omega
  have t3 : decide ((n : Int) < (k : Int)) = false := by simp; omega
  go_enter Try.func61, Try.ntmps61
  go_wp2
  go_loop [6, 7] (fun t i => ∃ j : Nat, j ≤ k ∧ i = .int .i64 j ∧ t = .int .u64 (beV (l.take j) : Int)) (fun _ i => k - (intOf i).toNat)
  case atStart => exact ⟨0, Nat.zero_le _, rfl, rfl⟩
  case round =>
    obtain ⟨j, hj, rfl, rfl⟩ := hrel
    by_cases hlt : j < k
    · obtain ⟨b, off, rfl, _, hcc⟩ := hb.at_ (k := j) (by have := hl.out; omega)
      have HS : Hid (beV (l.take (j + 1)) = beV (l.take j) * 256 + (l[j]'(by have := hl.out; omega)).toNat) := beV_take l j _ (List.getElem?_eq_getElem _)
      have hv : beV (l.take j) < 72057594037927936 := by
        have h1 := beV_lt (l.take j)
        have h2 : (l.take j).length ≤ 7 := by rw [List.length_take]; omega
        have h3 : 256 ^ (l.take j).length ≤ 256 ^ 7 := Nat.pow_le_pow_right (by decide) h2
        omega
      obtain ⟨V, hV⟩ : ∃ V, V = beV (l.take j) := ⟨_, rfl⟩
      rw [← hV] at hv ⊢
      rw [← hV] at HS
      have hx := (l[j]'(by have := hl.out; omega)).isLt
      have hjn : (j : Int) < (n : Int) := by omega
      clear hV
      go_wp2
      go_round
      case rel => exact ⟨j + 1, by omega, by go_num, val_int (by rw [HS.out]; omega)⟩
      case measure => simp [intOf]; omega
    · have hjk : j = k := by omega
      subst hjk
      go_wp2
      go_ret2
      exact ⟨rfl, rfl⟩

set_option maxHeartbeats 1000000 in
theorem xtku_bad (A : Option Addr) (n c : Nat) (size : Int) (w : World) (h : size < 1 ∨ 8 < size ∨ (n : Int) < size) :
    Calls Try.prog 61 #[.slice A n c, .int .i64 size] w fun e w' => e = .returned (.tuple #[.int .u64 0, .int .i64 0]) ∧ w = w' := by
  by_cases h1 : size < 1
  · clear h
    go_enter Try.func61, Try.ntmps61
    go_wp2
    go_ret2
    exact ⟨rfl, rfl⟩
  · by_cases h2 : 8 < size
    · have t1 : decide (size < 1) = false := decide_eq_false h1
      clear h h1
      go_enter Try.func61, Try.ntmps61
      go_wp2
      go_ret2
      exact ⟨rfl, rfl⟩
    · have t1 : decide (size < 1) = false := decide_eq_false h1
      have t2 : decide (8 < size) = false := decide_eq_false h2
      have t3 : (n : Int) < size := by omega
      clear h h1 h2
      go_enter Try.func61, Try.ntmps61
      go_wp2
      go_ret2
      exact ⟨rfl, rfl⟩
theorem xtku_any (A : Option Addr) (l : List Byte) (n c B : Nat) (size : Int) (w : World) (hl : Hid (l.length = n)) (hb : Bs w B A l) (hL : n < 1000000) :
    Calls Try.prog 61 #[.slice A n c, .int .i64 size] w fun e w' => e = .returned (.tuple #[.int .u64 ((okU (tkU l size)).1 : Int), .int .i64 ((okU (tkU l size)).2 : Int)]) ∧ w = w' := by
  have hln : l.length = n := hl
  by_cases h : 1 ≤ size ∧ size ≤ 8 ∧ size ≤ (l.length : Int)
  · obtain ⟨k, rfl⟩ := Int.eq_ofNat_of_zero_le (show 0 ≤ size by omega)
    have hb2 : tkU l (k : Int) = some (beV (l.take k), k) := by unfold tkU; rw [if_pos h, Int.toNat_natCast]
    rw [hb2]
    exact xtku_ok A l n c k B w hl hb (by omega) (by omega) (by omega) hL
  · have hb2 : tkU l size = none := by unfold tkU; rw [if_neg h]
    rw [hb2]
    exact xtku_bad A n c size w (by omega)

/-! ### TakeInt -/
theorem acc_step (l : List Byte) (k z s : Nat) (x : Byte) (hx : l[k]? = some x) (hz : z = leV (l.take k) % 18446744073709551616) (hs : s = 128 ^ k % 18446744073709551616) :
    IntKind.u64.wrap ((z : Int) + IntKind.u64.wrap ((s : Int) * ((x.toNat : Int) % 128))) = ((leV (l.take (k + 1)) % 18446744073709551616 : Nat) : Int) ∧ IntKind.u64.wrap ((s : Int) * 128) = ((128 ^ (k + 1) % 18446744073709551616 : Nat) : Int) := by
  rw [leV_take l k x hx, wrap64, wrap64, wrap64]
  have e : ((s : Int) * ((x.toNat : Int) % 128)) = ((s * (x.toNat % 128) : Nat) : Int) := by rw [Int.natCast_mul, Int.natCast_emod]; rfl
  have h1 : (z + s * (x.toNat % 128) % 18446744073709551616) % 18446744073709551616 = (leV (l.take k) + x.toNat % 128 * 128 ^ k) % 18446744073709551616 := by
    rw [hz, hs, Nat.mod_mul_mod, ← Nat.add_mod, Nat.mul_comm (128 ^ k)]
  have h2 : s * 128 % 18446744073709551616 = 128 ^ (k + 1) % 18446744073709551616 := by
    rw [hs, Nat.mod_mul_mod, Nat.pow_succ]
  rw [e]
  omega
theorem Mores.step {l : List Byte} {k : Nat} {x : Byte} (h : Mores l k) (hx : l[k]? = some x) (hb : 128 ≤ x.toNat) : Mores l (k + 1) := by
  intro j y hj hy
  by_cases hjk : j = k
  · subst hjk
    rw [hx] at hy
    injection hy with hy
    rw [← hy]
    exact hb
  · exact h j y (by omega) hy
theorem unzig_odd {z : Nat} (h : z % 2 = 1) : -((z : Int) / 2) - 1 = unzig z := by unfold unzig; rw [if_pos h]; omega
theorem unzig_even {z : Nat} (h : ¬ z % 2 = 1) : (z : Int) / 2 = unzig z := by unfold unzig; rw [if_neg h]; omega

set_option maxHeartbeats 2000000 in
theorem xtki_any (A : Option Addr) (l : List Byte) (n c : Nat) (w : World) (hl : Hid (l.length = n)) (hb : Bs w w.heap.size A l) (hn : A = none → c = 0) (hnc : n ≤ c) (_hcm : c ≤ 9223372036854775807) (_hL : n < 1000000) :
    Calls Try.prog 63 #[.slice A n c] w fun e w' => e = .returned (.tuple #[.int .i64 (okI (tkI l)).1, .int .i64 ((okI (tkI l)).2 : Int)]) ∧ Below w.heap.size w w' := by
  obtain ⟨R, hR⟩ : ∃ R, R = tkI l := ⟨_, rfl⟩
  rw [← hR]
  have HR : Hid (R = (dec l).map fun p => (unzig p.1, p.2)) := hR
  clear hR
  go_enter Try.func63, Try.ntmps63
  go_wp2
  go_loop [4, 5, 6] (fun z s i => ∃ k Z S : Nat, k ≤ n ∧ k ≤ 10 ∧ i = .int .i64 k ∧ z = .int .u64 (Z : Int) ∧ s = .int .u64 (S : Int) ∧ Z = leV (l.take k) % 18446744073709551616 ∧ S = 128 ^ k % 18446744073709551616 ∧ Mores l k) (fun _ _ i => 10 - (intOf i).toNat)
  case atStart => exact ⟨0, 0, 1, Nat.zero_le _, by omega, rfl, rfl, rfl, rfl, rfl, fun j x hj _ => by omega⟩
  case round =>
    obtain ⟨k, Z, S, hkn, hk10, rfl, rfl, rfl, hZ, hS, hmo⟩ := hrel
    by_cases hlt : k < n ∧ k < 10
    · obtain ⟨b, off, rfl, hbl, hcc⟩ := hb.at_ (k := k) (by have := hl.out; omega)
      obtain ⟨x, hx⟩ : ∃ x, x = (l[k]'(by have := hl.out; omega)) := ⟨_, rfl⟩
      have hxk : l[k]? = some x := by rw [hx]; exact List.getElem?_eq_getElem _
      rw [← hx] at hcc
      obtain ⟨e1, e2⟩ := acc_step l k Z S x hxk hZ hS
      have i1 : (k : Int) < (n : Int) := by omega
      have i2 : (k : Int) < 10 := by omega
      have hxb := x.isLt
      by_cases c2 : 127 < x.toNat
      · have t2 : (127 : Int) < (x.toNat : Int) := by omega
        have hm1 := hmo.step hxk (by omega)
        have HH := Lib.hid (And.intro e1 e2)
        have HL := Lib.hid hlt
        clear hZ hS e1 e2 hxk hx hlt c2
        go_wp2
        go_round
        case rel => exact ⟨k + 1, _, _, by have := HL.out; omega, by have := HL.out; omega, by go_num, val_int HH.out.1, val_int HH.out.2, rfl, rfl, hm1⟩
        case measure => have := HL.out; simp [intOf]; omega
      · have hd := dec_hit hmo hxk (by omega) rfl
        obtain ⟨Z1, hZ1⟩ : ∃ Z1, Z1 = leV (l.take (k + 1)) % 18446744073709551616 := ⟨_, rfl⟩
        rw [← hZ1] at hd e1
        have hZ64 : Z1 < 18446744073709551616 := by omega
        obtain ⟨T, hT⟩ : ∃ T, T = l.take (k + 1) := ⟨_, rfl⟩
        rw [← hT] at hd
        have hTl : T.length = k + 1 := by rw [hT, List.length_take]; have := hl.out; omega
        have hTb : Bs w w.heap.size (some ⟨b, off, none⟩) T := by rw [hT]; exact hb.take _
        have hs0 : ∀ W, Below w.heap.size w W → (convert 24 9 (.slice (some ⟨b, off, none⟩) (k + 1) c)).run Try.prog W = .ok (.string (str T)) W := fun W hW => by
          rw [← hTl]
          exact run_str W is_bytes Try.underlying9 (hTb.below hW) (fun h => by cases h)
        have hB0 : Below w.heap.size w w.drew := (Below.refl _ _).drew
        obtain ⟨u, hu⟩ : ∃ u, u = unzig Z1 := ⟨_, rfl⟩
        have hub : -9223372036854775808 ≤ u ∧ u ≤ 9223372036854775807 := by rw [hu]; exact unzig_bounds hZ64
        have hEu : encI u = encZ Z1 := by unfold encI; rw [hu, zig_unzig]
        have hRv : R = if encI u = T then some (u, k + 1) else none := by
          rw [HR.out, hd, hEu]
          split
          · rw [hu]; rfl
          · rfl
        have t2 : decide ((127 : Int) < (x.toNat : Int)) = false := by simp; omega
        have t2' : decide (127 < x.toNat) = false := by simp; omega
        have hkc : (k : Int) + 1 ≤ (c : Int) := by omega
        have hk0 : (0 : Int) ≤ (k : Int) + 1 := by omega
        have hwk : IntKind.i64.wrap ((k : Int) + 1) = ((k + 1 : Nat) : Int) := by rw [IntKind.wrap_i64]; omega
        have huN : (Z1 % 2 = 1 ∧ -((Z1 : Int) / 2) - 1 = u) ∨ (¬ Z1 % 2 = 1 ∧ (Z1 : Int) / 2 = u) := by
          by_cases ho : Z1 % 2 = 1
          · exact .inl ⟨ho, by rw [hu]; exact unzig_odd ho⟩
          · exact .inr ⟨ho, by rw [hu]; exact unzig_even ho⟩
        have hxi := fun W => xint_any u W hub
        obtain ⟨E, hE⟩ : ∃ E, E = encI u := ⟨_, rfl⟩
        simp only [← hE] at hxi
        rw [← hE] at hRv
        have hbq := str_beq E T
        have HT := Lib.hid hTl
        clear hZ hS e2 hxk hx hlt c2 hd hZ1 hT hTl hTb hu hEu hmo hub hE
        rcases huN with ⟨ho, hu⟩ | ⟨ho, hu⟩
        · have t3 : ((Z1 : Int) % 2 == 1) = true := by simp; omega
          clear ho
          by_cases he : E = T
          · rw [if_pos he] at hRv
            rw [decide_eq_true he] at hbq
            subst hRv
            clear he
            go_wp2
            refine wp_region_held_drew (S := (fun w' => (convert 24 9 (.slice (some ⟨b, off, none⟩) (k + 1) c)).run Try.prog w' = .ok (.string (str T)) w')) (by kernel_rfl) (hs0 _ hB0) (fun hHeld => ?_)
            refine wpAnyH_here 0 (v := ?_) rfl (by kernel_rfl) (by kernel_rfl) (by kernel_rfl) (fun _ _ _ h => h) (Or.inl ⟨by rfl, ?_⟩) hHeld ?_
            rotate_left
            · intro w hSw; (try dsimp only at hSw); go_simp; all_goals (with_reducible rfl)
            try simp only [Act.put, List.setIfInBounds_toArray, List.set_cons_zero, List.set_cons_succ]
            refine wpAnyH_here 3 (v := ?_) rfl (by kernel_rfl) (by kernel_rfl) (by kernel_rfl) (fun _ _ _ h => h) (Or.inl ⟨by rfl, ?_⟩) hHeld ?_
            rotate_left
            · intro w hSw; (try dsimp only at hSw); go_simp; all_goals (with_reducible rfl)
            try simp only [Act.put, List.setIfInBounds_toArray, List.set_cons_zero, List.set_cons_succ]
            refine wpAnyH_here 4 (v := ?_) rfl (by kernel_rfl) (by kernel_rfl) (by kernel_rfl) (fun _ _ _ h => h) (Or.inl ⟨by rfl, ?_⟩) hHeld ?_
            rotate_left
            · intro w hSw; (try dsimp only at hSw); go_simp; all_goals (with_reducible rfl)
            try simp only [Act.put, List.setIfInBounds_toArray, List.set_cons_zero, List.set_cons_succ]
            refine wpAnyH_here 5 (v := ?_) rfl (by kernel_rfl) (by kernel_rfl) (by kernel_rfl) (fun _ _ _ h => h) (Or.inl ⟨by rfl, ?_⟩) hHeld ?_
            rotate_left
            · intro w hSw; (try dsimp only at hSw); go_simp; all_goals (with_reducible rfl)
            try simp only [Act.put, List.setIfInBounds_toArray, List.set_cons_zero, List.set_cons_succ]
            refine wpAnyH_here 6 (v := ?_) rfl (by kernel_rfl) (by kernel_rfl) (by kernel_rfl) (fun _ _ _ h => h) (Or.inl ⟨by rfl, ?_⟩) hHeld ?_
            rotate_left
            · intro w hSw; (try dsimp only at hSw); go_simp; all_goals (with_reducible rfl)
            try simp only [Act.put, List.setIfInBounds_toArray, List.set_cons_zero, List.set_cons_succ]
            refine wpAnyH_here 7 (v := ?_) rfl (by kernel_rfl) (by kernel_rfl) (by kernel_rfl) (fun _ _ _ h => h) (Or.inl ⟨by rfl, ?_⟩) hHeld ?_
            rotate_left
            · intro w hSw; (try dsimp only at hSw); go_simp; all_goals (with_reducible rfl)
            try simp only [Act.put, List.setIfInBounds_toArray, List.set_cons_zero, List.set_cons_succ]
            refine wpAnyH_alone 1 rfl (by kernel_rfl) (fun K hK => ?_)
            go_simp
            (go_at_call 25; refine (hxi _).mono ?_; rintro e w1 ⟨v, rfl, hown, hbel⟩; obtain ⟨A, c1, rfl, hrd, hnn, _, _⟩ := hown.reads; have hs1 := run_str (P := Try.prog) w1 is_bytes Try.underlying9 hrd hnn)
            refine hK.out _ _ (hs0 w1 (hB0.trans hbel)) (fun hHeld => ?_)
            clear hK K
            try simp only [Act.put, List.setIfInBounds_toArray, List.set_cons_zero, List.set_cons_succ]
            refine wpAnyH_pin hHeld (fun hHeld => ?_)
            refine wpAnyH_here 2 (v := ?_) rfl (by kernel_rfl) (by kernel_rfl) (by kernel_rfl) (fun _ _ _ h => h) (Or.inl ⟨by rfl, ?_⟩) hHeld ?_
            rotate_left
            · intro w hSw; subst hSw; go_simp; all_goals (with_reducible rfl)
            try simp only [Act.put, List.setIfInBounds_toArray, List.set_cons_zero, List.set_cons_succ]
            refine wpAnyH_here 8 (v := ?_) rfl (by kernel_rfl) (by kernel_rfl) (by kernel_rfl) (fun _ _ _ h => h) (Or.inl ⟨by rfl, ?_⟩) hHeld ?_
            rotate_left
            · intro w hSw; subst hSw; go_simp; all_goals (with_reducible rfl)
            try simp only [Act.put, List.setIfInBounds_toArray, List.set_cons_zero, List.set_cons_succ]
            refine wpAnyH_done (by kernel_rfl) ?_ _
            go_wp2
            go_ret2
            exact ⟨rfl, hB0.trans hbel⟩
          · rw [if_neg he] at hRv
            rw [decide_eq_false he] at hbq
            subst hRv
            clear he
            go_wp2
            refine wp_region_held_drew (S := (fun w' => (convert 24 9 (.slice (some ⟨b, off, none⟩) (k + 1) c)).run Try.prog w' = .ok (.string (str T)) w')) (by kernel_rfl) (hs0 _ hB0) (fun hHeld => ?_)
            refine wpAnyH_here 0 (v := ?_) rfl (by kernel_rfl) (by kernel_rfl) (by kernel_rfl) (fun _ _ _ h => h) (Or.inl ⟨by rfl, ?_⟩) hHeld ?_
            rotate_left
            · intro w hSw; (try dsimp only at hSw); go_simp; all_goals (with_reducible rfl)
            try simp only [Act.put, List.setIfInBounds_toArray, List.set_cons_zero, List.set_cons_succ]
            refine wpAnyH_here 3 (v := ?_) rfl (by kernel_rfl) (by kernel_rfl) (by kernel_rfl) (fun _ _ _ h => h) (Or.inl ⟨by rfl, ?_⟩) hHeld ?_
            rotate_left
            · intro w hSw; (try dsimp only at hSw); go_simp; all_goals (with_reducible rfl)
            try simp only [Act.put, List.setIfInBounds_toArray, List.set_cons_zero, List.set_cons_succ]
            refine wpAnyH_here 4 (v := ?_) rfl (by kernel_rfl) (by kernel_rfl) (by kernel_rfl) (fun _ _ _ h => h) (Or.inl ⟨by rfl, ?_⟩) hHeld ?_
            rotate_left
            · intro w hSw; (try dsimp only at hSw); go_simp; all_goals (with_reducible rfl)
            try simp only [Act.put, List.setIfInBounds_toArray, List.set_cons_zero, List.set_cons_succ]
            refine wpAnyH_here 5 (v := ?_) rfl (by kernel_rfl) (by kernel_rfl) (by kernel_rfl) (fun _ _ _ h => h) (Or.inl ⟨by rfl, ?_⟩) hHeld ?_
            rotate_left
            · intro w hSw; (try dsimp only at hSw); go_simp; all_goals (with_reducible rfl)
            try simp only [Act.put, List.setIfInBounds_toArray, List.set_cons_zero, List.set_cons_succ]
            refine wpAnyH_here 6 (v := ?_) rfl (by kernel_rfl) (by kernel_rfl) (by kernel_rfl) (fun _ _ _ h => h) (Or.inl ⟨by rfl, ?_⟩) hHeld ?_
            rotate_left
            · intro w hSw; (try dsimp only at hSw); go_simp; all_goals (with_reducible rfl)
            try simp only [Act.put, List.setIfInBounds_toArray, List.set_cons_zero, List.set_cons_succ]
            refine wpAnyH_here 7 (v := ?_) rfl (by kernel_rfl) (by kernel_rfl) (by kernel_rfl) (fun _ _ _ h => h) (Or.inl ⟨by rfl, ?_⟩) hHeld ?_
            rotate_left
            · intro w hSw; (try dsimp only at hSw); go_simp; all_goals (with_reducible rfl)
            try simp only [Act.put, List.setIfInBounds_toArray, List.set_cons_zero, List.set_cons_succ]
            refine wpAnyH_alone 1 rfl (by kernel_rfl) (fun K hK => ?_)
            go_simp
            (go_at_call 25; refine (hxi _).mono ?_; rintro e w1 ⟨v, rfl, hown, hbel⟩; obtain ⟨A, c1, rfl, hrd, hnn, _, _⟩ := hown.reads; have hs1 := run_str (P := Try.prog) w1 is_bytes Try.underlying9 hrd hnn)
            refine hK.out _ _ (hs0 w1 (hB0.trans hbel)) (fun hHeld => ?_)
            clear hK K
            try simp only [Act.put, List.setIfInBounds_toArray, List.set_cons_zero, List.set_cons_succ]
            refine wpAnyH_pin hHeld (fun hHeld => ?_)
            refine wpAnyH_here 2 (v := ?_) rfl (by kernel_rfl) (by kernel_rfl) (by kernel_rfl) (fun _ _ _ h => h) (Or.inl ⟨by rfl, ?_⟩) hHeld ?_
            rotate_left
            · intro w hSw; subst hSw; go_simp; all_goals (with_reducible rfl)
            try simp only [Act.put, List.setIfInBounds_toArray, List.set_cons_zero, List.set_cons_succ]
            refine wpAnyH_here 8 (v := ?_) rfl (by kernel_rfl) (by kernel_rfl) (by kernel_rfl) (fun _ _ _ h => h) (Or.inl ⟨by rfl, ?_⟩) hHeld ?_
            rotate_left
            · intro w hSw; subst hSw; go_simp; all_goals (with_reducible rfl)
            try simp only [Act.put, List.setIfInBounds_toArray, List.set_cons_zero, List.set_cons_succ]
            refine wpAnyH_done (by kernel_rfl) ?_ _
            go_wp2
            go_ret2
            exact ⟨rfl, hB0.trans hbel⟩
        · have t3 : ((Z1 : Int) % 2 == 1) = false := by simp; omega
          clear ho
          by_cases he : E = T
          · rw [if_pos he] at hRv
            rw [decide_eq_true he] at hbq
            subst hRv
            clear he
            go_wp2
            refine wp_region_held_drew (S := (fun w' => (convert 24 9 (.slice (some ⟨b, off, none⟩) (k + 1) c)).run Try.prog w' = .ok (.string (str T)) w')) (by kernel_rfl) (hs0 _ hB0) (fun hHeld => ?_)
            refine wpAnyH_here 0 (v := ?_) rfl (by kernel_rfl) (by kernel_rfl) (by kernel_rfl) (fun _ _ _ h => h) (Or.inl ⟨by rfl, ?_⟩) hHeld ?_
            rotate_left
            · intro w hSw; (try dsimp only at hSw); go_simp; all_goals (with_reducible rfl)
            try simp only [Act.put, List.setIfInBounds_toArray, List.set_cons_zero, List.set_cons_succ]
            refine wpAnyH_here 3 (v := ?_) rfl (by kernel_rfl) (by kernel_rfl) (by kernel_rfl) (fun _ _ _ h => h) (Or.inl ⟨by rfl, ?_⟩) hHeld ?_
            rotate_left
            · intro w hSw; (try dsimp only at hSw); go_simp; all_goals (with_reducible rfl)
            try simp only [Act.put, List.setIfInBounds_toArray, List.set_cons_zero, List.set_cons_succ]
            refine wpAnyH_here 4 (v := ?_) rfl (by kernel_rfl) (by kernel_rfl) (by kernel_rfl) (fun _ _ _ h => h) (Or.inl ⟨by rfl, ?_⟩) hHeld ?_
            rotate_left
            · intro w hSw; (try dsimp only at hSw); go_simp; all_goals (with_reducible rfl)
            try simp only [Act.put, List.setIfInBounds_toArray, List.set_cons_zero, List.set_cons_succ]
            refine wpAnyH_here 5 (v := ?_) rfl (by kernel_rfl) (by kernel_rfl) (by kernel_rfl) (fun _ _ _ h => h) (Or.inl ⟨by rfl, ?_⟩) hHeld ?_
            rotate_left
            · intro w hSw; (try dsimp only at hSw); go_simp; all_goals (with_reducible rfl)
            try simp only [Act.put, List.setIfInBounds_toArray, List.set_cons_zero, List.set_cons_succ]
            refine wpAnyH_here 6 (v := ?_) rfl (by kernel_rfl) (by kernel_rfl) (by kernel_rfl) (fun _ _ _ h => h) (Or.inl ⟨by rfl, ?_⟩) hHeld ?_
            rotate_left
            · intro w hSw; (try dsimp only at hSw); go_simp; all_goals (with_reducible rfl)
            try simp only [Act.put, List.setIfInBounds_toArray, List.set_cons_zero, List.set_cons_succ]
            refine wpAnyH_here 7 (v := ?_) rfl (by kernel_rfl) (by kernel_rfl) (by kernel_rfl) (fun _ _ _ h => h) (Or.inl ⟨by rfl, ?_⟩) hHeld ?_
            rotate_left
            · intro w hSw; (try dsimp only at hSw); go_simp; all_goals (with_reducible rfl)
            try simp only [Act.put, List.setIfInBounds_toArray, List.set_cons_zero, List.set_cons_succ]
            refine wpAnyH_alone 1 rfl (by kernel_rfl) (fun K hK => ?_)
            go_simp
            (go_at_call 25; refine (hxi _).mono ?_; rintro e w1 ⟨v, rfl, hown, hbel⟩; obtain ⟨A, c1, rfl, hrd, hnn, _, _⟩ := hown.reads; have hs1 := run_str (P := Try.prog) w1 is_bytes Try.underlying9 hrd hnn)
            refine hK.out _ _ (hs0 w1 (hB0.trans hbel)) (fun hHeld => ?_)
            clear hK K
            try simp only [Act.put, List.setIfInBounds_toArray, List.set_cons_zero, List.set_cons_succ]
            refine wpAnyH_pin hHeld (fun hHeld => ?_)
            refine wpAnyH_here 2 (v := ?_) rfl (by kernel_rfl) (by kernel_rfl) (by kernel_rfl) (fun _ _ _ h => h) (Or.inl ⟨by rfl, ?_⟩) hHeld ?_
            rotate_left
            · intro w hSw; subst hSw; go_simp; all_goals (with_reducible rfl)
            try simp only [Act.put, List.setIfInBounds_toArray, List.set_cons_zero, List.set_cons_succ]
            refine wpAnyH_here 8 (v := ?_) rfl (by kernel_rfl) (by kernel_rfl) (by kernel_rfl) (fun _ _ _ h => h) (Or.inl ⟨by rfl, ?_⟩) hHeld ?_
            rotate_left
            · intro w hSw; subst hSw; go_simp; all_goals (with_reducible rfl)
            try simp only [Act.put, List.setIfInBounds_toArray, List.set_cons_zero, List.set_cons_succ]
            refine wpAnyH_done (by kernel_rfl) ?_ _
            go_wp2
            go_ret2
            exact ⟨rfl, hB0.trans hbel⟩
          · rw [if_neg he] at hRv
            rw [decide_eq_false he] at hbq
            subst hRv
            clear he
            go_wp2
            refine wp_region_held_drew (S := (fun w' => (convert 24 9 (.slice (some ⟨b, off, none⟩) (k + 1) c)).run Try.prog w' = .ok (.string (str T)) w')) (by kernel_rfl) (hs0 _ hB0) (fun hHeld => ?_)
            refine wpAnyH_here 0 (v := ?_) rfl (by kernel_rfl) (by kernel_rfl) (by kernel_rfl) (fun _ _ _ h => h) (Or.inl ⟨by rfl, ?_⟩) hHeld ?_
            rotate_left
            · intro w hSw; (try dsimp only at hSw); go_simp; all_goals (with_reducible rfl)
            try simp only [Act.put, List.setIfInBounds_toArray, List.set_cons_zero, List.set_cons_succ]
            refine wpAnyH_here 3 (v := ?_) rfl (by kernel_rfl) (by kernel_rfl) (by kernel_rfl) (fun _ _ _ h => h) (Or.inl ⟨by rfl, ?_⟩) hHeld ?_
            rotate_left
            · intro w hSw; (try dsimp only at hSw); go_simp; all_goals (with_reducible rfl)
            try simp only [Act.put, List.setIfInBounds_toArray, List.set_cons_zero, List.set_cons_succ]
            refine wpAnyH_here 4 (v := ?_) rfl (by kernel_rfl) (by kernel_rfl) (by kernel_rfl) (fun _ _ _ h => h) (Or.inl ⟨by rfl, ?_⟩) hHeld ?_
            rotate_left
            · intro w hSw; (try dsimp only at hSw); go_simp; all_goals (with_reducible rfl)
            try simp only [Act.put, List.setIfInBounds_toArray, List.set_cons_zero, List.set_cons_succ]
            refine wpAnyH_here 5 (v := ?_) rfl (by kernel_rfl) (by kernel_rfl) (by kernel_rfl) (fun _ _ _ h => h) (Or.inl ⟨by rfl, ?_⟩) hHeld ?_
            rotate_left
            · intro w hSw; (try dsimp only at hSw); go_simp; all_goals (with_reducible rfl)
            try simp only [Act.put, List.setIfInBounds_toArray, List.set_cons_zero, List.set_cons_succ]
            refine wpAnyH_here 6 (v := ?_) rfl (by kernel_rfl) (by kernel_rfl) (by kernel_rfl) (fun _ _ _ h => h) (Or.inl ⟨by rfl, ?_⟩) hHeld ?_
            rotate_left
            · intro w hSw; (try dsimp only at hSw); go_simp; all_goals (with_reducible rfl)
            try simp only [Act.put, List.setIfInBounds_toArray, List.set_cons_zero, List.set_cons_succ]
            refine wpAnyH_here 7 (v := ?_) rfl (by kernel_rfl) (by kernel_rfl) (by kernel_rfl) (fun _ _ _ h => h) (Or.inl ⟨by rfl, ?_⟩) hHeld ?_
            rotate_left
            · intro w hSw; (try dsimp only at hSw); go_simp; all_goals (with_reducible rfl)
            try simp only [Act.put, List.setIfInBounds_toArray, List.set_cons_zero, List.set_cons_succ]
            refine wpAnyH_alone 1 rfl (by kernel_rfl) (fun K hK => ?_)
            go_simp
            (go_at_call 25; refine (hxi _).mono ?_; rintro e w1 ⟨v, rfl, hown, hbel⟩; obtain ⟨A, c1, rfl, hrd, hnn, _, _⟩ := hown.reads; have hs1 := run_str (P := Try.prog) w1 is_bytes Try.underlying9 hrd hnn)
            refine hK.out _ _ (hs0 w1 (hB0.trans hbel)) (fun hHeld => ?_)
            clear hK K
            try simp only [Act.put, List.setIfInBounds_toArray, List.set_cons_zero, List.set_cons_succ]
            refine wpAnyH_pin hHeld (fun hHeld => ?_)
            refine wpAnyH_here 2 (v := ?_) rfl (by kernel_rfl) (by kernel_rfl) (by kernel_rfl) (fun _ _ _ h => h) (Or.inl ⟨by rfl, ?_⟩) hHeld ?_
            rotate_left
            · intro w hSw; subst hSw; go_simp; all_goals (with_reducible rfl)
            try simp only [Act.put, List.setIfInBounds_toArray, List.set_cons_zero, List.set_cons_succ]
            refine wpAnyH_here 8 (v := ?_) rfl (by kernel_rfl) (by kernel_rfl) (by kernel_rfl) (fun _ _ _ h => h) (Or.inl ⟨by rfl, ?_⟩) hHeld ?_
            rotate_left
            · intro w hSw; subst hSw; go_simp; all_goals (with_reducible rfl)
            try simp only [Act.put, List.setIfInBounds_toArray, List.set_cons_zero, List.set_cons_succ]
            refine wpAnyH_done (by kernel_rfl) ?_ _
            go_wp2
            go_ret2
            exact ⟨rfl, hB0.trans hbel⟩
    · have hnone : R = none := by
        rw [HR.out, dec_miss hmo (by have := hl.out; omega)]
        rfl
      subst hnone
      have hB0 : Below w.heap.size w w := Below.refl _ _
      by_cases hk : k < n
      · have t1 : (k : Int) < (n : Int) := by omega
        have t2 : decide ((k : Int) < 10) = false := by simp; omega
        have t2' : decide (k < 10) = false := by simp; omega
        clear hZ hS hmo hlt hk
        go_wp2
        go_ret2
        exact ⟨rfl, hB0⟩
      · have t1 : decide ((k : Int) < (n : Int)) = false := by simp; omega
        have t1' : decide (k < n) = false := by simp; omega
        clear hZ hS hmo hlt hk
        go_wp2
        go_ret2
        exact ⟨rfl, hB0⟩
end Go.Proofs.Ytjjfamkljcipgaa
