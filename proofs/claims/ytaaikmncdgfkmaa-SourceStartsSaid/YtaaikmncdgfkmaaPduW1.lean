/-
  Package pdu: validName, validGaps; the reference's named, gaps.
-/
import Derived.Test.YtaaikmncdgfkmaaPduW0
import Derived.Lib.ConvBytes
namespace Go.Proofs.Ytaaikmncdgfkmaa.Pdu
open Go.RowKit Go.Proofs.Ytaaikmncdgfkmaa.Row

theorem vna_len {l : List Byte} (h : l.length < 1 ∨ 64 < l.length) : vna l = false := by
  unfold vna
  rw [decide_eq_false (by omega), Bool.false_and]
theorem vna_mid {l : List Byte} (h : 1 ≤ l.length ∧ l.length ≤ 64) : vna l = l.all vch := by
  unfold vna
  rw [decide_eq_true h, Bool.true_and]
theorem all_step {l : List Byte} {k : Nat} {x : Byte} (h : l[k]? = some x) : (l.take (k + 1)).all vch = ((l.take k).all vch && vch x) := by
  rw [List.take_add_one, h, Option.toList_some, List.all_append]
  simp
theorem all_no {l : List Byte} {k : Nat} {x : Byte} (h : l[k]? = some x) (hx : vch x = false) : l.all vch = false := by
  cases hh : l.all vch with
  | false => rfl
  | true => rw [List.all_eq_true.1 hh x (List.mem_of_getElem? h)] at hx; cases hx
theorem str_byte {l : List Byte} {k : Nat} {x : Byte} (h : l[k]? = some x) : (str l).data.toList.getD k 0 = UInt8.ofBitVec x := by
  simp [str, List.getD, h]

theorem idx_str {l : List Byte} {k : Nat} {x : Byte} (h : l[k]? = some x) (W : World) : (Instr.index 9 (.string (str l)) (.int .i64 (k : Int))).run Try.prog W = .ok (B8 x) W := by
  obtain ⟨hk, hx⟩ := List.getElem?_eq_some_iff.1 h
  rw [run_index_string W 9 (str l) .i64 (k : Int) Try.underlying9, dif_pos ⟨by omega, by rw [str_size]; omega⟩]
  have e : (str l)[((k : Nat) : Int).toNat]'(by rw [str_size]; simpa using hk) = UInt8.ofBitVec x := by
    show (str l).data[((k : Nat) : Int).toNat]'_ = _
    simp [str, hx]
  rw [e]
  rfl
theorem vch_lo {x : Byte} (h : x.toNat < 33) : vch x = false := decide_eq_false (fun q => by omega)
theorem vch_hi {x : Byte} (h : 126 < x.toNat) : vch x = false := decide_eq_false (fun q => by omega)
theorem vch_in {x : Byte} (h : 33 ≤ x.toNat) (g : x.toNat ≤ 126) : vch x = true := decide_eq_true ⟨h, g⟩

set_option maxHeartbeats 1000000 in
theorem rnamed_any (l : List Byte) (n : Nat) (w : World) (hl : Hid (l.length = n)) :
    Calls Try.prog 44 #[.string (str l)] w fun e w' => e = .returned (.bool (vna l)) ∧ w = w' := by
  have hsz : (str l).size = n := by rw [str_size]; exact hl.out
  by_cases h0 : n < 1
  · rw [vna_len (by rw [hl.out]; omega)]
    obtain rfl : n = 0 := by omega
    clear h0 hl
    go_enter Try.func44, Try.ntmps44
    go_wp2
    go_ret
    exact ⟨rfl, rfl⟩
  by_cases h1 : 64 < n
  · rw [vna_len (by rw [hl.out]; omega)]
    have t0 : decide ((n : Int) < 1) = false := decide_eq_false (by omega)
    have t1 : decide ((64 : Int) < (n : Int)) = true := decide_eq_true (by omega)
    have t2 : decide (64 < n) = true := decide_eq_true (by omega)
    clear h0 h1 hl
    go_enter Try.func44, Try.ntmps44
    go_wp2
    go_ret
    exact ⟨rfl, rfl⟩
  have hh := hl.out
  rw [vna_mid (by omega)]
  have t0 : decide ((n : Int) < 1) = false := decide_eq_false (by omega)
  have t1 : decide ((64 : Int) < (n : Int)) = false := decide_eq_false (by omega)
  have t2 : decide (64 < n) = false := decide_eq_false (by omega)
  clear hh
  obtain ⟨E, hE⟩ : ∃ E, E = l.all vch := ⟨_, rfl⟩
  rw [← hE]
  have HE := Lib.hid hE
  clear hE
  go_enter Try.func44, Try.ntmps44
  go_wp2
  go_loop [3] (fun i => ∃ k : Nat, k ≤ n ∧ i = .int .i64 k ∧ Hid ((l.take k).all vch = true)) (fun i => n - (intOf i).toNat)
  case atStart => exact ⟨0, Nat.zero_le _, rfl, Lib.hid (by simp)⟩
  case round =>
    obtain ⟨k, hk, rfl, hz⟩ := hrel
    by_cases hlt : k < n
    · obtain ⟨x, hx⟩ : ∃ x, l[k]? = some x := ⟨_, List.getElem?_eq_getElem (by rw [hl.out]; exact hlt)⟩
      have hi := fun W => idx_str hx W
      by_cases c0 : x.toNat < 33
      · have HF := Lib.hid (all_no hx (vch_lo c0))
        have q0 : decide ((x.toNat : Int) < 33) = true := decide_eq_true (by omega)
        clear hz hx c0
        go_wp2
        go_ret
        exact ⟨ret_bool (by rw [HE.out, HF.out]), rfl⟩
      by_cases c1 : 126 < x.toNat
      · have HF := Lib.hid (all_no hx (vch_hi c1))
        have q0 : decide ((x.toNat : Int) < 33) = false := decide_eq_false (by omega)
        have q1 : decide ((126 : Int) < (x.toNat : Int)) = true := decide_eq_true (by omega)
        have q2 : decide (126 < x.toNat) = true := decide_eq_true (by omega)
        clear hz hx c0 c1
        go_wp2
        go_ret
        exact ⟨ret_bool (by rw [HE.out, HF.out]), rfl⟩
      have HS := Lib.hid (show (l.take (k + 1)).all vch = true by rw [all_step hx, hz.out, vch_in (by omega) (by omega)]; rfl)
      have q0 : decide ((x.toNat : Int) < 33) = false := decide_eq_false (by omega)
      have q1 : decide ((126 : Int) < (x.toNat : Int)) = false := decide_eq_false (by omega)
      have q2 : decide (126 < x.toNat) = false := decide_eq_false (by omega)
      clear hz hx c0 c1
      go_wp2
      go_round
      case rel => exact ⟨k + 1, by omega, by go_num, HS⟩
      case measure => simp [intOf]; omega
    · have HF := Lib.hid (show l.all vch = true by have := hz.out; rwa [List.take_of_length_le (by rw [hl.out]; omega)] at this)
      clear hz
      go_wp2
      go_ret
      exact ⟨ret_bool (by rw [HE.out, HF.out]), rfl⟩
--@@N
/-- '[]byte(s)' -/
theorem conv_bytes (l : List Byte) (n : Nat) (hn : l.length = n) (hl : n ≤ 2000) (w : World) :
    ∃ c W, (convert 9 24 (.string (str l))).run Try.prog w = .ok (.slice (some ⟨w.heap.size, 0, none⟩) n c) W ∧ Bx W (some ⟨w.heap.size, 0, none⟩) l n c ∧ Below w.heap.size w W := by
  have hsz : (str l).size = n := by rw [← hn]; simp [str, ByteArray.size]
  have h1 := Lib.run_convert_string_bytes (P := Try.prog) w 9 24 5 (str l) Try.underlying9 Try.underlying24 Try.underlying5
  have h2 := grownCap_ge w (str l).size 0 5
  have h3 := grownCap_le_maxLen w (str l).size 0 5 (by rw [hsz]; unfold maxLen; omega)
  refine ⟨grownCap w (str l).size 0 5, Lib.bytesWorld w 5 (str l), by rw [h1, hsz], ?_, ?_⟩
  · refine ⟨hn, fun _ => ⟨w.heap.size, 0, rfl, by rw [Lib.bytesWorld_size]; omega, fun i x hx => ?_⟩, (fun h => nomatch h), by rw [← hsz]; exact h2, h3⟩
    have hi := (List.getElem?_eq_some_iff.1 hx).1
    rw [Nat.zero_add, Lib.bytesWorld_cell w _ _ i (by rw [hsz]; omega), str_byte hx]
    rfl
  · refine ⟨?_, ?_, ?_, by rw [Lib.bytesWorld_size]; omega, fun k hk => Lib.bytesWorld_at_old w _ _ k hk⟩
    all_goals simp [Lib.bytesWorld, World.freeze, World.alloc, World.drew, -World.alloc_eq, -World.drew_eq]
theorem step_conv {P : Program} (w : World) {ops : Array Oper} {o : Oper} {a : Act} {K : Act → World → Prop} {Q : Exit → Act → World → Prop} {E : Prop} (hgd : o.guard = none) (x : Operand) (src dst : TypeId)
    (ho : o.op = .convert src dst x) {v v' : Value} {w' : World} (hx : a.eval x = v) (hr : (convert src dst v).run P w = .ok v' w') (h : K (a.put o.dst v') w') :
    if Region.wanted o (yielded ops a.tmps) = true then Oper.wp P o a w K Q else E := by
  have hw : Region.wanted o (yielded ops a.tmps) = true := by simp [Region.wanted, hgd]
  rw [if_pos hw]
  unfold Oper.wp execOp
  simp only [ho, hx, Sem.run_bind, hr, Result.andThen_ok, Sem.run_pure]
  exact h

set_option maxHeartbeats 1000000 in
theorem pname_any (l : List Byte) (n : Nat) (w : World) (hl : Hid (l.length = n)) :
    Calls Try.prog 56 #[.string (str l)] w fun e w' => e = .returned (.bool (vna l)) ∧ Below w.heap.size w w' := by
  have hsz : (str l).size = n := by rw [str_size]; exact hl.out
  by_cases h0 : n < 1
  · rw [vna_len (by rw [hl.out]; omega)]
    obtain rfl : n = 0 := by omega
    clear h0 hl
    go_enter Try.func56, Try.ntmps56
    go_wp2
    go_ret
    exact ⟨rfl, Below.refl _ _⟩
  by_cases h1 : 64 < n
  · rw [vna_len (by rw [hl.out]; omega)]
    have t0 : decide ((n : Int) < 1) = false := decide_eq_false (by omega)
    have t1 : decide ((64 : Int) < (n : Int)) = true := decide_eq_true (by omega)
    have t2 : decide (64 < n) = true := decide_eq_true (by omega)
    clear h0 h1 hl
    go_enter Try.func56, Try.ntmps56
    go_wp2
    go_ret
    exact ⟨rfl, Below.refl _ _⟩
  have hh := hl.out
  rw [vna_mid (by omega)]
  have t0 : decide ((n : Int) < 1) = false := decide_eq_false (by omega)
  have t1 : decide ((64 : Int) < (n : Int)) = false := decide_eq_false (by omega)
  have t2 : decide (64 < n) = false := decide_eq_false (by omega)
  obtain ⟨c, W, hr, hB, hb⟩ := conv_bytes l n hl.out (by omega) w
  obtain ⟨b, off, hA, hbl, hc⟩ := hB.bs (by omega)
  injection hA with hA
  injection hA with e1 e2
  subst e1 e2
  clear hh hB hbl
  obtain ⟨E, hE⟩ : ∃ E, E = l.all vch := ⟨_, rfl⟩
  rw [← hE]
  have HE := Lib.hid hE
  have HB := Lib.hid hb
  have HC := Lib.hid hc
  clear hE hb hc h0
  go_enter Try.func56, Try.ntmps56
  go_wp2
  go_loop [4, 16] (fun _ i => ∃ k : Nat, k ≤ n ∧ i = .int .i64 k ∧ Hid ((l.take k).all vch = true)) (fun _ i => n - (intOf i).toNat)
  case atStart => exact ⟨0, Nat.zero_le _, rfl, Lib.hid (by simp)⟩
  case round =>
    obtain ⟨k, hk, rfl, hz⟩ := hrel
    by_cases hlt : k < n
    · obtain ⟨x, hx⟩ : ∃ x, l[k]? = some x := ⟨_, List.getElem?_eq_getElem (by rw [hl.out]; exact hlt)⟩
      have hi := HC.out k x hx
      rw [Nat.zero_add] at hi
      by_cases c0 : x.toNat < 33
      · have HF := Lib.hid (all_no hx (vch_lo c0))
        have q0 : decide ((x.toNat : Int) < 33) = true := decide_eq_true (by omega)
        clear hz hx c0
        go_wp2
        go_ret
        exact ⟨ret_bool (by rw [HE.out, HF.out]), HB.out⟩
      by_cases c1 : 126 < x.toNat
      · have HF := Lib.hid (all_no hx (vch_hi c1))
        have q0 : decide ((x.toNat : Int) < 33) = false := decide_eq_false (by omega)
        have q1 : decide ((126 : Int) < (x.toNat : Int)) = true := decide_eq_true (by omega)
        have q2 : decide (126 < x.toNat) = true := decide_eq_true (by omega)
        clear hz hx c0 c1
        go_wp2
        go_ret
        exact ⟨ret_bool (by rw [HE.out, HF.out]), HB.out⟩
      have HS := Lib.hid (show (l.take (k + 1)).all vch = true by rw [all_step hx, hz.out, vch_in (by omega) (by omega)]; rfl)
      have q0 : decide ((x.toNat : Int) < 33) = false := decide_eq_false (by omega)
      have q1 : decide ((126 : Int) < (x.toNat : Int)) = false := decide_eq_false (by omega)
      have q2 : decide (126 < x.toNat) = false := decide_eq_false (by omega)
      clear hz hx c0 c1
      go_wp2
      go_round
      case rel => exact ⟨k + 1, by omega, by go_num, HS⟩
      case measure => simp [intOf]; omega
    · have HF := Lib.hid (show l.all vch = true by have := hz.out; rwa [List.take_of_length_le (by rw [hl.out]; omega)] at this)
      clear hz
      go_wp2
      go_ret
      exact ⟨ret_bool (by rw [HE.out, HF.out]), HB.out⟩
end Go.Proofs.Ytaaikmncdgfkmaa.Pdu
