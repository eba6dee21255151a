/-
  The laws of layer 22: MuxShares, walked.
-/
import Derived.Test.YtpfhbojodapomaaLaw22c
namespace Go.Proofs.Ytpfhbojodapomaa.Mux
open Go.RowKit Go.Proofs.Ytpfhbojodapomaa.Row Ints

/-- rounds of all weights: the calls of the law -/
theorem prod_in {S m : Int} (h0 : 0 ≤ S) (h1 : S ≤ 160) (m1 : 1 ≤ m) (m3 : m ≤ 3) : 0 ≤ S * m ∧ S * m ≤ 480 := by
  rcases (by omega : m = 1 ∨ m = 2 ∨ m = 3) with rfl | rfl | rfl <;> omega
set_option maxRecDepth 100000 in
set_option maxHeartbeats 8000000 in
theorem muxShares_walk (l : List Ch) (m : Int) (w : World) (A : Option Addr) (n c : Nat) (hln : l.length = n) (hr : Rs encA 3 w w.heap.size A l) (hl : n ≤ maxLen) :
    Calls Try.prog 5 #[.slice A n c, .int .i64 m] w fun e w' => e = .returned (.bool true) ∧ Below w.heap.size w w' := by
  have hlv := fun W => alive_any W
  have hmx : n ≤ 9223372036854775807 := by unfold maxLen at hl; omega
  by_cases h8 : 8 < n
  · have t0 : decide ((8 : Int) < (n : Int)) = true := decide_eq_true (by omega)
    have t1 : decide (8 < n) = true := decide_eq_true h8
    clear hr hln
    go_enter Try.func5, Try.ntmps5
    go_wp2_with (go_at_call 7; refine (hlv _).mono ?_; rintro e w1 ⟨rfl, hb1⟩)
    go_ret
    exact ⟨rfl, hb1⟩
  have t0 : decide ((8 : Int) < (n : Int)) = false := decide_eq_false (by omega)
  have t1 : decide (8 < n) = false := decide_eq_false h8
  by_cases h0 : n = 0
  · have t2 : ((n : Int) == 0) = true := by simpa using h0
    have t3 : (n == 0) = true := by simpa using h0
    clear hr hln h0
    go_enter Try.func5, Try.ntmps5
    go_wp2_with (go_at_call 7; refine (hlv _).mono ?_; rintro e w1 ⟨rfl, hb1⟩)
    go_ret
    exact ⟨rfl, hb1⟩
  have t2 : ((n : Int) == 0) = false := by simpa using h0
  have t3 : (n == 0) = false := by simpa using h0
  by_cases hm1 : m < 1
  · clear hr hln h0
    go_enter Try.func5, Try.ntmps5
    go_wp2_with (go_at_call 7; refine (hlv _).mono ?_; rintro e w1 ⟨rfl, hb1⟩)
    go_ret
    exact ⟨rfl, hb1⟩
  have m1 : 1 ≤ m := by omega
  clear hm1
  by_cases hm3 : 3 < m
  · have t4 : decide (3 < m) = true := decide_eq_true hm3
    clear hr hln h0
    go_enter Try.func5, Try.ntmps5
    go_wp2_with (go_at_call 7; refine (hlv _).mono ?_; rintro e w1 ⟨rfl, hb1⟩)
    go_ret
    exact ⟨rfl, hb1⟩
  have m3 : m ≤ 3 := by omega
  have t4 : decide (3 < m) = false := decide_eq_false hm3
  have n8 : n ≤ 8 := by omega
  have n1 : 1 ≤ n := by omega
  have HL := Lib.hid hln
  have bw : Below w.heap.size w w := Below.refl _ _
  clear hm3 h8 h0 hln hl
  go_enter Try.func5, Try.ntmps5
  go_wp2_with fail
  go_loopw [5, 6, 7, 8, 9] (fun s i sm k' _ wr => ∃ (k : Nat) (S : Int), k' = .int .i64 k ∧ sm = .int .i64 S ∧ k ≤ n ∧ Row.Os encA 3 wr w.heap.size 42 s (shL (l.take k)) ∧ Row.Os encI 1 wr w.heap.size 3 i (ids (shL (l.take k))) ∧ Hid (S = sumW (shL (l.take k))) ∧ Below w.heap.size w wr) (fun _ _ _ k' _ _ => n - (intOf k').toNat)
  case atStart => exact ⟨0, 0, rfl, rfl, Nat.zero_le _, Row.Os.nil_ _ _ _, Row.Os.nil_ _ _ _, Lib.hid rfl, bw⟩
  case round =>
    obtain ⟨k, S, rfl, rfl, hk, os, oi, hS, hb⟩ := hrel
    have hsz := hb.size
    have hks : (shL (l.take k)).length = k := by rw [shL_len, List.length_take, HL.out]; omega
    obtain ⟨A5, c5, rfl, _⟩ := os.reads_len encA_ok hks
    obtain ⟨A6, c6, rfl, _⟩ := oi.reads_len encI_ok (n := k) (by simpa [ids] using hks)
    have hSin : 0 ≤ S ∧ S ≤ 160 := by
      have h1 := sumW_in (b := 20) (L := shL (l.take k)) fun x hx => by
        obtain ⟨i, hi, rfl⟩ := shL_mem hx
        exact wq_in _
      rw [hks, ← hS.out] at h1
      omega
    by_cases hlt : k < n
    · have hkl : k < l.length := by rw [HL.out]; exact hlt
      obtain ⟨b, off, rfl, _, _, _, d2⟩ := a_at (hr.below hb) hkl
      have htk : Hid (shL (l.take k) ++ [⟨(k : Int), 2, wq l[k].wt, 0, 0⟩] = shL (l.take (k + 1))) := Lib.hid (shL_take hkl).symm
      obtain ⟨x, hx⟩ : ∃ x, x = l[k].wt := ⟨_, rfl⟩
      rw [← hx] at d2 htk
      clear hx
      have ra := tmod_in x
      obtain ⟨r1, hr1⟩ : ∃ r1, x.tmod 20 = r1 := ⟨_, rfl⟩
      rw [hr1] at ra
      obtain ⟨q1, hq1⟩ : ∃ q1, q1 = r1 + 20 := ⟨_, rfl⟩
      have rb := tmod_pos (x := q1) (by omega)
      obtain ⟨r2, hr2⟩ : ∃ r2, q1.tmod 20 = r2 := ⟨_, rfl⟩
      rw [hr2] at rb
      obtain ⟨W, hW⟩ : ∃ W, W = 1 + r2 := ⟨_, rfl⟩
      have hwq : wq x = W := by unfold wq; rw [hr1, ← hq1, hr2, ← hW]
      rw [hwq] at htk
      have u1 : wrap64 (r1 + 20) = q1 := by unfold wrap64; omega
      have u2 : IntKind.i64.wrap (r1 + 20) = q1 := by rw [IntKind.wrap_i64]; omega
      have u3 : wrap64 (1 + r2) = W := by unfold wrap64; omega
      have u4 : IntKind.i64.wrap (1 + r2) = W := by rw [IntKind.wrap_i64]; omega
      obtain ⟨U, hU⟩ : ∃ U, U = S + W := ⟨_, rfl⟩
      have u5 : wrap64 (S + W) = U := by unfold wrap64; omega
      have u6 : IntKind.i64.wrap (S + W) = U := by rw [IntKind.wrap_i64]; omega
      have hU2 : Hid (U = sumW (shL (l.take (k + 1)))) := Lib.hid (by rw [← htk.out, sumW_snoc, ← hS.out]; exact hU)
      have hW20 : 1 ≤ W ∧ W ≤ 20 := by omega
      clear hq1 hW hU hwq hS hr hSin
      have hids : Hid (ids (shL (l.take k)) ++ [(k : Int)] = ids (shL (l.take (k + 1)))) := Lib.hid (by rw [← htk.out]; simp [ids])
      have hks1 : (shL (l.take (k + 1))).length = k + 1 := by rw [shL_len, List.length_take, HL.out]; omega
      obtain ⟨o, ho⟩ : ∃ o : Obj, o = .cells #[I (k : Int), I 2, I W] 42 := ⟨_, rfl⟩
      have os1 := (os.alloc o).alloc o
      have oi1 := (oi.alloc o).alloc o
      have hb1 := (hb.alloc hsz o).alloc (hb.alloc hsz o).size o
      have hsz1 := hb1.size
      have rs1 : Rs encA 3 ((wr.alloc o).alloc o) (wr.heap.size + 2) (some ⟨wr.heap.size + 1, 0, none⟩) [⟨(k : Int), 2, W, 0, 0⟩] := by
        rw [ho]
        have := Rs_new1 encA_ok (wr.alloc (.cells #[I (k : Int), I 2, I W] 42)) 42 ⟨(k : Int), 2, W, 0, 0⟩ #[I (k : Int), I 2, I W] rfl
        simpa using this
      have hcc : Cel ((wr.alloc o).alloc o) wr.heap.size 42 #[I (k : Int), I 2, I W] := by
        have h1 : Cel (wr.alloc o) wr.heap.size 42 #[I (k : Int), I 2, I W] := by rw [ho]; exact Cel.new _ _ _
        exact h1.only (Only.of_below (S := []) (bel_new _ _)) (by simp)
      have hccn : wr.heap.size ∉ (Value.ownBlock (.slice A5 k c5)).toList := fun hm => by
        have := (os.lt wr.heap.size (by simpa using hm)).2
        omega
      have hm1 : (shL (l.take k)).length + 1 ≤ 34359738368 := by rw [hks]; omega
      have hm2 : (ids (shL (l.take k))).length + 1 ≤ 34359738368 := by
        have h1 : (ids (shL (l.take k))).length = k := by simpa [ids] using hks
        rw [h1]; omega
      subst ho
      clear os oi hb
      go_wp2_with (first
        | (at_builtin; refine wpList_row _ encA_ok is_apis (by decide) rfl (.tmp 48) (.tmp 50) rfl (v := Value.slice A5 k c5) rfl os1 (l := [⟨(k : Int), 2, W, 0, 0⟩]) (n := 1) rfl rfl rs1 (by simp) hm1 hsz1 ?_; intro v7 w7 ho7 hg7 hb7; have hk7 := Only.of_grown hg7; have oi7 := oi1.only hk7 (fun i hi hm => os_ne oi1 os1 (by decide) i (by simpa using hm) hi); have hb7b := hb1.grown hg7 hsz1 (fun i hi => os1.base_le i hi); have hsz7 := hb7b.size; have e7 : w7.cell? ⟨wr.heap.size, 2, none⟩ = some (I W) := (hcc.only hk7 hccn).cell 2; have hlt7 := (hcc.only hk7 hccn).lt; rw [htk.out] at ho7; obtain ⟨A7, c7, rfl, _⟩ := ho7.reads_len encA_ok hks1; have oi8 := oi7.alloc (.cells #[I (k : Int)] 3); have os8 := ho7.alloc (.cells #[I (k : Int)] 3); have hb8 := hb7b.alloc hsz7 (.cells #[I (k : Int)] 3); have hsz8 := hb8.size; have rs8 := Rs_new1 encI_ok w7 3 (k : Int) #[I (k : Int)] rfl; have c8 := (hcc.only hk7 hccn).only (Only.of_below (S := []) (bel_new w7 (.cells #[I (k : Int)] 3))) (by simp))
        | (at_builtin; refine wpList_row _ encI_ok is_ints1 (by decide) rfl (.tmp 52) (.tmp 54) rfl (v := Value.slice A6 k c6) rfl oi8 (l := [(k : Int)]) (n := 1) rfl rfl rs8 (by simp) hm2 hsz8 ?_; intro v9 w9 ho9 hg9 hb9; have hk9 := Only.of_grown hg9; have os9 := os8.only hk9 (fun i hi hm => os_ne os8 oi8 (by decide) i (by simpa using hm) hi); have hb9b := hb8.grown hg9 hsz8 (fun i hi => oi8.base_le i hi); have e9 : w9.cell? ⟨wr.heap.size, 2, none⟩ = some (I W) := (c8.only hk9 (fun hm => Row.Os.apart oi8 c8 (by decide) (by simpa using hm))).cell 2; rw [hids.out] at ho9; obtain ⟨A9, c9, rfl, _⟩ := ho9.reads_len encI_ok (n := k + 1) (by simpa [ids] using hks1)))
      go_roundw
      case rel => exact ⟨k + 1, U, by simp, rfl, hlt, os9, ho9, hU2, hb9b⟩
      case measure => simp [intOf]; omega
    · obtain rfl : k = n := by omega
      obtain ⟨V0, hV0⟩ : ∃ V0, V0 = wr := ⟨_, rfl⟩
      subst hV0
      have htk : l.take k = l := by rw [← HL.out, List.take_length]
      rw [htk] at os oi hks hS
      have hl8 : l.length ≤ 8 := by rw [HL.out]; omega
      have hlne : l ≠ [] := fun e => by
        have h1 := HL.out
        rw [e] at h1
        simp at h1
        omega
      have rs0 := os.rs encA_ok
      have ns0 := ns_of (oi.rs encI_ok)
      have hil : (ids (shL l)).length = k := by simpa [ids] using hks
      have hz0 := sh_zero hlne hl8
      have x1 := new_ok (shL l) V0 A5 k c5 hks rs0 (by omega) (Lib.hid (shL_zero l)) (chk_of_good (s := []) (by simpa using hz0.2.2.2))
      have HZ := Lib.hid hz0
      have HI := Lib.hid hil
      obtain ⟨P, hP⟩ : ∃ P, P = S * m := ⟨_, rfl⟩
      have hPi := prod_in hSin.1 hSin.2 m1 m3
      rw [← hP] at hPi
      have u1 : wrap64 (S * m) = P := by rw [← hP]; unfold wrap64; omega
      have u2 : IntKind.i64.wrap (S * m) = P := by rw [← hP, IntKind.wrap_i64]; omega
      have HP : Hid (P = sumW (shL l) * m) := Lib.hid (by rw [← hS.out]; exact hP)
      clear hP hlt htk hlne hil hz0 os oi hS hr
      go_wp2_with fail
      refine x1.mono ?_
      rintro e w2 ⟨g, r, rfl, p2⟩
      clear x1
      go_wp2_with fail
      go_loopw [12] (fun i w' => ∃ (t : Nat) (R : List Ch), i = .int .i64 t ∧ (t : Int) ≤ P ∧ PM V0 w' V0.heap.size g r R t ∧ Hid (Sh l t R)) (fun i _ => P.toNat - (intOf i).toNat)
      case atStart => exact ⟨0, shL l, rfl, by omega, p2, HZ⟩
      case round =>
        obtain ⟨t, R, rfl, htP, p3, hsh⟩ := hrel
        have b3 := p3.b
        have s3 := p3.s
        by_cases htl : (t : Int) < P
        · rcases hX : nxf (ids (shL l)) R with ⟨res, R'⟩
          have x3 := p3.next (ids (shL l)) A6 k c6 HI.out ((ns0.below b3).more s3) (by omega) (by omega) hX
          have hsh2 := Lib.hid (sh_next hsh.out hX)
          clear hX hsh
          go_wp2_with fail
          refine x3.mono ?_
          rintro e w4 ⟨rfl, p4, _⟩
          go_wp2_with fail
          go_roundw
          case rel => exact ⟨t + 1, R', by simp, by omega, p4, hsh2⟩
          case measure => simp [intOf]; omega
        · have htP2 : (t : Int) = P := by omega
          have hend := Lib.hid (fun (i : Nat) (hi : i < l.length) => sh_end (m := m) hsh.out (by rw [htP2]; exact HP.out) hi)
          have hb3 := hb.trans (b3.mono hsz)
          obtain ⟨V1, hV1⟩ : ∃ V1, V1 = wr := ⟨_, rfl⟩
          subst hV1
          have t5 : decide ((t : Int) < P) = false := decide_eq_false htl
          clear htP2 hsh htl
          go_wp2_with fail
          go_loopw [13] (fun i w' => ∃ j : Nat, i = .int .i64 j ∧ j ≤ k ∧ Below V1.heap.size V1 w') (fun i _ => k - (intOf i).toNat)
          case atStart => exact ⟨0, rfl, Nat.zero_le _, Below.refl _ _⟩
          case round =>
            obtain ⟨j, rfl, hj, hb4⟩ := hrel
            have p5 := p3.below hb4
            by_cases hjk : j < k
            · have hjl : j < l.length := by rw [HL.out]; exact hjk
              have hjs : j < (shL l).length := by rw [shL_len]; exact hjl
              have hsn := hend.out j hjl
              obtain ⟨b5, off5, rfl, hbb, _, _, e2⟩ := a_at (rs0.below p5.b) hjs
              rw [shL_get hjl hjs] at e2
              dsimp only at e2
              have hwq := wq_in l[j].wt
              generalize wq l[j].wt = W at e2 hsn hwq
              obtain ⟨Z, hZ⟩ : ∃ Z, Z = W * m := ⟨_, rfl⟩
              have hZi := prod_in (S := W) (by omega) (by omega) m1 m3
              rw [← hZ] at hsn hZi
              have u3 : wrap64 (W * m) = Z := by rw [← hZ]; unfold wrap64; omega
              have u4 : IntKind.i64.wrap (W * m) = Z := by rw [← hZ, IntKind.wrap_i64]; omega
              have hzz : (Z != Z) = false := by simp
              have hcon := fun (q : Later wr) => (p5.below q.h).sent j hsn
              have e3 : ∀ q : Later wr, q.W.cell? ⟨b5, off5 + j * 3 + 2, none⟩ = some (I W) := later_cell e2 (by have := p5.s; omega)
              clear hZ hwq hend e2 rs0 hsn
              go_wp2_with fail
              refine wp_region_later (by kernel_rfl) (by kernel_rfl) ?_
              repeat (go_big_quiet_step ((go_at_call 11; exact later_of (hcon _))))
              refine wpQuiet_nil ?_
              rintro _ ⟨⟨w5, hb5⟩, rfl⟩
              go_wp2_with fail
              go_roundw
              case rel => exact ⟨j + 1, by simp, hjk, hb4.trans (hb5.mono hb4.size)⟩
              case measure => simp [intOf]; omega
            · obtain rfl : j = k := by omega
              clear hend
              go_wp2_with fail
              refine (hlv _).mono ?_
              rintro e w5 ⟨rfl, hb5⟩
              go_wp2_with fail
              go_ret
              have h6 := hb3.trans (hb4.mono (Nat.le_trans hsz s3))
              exact ⟨rfl, h6.trans (hb5.mono h6.size)⟩
end Go.Proofs.Ytpfhbojodapomaa.Mux
