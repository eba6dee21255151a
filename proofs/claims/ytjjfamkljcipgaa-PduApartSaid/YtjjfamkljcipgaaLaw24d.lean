/-
  Chapter 24's law PduApart.
-/
import Derived.Test.YtjjfamkljcipgaaLaw24b
namespace Go.Proofs.Ytjjfamkljcipgaa.Pdu
open Go.RowKit Go.Proofs.Ytjjfamkljcipgaa.Row

theorem make_bytes (N : Nat) (hN : N ≤ 1000000) (w : World) :
    (Instr.makeSlice 24 (.int .i64 0) (.int .i64 (N : Int))).run Try.prog w = .ok (.slice (some ⟨w.heap.size, 0, none⟩) 0 N) (w.alloc (.cells (madeCells #[.int .u8 0] N) 5)) := by
  obtain ⟨ht, _, i, hi, hz, hs, hb⟩ := is_bytes
  have hr := run_make (P := Try.prog) w 24 5 i (.int .u8 0) ht hi hz .i64 .i64 0 N (Int.le_refl _) (by omega) (by rw [hb]; omega) (by omega)
  simp only [Int.toNat_natCast, hs, Nat.mul_one, Int.toNat_zero] at hr
  exact hr
theorem Ow_made (w : World) (base N : Nat) (hb : base ≤ w.heap.size) (hN : N ≤ 1000000) : Ow (w.alloc (.cells (madeCells #[.int .u8 0] N) 5)) base 5 (.slice (some ⟨w.heap.size, 0, none⟩) 0 N) [] :=
  World.ownsRow_made w _ N hb (by simp only [maxLen]; omega) (by rw [size_madeCells]; simp)
/-- whether the law looks at the two at all -/
def lks (p : Pd) (k : Nat) : Prop := sml p ∧ 1 ≤ k ∧ k ≤ 1000
set_option maxRecDepth 100000 in
set_option maxHeartbeats 8000000 in
theorem apart_any (kd sr nm cl : Int) (na : List Byte) (sz of : Int) (da : List Byte) (su : Nat) (co : Int) (ga : List R) (A : Option Addr) (n a : Nat) (G : Option Addr) (m c : Nat) (B : Option Addr) (l : List Byte) (k d : Nat) (w : World) (h : Px w ⟨kd, sr, nm, cl, na, sz, of, da, su, co, ga⟩ A n a G m c) (hl : Bx w B l k d) :
    Calls Try.prog 7 #[.agg #[I kd, I sr, I nm, I cl, .string (str na), I sz, I of, .slice A n a, .int .u32 (su : Int), I co, .slice G m c], .slice B k d] w fun e w' => e = .returned (.bool true) ∧ Below w.heap.size w w' := by
  have b1 := bel_new w (.cells #[I kd, I sr, I nm, I cl, .string (str na), I sz, I of, .slice A n a, .int .u32 (su : Int), I co, .slice G m c] 29)
  have hC1 := Cel.new w 29 #[I kd, I sr, I nm, I cl, .string (str na), I sz, I of, .slice A n a, .int .u32 (su : Int), I co, .slice G m c]
  have h1 := h.later b1
  by_cases hs : sml ⟨kd, sr, nm, cl, na, sz, of, da, su, co, ga⟩
  case neg =>
    have hsm := small_no kd sr nm cl na sz of da su co ga A n a G m c _ h1 hs
    clear h hs h1 hC1 hl
    go_enter Try.func7, Try.ntmps7
    go_wp2_with fail
    refine hsm.mono ?_
    rintro e w2 ⟨rfl, hb2⟩
    clear hsm
    go_wp2_with fail
    refine (lives_any w2).mono ?_
    rintro e w3 ⟨rfl, hb3⟩
    go_wp2
    go_ret
    have b2 := b1.trans (hb2.mono b1.size)
    exact ⟨rfl, b2.trans (hb3.mono b2.size)⟩
  have hsm := small_yes kd sr nm cl na sz of da su co ga A n a G m c _ h1 hs
  by_cases hk0 : k = 0
  · subst hk0
    clear h hs h1 hC1 hl
    go_enter Try.func7, Try.ntmps7
    go_wp2_with fail
    refine hsm.mono ?_
    rintro e w2 ⟨rfl, hb2⟩
    clear hsm
    go_wp2_with fail
    refine (lives_any w2).mono ?_
    rintro e w3 ⟨rfl, hb3⟩
    go_wp2
    go_ret
    have b2 := b1.trans (hb2.mono b1.size)
    exact ⟨rfl, b2.trans (hb3.mono b2.size)⟩
  have t1 : ((k : Int) == 0) = false := by simp; omega
  have t1' : (k == 0) = false := by simp; omega
  by_cases hk1 : 1000 < k
  · have t2 : decide ((1000 : Int) < (k : Int)) = true := decide_eq_true (by omega)
    have t2' : decide (1000 < k) = true := decide_eq_true (by omega)
    clear h hs h1 hC1 hl hk0 hk1
    go_enter Try.func7, Try.ntmps7
    go_wp2_with fail
    refine hsm.mono ?_
    rintro e w2 ⟨rfl, hb2⟩
    clear hsm
    go_wp2_with fail
    refine (lives_any w2).mono ?_
    rintro e w3 ⟨rfl, hb3⟩
    go_wp2
    go_ret
    have b2 := b1.trans (hb2.mono b1.size)
    exact ⟨rfl, b2.trans (hb3.mono b2.size)⟩
  have t2 : decide ((1000 : Int) < (k : Int)) = false := decide_eq_false (by omega)
  have t2' : decide (1000 < k) = false := decide_eq_false (by omega)
  have HS := Lib.hid hs
  have HK := Lib.hid (show 1 ≤ k ∧ k ≤ 1000 by omega)
  have hsu := h.s
  simp only at hsu
  clear h hs hk0 hk1
  go_enter Try.func7, Try.ntmps7
  go_wp2_with fail
  refine hsm.mono ?_
  rintro e w2 ⟨rfl, hb2⟩
  have b2 := b1.trans (hb2.mono b1.size)
  have hC2 := Cel.on hC1 hb2
  have h2 := h1.later hb2
  clear hsm b1 hC1 h1 hb2
  have hen := pencode_any kd sr nm cl na sz of da su co ga A n a G m c w2 h2
  have c0 := hC2.cell 0
  have c1 := hC2.cell 1
  have c2 := hC2.cell 2
  have c3 := hC2.cell 3
  have c4 := hC2.cell 4
  have c5 := hC2.cell 5
  have c6 := hC2.cell 6
  have c7 := hC2.cell 7
  have c8 := hC2.cell 8
  have c9 := hC2.cell 9
  have c10 := hC2.cell 10
  simp only [List.getElem?_toArray, List.getElem?_cons_zero, List.getElem?_cons_succ] at c0 c1 c2 c3 c4 c5 c6 c7 c8 c9 c10
  cases hok : ok ⟨kd, sr, nm, cl, na, sz, of, da, su, co, ga⟩ with
  | false =>
    obtain ⟨q1, q2⟩ := en_no hok
    rw [q1, q2] at hen
    clear q1 q2
    go_wp2_with fail
    refine hen.mono ?_
    rintro e w3 ⟨⟨A2, n2, a2, rfl, hB⟩, hb3⟩
    have b3 := b2.trans (hb3.mono b2.size)
    clear hen c0 c1 c2 c3 c4 c5 c6 c7 c8 c9 c10 b2 hC2 h2 hb3 hB hok hl
    go_wp2_with fail
    refine (lives_any w3).mono ?_
    rintro e w5 ⟨rfl, hb5⟩
    go_wp2
    go_ret
    exact ⟨rfl, b3.trans (hb5.mono b3.size)⟩
  | true =>
    obtain ⟨q1, q2⟩ := en_yes hok
    rw [q1, q2] at hen
    clear q1 q2
    go_wp2_with fail
    refine hen.mono ?_
    rintro e w3 ⟨⟨A2, n2, a2, rfl, hB⟩, hb3⟩
    have b3 := b2.trans (hb3.mono b2.size)
    have hle := enc_len hok HS.out
    have hnl := hB.1.len
    have hll := hl.len
    have hk := HK.out
    have hne : l ≠ [] := by intro e; rw [e] at hll; simp at hll; omega
    have hmore := de_more (r := l) hok hsu hne
    obtain ⟨E, hE⟩ : ∃ E, E = enc ⟨kd, sr, nm, cl, na, sz, of, da, su, co, ga⟩ := ⟨_, rfl⟩
    rw [← hE] at hB hnl hle hmore
    have hl3 := hl.later b3
    clear hen c0 c1 c2 c3 c4 c5 c6 c7 c8 c9 c10 b2 hC2 h2 hb3 hok hE hne hl
    obtain ⟨S, hS⟩ : ∃ S, S = n2 + k := ⟨_, rfl⟩
    have hSi : (n2 : Int) + (k : Int) = (S : Int) := by omega
    have hS2 : S ≤ 7000 := by omega
    have mk := fun W => make_bytes S (by omega) W
    have ow4 := Ow_made w3 w3.heap.size S (Nat.le_refl _) (by omega)
    have hB4 := hB.1.later (bel_new w3 (.cells (madeCells #[.int .u8 0] S) 5))
    have HN := Lib.hid hnl
    have HL := Lib.hid hll
    have HSS := Lib.hid hS
    have HLE := Lib.hid hle
    have hb34 := bel_new w3 (.cells (madeCells #[.int .u8 0] S) 5)
    clear hB hS hnl hll
    go_wp2_with (first
      | (at_builtin; refine wpList_app _ is_bytes rfl (.tmp 38) (.tmp 39) rfl (v := .slice (some ⟨w3.heap.size, 0, none⟩) 0 S) (m := []) rfl ow4 (l := E) (c := a2) (by rw [HN.out]; rfl) hB4.bs hB4.nil (by rw [HN.out]; simp; omega) hb34.size ?_; intro v5 w5 own5 gr5; rw [List.nil_append] at own5; have hb5 := hb34.grown gr5 hb34.size ow4.base_le; have hl5 := hl3.later hb5)
      | (at_builtin; refine wpList_app _ is_bytes rfl (.tmp 41) (.tmp 42) rfl (v := v5) (m := E) rfl own5 (l := l) (c := d) (by rw [HL.out]; rfl) hl5.bs hl5.nil (by rw [HN.out, HL.out]; omega) hb5.size ?_; intro v6 w6 own6 gr6; have hb6 := hb5.grown gr6 hb5.size own5.base_le; obtain ⟨A6, c6, rfl, hB6⟩ := Bx.of own6 (n := S) (by rw [List.length_append, HN.out, HL.out, HSS.out])))
    have hde := pdec_any A6 (E ++ l) S c6 w6 hB6 (by omega)
    rw [hmore] at hde
    obtain ⟨Z, hZ⟩ : ∃ Z, Z = deP (E ++ l) := ⟨_, rfl⟩
    rw [← hZ] at hde
    clear hZ hmore
    obtain ⟨z0, z1, z2, z3, z4, z5, z6, z7, z8, z9, z10⟩ := Z
    unfold DO at hde
    simp only at hde
    have b6 := b3.trans (hb6.mono b3.size)
    clear own5 own6 gr5 gr6 hb5 hb6 hl5 hB6 ow4 hB4 hb34 hl3 b3
    refine hde.mono ?_
    rintro e w7 ⟨⟨A4, n4, a4, G4, m4, c4, rfl, py4⟩, hb7⟩
    clear hde py4
    have b7 := b6.trans (hb7.mono b6.size)
    have b8 := b7.alloc b7.size (.cells #[I z0, I z1, I z2, I z3, .string (str z4), I z5, I z6, .slice A4 n4 a4, .int .u32 (z8 : Int), I z9, .slice G4 m4 c4] 29)
    clear b6 hb7 b7
    go_wp2_with fail
    refine (lives_any _).mono ?_
    rintro e w9 ⟨rfl, hb9⟩
    go_wp2
    go_ret
    exact ⟨rfl, b8.trans (hb9.mono b8.size)⟩
end Go.Proofs.Ytjjfamkljcipgaa.Pdu
