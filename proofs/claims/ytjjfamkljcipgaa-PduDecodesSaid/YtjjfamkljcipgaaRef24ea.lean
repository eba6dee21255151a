/-
  The reference of layer 24: Encode, what is not valid.
  The reference of layer 24: Encode, kind 1.
  The reference of layer 24: Encode, kind 2.
  The reference of layer 24: Encode, kind 3.
-/
import Derived.Test.YtjjfamkljcipgaaRef24v
import Derived.Test.YtjjfamkljcipgaaRef03a
import Derived.Test.YtjjfamkljcipgaaPduW5
namespace Go.Proofs.Ytjjfamkljcipgaa.Pdu
open Go.RowKit Go.Proofs.Ytjjfamkljcipgaa.Row

theorem Ow_cells (w : World) (base : Nat) (l : List Byte) (n : Nat) (C : Array Value) (hn : l.length = n) (hC : C = (l.map B8).toArray) (h : base ≤ w.heap.size) (hm : n ≤ maxLen) : Ow (w.alloc (.cells C 5)) base 5 (.slice (some ⟨w.heap.size, 0, none⟩) n n) l := by
  subst hn
  exact ⟨by simp, .inr ⟨w.heap.size, l.length, C, rfl, h, heap_alloc_new w _, Nat.le_refl _, hm, by rw [hC]; simp, by rw [hC]; simp [← List.map_take]⟩⟩
theorem be_one {X : Nat} : be X 1 = [BitVec.ofNat 8 X] := by simp [be]
theorem b8_of {X : Nat} (h : X < 256) : (X : Int) = ((BitVec.ofNat 8 X).toNat : Int) := by rw [toNat8 X h]
theorem be_two {X : Nat} : be X 2 = [BitVec.ofNat 8 (X / 256), BitVec.ofNat 8 (X % 256)] := by
  have e : BitVec.ofNat 8 X = BitVec.ofNat 8 (X % 256) := by
    apply BitVec.eq_of_toNat_eq
    rw [BitVec.toNat_ofNat, BitVec.toNat_ofNat, show (2 : Nat) ^ 8 = 256 from rfl, Nat.mod_mod]
  simp only [be, Nat.pow_one, Nat.pow_zero, Nat.div_one]
  rw [e]
theorem encU_four {X : Nat} : encU X 4 = be X 4 := rfl
theorem hd_cells {K S M : Nat} {k : Int} (hk : k = (K : Int) ∧ K < 256) (hS : S < 256) (hM : M < 65536) : #[Value.int .u8 k, .int .u8 (S : Int), .int .u8 ((M : Int) / 256), .int .u8 ((M : Int) % 256)] = ([BitVec.ofNat 8 K, BitVec.ofNat 8 S, BitVec.ofNat 8 (M / 256), BitVec.ofNat 8 (M % 256)].map B8).toArray := by
  obtain ⟨rfl, hK⟩ := hk
  have e1 : (M : Int) / 256 = ((M / 256 : Nat) : Int) := by omega
  have e2 : (M : Int) % 256 = ((M % 256 : Nat) : Int) := by omega
  rw [e1, e2, b8_of hK, b8_of hS, b8_of (show M / 256 < 256 by omega), b8_of (show M % 256 < 256 by omega)]
  rfl
/-- what has been appended so far: an own slice of bytes, made behind w0 -/
def EW (w0 : World) (v : Value) (L : List Byte) (w : World) : Prop := Ow w w0.heap.size 5 v L ∧ Below w0.heap.size w0 w
section
variable {w0 w w' : World} {v v' : Value} {L l : List Byte}
theorem EW.form (h : EW w0 v L w) {n : Nat} (hn : L.length = n) : ∃ A c, v = .slice A n c := by
  obtain ⟨A, c, e, _⟩ := h.1.reads_len hn
  exact ⟨A, c, e⟩
theorem EW.bel (h : EW w0 v L w) : Below w0.heap.size w0 w := h.2
theorem EW.on (h : EW w0 v L w) (hb : Below w.heap.size w w') : EW w0 v L w' := ⟨h.1.below hb, h.2.trans (hb.mono h.2.size)⟩
theorem EW.app (h : EW w0 v L w) (hown : Ow w' w0.heap.size 5 v' (L ++ l)) (hg : w.grownBy w' v.ownBlock) : EW w0 v' (L ++ l) w' := ⟨hown, h.2.grown hg h.2.size h.1.base_le⟩
theorem EW.bx (h : EW w0 v L w) : ∃ A c, v = .slice A L.length c ∧ Bx w A L L.length c := Bx.of h.1 rfl
end

set_option maxRecDepth 100000 in
set_option maxHeartbeats 4000000 in
theorem rencode_no (kd sr nm cl : Int) (na : List Byte) (sz of : Int) (da : List Byte) (su : Nat) (co : Int) (ga : List R) (A : Option Addr) (n a : Nat) (G : Option Addr) (m c : Nat) (w : World) (h : Px w ⟨kd, sr, nm, cl, na, sz, of, da, su, co, ga⟩ A n a G m c) (hok : ok ⟨kd, sr, nm, cl, na, sz, of, da, su, co, ga⟩ = false) :
    Calls Try.prog 11 #[.agg #[I kd, I sr, I nm, I cl, .string (str na), I sz, I of, .slice A n a, .int .u32 (su : Int), I co, .slice G m c]] w fun e w' => e = .returned (.tuple #[.slice none 0 0, I 1]) ∧ Below w.heap.size w w' := by
  have b0 := bel_new w (.cells #[I kd, I sr, I nm, I cl, .string (str na), I sz, I of, .slice A n a, .int .u32 (su : Int), I co, .slice G m c] 29)
  have hv := rvalid_any kd sr nm cl na sz of da su co ga A n a G m c _ (h.later b0)
  rw [hok] at hv
  clear hok h
  go_enter Try.func11, Try.ntmps11
  go_wp2_with fail
  refine hv.mono ?_
  rintro e w1 ⟨rfl, hb⟩
  go_wp2
  go_ret2
  exact ⟨rfl, b0.trans (hb.mono b0.size)⟩
end Go.Proofs.Ytjjfamkljcipgaa.Pdu
namespace Go.Proofs.Ytjjfamkljcipgaa.Pdu
open Go.RowKit Go.Proofs.Ytjjfamkljcipgaa.Row

set_option maxRecDepth 100000 in
set_option maxHeartbeats 4000000 in
theorem rencode_k1 (SR NM : Nat) (CL : Nat) (co : Int) (na : List Byte) (sz of : Int) (da : List Byte) (su : Nat) (ga : List R) (A : Option Addr) (n a : Nat) (G : Option Addr) (m c : Nat) (w : World) (h : Px w ⟨1, (SR : Int), (NM : Int), (CL : Int), na, sz, of, da, su, co, ga⟩ A n a G m c) (hok : ok ⟨1, (SR : Int), (NM : Int), (CL : Int), na, sz, of, da, su, co, ga⟩ = true) (hSR : SR ≤ 15) (hNM : NM ≤ 65535) (hCL : CL ≤ 2) (hsz : 0 ≤ sz ∧ sz ≤ 65536) (hna : na.length ≤ 64) :
    Calls Try.prog 11 #[.agg #[I 1, I (SR : Int), I (NM : Int), I (CL : Int), .string (str na), I sz, I of, .slice A n a, .int .u32 (su : Int), I co, .slice G m c]] w fun e w' => (∃ A' n' c', e = .returned (.tuple #[.slice A' n' c', I 0]) ∧ Bx w' A' (enc ⟨1, (SR : Int), (NM : Int), (CL : Int), na, sz, of, da, su, co, ga⟩) n' c') ∧ Below w.heap.size w w' := by
  obtain ⟨E, hE⟩ : ∃ E, E = enc ⟨1, (SR : Int), (NM : Int), (CL : Int), na, sz, of, da, su, co, ga⟩ := ⟨_, rfl⟩
  rw [← hE]
  have HE := Lib.hid hE
  have b0 := bel_new w (.cells #[I 1, I (SR : Int), I (NM : Int), I (CL : Int), .string (str na), I sz, I of, .slice A n a, .int .u32 (su : Int), I co, .slice G m c] 29)
  have hC0 := Cel.new w 29 #[I 1, I (SR : Int), I (NM : Int), I (CL : Int), .string (str na), I sz, I of, .slice A n a, .int .u32 (su : Int), I co, .slice G m c]
  have hv := rvalid_any 1 (SR : Int) (NM : Int) (CL : Int) na sz of da su co ga A n a G m c _ (h.later b0)
  rw [hok] at hv
  have hsu := h.s
  simp only at hsu
  have k1 : IntKind.u8.wrap (SR : Int) = (SR : Int) := by rw [IntKind.wrap_u8]; omega
  have k3 : IntKind.u8.wrap (CL : Int) = (CL : Int) := by rw [IntKind.wrap_u8]; omega
  clear hok hE
  go_enter Try.func11, Try.ntmps11
  go_wp2_with fail
  refine hv.mono ?_
  rintro e w1 ⟨rfl, hb⟩
  have b1 := b0.trans (hb.mono b0.size)
  have HP := Lib.hid (h.later b1)
  have hC1 := Cel.on hC0 hb
  have hlt := hC1.lt
  have c0 := hC1.cell 0
  have c1 := hC1.cell 1
  have c2 := hC1.cell 2
  have c3 := hC1.cell 3
  have c4 := hC1.cell 4
  have c5 := hC1.cell 5
  have c6 := hC1.cell 6
  have c7 := hC1.cell 7
  have c8 := hC1.cell 8
  have c9 := hC1.cell 9
  have c10 := hC1.cell 10
  simp only [List.getElem?_toArray, List.getElem?_cons_zero, List.getElem?_cons_succ] at c0 c1 c2 c3 c4 c5 c6 c7 c8 c9 c10
  have hH := Ow_cells w1 w1.heap.size [BitVec.ofNat 8 1, BitVec.ofNat 8 SR, BitVec.ofNat 8 (NM / 256), BitVec.ofNat 8 (NM % 256)] 4 #[.int .u8 1, .int .u8 (SR : Int), .int .u8 ((NM : Int) / 256), .int .u8 ((NM : Int) % 256)] rfl (hd_cells (by decide) (by omega) (by omega)) (Nat.le_refl _) (by decide)
  have s0 : EW w1 (.slice (some ⟨w1.heap.size, 0, none⟩) 4 4) [BitVec.ofNat 8 1, BitVec.ofNat 8 SR, BitVec.ofNat 8 (NM / 256), BitVec.ofNat 8 (NM % 256)] (w1.alloc (.cells #[.int .u8 1, .int .u8 (SR : Int), .int .u8 ((NM : Int) / 256), .int .u8 ((NM : Int) % 256)] 5)) := ⟨hH, bel_new _ _⟩
  clear hv hC0 hC1 hb b0 h hH
  obtain ⟨N, hN⟩ : ∃ N, na.length = N := ⟨_, rfl⟩
  rw [hN] at hna
  have HN := Lib.hid hN
  clear hN
  have d0 := (s0.bel.cell (p := ⟨w.heap.size, 0, none⟩) hlt).trans c0
  have d3 := (s0.bel.cell (p := ⟨w.heap.size, 3, none⟩) hlt).trans c3
  have d5 := (s0.bel.cell (p := ⟨w.heap.size, 5, none⟩) hlt).trans c5
  have d4 := (s0.bel.cell (p := ⟨w.heap.size, 4, none⟩) hlt).trans c4
  have hl0 : [BitVec.ofNat 8 1, BitVec.ofNat 8 SR, BitVec.ofNat 8 (NM / 256), BitVec.ofNat 8 (NM % 256)].length = 4 := rfl
  obtain ⟨L0, hL0⟩ : ∃ L0, L0 = [BitVec.ofNat 8 1, BitVec.ofNat 8 SR, BitVec.ofNat 8 (NM / 256), BitVec.ofNat 8 (NM % 256)] := ⟨_, rfl⟩
  rw [← hL0] at s0 hl0
  have HL0 := Lib.hid hL0
  clear hL0
  have t1 := s0.on (bel_new _ (.cells #[.int .u8 (CL : Int)] 5))
  have q1 := Bs_new1 (w1.alloc (.cells #[.int .u8 1, .int .u8 (SR : Int), .int .u8 ((NM : Int) / 256), .int .u8 ((NM : Int) % 256)] 5)) 5 (BitVec.ofNat 8 CL) (CL : Int) (b8_of (by omega))
  have hsz : (w1.alloc (.cells #[.int .u8 1, .int .u8 (SR : Int), .int .u8 ((NM : Int) / 256), .int .u8 ((NM : Int) % 256)] 5)).heap.size = w1.heap.size + 1 := by simp
  rw [hsz] at q1
  clear hsz
  go_wp2_with (at_builtin; refine wpList_app _ is_bytes rfl (.tmp 31) (.tmp 35) rfl (v := (.slice (some ⟨w1.heap.size, 0, none⟩) 4 4)) (m := L0) rfl t1.1 (l := [BitVec.ofNat 8 CL]) rfl q1 (fun h => nomatch h) (by simp; omega) t1.2.size ?_; intro v1x w1x own1 gr1; have s1 := EW.app t1 own1 gr1; have d0 := (s1.bel.cell (p := ⟨w.heap.size, 0, none⟩) hlt).trans c0; have d3 := (s1.bel.cell (p := ⟨w.heap.size, 3, none⟩) hlt).trans c3; have d5 := (s1.bel.cell (p := ⟨w.heap.size, 5, none⟩) hlt).trans c5; have d4 := (s1.bel.cell (p := ⟨w.heap.size, 4, none⟩) hlt).trans c4)
  obtain ⟨L1, hL1⟩ : ∃ L1, L1 = L0 ++ [BitVec.ofNat 8 CL] := ⟨_, rfl⟩
  rw [← hL1] at s1
  have hl1 : L1.length ≤ 50 := by
    rw [hL1, List.length_append]
    simp; omega
  have HL1 := Lib.hid hL1
  clear hL1
  refine (xint_any sz _ (by omega)).mono ?_
  rintro e wc2 ⟨vi2, rfl, oi2, bi2⟩
  obtain ⟨Ai2, Ci2, rfl, hB2⟩ := Bx.of oi2 (n := (encI sz).length) rfl
  have t2 := s1.on bi2
  go_wp2_with (at_builtin; refine wpList_app _ is_bytes rfl (.tmp 37) (.tmp 40) rfl (v := v1x) (m := L1) rfl t2.1 (l := (encI sz)) rfl hB2.bs hB2.nil (by have := encI_len (n := sz) (by omega); omega) t2.2.size ?_; intro v2x w2x own2 gr2; have s2 := EW.app t2 own2 gr2; have d0 := (s2.bel.cell (p := ⟨w.heap.size, 0, none⟩) hlt).trans c0; have d3 := (s2.bel.cell (p := ⟨w.heap.size, 3, none⟩) hlt).trans c3; have d5 := (s2.bel.cell (p := ⟨w.heap.size, 5, none⟩) hlt).trans c5; have d4 := (s2.bel.cell (p := ⟨w.heap.size, 4, none⟩) hlt).trans c4; obtain ⟨cc, W8, hrun, hrd, hb8⟩ := conv_bytes na N HN.out (by omega) w2x)
  obtain ⟨L2, hL2⟩ : ∃ L2, L2 = L1 ++ (encI sz) := ⟨_, rfl⟩
  rw [← hL2] at s2
  have hl2 : L2.length ≤ 100 := by
    rw [hL2, List.length_append]
    have := encI_len (n := sz) (by omega); omega
  have HL2 := Lib.hid hL2
  clear hL2
  refine (xblob_any _ na N cc _ (Lib.hid HN.out) hrd.bs hrd.nil (by omega)).mono ?_
  rintro e wc3 ⟨vi3, rfl, oi3, bi3⟩
  obtain ⟨Ai3, Ci3, rfl, hB3⟩ := Bx.of oi3 (n := (encB na).length) rfl
  have t3 := (s2.on hb8).on bi3
  go_wp2_with (at_builtin; refine wpList_app _ is_bytes rfl (.tmp 42) (.tmp 46) rfl (v := v2x) (m := L2) rfl t3.1 (l := (encB na)) rfl hB3.bs hB3.nil (by have := encI_len (n := (N : Int)) (by omega); have hq := HN.out; simp only [encB, List.length_append, hq]; omega) t3.2.size ?_; intro v3x w3x own3 gr3; have s3 := EW.app t3 own3 gr3; have d0 := (s3.bel.cell (p := ⟨w.heap.size, 0, none⟩) hlt).trans c0; have d3 := (s3.bel.cell (p := ⟨w.heap.size, 3, none⟩) hlt).trans c3; have d5 := (s3.bel.cell (p := ⟨w.heap.size, 5, none⟩) hlt).trans c5; have d4 := (s3.bel.cell (p := ⟨w.heap.size, 4, none⟩) hlt).trans c4)
  have hF : L2 ++ (encB na) = E := by rw [HE.out, HL2.out, HL1.out, HL0.out]; simp [enc, hd, bd, be_one, be_two]
  rw [hF] at s3
  obtain ⟨A9, C9, rfl, hB9⟩ := s3.bx
  go_ret2
  exact ⟨⟨A9, _, C9, rfl, hB9⟩, b1.trans (s3.bel.mono b1.size)⟩
end Go.Proofs.Ytjjfamkljcipgaa.Pdu
namespace Go.Proofs.Ytjjfamkljcipgaa.Pdu
open Go.RowKit Go.Proofs.Ytjjfamkljcipgaa.Row

set_option maxRecDepth 100000 in
set_option maxHeartbeats 4000000 in
theorem rencode_k2 (SR NM : Nat) (cl : Int) (co : Int) (na : List Byte) (sz of : Int) (da : List Byte) (su : Nat) (ga : List R) (A : Option Addr) (n a : Nat) (G : Option Addr) (m c : Nat) (w : World) (h : Px w ⟨2, (SR : Int), (NM : Int), cl, na, sz, of, da, su, co, ga⟩ A n a G m c) (hok : ok ⟨2, (SR : Int), (NM : Int), cl, na, sz, of, da, su, co, ga⟩ = true) (hSR : SR ≤ 15) (hNM : NM ≤ 65535) (hof : 0 ≤ of ∧ of ≤ 65536) (hn : n ≤ 512) :
    Calls Try.prog 11 #[.agg #[I 2, I (SR : Int), I (NM : Int), I cl, .string (str na), I sz, I of, .slice A n a, .int .u32 (su : Int), I co, .slice G m c]] w fun e w' => (∃ A' n' c', e = .returned (.tuple #[.slice A' n' c', I 0]) ∧ Bx w' A' (enc ⟨2, (SR : Int), (NM : Int), cl, na, sz, of, da, su, co, ga⟩) n' c') ∧ Below w.heap.size w w' := by
  obtain ⟨E, hE⟩ : ∃ E, E = enc ⟨2, (SR : Int), (NM : Int), cl, na, sz, of, da, su, co, ga⟩ := ⟨_, rfl⟩
  rw [← hE]
  have HE := Lib.hid hE
  have b0 := bel_new w (.cells #[I 2, I (SR : Int), I (NM : Int), I cl, .string (str na), I sz, I of, .slice A n a, .int .u32 (su : Int), I co, .slice G m c] 29)
  have hC0 := Cel.new w 29 #[I 2, I (SR : Int), I (NM : Int), I cl, .string (str na), I sz, I of, .slice A n a, .int .u32 (su : Int), I co, .slice G m c]
  have hv := rvalid_any 2 (SR : Int) (NM : Int) cl na sz of da su co ga A n a G m c _ (h.later b0)
  rw [hok] at hv
  have hsu := h.s
  simp only at hsu
  have k1 : IntKind.u8.wrap (SR : Int) = (SR : Int) := by rw [IntKind.wrap_u8]; omega
  clear hok hE
  go_enter Try.func11, Try.ntmps11
  go_wp2_with fail
  refine hv.mono ?_
  rintro e w1 ⟨rfl, hb⟩
  have b1 := b0.trans (hb.mono b0.size)
  have HP := Lib.hid (h.later b1)
  have hC1 := Cel.on hC0 hb
  have hlt := hC1.lt
  have c0 := hC1.cell 0
  have c1 := hC1.cell 1
  have c2 := hC1.cell 2
  have c3 := hC1.cell 3
  have c4 := hC1.cell 4
  have c5 := hC1.cell 5
  have c6 := hC1.cell 6
  have c7 := hC1.cell 7
  have c8 := hC1.cell 8
  have c9 := hC1.cell 9
  have c10 := hC1.cell 10
  simp only [List.getElem?_toArray, List.getElem?_cons_zero, List.getElem?_cons_succ] at c0 c1 c2 c3 c4 c5 c6 c7 c8 c9 c10
  have hH := Ow_cells w1 w1.heap.size [BitVec.ofNat 8 2, BitVec.ofNat 8 SR, BitVec.ofNat 8 (NM / 256), BitVec.ofNat 8 (NM % 256)] 4 #[.int .u8 2, .int .u8 (SR : Int), .int .u8 ((NM : Int) / 256), .int .u8 ((NM : Int) % 256)] rfl (hd_cells (by decide) (by omega) (by omega)) (Nat.le_refl _) (by decide)
  have s0 : EW w1 (.slice (some ⟨w1.heap.size, 0, none⟩) 4 4) [BitVec.ofNat 8 2, BitVec.ofNat 8 SR, BitVec.ofNat 8 (NM / 256), BitVec.ofNat 8 (NM % 256)] (w1.alloc (.cells #[.int .u8 2, .int .u8 (SR : Int), .int .u8 ((NM : Int) / 256), .int .u8 ((NM : Int) % 256)] 5)) := ⟨hH, bel_new _ _⟩
  clear hv hC0 hC1 hb b0 h hH
  have d0 := (s0.bel.cell (p := ⟨w.heap.size, 0, none⟩) hlt).trans c0
  have d6 := (s0.bel.cell (p := ⟨w.heap.size, 6, none⟩) hlt).trans c6
  have d7 := (s0.bel.cell (p := ⟨w.heap.size, 7, none⟩) hlt).trans c7
  have hl0 : [BitVec.ofNat 8 2, BitVec.ofNat 8 SR, BitVec.ofNat 8 (NM / 256), BitVec.ofNat 8 (NM % 256)].length = 4 := rfl
  obtain ⟨L0, hL0⟩ : ∃ L0, L0 = [BitVec.ofNat 8 2, BitVec.ofNat 8 SR, BitVec.ofNat 8 (NM / 256), BitVec.ofNat 8 (NM % 256)] := ⟨_, rfl⟩
  rw [← hL0] at s0 hl0
  have HL0 := Lib.hid hL0
  clear hL0
  go_wp2_with fail
  refine (xint_any of _ (by omega)).mono ?_
  rintro e wc1 ⟨vi1, rfl, oi1, bi1⟩
  obtain ⟨Ai1, Ci1, rfl, hB1⟩ := Bx.of oi1 (n := (encI of).length) rfl
  have t1 := s0.on bi1
  go_wp2_with (at_builtin; refine wpList_app _ is_bytes rfl (.tmp 50) (.tmp 53) rfl (v := (.slice (some ⟨w1.heap.size, 0, none⟩) 4 4)) (m := L0) rfl t1.1 (l := (encI of)) rfl hB1.bs hB1.nil (by have := encI_len (n := of) (by omega); omega) t1.2.size ?_; intro v1x w1x own1 gr1; have s1 := EW.app t1 own1 gr1; have d0 := (s1.bel.cell (p := ⟨w.heap.size, 0, none⟩) hlt).trans c0; have d6 := (s1.bel.cell (p := ⟨w.heap.size, 6, none⟩) hlt).trans c6; have d7 := (s1.bel.cell (p := ⟨w.heap.size, 7, none⟩) hlt).trans c7)
  obtain ⟨L1, hL1⟩ : ∃ L1, L1 = L0 ++ (encI of) := ⟨_, rfl⟩
  rw [← hL1] at s1
  have hl1 : L1.length ≤ 50 := by
    rw [hL1, List.length_append]
    have := encI_len (n := of) (by omega); omega
  have HL1 := Lib.hid hL1
  clear hL1
  refine (xblob_any A da n a _ (Lib.hid HP.out.b.len) (HP.out.b.later s1.bel).bs HP.out.b.nil (by omega)).mono ?_
  rintro e wc2 ⟨vi2, rfl, oi2, bi2⟩
  obtain ⟨Ai2, Ci2, rfl, hB2⟩ := Bx.of oi2 (n := (encB da).length) rfl
  have t2 := s1.on bi2
  go_wp2_with (at_builtin; refine wpList_app _ is_bytes rfl (.tmp 55) (.tmp 58) rfl (v := v1x) (m := L1) rfl t2.1 (l := (encB da)) rfl hB2.bs hB2.nil (by have := encI_len (n := (n : Int)) (by omega); have hq := HP.out.b.len; simp only [encB, List.length_append, hq]; omega) t2.2.size ?_; intro v2x w2x own2 gr2; have s2 := EW.app t2 own2 gr2; have d0 := (s2.bel.cell (p := ⟨w.heap.size, 0, none⟩) hlt).trans c0; have d6 := (s2.bel.cell (p := ⟨w.heap.size, 6, none⟩) hlt).trans c6; have d7 := (s2.bel.cell (p := ⟨w.heap.size, 7, none⟩) hlt).trans c7)
  have hF : L1 ++ (encB da) = E := by rw [HE.out, HL1.out, HL0.out]; simp [enc, hd, bd, be_one, be_two]
  rw [hF] at s2
  obtain ⟨A9, C9, rfl, hB9⟩ := s2.bx
  go_ret2
  exact ⟨⟨A9, _, C9, rfl, hB9⟩, b1.trans (s2.bel.mono b1.size)⟩
end Go.Proofs.Ytjjfamkljcipgaa.Pdu
namespace Go.Proofs.Ytjjfamkljcipgaa.Pdu
open Go.RowKit Go.Proofs.Ytjjfamkljcipgaa.Row

set_option maxRecDepth 100000 in
set_option maxHeartbeats 4000000 in
theorem rencode_k3 (SR NM : Nat) (CL : Nat) (CO : Nat) (na : List Byte) (sz of : Int) (da : List Byte) (su : Nat) (ga : List R) (A : Option Addr) (n a : Nat) (G : Option Addr) (m c : Nat) (w : World) (h : Px w ⟨3, (SR : Int), (NM : Int), (CL : Int), na, sz, of, da, su, (CO : Int), ga⟩ A n a G m c) (hok : ok ⟨3, (SR : Int), (NM : Int), (CL : Int), na, sz, of, da, su, (CO : Int), ga⟩ = true) (hSR : SR ≤ 15) (hNM : NM ≤ 65535) (hCL : CL ≤ 2) (hsz : 0 ≤ sz ∧ sz ≤ 65536) (hCO : CO ≤ 17) :
    Calls Try.prog 11 #[.agg #[I 3, I (SR : Int), I (NM : Int), I (CL : Int), .string (str na), I sz, I of, .slice A n a, .int .u32 (su : Int), I (CO : Int), .slice G m c]] w fun e w' => (∃ A' n' c', e = .returned (.tuple #[.slice A' n' c', I 0]) ∧ Bx w' A' (enc ⟨3, (SR : Int), (NM : Int), (CL : Int), na, sz, of, da, su, (CO : Int), ga⟩) n' c') ∧ Below w.heap.size w w' := by
  obtain ⟨E, hE⟩ : ∃ E, E = enc ⟨3, (SR : Int), (NM : Int), (CL : Int), na, sz, of, da, su, (CO : Int), ga⟩ := ⟨_, rfl⟩
  rw [← hE]
  have HE := Lib.hid hE
  have b0 := bel_new w (.cells #[I 3, I (SR : Int), I (NM : Int), I (CL : Int), .string (str na), I sz, I of, .slice A n a, .int .u32 (su : Int), I (CO : Int), .slice G m c] 29)
  have hC0 := Cel.new w 29 #[I 3, I (SR : Int), I (NM : Int), I (CL : Int), .string (str na), I sz, I of, .slice A n a, .int .u32 (su : Int), I (CO : Int), .slice G m c]
  have hv := rvalid_any 3 (SR : Int) (NM : Int) (CL : Int) na sz of da su (CO : Int) ga A n a G m c _ (h.later b0)
  rw [hok] at hv
  have hsu := h.s
  simp only at hsu
  have k1 : IntKind.u8.wrap (SR : Int) = (SR : Int) := by rw [IntKind.wrap_u8]; omega
  have k3 : IntKind.u8.wrap (CL : Int) = (CL : Int) := by rw [IntKind.wrap_u8]; omega
  have k4 : IntKind.u8.wrap (CO : Int) = (CO : Int) := by rw [IntKind.wrap_u8]; omega
  clear hok hE
  go_enter Try.func11, Try.ntmps11
  go_wp2_with fail
  refine hv.mono ?_
  rintro e w1 ⟨rfl, hb⟩
  have b1 := b0.trans (hb.mono b0.size)
  have HP := Lib.hid (h.later b1)
  have hC1 := Cel.on hC0 hb
  have hlt := hC1.lt
  have c0 := hC1.cell 0
  have c1 := hC1.cell 1
  have c2 := hC1.cell 2
  have c3 := hC1.cell 3
  have c4 := hC1.cell 4
  have c5 := hC1.cell 5
  have c6 := hC1.cell 6
  have c7 := hC1.cell 7
  have c8 := hC1.cell 8
  have c9 := hC1.cell 9
  have c10 := hC1.cell 10
  simp only [List.getElem?_toArray, List.getElem?_cons_zero, List.getElem?_cons_succ] at c0 c1 c2 c3 c4 c5 c6 c7 c8 c9 c10
  have hH := Ow_cells w1 w1.heap.size [BitVec.ofNat 8 3, BitVec.ofNat 8 SR, BitVec.ofNat 8 (NM / 256), BitVec.ofNat 8 (NM % 256)] 4 #[.int .u8 3, .int .u8 (SR : Int), .int .u8 ((NM : Int) / 256), .int .u8 ((NM : Int) % 256)] rfl (hd_cells (by decide) (by omega) (by omega)) (Nat.le_refl _) (by decide)
  have s0 : EW w1 (.slice (some ⟨w1.heap.size, 0, none⟩) 4 4) [BitVec.ofNat 8 3, BitVec.ofNat 8 SR, BitVec.ofNat 8 (NM / 256), BitVec.ofNat 8 (NM % 256)] (w1.alloc (.cells #[.int .u8 3, .int .u8 (SR : Int), .int .u8 ((NM : Int) / 256), .int .u8 ((NM : Int) % 256)] 5)) := ⟨hH, bel_new _ _⟩
  clear hv hC0 hC1 hb b0 h hH
  obtain ⟨EU, hEU⟩ : ∃ EU, EU = encU su 4 := ⟨_, rfl⟩
  have hEUl := Lib.hid (show EU.length = 4 by rw [hEU]; simp [encU, be_len])
  have HEU := Lib.hid hEU
  clear hEU
  have d0 := (s0.bel.cell (p := ⟨w.heap.size, 0, none⟩) hlt).trans c0
  have d3 := (s0.bel.cell (p := ⟨w.heap.size, 3, none⟩) hlt).trans c3
  have d5 := (s0.bel.cell (p := ⟨w.heap.size, 5, none⟩) hlt).trans c5
  have d8 := (s0.bel.cell (p := ⟨w.heap.size, 8, none⟩) hlt).trans c8
  have d9 := (s0.bel.cell (p := ⟨w.heap.size, 9, none⟩) hlt).trans c9
  have hl0 : [BitVec.ofNat 8 3, BitVec.ofNat 8 SR, BitVec.ofNat 8 (NM / 256), BitVec.ofNat 8 (NM % 256)].length = 4 := rfl
  obtain ⟨L0, hL0⟩ : ∃ L0, L0 = [BitVec.ofNat 8 3, BitVec.ofNat 8 SR, BitVec.ofNat 8 (NM / 256), BitVec.ofNat 8 (NM % 256)] := ⟨_, rfl⟩
  rw [← hL0] at s0 hl0
  have HL0 := Lib.hid hL0
  clear hL0
  have t1 := s0.on (bel_new _ (.cells #[.int .u8 (CL : Int)] 5))
  have q1 := Bs_new1 (w1.alloc (.cells #[.int .u8 3, .int .u8 (SR : Int), .int .u8 ((NM : Int) / 256), .int .u8 ((NM : Int) % 256)] 5)) 5 (BitVec.ofNat 8 CL) (CL : Int) (b8_of (by omega))
  have hsz : (w1.alloc (.cells #[.int .u8 3, .int .u8 (SR : Int), .int .u8 ((NM : Int) / 256), .int .u8 ((NM : Int) % 256)] 5)).heap.size = w1.heap.size + 1 := by simp
  rw [hsz] at q1
  clear hsz
  go_wp2_with (at_builtin; refine wpList_app _ is_bytes rfl (.tmp 62) (.tmp 66) rfl (v := (.slice (some ⟨w1.heap.size, 0, none⟩) 4 4)) (m := L0) rfl t1.1 (l := [BitVec.ofNat 8 CL]) rfl q1 (fun h => nomatch h) (by simp; omega) t1.2.size ?_; intro v1x w1x own1 gr1; have s1 := EW.app t1 own1 gr1; have d0 := (s1.bel.cell (p := ⟨w.heap.size, 0, none⟩) hlt).trans c0; have d3 := (s1.bel.cell (p := ⟨w.heap.size, 3, none⟩) hlt).trans c3; have d5 := (s1.bel.cell (p := ⟨w.heap.size, 5, none⟩) hlt).trans c5; have d8 := (s1.bel.cell (p := ⟨w.heap.size, 8, none⟩) hlt).trans c8; have d9 := (s1.bel.cell (p := ⟨w.heap.size, 9, none⟩) hlt).trans c9)
  obtain ⟨L1, hL1⟩ : ∃ L1, L1 = L0 ++ [BitVec.ofNat 8 CL] := ⟨_, rfl⟩
  rw [← hL1] at s1
  have hl1 : L1.length ≤ 50 := by
    rw [hL1, List.length_append]
    simp; omega
  have HL1 := Lib.hid hL1
  clear hL1
  refine (xint_any sz _ (by omega)).mono ?_
  rintro e wc2 ⟨vi2, rfl, oi2, bi2⟩
  obtain ⟨Ai2, Ci2, rfl, hB2⟩ := Bx.of oi2 (n := (encI sz).length) rfl
  have t2 := s1.on bi2
  go_wp2_with (at_builtin; refine wpList_app _ is_bytes rfl (.tmp 68) (.tmp 71) rfl (v := v1x) (m := L1) rfl t2.1 (l := (encI sz)) rfl hB2.bs hB2.nil (by have := encI_len (n := sz) (by omega); omega) t2.2.size ?_; intro v2x w2x own2 gr2; have s2 := EW.app t2 own2 gr2; have d0 := (s2.bel.cell (p := ⟨w.heap.size, 0, none⟩) hlt).trans c0; have d3 := (s2.bel.cell (p := ⟨w.heap.size, 3, none⟩) hlt).trans c3; have d5 := (s2.bel.cell (p := ⟨w.heap.size, 5, none⟩) hlt).trans c5; have d8 := (s2.bel.cell (p := ⟨w.heap.size, 8, none⟩) hlt).trans c8; have d9 := (s2.bel.cell (p := ⟨w.heap.size, 9, none⟩) hlt).trans c9)
  obtain ⟨L2, hL2⟩ : ∃ L2, L2 = L1 ++ (encI sz) := ⟨_, rfl⟩
  rw [← hL2] at s2
  have hl2 : L2.length ≤ 100 := by
    rw [hL2, List.length_append]
    have := encI_len (n := sz) (by omega); omega
  have HL2 := Lib.hid hL2
  clear hL2
  refine (xuint_any (su : Int) 4 su rfl _ (by omega)).mono ?_
  rintro e wc3 ⟨vi3, rfl, oi3, bi3⟩
  rw [← HEU.out] at oi3
  obtain ⟨Ai3, Ci3, rfl, hB3⟩ := Bx.of oi3 (n := EU.length) rfl
  have t3 := s2.on bi3
  go_wp2_with (first
    | (at_builtin; refine wpList_app _ is_bytes rfl (.tmp 73) (.tmp 77) rfl (v := v2x) (m := L2) rfl t3.1 (l := EU) rfl hB3.bs hB3.nil (by have := hEUl.out; omega) t3.2.size ?_; intro v3x w3x own3 gr3; have s3 := EW.app t3 own3 gr3; have d0 := (s3.bel.cell (p := ⟨w.heap.size, 0, none⟩) hlt).trans c0; have d3 := (s3.bel.cell (p := ⟨w.heap.size, 3, none⟩) hlt).trans c3; have d5 := (s3.bel.cell (p := ⟨w.heap.size, 5, none⟩) hlt).trans c5; have d8 := (s3.bel.cell (p := ⟨w.heap.size, 8, none⟩) hlt).trans c8; have d9 := (s3.bel.cell (p := ⟨w.heap.size, 9, none⟩) hlt).trans c9)
    | (at_builtin; have t4 := s3.on (bel_new _ (.cells #[.int .u8 (CO : Int)] 5)); refine wpList_app _ is_bytes rfl (.tmp 79) (.tmp 83) rfl (v := v3x) (m := L2 ++ EU) rfl t4.1 (l := [BitVec.ofNat 8 CO]) rfl (Bs_new1 _ _ _ _ (b8_of (by omega))) (fun h => nomatch h) (by have := hEUl.out; simp only [List.length_append, List.length_cons, List.length_nil]; omega) t4.2.size ?_; intro v4x w4x own4 gr4; have s4 := EW.app t4 own4 gr4; have d0 := (s4.bel.cell (p := ⟨w.heap.size, 0, none⟩) hlt).trans c0; have d3 := (s4.bel.cell (p := ⟨w.heap.size, 3, none⟩) hlt).trans c3; have d5 := (s4.bel.cell (p := ⟨w.heap.size, 5, none⟩) hlt).trans c5; have d8 := (s4.bel.cell (p := ⟨w.heap.size, 8, none⟩) hlt).trans c8; have d9 := (s4.bel.cell (p := ⟨w.heap.size, 9, none⟩) hlt).trans c9))
  have hF : L2 ++ EU ++ [BitVec.ofNat 8 CO] = E := by rw [HE.out, HL2.out, HL1.out, HL0.out]; simp [enc, hd, bd, be_one, be_two, HEU.out, encU_four]
  rw [hF] at s4
  obtain ⟨A9, C9, rfl, hB9⟩ := s4.bx
  go_ret2
  exact ⟨⟨A9, _, C9, rfl, hB9⟩, b1.trans (s4.bel.mono b1.size)⟩
end Go.Proofs.Ytjjfamkljcipgaa.Pdu
