/-
  The reference of layer 24: Encode, kind 4.
  The reference of layer 24: Encode, kind 5.
  The reference of layer 24: Encode, kind 6.
  The reference of layer 24: Encode, kind 7.
  The reference of layer 24: Encode, every unit.
-/
import Derived.Test.YtjjfamkljcipgaaRef24ea
namespace Go.Proofs.Ytjjfamkljcipgaa.Pdu
open Go.RowKit Go.Proofs.Ytjjfamkljcipgaa.Row

set_option maxRecDepth 100000 in
set_option maxHeartbeats 4000000 in
theorem rencode_k4 (SR NM : Nat) (cl : Int) (co : Int) (na : List Byte) (sz of : Int) (da : List Byte) (su : Nat) (ga : List R) (A : Option Addr) (n a : Nat) (G : Option Addr) (m c : Nat) (w : World) (h : Px w ⟨4, (SR : Int), (NM : Int), cl, na, sz, of, da, su, co, ga⟩ A n a G m c) (hok : ok ⟨4, (SR : Int), (NM : Int), cl, na, sz, of, da, su, co, ga⟩ = true) (hSR : SR ≤ 15) (hNM : NM ≤ 65535) (hga : InR ga) (hm : m ≤ 16) :
    Calls Try.prog 11 #[.agg #[I 4, I (SR : Int), I (NM : Int), I cl, .string (str na), I sz, I of, .slice A n a, .int .u32 (su : Int), I co, .slice G m c]] w fun e w' => (∃ A' n' c', e = .returned (.tuple #[.slice A' n' c', I 0]) ∧ Bx w' A' (enc ⟨4, (SR : Int), (NM : Int), cl, na, sz, of, da, su, co, ga⟩) n' c') ∧ Below w.heap.size w w' := by
  obtain ⟨E, hE⟩ : ∃ E, E = enc ⟨4, (SR : Int), (NM : Int), cl, na, sz, of, da, su, co, ga⟩ := ⟨_, rfl⟩
  rw [← hE]
  have HE := Lib.hid hE
  have b0 := bel_new w (.cells #[I 4, I (SR : Int), I (NM : Int), I cl, .string (str na), I sz, I of, .slice A n a, .int .u32 (su : Int), I co, .slice G m c] 29)
  have hC0 := Cel.new w 29 #[I 4, I (SR : Int), I (NM : Int), I cl, .string (str na), I sz, I of, .slice A n a, .int .u32 (su : Int), I co, .slice G m c]
  have hv := rvalid_any 4 (SR : Int) (NM : Int) cl na sz of da su co ga A n a G m c _ (h.later b0)
  rw [hok] at hv
  have hsu := h.s
  simp only at hsu
  have k1 : IntKind.u8.wrap (SR : Int) = (SR : Int) := by rw [IntKind.wrap_u8]; omega
  clear hok hE
  go_enter Try.func11, Try.ntmps11
  go_wp2_with fail
  refine hv.mono ?_
  rintro e w1 ⟨rfl, hb⟩
  have b1 := b0.trans (hb.mono b0.size)
  have HP := Lib.hid (h.later b1)
  have hC1 := Cel.on hC0 hb
  have hlt := hC1.lt
  have c0 := hC1.cell 0
  have c1 := hC1.cell 1
  have c2 := hC1.cell 2
  have c3 := hC1.cell 3
  have c4 := hC1.cell 4
  have c5 := hC1.cell 5
  have c6 := hC1.cell 6
  have c7 := hC1.cell 7
  have c8 := hC1.cell 8
  have c9 := hC1.cell 9
  have c10 := hC1.cell 10
  simp only [List.getElem?_toArray, List.getElem?_cons_zero, List.getElem?_cons_succ] at c0 c1 c2 c3 c4 c5 c6 c7 c8 c9 c10
  have hH := Ow_cells w1 w1.heap.size [BitVec.ofNat 8 4, BitVec.ofNat 8 SR, BitVec.ofNat 8 (NM / 256), BitVec.ofNat 8 (NM % 256)] 4 #[.int .u8 4, .int .u8 (SR : Int), .int .u8 ((NM : Int) / 256), .int .u8 ((NM : Int) % 256)] rfl (hd_cells (by decide) (by omega) (by omega)) (Nat.le_refl _) (by decide)
  have s0 : EW w1 (.slice (some ⟨w1.heap.size, 0, none⟩) 4 4) [BitVec.ofNat 8 4, BitVec.ofNat 8 SR, BitVec.ofNat 8 (NM / 256), BitVec.ofNat 8 (NM % 256)] (w1.alloc (.cells #[.int .u8 4, .int .u8 (SR : Int), .int .u8 ((NM : Int) / 256), .int .u8 ((NM : Int) % 256)] 5)) := ⟨hH, bel_new _ _⟩
  clear hv hC0 hC1 hb b0 h hH
  have d0 := (s0.bel.cell (p := ⟨w.heap.size, 0, none⟩) hlt).trans c0
  have hl0 : [BitVec.ofNat 8 4, BitVec.ofNat 8 SR, BitVec.ofNat 8 (NM / 256), BitVec.ofNat 8 (NM % 256)].length = 4 := rfl
  obtain ⟨L0, hL0⟩ : ∃ L0, L0 = [BitVec.ofNat 8 4, BitVec.ofNat 8 SR, BitVec.ofNat 8 (NM / 256), BitVec.ofNat 8 (NM % 256)] := ⟨_, rfl⟩
  rw [← hL0] at s0 hl0
  have HL0 := Lib.hid hL0
  clear hL0
  have hGx := HP.out.g
  simp only at hGx
  have HN := Lib.hid hGx.len
  have HG := Lib.hid hGx
  have HI := Lib.hid hga
  have HM := Lib.hid (encI_len (n := (m : Int)) (by omega))
  have d10 := (s0.bel.cell (p := ⟨w.heap.size, 10, none⟩) hlt).trans c10
  clear hGx hga
  go_wp2_with fail
  refine (xint_any (m : Int) _ (by omega)).mono ?_
  rintro e wc1 ⟨vi1, rfl, oi1, bi1⟩
  obtain ⟨Ai1, Ci1, rfl, hB1⟩ := Bx.of oi1 (n := (encI (m : Int)).length) rfl
  have t1 := s0.on bi1
  go_wp2_with (at_builtin; refine wpList_app _ is_bytes rfl (.tmp 87) (.tmp 91) rfl (v := (.slice (some ⟨w1.heap.size, 0, none⟩) 4 4)) (m := L0) rfl t1.1 (l := encI (m : Int)) rfl hB1.bs hB1.nil (by have := HM.out; omega) t1.2.size ?_; intro v1x w1x own1 gr1; have s1 := EW.app t1 own1 gr1)
  go_loopw [4, 5] (fun v i wr => ∃ k : Nat, k ≤ m ∧ i = .int .i64 k ∧ Hid (EW w1 v (L0 ++ encI (m : Int) ++ gs (ga.take k)) wr)) (fun _ i _ => m - (intOf i).toNat)
  case atStart => exact ⟨0, Nat.zero_le _, rfl, Lib.hid (by simpa [gs] using s1)⟩
  case round =>
    obtain ⟨k, hk, rfl, hz⟩ := hrel
    have e10 := (hz.out.bel.cell (p := ⟨w.heap.size, 10, none⟩) hlt).trans c10
    by_cases hlt2 : k < m
    · obtain ⟨x, hx⟩ : ∃ x, ga[k]? = some x := ⟨_, List.getElem?_eq_getElem (by rw [HN.out]; exact hlt2)⟩
      have hx1 := HI.out x (List.mem_of_getElem? hx)
      obtain ⟨b, off, rfl, hbl, g0, g1⟩ := HG.out.at_ hx
      have hgl := gs_len (HI.out.take k)
      have hgn : (ga.take k).length ≤ 16 := by rw [List.length_take]; omega
      have HT := Lib.hid (gs_take hx)
      obtain ⟨x0, x1⟩ := x
      simp only at g0 g1 hx1
      have hl2 := HM.out
      have hE1 := encI_len hx1.1
      have hE2 := encI_len hx1.2
      obtain ⟨U, hU⟩ : ∃ U, U = L0 ++ encI (m : Int) ++ gs (ga.take k) := ⟨_, rfl⟩
      have hUl : U.length ≤ 2000 := by rw [hU, List.length_append, List.length_append]; omega
      have sz := hz.out
      rw [← hU] at sz
      have HU := Lib.hid hU
      have y0 := (sz.bel.cell (p := ⟨b, off + k * 2, none⟩) hbl).trans g0
      clear hz hx hU hgl hgn hl2
      go_wp2_with fail
      refine (xint_any x0 _ hx1.1).mono ?_
      rintro e wc2 ⟨vi2, rfl, oi2, bi2⟩
      obtain ⟨Ai2, Ci2, rfl, hB2⟩ := Bx.of oi2 (n := (encI x0).length) rfl
      have t2 := sz.on bi2
      go_wp2_with (at_builtin; refine wpList_app _ is_bytes rfl (.tmp 100) (.tmp 107) rfl (m := U) rfl t2.1 (l := encI x0) rfl hB2.bs hB2.nil (by omega) t2.2.size ?_; intro v2x w2x own2 gr2; have s2 := EW.app t2 own2 gr2; have f10 := (s2.bel.cell (p := ⟨w.heap.size, 10, none⟩) hlt).trans c10; have y1 := (s2.bel.cell (p := ⟨b, off + k * 2 + 1, none⟩) hbl).trans g1)
      refine (xint_any x1 _ hx1.2).mono ?_
      rintro e wc3 ⟨vi3, rfl, oi3, bi3⟩
      obtain ⟨Ai3, Ci3, rfl, hB3⟩ := Bx.of oi3 (n := (encI x1).length) rfl
      have t3 := s2.on bi3
      go_wp2_with (at_builtin; refine wpList_app _ is_bytes rfl (.tmp 109) (.tmp 116) rfl (v := v2x) (m := U ++ encI x0) rfl t3.1 (l := encI x1) rfl hB3.bs hB3.nil (by simp only [List.length_append]; omega) t3.2.size ?_; intro v3x w3x own3 gr3; have s3 := EW.app t3 own3 gr3)
      go_round
      case rel => exact ⟨k + 1, by omega, by go_num, Lib.hid (by rw [HT.out, ← List.append_assoc, ← HU.out, ← List.append_assoc]; exact s3)⟩
      case measure => simp [intOf]; omega
    · have s9 := hz.out
      rw [List.take_of_length_le (by rw [HN.out]; omega)] at s9
      have hF : L0 ++ encI (m : Int) ++ gs ga = E := by rw [HE.out, HL0.out]; have hq := HN.out; simp [enc, hd, bd, be_one, be_two, hq]
      rw [hF] at s9
      obtain ⟨A9, C9, rfl, hB9⟩ := s9.bx
      clear hz hF
      go_wp2
      go_ret2
      exact ⟨⟨A9, _, C9, rfl, hB9⟩, b1.trans (s9.bel.mono b1.size)⟩
end Go.Proofs.Ytjjfamkljcipgaa.Pdu
namespace Go.Proofs.Ytjjfamkljcipgaa.Pdu
open Go.RowKit Go.Proofs.Ytjjfamkljcipgaa.Row

set_option maxRecDepth 100000 in
set_option maxHeartbeats 4000000 in
theorem rencode_k5 (SR NM : Nat) (cl : Int) (CO : Nat) (na : List Byte) (sz of : Int) (da : List Byte) (su : Nat) (ga : List R) (A : Option Addr) (n a : Nat) (G : Option Addr) (m c : Nat) (w : World) (h : Px w ⟨5, (SR : Int), (NM : Int), cl, na, sz, of, da, su, (CO : Int), ga⟩ A n a G m c) (hok : ok ⟨5, (SR : Int), (NM : Int), cl, na, sz, of, da, su, (CO : Int), ga⟩ = true) (hSR : SR ≤ 15) (hNM : NM ≤ 65535) (hCO : CO ≤ 17) :
    Calls Try.prog 11 #[.agg #[I 5, I (SR : Int), I (NM : Int), I cl, .string (str na), I sz, I of, .slice A n a, .int .u32 (su : Int), I (CO : Int), .slice G m c]] w fun e w' => (∃ A' n' c', e = .returned (.tuple #[.slice A' n' c', I 0]) ∧ Bx w' A' (enc ⟨5, (SR : Int), (NM : Int), cl, na, sz, of, da, su, (CO : Int), ga⟩) n' c') ∧ Below w.heap.size w w' := by
  obtain ⟨E, hE⟩ : ∃ E, E = enc ⟨5, (SR : Int), (NM : Int), cl, na, sz, of, da, su, (CO : Int), ga⟩ := ⟨_, rfl⟩
  rw [← hE]
  have HE := Lib.hid hE
  have b0 := bel_new w (.cells #[I 5, I (SR : Int), I (NM : Int), I cl, .string (str na), I sz, I of, .slice A n a, .int .u32 (su : Int), I (CO : Int), .slice G m c] 29)
  have hC0 := Cel.new w 29 #[I 5, I (SR : Int), I (NM : Int), I cl, .string (str na), I sz, I of, .slice A n a, .int .u32 (su : Int), I (CO : Int), .slice G m c]
  have hv := rvalid_any 5 (SR : Int) (NM : Int) cl na sz of da su (CO : Int) ga A n a G m c _ (h.later b0)
  rw [hok] at hv
  have hsu := h.s
  simp only at hsu
  have k1 : IntKind.u8.wrap (SR : Int) = (SR : Int) := by rw [IntKind.wrap_u8]; omega
  have k4 : IntKind.u8.wrap (CO : Int) = (CO : Int) := by rw [IntKind.wrap_u8]; omega
  clear hok hE
  go_enter Try.func11, Try.ntmps11
  go_wp2_with fail
  refine hv.mono ?_
  rintro e w1 ⟨rfl, hb⟩
  have b1 := b0.trans (hb.mono b0.size)
  have HP := Lib.hid (h.later b1)
  have hC1 := Cel.on hC0 hb
  have hlt := hC1.lt
  have c0 := hC1.cell 0
  have c1 := hC1.cell 1
  have c2 := hC1.cell 2
  have c3 := hC1.cell 3
  have c4 := hC1.cell 4
  have c5 := hC1.cell 5
  have c6 := hC1.cell 6
  have c7 := hC1.cell 7
  have c8 := hC1.cell 8
  have c9 := hC1.cell 9
  have c10 := hC1.cell 10
  simp only [List.getElem?_toArray, List.getElem?_cons_zero, List.getElem?_cons_succ] at c0 c1 c2 c3 c4 c5 c6 c7 c8 c9 c10
  have hH := Ow_cells w1 w1.heap.size [BitVec.ofNat 8 5, BitVec.ofNat 8 SR, BitVec.ofNat 8 (NM / 256), BitVec.ofNat 8 (NM % 256)] 4 #[.int .u8 5, .int .u8 (SR : Int), .int .u8 ((NM : Int) / 256), .int .u8 ((NM : Int) % 256)] rfl (hd_cells (by decide) (by omega) (by omega)) (Nat.le_refl _) (by decide)
  have s0 : EW w1 (.slice (some ⟨w1.heap.size, 0, none⟩) 4 4) [BitVec.ofNat 8 5, BitVec.ofNat 8 SR, BitVec.ofNat 8 (NM / 256), BitVec.ofNat 8 (NM % 256)] (w1.alloc (.cells #[.int .u8 5, .int .u8 (SR : Int), .int .u8 ((NM : Int) / 256), .int .u8 ((NM : Int) % 256)] 5)) := ⟨hH, bel_new _ _⟩
  clear hv hC0 hC1 hb b0 h hH
  have d0 := (s0.bel.cell (p := ⟨w.heap.size, 0, none⟩) hlt).trans c0
  have d9 := (s0.bel.cell (p := ⟨w.heap.size, 9, none⟩) hlt).trans c9
  have hl0 : [BitVec.ofNat 8 5, BitVec.ofNat 8 SR, BitVec.ofNat 8 (NM / 256), BitVec.ofNat 8 (NM % 256)].length = 4 := rfl
  obtain ⟨L0, hL0⟩ : ∃ L0, L0 = [BitVec.ofNat 8 5, BitVec.ofNat 8 SR, BitVec.ofNat 8 (NM / 256), BitVec.ofNat 8 (NM % 256)] := ⟨_, rfl⟩
  rw [← hL0] at s0 hl0
  have HL0 := Lib.hid hL0
  clear hL0
  have t1 := s0.on (bel_new _ (.cells #[.int .u8 (CO : Int)] 5))
  have q1 := Bs_new1 (w1.alloc (.cells #[.int .u8 5, .int .u8 (SR : Int), .int .u8 ((NM : Int) / 256), .int .u8 ((NM : Int) % 256)] 5)) 5 (BitVec.ofNat 8 CO) (CO : Int) (b8_of (by omega))
  have hsz : (w1.alloc (.cells #[.int .u8 5, .int .u8 (SR : Int), .int .u8 ((NM : Int) / 256), .int .u8 ((NM : Int) % 256)] 5)).heap.size = w1.heap.size + 1 := by simp
  rw [hsz] at q1
  clear hsz
  go_wp2_with (at_builtin; refine wpList_app _ is_bytes rfl (.tmp 120) (.tmp 124) rfl (v := (.slice (some ⟨w1.heap.size, 0, none⟩) 4 4)) (m := L0) rfl t1.1 (l := [BitVec.ofNat 8 CO]) rfl q1 (fun h => nomatch h) (by simp; omega) t1.2.size ?_; intro v1x w1x own1 gr1; have s1 := EW.app t1 own1 gr1; have d0 := (s1.bel.cell (p := ⟨w.heap.size, 0, none⟩) hlt).trans c0; have d9 := (s1.bel.cell (p := ⟨w.heap.size, 9, none⟩) hlt).trans c9)
  have hF : L0 ++ [BitVec.ofNat 8 CO] = E := by rw [HE.out, HL0.out]; simp [enc, hd, bd, be_one, be_two]
  rw [hF] at s1
  obtain ⟨A9, C9, rfl, hB9⟩ := s1.bx
  go_ret2
  exact ⟨⟨A9, _, C9, rfl, hB9⟩, b1.trans (s1.bel.mono b1.size)⟩
end Go.Proofs.Ytjjfamkljcipgaa.Pdu
namespace Go.Proofs.Ytjjfamkljcipgaa.Pdu
open Go.RowKit Go.Proofs.Ytjjfamkljcipgaa.Row

set_option maxRecDepth 100000 in
set_option maxHeartbeats 4000000 in
theorem rencode_k6 (SR NM : Nat) (cl : Int) (co : Int) (na : List Byte) (sz of : Int) (da : List Byte) (su : Nat) (ga : List R) (A : Option Addr) (n a : Nat) (G : Option Addr) (m c : Nat) (w : World) (h : Px w ⟨6, (SR : Int), (NM : Int), cl, na, sz, of, da, su, co, ga⟩ A n a G m c) (hok : ok ⟨6, (SR : Int), (NM : Int), cl, na, sz, of, da, su, co, ga⟩ = true) (hSR : SR ≤ 15) (hNM : NM ≤ 65535) :
    Calls Try.prog 11 #[.agg #[I 6, I (SR : Int), I (NM : Int), I cl, .string (str na), I sz, I of, .slice A n a, .int .u32 (su : Int), I co, .slice G m c]] w fun e w' => (∃ A' n' c', e = .returned (.tuple #[.slice A' n' c', I 0]) ∧ Bx w' A' (enc ⟨6, (SR : Int), (NM : Int), cl, na, sz, of, da, su, co, ga⟩) n' c') ∧ Below w.heap.size w w' := by
  obtain ⟨E, hE⟩ : ∃ E, E = enc ⟨6, (SR : Int), (NM : Int), cl, na, sz, of, da, su, co, ga⟩ := ⟨_, rfl⟩
  rw [← hE]
  have HE := Lib.hid hE
  have b0 := bel_new w (.cells #[I 6, I (SR : Int), I (NM : Int), I cl, .string (str na), I sz, I of, .slice A n a, .int .u32 (su : Int), I co, .slice G m c] 29)
  have hC0 := Cel.new w 29 #[I 6, I (SR : Int), I (NM : Int), I cl, .string (str na), I sz, I of, .slice A n a, .int .u32 (su : Int), I co, .slice G m c]
  have hv := rvalid_any 6 (SR : Int) (NM : Int) cl na sz of da su co ga A n a G m c _ (h.later b0)
  rw [hok] at hv
  have hsu := h.s
  simp only at hsu
  have k1 : IntKind.u8.wrap (SR : Int) = (SR : Int) := by rw [IntKind.wrap_u8]; omega
  clear hok hE
  go_enter Try.func11, Try.ntmps11
  go_wp2_with fail
  refine hv.mono ?_
  rintro e w1 ⟨rfl, hb⟩
  have b1 := b0.trans (hb.mono b0.size)
  have HP := Lib.hid (h.later b1)
  have hC1 := Cel.on hC0 hb
  have hlt := hC1.lt
  have c0 := hC1.cell 0
  have c1 := hC1.cell 1
  have c2 := hC1.cell 2
  have c3 := hC1.cell 3
  have c4 := hC1.cell 4
  have c5 := hC1.cell 5
  have c6 := hC1.cell 6
  have c7 := hC1.cell 7
  have c8 := hC1.cell 8
  have c9 := hC1.cell 9
  have c10 := hC1.cell 10
  simp only [List.getElem?_toArray, List.getElem?_cons_zero, List.getElem?_cons_succ] at c0 c1 c2 c3 c4 c5 c6 c7 c8 c9 c10
  have hH := Ow_cells w1 w1.heap.size [BitVec.ofNat 8 6, BitVec.ofNat 8 SR, BitVec.ofNat 8 (NM / 256), BitVec.ofNat 8 (NM % 256)] 4 #[.int .u8 6, .int .u8 (SR : Int), .int .u8 ((NM : Int) / 256), .int .u8 ((NM : Int) % 256)] rfl (hd_cells (by decide) (by omega) (by omega)) (Nat.le_refl _) (by decide)
  have s0 : EW w1 (.slice (some ⟨w1.heap.size, 0, none⟩) 4 4) [BitVec.ofNat 8 6, BitVec.ofNat 8 SR, BitVec.ofNat 8 (NM / 256), BitVec.ofNat 8 (NM % 256)] (w1.alloc (.cells #[.int .u8 6, .int .u8 (SR : Int), .int .u8 ((NM : Int) / 256), .int .u8 ((NM : Int) % 256)] 5)) := ⟨hH, bel_new _ _⟩
  clear hv hC0 hC1 hb b0 h hH
  have d0 := (s0.bel.cell (p := ⟨w.heap.size, 0, none⟩) hlt).trans c0
  have hl0 : [BitVec.ofNat 8 6, BitVec.ofNat 8 SR, BitVec.ofNat 8 (NM / 256), BitVec.ofNat 8 (NM % 256)].length = 4 := rfl
  obtain ⟨L0, hL0⟩ : ∃ L0, L0 = [BitVec.ofNat 8 6, BitVec.ofNat 8 SR, BitVec.ofNat 8 (NM / 256), BitVec.ofNat 8 (NM % 256)] := ⟨_, rfl⟩
  rw [← hL0] at s0 hl0
  have HL0 := Lib.hid hL0
  clear hL0
  have hF : L0 = E := by rw [HE.out, HL0.out]; simp [enc, hd, bd, be_one, be_two]
  rw [hF] at s0 hl0
  obtain ⟨A9, C9, e9, hB9⟩ := Bx.of s0.1 hl0
  injection e9 with e1 _ e3
  subst e1 e3
  go_wp2
  go_ret2
  exact ⟨⟨_, 4, 4, rfl, hB9⟩, b1.trans (s0.bel.mono b1.size)⟩
end Go.Proofs.Ytjjfamkljcipgaa.Pdu
namespace Go.Proofs.Ytjjfamkljcipgaa.Pdu
open Go.RowKit Go.Proofs.Ytjjfamkljcipgaa.Row

set_option maxRecDepth 100000 in
set_option maxHeartbeats 4000000 in
theorem rencode_k7 (SR NM : Nat) (cl : Int) (co : Int) (na : List Byte) (sz of : Int) (da : List Byte) (su : Nat) (ga : List R) (A : Option Addr) (n a : Nat) (G : Option Addr) (m c : Nat) (w : World) (h : Px w ⟨7, (SR : Int), (NM : Int), cl, na, sz, of, da, su, co, ga⟩ A n a G m c) (hok : ok ⟨7, (SR : Int), (NM : Int), cl, na, sz, of, da, su, co, ga⟩ = true) (hSR : SR ≤ 15) (hNM : NM ≤ 65535) :
    Calls Try.prog 11 #[.agg #[I 7, I (SR : Int), I (NM : Int), I cl, .string (str na), I sz, I of, .slice A n a, .int .u32 (su : Int), I co, .slice G m c]] w fun e w' => (∃ A' n' c', e = .returned (.tuple #[.slice A' n' c', I 0]) ∧ Bx w' A' (enc ⟨7, (SR : Int), (NM : Int), cl, na, sz, of, da, su, co, ga⟩) n' c') ∧ Below w.heap.size w w' := by
  obtain ⟨E, hE⟩ : ∃ E, E = enc ⟨7, (SR : Int), (NM : Int), cl, na, sz, of, da, su, co, ga⟩ := ⟨_, rfl⟩
  rw [← hE]
  have HE := Lib.hid hE
  have b0 := bel_new w (.cells #[I 7, I (SR : Int), I (NM : Int), I cl, .string (str na), I sz, I of, .slice A n a, .int .u32 (su : Int), I co, .slice G m c] 29)
  have hC0 := Cel.new w 29 #[I 7, I (SR : Int), I (NM : Int), I cl, .string (str na), I sz, I of, .slice A n a, .int .u32 (su : Int), I co, .slice G m c]
  have hv := rvalid_any 7 (SR : Int) (NM : Int) cl na sz of da su co ga A n a G m c _ (h.later b0)
  rw [hok] at hv
  have hsu := h.s
  simp only at hsu
  have k1 : IntKind.u8.wrap (SR : Int) = (SR : Int) := by rw [IntKind.wrap_u8]; omega
  clear hok hE
  go_enter Try.func11, Try.ntmps11
  go_wp2_with fail
  refine hv.mono ?_
  rintro e w1 ⟨rfl, hb⟩
  have b1 := b0.trans (hb.mono b0.size)
  have HP := Lib.hid (h.later b1)
  have hC1 := Cel.on hC0 hb
  have hlt := hC1.lt
  have c0 := hC1.cell 0
  have c1 := hC1.cell 1
  have c2 := hC1.cell 2
  have c3 := hC1.cell 3
  have c4 := hC1.cell 4
  have c5 := hC1.cell 5
  have c6 := hC1.cell 6
  have c7 := hC1.cell 7
  have c8 := hC1.cell 8
  have c9 := hC1.cell 9
  have c10 := hC1.cell 10
  simp only [List.getElem?_toArray, List.getElem?_cons_zero, List.getElem?_cons_succ] at c0 c1 c2 c3 c4 c5 c6 c7 c8 c9 c10
  have hH := Ow_cells w1 w1.heap.size [BitVec.ofNat 8 7, BitVec.ofNat 8 SR, BitVec.ofNat 8 (NM / 256), BitVec.ofNat 8 (NM % 256)] 4 #[.int .u8 7, .int .u8 (SR : Int), .int .u8 ((NM : Int) / 256), .int .u8 ((NM : Int) % 256)] rfl (hd_cells (by decide) (by omega) (by omega)) (Nat.le_refl _) (by decide)
  have s0 : EW w1 (.slice (some ⟨w1.heap.size, 0, none⟩) 4 4) [BitVec.ofNat 8 7, BitVec.ofNat 8 SR, BitVec.ofNat 8 (NM / 256), BitVec.ofNat 8 (NM % 256)] (w1.alloc (.cells #[.int .u8 7, .int .u8 (SR : Int), .int .u8 ((NM : Int) / 256), .int .u8 ((NM : Int) % 256)] 5)) := ⟨hH, bel_new _ _⟩
  clear hv hC0 hC1 hb b0 h hH
  have d0 := (s0.bel.cell (p := ⟨w.heap.size, 0, none⟩) hlt).trans c0
  have hl0 : [BitVec.ofNat 8 7, BitVec.ofNat 8 SR, BitVec.ofNat 8 (NM / 256), BitVec.ofNat 8 (NM % 256)].length = 4 := rfl
  obtain ⟨L0, hL0⟩ : ∃ L0, L0 = [BitVec.ofNat 8 7, BitVec.ofNat 8 SR, BitVec.ofNat 8 (NM / 256), BitVec.ofNat 8 (NM % 256)] := ⟨_, rfl⟩
  rw [← hL0] at s0 hl0
  have HL0 := Lib.hid hL0
  clear hL0
  have hF : L0 = E := by rw [HE.out, HL0.out]; simp [enc, hd, bd, be_one, be_two]
  rw [hF] at s0 hl0
  obtain ⟨A9, C9, e9, hB9⟩ := Bx.of s0.1 hl0
  injection e9 with e1 _ e3
  subst e1 e3
  go_wp2
  go_ret2
  exact ⟨⟨_, 4, 4, rfl, hB9⟩, b1.trans (s0.bel.mono b1.size)⟩
end Go.Proofs.Ytjjfamkljcipgaa.Pdu
namespace Go.Proofs.Ytjjfamkljcipgaa.Pdu
open Go.RowKit Go.Proofs.Ytjjfamkljcipgaa.Row

theorem rencode_any (kd sr nm cl : Int) (na : List Byte) (sz of : Int) (da : List Byte) (su : Nat) (co : Int) (ga : List R) (A : Option Addr) (n a : Nat) (G : Option Addr) (m c : Nat) (w : World) (h : Px w ⟨kd, sr, nm, cl, na, sz, of, da, su, co, ga⟩ A n a G m c) :
    Calls Try.prog 11 #[.agg #[I kd, I sr, I nm, I cl, .string (str na), I sz, I of, .slice A n a, .int .u32 (su : Int), I co, .slice G m c]] w fun e w' => (∃ A' n' c', e = .returned (.tuple #[.slice A' n' c', I (enE ⟨kd, sr, nm, cl, na, sz, of, da, su, co, ga⟩)]) ∧ Bx w' A' (enO ⟨kd, sr, nm, cl, na, sz, of, da, su, co, ga⟩) n' c') ∧ Below w.heap.size w w' := by
  cases hok : ok ⟨kd, sr, nm, cl, na, sz, of, da, su, co, ga⟩ with
  | false =>
    rw [show enE ⟨kd, sr, nm, cl, na, sz, of, da, su, co, ga⟩ = 1 by simp [enE, hok], show enO ⟨kd, sr, nm, cl, na, sz, of, da, su, co, ga⟩ = [] by simp [enO, hok]]
    exact (rencode_no kd sr nm cl na sz of da su co ga A n a G m c w h hok).mono fun e w' ⟨h1, h2⟩ => ⟨⟨none, 0, 0, h1, Bx.zero _⟩, h2⟩
  | true =>
    rw [show enE ⟨kd, sr, nm, cl, na, sz, of, da, su, co, ga⟩ = 0 by simp [enE, hok], show enO ⟨kd, sr, nm, cl, na, sz, of, da, su, co, ga⟩ = enc ⟨kd, sr, nm, cl, na, sz, of, da, su, co, ga⟩ by simp [enO, hok]]
    obtain ⟨h1, h2, hc⟩ := ok_cases hok
    simp only at h1 h2 hc
    have hda := h.b.len
    have hga := h.g.len
    simp only at hda hga
    obtain ⟨SR, rfl⟩ := Int.eq_ofNat_of_zero_le h1.1
    obtain ⟨NM, rfl⟩ := Int.eq_ofNat_of_zero_le h2.1
    rcases hc with ⟨rfl, c1, c2, c3, _⟩ | ⟨rfl, c1, _⟩ | ⟨rfl, c1, c2, c3, _⟩ | ⟨rfl, c1, _⟩ | ⟨rfl, c1, _⟩ | ⟨hk, _⟩
    · obtain ⟨CL, rfl⟩ := Int.eq_ofNat_of_zero_le (show 0 ≤ cl by omega)
      have hl := of_decide_eq_true (Bool.and_eq_true_iff.1 c3).1
      exact rencode_k1 SR NM CL co na sz of da su ga A n a G m c w h hok (by omega) (by omega) (by omega) c2 hl.2
    · have hl := of_decide_eq_true c1
      exact rencode_k2 SR NM cl co na sz of da su ga A n a G m c w h hok (by omega) (by omega) (by omega) (by omega)
    · obtain ⟨CL, rfl⟩ := Int.eq_ofNat_of_zero_le (show 0 ≤ cl by omega)
      obtain ⟨CO, rfl⟩ := Int.eq_ofNat_of_zero_le c3.1
      exact rencode_k3 SR NM CL CO na sz of da su ga A n a G m c w h hok (by omega) (by omega) (by omega) c2 (by omega)
    · have hl := Bool.and_eq_true_iff.1 c1
      have h3 := of_decide_eq_true hl.1
      exact rencode_k4 SR NM cl co na sz of da su ga A n a G m c w h hok (by omega) (by omega) (gok_bounds (by omega) hl.2) (by omega)
    · obtain ⟨CO, rfl⟩ := Int.eq_ofNat_of_zero_le c1.1
      exact rencode_k5 SR NM cl CO na sz of da su ga A n a G m c w h hok (by omega) (by omega) (by omega)
    · rcases hk with rfl | rfl
      · exact rencode_k6 SR NM cl co na sz of da su ga A n a G m c w h hok (by omega) (by omega)
      · exact rencode_k7 SR NM cl co na sz of da su ga A n a G m c w h hok (by omega) (by omega)
end Go.Proofs.Ytjjfamkljcipgaa.Pdu
