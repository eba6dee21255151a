/-
  Package packer: Next.
-/
import Derived.Test.YtjjjlgaidklokaaPkrW2
namespace Go.Proofs.Ytjjjlgaidklokaa.Pkr
open Go.RowKit
open Pac (bel_new)

/-- in the midst of Next: the Packer in state s, its data field so far (fv, own, apart from the Packer's blocks); of the old blocks only the Packer's have turned -/
structure NX (w0 w : World) (g : Nat) (F : List Nat) (Z R : Nat) (s : PS) (Ar : Option Addr) (nr cr : Nat) (Aw : Option Addr) (nw cw : Nat) (fv : Value) (fl : List Byte) : Prop where
  pc : PC w g Z R s Ar nr cr Aw nw cw
  ow : Ow w w0.heap.size 5 fv fl
  ap : ∀ i, fv.ownBlock = some i → i ∉ fam g Ar Aw
  on : Only F w0 w
  nb : ∀ x ∈ fam g Ar Aw, x ∈ F ∨ w0.heap.size ≤ x
  gF : g ∈ F
section
variable {w0 w w' : World} {g Z R nr cr nw cw nr' cr' nw' cw' : Nat} {s s' : PS} {Ar Aw Ar' Aw' : Option Addr} {F S : List Nat} {fv fv' : Value} {fl fl' : List Byte}
theorem NX.step (h : NX w0 w g F Z R s Ar nr cr Aw nw cw fv fl) (k : Only [g] w w') (p : PC w' g Z R s' Ar' nr' cr' Aw' nw' cw') (hn : ∀ x ∈ fam g Ar' Aw', x ∈ fam g Ar Aw ∨ w.heap.size ≤ x) : NX w0 w' g F Z R s' Ar' nr' cr' Aw' nw' cw' fv fl := by
  have hsz := h.on.size
  refine ⟨p, h.ow.only k (fun i hi hm => h.ow.apart h.pc.c (by decide) (by rw [hi, List.mem_singleton.1 hm])), fun i hi hm => ?_, h.on.trans k (fun x hx => .inl (List.mem_singleton.1 hx ▸ h.gF)), fun x hx => ?_, h.gF⟩
  · rcases hn i hm with h1 | h1
    · exact h.ap i hi h1
    · have := (h.ow.lt i hi).2; omega
  · rcases hn x hx with h1 | h1
    · exact h.nb x h1
    · exact .inr (by omega)
theorem NX.app (h : NX w0 w g F Z R s Ar nr cr Aw nw cw fv fl) (hg : w.grownBy w' fv.ownBlock) (ho : Ow w' w0.heap.size 5 fv' fl') (hv : fv'.ownBlock = fv.ownBlock ∨ fv'.ownBlock = some w.heap.size) : NX w0 w' g F Z R s Ar nr cr Aw nw cw fv' fl' := by
  have k := Only.of_grown hg
  refine ⟨h.pc.only k (fun x hx hm => h.ap x (by simpa using hm) hx), ho, fun i hi hm => ?_, h.on.trans k (fun x hx => .inr (h.ow.lt x (by simpa using hx)).1), h.nb, h.gF⟩
  rcases hv with e | e
  · exact h.ap i (e ▸ hi) hm
  · rw [e] at hi
    injection hi with hi
    have := h.pc.lt i hm
    omega
theorem fam_left {g : Nat} {A A' B : Option Addr} {m : Nat} (h : ∀ x ∈ blkA A', x ∈ blkA A ∨ m ≤ x) : ∀ x ∈ fam g A' B, x ∈ fam g A B ∨ m ≤ x := fun x hx => by
  rcases List.mem_cons.1 hx with rfl | hx
  · exact .inl (by simp [fam])
  · rcases List.mem_append.1 hx with hx | hx
    · exact .inl (by simp [fam, hx])
    · rcases h x hx with h1 | h1
      · exact .inl (by simp [fam, h1])
      · exact .inr h1
theorem fam_right {g : Nat} {A B B' : Option Addr} {m : Nat} (h : blkA B' = blkA B) : ∀ x ∈ fam g A B', x ∈ fam g A B ∨ m ≤ x := fun x hx => .inl (by unfold fam at hx ⊢; rw [h] at hx; exact hx)

theorem run_make_bytes (N : Nat) (hN : N ≤ 1099511627776) (w : World) :
    (Instr.makeSlice 28 (.int .i64 0) (.int .i64 (N : Int))).run Try.prog w = .ok (.slice (some ⟨w.heap.size, 0, none⟩) 0 N) (w.alloc (.cells (madeCells #[.int .u8 0] N) 5)) := by
  obtain ⟨ht, _, i, hi, hz, hs, hb⟩ := is_bytes
  have hr := run_make (P := Try.prog) w 28 5 i (.int .u8 0) ht hi hz .i64 .i64 0 N (Int.le_refl _) (by omega) (by rw [hb]; omega) (by omega)
  simp only [Int.toNat_natCast, hs, Nat.mul_one, Int.toNat_zero] at hr
  exact hr

set_option maxHeartbeats 400000 in
theorem pnext_no (h : PW w g F Z R s) (h0 : s.wt.length = 0) :
    Calls Try.prog 18 #[.pointer (some ⟨g, 0, none⟩)] w fun e w' => e = .returned (.tuple #[.slice none 0 0, .int .i64 0, .bool false]) ∧ w = w' := by
  have hl := pleft_any h h0
  clear h h0
  go_enter Try.func18, Try.ntmps18
  go_wp2_with fail
  refine hl.mono ?_
  rintro e w1 ⟨rfl, rfl⟩
  go_wp2
  go_ret3
  exact ⟨rfl, rfl⟩
set_option maxHeartbeats 400000 in
theorem pnext_nil (w : World) : Calls Try.prog 18 #[.pointer none] w fun e w' => e = .returned (.tuple #[.slice none 0 0, .int .i64 0, .bool false]) ∧ w = w' := by
  go_enter Try.func18, Try.ntmps18
  go_wp2_with fail
  refine (pleft_nil w).mono ?_
  rintro e w1 ⟨rfl, rfl⟩
  go_wp2
  go_ret3
  exact ⟨rfl, rfl⟩

set_option maxRecDepth 100000 in
set_option maxHeartbeats 4000000 in
theorem pnext_yes (h : PW w g F Z R s) (h0 : 0 < s.wt.length) :
    Calls Try.prog 18 #[.pointer (some ⟨g, 0, none⟩)] w fun e w' => ∃ v F', e = .returned (.tuple #[v, .int .i64 ((nxP Z s : Nat) : Int), .bool true]) ∧ Ow w' w.heap.size 5 v (nxF Z s) ∧ (∀ i, v.ownBlock = some i → i ∉ F') ∧ PW w' g F' Z R (nxS Z s) ∧ Only F w w' ∧ ∀ x ∈ F', x ∈ F ∨ w.heap.size ≤ x := by
  obtain ⟨⟨Ar, nr, cr, Aw, nw, cw, hc, rfl⟩, hZ1, hZ2, hR, hs⟩ := h
  have hlw := hc.mw.1
  have hlr := hc.mr.1
  obtain ⟨P, hP⟩ : ∃ P, nxP Z s = P := ⟨_, rfl⟩
  have hle := pleft_pc hc hZ1
  have hfi := pfirst_pc hc hs hR
  rw [hP] at hfi ⊢
  have t0 : ((nw : Int) == 0) = false := by simp; omega
  have t0' : (nw == 0) = false := by simp; omega
  have hmk := run_make_bytes Z (by omega)
  -- the numbers
  obtain ⟨k1, hk1⟩ : ∃ k1, k1 = min Z nr := ⟨_, rfl⟩
  have hA : nxA Z s = Z - k1 := by unfold nxA; rw [List.length_take, hlr, hk1]
  obtain ⟨m1, hm1⟩ : ∃ m1, m1 = Z - k1 := ⟨_, rfl⟩
  rw [← hm1] at hA
  obtain ⟨k2, hk2⟩ : ∃ k2, k2 = min m1 nw := ⟨_, rfl⟩
  have hB : nxB Z s = m1 - k2 := by unfold nxB; rw [hA, List.length_take, hlw, hk2]
  obtain ⟨m2, hm2⟩ : ∃ m2, m2 = m1 - k2 := ⟨_, rfl⟩
  rw [← hm2] at hB
  obtain ⟨q2, hq2⟩ : ∃ q2, q2 = k1 + k2 := ⟨_, rfl⟩
  have i1 : (Z : Int) - (k1 : Int) = (m1 : Int) := by omega
  have i2 : (Z : Int) - (q2 : Int) = (m2 : Int) := by omega
  have b1 : k1 ≤ 1012 := by omega
  have b2 : q2 ≤ 1012 := by omega
  have HN := Lib.hid (And.intro hk1 (And.intro hm1 (And.intro hk2 (And.intro hm2 (And.intro hq2 (And.intro hA hB))))))
  have HS := Lib.hid (And.intro hc (And.intro hs (And.intro hlw hlr)))
  clear hk1 hA hm1 hk2 hB hm2 hq2 hc hs hlw hlr h0 hP
  go_enter Try.func18, Try.ntmps18
  go_wp2_with fail
  refine hle.mono ?_
  rintro e w1 ⟨rfl, rfl⟩
  go_wp2_with fail
  refine hfi.mono ?_
  rintro e w1 ⟨rfl, bw1⟩
  obtain ⟨w2, hw2⟩ : ∃ w2, w2 = w1.alloc (.cells (madeCells #[.int .u8 0] Z) 5) := ⟨_, rfl⟩
  have bw2 : Below w.heap.size w w2 := by rw [hw2]; exact bw1.alloc bw1.size _
  have hc1 := HS.out.1.below bw1
  have hc2 := HS.out.1.below bw2
  have ow2 : Ow w2 w.heap.size 5 (.slice (some ⟨w1.heap.size, 0, none⟩) 0 Z) [] := by
    rw [hw2]
    exact World.ownsRow_made w1 _ Z bw1.size (by unfold maxLen; omega) (by rw [size_madeCells]; simp)
  have N2 : NX w w2 g (fam g Ar Aw) Z R s Ar nr cr Aw nw cw (.slice (some ⟨w1.heap.size, 0, none⟩) 0 Z) [] :=
    ⟨hc2, ow2, (fun i hi hm => by have := hc1.lt i hm; have : w1.heap.size = i := by simpa [Value.ownBlock] using hi
                                  omega), Only.of_below bw2, fun x hx => .inl hx, by simp [fam]⟩
  have c0 := hc1.c.cell 0
  simp at c0
  have d0 := hc2.c.cell 0
  simp at d0
  have e0 : (w1.alloc (.cells (madeCells #[.int .u8 0] Z) 5)).cell? ⟨g, 0, none⟩ = some (.int .i64 (Z : Int)) := by rw [← hw2]; exact d0
  have x3 := takeRest_pc hc2 Z HN.out.1
  clear ow2 hc1 hc2 bw1 bw2 hle hfi
  go_wp2_with fail
  rw [← hw2]
  refine x3.mono ?_
  clear hw2 x3
  rintro e w3 ⟨rfl, rd3, ⟨A3, n3, c3, p3, hb3⟩, k3⟩
  have N3 := N2.step k3 p3 (fam_left (fun x hx => .inl (by rw [← hb3]; exact hx)))
  have hl3 := rd3.len
  have HL3 := Lib.hid hl3
  clear N2 c0 d0 e0 p3 hb3 k3
  go_wp2_with (at_builtin; refine wpList_appAt _ is_bytes rfl (.tmp 17) (.tmp 23) rfl (m := []) rfl N3.ow (l := s.rs.take Z) (by rw [HL3.out]; rfl) rd3.bs rd3.nil (by rw [HL3.out]; simp; omega) N3.on.size ?_; intro v4 w4 o4 g4 hv4; rw [List.nil_append] at o4; have N4 := N3.app g4 o4 hv4; obtain ⟨A4, c4, rfl, _⟩ := o4.reads_len HL3.out; have c0 := N4.pc.c.cell 0; simp at c0; clear N3 o4 g4 hv4)
  have x5 := takeWaiting_pc N4.pc HS.out.2.1.rest hR m1 HN.out.2.2.1
  refine x5.mono ?_
  clear x5 rd3 HL3 hl3 c0
  rintro e w5 ⟨rfl, rd5', ⟨A5, n5, c5, p5, hb5⟩, k5⟩
  have rd5 : Rd w5 Aw (s.wt.take m1) k2 cw := rd5'
  have N5 := N4.step k5 p5 (fam_right hb5)
  have HL5 := Lib.hid rd5.len
  have c0 := N5.pc.c.cell 0
  simp at c0
  have HL6 : Hid ((s.rs.take Z ++ s.wt.take m1).length = q2) := Lib.hid (by rw [List.length_append, HL5.out, List.length_take, HS.out.2.2.2]; have := HN.out; omega)
  have q0 : k1 + k2 = q2 := by have := HN.out; omega
  have HQ := Lib.hid q0
  have HK : Hid ((s.rs.take Z).length = k1) := Lib.hid (by rw [List.length_take, HS.out.2.2.2]; have := HN.out; omega)
  clear N4 rd5' p5 hb5 k5 q0
  go_wp2_with (at_builtin; refine wpList_appAt _ is_bytes rfl (.tmp 25) (.tmp 34) rfl (m := s.rs.take Z) rfl N5.ow (l := s.wt.take m1) (by rw [HL5.out]; rfl) rd5.bs rd5.nil (by rw [HL5.out, HK.out]; have := HQ.out; omega) N5.on.size ?_; intro v6 w6 o6 g6 hv6; have N6 := N5.app g6 o6 hv6; obtain ⟨A6, c6, rfl, _⟩ := o6.reads_len HL6.out; have c0 := N6.pc.c.cell 0; simp at c0; clear N5 o6 g6 hv6)
  have x7 := takeIdle_pc N6.pc m2 (by have := HN.out; omega)
  refine x7.mono ?_
  clear x7 rd5 HL5 c0
  rintro e w7 ⟨⟨A7, c7, rfl, rd7⟩, ⟨A8, n8, c8, p7, hb7⟩, k7⟩
  have N7 := N6.step k7 p7 (fam_left hb7)
  have HL7 := Lib.hid rd7.len
  have HA := Lib.hid HN.out.2.2.2.2.2
  have eF : nxF Z s = s.rs.take Z ++ s.wt.take m1 ++ (fil m2).take m2 := by unfold nxF; rw [HA.out.1, HA.out.2]
  have HL8 : Hid ((s.rs.take Z ++ s.wt.take m1 ++ (fil m2).take m2).length = Z) := Lib.hid (by rw [← eF]; exact nxF_len hZ2)
  have HE := Lib.hid eF
  clear eF
  clear N6 p7 hb7 k7
  go_wp2_with (at_builtin; refine wpList_appAt _ is_bytes rfl (.tmp 36) (.tmp 45) rfl (m := s.rs.take Z ++ s.wt.take m1) rfl N7.ow (l := (fil m2).take m2) (by rw [HL7.out]; rfl) rd7.bs rd7.nil (by rw [HL7.out, HL6.out]; have := HN.out; omega) N7.on.size ?_; intro v8 w8 o8 g8 hv8; have N8 := N7.app g8 o8 hv8; obtain ⟨A9, c9, rfl, _⟩ := o8.reads_len HL8.out; clear N7 o8 g8 hv8)
  have eS : nxS Z s = ((s.rest Z).take m1).idle m2 := by unfold nxS; rw [HA.out.1, HA.out.2]
  rw [HE.out, eS]
  have hok := HS.out.2.1.next hZ2
  rw [eS] at hok
  go_ret3
  exact ⟨_, _, rfl, N8.ow, N8.ap, ⟨⟨_, _, _, _, _, _, N8.pc, rfl⟩, hZ1, hZ2, hR, hok⟩, N8.on, N8.nb⟩
end
end Go.Proofs.Ytjjjlgaidklokaa.Pkr
