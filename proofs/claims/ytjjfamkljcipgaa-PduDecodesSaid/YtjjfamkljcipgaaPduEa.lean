/-
  Package pdu: Encode, what is not valid.
  Package pdu: Encode, kind 1.
  Package pdu: Encode, kind 2.
  Package pdu: Encode, kind 3.
-/
import Derived.Test.YtjjfamkljcipgaaPduW5
namespace Go.Proofs.Ytjjfamkljcipgaa.Pdu
open Go.RowKit Go.Proofs.Ytjjfamkljcipgaa.Row

theorem to_u64 (X : Nat) (h : X < 4294967296) : IntKind.u64.wrap (X : Int) = (X : Int) := by rw [IntKind.wrap_u64]; omega
theorem Bx.lt_ {w : World} {b n c : Nat} {l : List Byte} (h : Bx w (some ⟨b, 0, none⟩) l n c) (hl : 0 < l.length) : b < w.heap.size := by
  obtain ⟨b', o', e, hlt, _⟩ := h.bs hl
  injection e with e
  injection e with e1
  rw [e1]
  exact hlt

set_option maxRecDepth 100000 in
set_option maxHeartbeats 4000000 in
theorem pencode_no (kd sr nm cl : Int) (na : List Byte) (sz of : Int) (da : List Byte) (su : Nat) (co : Int) (ga : List R) (A : Option Addr) (n a : Nat) (G : Option Addr) (m c : Nat) (w : World) (h : Px w ⟨kd, sr, nm, cl, na, sz, of, da, su, co, ga⟩ A n a G m c) (hok : ok ⟨kd, sr, nm, cl, na, sz, of, da, su, co, ga⟩ = false) :
    Calls Try.prog 10 #[.agg #[I kd, I sr, I nm, I cl, .string (str na), I sz, I of, .slice A n a, .int .u32 (su : Int), I co, .slice G m c]] w fun e w' => e = .returned (.tuple #[.slice none 0 0, I 1]) ∧ Below w.heap.size w w' := by
  have b0 := bel_new w (.cells #[I kd, I sr, I nm, I cl, .string (str na), I sz, I of, .slice A n a, .int .u32 (su : Int), I co, .slice G m c] 29)
  have hv := pvalid_any kd sr nm cl na sz of da su co ga A n a G m c _ (h.later b0)
  rw [hok] at hv
  clear hok h
  go_enter Try.func10, Try.ntmps10
  go_wp2_with fail
  refine hv.mono ?_
  rintro e w1 ⟨rfl, hb⟩
  go_wp2
  go_ret2
  exact ⟨rfl, b0.trans (hb.mono b0.size)⟩
end Go.Proofs.Ytjjfamkljcipgaa.Pdu
namespace Go.Proofs.Ytjjfamkljcipgaa.Pdu
open Go.RowKit Go.Proofs.Ytjjfamkljcipgaa.Row

set_option maxRecDepth 100000 in
set_option maxHeartbeats 4000000 in
theorem pencode_k1 (SR NM : Nat) (CL : Nat) (co : Int) (na : List Byte) (sz of : Int) (da : List Byte) (su : Nat) (ga : List R) (A : Option Addr) (n a : Nat) (G : Option Addr) (m c : Nat) (w : World) (h : Px w ⟨1, (SR : Int), (NM : Int), (CL : Int), na, sz, of, da, su, co, ga⟩ A n a G m c) (hok : ok ⟨1, (SR : Int), (NM : Int), (CL : Int), na, sz, of, da, su, co, ga⟩ = true) (hSR : SR ≤ 15) (hNM : NM ≤ 65535) (hCL : CL ≤ 2) (hsz : 0 ≤ sz ∧ sz ≤ 65536) (hna : 1 ≤ na.length ∧ na.length ≤ 64) :
    Calls Try.prog 10 #[.agg #[I 1, I (SR : Int), I (NM : Int), I (CL : Int), .string (str na), I sz, I of, .slice A n a, .int .u32 (su : Int), I co, .slice G m c]] w fun e w' => (∃ A' n' c', e = .returned (.tuple #[.slice A' n' c', I 0]) ∧ Bo w' A' (enc ⟨1, (SR : Int), (NM : Int), (CL : Int), na, sz, of, da, su, co, ga⟩) n' c') ∧ Below w.heap.size w w' := by
  obtain ⟨E, hE⟩ : ∃ E, E = enc ⟨1, (SR : Int), (NM : Int), (CL : Int), na, sz, of, da, su, co, ga⟩ := ⟨_, rfl⟩
  rw [← hE]
  have HE := Lib.hid hE
  have b0 := bel_new w (.cells #[I 1, I (SR : Int), I (NM : Int), I (CL : Int), .string (str na), I sz, I of, .slice A n a, .int .u32 (su : Int), I co, .slice G m c] 29)
  have hC0 := Cel.new w 29 #[I 1, I (SR : Int), I (NM : Int), I (CL : Int), .string (str na), I sz, I of, .slice A n a, .int .u32 (su : Int), I co, .slice G m c]
  have hv := pvalid_any 1 (SR : Int) (NM : Int) (CL : Int) na sz of da su co ga A n a G m c _ (h.later b0)
  rw [hok] at hv
  have hsu := h.s
  simp only at hsu
  have k1 := to_u64 SR (by omega)
  have k2 := to_u64 NM (by omega)
  have k3 := to_u64 CL (by omega)
  clear hok hE
  go_enter Try.func10, Try.ntmps10
  go_wp2_with fail
  refine hv.mono ?_
  rintro e w1 ⟨rfl, hb⟩
  have b1 := b0.trans (hb.mono b0.size)
  have HP := Lib.hid (h.later b1)
  have hC1 := Cel.on hC0 hb
  have hlt := hC1.lt
  have c0 := hC1.cell 0
  have c1 := hC1.cell 1
  have c2 := hC1.cell 2
  have c3 := hC1.cell 3
  have c4 := hC1.cell 4
  have c5 := hC1.cell 5
  have c6 := hC1.cell 6
  have c7 := hC1.cell 7
  have c8 := hC1.cell 8
  have c9 := hC1.cell 9
  have c10 := hC1.cell 10
  simp only [List.getElem?_toArray, List.getElem?_cons_zero, List.getElem?_cons_succ] at c0 c1 c2 c3 c4 c5 c6 c7 c8 c9 c10
  clear hv hC0 hC1 hb b0 h
  go_wp2_with fail
  refine wp_region_held_drew (S := (fun w' => w'.cell? ⟨w.heap.size, 0, none⟩ = some (I 1))) (by kernel_rfl) (c0) (fun hHeld => ?_)
  refine wpAnyH_here 1 (v := ?_) rfl (by kernel_rfl) (by kernel_rfl) (by kernel_rfl) (fun _ _ _ h => h) (Or.inl ⟨by rfl, ?_⟩) hHeld ?_
  rotate_left
  · intro w hSw; (try dsimp only at hSw); go_simp; all_goals (with_reducible rfl)
  try simp only [Act.put, List.setIfInBounds_toArray, List.set_cons_zero, List.set_cons_succ]
  refine wpAnyH_here 2 (v := ?_) rfl (by kernel_rfl) (by kernel_rfl) (by kernel_rfl) (fun _ _ _ h => h) (Or.inl ⟨by rfl, ?_⟩) hHeld ?_
  rotate_left
  · intro w hSw; (try dsimp only at hSw); go_simp; all_goals (with_reducible rfl)
  try simp only [Act.put, List.setIfInBounds_toArray, List.set_cons_zero, List.set_cons_succ]
  refine wpAnyH_here 3 (v := ?_) rfl (by kernel_rfl) (by kernel_rfl) (by kernel_rfl) (fun _ _ _ h => h) (Or.inl ⟨by rfl, ?_⟩) hHeld ?_
  rotate_left
  · intro w hSw; (try dsimp only at hSw); go_simp; all_goals (with_reducible rfl)
  try simp only [Act.put, List.setIfInBounds_toArray, List.set_cons_zero, List.set_cons_succ]
  refine wpAnyH_alone 0 rfl (by kernel_rfl) (fun K hK => ?_)
  go_simp
  (go_at_call 19; refine (onew_any _).mono ?_; rintro e W0 ⟨rfl, hW0⟩; have s0 : WS w1 w1.heap.size [] W0 := by rw [← hW0]; exact WS.new (Below.refl _ _).drew); clear hW0; have HB := s0.bel
  refine hK.out _ _ ((HB.cell (p := ⟨w.heap.size, 0, none⟩) hlt).trans c0) (fun hHeld => ?_)
  clear hK K
  try simp only [Act.put, List.setIfInBounds_toArray, List.set_cons_zero, List.set_cons_succ]
  refine wpAnyH_alone 4 rfl (by kernel_rfl) (fun K hK => ?_)
  go_simp
  (go_at_call 20; refine (s0.uint (1 : Int) 1 rfl 1 1 rfl (by decide) (by decide)).mono ?_; rintro e W1 ⟨rfl, s1⟩; have HB := s1.bel)
  refine hK.out _ _ ((HB.cell (p := ⟨w.heap.size, 0, none⟩) hlt).trans c0) (fun hHeld => ?_)
  clear hK K
  try simp only [Act.put, List.setIfInBounds_toArray, List.set_cons_zero, List.set_cons_succ]
  refine wpAnyH_here 5 (v := ?_) rfl (by kernel_rfl) (by kernel_rfl) (by kernel_rfl) (fun _ _ _ h => h) (Or.inl ⟨by rfl, ?_⟩) hHeld ?_
  rotate_left
  · intro w hSw; (try dsimp only at hSw); go_simp; all_goals (with_reducible rfl)
  try simp only [Act.put, List.setIfInBounds_toArray, List.set_cons_zero, List.set_cons_succ]
  refine wpAnyH_done (by kernel_rfl) ?_ _
  have d1 := (HB.cell (p := ⟨w.heap.size, 1, none⟩) hlt).trans c1
  have d2 := (HB.cell (p := ⟨w.heap.size, 2, none⟩) hlt).trans c2
  clear s0
  go_wp2_with fail
  refine wp_region_held_drew (S := (fun w' => w'.cell? ⟨w.heap.size, 1, none⟩ = some (I (SR : Int)) ∧ w'.cell? ⟨w.heap.size, 2, none⟩ = some (I (NM : Int)))) (by kernel_rfl) (⟨d1, d2⟩) (fun hHeld => ?_)
  refine wpAnyH_here 0 (v := ?_) rfl (by kernel_rfl) (by kernel_rfl) (by kernel_rfl) (fun _ _ _ h => h) (Or.inl ⟨by rfl, ?_⟩) hHeld ?_
  rotate_left
  · intro w hSw; (try dsimp only at hSw); go_simp; all_goals (with_reducible rfl)
  try simp only [Act.put, List.setIfInBounds_toArray, List.set_cons_zero, List.set_cons_succ]
  refine wpAnyH_here 1 (v := ?_) rfl (by kernel_rfl) (by kernel_rfl) (by kernel_rfl) (fun _ _ _ h => h) (Or.inl ⟨by rfl, ?_⟩) hHeld ?_
  rotate_left
  · intro w hSw; (try dsimp only at hSw); go_simp; all_goals (with_reducible rfl)
  try simp only [Act.put, List.setIfInBounds_toArray, List.set_cons_zero, List.set_cons_succ]
  refine wpAnyH_here 2 (v := ?_) rfl (by kernel_rfl) (by kernel_rfl) (by kernel_rfl) (fun _ _ _ h => h) (Or.inl ⟨by rfl, ?_⟩) hHeld ?_
  rotate_left
  · intro w hSw; (try dsimp only at hSw); go_simp; all_goals (with_reducible rfl)
  try simp only [Act.put, List.setIfInBounds_toArray, List.set_cons_zero, List.set_cons_succ]
  refine wpAnyH_here 3 (v := ?_) rfl (by kernel_rfl) (by kernel_rfl) (by kernel_rfl) (fun _ _ _ h => h) (Or.inl ⟨by rfl, ?_⟩) hHeld ?_
  rotate_left
  · intro w hSw; (try dsimp only at hSw); go_simp; all_goals (with_reducible rfl)
  try simp only [Act.put, List.setIfInBounds_toArray, List.set_cons_zero, List.set_cons_succ]
  refine wpAnyH_here 4 (v := ?_) rfl (by kernel_rfl) (by kernel_rfl) (by kernel_rfl) (fun _ _ _ h => h) (Or.inl ⟨by rfl, ?_⟩) hHeld ?_
  rotate_left
  · intro w hSw; (try dsimp only at hSw); go_simp; all_goals (with_reducible rfl)
  try simp only [Act.put, List.setIfInBounds_toArray, List.set_cons_zero, List.set_cons_succ]
  refine wpAnyH_here 6 (v := ?_) rfl (by kernel_rfl) (by kernel_rfl) (by kernel_rfl) (fun _ _ _ h => h) (Or.inl ⟨by rfl, ?_⟩) hHeld ?_
  rotate_left
  · intro w hSw; (try dsimp only at hSw); go_simp; all_goals (with_reducible rfl)
  try simp only [Act.put, List.setIfInBounds_toArray, List.set_cons_zero, List.set_cons_succ]
  refine wpAnyH_here 7 (v := ?_) rfl (by kernel_rfl) (by kernel_rfl) (by kernel_rfl) (fun _ _ _ h => h) (Or.inl ⟨by rfl, ?_⟩) hHeld ?_
  rotate_left
  · intro w hSw; (try dsimp only at hSw); go_simp; all_goals (with_reducible rfl)
  try simp only [Act.put, List.setIfInBounds_toArray, List.set_cons_zero, List.set_cons_succ]
  refine wpAnyH_here 8 (v := ?_) rfl (by kernel_rfl) (by kernel_rfl) (by kernel_rfl) (fun _ _ _ h => h) (Or.inl ⟨by rfl, ?_⟩) hHeld ?_
  rotate_left
  · intro w hSw; (try dsimp only at hSw); go_simp; all_goals (with_reducible rfl)
  try simp only [Act.put, List.setIfInBounds_toArray, List.set_cons_zero, List.set_cons_succ]
  refine wpAnyH_here 9 (v := ?_) rfl (by kernel_rfl) (by kernel_rfl) (by kernel_rfl) (fun _ _ _ h => h) (Or.inl ⟨by rfl, ?_⟩) hHeld ?_
  rotate_left
  · intro w hSw; (try dsimp only at hSw); go_simp; all_goals (with_reducible rfl)
  try simp only [Act.put, List.setIfInBounds_toArray, List.set_cons_zero, List.set_cons_succ]
  refine wpAnyH_alone 5 rfl (by kernel_rfl) (fun K hK => ?_)
  go_simp
  (go_at_call 20; refine (s1.drew.uint (SR : Int) SR rfl 1 1 rfl (by decide) (by simp [be_len])).mono ?_; rintro e W2 ⟨rfl, s2⟩; have HB := s2.bel)
  refine hK.out _ _ (⟨(HB.cell (p := ⟨w.heap.size, 1, none⟩) hlt).trans c1, (HB.cell (p := ⟨w.heap.size, 2, none⟩) hlt).trans c2⟩) (fun hHeld => ?_)
  clear hK K
  try simp only [Act.put, List.setIfInBounds_toArray, List.set_cons_zero, List.set_cons_succ]
  refine wpAnyH_alone 10 rfl (by kernel_rfl) (fun K hK => ?_)
  go_simp
  (go_at_call 20; refine (s2.uint (NM : Int) NM rfl 2 2 rfl (by decide) (by simp [be_len])).mono ?_; rintro e W3 ⟨rfl, s3⟩; have HB := s3.bel)
  refine hK.out _ _ (⟨(HB.cell (p := ⟨w.heap.size, 1, none⟩) hlt).trans c1, (HB.cell (p := ⟨w.heap.size, 2, none⟩) hlt).trans c2⟩) (fun hHeld => ?_)
  clear hK K
  try simp only [Act.put, List.setIfInBounds_toArray, List.set_cons_zero, List.set_cons_succ]
  refine wpAnyH_done (by kernel_rfl) ?_ _
  obtain ⟨L, hL⟩ : ∃ L, L = [] ++ be 1 1 ++ be SR 1 ++ be NM 2 := ⟨_, rfl⟩
  rw [← hL] at s3
  have hL4 : L.length = 4 := by rw [hL]; simp [be_len]
  have HL := Lib.hid hL
  clear hL s1 s2 d1 d2
  have d0 := (HB.cell (p := ⟨w.heap.size, 0, none⟩) hlt).trans c0
  have d3 := (HB.cell (p := ⟨w.heap.size, 3, none⟩) hlt).trans c3
  have d4 := (HB.cell (p := ⟨w.heap.size, 4, none⟩) hlt).trans c4
  have d5 := (HB.cell (p := ⟨w.heap.size, 5, none⟩) hlt).trans c5
  have hsL := encI_len (n := sz) (by omega)
  obtain ⟨N, hN⟩ : ∃ N, na.length = N := ⟨_, rfl⟩
  rw [hN] at hna
  have HN := Lib.hid hN
  clear hN
  go_wp2_with fail
  refine wp_region_held_drew (S := (fun w' => w'.cell? ⟨w.heap.size, 3, none⟩ = some (I (CL : Int)) ∧ w'.cell? ⟨w.heap.size, 4, none⟩ = some (.string (str na)) ∧ w'.cell? ⟨w.heap.size, 5, none⟩ = some (I sz))) (by kernel_rfl) (⟨d3, d4, d5⟩) (fun hHeld => ?_)
  refine wpAnyH_here 0 (v := ?_) rfl (by kernel_rfl) (by kernel_rfl) (by kernel_rfl) (fun _ _ _ h => h) (Or.inl ⟨by rfl, ?_⟩) hHeld ?_
  rotate_left
  · intro w hSw; (try dsimp only at hSw); go_simp; all_goals (with_reducible rfl)
  try simp only [Act.put, List.setIfInBounds_toArray, List.set_cons_zero, List.set_cons_succ]
  refine wpAnyH_here 1 (v := ?_) rfl (by kernel_rfl) (by kernel_rfl) (by kernel_rfl) (fun _ _ _ h => h) (Or.inl ⟨by rfl, ?_⟩) hHeld ?_
  rotate_left
  · intro w hSw; (try dsimp only at hSw); go_simp; all_goals (with_reducible rfl)
  try simp only [Act.put, List.setIfInBounds_toArray, List.set_cons_zero, List.set_cons_succ]
  refine wpAnyH_here 2 (v := ?_) rfl (by kernel_rfl) (by kernel_rfl) (by kernel_rfl) (fun _ _ _ h => h) (Or.inl ⟨by rfl, ?_⟩) hHeld ?_
  rotate_left
  · intro w hSw; (try dsimp only at hSw); go_simp; all_goals (with_reducible rfl)
  try simp only [Act.put, List.setIfInBounds_toArray, List.set_cons_zero, List.set_cons_succ]
  refine wpAnyH_here 3 (v := ?_) rfl (by kernel_rfl) (by kernel_rfl) (by kernel_rfl) (fun _ _ _ h => h) (Or.inl ⟨by rfl, ?_⟩) hHeld ?_
  rotate_left
  · intro w hSw; (try dsimp only at hSw); go_simp; all_goals (with_reducible rfl)
  try simp only [Act.put, List.setIfInBounds_toArray, List.set_cons_zero, List.set_cons_succ]
  refine wpAnyH_here 5 (v := ?_) rfl (by kernel_rfl) (by kernel_rfl) (by kernel_rfl) (fun _ _ _ h => h) (Or.inl ⟨by rfl, ?_⟩) hHeld ?_
  rotate_left
  · intro w hSw; (try dsimp only at hSw); go_simp; all_goals (with_reducible rfl)
  try simp only [Act.put, List.setIfInBounds_toArray, List.set_cons_zero, List.set_cons_succ]
  refine wpAnyH_here 6 (v := ?_) rfl (by kernel_rfl) (by kernel_rfl) (by kernel_rfl) (fun _ _ _ h => h) (Or.inl ⟨by rfl, ?_⟩) hHeld ?_
  rotate_left
  · intro w hSw; (try dsimp only at hSw); go_simp; all_goals (with_reducible rfl)
  try simp only [Act.put, List.setIfInBounds_toArray, List.set_cons_zero, List.set_cons_succ]
  refine wpAnyH_here 8 (v := ?_) rfl (by kernel_rfl) (by kernel_rfl) (by kernel_rfl) (fun _ _ _ h => h) (Or.inl ⟨by rfl, ?_⟩) hHeld ?_
  rotate_left
  · intro w hSw; (try dsimp only at hSw); go_simp; all_goals (with_reducible rfl)
  try simp only [Act.put, List.setIfInBounds_toArray, List.set_cons_zero, List.set_cons_succ]
  refine wpAnyH_here 9 (v := ?_) rfl (by kernel_rfl) (by kernel_rfl) (by kernel_rfl) (fun _ _ _ h => h) (Or.inl ⟨by rfl, ?_⟩) hHeld ?_
  rotate_left
  · intro w hSw; (try dsimp only at hSw); go_simp; all_goals (with_reducible rfl)
  try simp only [Act.put, List.setIfInBounds_toArray, List.set_cons_zero, List.set_cons_succ]
  refine wpAnyH_both 4 10 rfl rfl (by kernel_rfl) (fun K hK => ?_) (fun K hK => ?_)
  · have s3 := s3.drew
    go_simp
    (go_at_call 20; refine (s3.uint (CL : Int) CL rfl 1 1 rfl (by decide) (by omega)).mono ?_; rintro e W4 ⟨rfl, s4⟩; have HB := s4.bel)
    refine hK.out _ _ (⟨(HB.cell (p := ⟨w.heap.size, 3, none⟩) hlt).trans c3, (HB.cell (p := ⟨w.heap.size, 4, none⟩) hlt).trans c4, (HB.cell (p := ⟨w.heap.size, 5, none⟩) hlt).trans c5⟩) (fun hHeld => ?_)
    clear hK K
    try simp only [Act.put, List.setIfInBounds_toArray, List.set_cons_zero, List.set_cons_succ]
    refine wpAnyH_both 7 10 rfl rfl (by kernel_rfl) (fun K hK => ?_) (fun K hK => ?_)
    · go_simp
      (go_at_call 21; refine (s4.int sz (by omega) (by simp only [List.length_append, be_len]; omega)).mono ?_; rintro e W5 ⟨rfl, s5⟩; have HB := s5.bel)
      refine hK.out _ _ (⟨(HB.cell (p := ⟨w.heap.size, 3, none⟩) hlt).trans c3, (HB.cell (p := ⟨w.heap.size, 4, none⟩) hlt).trans c4, (HB.cell (p := ⟨w.heap.size, 5, none⟩) hlt).trans c5⟩) (fun hHeld => ?_)
      clear hK K
      try simp only [Act.put, List.setIfInBounds_toArray, List.set_cons_zero, List.set_cons_succ]
      refine wpAnyH_alone 10 rfl (by kernel_rfl) (fun K hK => ?_)
      obtain ⟨cc, W8, hrun, hrd, hb5⟩ := conv_bytes na N HN.out (by omega) _
      have t5 := WB.of_conv s5 hrd hb5 (hrd.lt_ (by rw [HN.out]; omega))
      refine step_conv _ rfl (.tmp 37) 9 24 rfl (v := .string (str na)) (by simp [Act.eval]) hrun ?_
      have HB := t5.ws.bel
      refine hK.out _ _ (⟨(HB.cell (p := ⟨w.heap.size, 3, none⟩) hlt).trans c3, (HB.cell (p := ⟨w.heap.size, 4, none⟩) hlt).trans c4, (HB.cell (p := ⟨w.heap.size, 5, none⟩) hlt).trans c5⟩) (fun hHeld => ?_)
      clear hK K
      try simp only [Act.put, List.setIfInBounds_toArray, List.set_cons_zero, List.set_cons_succ]
      refine wpAnyH_alone 11 rfl (by kernel_rfl) (fun K hK => ?_)
      go_simp
      (go_at_call 22; refine (t5.blob (by simp only [List.length_append, be_len]; omega)).mono ?_; rintro e W6 ⟨rfl, s6⟩; have HB := s6.bel)
      refine hK.out _ _ (⟨(HB.cell (p := ⟨w.heap.size, 3, none⟩) hlt).trans c3, (HB.cell (p := ⟨w.heap.size, 4, none⟩) hlt).trans c4, (HB.cell (p := ⟨w.heap.size, 5, none⟩) hlt).trans c5⟩) (fun hHeld => ?_)
      clear hK K
      try simp only [Act.put, List.setIfInBounds_toArray, List.set_cons_zero, List.set_cons_succ]
      refine wpAnyH_done (by kernel_rfl) ?_ _
      have hfl : ((L ++ be CL 1) ++ encI sz) ++ encB na = E := by rw [HE.out, HL.out]; simp [enc, hd, bd]
      have hfn : (((L ++ be CL 1) ++ encI sz) ++ encB na).length < 100000 := by
        have := encI_len (n := (na.length : Int)) (by rw [HN.out]; omega)
        simp only [List.length_append, be_len, encB, HN.out]
        simp only [HN.out] at this
        omega
      rw [hfl] at s6 hfn
      clear hfl
      go_wp2_with fail
      refine (s6.bytes hfn).mono ?_
      rintro e w9 ⟨⟨A9, n9, c9, rfl, hB9⟩, hb9⟩
      go_wp2
      go_ret2
      exact ⟨⟨A9, n9, c9, rfl, hB9⟩, b1.trans ((s6.bel.trans (hb9.mono s6.bel.size)).mono b1.size)⟩
    · obtain ⟨cc, W8, hrun, hrd, hb5⟩ := conv_bytes na N HN.out (by omega) _
      have t4 := WB.of_conv s4 hrd hb5 (hrd.lt_ (by rw [HN.out]; omega))
      refine step_conv _ rfl (.tmp 37) 9 24 rfl (v := .string (str na)) (by simp [Act.eval]) hrun ?_
      have HB := t4.ws.bel
      refine hK.out _ _ (⟨(HB.cell (p := ⟨w.heap.size, 3, none⟩) hlt).trans c3, (HB.cell (p := ⟨w.heap.size, 4, none⟩) hlt).trans c4, (HB.cell (p := ⟨w.heap.size, 5, none⟩) hlt).trans c5⟩) (fun hHeld => ?_)
      clear hK K
      try simp only [Act.put, List.setIfInBounds_toArray, List.set_cons_zero, List.set_cons_succ]
      refine wpAnyH_alone 7 rfl (by kernel_rfl) (fun K hK => ?_)
      go_simp
      (go_at_call 21; refine (t4.int sz (by omega) (by simp only [List.length_append, be_len]; omega)).mono ?_; rintro e W5 ⟨rfl, s5⟩; have HB := s5.ws.bel)
      refine hK.out _ _ (⟨(HB.cell (p := ⟨w.heap.size, 3, none⟩) hlt).trans c3, (HB.cell (p := ⟨w.heap.size, 4, none⟩) hlt).trans c4, (HB.cell (p := ⟨w.heap.size, 5, none⟩) hlt).trans c5⟩) (fun hHeld => ?_)
      clear hK K
      try simp only [Act.put, List.setIfInBounds_toArray, List.set_cons_zero, List.set_cons_succ]
      refine wpAnyH_alone 11 rfl (by kernel_rfl) (fun K hK => ?_)
      go_simp
      (go_at_call 22; refine (s5.blob (by simp only [List.length_append, be_len]; omega)).mono ?_; rintro e W6 ⟨rfl, s6⟩; have HB := s6.bel)
      refine hK.out _ _ (⟨(HB.cell (p := ⟨w.heap.size, 3, none⟩) hlt).trans c3, (HB.cell (p := ⟨w.heap.size, 4, none⟩) hlt).trans c4, (HB.cell (p := ⟨w.heap.size, 5, none⟩) hlt).trans c5⟩) (fun hHeld => ?_)
      clear hK K
      try simp only [Act.put, List.setIfInBounds_toArray, List.set_cons_zero, List.set_cons_succ]
      refine wpAnyH_done (by kernel_rfl) ?_ _
      have hfl : ((L ++ be CL 1) ++ encI sz) ++ encB na = E := by rw [HE.out, HL.out]; simp [enc, hd, bd]
      have hfn : (((L ++ be CL 1) ++ encI sz) ++ encB na).length < 100000 := by
        have := encI_len (n := (na.length : Int)) (by rw [HN.out]; omega)
        simp only [List.length_append, be_len, encB, HN.out]
        simp only [HN.out] at this
        omega
      rw [hfl] at s6 hfn
      clear hfl
      go_wp2_with fail
      refine (s6.bytes hfn).mono ?_
      rintro e w9 ⟨⟨A9, n9, c9, rfl, hB9⟩, hb9⟩
      go_wp2
      go_ret2
      exact ⟨⟨A9, n9, c9, rfl, hB9⟩, b1.trans ((s6.bel.trans (hb9.mono s6.bel.size)).mono b1.size)⟩
  · have s3 := s3.drew
    obtain ⟨cc, W8, hrun, hrd, hb5⟩ := conv_bytes na N HN.out (by omega) _
    have t3 := WB.of_conv s3 hrd hb5 (hrd.lt_ (by rw [HN.out]; omega))
    refine step_conv _ rfl (.tmp 37) 9 24 rfl (v := .string (str na)) (by simp [Act.eval]) hrun ?_
    have HB := t3.ws.bel
    refine hK.out _ _ (⟨(HB.cell (p := ⟨w.heap.size, 3, none⟩) hlt).trans c3, (HB.cell (p := ⟨w.heap.size, 4, none⟩) hlt).trans c4, (HB.cell (p := ⟨w.heap.size, 5, none⟩) hlt).trans c5⟩) (fun hHeld => ?_)
    clear hK K
    try simp only [Act.put, List.setIfInBounds_toArray, List.set_cons_zero, List.set_cons_succ]
    refine wpAnyH_alone 4 rfl (by kernel_rfl) (fun K hK => ?_)
    go_simp
    (go_at_call 20; refine (t3.uint (CL : Int) CL rfl 1 1 rfl (by decide) (by omega)).mono ?_; rintro e W4 ⟨rfl, s4⟩; have HB := s4.ws.bel)
    refine hK.out _ _ (⟨(HB.cell (p := ⟨w.heap.size, 3, none⟩) hlt).trans c3, (HB.cell (p := ⟨w.heap.size, 4, none⟩) hlt).trans c4, (HB.cell (p := ⟨w.heap.size, 5, none⟩) hlt).trans c5⟩) (fun hHeld => ?_)
    clear hK K
    try simp only [Act.put, List.setIfInBounds_toArray, List.set_cons_zero, List.set_cons_succ]
    refine wpAnyH_alone 7 rfl (by kernel_rfl) (fun K hK => ?_)
    go_simp
    (go_at_call 21; refine (s4.int sz (by omega) (by simp only [List.length_append, be_len]; omega)).mono ?_; rintro e W5 ⟨rfl, s5⟩; have HB := s5.ws.bel)
    refine hK.out _ _ (⟨(HB.cell (p := ⟨w.heap.size, 3, none⟩) hlt).trans c3, (HB.cell (p := ⟨w.heap.size, 4, none⟩) hlt).trans c4, (HB.cell (p := ⟨w.heap.size, 5, none⟩) hlt).trans c5⟩) (fun hHeld => ?_)
    clear hK K
    try simp only [Act.put, List.setIfInBounds_toArray, List.set_cons_zero, List.set_cons_succ]
    refine wpAnyH_alone 11 rfl (by kernel_rfl) (fun K hK => ?_)
    go_simp
    (go_at_call 22; refine (s5.blob (by simp only [List.length_append, be_len]; omega)).mono ?_; rintro e W6 ⟨rfl, s6⟩; have HB := s6.bel)
    refine hK.out _ _ (⟨(HB.cell (p := ⟨w.heap.size, 3, none⟩) hlt).trans c3, (HB.cell (p := ⟨w.heap.size, 4, none⟩) hlt).trans c4, (HB.cell (p := ⟨w.heap.size, 5, none⟩) hlt).trans c5⟩) (fun hHeld => ?_)
    clear hK K
    try simp only [Act.put, List.setIfInBounds_toArray, List.set_cons_zero, List.set_cons_succ]
    refine wpAnyH_done (by kernel_rfl) ?_ _
    have hfl : ((L ++ be CL 1) ++ encI sz) ++ encB na = E := by rw [HE.out, HL.out]; simp [enc, hd, bd]
    have hfn : (((L ++ be CL 1) ++ encI sz) ++ encB na).length < 100000 := by
      have := encI_len (n := (na.length : Int)) (by rw [HN.out]; omega)
      simp only [List.length_append, be_len, encB, HN.out]
      simp only [HN.out] at this
      omega
    rw [hfl] at s6 hfn
    clear hfl
    go_wp2_with fail
    refine (s6.bytes hfn).mono ?_
    rintro e w9 ⟨⟨A9, n9, c9, rfl, hB9⟩, hb9⟩
    go_wp2
    go_ret2
    exact ⟨⟨A9, n9, c9, rfl, hB9⟩, b1.trans ((s6.bel.trans (hb9.mono s6.bel.size)).mono b1.size)⟩
end Go.Proofs.Ytjjfamkljcipgaa.Pdu
namespace Go.Proofs.Ytjjfamkljcipgaa.Pdu
open Go.RowKit Go.Proofs.Ytjjfamkljcipgaa.Row

set_option maxRecDepth 100000 in
set_option maxHeartbeats 4000000 in
theorem pencode_k2 (SR NM : Nat) (cl : Int) (co : Int) (na : List Byte) (sz of : Int) (da : List Byte) (su : Nat) (ga : List R) (A : Option Addr) (n a : Nat) (G : Option Addr) (m c : Nat) (w : World) (h : Px w ⟨2, (SR : Int), (NM : Int), cl, na, sz, of, da, su, co, ga⟩ A n a G m c) (hok : ok ⟨2, (SR : Int), (NM : Int), cl, na, sz, of, da, su, co, ga⟩ = true) (hSR : SR ≤ 15) (hNM : NM ≤ 65535) (hof : 0 ≤ of ∧ of ≤ 65536) (hn : n ≤ 512) :
    Calls Try.prog 10 #[.agg #[I 2, I (SR : Int), I (NM : Int), I cl, .string (str na), I sz, I of, .slice A n a, .int .u32 (su : Int), I co, .slice G m c]] w fun e w' => (∃ A' n' c', e = .returned (.tuple #[.slice A' n' c', I 0]) ∧ Bo w' A' (enc ⟨2, (SR : Int), (NM : Int), cl, na, sz, of, da, su, co, ga⟩) n' c') ∧ Below w.heap.size w w' := by
  obtain ⟨E, hE⟩ : ∃ E, E = enc ⟨2, (SR : Int), (NM : Int), cl, na, sz, of, da, su, co, ga⟩ := ⟨_, rfl⟩
  rw [← hE]
  have HE := Lib.hid hE
  have b0 := bel_new w (.cells #[I 2, I (SR : Int), I (NM : Int), I cl, .string (str na), I sz, I of, .slice A n a, .int .u32 (su : Int), I co, .slice G m c] 29)
  have hC0 := Cel.new w 29 #[I 2, I (SR : Int), I (NM : Int), I cl, .string (str na), I sz, I of, .slice A n a, .int .u32 (su : Int), I co, .slice G m c]
  have hv := pvalid_any 2 (SR : Int) (NM : Int) cl na sz of da su co ga A n a G m c _ (h.later b0)
  rw [hok] at hv
  have hsu := h.s
  simp only at hsu
  have k1 := to_u64 SR (by omega)
  have k2 := to_u64 NM (by omega)
  clear hok hE
  go_enter Try.func10, Try.ntmps10
  go_wp2_with fail
  refine hv.mono ?_
  rintro e w1 ⟨rfl, hb⟩
  have b1 := b0.trans (hb.mono b0.size)
  have HP := Lib.hid (h.later b1)
  have hC1 := Cel.on hC0 hb
  have hlt := hC1.lt
  have c0 := hC1.cell 0
  have c1 := hC1.cell 1
  have c2 := hC1.cell 2
  have c3 := hC1.cell 3
  have c4 := hC1.cell 4
  have c5 := hC1.cell 5
  have c6 := hC1.cell 6
  have c7 := hC1.cell 7
  have c8 := hC1.cell 8
  have c9 := hC1.cell 9
  have c10 := hC1.cell 10
  simp only [List.getElem?_toArray, List.getElem?_cons_zero, List.getElem?_cons_succ] at c0 c1 c2 c3 c4 c5 c6 c7 c8 c9 c10
  clear hv hC0 hC1 hb b0 h
  go_wp2_with fail
  refine wp_region_held_drew (S := (fun w' => w'.cell? ⟨w.heap.size, 0, none⟩ = some (I 2))) (by kernel_rfl) (c0) (fun hHeld => ?_)
  refine wpAnyH_here 1 (v := ?_) rfl (by kernel_rfl) (by kernel_rfl) (by kernel_rfl) (fun _ _ _ h => h) (Or.inl ⟨by rfl, ?_⟩) hHeld ?_
  rotate_left
  · intro w hSw; (try dsimp only at hSw); go_simp; all_goals (with_reducible rfl)
  try simp only [Act.put, List.setIfInBounds_toArray, List.set_cons_zero, List.set_cons_succ]
  refine wpAnyH_here 2 (v := ?_) rfl (by kernel_rfl) (by kernel_rfl) (by kernel_rfl) (fun _ _ _ h => h) (Or.inl ⟨by rfl, ?_⟩) hHeld ?_
  rotate_left
  · intro w hSw; (try dsimp only at hSw); go_simp; all_goals (with_reducible rfl)
  try simp only [Act.put, List.setIfInBounds_toArray, List.set_cons_zero, List.set_cons_succ]
  refine wpAnyH_here 3 (v := ?_) rfl (by kernel_rfl) (by kernel_rfl) (by kernel_rfl) (fun _ _ _ h => h) (Or.inl ⟨by rfl, ?_⟩) hHeld ?_
  rotate_left
  · intro w hSw; (try dsimp only at hSw); go_simp; all_goals (with_reducible rfl)
  try simp only [Act.put, List.setIfInBounds_toArray, List.set_cons_zero, List.set_cons_succ]
  refine wpAnyH_alone 0 rfl (by kernel_rfl) (fun K hK => ?_)
  go_simp
  (go_at_call 19; refine (onew_any _).mono ?_; rintro e W0 ⟨rfl, hW0⟩; have s0 : WS w1 w1.heap.size [] W0 := by rw [← hW0]; exact WS.new (Below.refl _ _).drew); clear hW0; have HB := s0.bel
  refine hK.out _ _ ((HB.cell (p := ⟨w.heap.size, 0, none⟩) hlt).trans c0) (fun hHeld => ?_)
  clear hK K
  try simp only [Act.put, List.setIfInBounds_toArray, List.set_cons_zero, List.set_cons_succ]
  refine wpAnyH_alone 4 rfl (by kernel_rfl) (fun K hK => ?_)
  go_simp
  (go_at_call 20; refine (s0.uint (2 : Int) 2 rfl 1 1 rfl (by decide) (by decide)).mono ?_; rintro e W1 ⟨rfl, s1⟩; have HB := s1.bel)
  refine hK.out _ _ ((HB.cell (p := ⟨w.heap.size, 0, none⟩) hlt).trans c0) (fun hHeld => ?_)
  clear hK K
  try simp only [Act.put, List.setIfInBounds_toArray, List.set_cons_zero, List.set_cons_succ]
  refine wpAnyH_here 5 (v := ?_) rfl (by kernel_rfl) (by kernel_rfl) (by kernel_rfl) (fun _ _ _ h => h) (Or.inl ⟨by rfl, ?_⟩) hHeld ?_
  rotate_left
  · intro w hSw; (try dsimp only at hSw); go_simp; all_goals (with_reducible rfl)
  try simp only [Act.put, List.setIfInBounds_toArray, List.set_cons_zero, List.set_cons_succ]
  refine wpAnyH_done (by kernel_rfl) ?_ _
  have d1 := (HB.cell (p := ⟨w.heap.size, 1, none⟩) hlt).trans c1
  have d2 := (HB.cell (p := ⟨w.heap.size, 2, none⟩) hlt).trans c2
  clear s0
  go_wp2_with fail
  refine wp_region_held_drew (S := (fun w' => w'.cell? ⟨w.heap.size, 1, none⟩ = some (I (SR : Int)) ∧ w'.cell? ⟨w.heap.size, 2, none⟩ = some (I (NM : Int)))) (by kernel_rfl) (⟨d1, d2⟩) (fun hHeld => ?_)
  refine wpAnyH_here 0 (v := ?_) rfl (by kernel_rfl) (by kernel_rfl) (by kernel_rfl) (fun _ _ _ h => h) (Or.inl ⟨by rfl, ?_⟩) hHeld ?_
  rotate_left
  · intro w hSw; (try dsimp only at hSw); go_simp; all_goals (with_reducible rfl)
  try simp only [Act.put, List.setIfInBounds_toArray, List.set_cons_zero, List.set_cons_succ]
  refine wpAnyH_here 1 (v := ?_) rfl (by kernel_rfl) (by kernel_rfl) (by kernel_rfl) (fun _ _ _ h => h) (Or.inl ⟨by rfl, ?_⟩) hHeld ?_
  rotate_left
  · intro w hSw; (try dsimp only at hSw); go_simp; all_goals (with_reducible rfl)
  try simp only [Act.put, List.setIfInBounds_toArray, List.set_cons_zero, List.set_cons_succ]
  refine wpAnyH_here 2 (v := ?_) rfl (by kernel_rfl) (by kernel_rfl) (by kernel_rfl) (fun _ _ _ h => h) (Or.inl ⟨by rfl, ?_⟩) hHeld ?_
  rotate_left
  · intro w hSw; (try dsimp only at hSw); go_simp; all_goals (with_reducible rfl)
  try simp only [Act.put, List.setIfInBounds_toArray, List.set_cons_zero, List.set_cons_succ]
  refine wpAnyH_here 3 (v := ?_) rfl (by kernel_rfl) (by kernel_rfl) (by kernel_rfl) (fun _ _ _ h => h) (Or.inl ⟨by rfl, ?_⟩) hHeld ?_
  rotate_left
  · intro w hSw; (try dsimp only at hSw); go_simp; all_goals (with_reducible rfl)
  try simp only [Act.put, List.setIfInBounds_toArray, List.set_cons_zero, List.set_cons_succ]
  refine wpAnyH_here 4 (v := ?_) rfl (by kernel_rfl) (by kernel_rfl) (by kernel_rfl) (fun _ _ _ h => h) (Or.inl ⟨by rfl, ?_⟩) hHeld ?_
  rotate_left
  · intro w hSw; (try dsimp only at hSw); go_simp; all_goals (with_reducible rfl)
  try simp only [Act.put, List.setIfInBounds_toArray, List.set_cons_zero, List.set_cons_succ]
  refine wpAnyH_here 6 (v := ?_) rfl (by kernel_rfl) (by kernel_rfl) (by kernel_rfl) (fun _ _ _ h => h) (Or.inl ⟨by rfl, ?_⟩) hHeld ?_
  rotate_left
  · intro w hSw; (try dsimp only at hSw); go_simp; all_goals (with_reducible rfl)
  try simp only [Act.put, List.setIfInBounds_toArray, List.set_cons_zero, List.set_cons_succ]
  refine wpAnyH_here 7 (v := ?_) rfl (by kernel_rfl) (by kernel_rfl) (by kernel_rfl) (fun _ _ _ h => h) (Or.inl ⟨by rfl, ?_⟩) hHeld ?_
  rotate_left
  · intro w hSw; (try dsimp only at hSw); go_simp; all_goals (with_reducible rfl)
  try simp only [Act.put, List.setIfInBounds_toArray, List.set_cons_zero, List.set_cons_succ]
  refine wpAnyH_here 8 (v := ?_) rfl (by kernel_rfl) (by kernel_rfl) (by kernel_rfl) (fun _ _ _ h => h) (Or.inl ⟨by rfl, ?_⟩) hHeld ?_
  rotate_left
  · intro w hSw; (try dsimp only at hSw); go_simp; all_goals (with_reducible rfl)
  try simp only [Act.put, List.setIfInBounds_toArray, List.set_cons_zero, List.set_cons_succ]
  refine wpAnyH_here 9 (v := ?_) rfl (by kernel_rfl) (by kernel_rfl) (by kernel_rfl) (fun _ _ _ h => h) (Or.inl ⟨by rfl, ?_⟩) hHeld ?_
  rotate_left
  · intro w hSw; (try dsimp only at hSw); go_simp; all_goals (with_reducible rfl)
  try simp only [Act.put, List.setIfInBounds_toArray, List.set_cons_zero, List.set_cons_succ]
  refine wpAnyH_alone 5 rfl (by kernel_rfl) (fun K hK => ?_)
  go_simp
  (go_at_call 20; refine (s1.drew.uint (SR : Int) SR rfl 1 1 rfl (by decide) (by simp [be_len])).mono ?_; rintro e W2 ⟨rfl, s2⟩; have HB := s2.bel)
  refine hK.out _ _ (⟨(HB.cell (p := ⟨w.heap.size, 1, none⟩) hlt).trans c1, (HB.cell (p := ⟨w.heap.size, 2, none⟩) hlt).trans c2⟩) (fun hHeld => ?_)
  clear hK K
  try simp only [Act.put, List.setIfInBounds_toArray, List.set_cons_zero, List.set_cons_succ]
  refine wpAnyH_alone 10 rfl (by kernel_rfl) (fun K hK => ?_)
  go_simp
  (go_at_call 20; refine (s2.uint (NM : Int) NM rfl 2 2 rfl (by decide) (by simp [be_len])).mono ?_; rintro e W3 ⟨rfl, s3⟩; have HB := s3.bel)
  refine hK.out _ _ (⟨(HB.cell (p := ⟨w.heap.size, 1, none⟩) hlt).trans c1, (HB.cell (p := ⟨w.heap.size, 2, none⟩) hlt).trans c2⟩) (fun hHeld => ?_)
  clear hK K
  try simp only [Act.put, List.setIfInBounds_toArray, List.set_cons_zero, List.set_cons_succ]
  refine wpAnyH_done (by kernel_rfl) ?_ _
  obtain ⟨L, hL⟩ : ∃ L, L = [] ++ be 2 1 ++ be SR 1 ++ be NM 2 := ⟨_, rfl⟩
  rw [← hL] at s3
  have hL4 : L.length = 4 := by rw [hL]; simp [be_len]
  have HL := Lib.hid hL
  clear hL s1 s2 d1 d2
  have d0 := (HB.cell (p := ⟨w.heap.size, 0, none⟩) hlt).trans c0
  have d6 := (HB.cell (p := ⟨w.heap.size, 6, none⟩) hlt).trans c6
  have d7 := (HB.cell (p := ⟨w.heap.size, 7, none⟩) hlt).trans c7
  have hsL := encI_len (n := of) (by omega)
  have hBx := HP.out.b
  simp only at hBx
  have hdl := encI_len (n := (n : Int)) (by omega)
  go_wp2_with fail
  refine wp_region_held_drew (S := (fun w' => w'.cell? ⟨w.heap.size, 6, none⟩ = some (I of) ∧ w'.cell? ⟨w.heap.size, 7, none⟩ = some (.slice A n a))) (by kernel_rfl) (⟨d6, d7⟩) (fun hHeld => ?_)
  refine wpAnyH_here 0 (v := ?_) rfl (by kernel_rfl) (by kernel_rfl) (by kernel_rfl) (fun _ _ _ h => h) (Or.inl ⟨by rfl, ?_⟩) hHeld ?_
  rotate_left
  · intro w hSw; (try dsimp only at hSw); go_simp; all_goals (with_reducible rfl)
  try simp only [Act.put, List.setIfInBounds_toArray, List.set_cons_zero, List.set_cons_succ]
  refine wpAnyH_here 1 (v := ?_) rfl (by kernel_rfl) (by kernel_rfl) (by kernel_rfl) (fun _ _ _ h => h) (Or.inl ⟨by rfl, ?_⟩) hHeld ?_
  rotate_left
  · intro w hSw; (try dsimp only at hSw); go_simp; all_goals (with_reducible rfl)
  try simp only [Act.put, List.setIfInBounds_toArray, List.set_cons_zero, List.set_cons_succ]
  refine wpAnyH_here 2 (v := ?_) rfl (by kernel_rfl) (by kernel_rfl) (by kernel_rfl) (fun _ _ _ h => h) (Or.inl ⟨by rfl, ?_⟩) hHeld ?_
  rotate_left
  · intro w hSw; (try dsimp only at hSw); go_simp; all_goals (with_reducible rfl)
  try simp only [Act.put, List.setIfInBounds_toArray, List.set_cons_zero, List.set_cons_succ]
  refine wpAnyH_here 4 (v := ?_) rfl (by kernel_rfl) (by kernel_rfl) (by kernel_rfl) (fun _ _ _ h => h) (Or.inl ⟨by rfl, ?_⟩) hHeld ?_
  rotate_left
  · intro w hSw; (try dsimp only at hSw); go_simp; all_goals (with_reducible rfl)
  try simp only [Act.put, List.setIfInBounds_toArray, List.set_cons_zero, List.set_cons_succ]
  refine wpAnyH_here 5 (v := ?_) rfl (by kernel_rfl) (by kernel_rfl) (by kernel_rfl) (fun _ _ _ h => h) (Or.inl ⟨by rfl, ?_⟩) hHeld ?_
  rotate_left
  · intro w hSw; (try dsimp only at hSw); go_simp; all_goals (with_reducible rfl)
  try simp only [Act.put, List.setIfInBounds_toArray, List.set_cons_zero, List.set_cons_succ]
  refine wpAnyH_alone 3 rfl (by kernel_rfl) (fun K hK => ?_)
  go_simp
  (go_at_call 21; refine (s3.drew.int of (by omega) (by omega)).mono ?_; rintro e W4 ⟨rfl, s4⟩; have HB := s4.bel)
  refine hK.out _ _ (⟨(HB.cell (p := ⟨w.heap.size, 6, none⟩) hlt).trans c6, (HB.cell (p := ⟨w.heap.size, 7, none⟩) hlt).trans c7⟩) (fun hHeld => ?_)
  clear hK K
  try simp only [Act.put, List.setIfInBounds_toArray, List.set_cons_zero, List.set_cons_succ]
  refine wpAnyH_alone 6 rfl (by kernel_rfl) (fun K hK => ?_)
  go_simp
  (go_at_call 22; refine (s4.blob hBx (by simp only [List.length_append]; omega)).mono ?_; rintro e W5 ⟨rfl, s5⟩; have HB := s5.bel)
  refine hK.out _ _ (⟨(HB.cell (p := ⟨w.heap.size, 6, none⟩) hlt).trans c6, (HB.cell (p := ⟨w.heap.size, 7, none⟩) hlt).trans c7⟩) (fun hHeld => ?_)
  clear hK K
  try simp only [Act.put, List.setIfInBounds_toArray, List.set_cons_zero, List.set_cons_succ]
  refine wpAnyH_done (by kernel_rfl) ?_ _
  have hfl : ((L ++ encI of) ++ encB da) = E := by rw [HE.out, HL.out]; simp [enc, hd, bd]
  have hfn : ((L ++ encI of) ++ encB da).length < 100000 := by
    have hq := hBx.len
    simp only [List.length_append, encB, hq]
    omega
  rw [hfl] at s5 hfn
  clear hfl
  go_wp2_with fail
  refine (s5.bytes hfn).mono ?_
  rintro e w9 ⟨⟨A9, n9, c9, rfl, hB9⟩, hb9⟩
  go_wp2
  go_ret2
  exact ⟨⟨A9, n9, c9, rfl, hB9⟩, b1.trans ((s5.bel.trans (hb9.mono s5.bel.size)).mono b1.size)⟩
end Go.Proofs.Ytjjfamkljcipgaa.Pdu
namespace Go.Proofs.Ytjjfamkljcipgaa.Pdu
open Go.RowKit Go.Proofs.Ytjjfamkljcipgaa.Row

set_option maxRecDepth 100000 in
set_option maxHeartbeats 4000000 in
theorem pencode_k3 (SR NM : Nat) (CL : Nat) (CO : Nat) (na : List Byte) (sz of : Int) (da : List Byte) (su : Nat) (ga : List R) (A : Option Addr) (n a : Nat) (G : Option Addr) (m c : Nat) (w : World) (h : Px w ⟨3, (SR : Int), (NM : Int), (CL : Int), na, sz, of, da, su, (CO : Int), ga⟩ A n a G m c) (hok : ok ⟨3, (SR : Int), (NM : Int), (CL : Int), na, sz, of, da, su, (CO : Int), ga⟩ = true) (hSR : SR ≤ 15) (hNM : NM ≤ 65535) (hCL : CL ≤ 2) (hsz : 0 ≤ sz ∧ sz ≤ 65536) (hCO : CO ≤ 17) :
    Calls Try.prog 10 #[.agg #[I 3, I (SR : Int), I (NM : Int), I (CL : Int), .string (str na), I sz, I of, .slice A n a, .int .u32 (su : Int), I (CO : Int), .slice G m c]] w fun e w' => (∃ A' n' c', e = .returned (.tuple #[.slice A' n' c', I 0]) ∧ Bo w' A' (enc ⟨3, (SR : Int), (NM : Int), (CL : Int), na, sz, of, da, su, (CO : Int), ga⟩) n' c') ∧ Below w.heap.size w w' := by
  obtain ⟨E, hE⟩ : ∃ E, E = enc ⟨3, (SR : Int), (NM : Int), (CL : Int), na, sz, of, da, su, (CO : Int), ga⟩ := ⟨_, rfl⟩
  rw [← hE]
  have HE := Lib.hid hE
  have b0 := bel_new w (.cells #[I 3, I (SR : Int), I (NM : Int), I (CL : Int), .string (str na), I sz, I of, .slice A n a, .int .u32 (su : Int), I (CO : Int), .slice G m c] 29)
  have hC0 := Cel.new w 29 #[I 3, I (SR : Int), I (NM : Int), I (CL : Int), .string (str na), I sz, I of, .slice A n a, .int .u32 (su : Int), I (CO : Int), .slice G m c]
  have hv := pvalid_any 3 (SR : Int) (NM : Int) (CL : Int) na sz of da su (CO : Int) ga A n a G m c _ (h.later b0)
  rw [hok] at hv
  have hsu := h.s
  simp only at hsu
  have k1 := to_u64 SR (by omega)
  have k2 := to_u64 NM (by omega)
  have k3 := to_u64 CL (by omega)
  have k4 := to_u64 CO (by omega)
  have k5 := to_u64 su hsu
  clear hok hE
  go_enter Try.func10, Try.ntmps10
  go_wp2_with fail
  refine hv.mono ?_
  rintro e w1 ⟨rfl, hb⟩
  have b1 := b0.trans (hb.mono b0.size)
  have HP := Lib.hid (h.later b1)
  have hC1 := Cel.on hC0 hb
  have hlt := hC1.lt
  have c0 := hC1.cell 0
  have c1 := hC1.cell 1
  have c2 := hC1.cell 2
  have c3 := hC1.cell 3
  have c4 := hC1.cell 4
  have c5 := hC1.cell 5
  have c6 := hC1.cell 6
  have c7 := hC1.cell 7
  have c8 := hC1.cell 8
  have c9 := hC1.cell 9
  have c10 := hC1.cell 10
  simp only [List.getElem?_toArray, List.getElem?_cons_zero, List.getElem?_cons_succ] at c0 c1 c2 c3 c4 c5 c6 c7 c8 c9 c10
  clear hv hC0 hC1 hb b0 h
  go_wp2_with fail
  refine wp_region_held_drew (S := (fun w' => w'.cell? ⟨w.heap.size, 0, none⟩ = some (I 3))) (by kernel_rfl) (c0) (fun hHeld => ?_)
  refine wpAnyH_here 1 (v := ?_) rfl (by kernel_rfl) (by kernel_rfl) (by kernel_rfl) (fun _ _ _ h => h) (Or.inl ⟨by rfl, ?_⟩) hHeld ?_
  rotate_left
  · intro w hSw; (try dsimp only at hSw); go_simp; all_goals (with_reducible rfl)
  try simp only [Act.put, List.setIfInBounds_toArray, List.set_cons_zero, List.set_cons_succ]
  refine wpAnyH_here 2 (v := ?_) rfl (by kernel_rfl) (by kernel_rfl) (by kernel_rfl) (fun _ _ _ h => h) (Or.inl ⟨by rfl, ?_⟩) hHeld ?_
  rotate_left
  · intro w hSw; (try dsimp only at hSw); go_simp; all_goals (with_reducible rfl)
  try simp only [Act.put, List.setIfInBounds_toArray, List.set_cons_zero, List.set_cons_succ]
  refine wpAnyH_here 3 (v := ?_) rfl (by kernel_rfl) (by kernel_rfl) (by kernel_rfl) (fun _ _ _ h => h) (Or.inl ⟨by rfl, ?_⟩) hHeld ?_
  rotate_left
  · intro w hSw; (try dsimp only at hSw); go_simp; all_goals (with_reducible rfl)
  try simp only [Act.put, List.setIfInBounds_toArray, List.set_cons_zero, List.set_cons_succ]
  refine wpAnyH_alone 0 rfl (by kernel_rfl) (fun K hK => ?_)
  go_simp
  (go_at_call 19; refine (onew_any _).mono ?_; rintro e W0 ⟨rfl, hW0⟩; have s0 : WS w1 w1.heap.size [] W0 := by rw [← hW0]; exact WS.new (Below.refl _ _).drew); clear hW0; have HB := s0.bel
  refine hK.out _ _ ((HB.cell (p := ⟨w.heap.size, 0, none⟩) hlt).trans c0) (fun hHeld => ?_)
  clear hK K
  try simp only [Act.put, List.setIfInBounds_toArray, List.set_cons_zero, List.set_cons_succ]
  refine wpAnyH_alone 4 rfl (by kernel_rfl) (fun K hK => ?_)
  go_simp
  (go_at_call 20; refine (s0.uint (3 : Int) 3 rfl 1 1 rfl (by decide) (by decide)).mono ?_; rintro e W1 ⟨rfl, s1⟩; have HB := s1.bel)
  refine hK.out _ _ ((HB.cell (p := ⟨w.heap.size, 0, none⟩) hlt).trans c0) (fun hHeld => ?_)
  clear hK K
  try simp only [Act.put, List.setIfInBounds_toArray, List.set_cons_zero, List.set_cons_succ]
  refine wpAnyH_here 5 (v := ?_) rfl (by kernel_rfl) (by kernel_rfl) (by kernel_rfl) (fun _ _ _ h => h) (Or.inl ⟨by rfl, ?_⟩) hHeld ?_
  rotate_left
  · intro w hSw; (try dsimp only at hSw); go_simp; all_goals (with_reducible rfl)
  try simp only [Act.put, List.setIfInBounds_toArray, List.set_cons_zero, List.set_cons_succ]
  refine wpAnyH_done (by kernel_rfl) ?_ _
  have d1 := (HB.cell (p := ⟨w.heap.size, 1, none⟩) hlt).trans c1
  have d2 := (HB.cell (p := ⟨w.heap.size, 2, none⟩) hlt).trans c2
  clear s0
  go_wp2_with fail
  refine wp_region_held_drew (S := (fun w' => w'.cell? ⟨w.heap.size, 1, none⟩ = some (I (SR : Int)) ∧ w'.cell? ⟨w.heap.size, 2, none⟩ = some (I (NM : Int)))) (by kernel_rfl) (⟨d1, d2⟩) (fun hHeld => ?_)
  refine wpAnyH_here 0 (v := ?_) rfl (by kernel_rfl) (by kernel_rfl) (by kernel_rfl) (fun _ _ _ h => h) (Or.inl ⟨by rfl, ?_⟩) hHeld ?_
  rotate_left
  · intro w hSw; (try dsimp only at hSw); go_simp; all_goals (with_reducible rfl)
  try simp only [Act.put, List.setIfInBounds_toArray, List.set_cons_zero, List.set_cons_succ]
  refine wpAnyH_here 1 (v := ?_) rfl (by kernel_rfl) (by kernel_rfl) (by kernel_rfl) (fun _ _ _ h => h) (Or.inl ⟨by rfl, ?_⟩) hHeld ?_
  rotate_left
  · intro w hSw; (try dsimp only at hSw); go_simp; all_goals (with_reducible rfl)
  try simp only [Act.put, List.setIfInBounds_toArray, List.set_cons_zero, List.set_cons_succ]
  refine wpAnyH_here 2 (v := ?_) rfl (by kernel_rfl) (by kernel_rfl) (by kernel_rfl) (fun _ _ _ h => h) (Or.inl ⟨by rfl, ?_⟩) hHeld ?_
  rotate_left
  · intro w hSw; (try dsimp only at hSw); go_simp; all_goals (with_reducible rfl)
  try simp only [Act.put, List.setIfInBounds_toArray, List.set_cons_zero, List.set_cons_succ]
  refine wpAnyH_here 3 (v := ?_) rfl (by kernel_rfl) (by kernel_rfl) (by kernel_rfl) (fun _ _ _ h => h) (Or.inl ⟨by rfl, ?_⟩) hHeld ?_
  rotate_left
  · intro w hSw; (try dsimp only at hSw); go_simp; all_goals (with_reducible rfl)
  try simp only [Act.put, List.setIfInBounds_toArray, List.set_cons_zero, List.set_cons_succ]
  refine wpAnyH_here 4 (v := ?_) rfl (by kernel_rfl) (by kernel_rfl) (by kernel_rfl) (fun _ _ _ h => h) (Or.inl ⟨by rfl, ?_⟩) hHeld ?_
  rotate_left
  · intro w hSw; (try dsimp only at hSw); go_simp; all_goals (with_reducible rfl)
  try simp only [Act.put, List.setIfInBounds_toArray, List.set_cons_zero, List.set_cons_succ]
  refine wpAnyH_here 6 (v := ?_) rfl (by kernel_rfl) (by kernel_rfl) (by kernel_rfl) (fun _ _ _ h => h) (Or.inl ⟨by rfl, ?_⟩) hHeld ?_
  rotate_left
  · intro w hSw; (try dsimp only at hSw); go_simp; all_goals (with_reducible rfl)
  try simp only [Act.put, List.setIfInBounds_toArray, List.set_cons_zero, List.set_cons_succ]
  refine wpAnyH_here 7 (v := ?_) rfl (by kernel_rfl) (by kernel_rfl) (by kernel_rfl) (fun _ _ _ h => h) (Or.inl ⟨by rfl, ?_⟩) hHeld ?_
  rotate_left
  · intro w hSw; (try dsimp only at hSw); go_simp; all_goals (with_reducible rfl)
  try simp only [Act.put, List.setIfInBounds_toArray, List.set_cons_zero, List.set_cons_succ]
  refine wpAnyH_here 8 (v := ?_) rfl (by kernel_rfl) (by kernel_rfl) (by kernel_rfl) (fun _ _ _ h => h) (Or.inl ⟨by rfl, ?_⟩) hHeld ?_
  rotate_left
  · intro w hSw; (try dsimp only at hSw); go_simp; all_goals (with_reducible rfl)
  try simp only [Act.put, List.setIfInBounds_toArray, List.set_cons_zero, List.set_cons_succ]
  refine wpAnyH_here 9 (v := ?_) rfl (by kernel_rfl) (by kernel_rfl) (by kernel_rfl) (fun _ _ _ h => h) (Or.inl ⟨by rfl, ?_⟩) hHeld ?_
  rotate_left
  · intro w hSw; (try dsimp only at hSw); go_simp; all_goals (with_reducible rfl)
  try simp only [Act.put, List.setIfInBounds_toArray, List.set_cons_zero, List.set_cons_succ]
  refine wpAnyH_alone 5 rfl (by kernel_rfl) (fun K hK => ?_)
  go_simp
  (go_at_call 20; refine (s1.drew.uint (SR : Int) SR rfl 1 1 rfl (by decide) (by simp [be_len])).mono ?_; rintro e W2 ⟨rfl, s2⟩; have HB := s2.bel)
  refine hK.out _ _ (⟨(HB.cell (p := ⟨w.heap.size, 1, none⟩) hlt).trans c1, (HB.cell (p := ⟨w.heap.size, 2, none⟩) hlt).trans c2⟩) (fun hHeld => ?_)
  clear hK K
  try simp only [Act.put, List.setIfInBounds_toArray, List.set_cons_zero, List.set_cons_succ]
  refine wpAnyH_alone 10 rfl (by kernel_rfl) (fun K hK => ?_)
  go_simp
  (go_at_call 20; refine (s2.uint (NM : Int) NM rfl 2 2 rfl (by decide) (by simp [be_len])).mono ?_; rintro e W3 ⟨rfl, s3⟩; have HB := s3.bel)
  refine hK.out _ _ (⟨(HB.cell (p := ⟨w.heap.size, 1, none⟩) hlt).trans c1, (HB.cell (p := ⟨w.heap.size, 2, none⟩) hlt).trans c2⟩) (fun hHeld => ?_)
  clear hK K
  try simp only [Act.put, List.setIfInBounds_toArray, List.set_cons_zero, List.set_cons_succ]
  refine wpAnyH_done (by kernel_rfl) ?_ _
  obtain ⟨L, hL⟩ : ∃ L, L = [] ++ be 3 1 ++ be SR 1 ++ be NM 2 := ⟨_, rfl⟩
  rw [← hL] at s3
  have hL4 : L.length = 4 := by rw [hL]; simp [be_len]
  have HL := Lib.hid hL
  clear hL s1 s2 d1 d2
  have d0 := (HB.cell (p := ⟨w.heap.size, 0, none⟩) hlt).trans c0
  have d3 := (HB.cell (p := ⟨w.heap.size, 3, none⟩) hlt).trans c3
  have d5 := (HB.cell (p := ⟨w.heap.size, 5, none⟩) hlt).trans c5
  have d8 := (HB.cell (p := ⟨w.heap.size, 8, none⟩) hlt).trans c8
  have d9 := (HB.cell (p := ⟨w.heap.size, 9, none⟩) hlt).trans c9
  have hsL := encI_len (n := sz) (by omega)
  go_wp2_with fail
  refine wp_region_held_drew (S := (fun w' => w'.cell? ⟨w.heap.size, 3, none⟩ = some (I (CL : Int)) ∧ w'.cell? ⟨w.heap.size, 5, none⟩ = some (I sz) ∧ w'.cell? ⟨w.heap.size, 8, none⟩ = some (.int .u32 (su : Int)) ∧ w'.cell? ⟨w.heap.size, 9, none⟩ = some (I (CO : Int)))) (by kernel_rfl) (⟨d3, d5, d8, d9⟩) (fun hHeld => ?_)
  refine wpAnyH_here 0 (v := ?_) rfl (by kernel_rfl) (by kernel_rfl) (by kernel_rfl) (fun _ _ _ h => h) (Or.inl ⟨by rfl, ?_⟩) hHeld ?_
  rotate_left
  · intro w hSw; (try dsimp only at hSw); go_simp; all_goals (with_reducible rfl)
  try simp only [Act.put, List.setIfInBounds_toArray, List.set_cons_zero, List.set_cons_succ]
  refine wpAnyH_here 1 (v := ?_) rfl (by kernel_rfl) (by kernel_rfl) (by kernel_rfl) (fun _ _ _ h => h) (Or.inl ⟨by rfl, ?_⟩) hHeld ?_
  rotate_left
  · intro w hSw; (try dsimp only at hSw); go_simp; all_goals (with_reducible rfl)
  try simp only [Act.put, List.setIfInBounds_toArray, List.set_cons_zero, List.set_cons_succ]
  refine wpAnyH_here 2 (v := ?_) rfl (by kernel_rfl) (by kernel_rfl) (by kernel_rfl) (fun _ _ _ h => h) (Or.inl ⟨by rfl, ?_⟩) hHeld ?_
  rotate_left
  · intro w hSw; (try dsimp only at hSw); go_simp; all_goals (with_reducible rfl)
  try simp only [Act.put, List.setIfInBounds_toArray, List.set_cons_zero, List.set_cons_succ]
  refine wpAnyH_here 3 (v := ?_) rfl (by kernel_rfl) (by kernel_rfl) (by kernel_rfl) (fun _ _ _ h => h) (Or.inl ⟨by rfl, ?_⟩) hHeld ?_
  rotate_left
  · intro w hSw; (try dsimp only at hSw); go_simp; all_goals (with_reducible rfl)
  try simp only [Act.put, List.setIfInBounds_toArray, List.set_cons_zero, List.set_cons_succ]
  refine wpAnyH_here 5 (v := ?_) rfl (by kernel_rfl) (by kernel_rfl) (by kernel_rfl) (fun _ _ _ h => h) (Or.inl ⟨by rfl, ?_⟩) hHeld ?_
  rotate_left
  · intro w hSw; (try dsimp only at hSw); go_simp; all_goals (with_reducible rfl)
  try simp only [Act.put, List.setIfInBounds_toArray, List.set_cons_zero, List.set_cons_succ]
  refine wpAnyH_here 6 (v := ?_) rfl (by kernel_rfl) (by kernel_rfl) (by kernel_rfl) (fun _ _ _ h => h) (Or.inl ⟨by rfl, ?_⟩) hHeld ?_
  rotate_left
  · intro w hSw; (try dsimp only at hSw); go_simp; all_goals (with_reducible rfl)
  try simp only [Act.put, List.setIfInBounds_toArray, List.set_cons_zero, List.set_cons_succ]
  refine wpAnyH_here 8 (v := ?_) rfl (by kernel_rfl) (by kernel_rfl) (by kernel_rfl) (fun _ _ _ h => h) (Or.inl ⟨by rfl, ?_⟩) hHeld ?_
  rotate_left
  · intro w hSw; (try dsimp only at hSw); go_simp; all_goals (with_reducible rfl)
  try simp only [Act.put, List.setIfInBounds_toArray, List.set_cons_zero, List.set_cons_succ]
  refine wpAnyH_here 9 (v := ?_) rfl (by kernel_rfl) (by kernel_rfl) (by kernel_rfl) (fun _ _ _ h => h) (Or.inl ⟨by rfl, ?_⟩) hHeld ?_
  rotate_left
  · intro w hSw; (try dsimp only at hSw); go_simp; all_goals (with_reducible rfl)
  try simp only [Act.put, List.setIfInBounds_toArray, List.set_cons_zero, List.set_cons_succ]
  refine wpAnyH_here 10 (v := ?_) rfl (by kernel_rfl) (by kernel_rfl) (by kernel_rfl) (fun _ _ _ h => h) (Or.inl ⟨by rfl, ?_⟩) hHeld ?_
  rotate_left
  · intro w hSw; (try dsimp only at hSw); go_simp; all_goals (with_reducible rfl)
  try simp only [Act.put, List.setIfInBounds_toArray, List.set_cons_zero, List.set_cons_succ]
  refine wpAnyH_here 12 (v := ?_) rfl (by kernel_rfl) (by kernel_rfl) (by kernel_rfl) (fun _ _ _ h => h) (Or.inl ⟨by rfl, ?_⟩) hHeld ?_
  rotate_left
  · intro w hSw; (try dsimp only at hSw); go_simp; all_goals (with_reducible rfl)
  try simp only [Act.put, List.setIfInBounds_toArray, List.set_cons_zero, List.set_cons_succ]
  refine wpAnyH_here 13 (v := ?_) rfl (by kernel_rfl) (by kernel_rfl) (by kernel_rfl) (fun _ _ _ h => h) (Or.inl ⟨by rfl, ?_⟩) hHeld ?_
  rotate_left
  · intro w hSw; (try dsimp only at hSw); go_simp; all_goals (with_reducible rfl)
  try simp only [Act.put, List.setIfInBounds_toArray, List.set_cons_zero, List.set_cons_succ]
  refine wpAnyH_here 14 (v := ?_) rfl (by kernel_rfl) (by kernel_rfl) (by kernel_rfl) (fun _ _ _ h => h) (Or.inl ⟨by rfl, ?_⟩) hHeld ?_
  rotate_left
  · intro w hSw; (try dsimp only at hSw); go_simp; all_goals (with_reducible rfl)
  try simp only [Act.put, List.setIfInBounds_toArray, List.set_cons_zero, List.set_cons_succ]
  refine wpAnyH_alone 4 rfl (by kernel_rfl) (fun K hK => ?_)
  go_simp
  (go_at_call 20; refine (s3.drew.uint (CL : Int) CL rfl 1 1 rfl (by decide) (by omega)).mono ?_; rintro e W4 ⟨rfl, s4⟩; have HB := s4.bel)
  refine hK.out _ _ (⟨(HB.cell (p := ⟨w.heap.size, 3, none⟩) hlt).trans c3, (HB.cell (p := ⟨w.heap.size, 5, none⟩) hlt).trans c5, (HB.cell (p := ⟨w.heap.size, 8, none⟩) hlt).trans c8, (HB.cell (p := ⟨w.heap.size, 9, none⟩) hlt).trans c9⟩) (fun hHeld => ?_)
  clear hK K
  try simp only [Act.put, List.setIfInBounds_toArray, List.set_cons_zero, List.set_cons_succ]
  refine wpAnyH_alone 7 rfl (by kernel_rfl) (fun K hK => ?_)
  go_simp
  (go_at_call 21; refine (s4.int sz (by omega) (by simp only [List.length_append, be_len]; omega)).mono ?_; rintro e W5 ⟨rfl, s5⟩; have HB := s5.bel)
  refine hK.out _ _ (⟨(HB.cell (p := ⟨w.heap.size, 3, none⟩) hlt).trans c3, (HB.cell (p := ⟨w.heap.size, 5, none⟩) hlt).trans c5, (HB.cell (p := ⟨w.heap.size, 8, none⟩) hlt).trans c8, (HB.cell (p := ⟨w.heap.size, 9, none⟩) hlt).trans c9⟩) (fun hHeld => ?_)
  clear hK K
  try simp only [Act.put, List.setIfInBounds_toArray, List.set_cons_zero, List.set_cons_succ]
  refine wpAnyH_alone 11 rfl (by kernel_rfl) (fun K hK => ?_)
  go_simp
  (go_at_call 20; refine (s5.uint (su : Int) su rfl 4 4 rfl (by decide) (by simp only [List.length_append, be_len]; omega)).mono ?_; rintro e W6 ⟨rfl, s6⟩; have HB := s6.bel)
  refine hK.out _ _ (⟨(HB.cell (p := ⟨w.heap.size, 3, none⟩) hlt).trans c3, (HB.cell (p := ⟨w.heap.size, 5, none⟩) hlt).trans c5, (HB.cell (p := ⟨w.heap.size, 8, none⟩) hlt).trans c8, (HB.cell (p := ⟨w.heap.size, 9, none⟩) hlt).trans c9⟩) (fun hHeld => ?_)
  clear hK K
  try simp only [Act.put, List.setIfInBounds_toArray, List.set_cons_zero, List.set_cons_succ]
  refine wpAnyH_alone 15 rfl (by kernel_rfl) (fun K hK => ?_)
  go_simp
  (go_at_call 20; refine (s6.uint (CO : Int) CO rfl 1 1 rfl (by decide) (by simp only [List.length_append, be_len]; omega)).mono ?_; rintro e W7 ⟨rfl, s7⟩; have HB := s7.bel)
  refine hK.out _ _ (⟨(HB.cell (p := ⟨w.heap.size, 3, none⟩) hlt).trans c3, (HB.cell (p := ⟨w.heap.size, 5, none⟩) hlt).trans c5, (HB.cell (p := ⟨w.heap.size, 8, none⟩) hlt).trans c8, (HB.cell (p := ⟨w.heap.size, 9, none⟩) hlt).trans c9⟩) (fun hHeld => ?_)
  clear hK K
  try simp only [Act.put, List.setIfInBounds_toArray, List.set_cons_zero, List.set_cons_succ]
  refine wpAnyH_done (by kernel_rfl) ?_ _
  have hfl : ((((L ++ be CL 1) ++ encI sz) ++ be su 4) ++ be CO 1) = E := by rw [HE.out, HL.out]; simp [enc, hd, bd]
  have hfn : ((((L ++ be CL 1) ++ encI sz) ++ be su 4) ++ be CO 1).length < 100000 := by
    simp only [List.length_append, be_len]
    omega
  rw [hfl] at s7 hfn
  clear hfl
  go_wp2_with fail
  refine (s7.bytes hfn).mono ?_
  rintro e w9 ⟨⟨A9, n9, c9, rfl, hB9⟩, hb9⟩
  go_wp2
  go_ret2
  exact ⟨⟨A9, n9, c9, rfl, hB9⟩, b1.trans ((s7.bel.trans (hb9.mono s7.bel.size)).mono b1.size)⟩
end Go.Proofs.Ytjjfamkljcipgaa.Pdu
