/-
  Package pdu: Encode, kind 4.
  Package pdu: Encode, kind 5.
  Package pdu: Encode, kind 6.
  Package pdu: Encode, kind 7.
  Package pdu: Encode, every unit.
-/
import Derived.Test.YtjjfamkljcipgaaPduEa
namespace Go.Proofs.Ytjjfamkljcipgaa.Pdu
open Go.RowKit Go.Proofs.Ytjjfamkljcipgaa.Row

set_option maxRecDepth 100000 in
set_option maxHeartbeats 4000000 in
theorem pencode_k4 (SR NM : Nat) (cl : Int) (co : Int) (na : List Byte) (sz of : Int) (da : List Byte) (su : Nat) (ga : List R) (A : Option Addr) (n a : Nat) (G : Option Addr) (m c : Nat) (w : World) (h : Px w ⟨4, (SR : Int), (NM : Int), cl, na, sz, of, da, su, co, ga⟩ A n a G m c) (hok : ok ⟨4, (SR : Int), (NM : Int), cl, na, sz, of, da, su, co, ga⟩ = true) (hSR : SR ≤ 15) (hNM : NM ≤ 65535) (hga : InR ga) (hm : m ≤ 16) :
    Calls Try.prog 10 #[.agg #[I 4, I (SR : Int), I (NM : Int), I cl, .string (str na), I sz, I of, .slice A n a, .int .u32 (su : Int), I co, .slice G m c]] w fun e w' => (∃ A' n' c', e = .returned (.tuple #[.slice A' n' c', I 0]) ∧ Bo w' A' (enc ⟨4, (SR : Int), (NM : Int), cl, na, sz, of, da, su, co, ga⟩) n' c') ∧ Below w.heap.size w w' := by
  obtain ⟨E, hE⟩ : ∃ E, E = enc ⟨4, (SR : Int), (NM : Int), cl, na, sz, of, da, su, co, ga⟩ := ⟨_, rfl⟩
  rw [← hE]
  have HE := Lib.hid hE
  have b0 := bel_new w (.cells #[I 4, I (SR : Int), I (NM : Int), I cl, .string (str na), I sz, I of, .slice A n a, .int .u32 (su : Int), I co, .slice G m c] 29)
  have hC0 := Cel.new w 29 #[I 4, I (SR : Int), I (NM : Int), I cl, .string (str na), I sz, I of, .slice A n a, .int .u32 (su : Int), I co, .slice G m c]
  have hv := pvalid_any 4 (SR : Int) (NM : Int) cl na sz of da su co ga A n a G m c _ (h.later b0)
  rw [hok] at hv
  have hsu := h.s
  simp only at hsu
  have k1 := to_u64 SR (by omega)
  have k2 := to_u64 NM (by omega)
  clear hok hE
  go_enter Try.func10, Try.ntmps10
  go_wp2_with fail
  refine hv.mono ?_
  rintro e w1 ⟨rfl, hb⟩
  have b1 := b0.trans (hb.mono b0.size)
  have HP := Lib.hid (h.later b1)
  have hC1 := Cel.on hC0 hb
  have hlt := hC1.lt
  have c0 := hC1.cell 0
  have c1 := hC1.cell 1
  have c2 := hC1.cell 2
  have c3 := hC1.cell 3
  have c4 := hC1.cell 4
  have c5 := hC1.cell 5
  have c6 := hC1.cell 6
  have c7 := hC1.cell 7
  have c8 := hC1.cell 8
  have c9 := hC1.cell 9
  have c10 := hC1.cell 10
  simp only [List.getElem?_toArray, List.getElem?_cons_zero, List.getElem?_cons_succ] at c0 c1 c2 c3 c4 c5 c6 c7 c8 c9 c10
  clear hv hC0 hC1 hb b0 h
  go_wp2_with fail
  refine wp_region_held_drew (S := (fun w' => w'.cell? ⟨w.heap.size, 0, none⟩ = some (I 4))) (by kernel_rfl) (c0) (fun hHeld => ?_)
  refine wpAnyH_here 1 (v := ?_) rfl (by kernel_rfl) (by kernel_rfl) (by kernel_rfl) (fun _ _ _ h => h) (Or.inl ⟨by rfl, ?_⟩) hHeld ?_
  rotate_left
  · intro w hSw; (try dsimp only at hSw); go_simp; all_goals (with_reducible rfl)
  try simp only [Act.put, List.setIfInBounds_toArray, List.set_cons_zero, List.set_cons_succ]
  refine wpAnyH_here 2 (v := ?_) rfl (by kernel_rfl) (by kernel_rfl) (by kernel_rfl) (fun _ _ _ h => h) (Or.inl ⟨by rfl, ?_⟩) hHeld ?_
  rotate_left
  · intro w hSw; (try dsimp only at hSw); go_simp; all_goals (with_reducible rfl)
  try simp only [Act.put, List.setIfInBounds_toArray, List.set_cons_zero, List.set_cons_succ]
  refine wpAnyH_here 3 (v := ?_) rfl (by kernel_rfl) (by kernel_rfl) (by kernel_rfl) (fun _ _ _ h => h) (Or.inl ⟨by rfl, ?_⟩) hHeld ?_
  rotate_left
  · intro w hSw; (try dsimp only at hSw); go_simp; all_goals (with_reducible rfl)
  try simp only [Act.put, List.setIfInBounds_toArray, List.set_cons_zero, List.set_cons_succ]
  refine wpAnyH_alone 0 rfl (by kernel_rfl) (fun K hK => ?_)
  go_simp
  (go_at_call 19; refine (onew_any _).mono ?_; rintro e W0 ⟨rfl, hW0⟩; have s0 : WS w1 w1.heap.size [] W0 := by rw [← hW0]; exact WS.new (Below.refl _ _).drew); clear hW0; have HB := s0.bel
  refine hK.out _ _ ((HB.cell (p := ⟨w.heap.size, 0, none⟩) hlt).trans c0) (fun hHeld => ?_)
  clear hK K
  try simp only [Act.put, List.setIfInBounds_toArray, List.set_cons_zero, List.set_cons_succ]
  refine wpAnyH_alone 4 rfl (by kernel_rfl) (fun K hK => ?_)
  go_simp
  (go_at_call 20; refine (s0.uint (4 : Int) 4 rfl 1 1 rfl (by decide) (by decide)).mono ?_; rintro e W1 ⟨rfl, s1⟩; have HB := s1.bel)
  refine hK.out _ _ ((HB.cell (p := ⟨w.heap.size, 0, none⟩) hlt).trans c0) (fun hHeld => ?_)
  clear hK K
  try simp only [Act.put, List.setIfInBounds_toArray, List.set_cons_zero, List.set_cons_succ]
  refine wpAnyH_here 5 (v := ?_) rfl (by kernel_rfl) (by kernel_rfl) (by kernel_rfl) (fun _ _ _ h => h) (Or.inl ⟨by rfl, ?_⟩) hHeld ?_
  rotate_left
  · intro w hSw; (try dsimp only at hSw); go_simp; all_goals (with_reducible rfl)
  try simp only [Act.put, List.setIfInBounds_toArray, List.set_cons_zero, List.set_cons_succ]
  refine wpAnyH_done (by kernel_rfl) ?_ _
  have d1 := (HB.cell (p := ⟨w.heap.size, 1, none⟩) hlt).trans c1
  have d2 := (HB.cell (p := ⟨w.heap.size, 2, none⟩) hlt).trans c2
  clear s0
  go_wp2_with fail
  refine wp_region_held_drew (S := (fun w' => w'.cell? ⟨w.heap.size, 1, none⟩ = some (I (SR : Int)) ∧ w'.cell? ⟨w.heap.size, 2, none⟩ = some (I (NM : Int)))) (by kernel_rfl) (⟨d1, d2⟩) (fun hHeld => ?_)
  refine wpAnyH_here 0 (v := ?_) rfl (by kernel_rfl) (by kernel_rfl) (by kernel_rfl) (fun _ _ _ h => h) (Or.inl ⟨by rfl, ?_⟩) hHeld ?_
  rotate_left
  · intro w hSw; (try dsimp only at hSw); go_simp; all_goals (with_reducible rfl)
  try simp only [Act.put, List.setIfInBounds_toArray, List.set_cons_zero, List.set_cons_succ]
  refine wpAnyH_here 1 (v := ?_) rfl (by kernel_rfl) (by kernel_rfl) (by kernel_rfl) (fun _ _ _ h => h) (Or.inl ⟨by rfl, ?_⟩) hHeld ?_
  rotate_left
  · intro w hSw; (try dsimp only at hSw); go_simp; all_goals (with_reducible rfl)
  try simp only [Act.put, List.setIfInBounds_toArray, List.set_cons_zero, List.set_cons_succ]
  refine wpAnyH_here 2 (v := ?_) rfl (by kernel_rfl) (by kernel_rfl) (by kernel_rfl) (fun _ _ _ h => h) (Or.inl ⟨by rfl, ?_⟩) hHeld ?_
  rotate_left
  · intro w hSw; (try dsimp only at hSw); go_simp; all_goals (with_reducible rfl)
  try simp only [Act.put, List.setIfInBounds_toArray, List.set_cons_zero, List.set_cons_succ]
  refine wpAnyH_here 3 (v := ?_) rfl (by kernel_rfl) (by kernel_rfl) (by kernel_rfl) (fun _ _ _ h => h) (Or.inl ⟨by rfl, ?_⟩) hHeld ?_
  rotate_left
  · intro w hSw; (try dsimp only at hSw); go_simp; all_goals (with_reducible rfl)
  try simp only [Act.put, List.setIfInBounds_toArray, List.set_cons_zero, List.set_cons_succ]
  refine wpAnyH_here 4 (v := ?_) rfl (by kernel_rfl) (by kernel_rfl) (by kernel_rfl) (fun _ _ _ h => h) (Or.inl ⟨by rfl, ?_⟩) hHeld ?_
  rotate_left
  · intro w hSw; (try dsimp only at hSw); go_simp; all_goals (with_reducible rfl)
  try simp only [Act.put, List.setIfInBounds_toArray, List.set_cons_zero, List.set_cons_succ]
  refine wpAnyH_here 6 (v := ?_) rfl (by kernel_rfl) (by kernel_rfl) (by kernel_rfl) (fun _ _ _ h => h) (Or.inl ⟨by rfl, ?_⟩) hHeld ?_
  rotate_left
  · intro w hSw; (try dsimp only at hSw); go_simp; all_goals (with_reducible rfl)
  try simp only [Act.put, List.setIfInBounds_toArray, List.set_cons_zero, List.set_cons_succ]
  refine wpAnyH_here 7 (v := ?_) rfl (by kernel_rfl) (by kernel_rfl) (by kernel_rfl) (fun _ _ _ h => h) (Or.inl ⟨by rfl, ?_⟩) hHeld ?_
  rotate_left
  · intro w hSw; (try dsimp only at hSw); go_simp; all_goals (with_reducible rfl)
  try simp only [Act.put, List.setIfInBounds_toArray, List.set_cons_zero, List.set_cons_succ]
  refine wpAnyH_here 8 (v := ?_) rfl (by kernel_rfl) (by kernel_rfl) (by kernel_rfl) (fun _ _ _ h => h) (Or.inl ⟨by rfl, ?_⟩) hHeld ?_
  rotate_left
  · intro w hSw; (try dsimp only at hSw); go_simp; all_goals (with_reducible rfl)
  try simp only [Act.put, List.setIfInBounds_toArray, List.set_cons_zero, List.set_cons_succ]
  refine wpAnyH_here 9 (v := ?_) rfl (by kernel_rfl) (by kernel_rfl) (by kernel_rfl) (fun _ _ _ h => h) (Or.inl ⟨by rfl, ?_⟩) hHeld ?_
  rotate_left
  · intro w hSw; (try dsimp only at hSw); go_simp; all_goals (with_reducible rfl)
  try simp only [Act.put, List.setIfInBounds_toArray, List.set_cons_zero, List.set_cons_succ]
  refine wpAnyH_alone 5 rfl (by kernel_rfl) (fun K hK => ?_)
  go_simp
  (go_at_call 20; refine (s1.drew.uint (SR : Int) SR rfl 1 1 rfl (by decide) (by simp [be_len])).mono ?_; rintro e W2 ⟨rfl, s2⟩; have HB := s2.bel)
  refine hK.out _ _ (⟨(HB.cell (p := ⟨w.heap.size, 1, none⟩) hlt).trans c1, (HB.cell (p := ⟨w.heap.size, 2, none⟩) hlt).trans c2⟩) (fun hHeld => ?_)
  clear hK K
  try simp only [Act.put, List.setIfInBounds_toArray, List.set_cons_zero, List.set_cons_succ]
  refine wpAnyH_alone 10 rfl (by kernel_rfl) (fun K hK => ?_)
  go_simp
  (go_at_call 20; refine (s2.uint (NM : Int) NM rfl 2 2 rfl (by decide) (by simp [be_len])).mono ?_; rintro e W3 ⟨rfl, s3⟩; have HB := s3.bel)
  refine hK.out _ _ (⟨(HB.cell (p := ⟨w.heap.size, 1, none⟩) hlt).trans c1, (HB.cell (p := ⟨w.heap.size, 2, none⟩) hlt).trans c2⟩) (fun hHeld => ?_)
  clear hK K
  try simp only [Act.put, List.setIfInBounds_toArray, List.set_cons_zero, List.set_cons_succ]
  refine wpAnyH_done (by kernel_rfl) ?_ _
  obtain ⟨L, hL⟩ : ∃ L, L = [] ++ be 4 1 ++ be SR 1 ++ be NM 2 := ⟨_, rfl⟩
  rw [← hL] at s3
  have hL4 : L.length = 4 := by rw [hL]; simp [be_len]
  have HL := Lib.hid hL
  clear hL s1 s2 d1 d2
  have d0 := (HB.cell (p := ⟨w.heap.size, 0, none⟩) hlt).trans c0
  have d10 := (HB.cell (p := ⟨w.heap.size, 10, none⟩) hlt).trans c10
  have hGx := HP.out.g
  simp only at hGx
  go_wp2_with fail
  refine (pwrite_any w1 _ L G ga m c W3 s3 hGx hga hm (by omega)).mono ?_
  rintro e W4 ⟨rfl, s4⟩
  have hgl := gs_len hga
  rw [hGx.len] at hgl
  have hmL := encI_len (n := (m : Int)) (by omega)
  have hfl : (L ++ (encI (m : Int) ++ gs ga)) = E := by rw [HE.out, HL.out]; have hq := hGx.len; simp [enc, hd, bd, hq]
  have hfn : (L ++ (encI (m : Int) ++ gs ga)).length < 100000 := by
    simp only [List.length_append]
    omega
  rw [hfl] at s4 hfn
  clear hfl
  go_wp2_with fail
  refine (s4.bytes hfn).mono ?_
  rintro e w9 ⟨⟨A9, n9, c9, rfl, hB9⟩, hb9⟩
  go_wp2
  go_ret2
  exact ⟨⟨A9, n9, c9, rfl, hB9⟩, b1.trans ((s4.bel.trans (hb9.mono s4.bel.size)).mono b1.size)⟩
end Go.Proofs.Ytjjfamkljcipgaa.Pdu
namespace Go.Proofs.Ytjjfamkljcipgaa.Pdu
open Go.RowKit Go.Proofs.Ytjjfamkljcipgaa.Row

set_option maxRecDepth 100000 in
set_option maxHeartbeats 4000000 in
theorem pencode_k5 (SR NM : Nat) (cl : Int) (CO : Nat) (na : List Byte) (sz of : Int) (da : List Byte) (su : Nat) (ga : List R) (A : Option Addr) (n a : Nat) (G : Option Addr) (m c : Nat) (w : World) (h : Px w ⟨5, (SR : Int), (NM : Int), cl, na, sz, of, da, su, (CO : Int), ga⟩ A n a G m c) (hok : ok ⟨5, (SR : Int), (NM : Int), cl, na, sz, of, da, su, (CO : Int), ga⟩ = true) (hSR : SR ≤ 15) (hNM : NM ≤ 65535) (hCO : CO ≤ 17) :
    Calls Try.prog 10 #[.agg #[I 5, I (SR : Int), I (NM : Int), I cl, .string (str na), I sz, I of, .slice A n a, .int .u32 (su : Int), I (CO : Int), .slice G m c]] w fun e w' => (∃ A' n' c', e = .returned (.tuple #[.slice A' n' c', I 0]) ∧ Bo w' A' (enc ⟨5, (SR : Int), (NM : Int), cl, na, sz, of, da, su, (CO : Int), ga⟩) n' c') ∧ Below w.heap.size w w' := by
  obtain ⟨E, hE⟩ : ∃ E, E = enc ⟨5, (SR : Int), (NM : Int), cl, na, sz, of, da, su, (CO : Int), ga⟩ := ⟨_, rfl⟩
  rw [← hE]
  have HE := Lib.hid hE
  have b0 := bel_new w (.cells #[I 5, I (SR : Int), I (NM : Int), I cl, .string (str na), I sz, I of, .slice A n a, .int .u32 (su : Int), I (CO : Int), .slice G m c] 29)
  have hC0 := Cel.new w 29 #[I 5, I (SR : Int), I (NM : Int), I cl, .string (str na), I sz, I of, .slice A n a, .int .u32 (su : Int), I (CO : Int), .slice G m c]
  have hv := pvalid_any 5 (SR : Int) (NM : Int) cl na sz of da su (CO : Int) ga A n a G m c _ (h.later b0)
  rw [hok] at hv
  have hsu := h.s
  simp only at hsu
  have k1 := to_u64 SR (by omega)
  have k2 := to_u64 NM (by omega)
  have k4 := to_u64 CO (by omega)
  clear hok hE
  go_enter Try.func10, Try.ntmps10
  go_wp2_with fail
  refine hv.mono ?_
  rintro e w1 ⟨rfl, hb⟩
  have b1 := b0.trans (hb.mono b0.size)
  have HP := Lib.hid (h.later b1)
  have hC1 := Cel.on hC0 hb
  have hlt := hC1.lt
  have c0 := hC1.cell 0
  have c1 := hC1.cell 1
  have c2 := hC1.cell 2
  have c3 := hC1.cell 3
  have c4 := hC1.cell 4
  have c5 := hC1.cell 5
  have c6 := hC1.cell 6
  have c7 := hC1.cell 7
  have c8 := hC1.cell 8
  have c9 := hC1.cell 9
  have c10 := hC1.cell 10
  simp only [List.getElem?_toArray, List.getElem?_cons_zero, List.getElem?_cons_succ] at c0 c1 c2 c3 c4 c5 c6 c7 c8 c9 c10
  clear hv hC0 hC1 hb b0 h
  go_wp2_with fail
  refine wp_region_held_drew (S := (fun w' => w'.cell? ⟨w.heap.size, 0, none⟩ = some (I 5))) (by kernel_rfl) (c0) (fun hHeld => ?_)
  refine wpAnyH_here 1 (v := ?_) rfl (by kernel_rfl) (by kernel_rfl) (by kernel_rfl) (fun _ _ _ h => h) (Or.inl ⟨by rfl, ?_⟩) hHeld ?_
  rotate_left
  · intro w hSw; (try dsimp only at hSw); go_simp; all_goals (with_reducible rfl)
  try simp only [Act.put, List.setIfInBounds_toArray, List.set_cons_zero, List.set_cons_succ]
  refine wpAnyH_here 2 (v := ?_) rfl (by kernel_rfl) (by kernel_rfl) (by kernel_rfl) (fun _ _ _ h => h) (Or.inl ⟨by rfl, ?_⟩) hHeld ?_
  rotate_left
  · intro w hSw; (try dsimp only at hSw); go_simp; all_goals (with_reducible rfl)
  try simp only [Act.put, List.setIfInBounds_toArray, List.set_cons_zero, List.set_cons_succ]
  refine wpAnyH_here 3 (v := ?_) rfl (by kernel_rfl) (by kernel_rfl) (by kernel_rfl) (fun _ _ _ h => h) (Or.inl ⟨by rfl, ?_⟩) hHeld ?_
  rotate_left
  · intro w hSw; (try dsimp only at hSw); go_simp; all_goals (with_reducible rfl)
  try simp only [Act.put, List.setIfInBounds_toArray, List.set_cons_zero, List.set_cons_succ]
  refine wpAnyH_alone 0 rfl (by kernel_rfl) (fun K hK => ?_)
  go_simp
  (go_at_call 19; refine (onew_any _).mono ?_; rintro e W0 ⟨rfl, hW0⟩; have s0 : WS w1 w1.heap.size [] W0 := by rw [← hW0]; exact WS.new (Below.refl _ _).drew); clear hW0; have HB := s0.bel
  refine hK.out _ _ ((HB.cell (p := ⟨w.heap.size, 0, none⟩) hlt).trans c0) (fun hHeld => ?_)
  clear hK K
  try simp only [Act.put, List.setIfInBounds_toArray, List.set_cons_zero, List.set_cons_succ]
  refine wpAnyH_alone 4 rfl (by kernel_rfl) (fun K hK => ?_)
  go_simp
  (go_at_call 20; refine (s0.uint (5 : Int) 5 rfl 1 1 rfl (by decide) (by decide)).mono ?_; rintro e W1 ⟨rfl, s1⟩; have HB := s1.bel)
  refine hK.out _ _ ((HB.cell (p := ⟨w.heap.size, 0, none⟩) hlt).trans c0) (fun hHeld => ?_)
  clear hK K
  try simp only [Act.put, List.setIfInBounds_toArray, List.set_cons_zero, List.set_cons_succ]
  refine wpAnyH_here 5 (v := ?_) rfl (by kernel_rfl) (by kernel_rfl) (by kernel_rfl) (fun _ _ _ h => h) (Or.inl ⟨by rfl, ?_⟩) hHeld ?_
  rotate_left
  · intro w hSw; (try dsimp only at hSw); go_simp; all_goals (with_reducible rfl)
  try simp only [Act.put, List.setIfInBounds_toArray, List.set_cons_zero, List.set_cons_succ]
  refine wpAnyH_done (by kernel_rfl) ?_ _
  have d1 := (HB.cell (p := ⟨w.heap.size, 1, none⟩) hlt).trans c1
  have d2 := (HB.cell (p := ⟨w.heap.size, 2, none⟩) hlt).trans c2
  clear s0
  go_wp2_with fail
  refine wp_region_held_drew (S := (fun w' => w'.cell? ⟨w.heap.size, 1, none⟩ = some (I (SR : Int)) ∧ w'.cell? ⟨w.heap.size, 2, none⟩ = some (I (NM : Int)))) (by kernel_rfl) (⟨d1, d2⟩) (fun hHeld => ?_)
  refine wpAnyH_here 0 (v := ?_) rfl (by kernel_rfl) (by kernel_rfl) (by kernel_rfl) (fun _ _ _ h => h) (Or.inl ⟨by rfl, ?_⟩) hHeld ?_
  rotate_left
  · intro w hSw; (try dsimp only at hSw); go_simp; all_goals (with_reducible rfl)
  try simp only [Act.put, List.setIfInBounds_toArray, List.set_cons_zero, List.set_cons_succ]
  refine wpAnyH_here 1 (v := ?_) rfl (by kernel_rfl) (by kernel_rfl) (by kernel_rfl) (fun _ _ _ h => h) (Or.inl ⟨by rfl, ?_⟩) hHeld ?_
  rotate_left
  · intro w hSw; (try dsimp only at hSw); go_simp; all_goals (with_reducible rfl)
  try simp only [Act.put, List.setIfInBounds_toArray, List.set_cons_zero, List.set_cons_succ]
  refine wpAnyH_here 2 (v := ?_) rfl (by kernel_rfl) (by kernel_rfl) (by kernel_rfl) (fun _ _ _ h => h) (Or.inl ⟨by rfl, ?_⟩) hHeld ?_
  rotate_left
  · intro w hSw; (try dsimp only at hSw); go_simp; all_goals (with_reducible rfl)
  try simp only [Act.put, List.setIfInBounds_toArray, List.set_cons_zero, List.set_cons_succ]
  refine wpAnyH_here 3 (v := ?_) rfl (by kernel_rfl) (by kernel_rfl) (by kernel_rfl) (fun _ _ _ h => h) (Or.inl ⟨by rfl, ?_⟩) hHeld ?_
  rotate_left
  · intro w hSw; (try dsimp only at hSw); go_simp; all_goals (with_reducible rfl)
  try simp only [Act.put, List.setIfInBounds_toArray, List.set_cons_zero, List.set_cons_succ]
  refine wpAnyH_here 4 (v := ?_) rfl (by kernel_rfl) (by kernel_rfl) (by kernel_rfl) (fun _ _ _ h => h) (Or.inl ⟨by rfl, ?_⟩) hHeld ?_
  rotate_left
  · intro w hSw; (try dsimp only at hSw); go_simp; all_goals (with_reducible rfl)
  try simp only [Act.put, List.setIfInBounds_toArray, List.set_cons_zero, List.set_cons_succ]
  refine wpAnyH_here 6 (v := ?_) rfl (by kernel_rfl) (by kernel_rfl) (by kernel_rfl) (fun _ _ _ h => h) (Or.inl ⟨by rfl, ?_⟩) hHeld ?_
  rotate_left
  · intro w hSw; (try dsimp only at hSw); go_simp; all_goals (with_reducible rfl)
  try simp only [Act.put, List.setIfInBounds_toArray, List.set_cons_zero, List.set_cons_succ]
  refine wpAnyH_here 7 (v := ?_) rfl (by kernel_rfl) (by kernel_rfl) (by kernel_rfl) (fun _ _ _ h => h) (Or.inl ⟨by rfl, ?_⟩) hHeld ?_
  rotate_left
  · intro w hSw; (try dsimp only at hSw); go_simp; all_goals (with_reducible rfl)
  try simp only [Act.put, List.setIfInBounds_toArray, List.set_cons_zero, List.set_cons_succ]
  refine wpAnyH_here 8 (v := ?_) rfl (by kernel_rfl) (by kernel_rfl) (by kernel_rfl) (fun _ _ _ h => h) (Or.inl ⟨by rfl, ?_⟩) hHeld ?_
  rotate_left
  · intro w hSw; (try dsimp only at hSw); go_simp; all_goals (with_reducible rfl)
  try simp only [Act.put, List.setIfInBounds_toArray, List.set_cons_zero, List.set_cons_succ]
  refine wpAnyH_here 9 (v := ?_) rfl (by kernel_rfl) (by kernel_rfl) (by kernel_rfl) (fun _ _ _ h => h) (Or.inl ⟨by rfl, ?_⟩) hHeld ?_
  rotate_left
  · intro w hSw; (try dsimp only at hSw); go_simp; all_goals (with_reducible rfl)
  try simp only [Act.put, List.setIfInBounds_toArray, List.set_cons_zero, List.set_cons_succ]
  refine wpAnyH_alone 5 rfl (by kernel_rfl) (fun K hK => ?_)
  go_simp
  (go_at_call 20; refine (s1.drew.uint (SR : Int) SR rfl 1 1 rfl (by decide) (by simp [be_len])).mono ?_; rintro e W2 ⟨rfl, s2⟩; have HB := s2.bel)
  refine hK.out _ _ (⟨(HB.cell (p := ⟨w.heap.size, 1, none⟩) hlt).trans c1, (HB.cell (p := ⟨w.heap.size, 2, none⟩) hlt).trans c2⟩) (fun hHeld => ?_)
  clear hK K
  try simp only [Act.put, List.setIfInBounds_toArray, List.set_cons_zero, List.set_cons_succ]
  refine wpAnyH_alone 10 rfl (by kernel_rfl) (fun K hK => ?_)
  go_simp
  (go_at_call 20; refine (s2.uint (NM : Int) NM rfl 2 2 rfl (by decide) (by simp [be_len])).mono ?_; rintro e W3 ⟨rfl, s3⟩; have HB := s3.bel)
  refine hK.out _ _ (⟨(HB.cell (p := ⟨w.heap.size, 1, none⟩) hlt).trans c1, (HB.cell (p := ⟨w.heap.size, 2, none⟩) hlt).trans c2⟩) (fun hHeld => ?_)
  clear hK K
  try simp only [Act.put, List.setIfInBounds_toArray, List.set_cons_zero, List.set_cons_succ]
  refine wpAnyH_done (by kernel_rfl) ?_ _
  obtain ⟨L, hL⟩ : ∃ L, L = [] ++ be 5 1 ++ be SR 1 ++ be NM 2 := ⟨_, rfl⟩
  rw [← hL] at s3
  have hL4 : L.length = 4 := by rw [hL]; simp [be_len]
  have HL := Lib.hid hL
  clear hL s1 s2 d1 d2
  have d0 := (HB.cell (p := ⟨w.heap.size, 0, none⟩) hlt).trans c0
  have d9 := (HB.cell (p := ⟨w.heap.size, 9, none⟩) hlt).trans c9
  go_wp2_with fail
  refine (s3.uint (CO : Int) CO rfl 1 1 rfl (by decide) (by omega)).mono ?_
  rintro e W4 ⟨rfl, s4⟩
  have hfl : (L ++ be CO 1) = E := by rw [HE.out, HL.out]; simp [enc, hd, bd]
  have hfn : (L ++ be CO 1).length < 100000 := by
    simp only [List.length_append, be_len]
    omega
  rw [hfl] at s4 hfn
  clear hfl
  go_wp2_with fail
  refine (s4.bytes hfn).mono ?_
  rintro e w9 ⟨⟨A9, n9, c9, rfl, hB9⟩, hb9⟩
  go_wp2
  go_ret2
  exact ⟨⟨A9, n9, c9, rfl, hB9⟩, b1.trans ((s4.bel.trans (hb9.mono s4.bel.size)).mono b1.size)⟩
end Go.Proofs.Ytjjfamkljcipgaa.Pdu
namespace Go.Proofs.Ytjjfamkljcipgaa.Pdu
open Go.RowKit Go.Proofs.Ytjjfamkljcipgaa.Row

set_option maxRecDepth 100000 in
set_option maxHeartbeats 4000000 in
theorem pencode_k6 (SR NM : Nat) (cl : Int) (co : Int) (na : List Byte) (sz of : Int) (da : List Byte) (su : Nat) (ga : List R) (A : Option Addr) (n a : Nat) (G : Option Addr) (m c : Nat) (w : World) (h : Px w ⟨6, (SR : Int), (NM : Int), cl, na, sz, of, da, su, co, ga⟩ A n a G m c) (hok : ok ⟨6, (SR : Int), (NM : Int), cl, na, sz, of, da, su, co, ga⟩ = true) (hSR : SR ≤ 15) (hNM : NM ≤ 65535) :
    Calls Try.prog 10 #[.agg #[I 6, I (SR : Int), I (NM : Int), I cl, .string (str na), I sz, I of, .slice A n a, .int .u32 (su : Int), I co, .slice G m c]] w fun e w' => (∃ A' n' c', e = .returned (.tuple #[.slice A' n' c', I 0]) ∧ Bo w' A' (enc ⟨6, (SR : Int), (NM : Int), cl, na, sz, of, da, su, co, ga⟩) n' c') ∧ Below w.heap.size w w' := by
  obtain ⟨E, hE⟩ : ∃ E, E = enc ⟨6, (SR : Int), (NM : Int), cl, na, sz, of, da, su, co, ga⟩ := ⟨_, rfl⟩
  rw [← hE]
  have HE := Lib.hid hE
  have b0 := bel_new w (.cells #[I 6, I (SR : Int), I (NM : Int), I cl, .string (str na), I sz, I of, .slice A n a, .int .u32 (su : Int), I co, .slice G m c] 29)
  have hC0 := Cel.new w 29 #[I 6, I (SR : Int), I (NM : Int), I cl, .string (str na), I sz, I of, .slice A n a, .int .u32 (su : Int), I co, .slice G m c]
  have hv := pvalid_any 6 (SR : Int) (NM : Int) cl na sz of da su co ga A n a G m c _ (h.later b0)
  rw [hok] at hv
  have hsu := h.s
  simp only at hsu
  have k1 := to_u64 SR (by omega)
  have k2 := to_u64 NM (by omega)
  clear hok hE
  go_enter Try.func10, Try.ntmps10
  go_wp2_with fail
  refine hv.mono ?_
  rintro e w1 ⟨rfl, hb⟩
  have b1 := b0.trans (hb.mono b0.size)
  have HP := Lib.hid (h.later b1)
  have hC1 := Cel.on hC0 hb
  have hlt := hC1.lt
  have c0 := hC1.cell 0
  have c1 := hC1.cell 1
  have c2 := hC1.cell 2
  have c3 := hC1.cell 3
  have c4 := hC1.cell 4
  have c5 := hC1.cell 5
  have c6 := hC1.cell 6
  have c7 := hC1.cell 7
  have c8 := hC1.cell 8
  have c9 := hC1.cell 9
  have c10 := hC1.cell 10
  simp only [List.getElem?_toArray, List.getElem?_cons_zero, List.getElem?_cons_succ] at c0 c1 c2 c3 c4 c5 c6 c7 c8 c9 c10
  clear hv hC0 hC1 hb b0 h
  go_wp2_with fail
  refine wp_region_held_drew (S := (fun w' => w'.cell? ⟨w.heap.size, 0, none⟩ = some (I 6))) (by kernel_rfl) (c0) (fun hHeld => ?_)
  refine wpAnyH_here 1 (v := ?_) rfl (by kernel_rfl) (by kernel_rfl) (by kernel_rfl) (fun _ _ _ h => h) (Or.inl ⟨by rfl, ?_⟩) hHeld ?_
  rotate_left
  · intro w hSw; (try dsimp only at hSw); go_simp; all_goals (with_reducible rfl)
  try simp only [Act.put, List.setIfInBounds_toArray, List.set_cons_zero, List.set_cons_succ]
  refine wpAnyH_here 2 (v := ?_) rfl (by kernel_rfl) (by kernel_rfl) (by kernel_rfl) (fun _ _ _ h => h) (Or.inl ⟨by rfl, ?_⟩) hHeld ?_
  rotate_left
  · intro w hSw; (try dsimp only at hSw); go_simp; all_goals (with_reducible rfl)
  try simp only [Act.put, List.setIfInBounds_toArray, List.set_cons_zero, List.set_cons_succ]
  refine wpAnyH_here 3 (v := ?_) rfl (by kernel_rfl) (by kernel_rfl) (by kernel_rfl) (fun _ _ _ h => h) (Or.inl ⟨by rfl, ?_⟩) hHeld ?_
  rotate_left
  · intro w hSw; (try dsimp only at hSw); go_simp; all_goals (with_reducible rfl)
  try simp only [Act.put, List.setIfInBounds_toArray, List.set_cons_zero, List.set_cons_succ]
  refine wpAnyH_alone 0 rfl (by kernel_rfl) (fun K hK => ?_)
  go_simp
  (go_at_call 19; refine (onew_any _).mono ?_; rintro e W0 ⟨rfl, hW0⟩; have s0 : WS w1 w1.heap.size [] W0 := by rw [← hW0]; exact WS.new (Below.refl _ _).drew); clear hW0; have HB := s0.bel
  refine hK.out _ _ ((HB.cell (p := ⟨w.heap.size, 0, none⟩) hlt).trans c0) (fun hHeld => ?_)
  clear hK K
  try simp only [Act.put, List.setIfInBounds_toArray, List.set_cons_zero, List.set_cons_succ]
  refine wpAnyH_alone 4 rfl (by kernel_rfl) (fun K hK => ?_)
  go_simp
  (go_at_call 20; refine (s0.uint (6 : Int) 6 rfl 1 1 rfl (by decide) (by decide)).mono ?_; rintro e W1 ⟨rfl, s1⟩; have HB := s1.bel)
  refine hK.out _ _ ((HB.cell (p := ⟨w.heap.size, 0, none⟩) hlt).trans c0) (fun hHeld => ?_)
  clear hK K
  try simp only [Act.put, List.setIfInBounds_toArray, List.set_cons_zero, List.set_cons_succ]
  refine wpAnyH_here 5 (v := ?_) rfl (by kernel_rfl) (by kernel_rfl) (by kernel_rfl) (fun _ _ _ h => h) (Or.inl ⟨by rfl, ?_⟩) hHeld ?_
  rotate_left
  · intro w hSw; (try dsimp only at hSw); go_simp; all_goals (with_reducible rfl)
  try simp only [Act.put, List.setIfInBounds_toArray, List.set_cons_zero, List.set_cons_succ]
  refine wpAnyH_done (by kernel_rfl) ?_ _
  have d1 := (HB.cell (p := ⟨w.heap.size, 1, none⟩) hlt).trans c1
  have d2 := (HB.cell (p := ⟨w.heap.size, 2, none⟩) hlt).trans c2
  clear s0
  go_wp2_with fail
  refine wp_region_held_drew (S := (fun w' => w'.cell? ⟨w.heap.size, 1, none⟩ = some (I (SR : Int)) ∧ w'.cell? ⟨w.heap.size, 2, none⟩ = some (I (NM : Int)))) (by kernel_rfl) (⟨d1, d2⟩) (fun hHeld => ?_)
  refine wpAnyH_here 0 (v := ?_) rfl (by kernel_rfl) (by kernel_rfl) (by kernel_rfl) (fun _ _ _ h => h) (Or.inl ⟨by rfl, ?_⟩) hHeld ?_
  rotate_left
  · intro w hSw; (try dsimp only at hSw); go_simp; all_goals (with_reducible rfl)
  try simp only [Act.put, List.setIfInBounds_toArray, List.set_cons_zero, List.set_cons_succ]
  refine wpAnyH_here 1 (v := ?_) rfl (by kernel_rfl) (by kernel_rfl) (by kernel_rfl) (fun _ _ _ h => h) (Or.inl ⟨by rfl, ?_⟩) hHeld ?_
  rotate_left
  · intro w hSw; (try dsimp only at hSw); go_simp; all_goals (with_reducible rfl)
  try simp only [Act.put, List.setIfInBounds_toArray, List.set_cons_zero, List.set_cons_succ]
  refine wpAnyH_here 2 (v := ?_) rfl (by kernel_rfl) (by kernel_rfl) (by kernel_rfl) (fun _ _ _ h => h) (Or.inl ⟨by rfl, ?_⟩) hHeld ?_
  rotate_left
  · intro w hSw; (try dsimp only at hSw); go_simp; all_goals (with_reducible rfl)
  try simp only [Act.put, List.setIfInBounds_toArray, List.set_cons_zero, List.set_cons_succ]
  refine wpAnyH_here 3 (v := ?_) rfl (by kernel_rfl) (by kernel_rfl) (by kernel_rfl) (fun _ _ _ h => h) (Or.inl ⟨by rfl, ?_⟩) hHeld ?_
  rotate_left
  · intro w hSw; (try dsimp only at hSw); go_simp; all_goals (with_reducible rfl)
  try simp only [Act.put, List.setIfInBounds_toArray, List.set_cons_zero, List.set_cons_succ]
  refine wpAnyH_here 4 (v := ?_) rfl (by kernel_rfl) (by kernel_rfl) (by kernel_rfl) (fun _ _ _ h => h) (Or.inl ⟨by rfl, ?_⟩) hHeld ?_
  rotate_left
  · intro w hSw; (try dsimp only at hSw); go_simp; all_goals (with_reducible rfl)
  try simp only [Act.put, List.setIfInBounds_toArray, List.set_cons_zero, List.set_cons_succ]
  refine wpAnyH_here 6 (v := ?_) rfl (by kernel_rfl) (by kernel_rfl) (by kernel_rfl) (fun _ _ _ h => h) (Or.inl ⟨by rfl, ?_⟩) hHeld ?_
  rotate_left
  · intro w hSw; (try dsimp only at hSw); go_simp; all_goals (with_reducible rfl)
  try simp only [Act.put, List.setIfInBounds_toArray, List.set_cons_zero, List.set_cons_succ]
  refine wpAnyH_here 7 (v := ?_) rfl (by kernel_rfl) (by kernel_rfl) (by kernel_rfl) (fun _ _ _ h => h) (Or.inl ⟨by rfl, ?_⟩) hHeld ?_
  rotate_left
  · intro w hSw; (try dsimp only at hSw); go_simp; all_goals (with_reducible rfl)
  try simp only [Act.put, List.setIfInBounds_toArray, List.set_cons_zero, List.set_cons_succ]
  refine wpAnyH_here 8 (v := ?_) rfl (by kernel_rfl) (by kernel_rfl) (by kernel_rfl) (fun _ _ _ h => h) (Or.inl ⟨by rfl, ?_⟩) hHeld ?_
  rotate_left
  · intro w hSw; (try dsimp only at hSw); go_simp; all_goals (with_reducible rfl)
  try simp only [Act.put, List.setIfInBounds_toArray, List.set_cons_zero, List.set_cons_succ]
  refine wpAnyH_here 9 (v := ?_) rfl (by kernel_rfl) (by kernel_rfl) (by kernel_rfl) (fun _ _ _ h => h) (Or.inl ⟨by rfl, ?_⟩) hHeld ?_
  rotate_left
  · intro w hSw; (try dsimp only at hSw); go_simp; all_goals (with_reducible rfl)
  try simp only [Act.put, List.setIfInBounds_toArray, List.set_cons_zero, List.set_cons_succ]
  refine wpAnyH_alone 5 rfl (by kernel_rfl) (fun K hK => ?_)
  go_simp
  (go_at_call 20; refine (s1.drew.uint (SR : Int) SR rfl 1 1 rfl (by decide) (by simp [be_len])).mono ?_; rintro e W2 ⟨rfl, s2⟩; have HB := s2.bel)
  refine hK.out _ _ (⟨(HB.cell (p := ⟨w.heap.size, 1, none⟩) hlt).trans c1, (HB.cell (p := ⟨w.heap.size, 2, none⟩) hlt).trans c2⟩) (fun hHeld => ?_)
  clear hK K
  try simp only [Act.put, List.setIfInBounds_toArray, List.set_cons_zero, List.set_cons_succ]
  refine wpAnyH_alone 10 rfl (by kernel_rfl) (fun K hK => ?_)
  go_simp
  (go_at_call 20; refine (s2.uint (NM : Int) NM rfl 2 2 rfl (by decide) (by simp [be_len])).mono ?_; rintro e W3 ⟨rfl, s3⟩; have HB := s3.bel)
  refine hK.out _ _ (⟨(HB.cell (p := ⟨w.heap.size, 1, none⟩) hlt).trans c1, (HB.cell (p := ⟨w.heap.size, 2, none⟩) hlt).trans c2⟩) (fun hHeld => ?_)
  clear hK K
  try simp only [Act.put, List.setIfInBounds_toArray, List.set_cons_zero, List.set_cons_succ]
  refine wpAnyH_done (by kernel_rfl) ?_ _
  obtain ⟨L, hL⟩ : ∃ L, L = [] ++ be 6 1 ++ be SR 1 ++ be NM 2 := ⟨_, rfl⟩
  rw [← hL] at s3
  have hL4 : L.length = 4 := by rw [hL]; simp [be_len]
  have HL := Lib.hid hL
  clear hL s1 s2 d1 d2
  have d0 := (HB.cell (p := ⟨w.heap.size, 0, none⟩) hlt).trans c0
  have hfl : L = E := by rw [HE.out, HL.out]; simp [enc, hd, bd]
  have hfn : L.length < 100000 := by
    omega
  rw [hfl] at s3 hfn
  clear hfl
  go_wp2_with fail
  refine (s3.bytes hfn).mono ?_
  rintro e w9 ⟨⟨A9, n9, c9, rfl, hB9⟩, hb9⟩
  go_wp2
  go_ret2
  exact ⟨⟨A9, n9, c9, rfl, hB9⟩, b1.trans ((s3.bel.trans (hb9.mono s3.bel.size)).mono b1.size)⟩
end Go.Proofs.Ytjjfamkljcipgaa.Pdu
namespace Go.Proofs.Ytjjfamkljcipgaa.Pdu
open Go.RowKit Go.Proofs.Ytjjfamkljcipgaa.Row

set_option maxRecDepth 100000 in
set_option maxHeartbeats 4000000 in
theorem pencode_k7 (SR NM : Nat) (cl : Int) (co : Int) (na : List Byte) (sz of : Int) (da : List Byte) (su : Nat) (ga : List R) (A : Option Addr) (n a : Nat) (G : Option Addr) (m c : Nat) (w : World) (h : Px w ⟨7, (SR : Int), (NM : Int), cl, na, sz, of, da, su, co, ga⟩ A n a G m c) (hok : ok ⟨7, (SR : Int), (NM : Int), cl, na, sz, of, da, su, co, ga⟩ = true) (hSR : SR ≤ 15) (hNM : NM ≤ 65535) :
    Calls Try.prog 10 #[.agg #[I 7, I (SR : Int), I (NM : Int), I cl, .string (str na), I sz, I of, .slice A n a, .int .u32 (su : Int), I co, .slice G m c]] w fun e w' => (∃ A' n' c', e = .returned (.tuple #[.slice A' n' c', I 0]) ∧ Bo w' A' (enc ⟨7, (SR : Int), (NM : Int), cl, na, sz, of, da, su, co, ga⟩) n' c') ∧ Below w.heap.size w w' := by
  obtain ⟨E, hE⟩ : ∃ E, E = enc ⟨7, (SR : Int), (NM : Int), cl, na, sz, of, da, su, co, ga⟩ := ⟨_, rfl⟩
  rw [← hE]
  have HE := Lib.hid hE
  have b0 := bel_new w (.cells #[I 7, I (SR : Int), I (NM : Int), I cl, .string (str na), I sz, I of, .slice A n a, .int .u32 (su : Int), I co, .slice G m c] 29)
  have hC0 := Cel.new w 29 #[I 7, I (SR : Int), I (NM : Int), I cl, .string (str na), I sz, I of, .slice A n a, .int .u32 (su : Int), I co, .slice G m c]
  have hv := pvalid_any 7 (SR : Int) (NM : Int) cl na sz of da su co ga A n a G m c _ (h.later b0)
  rw [hok] at hv
  have hsu := h.s
  simp only at hsu
  have k1 := to_u64 SR (by omega)
  have k2 := to_u64 NM (by omega)
  clear hok hE
  go_enter Try.func10, Try.ntmps10
  go_wp2_with fail
  refine hv.mono ?_
  rintro e w1 ⟨rfl, hb⟩
  have b1 := b0.trans (hb.mono b0.size)
  have HP := Lib.hid (h.later b1)
  have hC1 := Cel.on hC0 hb
  have hlt := hC1.lt
  have c0 := hC1.cell 0
  have c1 := hC1.cell 1
  have c2 := hC1.cell 2
  have c3 := hC1.cell 3
  have c4 := hC1.cell 4
  have c5 := hC1.cell 5
  have c6 := hC1.cell 6
  have c7 := hC1.cell 7
  have c8 := hC1.cell 8
  have c9 := hC1.cell 9
  have c10 := hC1.cell 10
  simp only [List.getElem?_toArray, List.getElem?_cons_zero, List.getElem?_cons_succ] at c0 c1 c2 c3 c4 c5 c6 c7 c8 c9 c10
  clear hv hC0 hC1 hb b0 h
  go_wp2_with fail
  refine wp_region_held_drew (S := (fun w' => w'.cell? ⟨w.heap.size, 0, none⟩ = some (I 7))) (by kernel_rfl) (c0) (fun hHeld => ?_)
  refine wpAnyH_here 1 (v := ?_) rfl (by kernel_rfl) (by kernel_rfl) (by kernel_rfl) (fun _ _ _ h => h) (Or.inl ⟨by rfl, ?_⟩) hHeld ?_
  rotate_left
  · intro w hSw; (try dsimp only at hSw); go_simp; all_goals (with_reducible rfl)
  try simp only [Act.put, List.setIfInBounds_toArray, List.set_cons_zero, List.set_cons_succ]
  refine wpAnyH_here 2 (v := ?_) rfl (by kernel_rfl) (by kernel_rfl) (by kernel_rfl) (fun _ _ _ h => h) (Or.inl ⟨by rfl, ?_⟩) hHeld ?_
  rotate_left
  · intro w hSw; (try dsimp only at hSw); go_simp; all_goals (with_reducible rfl)
  try simp only [Act.put, List.setIfInBounds_toArray, List.set_cons_zero, List.set_cons_succ]
  refine wpAnyH_here 3 (v := ?_) rfl (by kernel_rfl) (by kernel_rfl) (by kernel_rfl) (fun _ _ _ h => h) (Or.inl ⟨by rfl, ?_⟩) hHeld ?_
  rotate_left
  · intro w hSw; (try dsimp only at hSw); go_simp; all_goals (with_reducible rfl)
  try simp only [Act.put, List.setIfInBounds_toArray, List.set_cons_zero, List.set_cons_succ]
  refine wpAnyH_alone 0 rfl (by kernel_rfl) (fun K hK => ?_)
  go_simp
  (go_at_call 19; refine (onew_any _).mono ?_; rintro e W0 ⟨rfl, hW0⟩; have s0 : WS w1 w1.heap.size [] W0 := by rw [← hW0]; exact WS.new (Below.refl _ _).drew); clear hW0; have HB := s0.bel
  refine hK.out _ _ ((HB.cell (p := ⟨w.heap.size, 0, none⟩) hlt).trans c0) (fun hHeld => ?_)
  clear hK K
  try simp only [Act.put, List.setIfInBounds_toArray, List.set_cons_zero, List.set_cons_succ]
  refine wpAnyH_alone 4 rfl (by kernel_rfl) (fun K hK => ?_)
  go_simp
  (go_at_call 20; refine (s0.uint (7 : Int) 7 rfl 1 1 rfl (by decide) (by decide)).mono ?_; rintro e W1 ⟨rfl, s1⟩; have HB := s1.bel)
  refine hK.out _ _ ((HB.cell (p := ⟨w.heap.size, 0, none⟩) hlt).trans c0) (fun hHeld => ?_)
  clear hK K
  try simp only [Act.put, List.setIfInBounds_toArray, List.set_cons_zero, List.set_cons_succ]
  refine wpAnyH_here 5 (v := ?_) rfl (by kernel_rfl) (by kernel_rfl) (by kernel_rfl) (fun _ _ _ h => h) (Or.inl ⟨by rfl, ?_⟩) hHeld ?_
  rotate_left
  · intro w hSw; (try dsimp only at hSw); go_simp; all_goals (with_reducible rfl)
  try simp only [Act.put, List.setIfInBounds_toArray, List.set_cons_zero, List.set_cons_succ]
  refine wpAnyH_done (by kernel_rfl) ?_ _
  have d1 := (HB.cell (p := ⟨w.heap.size, 1, none⟩) hlt).trans c1
  have d2 := (HB.cell (p := ⟨w.heap.size, 2, none⟩) hlt).trans c2
  clear s0
  go_wp2_with fail
  refine wp_region_held_drew (S := (fun w' => w'.cell? ⟨w.heap.size, 1, none⟩ = some (I (SR : Int)) ∧ w'.cell? ⟨w.heap.size, 2, none⟩ = some (I (NM : Int)))) (by kernel_rfl) (⟨d1, d2⟩) (fun hHeld => ?_)
  refine wpAnyH_here 0 (v := ?_) rfl (by kernel_rfl) (by kernel_rfl) (by kernel_rfl) (fun _ _ _ h => h) (Or.inl ⟨by rfl, ?_⟩) hHeld ?_
  rotate_left
  · intro w hSw; (try dsimp only at hSw); go_simp; all_goals (with_reducible rfl)
  try simp only [Act.put, List.setIfInBounds_toArray, List.set_cons_zero, List.set_cons_succ]
  refine wpAnyH_here 1 (v := ?_) rfl (by kernel_rfl) (by kernel_rfl) (by kernel_rfl) (fun _ _ _ h => h) (Or.inl ⟨by rfl, ?_⟩) hHeld ?_
  rotate_left
  · intro w hSw; (try dsimp only at hSw); go_simp; all_goals (with_reducible rfl)
  try simp only [Act.put, List.setIfInBounds_toArray, List.set_cons_zero, List.set_cons_succ]
  refine wpAnyH_here 2 (v := ?_) rfl (by kernel_rfl) (by kernel_rfl) (by kernel_rfl) (fun _ _ _ h => h) (Or.inl ⟨by rfl, ?_⟩) hHeld ?_
  rotate_left
  · intro w hSw; (try dsimp only at hSw); go_simp; all_goals (with_reducible rfl)
  try simp only [Act.put, List.setIfInBounds_toArray, List.set_cons_zero, List.set_cons_succ]
  refine wpAnyH_here 3 (v := ?_) rfl (by kernel_rfl) (by kernel_rfl) (by kernel_rfl) (fun _ _ _ h => h) (Or.inl ⟨by rfl, ?_⟩) hHeld ?_
  rotate_left
  · intro w hSw; (try dsimp only at hSw); go_simp; all_goals (with_reducible rfl)
  try simp only [Act.put, List.setIfInBounds_toArray, List.set_cons_zero, List.set_cons_succ]
  refine wpAnyH_here 4 (v := ?_) rfl (by kernel_rfl) (by kernel_rfl) (by kernel_rfl) (fun _ _ _ h => h) (Or.inl ⟨by rfl, ?_⟩) hHeld ?_
  rotate_left
  · intro w hSw; (try dsimp only at hSw); go_simp; all_goals (with_reducible rfl)
  try simp only [Act.put, List.setIfInBounds_toArray, List.set_cons_zero, List.set_cons_succ]
  refine wpAnyH_here 6 (v := ?_) rfl (by kernel_rfl) (by kernel_rfl) (by kernel_rfl) (fun _ _ _ h => h) (Or.inl ⟨by rfl, ?_⟩) hHeld ?_
  rotate_left
  · intro w hSw; (try dsimp only at hSw); go_simp; all_goals (with_reducible rfl)
  try simp only [Act.put, List.setIfInBounds_toArray, List.set_cons_zero, List.set_cons_succ]
  refine wpAnyH_here 7 (v := ?_) rfl (by kernel_rfl) (by kernel_rfl) (by kernel_rfl) (fun _ _ _ h => h) (Or.inl ⟨by rfl, ?_⟩) hHeld ?_
  rotate_left
  · intro w hSw; (try dsimp only at hSw); go_simp; all_goals (with_reducible rfl)
  try simp only [Act.put, List.setIfInBounds_toArray, List.set_cons_zero, List.set_cons_succ]
  refine wpAnyH_here 8 (v := ?_) rfl (by kernel_rfl) (by kernel_rfl) (by kernel_rfl) (fun _ _ _ h => h) (Or.inl ⟨by rfl, ?_⟩) hHeld ?_
  rotate_left
  · intro w hSw; (try dsimp only at hSw); go_simp; all_goals (with_reducible rfl)
  try simp only [Act.put, List.setIfInBounds_toArray, List.set_cons_zero, List.set_cons_succ]
  refine wpAnyH_here 9 (v := ?_) rfl (by kernel_rfl) (by kernel_rfl) (by kernel_rfl) (fun _ _ _ h => h) (Or.inl ⟨by rfl, ?_⟩) hHeld ?_
  rotate_left
  · intro w hSw; (try dsimp only at hSw); go_simp; all_goals (with_reducible rfl)
  try simp only [Act.put, List.setIfInBounds_toArray, List.set_cons_zero, List.set_cons_succ]
  refine wpAnyH_alone 5 rfl (by kernel_rfl) (fun K hK => ?_)
  go_simp
  (go_at_call 20; refine (s1.drew.uint (SR : Int) SR rfl 1 1 rfl (by decide) (by simp [be_len])).mono ?_; rintro e W2 ⟨rfl, s2⟩; have HB := s2.bel)
  refine hK.out _ _ (⟨(HB.cell (p := ⟨w.heap.size, 1, none⟩) hlt).trans c1, (HB.cell (p := ⟨w.heap.size, 2, none⟩) hlt).trans c2⟩) (fun hHeld => ?_)
  clear hK K
  try simp only [Act.put, List.setIfInBounds_toArray, List.set_cons_zero, List.set_cons_succ]
  refine wpAnyH_alone 10 rfl (by kernel_rfl) (fun K hK => ?_)
  go_simp
  (go_at_call 20; refine (s2.uint (NM : Int) NM rfl 2 2 rfl (by decide) (by simp [be_len])).mono ?_; rintro e W3 ⟨rfl, s3⟩; have HB := s3.bel)
  refine hK.out _ _ (⟨(HB.cell (p := ⟨w.heap.size, 1, none⟩) hlt).trans c1, (HB.cell (p := ⟨w.heap.size, 2, none⟩) hlt).trans c2⟩) (fun hHeld => ?_)
  clear hK K
  try simp only [Act.put, List.setIfInBounds_toArray, List.set_cons_zero, List.set_cons_succ]
  refine wpAnyH_done (by kernel_rfl) ?_ _
  obtain ⟨L, hL⟩ : ∃ L, L = [] ++ be 7 1 ++ be SR 1 ++ be NM 2 := ⟨_, rfl⟩
  rw [← hL] at s3
  have hL4 : L.length = 4 := by rw [hL]; simp [be_len]
  have HL := Lib.hid hL
  clear hL s1 s2 d1 d2
  have d0 := (HB.cell (p := ⟨w.heap.size, 0, none⟩) hlt).trans c0
  have hfl : L = E := by rw [HE.out, HL.out]; simp [enc, hd, bd]
  have hfn : L.length < 100000 := by
    omega
  rw [hfl] at s3 hfn
  clear hfl
  go_wp2_with fail
  refine (s3.bytes hfn).mono ?_
  rintro e w9 ⟨⟨A9, n9, c9, rfl, hB9⟩, hb9⟩
  go_wp2
  go_ret2
  exact ⟨⟨A9, n9, c9, rfl, hB9⟩, b1.trans ((s3.bel.trans (hb9.mono s3.bel.size)).mono b1.size)⟩
end Go.Proofs.Ytjjfamkljcipgaa.Pdu
namespace Go.Proofs.Ytjjfamkljcipgaa.Pdu
open Go.RowKit Go.Proofs.Ytjjfamkljcipgaa.Row

theorem pencode_any (kd sr nm cl : Int) (na : List Byte) (sz of : Int) (da : List Byte) (su : Nat) (co : Int) (ga : List R) (A : Option Addr) (n a : Nat) (G : Option Addr) (m c : Nat) (w : World) (h : Px w ⟨kd, sr, nm, cl, na, sz, of, da, su, co, ga⟩ A n a G m c) :
    Calls Try.prog 10 #[.agg #[I kd, I sr, I nm, I cl, .string (str na), I sz, I of, .slice A n a, .int .u32 (su : Int), I co, .slice G m c]] w fun e w' => (∃ A' n' c', e = .returned (.tuple #[.slice A' n' c', I (enE ⟨kd, sr, nm, cl, na, sz, of, da, su, co, ga⟩)]) ∧ Bo w' A' (enO ⟨kd, sr, nm, cl, na, sz, of, da, su, co, ga⟩) n' c') ∧ Below w.heap.size w w' := by
  cases hok : ok ⟨kd, sr, nm, cl, na, sz, of, da, su, co, ga⟩ with
  | false =>
    rw [show enE ⟨kd, sr, nm, cl, na, sz, of, da, su, co, ga⟩ = 1 by simp [enE, hok], show enO ⟨kd, sr, nm, cl, na, sz, of, da, su, co, ga⟩ = [] by simp [enO, hok]]
    exact (pencode_no kd sr nm cl na sz of da su co ga A n a G m c w h hok).mono fun e w' ⟨h1, h2⟩ => ⟨⟨none, 0, 0, h1, Bo.zero _⟩, h2⟩
  | true =>
    rw [show enE ⟨kd, sr, nm, cl, na, sz, of, da, su, co, ga⟩ = 0 by simp [enE, hok], show enO ⟨kd, sr, nm, cl, na, sz, of, da, su, co, ga⟩ = enc ⟨kd, sr, nm, cl, na, sz, of, da, su, co, ga⟩ by simp [enO, hok]]
    obtain ⟨h1, h2, hc⟩ := ok_cases hok
    simp only at h1 h2 hc
    have hda := h.b.len
    have hga := h.g.len
    simp only at hda hga
    obtain ⟨SR, rfl⟩ := Int.eq_ofNat_of_zero_le h1.1
    obtain ⟨NM, rfl⟩ := Int.eq_ofNat_of_zero_le h2.1
    rcases hc with ⟨rfl, c1, c2, c3, _⟩ | ⟨rfl, c1, _⟩ | ⟨rfl, c1, c2, c3, _⟩ | ⟨rfl, c1, _⟩ | ⟨rfl, c1, _⟩ | ⟨hk, _⟩
    · obtain ⟨CL, rfl⟩ := Int.eq_ofNat_of_zero_le (show 0 ≤ cl by omega)
      have hl := of_decide_eq_true (Bool.and_eq_true_iff.1 c3).1
      exact pencode_k1 SR NM CL co na sz of da su ga A n a G m c w h hok (by omega) (by omega) (by omega) c2 hl
    · have hl := of_decide_eq_true c1
      exact pencode_k2 SR NM cl co na sz of da su ga A n a G m c w h hok (by omega) (by omega) (by omega) (by omega)
    · obtain ⟨CL, rfl⟩ := Int.eq_ofNat_of_zero_le (show 0 ≤ cl by omega)
      obtain ⟨CO, rfl⟩ := Int.eq_ofNat_of_zero_le c3.1
      exact pencode_k3 SR NM CL CO na sz of da su ga A n a G m c w h hok (by omega) (by omega) (by omega) c2 (by omega)
    · have hl := Bool.and_eq_true_iff.1 c1
      have h3 := of_decide_eq_true hl.1
      exact pencode_k4 SR NM cl co na sz of da su ga A n a G m c w h hok (by omega) (by omega) (gok_bounds (by omega) hl.2) (by omega)
    · obtain ⟨CO, rfl⟩ := Int.eq_ofNat_of_zero_le c1.1
      exact pencode_k5 SR NM cl CO na sz of da su ga A n a G m c w h hok (by omega) (by omega) (by omega)
    · rcases hk with rfl | rfl
      · exact pencode_k6 SR NM cl co na sz of da su ga A n a G m c w h hok (by omega) (by omega)
      · exact pencode_k7 SR NM cl co na sz of da su ga A n a G m c w h hok (by omega) (by omega)
end Go.Proofs.Ytjjfamkljcipgaa.Pdu
