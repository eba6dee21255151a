/-
  The laws of layer 20: alive.
-/
import Derived.Test.YtcmonalnhdodmaaLaw20a
namespace Go.Proofs.Ytcmonalnhdodmaa.Unp
open Go.RowKit Go.Proofs.Ytcmonalnhdodmaa.Row Lst
open Pac (bel_new siE tot)

set_option maxRecDepth 100000 in
set_option maxHeartbeats 8000000 in
theorem alive20_any (w : World) : Calls Try.prog 8 #[] w fun e w' => e = .returned (.bool true) ∧ Below w.heap.size w w' := by
  obtain ⟨w1, hw1⟩ : ∃ w1, w1 = w.alloc (.cells #[.int .u8 8, .int .u8 1, .int .u8 192, .int .u8 0, .int .u8 0, .int .u8 0, .int .u8 170] 5) := ⟨_, rfl⟩
  obtain ⟨w2, hw2⟩ : ∃ w2, w2 = w1.alloc (.cells #[.int .u8 8, .int .u8 1, .int .u8 192, .int .u8 1, .int .u8 0, .int .u8 1, .int .u8 187, .int .u8 204] 5) := ⟨_, rfl⟩
  have b1 : Below w.heap.size w w1 := by rw [hw1]; exact bel_new _ _
  have b2 : Below w1.heap.size w1 w2 := by rw [hw2]; exact bel_new _ _
  have oP : Ow w1 w.heap.size 5 (.slice (some ⟨w.heap.size, 0, none⟩) 7 7) P20 := by rw [hw1]; exact Ow_new w _ _ P20 7 _ rfl rfl (Nat.le_refl _) (by decide) _ rfl
  have oQ : Ow w2 w.heap.size 5 (.slice (some ⟨w1.heap.size, 0, none⟩) 8 8) Q20 := by rw [hw2]; exact Ow_new w1 _ _ Q20 8 _ rfl rfl b1.size (by decide) _ rfl
  have oP2 := oP.below b2
  have b02 := b1.trans (b2.mono b1.size)
  obtain ⟨_, _, he1, rP⟩ := Rd.of (n := 7) oP2 rfl
  cases he1
  obtain ⟨_, _, he2, rQ⟩ := Rd.of (n := 8) oQ rfl
  cases he2
  have s1 : w1.heap.size = w.heap.size + 1 := by rw [hw1]; simp
  have HP := Lib.hid (And.intro rP (And.intro rQ b02))
  have b3 := bel_new w2 (.cells #[] 5)
  have o3 := Ow_empty w2 w2.heap.size 5 (Nat.le_refl _)
  clear oP oQ oP2 rP rQ b1 b2 b02
  go_enter Try.func8, Try.ntmps8
  go_upto_region 3 with fail
  rw [← s1, ← hw1, ← hw2]
  clear s1 hw1 hw2
  go_wp2_with (first
    | (at_builtin; refine wpList_appN _ is_bytes rfl (.tmp 16) (.tmp 17) rfl (m := []) rfl o3 HP.out.1.len rfl (HP.out.1.bs.below b3) HP.out.1.nil (by simp) b3.size ?_; intro v4 w4 ho4 hg4 hv4; have b4 := b3.grown hg4 b3.size o3.base_le; rw [List.nil_append] at ho4; clear hg4 hv4)
    | (at_builtin; refine wpList_appN _ is_bytes rfl (.tmp 18) (.tmp 19) rfl (m := P20) rfl ho4 HP.out.2.1.len rfl (HP.out.2.1.bs.below b4) HP.out.2.1.nil (by decide) b4.size ?_; intro v5 w5 ho5 hg5 hv5; have b5 := b4.grown hg5 b4.size ho4.base_le; obtain ⟨A, c, rfl, rS⟩ := Rd.of (n := 15) ho5 (by decide); clear hg5 hv5 ho4))
  obtain ⟨b, off, rfl, hb5, _⟩ := rS.at_ (by decide)
  have h15 := rS.le
  have n5 : c ≠ 5 := by omega
  have n10 : c ≠ 10 := by omega
  have i5 : (5 : Int) ≤ (c : Int) := by omega
  have i10 : (10 : Int) ≤ (c : Int) := by omega
  have d0 := Rd.sub rS 0 5 (by decide)
  have d5 := Rd.sub rS 5 5 (by decide)
  have d10 := Rd.sub rS 10 5 (by decide)
  rw [Nat.add_zero, Nat.sub_zero] at d0
  have HP5 := Lib.hid (And.intro (HP.out.1.later b5) (And.intro (HP.out.2.1.later b5) (HP.out.2.2.trans (b5.mono HP.out.2.2.size))))
  have HD := Lib.hid (And.intro d0 (And.intro d5 (And.intro d10 hb5)))
  clear rS h15 d0 d5 d10 hb5 b3 o3 b4 ho5 HP
  go_wp2_with fail
  refine (UL.new (w0 := w5) (Below.refl _ _)).mono ?_
  rintro e wu ⟨gu, Fu, rfl, U0, bnu, nu⟩
  go_wp2_with fail
  refine (U0.take (ct := 0) (f := 0) (n := 0) (by decide) (HD.out.1.later U0.b) (by decide) (fun _ => Of_blk (fun x hx => by have := U0.lo x hx; have := HD.out.2.2.2; omega) (Nat.lt_of_lt_of_le HD.out.2.2.2 U0.b.size)) t1_20.1 t1_20.2 rfl).mono ?_
  rintro e wa ⟨Aa, ca, F1, rfl, Ka, U1, ka, fa⟩
  clear U0 Ka ka fa bnu nu
  go_wp2_with fail
  refine (U1.take (ct := 1) (f := 2) (n := 1) (by decide) (HD.out.2.1.later U1.b) (by decide) (fun _ => Of_blk (fun x hx => by have := U1.lo x hx; have := HD.out.2.2.2; omega) (Nat.lt_of_lt_of_le HD.out.2.2.2 U1.b.size)) t2_20.1 t2_20.2 rfl).mono ?_
  rintro e wb ⟨Ab, cb, F2, rfl, Kb, U2, kb, fb⟩
  clear U1 kb fb
  go_wp2_with fail
  refine (U2.take (ct := 2) (f := 2047) (n := 1) (by decide) (HD.out.2.2.1.later U2.b) (by decide) (fun _ => Of_blk (fun x hx => by have := U2.lo x hx; have := HD.out.2.2.2; omega) (Nat.lt_of_lt_of_le HD.out.2.2.2 U2.b.size)) t3_20.1 t3_20.2 rfl).mono ?_
  rintro e wc ⟨Ac, cc, F3, rfl, Kc, U3, kc, fc⟩
  have Kb := Kb.next kc (fun x hx => .inl hx) fc
  clear U2 kc fc
  go_wp2_with fail
  refine (UL.new (w0 := w5) U3.b).mono ?_
  rintro e wv ⟨gv, Fv, rfl, V0, bnv, nv⟩
  have U3lt := U3.p.lt
  have U3 := U3.below bnv
  have Kb := Kb.next (F' := Fv ++ F3) (Only.of_below (S := []) bnv) (by simp) (fun x hx => (List.mem_append.1 hx).elim (fun q => .inr (nv x q)) .inl)
  have Kc := Kc.next (F' := Fv ++ F3) (Only.of_below (S := []) bnv) (by simp) (fun x hx => (List.mem_append.1 hx).elim (fun q => .inr (nv x q)) .inl)
  have D : ∀ x ∈ F3, x ∉ Fv := fun x hx hm => by have := nv x hm; have := U3lt x hx; omega
  clear U3lt bnv nv
  go_wp2_with fail
  refine (V0.take (ct := 1) (f := 2) (n := 0) (by decide) (HD.out.2.1.later V0.b) (by decide) (fun _ => Of_blk (fun x hx => by have := V0.lo x hx; have := HD.out.2.2.2; omega) (Nat.lt_of_lt_of_le HD.out.2.2.2 V0.b.size)) t4_20.1 t4_20.2 rfl).mono ?_
  rintro e wd ⟨Ad, cd, G1, rfl, Kd, V1, kd, fd⟩
  have Kb := Kb.next (F' := G1 ++ F3) kd (fun x hx => .inl (List.mem_append_left _ hx)) (fun x hx => (List.mem_append.1 hx).elim (fun q => (fd x q).imp (List.mem_append_left _) id) (fun q => .inl (List.mem_append_right _ q)))
  have Kc := Kc.next (F' := G1 ++ F3) kd (fun x hx => .inl (List.mem_append_left _ hx)) (fun x hx => (List.mem_append.1 hx).elim (fun q => (fd x q).imp (List.mem_append_left _) id) (fun q => .inl (List.mem_append_right _ q)))
  have D0 := D
  have D : ∀ x ∈ F3, x ∉ G1 := fun x hx hm => by
    rcases fd x hm with q | q
    · exact D x hx q
    · have := U3.p.lt x hx; omega
  have U3 := U3.off kd D0 V0.lo
  clear V0 kd fd D0
  clear Kd
  go_wp2_with fail
  refine (V1.take (ct := 2) (f := 2047) (n := 1) (by decide) (HD.out.2.2.1.later V1.b) (by decide) (fun _ => Of_blk (fun x hx => by have := V1.lo x hx; have := HD.out.2.2.2; omega) (Nat.lt_of_lt_of_le HD.out.2.2.2 V1.b.size)) t3_20.1 t3_20.2 rfl).mono ?_
  rintro e we ⟨Ae, ce, G2, rfl, Ke, V2, ke, fe⟩
  have Kb := Kb.next (F' := G2 ++ F3) ke (fun x hx => .inl (List.mem_append_left _ hx)) (fun x hx => (List.mem_append.1 hx).elim (fun q => (fe x q).imp (List.mem_append_left _) id) (fun q => .inl (List.mem_append_right _ q)))
  have Kc := Kc.next (F' := G2 ++ F3) ke (fun x hx => .inl (List.mem_append_left _ hx)) (fun x hx => (List.mem_append.1 hx).elim (fun q => (fe x q).imp (List.mem_append_left _) id) (fun q => .inl (List.mem_append_right _ q)))
  have D0 := D
  have D : ∀ x ∈ F3, x ∉ G2 := fun x hx hm => by
    rcases fe x hm with q | q
    · exact D x hx q
    · have := U3.p.lt x hx; omega
  have U3 := U3.off ke D0 V1.lo
  clear V1 ke fe D0
  have U3lt := U3.p.lt
  go_wp2_with fail
  refine (UL.new (w0 := w5) V2.b).mono ?_
  rintro e wx ⟨gx, Fx, rfl, X0, bx, nx⟩
  have U3 := U3.below bx
  have Kb := Kb.next (F' := Fx ++ (G2 ++ F3)) (Only.of_below (S := []) bx) (by simp) (fun x hx => (List.mem_append.1 hx).elim (fun q => .inr (nx x q)) .inl)
  have Kc := Kc.next (F' := Fx ++ (G2 ++ F3)) (Only.of_below (S := []) bx) (by simp) (fun x hx => (List.mem_append.1 hx).elim (fun q => .inr (nx x q)) .inl)
  have Ke := Ke.next (F' := Fx ++ G2) (Only.of_below (S := []) bx) (by simp) (fun x hx => (List.mem_append.1 hx).elim (fun q => .inr (nx x q)) .inl)
  have D : ∀ x ∈ F3, x ∉ Fx := fun x hx hm => by have := nx x hm; have := U3lt x hx; omega
  clear U3lt bx nx V2
  go_wp2_with fail
  refine (X0.take (ct := 0) (f := 0) (n := 0) (by decide) (HD.out.1.later X0.b) (by decide) (fun _ => Of_blk (fun x hx => by have := X0.lo x hx; have := HD.out.2.2.2; omega) (Nat.lt_of_lt_of_le HD.out.2.2.2 X0.b.size)) t1_20.1 t1_20.2 rfl).mono ?_
  rintro e wf ⟨Af, cf, H1, rfl, Kf, X1, kf, ff⟩
  have Kb := Kb.next (F' := H1 ++ (G2 ++ F3)) kf (fun x hx => .inl (List.mem_append_left _ hx)) (fun x hx => (List.mem_append.1 hx).elim (fun q => (ff x q).imp (List.mem_append_left _) id) (fun q => .inl (List.mem_append_right _ q)))
  have Kc := Kc.next (F' := H1 ++ (G2 ++ F3)) kf (fun x hx => .inl (List.mem_append_left _ hx)) (fun x hx => (List.mem_append.1 hx).elim (fun q => (ff x q).imp (List.mem_append_left _) id) (fun q => .inl (List.mem_append_right _ q)))
  have Ke := Ke.next (F' := H1 ++ G2) kf (fun x hx => .inl (List.mem_append_left _ hx)) (fun x hx => (List.mem_append.1 hx).elim (fun q => (ff x q).imp (List.mem_append_left _) id) (fun q => .inl (List.mem_append_right _ q)))
  have D0 := D
  have D : ∀ x ∈ F3, x ∉ H1 := fun x hx hm => by
    rcases ff x hm with q | q
    · exact D x hx q
    · have := U3.p.lt x hx; omega
  have U3 := U3.off kf D0 X0.lo
  clear X0 kf ff D0 Kf
  go_wp2_with fail
  refine (X1.take (ct := 2) (f := 2047) (n := 0) (by decide) (HD.out.2.2.1.later X1.b) (by decide) (fun _ => Of_blk (fun x hx => by have := X1.lo x hx; have := HD.out.2.2.2; omega) (Nat.lt_of_lt_of_le HD.out.2.2.2 X1.b.size)) t5_20.1 t5_20.2 rfl).mono ?_
  rintro e wg ⟨Ag, cg, H2, rfl, Kg, X2, kg, fg⟩
  have Kb := Kb.next (F' := H2 ++ (G2 ++ F3)) kg (fun x hx => .inl (List.mem_append_left _ hx)) (fun x hx => (List.mem_append.1 hx).elim (fun q => (fg x q).imp (List.mem_append_left _) id) (fun q => .inl (List.mem_append_right _ q)))
  have Kc := Kc.next (F' := H2 ++ (G2 ++ F3)) kg (fun x hx => .inl (List.mem_append_left _ hx)) (fun x hx => (List.mem_append.1 hx).elim (fun q => (fg x q).imp (List.mem_append_left _) id) (fun q => .inl (List.mem_append_right _ q)))
  have Ke := Ke.next (F' := H2 ++ G2) kg (fun x hx => .inl (List.mem_append_left _ hx)) (fun x hx => (List.mem_append.1 hx).elim (fun q => (fg x q).imp (List.mem_append_left _) id) (fun q => .inl (List.mem_append_right _ q)))
  have D0 := D
  have D : ∀ x ∈ F3, x ∉ H2 := fun x hx hm => by
    rcases fg x hm with q | q
    · exact D x hx q
    · have := U3.p.lt x hx; omega
  have U3 := U3.off kg D0 X1.lo
  clear X1 kg fg D0 Kg
  have bend : Below w.heap.size w wg := HP5.out.2.2.trans (X2.b.mono HP5.out.2.2.size)
  have rP := HP5.out.1.later X2.b
  have rQ := HP5.out.2.1.later X2.b
  have lU := U3.lost
  obtain ⟨W1, hW1⟩ : ∃ W1, W1 = wg.alloc (.cells #[.slice (some ⟨w.heap.size, 0, none⟩) 7 7] 26) := ⟨_, rfl⟩
  have bW1 : Below wg.heap.size wg W1 := by rw [hW1]; exact bel_new _ _
  have y1 := Same_of (c1 := cb) (c2 := 1) (n := 1) W1 ((Kb.below bW1).reads rfl) (by rw [hW1]; exact LS_one rP) rfl (by decide)
  have HK := Lib.hid (And.intro Kc (And.intro Ke (And.intro U3 (And.intro X2 (And.intro rQ (And.intro bend bW1))))))
  clear Kb Kc Ke U3 X2 rQ rP bend bW1 lU D
  go_wp2_with fail
  rw [← hW1]
  clear hW1
  refine y1.mono ?_
  clear y1
  rintro e w11 ⟨rfl, b11⟩
  have b12 := HK.out.2.2.2.2.2.2.trans (b11.mono HK.out.2.2.2.2.2.2.size)
  obtain ⟨W2, hW2⟩ : ∃ W2, W2 = w11.alloc (.cells #[.slice (some ⟨w1.heap.size, 0, none⟩) 8 8] 26) := ⟨_, rfl⟩
  have bW2 : Below w11.heap.size w11 W2 := by rw [hW2]; exact bel_new _ _
  have b13 := b12.trans (bW2.mono b12.size)
  have y2 := Same_of (c1 := cc) (c2 := 1) (n := 1) W2 ((HK.out.1.below b13).reads rfl) (by rw [hW2]; exact LS_one (HK.out.2.2.2.2.1.later b12)) rfl (by decide)
  have HB := Lib.hid b13
  clear b11 b12 b13 bW2
  go_wp2_with fail
  rw [← hW2]
  clear hW2
  refine y2.mono ?_
  clear y2
  rintro e w21 ⟨rfl, b21⟩
  have b22 := HB.out.trans (b21.mono HB.out.size)
  have y3 := (HK.out.2.2.1.below b22).lost
  have HB2 := Lib.hid b22
  clear b21 b22
  go_wp2_with fail
  refine y3.mono ?_
  clear y3
  rintro e w22 ⟨rfl, rfl⟩
  obtain ⟨W3, hW3⟩ : ∃ W3, W3 = w21.alloc (.cells #[.slice (some ⟨w1.heap.size, 0, none⟩) 8 8] 26) := ⟨_, rfl⟩
  have bW3 : Below w21.heap.size w21 W3 := by rw [hW3]; exact bel_new _ _
  have b33 := HB2.out.trans (bW3.mono HB2.out.size)
  have y4 := Same_of (c1 := ce) (c2 := 1) (n := 1) W3 ((HK.out.2.1.below b33).reads rfl) (by rw [hW3]; exact LS_one (HK.out.2.2.2.2.1.later HB2.out)) rfl (by decide)
  have HB3 := Lib.hid b33
  clear b33 bW3
  go_wp2_with fail
  rw [← hW3]
  clear hW3
  refine y4.mono ?_
  clear y4
  rintro e w31 ⟨rfl, b31⟩
  have b32 := HB3.out.trans (b31.mono HB3.out.size)
  have y5 := (HK.out.2.2.2.1.below b32).lost
  have HB4 := Lib.hid b32
  clear b31 b32
  go_wp2_with fail
  refine y5.mono ?_
  clear y5
  rintro e w32 ⟨rfl, rfl⟩
  go_wp2
  go_ret
  exact ⟨rfl, HK.out.2.2.2.2.2.1.trans (HB4.out.mono HK.out.2.2.2.2.2.1.size)⟩
end Go.Proofs.Ytcmonalnhdodmaa.Unp
