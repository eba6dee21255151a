/-
  Package source, the laws: the walk of lives.
-/
import Derived.Test.YtaaikmncdgfkmaaLaw27a
namespace Go.Proofs.Ytaaikmncdgfkmaa.Src
open Go.RowKit
open Go.Proofs.Ytaaikmncdgfkmaa.Pdu (Pd Gx Bx Px)
open Go.Proofs.Ytaaikmncdgfkmaa.Rng (R)
theorem bel_of {w w' W : World} (h : Below w.heap.size w W) (x : Obj) (e : W.alloc x = w') : Below w.heap.size w w' := e ▸ h.alloc h.size x
theorem bx5 (w : World) : Bx (w.alloc (.cells #[.int .u8 65, .int .u8 66, .int .u8 67, .int .u8 68, .int .u8 69] 5 (5, 6))) (some ⟨w.heap.size, 0, none⟩) bt5 5 5 :=
  ⟨rfl, Bs_new w 5 bt5 _ rfl _ (by simp) (5, 6), (fun h => nomatch h), Nat.le_refl _, by decide⟩
theorem gx2 (w : World) : Gx (w.alloc (.cells #[.int .i64 0, .int .i64 0, .int .i64 1, .int .i64 4] 62)) (some ⟨w.heap.size, 0, none⟩) [(0, 0), (1, 4)] 2 2 :=
  ⟨rfl, fun _ => ⟨w.heap.size, 0, rfl, by simp, fun i x hi j u hu => by
    have hc := Cel.new w 62 #[.int .i64 0, .int .i64 0, .int .i64 1, .int .i64 4]
    rw [hc.cell]
    match i, j, hi, hu with
    | 0, 0, hi, hu => cases hi; cases hu; rfl
    | 0, 1, hi, hu => cases hi; cases hu; rfl
    | 1, 0, hi, hu => cases hi; cases hu; rfl
    | 1, 1, hi, hu => cases hi; cases hu; rfl⟩, (fun h => nomatch h), Nat.le_refl _, by decide⟩
set_option maxRecDepth 100000 in
set_option maxHeartbeats 8000000 in
theorem lives_any (w : World) : Calls Try.prog 7 #[] w fun e w' => e = .returned (.bool true) ∧ Below w.heap.size w w' := by
  have hcv := fun (w : World) (C : Array Value) (n c : Nat) => Lib.run_convert_bytes_const (P := Try.prog) w 24 5 C n c Try.underlying24 Try.underlying5
  have k1 := Kc.acc_ok ka_acc
  have k2 := Kc.acc_ok ke_acc
  go_enter Try.func7, Try.ntmps7
  go_wp2_with fail
  refine (id_any _).mono ?_
  rintro e w1 ⟨rfl, b1⟩
  go_wp2_with fail
  refine (snew_ok 1 7 1 [120#8] bt5 2 10 0 (some ⟨w1.heap.size, 0, none⟩) 5 5 _ (bx5 w1) ka_acc).mono ?_
  rintro e w2 ⟨⟨g1, rfl, hg1, f1⟩, b2⟩
  have B2 := b1.trans (((bel_new w1 _).trans (b2.mono (by simp))).mono b1.size)
  have hg1' : w.heap.size ≤ g1 := by have := b1.size; simp at hg1; omega
  clear b1 b2 hg1
  go_wp2_with fail
  refine (id_any _).mono ?_
  rintro e w3 ⟨rfl, b3⟩
  go_wp2_with fail
  refine (snew_ok 1 7 2 [120#8] bt5 5 10 1 (some ⟨w3.heap.size, 0, none⟩) 5 5 _ (bx5 w3) ke_acc).mono ?_
  rintro e w4 ⟨⟨g2, rfl, hg2, f2⟩, b4⟩
  have b5 := b3.trans (((bel_new w3 _).trans (b4.mono (by simp))).mono b3.size)
  have hgs := f1.lt
  have hne : g1 ≠ g2 := by have := b3.size; simp at hg2; omega
  have P0 : PL w w4 g1 g2 KA KE ss0 ss0 [] [] := ⟨B2.trans (b5.mono B2.size), ⟨f1.below b5, k1, ss0_ok k1⟩, ⟨f2, k2, ss0_ok k2⟩, hg1', by have := B2.size; have := b3.size; simp at hg2; omega, hne, (fun _ h => nomatch h), (fun _ h => nomatch h)⟩
  clear f1 f2 b3 b4 b5 B2 hgs hg2 hg1' hne
  go_wp2_with fail
  refine (id_any _).mono ?_
  rintro e w5 ⟨rfl, b5⟩
  have P1 := P0.below b5
  clear P0 b5
  go_wp2_with fail
  refine (snew_no 1 7 3 [120#8] [] 5 10 0 none 0 0 _ (Bx.zero _) kc_acc).mono ?_
  rintro e w6 ⟨rfl, b6⟩
  have P := P1.below b6
  clear P1 b6
  go_wp2_with fail
  refine (P.next1 0 1 1 7 1 [120#8] 5 0 [] 0 0 0 true sa1 oa1 rfl rfl).mono ?_
  rintro e v1 ⟨A1, a1, rfl, Q⟩
  clear P
  have P := Q.box #[.int .i64 1, .int .i64 1, .int .i64 7, .int .i64 1, .string (str [120#8]), .int .i64 5, .int .i64 0, .slice A1 0 a1, .int .u32 0, .int .i64 0, .slice none 0 0]
  clear Q
  go_wp2_with fail
  refine (P.next1 0 2 1 7 0 [] 0 0 [65#8, 66#8] 0 0 2 true sa2 oa2 rfl rfl).mono ?_
  rintro e v2 ⟨A2, a2, rfl, Q⟩
  clear P
  have P := Q.box #[.int .i64 2, .int .i64 1, .int .i64 7, .int .i64 0, .string (str []), .int .i64 0, .int .i64 0, .slice A2 2 a2, .int .u32 0, .int .i64 0, .slice none 0 0]
  clear Q
  go_wp2_with fail
  refine (P.next1 0 2 1 7 0 [] 0 2 [67#8, 68#8] 0 0 2 true sa3 oa3 rfl rfl).mono ?_
  rintro e v3 ⟨A3, a3, rfl, Q⟩
  clear P
  have P := Q
  clear Q
  go_wp2_with fail
  refine (P.next1 0 2 1 7 0 [] 0 4 [69#8] 0 0 1 true sa4 oa4 rfl rfl).mono ?_
  rintro e v4 ⟨A4, a4, rfl, Q⟩
  clear P
  have P := Q.box #[.int .i64 2, .int .i64 1, .int .i64 7, .int .i64 0, .string (str []), .int .i64 0, .int .i64 4, .slice A4 1 a4, .int .u32 0, .int .i64 0, .slice none 0 0]
  clear Q
  go_wp2_with fail
  refine (P.next1 0 3 1 7 1 [] 5 0 [] 2252489540 0 0 true sa5 oa5 rfl rfl).mono ?_
  rintro e v5 ⟨A5, a5, rfl, Q⟩
  clear P
  have P := Q.box #[.int .i64 3, .int .i64 1, .int .i64 7, .int .i64 1, .string (str []), .int .i64 5, .int .i64 0, .slice A5 0 a5, .int .u32 2252489540, .int .i64 0, .slice none 0 0]
  clear Q
  obtain ⟨W5, hW5⟩ : ∃ W, W = v5.alloc (.cells #[.int .i64 3, .int .i64 1, .int .i64 7, .int .i64 1, .string (str []), .int .i64 5, .int .i64 0, .slice A5 0 a5, .int .u32 2252489540, .int .i64 0, .slice none 0 0] 45) := ⟨_, rfl⟩
  rw [← hW5] at P
  have c0 := (P.c.at_ (.tail _ (.tail _ (.tail _ (.head _))))).cell 0
  have c4 := (P.c.at_ (.tail _ (.tail _ (.tail _ (.head _))))).cell 5
  have c7 := (P.c.at_ (.tail _ (.tail _ (.head _)))).cell 7
  have d6 := (P.c.at_ (.tail _ (.head _))).cell 6
  have d7 := (P.c.at_ (.tail _ (.head _))).cell 7
  have e0 := (P.c.at_ (.head _)).cell 0
  have e8 := (P.c.at_ (.head _)).cell 8
  have v1 : (convert 24 9 (.slice A2 2 a2)).run Try.prog W5 = .ok (.string ⟨#[65, 66]⟩) W5 := P.d.conv (.tail _ (.tail _ (.tail _ (.head _))))
  have v2 : (convert 24 9 (.slice A4 1 a4)).run Try.prog W5 = .ok (.string ⟨#[69]⟩) W5 := P.d.conv (.tail _ (.head _))
  have hst := sstate_any P.a.f P.a.o.p1
  rw [sta_a] at hst
  go_upto_region 11 with fail
  rw [← hW5]
  clear hW5
  go_wp2_with fail
  refine hst.mono ?_
  rintro e w7 ⟨rfl, rfl⟩
  clear hst c0 c4 c7 d6 d7 e0 e8 v1 v2
  go_wp2_with fail
  refine (P.next2 3 1 1 7 2 [120#8] 5 0 [] 0 0 0 true se1 oe1 rfl rfl).mono ?_
  rintro e v6 ⟨A6, a6, rfl, Q⟩
  clear P
  have P := Q
  clear Q
  go_wp2_with fail
  refine (P.next2 3 2 1 7 0 [] 0 0 bt5 0 0 5 true se2 oe2 rfl rfl).mono ?_
  rintro e v7 ⟨A7, a7, rfl, Q⟩
  clear P
  have P := Q
  clear Q
  go_wp2_with fail
  refine (P.next2 3 3 1 7 2 [] 5 0 [] 2252489540 0 0 true se3 oe3 rfl rfl).mono ?_
  rintro e v8 ⟨A8, a8, rfl, Q⟩
  clear P
  have P := Q
  clear Q
  go_wp2_with fail
  refine (P.next2 12 0 0 0 0 [] 0 0 [] 0 0 0 false se4 oe4 rfl rfl).mono ?_
  rintro e v9 ⟨A9, a9, rfl, Q⟩
  clear P
  have P := Q.box #[.int .i64 0, .int .i64 0, .int .i64 0, .int .i64 0, .string (str []), .int .i64 0, .int .i64 0, .slice A9 0 a9, .int .u32 0, .int .i64 0, .slice none 0 0]
  clear Q
  go_wp2_with fail
  refine (P.next2 13 3 1 7 2 [] 5 0 [] 2252489540 0 0 true se5 oe5 rfl rfl).mono ?_
  rintro e v10 ⟨A10, a10, rfl, Q⟩
  clear P
  have P := Q.box #[.int .i64 3, .int .i64 1, .int .i64 7, .int .i64 2, .string (str []), .int .i64 5, .int .i64 0, .slice A10 0 a10, .int .u32 2252489540, .int .i64 0, .slice none 0 0]
  clear Q
  go_wp2_with fail
  refine (id_any _).mono ?_
  rintro e u1 ⟨rfl, b1⟩
  have Q := P.below b1
  clear P b1
  have hg := gx2 u1
  have P := Q.below (bel_new u1 (.cells #[.int .i64 0, .int .i64 0, .int .i64 1, .int .i64 4] 62))
  have hgb := Q.b.lt
  clear Q
  have hta := P.take2 14 4 1 7 0 [] 0 0 [] 0 0 [(0, 0), (1, 4)] none 0 0 (some ⟨u1.heap.size, 0, none⟩) 2 2 0 se6 ⟨Bx.zero _, hg, (show 0 < 4294967296 by decide)⟩ (fun _ _ h => nomatch h) (fun b off h => by injection h with h; injection h with h1 h2; omega) oeT rfl
  go_wp2_with fail
  refine hta.mono ?_
  rintro e u2 ⟨rfl, Q⟩
  clear P hta hg hgb
  have P := Q
  clear Q
  go_wp2_with fail
  refine (P.next2 14 1 1 7 2 [120#8] 5 0 [] 0 0 0 true se7 oe7 rfl rfl).mono ?_
  rintro e v11 ⟨A11, a11, rfl, Q⟩
  clear P
  have P := Q.box #[.int .i64 1, .int .i64 1, .int .i64 7, .int .i64 2, .string (str [120#8]), .int .i64 5, .int .i64 0, .slice A11 0 a11, .int .u32 0, .int .i64 0, .slice none 0 0]
  clear Q
  go_wp2_with fail
  refine (P.next2 14 2 1 7 0 [] 0 1 [66#8, 67#8, 68#8] 0 0 3 true se8 oe8 rfl rfl).mono ?_
  rintro e v12 ⟨A12, a12, rfl, Q⟩
  clear P
  have P := Q.box #[.int .i64 2, .int .i64 1, .int .i64 7, .int .i64 0, .string (str []), .int .i64 0, .int .i64 1, .slice A12 3 a12, .int .u32 0, .int .i64 0, .slice none 0 0]
  clear Q
  go_wp2_with fail
  refine (P.next2 24 3 1 7 2 [] 5 0 [] 2252489540 0 0 true se9 oe9 rfl rfl).mono ?_
  rintro e v13 ⟨A13, a13, rfl, Q⟩
  clear P
  have P := Q
  clear Q
  go_wp2_with fail
  refine (P.next2 34 0 0 0 0 [] 0 0 [] 0 0 0 false se10 oe10 rfl rfl).mono ?_
  rintro e v14 ⟨A14, a14, rfl, Q⟩
  clear P
  have P := Q.box #[.int .i64 0, .int .i64 0, .int .i64 0, .int .i64 0, .string (str []), .int .i64 0, .int .i64 0, .slice A14 0 a14, .int .u32 0, .int .i64 0, .slice none 0 0]
  clear Q
  obtain ⟨W14, hW14⟩ : ∃ W, W = v14.alloc (.cells #[.int .i64 0, .int .i64 0, .int .i64 0, .int .i64 0, .string (str []), .int .i64 0, .int .i64 0, .slice A14 0 a14, .int .u32 0, .int .i64 0, .slice none 0 0] 45) := ⟨_, rfl⟩
  rw [← hW14] at P
  have c0 := (P.c.at_ (.tail _ (.tail _ (.tail _ (.head _))))).cell 0
  have d0 := (P.c.at_ (.tail _ (.tail _ (.head _)))).cell 0
  have e6 := (P.c.at_ (.tail _ (.head _))).cell 6
  have e7 := (P.c.at_ (.tail _ (.head _))).cell 7
  have v1 : (convert 24 9 (.slice A12 3 a12)).run Try.prog W14 = .ok (.string ⟨#[66, 67, 68]⟩) W14 := P.d.conv (.tail _ (.tail _ (.head _)))
  have hst := sstate_any P.b.f P.b.o.p1
  rw [sta_e] at hst
  have hco := scode_any P.b.f P.b.o.p1
  rw [co_e] at hco
  have HB := Lib.hid P.bel
  go_upto_region 23 with fail
  rw [← hW14]
  clear hW14 P
  go_wp2_with fail
  refine hst.mono ?_
  rintro e w8 ⟨rfl, rfl⟩
  go_wp2_with fail
  refine hco.mono ?_
  rintro e w9 ⟨rfl, rfl⟩
  go_wp2
  go_ret
  exact ⟨rfl, HB.out⟩
end Go.Proofs.Ytaaikmncdgfkmaa.Src
