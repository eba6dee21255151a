/-
  The walk of package clcw's read.
-/
import Derived.Test.YtmfiklofmjaldaaClcW1
namespace Go.Proofs.Ytmfiklofmjaldaa.Clc
open Go.RowKit Go.Proofs.Ytmfiklofmjaldaa.Pac

/-- a word's cells -/
def Cw.cells (c : Cw) : Array Value := #[.int .i64 c.ch, .bool c.lk, .bool c.wt, .bool c.rt, .int .i64 c.bp, .int .i64 c.nx]

theorem crd_results {tmps : Array Value} {W : World} {g : Nat} {z : Bool} {ch : Int} {lk wt rt : Bool} {bp nx : Int} (h2 : tmps.getD 2 undef = .pointer (some ⟨g, 0, none⟩)) (h3 : tmps.getD 3 undef = .bool z)
    (hC : Cel W g 23 #[.int .i64 ch, .bool lk, .bool wt, .bool rt, .int .i64 bp, .int .i64 nx]) :
    (results Try.f19 tmps).run Try.prog W = .ok (.tuple #[.agg #[.int .i64 ch, .bool lk, .bool wt, .bool rt, .int .i64 bp, .int .i64 nx], .bool z]) W := by
  have c0 := hC.cell 0
  have c1 := hC.cell 1
  have c2 := hC.cell 2
  have c3 := hC.cell 3
  have c4 := hC.cell 4
  have c5 := hC.cell 5
  simp at c0 c1 c2 c3 c4 c5
  simp only [Array.getD_eq_getD_getElem?] at h2 h3
  simp [results, Try.results19, go_sem, h2, h3, c0, c1, c2, c3, c4, c5]

set_option maxHeartbeats 2000000 in
theorem cread_any (a : Option Addr) (l : List Byte) (c : Nat) (w : World) (hD : Rd w a l 4 c) :
    Calls Try.prog 19 #[.slice a 4 c] w fun e w' => e = .returned (.tuple #[.agg #[.int .i64 (rd l).ch, .bool (rd l).lk, .bool (rd l).wt, .bool (rd l).rt, .int .i64 (rd l).bp, .int .i64 (rd l).nx], .bool (fm l)]) ∧ Below w.heap.size w w' := by
  have hlen := hD.len
  have hx : ∀ k, k < 4 → ∃ x, l[k]? = some x ∧ b8 l k = x.toNat := fun k hk => ⟨l[k]'(by omega), List.getElem?_eq_getElem (by omega), b8_at (List.getElem?_eq_getElem (by omega))⟩
  obtain ⟨x0, g0, e0⟩ := hx 0 (by decide)
  obtain ⟨x1, g1, e1⟩ := hx 1 (by decide)
  obtain ⟨x2, g2, e2⟩ := hx 2 (by decide)
  obtain ⟨x3, g3, e3⟩ := hx 3 (by decide)
  have hV : numAt l 0 1 = b8 l 0 / 128 := by rw [e0]; exact n_kind g0
  have hX : numAt l 1 2 = b8 l 0 / 32 % 4 := by rw [e0]; exact n_vers g0
  have hY : numAt l 3 3 = b8 l 0 / 4 % 8 := by rw [e0]; exact n_stat g0
  have hP : numAt l 6 2 = b8 l 0 % 4 := by rw [e0]; exact n_proc g0
  have hC : numAt l 8 6 = b8 l 1 / 4 := by rw [e1]; exact n_chan g1
  have hS : numAt l 14 4 = b8 l 1 % 4 * 4 + b8 l 2 / 64 := by rw [e1, e2]; exact n_spare g1 g2
  have hL : numAt l 18 1 = b8 l 2 / 32 % 2 := by rw [e2]; exact n_lock g2
  have hW : numAt l 19 1 = b8 l 2 / 16 % 2 := by rw [e2]; exact n_wait g2
  have hR : numAt l 20 1 = b8 l 2 / 8 % 2 := by rw [e2]; exact n_retr g2
  have hB : numAt l 21 2 = b8 l 2 / 2 % 4 := by rw [e2]; exact n_byp g2
  have hO : numAt l 23 1 = b8 l 2 % 2 := by rw [e2]; exact n_last g2
  have hQ : numAt l 24 8 = b8 l 3 := by rw [e3]; exact n_next g3
  have z0 := b8_lt l 0
  have z1 := b8_lt l 1
  have z2 := b8_lt l 2
  have z3 := b8_lt l 3
  have hrd : rd l = ⟨((b8 l 1 / 4 : Nat) : Int), decide (b8 l 2 / 32 % 2 = 1), decide (b8 l 2 / 16 % 2 = 1), decide (b8 l 2 / 8 % 2 = 1), ((b8 l 2 / 2 % 4 : Nat) : Int), ((b8 l 3 : Nat) : Int)⟩ := rfl
  have hfm := fm_zs l
  unfold zs at hfm
  rw [hrd, hfm]
  simp only
  obtain ⟨V, qV⟩ : ∃ V, V = b8 l 0 / 128 := ⟨_, rfl⟩
  obtain ⟨X, qX⟩ : ∃ X, X = b8 l 0 / 32 % 4 := ⟨_, rfl⟩
  obtain ⟨Y, qY⟩ : ∃ Y, Y = b8 l 0 / 4 % 8 := ⟨_, rfl⟩
  obtain ⟨P, qP⟩ : ∃ P, P = b8 l 0 % 4 := ⟨_, rfl⟩
  obtain ⟨C, qC⟩ : ∃ C, C = b8 l 1 / 4 := ⟨_, rfl⟩
  obtain ⟨S, qS⟩ : ∃ S, S = b8 l 1 % 4 * 4 + b8 l 2 / 64 := ⟨_, rfl⟩
  obtain ⟨L, qL⟩ : ∃ L, L = b8 l 2 / 32 % 2 := ⟨_, rfl⟩
  obtain ⟨G, qG⟩ : ∃ G, G = b8 l 2 / 16 % 2 := ⟨_, rfl⟩
  obtain ⟨R, qR⟩ : ∃ R, R = b8 l 2 / 8 % 2 := ⟨_, rfl⟩
  obtain ⟨B, qB⟩ : ∃ B, B = b8 l 2 / 2 % 4 := ⟨_, rfl⟩
  obtain ⟨O, qO⟩ : ∃ O, O = b8 l 2 % 2 := ⟨_, rfl⟩
  obtain ⟨Q, qQ⟩ : ∃ Q, Q = b8 l 3 := ⟨_, rfl⟩
  rw [← qV] at hV ⊢
  rw [← qX] at hX ⊢
  rw [← qY] at hY ⊢
  rw [← qP] at hP ⊢
  rw [← qC] at hC ⊢
  rw [← qS] at hS ⊢
  rw [← qL] at hL ⊢
  rw [← qG] at hW ⊢
  rw [← qR] at hR ⊢
  rw [← qB] at hB ⊢
  rw [← qO] at hO ⊢
  rw [← qQ] at hQ ⊢
  have wC := from_u64 C (by omega)
  have wB := from_u64 B (by omega)
  have wQ := from_u64 Q (by omega)
  have yV : V < 2 ^ 3 := by omega
  have yX : X < 2 ^ 3 := by omega
  have yY : Y < 2 ^ 3 := by omega
  have yS : S < 2 ^ 5 := by omega
  have yO : O < 2 ^ 5 := by omega
  obtain ⟨Z1, qZ1⟩ : ∃ Z, Z = V ||| X := ⟨_, rfl⟩
  have yZ1 : Z1 < 2 ^ 3 := by rw [qZ1]; exact Nat.or_lt_two_pow yV yX
  obtain ⟨Z2, qZ2⟩ : ∃ Z, Z = Z1 ||| Y := ⟨_, rfl⟩
  have yZ2 : Z2 < 2 ^ 3 := by rw [qZ2]; exact Nat.or_lt_two_pow yZ1 yY
  obtain ⟨Z3, qZ3⟩ : ∃ Z, Z = Z2 ||| S := ⟨_, rfl⟩
  have yZ3 : Z3 < 2 ^ 5 := by rw [qZ3]; exact Nat.or_lt_two_pow (by omega) yS
  obtain ⟨Z4, qZ4⟩ : ∃ Z, Z = Z3 ||| O := ⟨_, rfl⟩
  have o1 : bits .or .u64 (V : Int) (X : Int) = (Z1 : Int) := by rw [qZ1]; exact u64_or_nat _ _ (by omega) (by omega)
  have o2 : bits .or .u64 (Z1 : Int) (Y : Int) = (Z2 : Int) := by rw [qZ2]; exact u64_or_nat _ _ (by omega) (by omega)
  have o3 : bits .or .u64 (Z2 : Int) (S : Int) = (Z3 : Int) := by rw [qZ3]; exact u64_or_nat _ _ (by omega) (by omega)
  have o4 : bits .or .u64 (Z3 : Int) (O : Int) = (Z4 : Int) := by rw [qZ4]; exact u64_or_nat _ _ (by omega) (by omega)
  rw [← qZ1, ← qZ2, ← qZ3, ← qZ4]
  obtain ⟨lk, qlk⟩ : ∃ b, b = decide (L = 1) := ⟨_, rfl⟩
  obtain ⟨wt, qwt⟩ : ∃ b, b = decide (G = 1) := ⟨_, rfl⟩
  obtain ⟨rt, qrt⟩ : ∃ b, b = decide (R = 1) := ⟨_, rfl⟩
  obtain ⟨zz, qzz⟩ : ∃ b, b = decide (Z4 = 0) := ⟨_, rfl⟩
  obtain ⟨pz, qpz⟩ : ∃ b, b = decide (P = 1) := ⟨_, rfl⟩
  have j1 : ((L : Int) == 1) = lk := by rw [qlk, Bool.eq_iff_iff]; simp; omega
  have j2 : ((G : Int) == 1) = wt := by rw [qwt, Bool.eq_iff_iff]; simp; omega
  have j3 : ((R : Int) == 1) = rt := by rw [qrt, Bool.eq_iff_iff]; simp; omega
  have j4 : ((Z4 : Int) == 0) = zz := by rw [qzz, Bool.eq_iff_iff]; simp
  have j5 : ((P : Int) == 1) = pz := by rw [qpz, Bool.eq_iff_iff]; simp; omega
  rw [← qlk, ← qwt, ← qrt, ← qzz, ← qpz]
  have b0 := bel_new w (.cells #[.int .i64 0, .bool false, .bool false, .bool false, .int .i64 0, .int .i64 0] 23)
  have p0 := Cel.new w 23 #[.int .i64 0, .bool false, .bool false, .bool false, .int .i64 0, .int .i64 0]
  have hr := newReader_any a l 4 c (w.alloc (.cells #[.int .i64 0, .bool false, .bool false, .bool false, .int .i64 0, .int .i64 0] 23)) (Lib.hid hlen) ((hD.bs.below b0).more b0.size) hD.nil (by decide)
  have HH := Lib.hid (And.intro hV (And.intro hX (And.intro hY (And.intro hP (And.intro hC (And.intro hS (And.intro hL (And.intro hW (And.intro hR (And.intro hB (And.intro hO hQ)))))))))))
  have HL := Lib.hid hlen
  clear qV qX qY qP qC qS qL qG qR qB qO qQ qZ1 qZ2 qZ3 qZ4 hrd hfm hx g0 g1 g2 g3 e0 e1 e2 e3 qlk qwt qrt qzz qpz z0 z1 z2 z3 yV yX yY yS yO yZ1 yZ2 yZ3 hV hX hY hP hC hS hL hW hR hB hO hQ hlen hD
  go_enter Try.func19, Try.ntmps19
  go_wp2_with fail
  refine hr.mono ?_
  rintro e w1 ⟨g, r, rfl, hR, hg, hbe⟩
  have s0 : RS 23 w l 0 #[.int .i64 0, .bool false, .bool false, .bool false, .int .i64 0, .int .i64 0] g w1 := ⟨⟨r, by simpa using hR⟩, by simpa using hg, Cel.later p0 hbe, b0.trans (hbe.mono b0.size)⟩
  clear hr hR hg hbe p0 b0
  go_wp2_with fail
  refine (s0.get 1 1 V rfl HH.out.1 (by have := HL.out; omega) (by decide) (by have := HL.out; omega)).mono ?_
  rintro e w2 ⟨rfl, s1⟩
  clear s0
  go_wp2_with fail
  refine (s1.get 2 2 X rfl HH.out.2.1 (by have := HL.out; omega) (by decide) (by have := HL.out; omega)).mono ?_
  rintro e w3 ⟨rfl, s2⟩
  clear s1
  go_wp2_with fail
  refine (s2.get 3 3 Y rfl HH.out.2.2.1 (by have := HL.out; omega) (by decide) (by have := HL.out; omega)).mono ?_
  rintro e w4 ⟨rfl, s3⟩
  clear s2
  go_wp2_with fail
  refine (s3.get 2 2 P rfl HH.out.2.2.2.1 (by have := HL.out; omega) (by decide) (by have := HL.out; omega)).mono ?_
  rintro e w5 ⟨rfl, s4⟩
  clear s3
  go_wp2_with fail
  refine (s4.get 6 6 C rfl HH.out.2.2.2.2.1 (by have := HL.out; omega) (by decide) (by have := HL.out; omega)).mono ?_
  rintro e w6 ⟨rfl, s5⟩
  clear s4
  have fr := s5.cel.free 0
  have ce := s5.cel.cell 0
  simp at ce
  go_wp2_with fail
  clear fr ce
  refine ((s5.put 0 (.int .i64 (C : Int))).get 4 4 S rfl HH.out.2.2.2.2.2.1 (by have := HL.out; omega) (by decide) (by have := HL.out; omega)).mono ?_
  rintro e w7 ⟨rfl, s6⟩
  clear s5
  go_wp2_with fail
  refine (s6.get 1 1 L rfl HH.out.2.2.2.2.2.2.1 (by have := HL.out; omega) (by decide) (by have := HL.out; omega)).mono ?_
  rintro e w8 ⟨rfl, s7⟩
  clear s6
  have fr := s7.cel.free 1
  have ce := s7.cel.cell 1
  simp at ce
  go_wp2_with fail
  clear fr ce
  refine ((s7.put 1 (.bool lk)).get 1 1 G rfl HH.out.2.2.2.2.2.2.2.1 (by have := HL.out; omega) (by decide) (by have := HL.out; omega)).mono ?_
  rintro e w9 ⟨rfl, s8⟩
  clear s7
  have fr := s8.cel.free 2
  have ce := s8.cel.cell 2
  simp at ce
  go_wp2_with fail
  clear fr ce
  refine ((s8.put 2 (.bool wt)).get 1 1 R rfl HH.out.2.2.2.2.2.2.2.2.1 (by have := HL.out; omega) (by decide) (by have := HL.out; omega)).mono ?_
  rintro e w10 ⟨rfl, s9⟩
  clear s8
  have fr := s9.cel.free 3
  have ce := s9.cel.cell 3
  simp at ce
  go_wp2_with fail
  clear fr ce
  refine ((s9.put 3 (.bool rt)).get 2 2 B rfl HH.out.2.2.2.2.2.2.2.2.2.1 (by have := HL.out; omega) (by decide) (by have := HL.out; omega)).mono ?_
  rintro e w11 ⟨rfl, s10⟩
  clear s9
  have fr := s10.cel.free 4
  have ce := s10.cel.cell 4
  simp at ce
  go_wp2_with fail
  clear fr ce
  refine ((s10.put 4 (.int .i64 (B : Int))).get 1 1 O rfl HH.out.2.2.2.2.2.2.2.2.2.2.1 (by have := HL.out; omega) (by decide) (by have := HL.out; omega)).mono ?_
  rintro e w12 ⟨rfl, s11⟩
  clear s10
  go_wp2_with fail
  refine (s11.get 8 8 Q rfl HH.out.2.2.2.2.2.2.2.2.2.2.2 (by have := HL.out; omega) (by decide) (by have := HL.out; omega)).mono ?_
  rintro e w13 ⟨rfl, s12⟩
  clear s11
  have fr := s12.cel.free 5
  have ce := s12.cel.cell 5
  simp at ce
  have s13 := s12.put 5 (.int .i64 (Q : Int))
  simp only [List.setIfInBounds_toArray, List.set_cons_zero, List.set_cons_succ] at s13
  have c0 := s13.cel.cell 0
  have c1 := s13.cel.cell 1
  have c2 := s13.cel.cell 2
  have c3 := s13.cel.cell 3
  have c4 := s13.cel.cell 4
  have c5 := s13.cel.cell 5
  simp at c0 c1 c2 c3 c4 c5
  have f0 := s13.cel.free 0
  have f1 := s13.cel.free 1
  have f2 := s13.cel.free 2
  have f3 := s13.cel.free 3
  have f4 := s13.cel.free 4
  have f5 := s13.cel.free 5
  have hQ := put6_cel s13.cel (.int .i64 (C : Int)) (.bool lk) (.bool wt) (.bool rt) (.int .i64 (B : Int)) (.int .i64 (Q : Int))
  have hB := s13.bel.trans ((put6_only _ w.heap.size (.int .i64 (C : Int)) (.bool lk) (.bool wt) (.bool rt) (.int .i64 (B : Int)) (.int .i64 (Q : Int))).below s13.bel.size (by simp))
  clear s12
  cases zz with
  | false =>
    go_wp2
    exact bodyPost_ret (crd_results rfl rfl hQ) rfl ⟨rfl, hB⟩
  | true =>
    go_wp2
    exact bodyPost_ret (crd_results rfl rfl hQ) rfl ⟨rfl, hB⟩
end Go.Proofs.Ytmfiklofmjaldaa.Clc
