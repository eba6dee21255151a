/-
  The Reader of package bits beside a packet's block as one state; the walks of package packet's readHeader and Size.
-/
import Derived.Test.YtcmonalnhdodmaaPacW2
import Derived.Test.YtcmonalnhdodmaaBitsR1
namespace Go.Proofs.Ytcmonalnhdodmaa.Pac
open Go.RowKit

/-- a Reader at block g over the bytes bs, p bits passed; the packet that the call fills lies in the first block behind w0's; w0's blocks are as they were -/
structure RH (w0 : World) (bs : List Byte) (p : Nat) (cs : Array Value) (g : Nat) (w : World) : Prop where
  rd : ∃ r, RAt w (w0.heap.size + 1) g r bs p false
  hg : w0.heap.size + 1 ≤ g
  cel : Cel w w0.heap.size 56 cs
  bel : Below w0.heap.size w0 w
theorem RH.draws {w0 w : World} {bs : List Byte} {p g : Nat} {cs : Array Value} (h : RH w0 bs p cs g w) : RH w0 bs p cs g w.drew := ⟨h.rd, h.hg, h.cel, h.bel.drew⟩
theorem RH.get {w0 w : World} {bs : List Byte} {p g : Nat} {cs : Array Value} (h : RH w0 bs p cs g w) (y : Int) (k N : Nat) (hy : y = (k : Int)) (hN : numAt bs p k = N) (hL : bs.length = 6) (hk : k ≤ 64) (hp : p + k ≤ 48) :
    Calls Try.prog 59 #[.pointer (some ⟨g, 0, none⟩), .int .i64 y] w fun e w' => e = .returned (.int .u64 (N : Int)) ∧ RH w0 bs (p + k) cs g w' := by
  obtain ⟨⟨r, h1⟩, h2, h3, h4⟩ := h
  subst hy hN
  refine (get_ok w _ g r bs p k h1 (by omega) hk (by omega)).mono ?_
  rintro e w' ⟨rfl, h5, h6⟩
  have hlt := h1.lt
  exact ⟨rfl, ⟨r, h5⟩, h2, h3.only h6 (by simp; omega), h4.trans (h6.below (by omega) (by simp; omega))⟩
theorem RH.put {w0 w : World} {bs : List Byte} {p g : Nat} {cs : Array Value} (h : RH w0 bs p cs g w) (i : Nat) (v : Value) : RH w0 bs p (cs.setIfInBounds i v) g (w.setCell ⟨w0.heap.size, i, none⟩ v) := by
  obtain ⟨⟨r, h1⟩, h2, h3, h4⟩ := h
  have hO : Only [w0.heap.size] w (w.setCell ⟨w0.heap.size, i, none⟩ v) := (Only.refl _ _).put (.inl (by simp)) _
  exact ⟨⟨r, h1.only hO (by simp; omega) (fun j hj => by have := (h1.row j hj).1; simp; omega)⟩, h2, h3.put i v, h4.trans (hO.below h4.size (by simp))⟩

/-- a packet's cells -/
def pcs (com sec : Bool) (ap fl ct : Int) (v : Value) : Array Value := #[.bool com, .bool sec, .int .i64 ap, .int .i64 fl, .int .i64 ct, v]

theorem rh_results {tmps : Array Value} {W : World} {g : Nat} {t n : Int} {com sec : Bool} {ap fl ct : Int} {v : Value} (h2 : tmps.getD 2 undef = .int .i64 t) (h3 : tmps.getD 3 undef = .pointer (some ⟨g, 0, none⟩)) (h4 : tmps.getD 4 undef = .int .i64 n)
    (hC : Cel W g 56 #[.bool com, .bool sec, .int .i64 ap, .int .i64 fl, .int .i64 ct, v]) :
    (results Try.f55 tmps).run Try.prog W = .ok (.tuple #[.int .i64 t, .agg #[.bool com, .bool sec, .int .i64 ap, .int .i64 fl, .int .i64 ct, v], .int .i64 n]) W := by
  have c0 := hC.cell 0
  have c1 := hC.cell 1
  have c2 := hC.cell 2
  have c3 := hC.cell 3
  have c4 := hC.cell 4
  have c5 := hC.cell 5
  simp at c0 c1 c2 c3 c4 c5
  simp only [Array.getD_eq_getD_getElem?] at h2 h3 h4
  simp [results, Try.results55, go_sem, h2, h3, h4, c0, c1, c2, c3, c4, c5]

/-- a whole packet stored over another -/
def putAll (w : World) (g : Nat) (com sec : Bool) (ap fl ct : Int) (v : Value) : World :=
  (((((w.setCell ⟨g, 0, none⟩ (.bool com)).setCell ⟨g, 1, none⟩ (.bool sec)).setCell ⟨g, 2, none⟩ (.int .i64 ap)).setCell ⟨g, 3, none⟩ (.int .i64 fl)).setCell ⟨g, 4, none⟩ (.int .i64 ct)).setCell ⟨g, 5, none⟩ v
theorem putAll_cel {w : World} {g : Nat} {t : TypeId} {x0 x1 x2 x3 x4 x5 : Value} (h : Cel w g t #[x0, x1, x2, x3, x4, x5]) (com sec : Bool) (ap fl ct : Int) (v : Value) :
    Cel (putAll w g com sec ap fl ct v) g t #[.bool com, .bool sec, .int .i64 ap, .int .i64 fl, .int .i64 ct, v] :=
  (((((h.put 0 (.bool com)).put 1 (.bool sec)).put 2 (.int .i64 ap)).put 3 (.int .i64 fl)).put 4 (.int .i64 ct)).put 5 v
theorem putAll_only (w : World) (g : Nat) (com sec : Bool) (ap fl ct : Int) (v : Value) : Only [g] w (putAll w g com sec ap fl ct v) := by
  unfold putAll
  exact ((((((Only.refl [g] w).put (p := ⟨g, 0, none⟩) (.inl (by simp)) _).put (p := ⟨g, 1, none⟩) (.inl (by simp)) _).put (p := ⟨g, 2, none⟩) (.inl (by simp)) _).put (p := ⟨g, 3, none⟩) (.inl (by simp)) _).put (p := ⟨g, 4, none⟩) (.inl (by simp)) _).put (p := ⟨g, 5, none⟩) (.inl (by simp)) _

theorem from_u64 (X : Nat) (h : X < 1000000) : IntKind.i64.wrap (X : Int) = (X : Int) := by
  simp [IntKind.wrap, IntKind.bits, IntKind.signed]
  omega
theorem wrap_tot (X : Nat) (h : X < 1000000) : IntKind.i64.wrap (IntKind.i64.wrap (6 + (X : Int)) + 1) = ((7 + X : Nat) : Int) := by
  simp [IntKind.wrap, IntKind.bits, IntKind.signed]
  omega

set_option maxHeartbeats 2000000 in
theorem readHeader_any (a : Option Addr) (l : List Byte) (n c : Nat) (w : World) (hl : Hid (l.length = n)) (hb : Bs w w.heap.size a l) (hn : a = none → c = 0) (hnc : n ≤ c) (_hcm : c ≤ maxLen) (h6 : 6 ≤ n) :
    Calls Try.prog 55 #[.slice a n c] w fun e w' => e = .returned (.tuple #[.int .i64 ((b8 l 0 / 32 : Nat) : Int), .agg #[.bool (rd l).com, .bool (rd l).sec, .int .i64 (rd l).ap, .int .i64 (rd l).fl, .int .i64 (rd l).ct, .slice none 0 0], .int .i64 ((tot l : Nat) : Int)]) ∧ Below w.heap.size w w' := by
  have hln := hl.out
  have hx : ∀ k, k < 6 → ∃ x, (l.take 6)[k]? = some x ∧ b8 l k = x.toNat := fun k hk => by
    refine ⟨l[k]'(by omega), ?_, b8_at (List.getElem?_eq_getElem (by omega))⟩
    rw [List.getElem?_take, if_pos hk]
    exact List.getElem?_eq_getElem (by omega)
  obtain ⟨x0, g0, e0⟩ := hx 0 (by decide)
  obtain ⟨x1, g1, e1⟩ := hx 1 (by decide)
  obtain ⟨x2, g2, e2⟩ := hx 2 (by decide)
  obtain ⟨x3, g3, e3⟩ := hx 3 (by decide)
  obtain ⟨x4, g4, e4⟩ := hx 4 (by decide)
  obtain ⟨x5, g5, e5⟩ := hx 5 (by decide)
  have hv : numAt (l.take 6) 0 3 = b8 l 0 / 32 := by rw [e0]; exact num_ver g0
  have hc : numAt (l.take 6) 3 1 = b8 l 0 / 16 % 2 := by rw [e0]; exact num_com g0
  have hs : numAt (l.take 6) 4 1 = b8 l 0 / 8 % 2 := by rw [e0]; exact num_sec g0
  have ha : numAt (l.take 6) 5 11 = (256 * b8 l 0 + b8 l 1) % 2048 := by rw [e0, e1]; exact num_ap g0 g1
  have hf : numAt (l.take 6) 16 2 = (256 * b8 l 2 + b8 l 3) / 16384 := by rw [e2, e3]; exact num_fl g2
  have ht : numAt (l.take 6) 18 14 = (256 * b8 l 2 + b8 l 3) % 16384 := by rw [e2, e3]; exact num_ct g2 g3
  have hk : numAt (l.take 6) 32 16 = 256 * b8 l 4 + b8 l 5 := by rw [e4, e5]; exact num_len g4 g5
  have z0 := b8_lt l 0
  have z1 := b8_lt l 1
  have z2 := b8_lt l 2
  have z3 := b8_lt l 3
  have z4 := b8_lt l 4
  have z5 := b8_lt l 5
  have htot : tot l = 7 + (256 * b8 l 4 + b8 l 5) := by unfold tot; omega
  have hrd : rd l = ⟨decide (b8 l 0 / 16 % 2 = 1), decide (b8 l 0 / 8 % 2 = 1), ((256 * b8 l 0 + b8 l 1) % 2048 : Nat), ((256 * b8 l 2 + b8 l 3) / 16384 : Nat), ((256 * b8 l 2 + b8 l 3) % 16384 : Nat), (l.drop 6).take (tot l - 6)⟩ := rfl
  rw [hrd, htot]
  simp only
  obtain ⟨V, qV⟩ : ∃ V, V = b8 l 0 / 32 := ⟨_, rfl⟩
  obtain ⟨C, qC⟩ : ∃ C, C = b8 l 0 / 16 % 2 := ⟨_, rfl⟩
  obtain ⟨S, qS⟩ : ∃ S, S = b8 l 0 / 8 % 2 := ⟨_, rfl⟩
  obtain ⟨A, qA⟩ : ∃ A, A = (256 * b8 l 0 + b8 l 1) % 2048 := ⟨_, rfl⟩
  obtain ⟨Fg, qFg⟩ : ∃ Fg, Fg = (256 * b8 l 2 + b8 l 3) / 16384 := ⟨_, rfl⟩
  obtain ⟨T, qT⟩ : ∃ T, T = (256 * b8 l 2 + b8 l 3) % 16384 := ⟨_, rfl⟩
  obtain ⟨Kq, qKq⟩ : ∃ Kq, Kq = 256 * b8 l 4 + b8 l 5 := ⟨_, rfl⟩
  rw [← qV] at hv ⊢
  rw [← qC] at hc ⊢
  rw [← qS] at hs ⊢
  rw [← qA] at ha ⊢
  rw [← qFg] at hf ⊢
  rw [← qT] at ht ⊢
  rw [← qKq] at hk ⊢
  have yV : V < 1000000 := by omega
  have yA : A < 1000000 := by omega
  have yF : Fg < 1000000 := by omega
  have yT : T < 1000000 := by omega
  have yKq : Kq < 1000000 := by omega
  obtain ⟨com, qcom⟩ : ∃ b, b = decide (C = 1) := ⟨_, rfl⟩
  obtain ⟨sec, qsec⟩ : ∃ b, b = decide (S = 1) := ⟨_, rfl⟩
  have j1 : ((C : Int) == 1) = com := by rw [qcom, Bool.eq_iff_iff]; simp; omega
  have j2 : ((S : Int) == 1) = sec := by rw [qsec, Bool.eq_iff_iff]; simp; omega
  rw [← qcom, ← qsec]
  have wV := from_u64 V yV
  have wA := from_u64 A yA
  have wFg := from_u64 Fg yF
  have wT := from_u64 T yT
  have wKq := from_u64 Kq yKq
  clear qV qC qS qA qFg qT qKq hrd htot hx g0 g1 g2 g3 g4 g5 e0 e1 e2 e3 e4 e5 qcom qsec z0 z1 z2 z3 z4 z5
  have h6c : (6 : Int) ≤ (c : Int) := by omega
  have hL6 : (l.take 6).length = 6 := by rw [List.length_take]; omega
  have hnr := fun W (hB : Bs W W.heap.size a (l.take 6)) => newReader_any a (l.take 6) 6 c W (Lib.hid hL6) hB hn (by decide)
  have b0 := bel_new w (.cells #[.bool false, .bool false, .int .i64 0, .int .i64 0, .int .i64 0, .slice none 0 0] 56)
  have p0 := Cel.new w 56 #[.bool false, .bool false, .int .i64 0, .int .i64 0, .int .i64 0, .slice none 0 0]
  have hr := hnr _ (((hb.take 6).below b0).more b0.size)
  have HW := Lib.hid (wrap_tot Kq yKq)
  have HH := Lib.hid (And.intro hv (And.intro hc (And.intro hs (And.intro ha (And.intro hf (And.intro ht hk))))))
  clear hv hc hs ha hf ht hk hnr hb hn
  go_enter Try.func55, Try.ntmps55
  go_wp2_with fail
  refine hr.mono ?_
  rintro e w1 ⟨g, r, rfl, hR, hg, hbe⟩
  have s0 : RH w (l.take 6) 0 #[.bool false, .bool false, .int .i64 0, .int .i64 0, .int .i64 0, .slice none 0 0] g w1 := ⟨⟨r, by simpa using hR⟩, by simpa using hg, Cel.later p0 hbe, b0.trans (hbe.mono b0.size)⟩
  clear hr hR hg hbe p0 b0
  go_wp2_with fail
  refine (s0.get 3 3 V rfl HH.out.1 hL6 (by decide) (by decide)).mono ?_
  rintro e w2 ⟨rfl, s1⟩
  clear s0
  go_wp2_with fail
  refine (s1.get 1 1 C rfl HH.out.2.1 hL6 (by decide) (by decide)).mono ?_
  rintro e w3 ⟨rfl, t3⟩
  clear s1
  have fr := t3.cel.free 0
  have ce := t3.cel.cell 0
  simp at ce
  go_wp2_with fail
  clear fr ce
  refine ((t3.put 0 (.bool com)).get 1 1 S rfl HH.out.2.2.1 hL6 (by decide) (by decide)).mono ?_
  rintro e w4 ⟨rfl, t4⟩
  clear t3
  have fr := t4.cel.free 1
  have ce := t4.cel.cell 1
  simp at ce
  go_wp2_with fail
  clear fr ce
  refine ((t4.put 1 (.bool sec)).get 11 11 A rfl HH.out.2.2.2.1 hL6 (by decide) (by decide)).mono ?_
  rintro e w5 ⟨rfl, t5⟩
  clear t4
  have fr := t5.cel.free 2
  have ce := t5.cel.cell 2
  simp at ce
  go_wp2_with fail
  clear fr ce
  refine ((t5.put 2 (.int .i64 (A : Int))).get 2 2 Fg rfl HH.out.2.2.2.2.1 hL6 (by decide) (by decide)).mono ?_
  rintro e w6 ⟨rfl, t6⟩
  clear t5
  have fr := t6.cel.free 3
  have ce := t6.cel.cell 3
  simp at ce
  go_wp2_with fail
  clear fr ce
  refine ((t6.put 3 (.int .i64 (Fg : Int))).get 14 14 T rfl HH.out.2.2.2.2.2.1 hL6 (by decide) (by decide)).mono ?_
  rintro e w7 ⟨rfl, t7⟩
  clear t6
  have fr := t7.cel.free 4
  have ce := t7.cel.cell 4
  simp at ce
  go_wp2_with fail
  clear fr ce
  have s6 := t7.put 4 (.int .i64 (T : Int))
  simp only [List.setIfInBounds_toArray, List.set_cons_zero, List.set_cons_succ] at s6
  have c0 := s6.cel.cell 0
  have c1 := s6.cel.cell 1
  have c2 := s6.cel.cell 2
  have c3 := s6.cel.cell 3
  have c4 := s6.cel.cell 4
  have c5 := s6.cel.cell 5
  simp at c0 c1 c2 c3 c4 c5
  have f0 := s6.cel.free 0
  have f1 := s6.cel.free 1
  have f2 := s6.cel.free 2
  have f3 := s6.cel.free 3
  have f4 := s6.cel.free 4
  have f5 := s6.cel.free 5
  obtain ⟨W6, hW6⟩ : ∃ W6, W6 = w7.setCell ⟨w.heap.size, 4, none⟩ (.int .i64 (T : Int)) := ⟨_, rfl⟩
  rw [← hW6] at s6 c0 c1 c2 c3 c4 c5 f0 f1 f2 f3 f4 f5 ⊢
  clear hW6 t7
  refine wp_region_held_drew (S := (fun w' => w'.cell? ⟨w.heap.size, 0, none⟩ = some (.bool com) ∧ w'.cell? ⟨w.heap.size, 1, none⟩ = some (.bool sec) ∧ w'.cell? ⟨w.heap.size, 2, none⟩ = some (.int .i64 (A : Int)) ∧ w'.cell? ⟨w.heap.size, 3, none⟩ = some (.int .i64 (Fg : Int)) ∧ w'.cell? ⟨w.heap.size, 4, none⟩ = some (.int .i64 (T : Int)) ∧ w'.cell? ⟨w.heap.size, 5, none⟩ = some (.slice none 0 0))) (by kernel_rfl) (⟨c0, c1, c2, c3, c4, c5⟩) (fun hHeld => ?_)
  refine wpAnyH_here 0 (v := ?_) rfl (by kernel_rfl) (by kernel_rfl) (by kernel_rfl) (fun _ _ _ h => h) (Or.inl ⟨by rfl, ?_⟩) hHeld ?_
  rotate_left
  · intro w hSw; (try dsimp only at hSw); go_simp; all_goals (with_reducible rfl)
  try simp only [Act.put, List.setIfInBounds_toArray, List.set_cons_zero, List.set_cons_succ]
  refine wpAnyH_here 1 (v := ?_) rfl (by kernel_rfl) (by kernel_rfl) (by kernel_rfl) (fun _ _ _ h => h) (Or.inl ⟨by rfl, ?_⟩) hHeld ?_
  rotate_left
  · intro w hSw; (try dsimp only at hSw); go_simp; all_goals (with_reducible rfl)
  try simp only [Act.put, List.setIfInBounds_toArray, List.set_cons_zero, List.set_cons_succ]
  refine wpAnyH_here 2 (v := ?_) rfl (by kernel_rfl) (by kernel_rfl) (by kernel_rfl) (fun _ _ _ h => h) (Or.inl ⟨by rfl, ?_⟩) hHeld ?_
  rotate_left
  · intro w hSw; (try dsimp only at hSw); go_simp; all_goals (with_reducible rfl)
  try simp only [Act.put, List.setIfInBounds_toArray, List.set_cons_zero, List.set_cons_succ]
  refine wpAnyH_alone 3 rfl (by kernel_rfl) (fun K hK => ?_)
  go_simp
  (go_at_call 59; refine (s6.draws.get 16 16 Kq rfl HH.out.2.2.2.2.2.2 hL6 (by decide) (by decide)).mono ?_; rintro e W7 ⟨rfl, s7⟩; have hC := s7.cel; have e0 := hC.free 0; have e1 := hC.free 1; have e2 := hC.free 2; have e3 := hC.free 3; have e4 := hC.free 4; have e5 := hC.free 5; have hQ := putAll_cel hC com sec (A : Int) (Fg : Int) (T : Int) (.slice none 0 0))
  refine hK.out _ _ (⟨hC.cell 0, hC.cell 1, hC.cell 2, hC.cell 3, hC.cell 4, hC.cell 5⟩) (fun hHeld => ?_)
  clear hK K
  try simp only [Act.put, List.setIfInBounds_toArray, List.set_cons_zero, List.set_cons_succ]
  refine wpAnyH_here 4 (v := ?_) rfl (by kernel_rfl) (by kernel_rfl) (by kernel_rfl) (fun _ _ _ h => h) (Or.inl ⟨by rfl, ?_⟩) hHeld ?_
  rotate_left
  · intro w hSw; (try dsimp only at hSw); go_simp; all_goals (with_reducible rfl)
  try simp only [Act.put, List.setIfInBounds_toArray, List.set_cons_zero, List.set_cons_succ]
  refine wpAnyH_here 5 (v := ?_) rfl (by kernel_rfl) (by kernel_rfl) (by kernel_rfl) (fun _ _ _ h => h) (Or.inl ⟨by rfl, ?_⟩) hHeld ?_
  rotate_left
  · intro w hSw; (try dsimp only at hSw); go_simp; all_goals (with_reducible rfl)
  try simp only [Act.put, List.setIfInBounds_toArray, List.set_cons_zero, List.set_cons_succ]
  refine wpAnyH_here 6 (v := ?_) rfl (by kernel_rfl) (by kernel_rfl) (by kernel_rfl) (fun _ _ _ h => h) (Or.inl ⟨by rfl, ?_⟩) hHeld ?_
  rotate_left
  · intro w hSw; (try dsimp only at hSw); go_simp; all_goals (with_reducible rfl)
  try simp only [Act.put, List.setIfInBounds_toArray, List.set_cons_zero, List.set_cons_succ]
  refine wpAnyH_here 7 (v := ?_) rfl (by kernel_rfl) (by kernel_rfl) (by kernel_rfl) (fun _ _ _ h => h) (Or.inl ⟨by rfl, ?_⟩) hHeld ?_
  rotate_left
  · intro w hSw; (try dsimp only at hSw); go_simp; all_goals (with_reducible rfl)
  try simp only [Act.put, List.setIfInBounds_toArray, List.set_cons_zero, List.set_cons_succ]
  refine wpAnyH_alone 8 rfl (by kernel_rfl) (fun K hK => ?_)
  go_simp
  skip
  refine hK.out _ _ (⟨hQ.cell 0, hQ.cell 1, hQ.cell 2, hQ.cell 3, hQ.cell 4, hQ.cell 5⟩) (fun hHeld => ?_)
  clear hK K
  try simp only [Act.put, List.setIfInBounds_toArray, List.set_cons_zero, List.set_cons_succ]
  refine wpAnyH_here 9 (v := ?_) rfl (by kernel_rfl) (by kernel_rfl) (by kernel_rfl) (fun _ _ _ h => h) (Or.inl ⟨by rfl, ?_⟩) hHeld ?_
  rotate_left
  · intro w hSw; (try dsimp only at hSw); go_simp; all_goals (with_reducible rfl)
  try simp only [Act.put, List.setIfInBounds_toArray, List.set_cons_zero, List.set_cons_succ]
  refine wpAnyH_done (by kernel_rfl) ?_ _
  go_wp2
  exact bodyPost_ret (rh_results rfl rfl rfl hQ) rfl ⟨by rw [HW.out], s7.bel.trans ((putAll_only _ _ _ _ _ _ _ _).below s7.bel.size (by simp))⟩

set_option maxHeartbeats 1000000 in
theorem size_any (a : Option Addr) (l : List Byte) (n c : Nat) (w : World) (hl : Hid (l.length = n)) (hb : Bs w w.heap.size a l) (hn : a = none → c = 0) (hnc : n ≤ c) (hcm : c ≤ maxLen) :
    Calls Try.prog 47 #[.slice a n c] w fun e w' => e = .returned (.tuple #[.int .i64 ((siN l : Nat) : Int), .int .i64 (siE l)]) ∧ Below w.heap.size w w' := by
  have hln := hl.out
  by_cases h6 : n < 6
  · obtain ⟨h1, h2⟩ := siE_short (l := l) (by omega)
    rw [h1, h2]
    clear h1 h2 hl hb hn hnc hcm hln
    go_enter Try.func47, Try.ntmps47
    go_wp2
    go_ret2
    exact ⟨rfl, Below.refl _ _⟩
  · have hrh := readHeader_any a l n c w hl hb hn hnc hcm (by omega)
    obtain ⟨P, hP⟩ : ∃ P, P = rd l := ⟨_, rfl⟩
    obtain ⟨com, sec, ap, fl, ct, d⟩ := P
    rw [← hP] at hrh
    simp only at hrh
    have hz := b8_lt l 0
    obtain ⟨V, hV⟩ : ∃ V, V = b8 l 0 / 32 := ⟨_, rfl⟩
    obtain ⟨T, hT⟩ : ∃ T, T = tot l := ⟨_, rfl⟩
    have hTb : T < 1000000 := by rw [hT]; unfold tot; have := b8_lt l 4; have := b8_lt l 5; omega
    rw [← hV, ← hT] at hrh
    have g1 : decide ((n : Int) < 6) = false := by simp; omega
    have g2 : decide (n < 6) = false := by simp; omega
    by_cases hv : 32 ≤ b8 l 0
    · obtain ⟨h1, h2⟩ := siE_form (l := l) (by omega) hv
      rw [h1, h2]
      have g3 : ((V : Int) != 0) = true := by simp; omega
      clear h1 h2 hl hb hn hnc hcm hln hP hV hT hv hz
      go_enter Try.func47, Try.ntmps47
      go_wp2_with fail
      refine hrh.mono ?_
      rintro e w' ⟨rfl, hbe⟩
      go_wp2
      go_ret2
      exact ⟨rfl, hbe.alloc hbe.size _⟩
    · have hV0 : V = 0 := by omega
      subst hV0
      by_cases ht : 4096 < T
      · obtain ⟨h1, h2⟩ := siE_long (l := l) (by omega) hv (by omega)
        rw [h1, h2]
        have g3 : decide ((4096 : Int) < (T : Int)) = true := by simp; omega
        have g4 : decide (4096 < T) = true := by simp; omega
        clear h1 h2 hl hb hn hnc hcm hln hP hV hT hv hz
        go_enter Try.func47, Try.ntmps47
        go_wp2_with fail
        refine hrh.mono ?_
        rintro e w' ⟨rfl, hbe⟩
        go_wp2
        go_ret2
        exact ⟨rfl, hbe.alloc hbe.size _⟩
      · obtain ⟨h1, h2⟩ := siE_good (l := l) (by omega) hv (by omega)
        rw [h1, h2, ← hT]
        have g3 : decide ((4096 : Int) < (T : Int)) = false := by simp; omega
        have g4 : decide (4096 < T) = false := by simp; omega
        clear h1 h2 hl hb hn hnc hcm hln hP hV hT hv hz
        go_enter Try.func47, Try.ntmps47
        go_wp2_with fail
        refine hrh.mono ?_
        rintro e w' ⟨rfl, hbe⟩
        go_wp2
        go_ret2
        exact ⟨rfl, hbe.alloc hbe.size _⟩
end Go.Proofs.Ytcmonalnhdodmaa.Pac
