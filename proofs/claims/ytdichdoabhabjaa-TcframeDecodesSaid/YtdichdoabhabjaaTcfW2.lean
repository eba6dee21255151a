/-
  The Reader of package bits beside a frame's block as one state; the walk of package tcframe's readHeader.
-/
import Derived.Test.YtdichdoabhabjaaTcfW1
import Derived.Test.YtdichdoabhabjaaPacW3
import Derived.Test.YtdichdoabhabjaaBitsR1
namespace Go.Proofs.Ytdichdoabhabjaa.Tcf
open Go.RowKit Go.Proofs.Ytdichdoabhabjaa.Pac

/-- a Reader at block g over the bytes bs, p bits passed; the frame that the call fills lies in the first block behind w0's; w0's blocks are as they were -/
structure TH (w0 : World) (bs : List Byte) (p : Nat) (cs : Array Value) (g : Nat) (w : World) : Prop where
  rd : ∃ r, RAt w (w0.heap.size + 1) g r bs p false
  hg : w0.heap.size + 1 ≤ g
  cel : Cel w w0.heap.size 24 cs
  bel : Below w0.heap.size w0 w
theorem TH.get {w0 w : World} {bs : List Byte} {p g : Nat} {cs : Array Value} (h : TH w0 bs p cs g w) (y : Int) (k N : Nat) (hy : y = (k : Int)) (hN : numAt bs p k = N) (hL : bs.length = 5) (hk : k ≤ 64) (hp : p + k ≤ 40) :
    Calls Try.prog 40 #[.pointer (some ⟨g, 0, none⟩), .int .i64 y] w fun e w' => e = .returned (.int .u64 (N : Int)) ∧ TH w0 bs (p + k) cs g w' := by
  obtain ⟨⟨r, h1⟩, h2, h3, h4⟩ := h
  subst hy hN
  refine (get_ok w _ g r bs p k h1 (by omega) hk (by omega)).mono ?_
  rintro e w' ⟨rfl, h5, h6⟩
  have hlt := h1.lt
  exact ⟨rfl, ⟨r, h5⟩, h2, h3.only h6 (by simp; omega), h4.trans (h6.below (by omega) (by simp; omega))⟩
theorem TH.put {w0 w : World} {bs : List Byte} {p g : Nat} {cs : Array Value} (h : TH w0 bs p cs g w) (i : Nat) (v : Value) : TH w0 bs p (cs.setIfInBounds i v) g (w.setCell ⟨w0.heap.size, i, none⟩ v) := by
  obtain ⟨⟨r, h1⟩, h2, h3, h4⟩ := h
  have hO : Only [w0.heap.size] w (w.setCell ⟨w0.heap.size, i, none⟩ v) := (Only.refl _ _).put (.inl (by simp)) _
  exact ⟨⟨r, h1.only hO (by simp; omega) (fun j hj => by have := (h1.row j hj).1; simp; omega)⟩, h2, h3.put i v, h4.trans (hO.below h4.size (by simp))⟩

theorem trh_results {tmps : Array Value} {W : World} {g : Nat} {n : Int} {z : Bool} {byp con : Bool} {cr ch sq : Int} {v : Value} (h2 : tmps.getD 2 undef = .pointer (some ⟨g, 0, none⟩)) (h3 : tmps.getD 3 undef = .int .i64 n) (h4 : tmps.getD 4 undef = .bool z)
    (hC : Cel W g 24 #[.bool byp, .bool con, .int .i64 cr, .int .i64 ch, .int .i64 sq, v]) :
    (results Try.f31 tmps).run Try.prog W = .ok (.tuple #[.agg #[.bool byp, .bool con, .int .i64 cr, .int .i64 ch, .int .i64 sq, v], .int .i64 n, .bool z]) W := by
  have c0 := hC.cell 0
  have c1 := hC.cell 1
  have c2 := hC.cell 2
  have c3 := hC.cell 3
  have c4 := hC.cell 4
  have c5 := hC.cell 5
  simp at c0 c1 c2 c3 c4 c5
  simp only [Array.getD_eq_getD_getElem?] at h2 h3 h4
  simp [results, Try.results31, go_sem, h2, h3, h4, c0, c1, c2, c3, c4, c5]

set_option maxHeartbeats 2000000 in
theorem treadHeader_any (a : Option Addr) (l : List Byte) (n c : Nat) (w : World) (hl : Hid (l.length = n)) (hb : Bs w w.heap.size a l) (hn : a = none → c = 0) (hnc : n ≤ c) (_hcm : c ≤ maxLen) (h6 : 5 ≤ n) :
    Calls Try.prog 31 #[.slice a n c] w fun e w' => e = .returned (.tuple #[.agg #[.bool (rd l).byp, .bool (rd l).con, .int .i64 (rd l).cr, .int .i64 (rd l).ch, .int .i64 (rd l).sq, .slice none 0 0], .int .i64 ((sz l : Nat) : Int), .bool (zr l)]) ∧ Below w.heap.size w w' := by
  have hln := hl.out
  have hx : ∀ k, k < 5 → ∃ x, (l.take 5)[k]? = some x ∧ b8 l k = x.toNat := fun k hk => by
    refine ⟨l[k]'(by omega), ?_, b8_at (List.getElem?_eq_getElem (by omega))⟩
    rw [List.getElem?_take, if_pos hk]
    exact List.getElem?_eq_getElem (by omega)
  obtain ⟨x0, g0, e0⟩ := hx 0 (by decide)
  obtain ⟨x1, g1, e1⟩ := hx 1 (by decide)
  obtain ⟨x2, g2, e2⟩ := hx 2 (by decide)
  obtain ⟨x3, g3, e3⟩ := hx 3 (by decide)
  obtain ⟨x4, g4, e4⟩ := hx 4 (by decide)
  have hv : numAt (l.take 5) 0 2 = b8 l 0 / 64 := by rw [e0]; exact n_ver g0
  have hc : numAt (l.take 5) 2 1 = b8 l 0 / 32 % 2 := by rw [e0]; exact n_byp g0
  have hs : numAt (l.take 5) 3 1 = b8 l 0 / 16 % 2 := by rw [e0]; exact n_con g0
  have hp : numAt (l.take 5) 4 2 = b8 l 0 / 4 % 4 := by rw [e0]; exact n_spare g0
  have ha : numAt (l.take 5) 6 10 = fst2 l % 1024 := by unfold fst2; rw [e0, e1]; exact n_craft g0 g1
  have hf : numAt (l.take 5) 16 6 = snd2 l / 1024 := by unfold snd2; rw [e2, e3]; exact n_chan g2
  have ht : numAt (l.take 5) 22 10 = snd2 l % 1024 := by unfold snd2; rw [e2, e3]; exact n_len g2 g3
  have hk : numAt (l.take 5) 32 8 = b8 l 4 := by rw [e4]; exact n_seq g4
  have z2 := b8_lt l 2
  have z3 := b8_lt l 3
  have z4 := b8_lt l 4
  have z5 : snd2 l < 65536 := by unfold snd2; omega
  have hrd : rd l = ⟨decide (b8 l 0 / 32 % 2 = 1), decide (b8 l 0 / 16 % 2 = 1), ((fst2 l % 1024 : Nat) : Int), ((snd2 l / 1024 : Nat) : Int), ((b8 l 4 : Nat) : Int), (l.drop 5).take (l.length - 7)⟩ := rfl
  have hzr : zr l = (decide (b8 l 0 / 64 = 0) && decide (b8 l 0 / 4 % 4 = 0)) := rfl
  have hsz : ((sz l : Nat) : Int) = ((snd2 l % 1024 : Nat) : Int) + 1 := rfl
  rw [hrd, hzr, hsz]
  simp only
  obtain ⟨V, qV⟩ : ∃ V, V = b8 l 0 / 64 := ⟨_, rfl⟩
  obtain ⟨C, qC⟩ : ∃ C, C = b8 l 0 / 32 % 2 := ⟨_, rfl⟩
  obtain ⟨S, qS⟩ : ∃ S, S = b8 l 0 / 16 % 2 := ⟨_, rfl⟩
  obtain ⟨P, qP⟩ : ∃ P, P = b8 l 0 / 4 % 4 := ⟨_, rfl⟩
  obtain ⟨A, qA⟩ : ∃ A, A = fst2 l % 1024 := ⟨_, rfl⟩
  obtain ⟨Fg, qFg⟩ : ∃ Fg, Fg = snd2 l / 1024 := ⟨_, rfl⟩
  obtain ⟨T, qT⟩ : ∃ T, T = snd2 l % 1024 := ⟨_, rfl⟩
  obtain ⟨Kq, qKq⟩ : ∃ Kq, Kq = b8 l 4 := ⟨_, rfl⟩
  rw [← qV] at hv ⊢
  rw [← qC] at hc ⊢
  rw [← qS] at hs ⊢
  rw [← qP] at hp ⊢
  rw [← qA] at ha ⊢
  rw [← qFg] at hf ⊢
  rw [← qT] at ht ⊢
  rw [← qKq] at hk ⊢
  have yA : A < 1000000 := by omega
  have yF : Fg < 1000000 := by omega
  have yT : T < 1000000 := by omega
  have yKq : Kq < 1000000 := by omega
  obtain ⟨com, qcom⟩ : ∃ b, b = decide (C = 1) := ⟨_, rfl⟩
  obtain ⟨sec, qsec⟩ : ∃ b, b = decide (S = 1) := ⟨_, rfl⟩
  obtain ⟨pz, qpz⟩ : ∃ b, b = decide (P = 0) := ⟨_, rfl⟩
  have j1 : ((C : Int) == 1) = com := by rw [qcom, Bool.eq_iff_iff]; simp; omega
  have j2 : ((S : Int) == 1) = sec := by rw [qsec, Bool.eq_iff_iff]; simp; omega
  have j3 : ((P : Int) == 0) = pz := by rw [qpz, Bool.eq_iff_iff]; simp
  rw [← qcom, ← qsec, ← qpz]
  have wA := from_u64 A yA
  have wFg := from_u64 Fg yF
  have wT := from_u64 T yT
  have wKq := from_u64 Kq yKq
  clear qC qS qP qA qFg qT qKq hrd hzr hsz hx g0 g1 g2 g3 g4 e0 e1 e2 e3 e4 qcom qsec qpz z2 z3 z4 z5
  have h6c : (5 : Int) ≤ (c : Int) := by omega
  have hL6 : (l.take 5).length = 5 := by rw [List.length_take]; omega
  have hnr := fun W (hB : Bs W W.heap.size a (l.take 5)) => newReader_any a (l.take 5) 5 c W (Lib.hid hL6) hB hn (by decide)
  have b0 := bel_new w (.cells #[.bool false, .bool false, .int .i64 0, .int .i64 0, .int .i64 0, .slice none 0 0] 24)
  have p0 := Cel.new w 24 #[.bool false, .bool false, .int .i64 0, .int .i64 0, .int .i64 0, .slice none 0 0]
  have hr := hnr _ (((hb.take 5).below b0).more b0.size)
  have HH := Lib.hid (And.intro hv (And.intro hc (And.intro hs (And.intro hp (And.intro ha (And.intro hf (And.intro ht hk)))))))
  clear qV hv hc hs hp ha hf ht hk hnr hb hn
  by_cases v0 : V = 0
  · subst v0
    rw [decide_eq_true rfl, Bool.true_and]
    go_enter Try.func31, Try.ntmps31
    go_wp2_with fail
    refine hr.mono ?_
    rintro e w1 ⟨g, r, rfl, hR, hg, hbe⟩
    have s0 : TH w (l.take 5) 0 #[.bool false, .bool false, .int .i64 0, .int .i64 0, .int .i64 0, .slice none 0 0] g w1 := ⟨⟨r, by simpa using hR⟩, by simpa using hg, Cel.later p0 hbe, b0.trans (hbe.mono b0.size)⟩
    clear hr hR hg hbe p0 b0
    go_wp2_with fail
    refine (s0.get 2 2 0 rfl HH.out.1 hL6 (by decide) (by decide)).mono ?_
    rintro e w2 ⟨rfl, s1⟩
    clear s0
    go_wp2_with fail
    refine (s1.get 1 1 C rfl HH.out.2.1 hL6 (by decide) (by decide)).mono ?_
    rintro e w3 ⟨rfl, t3⟩
    clear s1
    have fr := t3.cel.free 0
    have ce := t3.cel.cell 0
    simp at ce
    go_wp2_with fail
    clear fr ce
    refine ((t3.put 0 (.bool com)).get 1 1 S rfl HH.out.2.2.1 hL6 (by decide) (by decide)).mono ?_
    rintro e w4 ⟨rfl, t4⟩
    clear t3
    have fr := t4.cel.free 1
    have ce := t4.cel.cell 1
    simp at ce
    go_wp2_with fail
    clear fr ce
    refine ((t4.put 1 (.bool sec)).get 2 2 P rfl HH.out.2.2.2.1 hL6 (by decide) (by decide)).mono ?_
    rintro e w5 ⟨rfl, t5⟩
    clear t4
    go_wp2_with fail
    refine (t5.get 10 10 A rfl HH.out.2.2.2.2.1 hL6 (by decide) (by decide)).mono ?_
    rintro e w6 ⟨rfl, t6⟩
    clear t5
    have fr := t6.cel.free 2
    have ce := t6.cel.cell 2
    simp at ce
    go_wp2_with fail
    clear fr ce
    refine ((t6.put 2 (.int .i64 (A : Int))).get 6 6 Fg rfl HH.out.2.2.2.2.2.1 hL6 (by decide) (by decide)).mono ?_
    rintro e w7 ⟨rfl, t7⟩
    clear t6
    have fr := t7.cel.free 3
    have ce := t7.cel.cell 3
    simp at ce
    go_wp2_with fail
    clear fr ce
    refine ((t7.put 3 (.int .i64 (Fg : Int))).get 10 10 T rfl HH.out.2.2.2.2.2.2.1 hL6 (by decide) (by decide)).mono ?_
    rintro e w8 ⟨rfl, t8⟩
    clear t7
    go_wp2_with fail
    refine (t8.get 8 8 Kq rfl HH.out.2.2.2.2.2.2.2 hL6 (by decide) (by decide)).mono ?_
    rintro e w9 ⟨rfl, t9⟩
    clear t8
    have fr := t9.cel.free 4
    have ce := t9.cel.cell 4
    simp at ce
    have s6 := t9.put 4 (.int .i64 (Kq : Int))
    simp only [List.setIfInBounds_toArray, List.set_cons_zero, List.set_cons_succ] at s6
    have c0 := s6.cel.cell 0
    have c1 := s6.cel.cell 1
    have c2 := s6.cel.cell 2
    have c3 := s6.cel.cell 3
    have c4 := s6.cel.cell 4
    have c5 := s6.cel.cell 5
    simp at c0 c1 c2 c3 c4 c5
    have f0 := s6.cel.free 0
    have f1 := s6.cel.free 1
    have f2 := s6.cel.free 2
    have f3 := s6.cel.free 3
    have f4 := s6.cel.free 4
    have f5 := s6.cel.free 5
    have hQ := putAll_cel s6.cel com sec (A : Int) (Fg : Int) (Kq : Int) (.slice none 0 0)
    have hB := s6.bel.trans ((putAll_only _ w.heap.size com sec (A : Int) (Fg : Int) (Kq : Int) (.slice none 0 0)).below s6.bel.size (by simp))
    clear t9
    go_wp2
    exact bodyPost_ret (trh_results rfl rfl rfl hQ) rfl ⟨rfl, hB⟩
  · have j4 : ((V : Int) == 0) = false := by simpa using v0
    rw [decide_eq_false v0, Bool.false_and]
    clear v0
    go_enter Try.func31, Try.ntmps31
    go_wp2_with fail
    refine hr.mono ?_
    rintro e w1 ⟨g, r, rfl, hR, hg, hbe⟩
    have s0 : TH w (l.take 5) 0 #[.bool false, .bool false, .int .i64 0, .int .i64 0, .int .i64 0, .slice none 0 0] g w1 := ⟨⟨r, by simpa using hR⟩, by simpa using hg, Cel.later p0 hbe, b0.trans (hbe.mono b0.size)⟩
    clear hr hR hg hbe p0 b0
    go_wp2_with fail
    refine (s0.get 2 2 V rfl HH.out.1 hL6 (by decide) (by decide)).mono ?_
    rintro e w2 ⟨rfl, s1⟩
    clear s0
    go_wp2_with fail
    refine (s1.get 1 1 C rfl HH.out.2.1 hL6 (by decide) (by decide)).mono ?_
    rintro e w3 ⟨rfl, t3⟩
    clear s1
    have fr := t3.cel.free 0
    have ce := t3.cel.cell 0
    simp at ce
    go_wp2_with fail
    clear fr ce
    refine ((t3.put 0 (.bool com)).get 1 1 S rfl HH.out.2.2.1 hL6 (by decide) (by decide)).mono ?_
    rintro e w4 ⟨rfl, t4⟩
    clear t3
    have fr := t4.cel.free 1
    have ce := t4.cel.cell 1
    simp at ce
    go_wp2_with fail
    clear fr ce
    refine ((t4.put 1 (.bool sec)).get 2 2 P rfl HH.out.2.2.2.1 hL6 (by decide) (by decide)).mono ?_
    rintro e w5 ⟨rfl, t5⟩
    clear t4
    go_wp2_with fail
    refine (t5.get 10 10 A rfl HH.out.2.2.2.2.1 hL6 (by decide) (by decide)).mono ?_
    rintro e w6 ⟨rfl, t6⟩
    clear t5
    have fr := t6.cel.free 2
    have ce := t6.cel.cell 2
    simp at ce
    go_wp2_with fail
    clear fr ce
    refine ((t6.put 2 (.int .i64 (A : Int))).get 6 6 Fg rfl HH.out.2.2.2.2.2.1 hL6 (by decide) (by decide)).mono ?_
    rintro e w7 ⟨rfl, t7⟩
    clear t6
    have fr := t7.cel.free 3
    have ce := t7.cel.cell 3
    simp at ce
    go_wp2_with fail
    clear fr ce
    refine ((t7.put 3 (.int .i64 (Fg : Int))).get 10 10 T rfl HH.out.2.2.2.2.2.2.1 hL6 (by decide) (by decide)).mono ?_
    rintro e w8 ⟨rfl, t8⟩
    clear t7
    go_wp2_with fail
    refine (t8.get 8 8 Kq rfl HH.out.2.2.2.2.2.2.2 hL6 (by decide) (by decide)).mono ?_
    rintro e w9 ⟨rfl, t9⟩
    clear t8
    have fr := t9.cel.free 4
    have ce := t9.cel.cell 4
    simp at ce
    have s6 := t9.put 4 (.int .i64 (Kq : Int))
    simp only [List.setIfInBounds_toArray, List.set_cons_zero, List.set_cons_succ] at s6
    have c0 := s6.cel.cell 0
    have c1 := s6.cel.cell 1
    have c2 := s6.cel.cell 2
    have c3 := s6.cel.cell 3
    have c4 := s6.cel.cell 4
    have c5 := s6.cel.cell 5
    simp at c0 c1 c2 c3 c4 c5
    have f0 := s6.cel.free 0
    have f1 := s6.cel.free 1
    have f2 := s6.cel.free 2
    have f3 := s6.cel.free 3
    have f4 := s6.cel.free 4
    have f5 := s6.cel.free 5
    have hQ := putAll_cel s6.cel com sec (A : Int) (Fg : Int) (Kq : Int) (.slice none 0 0)
    have hB := s6.bel.trans ((putAll_only _ w.heap.size com sec (A : Int) (Fg : Int) (Kq : Int) (.slice none 0 0)).below s6.bel.size (by simp))
    clear t9
    go_wp2
    exact bodyPost_ret (trh_results rfl rfl rfl hQ) rfl ⟨rfl, hB⟩
end Go.Proofs.Ytdichdoabhabjaa.Tcf
