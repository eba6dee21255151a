/-
  Package unpacker: complete.
-/
import Derived.Test.YtcmonalnhdodmaaUnpW1
import Derived.Test.YtcmonalnhdodmaaLstH
namespace Go.Proofs.Ytcmonalnhdodmaa.Unp
open Go.RowKit Go.Proofs.Ytcmonalnhdodmaa.Row Lst
open Pac (bel_new siE siN tot size_any siE_good siE_zero)

theorem is_lists : IsRows Try.prog 31 26 (.slice none 0 0) 1 24 := IsRows.of Try.underlying31 rfl (by kernel_rfl)

/-- how many bytes the rest has -/
def restLen (w : World) (g : Nat) : Nat := match w.cell? ⟨g, 4, none⟩ with | some (.slice _ n _) => n | _ => 0

/-- what complete has done so far: l is left of the bytes L, the packets O are in the slice P, in the blocks E -/
structure Cm (w : World) (g : Nat) (s : US) (A0 : Option Addr) (L : List Byte) (l : List Byte) (A : Option Addr) (n c : Nat) (O : List (List Byte)) (P : Value) (E : List Nat) (wr : World) : Prop where
  u : UC wr g { s with rs := l } A n c
  a : ∀ x ∈ blkA A, x ∈ blkA A0
  z : ∀ x ∈ blkA A0, x < w.heap.size
  gl : g < w.heap.size
  lo : LO wr w.heap.size 26 5 P O E
  on : Only [g] w wr
  h : prs L = (O ++ (prs l).1, (prs l).2)

section
variable {w wr w2 w4 w6 : World} {g n c n4 c4 : Nat} {s : US} {A0 A A4 : Option Addr} {L l x : List Byte} {O : List (List Byte)} {P P2 : Value} {E : List Nat}
theorem Cm.start (h : UC w g { s with rs := L } A n c) : Cm w g s A L L A n c [] (.slice none 0 0) [] w :=
  ⟨h, fun _ hx => hx, fun x hx => h.lt x (by simp [fam, hx]), h.u.lt, LO.nil_ _ _ _ _, Only.refl _ _, rfl⟩
theorem Cm.below (h : Cm w g s A0 L l A n c O P E wr) (k : Below wr.heap.size wr w2) : Cm w g s A0 L l A n c O P E w2 :=
  ⟨h.u.below k, h.a, h.z, h.gl, h.lo.below k, h.on.trans (Only.of_below (S := []) k) (by simp), h.h⟩
theorem Cm.len (h : Cm w g s A0 L l A n c O P E wr) : O.length ≤ L.length := by
  have := prs_len L
  rw [h.h, List.length_append] at this
  omega
theorem Cm.off (h : Cm w g s A0 L l A n c O P E wr) : P.ownBlock ≠ some g ∧ g ∉ E := ⟨h.lo.row_apart h.u.u (by decide), h.lo.el_apart h.u.u (by decide)⟩
/-- what complete leaves -/
structure CmOut (w : World) (g : Nat) (s : US) (A : Option Addr) (L : List Byte) (R : Value) (w' : World) : Prop where
  ex : ∃ E A' n' c', LO w' w.heap.size 26 5 R (prs L).1 E ∧ UC w' g { s with rs := (prs L).2 } A' n' c' ∧ ∀ x ∈ blkA A', x ∈ blkA A
  on : Only [g] w w'
theorem Cm.out (h : Cm w g s A0 L l A n c O P E wr) (hp : prs L = (O, l)) : CmOut w g s A0 L P wr := by
  refine ⟨?_, h.on⟩
  rw [hp]
  exact ⟨_, _, _, _, h.lo, h.u, h.a⟩
/-- the rest is another, in the same row -/
theorem Cm.rest (h : Cm w g s A0 L l A n c O P E wr) {A3 : Option Addr} {n3 c3 : Nat} {r : List Byte} (hm : Md wr 0 5 A3 n3 c3 r) (ha : ∀ x ∈ blkA A3, x ∈ blkA A) (hp : prs L = (O ++ (prs r).1, (prs r).2)) :
    Cm w g s A0 L r A3 n3 c3 O P E (wr.setCell ⟨g, 4, none⟩ (.slice A3 n3 c3)) := by
  obtain ⟨o1, o2⟩ := h.off
  have k := set_only wr g 4 (.slice A3 n3 c3)
  exact ⟨h.u.setr hm, fun x hx => h.a x (ha x hx), h.z, h.gl, h.lo.only k (fun i hi hm => o1 (by rw [hi, List.mem_singleton.1 hm])) (fun i hi hm => o2 (List.mem_singleton.1 hm ▸ hi)), h.on.trans k (fun x hx => .inl hx), hp⟩
/-- the packets are spoiled -/
theorem Cm.bad (h : Cm w g s A0 L l A n c O P E wr) (hp : prs L = (O, [])) : ∀ W, Below wr.heap.size wr W → Cm w g s A0 L [] none 0 0 O P E (W.setCell ⟨g, 4, none⟩ (.slice none 0 0)) := fun W hW =>
  (h.below hW).rest (Md.nil_ _ _ _) (fun x hx => nomatch hx) (by rw [prs_few (l := []) (by simp), List.append_nil]; exact hp)
/-- one packet more, and what is left -/
theorem Cm.put (h : Cm w g s A0 L l A n c O P E wr) {E2 : List Nat} {O2 : List (List Byte)} (hu : UC w6 g { s with rs := l } A n c ∧ LO w6 w.heap.size 26 5 P2 O2 E2 ∧ Only [g] w w6) {A3 : Option Addr} {n3 c3 : Nat} {r : List Byte}
    (hm : Md w6 0 5 A n c l → Md w6 0 5 A3 n3 c3 r) (ha : blkA A3 = blkA A) (hp : prs L = (O2 ++ (prs r).1, (prs r).2)) :
    Cm w g s A0 L r A3 n3 c3 O2 P2 E2 (w6.setCell ⟨g, 4, none⟩ (.slice A3 n3 c3)) := by
  obtain ⟨u, lo, on⟩ := hu
  have k := set_only w6 g 4 (.slice A3 n3 c3)
  exact ⟨u.setr (hm u.m), fun x hx => h.a x (by rw [← ha]; exact hx), h.z, h.gl, lo.only k (fun i hi hm => lo.row_apart u.u (by decide) (by rw [hi, List.mem_singleton.1 hm])) (fun i hi hm => lo.el_apart u.u (by decide) (List.mem_singleton.1 hm ▸ hi)), on.trans k (fun x hx => .inl hx), hp⟩
/-- one packet more -/
theorem Cm.add {ob : Obj} {qs : List Qb} (h : Cm w g s A0 L l A n c O P E wr) (o4 : Ow w4 wr.heap.size 5 (.slice A4 n4 c4) x) (hn : x.length = n4) (b4 : Below wr.heap.size wr w4)
    (he : qs.map (·.l) = O) (h3 : ∀ q ∈ qs, Ow (w4.alloc ob) w.heap.size 5 q.v q.l ∧ ∀ k, q.v.ownBlock = some k → k ∈ E) {row : Option Nat} (hR : P.ownBlock = row) (hg6 : (w4.alloc ob).grownBy w6 row) (ho6 : Row.Os enc 1 w6 w.heap.size 26 P2 (qs ++ [⟨x, A4, c4⟩])) :
    UC w6 g { s with rs := l } A n c ∧ LO w6 w.heap.size 26 5 P2 (O ++ [x]) (E ++ (Value.slice A4 n4 c4).ownBlock.toList) ∧ Only [g] w w6 := by
  have hs := h.on.size
  have b5 : Below wr.heap.size wr (w4.alloc ob) := b4.alloc b4.size ob
  have l5 := h.lo.below b5
  have u5 := h.u.below b5
  have k6 := Only.of_grown hg6
  have hrow : ∀ i ∈ fam g A, i ∉ row.toList := fun i hi hm => by
    have hm : P.ownBlock = some i := by rw [hR]; simpa using hm
    rcases List.mem_cons.1 hi with rfl | hi
    · exact l5.row_apart u5.u (by decide) hm
    · obtain ⟨cs, hc⟩ := u5.m.cel i hi
      exact l5.row_apart hc (by decide) hm
  refine ⟨u5.only k6 hrow, h.lo.push1 (by decide) o4 (by omega) hn b4 he h3 hR hg6 ho6, ?_⟩
  refine (h.on.trans (Only.of_below (S := []) b5) (by simp)).trans k6 (fun i hi => .inr ?_)
  exact (l5.row_lt i (by rw [hR]; simpa using hi)).1
end

set_option maxRecDepth 100000 in
set_option maxHeartbeats 4000000 in
theorem ucomplete_uc {w : World} {g n c : Nat} {s : US} {A : Option Addr} {L : List Byte} (h : UC w g { s with rs := L } A n c) (hL : L.length ≤ 10000000) :
    Calls Try.prog 30 #[.pointer (some ⟨g, 0, none⟩)] w fun e w' => ∃ R, e = .returned R ∧ CmOut w g s A L R w' := by
  have h0 := Cm.start h
  clear h
  go_enter Try.func30, Try.ntmps30
  go_wp2_with fail
  go_loopw [3] (fun P wr => ∃ (l : List Byte) (A' : Option Addr) (n' c' : Nat) (O : List (List Byte)) (E : List Nat), Cm w g s A L l A' n' c' O P E wr) (fun _ wr => restLen wr g)
  case atStart => exact ⟨_, _, _, _, _, _, h0⟩
  case round =>
    obtain ⟨l, A', n', c', O, E, hC⟩ := hrel
    clear h0
    have hml := hC.u.m.1
    simp only at hml
    have c4 := hC.u.u.cell 4
    have f4 := hC.u.u.free 4
    simp at c4
    have hgl := hC.u.u.lt
    have hr := Md.rd hC.u.m
    simp only at hr
    have hrl : restLen wr g = n' := by unfold restLen; rw [c4]
    by_cases h6 : n' < 6
    · have e1 := prs_few (l := l) (by omega)
      have t1 : decide ((6 : Int) ≤ (n' : Int)) = false := by simp; omega
      have t1' : decide (6 ≤ n') = false := by simp; omega
      have hp := hC.h
      rw [e1, List.append_nil] at hp
      have HC := Lib.hid hC
      have HP := Lib.hid hp
      clear hC hp e1 hr hml h6
      go_wp2
      go_ret
      exact ⟨_, rfl, HC.out.out HP.out⟩
    · have t1 : decide ((6 : Int) ≤ (n' : Int)) = true := by simp; omega
      have t1' : decide (6 ≤ n') = true := by simp; omega
      have hz := size_any A' l n' c' wr (Lib.hid hr.len) hr.bs hr.nil hr.le hr.max
      obtain ⟨Er, hEr⟩ : ∃ Er, siE l = Er := ⟨_, rfl⟩
      obtain ⟨N, hN⟩ : ∃ N, siN l = N := ⟨_, rfl⟩
      rw [hEr, hN] at hz
      by_cases hE0 : Er = 0
      · subst hE0
        obtain ⟨g1, g2, g3⟩ := siE_zero hEr
        have hNt : N = tot l := by rw [← hN, (siE_good g1 g2 g3).2]
        have h7 := tot_seven l
        rw [← hNt] at h7 g3
        have t2 : ((0 : Int) != 0) = false := by decide
        by_cases hw : n' < N
        · have e1 := prs_wait hEr (by omega)
          have t3 : decide ((n' : Int) < (N : Int)) = true := by simp; omega
          have t3' : decide (n' < N) = true := by simp; omega
          have hp := hC.h
          rw [e1, List.append_nil] at hp
          have HC := Lib.hid hC
          have HP := Lib.hid hp
          clear hC hp e1 hr hml h6 hEr hN hNt g1 g2 g3 h7 hw
          go_wp2_with fail
          refine hz.mono ?_
          rintro e w2 ⟨rfl, b2⟩
          have d4 := (b2.cell (p := ⟨g, 4, none⟩) hgl).trans c4
          have HB := Lib.hid b2
          clear hz c4 f4 b2
          go_wp2
          go_ret
          have h2 := HC.out.below HB.out
          exact ⟨_, rfl, h2.out HP.out⟩
        · have t3 : decide ((n' : Int) < (N : Int)) = false := by simp; omega
          have t3' : decide (n' < N) = false := by simp; omega
          have hst := prs_step hC.h hEr (by omega)
          rw [← hNt] at hst
          have hid := idle_is hEr (by omega)
          rw [← hNt] at hid
          obtain ⟨X, hX⟩ : ∃ X, l.take N = X := ⟨_, rfl⟩
          obtain ⟨Y, hY⟩ : ∃ Y, l.drop N = Y := ⟨_, rfl⟩
          rw [hX] at hid
          rw [hX, hY] at hst
          obtain ⟨A3, hA3⟩ : ∃ A3, (if c' = N then A' else Option.map (fun x => x.add N) A') = A3 := ⟨_, rfl⟩
          obtain ⟨n3, hn3⟩ : ∃ n3, n' - N = n3 := ⟨_, rfl⟩
          obtain ⟨c3, hc3⟩ : ∃ c3, c' - N = c3 := ⟨_, rfl⟩
          have hMd : ∀ W, Md W 0 5 A' n' c' l → Md W 0 5 A3 n3 c3 Y := fun W hW => by
            have := hW.drop (k := N) (by omega)
            rw [hA3, hn3, hc3, hY] at this
            exact this
          have hbl := blkA_drop A' c' N
          rw [hA3] at hbl
          have hrX := Rd.head hr N (by omega)
          rw [hX] at hrX
          have hcp : n' ≤ c' := hr.le
          have s1 : (N : Int) ≤ (c' : Int) := by omega
          have s2 : N ≤ c' := by omega
          have s3 : (N : Int) ≤ (n' : Int) := by omega
          have s4 : N ≤ n' := by omega
          have hmeas : n3 < n' := by omega
          have hlX := hrX.len
          cases hi : idl l with
          | true =>
            rw [hi] at hid hst
            simp only [if_true, List.append_nil] at hst
            have HC := Lib.hid hC
            have HH := Lib.hid (And.intro hst (And.intro hMd (And.intro hbl (And.intro hmeas hrl))))
            clear hC hst hMd hbl hmeas hrl hr hml h6 hEr hN hNt g1 g2 g3 h7 hw hX hY hcp hlX hi
            go_wp2_with fail
            refine hz.mono ?_
            rintro e w2 ⟨rfl, b2⟩
            have d4 := (b2.cell (p := ⟨g, 4, none⟩) hgl).trans c4
            have hgl2 := Nat.lt_of_lt_of_le hgl b2.size
            have xi := uidle_rd w2 A' X N c' (hrX.later b2) hid
            have HB := Lib.hid b2
            clear hz c4 f4 b2 hgl hrX hid
            go_wp2_with fail
            refine xi.mono ?_
            rintro e w3 ⟨rfl, b3⟩
            have b13 := HB.out.trans (b3.mono HB.out.size)
            have C3 := HC.out.below b13
            have e4 := C3.u.u.cell 4
            have f4 := C3.u.u.free 4
            simp at e4
            have HR := Lib.hid (C3.rest (HH.out.2.1 _ C3.u.m) (by rw [HH.out.2.2.1]; exact fun x hx => hx) HH.out.1)
            clear xi d4 b3 b13 C3 hgl2
            go_wp2
            go_roundw
            case rel => exact ⟨_, _, _, _, _, _, HR.out⟩
            case measure =>
              have q := HR.out.u.u.cell 4
              simp at q
              rw [HH.out.2.2.2.2]
              unfold restLen
              rw [q]
              exact HH.out.2.2.2.1
          | false =>
            rw [hi] at hid hst
            simp only [Bool.false_eq_true, if_false] at hst
            have HC := Lib.hid hC
            have HH := Lib.hid (And.intro hst (And.intro hMd (And.intro hbl (And.intro hmeas hrl))))
            have HX : Hid (X.length = N) := Lib.hid hlX
            have hN4 : N ≤ 4096 := by omega
            clear hC hst hMd hbl hmeas hrl hr hml h6 hEr hN hNt g1 g2 g3 h7 hw hX hY hcp hlX hi
            go_wp2_with fail
            refine hz.mono ?_
            rintro e w2 ⟨rfl, b2⟩
            have d4 := (b2.cell (p := ⟨g, 4, none⟩) hgl).trans c4
            have hgl2 := Nat.lt_of_lt_of_le hgl b2.size
            have rX2 := hrX.later b2
            have xi := uidle_rd w2 A' X N c' rX2 hid
            have HB := Lib.hid b2
            clear hz c4 f4 b2 hgl hrX hid
            go_wp2_with fail
            refine xi.mono ?_
            rintro e w3 ⟨rfl, b3⟩
            have e4 := (b3.cell (p := ⟨g, 4, none⟩) hgl2).trans d4
            have rX3 := rX2.later b3
            have xc := clone_any A' X N c' w3 HX rX3.bs rX3.nil (by omega)
            have b13 := HB.out.trans (b3.mono HB.out.size)
            have HC3 := Lib.hid (And.intro (HC.out.below b13) b13)
            clear xi d4 b3 b13 hgl2 rX2 rX3
            go_wp2_with fail
            refine xc.mono ?_
            rintro e w4 ⟨v4, rfl, o4, b4⟩
            obtain ⟨A4, k4, rfl, _⟩ := o4.reads_len HX.out
            obtain ⟨qs, AR, kR, rfl, hqn, hqe, hqo, hqr, hqz, hq3⟩ := (HC3.out.1.lo.below b4).parts (n := O.length) rfl
            have HO : Hid (w.heap.size ≤ w4.heap.size) := Lib.hid (Nat.le_trans HC3.out.1.on.size b4.size)
            go_wp2_with (at_builtin; refine wpList_row _ enc_ok is_lists (by decide) rfl (.tmp 40) (.tmp 48) rfl rfl (hqo.alloc _) (l := [⟨X, A4, k4⟩]) (n := 1) rfl rfl (Rs_new1 enc_ok w4 _ _ _ (by simp only [enc, HX.out])) (by simp) (by rw [hqn]; have := HC3.out.1.len; simp; omega) (by have := HO.out; simp; omega) ?_; intro R2 w6 ho6 hg6 hr6; have hd6 := HC3.out.1.add (x := X) (A4 := A4) (n4 := N) (c4 := k4) o4 HX.out b4 hqe (fun q hq => ⟨(hq3 q hq).1.alloc _, (hq3 q hq).2⟩) rfl hg6 ho6; have g4 := hd6.1.u.cell 4; have f4 := hd6.1.u.free 4; simp at g4)
            have HR := Lib.hid (HC3.out.1.put hd6 (HH.out.2.1 _) HH.out.2.2.1 HH.out.1)
            go_roundw
            case rel => exact ⟨_, _, _, _, _, _, HR.out⟩
            case measure =>
              have q := HR.out.u.u.cell 4
              simp at q
              rw [HH.out.2.2.2.2]
              unfold restLen
              rw [q]
              exact HH.out.2.2.2.1
      · have e1 := prs_bad (l := l) (by omega) (by rw [hEr]; exact hE0)
        have t2 : (Er != 0) = true := by simpa using hE0
        have hp := hC.h
        rw [e1, List.append_nil] at hp
        have hCd := hC.bad hp
        have HC := Lib.hid hC
        have HP := Lib.hid (And.intro hp hCd)
        clear hC hp e1 hr hml h6 hEr hN hCd hE0
        go_wp2_with fail
        refine hz.mono ?_
        rintro e w2 ⟨rfl, b2⟩
        have C2 := HC.out.below b2
        have d4 := C2.u.u.cell 4
        have f4 := C2.u.u.free 4
        simp at d4
        have HB := Lib.hid b2
        clear hz c4 b2 C2
        go_wp2
        go_ret
        have h2 := HP.out.2 w2 HB.out
        exact ⟨_, rfl, h2.out HP.out.1⟩
end Go.Proofs.Ytcmonalnhdodmaa.Unp
