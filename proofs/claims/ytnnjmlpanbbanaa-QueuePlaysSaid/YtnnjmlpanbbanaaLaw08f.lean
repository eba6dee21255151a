/-
  Layer 8's law QueuePlays.
-/
import Derived.Deep.CutRange
import Derived.Deep.CutBlock
import Derived.Deep.DeepCutAuto
import Derived.Test.YtnnjmlpanbbanaaLaw08a
import Derived.Test.YtnnjmlpanbbanaaRef08d
import Derived.Test.YtnnjmlpanbbanaaHand
namespace Go.Proofs.Ytnnjmlpanbbanaa.Rng.Que
open Go.RowKit Go.Shelf Ints

abbrev O3 := Int × Int × Int
/-- 'A' leads to the triples l, all below block B -/
def Ts (w : World) (B : Nat) (A : Option Addr) (l : List O3) : Prop :=
  0 < l.length → ∃ b off, A = some ⟨b, off, none⟩ ∧ b < B ∧ ∀ i x, l[i]? = some x → w.cell? ⟨b, off + i * 3, none⟩ = some (I x.1) ∧ w.cell? ⟨b, off + i * 3 + 1, none⟩ = some (I x.2.1) ∧ w.cell? ⟨b, off + i * 3 + 2, none⟩ = some (I x.2.2)
theorem Ts.below {w w' : World} {B : Nat} {A : Option Addr} {l : List O3} (h : Ts w B A l) (hb : Below B w w') : Ts w' B A l := fun hl => by
  obtain ⟨b, off, rfl, hB, hc⟩ := h hl
  exact ⟨b, off, rfl, hB, fun i x hx => ⟨(hb.cell (p := ⟨b, off + i * 3, none⟩) hB).trans (hc i x hx).1, (hb.cell (p := ⟨b, off + i * 3 + 1, none⟩) hB).trans (hc i x hx).2.1, (hb.cell (p := ⟨b, off + i * 3 + 2, none⟩) hB).trans (hc i x hx).2.2⟩⟩
theorem Ts.at_ {w : World} {B : Nat} {A : Option Addr} {l : List O3} (h : Ts w B A l) {k : Nat} (hk : k < l.length) : ∃ b off, A = some ⟨b, off, none⟩ ∧ b < B ∧ w.cell? ⟨b, off + k * 3, none⟩ = some (I l[k].1) ∧ w.cell? ⟨b, off + k * 3 + 1, none⟩ = some (I l[k].2.1) ∧ w.cell? ⟨b, off + k * 3 + 2, none⟩ = some (I l[k].2.2) := by
  obtain ⟨b, off, rfl, hb, hc⟩ := h (by omega)
  exact ⟨b, off, rfl, hb, hc k _ (List.getElem?_eq_getElem hk)⟩

/-- the play's state: the program's Queue at q, the reference's in the variable at block P -/
def Both (w0 w : World) (B P C : Nat) (q : Value) : Prop := ∃ (g : Nat) (L : List R) (n c : Nat) (A : Option Addr), q = .pointer (some ⟨g, 0, none⟩) ∧ At w0 w B g C L ∧ L.length = n ∧
  Cel w P 28 #[I C, .slice A n c] ∧ Os w B 65 (.slice A n c) L

theorem At.size {w0 w : World} {B g cap : Nat} {L : List R} (h : At w0 w B g cap L) : L.length ≤ cap ∧ cap ≤ 256 := by
  obtain ⟨⟨r, q⟩, _, _, _⟩ := h
  exact q.len
theorem At.only {w0 w w' : World} {B g cap P : Nat} {L : List R} {t : TypeId} {cs : Array Value} (h : At w0 w B g cap L) (x : Cel w P t cs) (h1 : t ≠ 56) (h2 : t ≠ 61) (hP : B ≤ P) (k : Only [P] w w') : At w0 w' B g cap L := by
  obtain ⟨⟨r, q⟩, b, s, hg⟩ := h
  obtain ⟨v, hc, ho, rfl, hl⟩ := q
  refine ⟨⟨v.ownBlock, v, hc.only k ?_, ho.only k ?_, rfl, hl⟩, b.trans (k.below s (by simpa using hP)), Nat.le_trans s k.size, hg⟩
  · simp only [List.mem_singleton]
    exact Cel.apart hc x (fun e => h1 e.symm)
  · intro i hi
    simp only [List.mem_singleton]
    exact fun e => own_apart ho x (fun e2 => h2 e2.symm) (by rw [hi, e])
theorem Both.below {w0 w w' : World} {B P C : Nat} {q : Value} (h : Both w0 w B P C q) (k : Below w.heap.size w w') : Both w0 w' B P C q := by
  obtain ⟨g, L, n, c, A, h1, h2, h3, h4, h5⟩ := h
  exact ⟨g, L, n, c, A, h1, h2.below k, h3, h4.only (Only.of_below (S := []) k) (by simp), h5.below k⟩
theorem Both_put {w0 w : World} {B P C g N c : Nat} {A : Option Addr} {L : List R} {a b : Value} (q : At w0 w B g C L) (x : Cel w P 28 #[a, b]) (hP : B ≤ P)
    (o : Os w B 65 (.slice A N c) L) (hN : L.length = N) : Both w0 ((w.setCell ⟨P, 0, none⟩ (I C)).setCell ⟨P, 1, none⟩ (.slice A N c)) B P C (.pointer (some ⟨g, 0, none⟩)) := by
  have h2 := (x.put 0 (I C)).put 1 (.slice A N c)
  have hO : Only [P] w ((w.setCell ⟨P, 0, none⟩ (I C)).setCell ⟨P, 1, none⟩ (.slice A N c)) := ((Only.refl [P] w).put (p := ⟨P, 0, none⟩) (.inl (by simp)) _).put (p := ⟨P, 1, none⟩) (.inl (by simp)) _
  refine ⟨g, L, N, c, A, rfl, q.only x (by decide) (by decide) hP hO, hN, by simpa using h2, o.only hO (fun i hi => ?_)⟩
  simp only [List.mem_singleton]
  exact fun e => own_apart o x (by decide) (by rw [hi, e])
theorem QW.more {w : World} {base b g cap : Nat} {r : Option Nat} {L : List R} (h : QW w base g r cap L) (hb : b ≤ base) : QW w b g r cap L := by
  obtain ⟨v, hc, ho, h1, h2⟩ := h
  exact ⟨v, hc, ho.more hb, h1, h2⟩
/-- a clone, played with no more, and two calls on the old Queue -/
theorem QPut.keeps {w wr : World} {base g cap b2 g2 cap2 : Nat} {r r2 : Option Nat} {L L2 : List R} (h : QPut w base g r cap L wr) (q : QW w b2 g2 r2 cap2 L2) (h1 : g2 ≠ g) (h2 : ∀ i, r2 = some i → i ≠ g ∧ r ≠ some i) (h3 : ∀ i, r = some i → g2 ≠ i) : QW wr b2 g2 r2 cap2 L2 := by
  obtain ⟨_, _, _, hO⟩ := h
  refine q.only hO ?_ ?_
  · simp only [List.mem_cons, Option.mem_toList, not_or]
    exact ⟨h1, fun e => h3 _ e rfl⟩
  · intro i hi
    simp only [List.mem_cons, Option.mem_toList, not_or]
    exact ⟨(h2 i hi).1, fun e => (h2 i hi).2 e⟩

set_option maxHeartbeats 2000000 in
set_option maxRecDepth 100000 in
theorem queuePlays_walk (m : Int) (l : List O3) (w : World) (A : Option Addr) (c : Nat) (hl : Ts w w.heap.size A l) :
    Calls Try.prog 3 #[I m, .slice A l.length c] w fun e w' => e = .returned (.bool true) ∧ Below w.heap.size w w' := by
  obtain ⟨n, hn⟩ : ∃ n, n = l.length := ⟨_, rfl⟩
  rw [← hn]
  by_cases hbig : 100 < n
  · have hal := alive_any w
    have t1 : decide ((100 : Int) < (n : Int)) = true := by simp; omega
    have t2 : decide (100 < n) = true := by simpa using hbig
    clear hl hn hbig
    go_enter Try.func3, Try.ntmps3
    go_wp2_with (go_at_call 8; refine hal.mono ?_; rintro e w3 ⟨rfl, b3⟩)
    go_ret
    exact ⟨rfl, b3⟩
  · have t1 : decide ((100 : Int) < (n : Int)) = false := by simp; omega
    have t2 : decide (100 < n) = false := by simpa using hbig
    have hn1 : n ≤ 100 := by omega
    have hnew := At.new m w
    have hC0 := capOf_le m
    obtain ⟨C, hCC⟩ : ∃ C, C = capOf m := ⟨_, rfl⟩
    rw [← hCC] at hnew hC0
    have HCC := Lib.hid hCC
    obtain ⟨g, hg⟩ : ∃ g, g = w.heap.size := ⟨_, rfl⟩
    have HN := Lib.hid hn
    rw [← hg] at hnew hl ⊢
    clear hg hn hbig hCC
    go_enter Try.func3, Try.ntmps3
    go_wp2_with fail
    refine hnew.mono ?_
    rintro e w1 ⟨rfl, q1⟩
    have hrn := rnew_any m w1
    rw [← HCC.out] at hrn
    clear hnew
    go_wp2_with fail
    refine hrn.mono ?_
    rintro e w2 ⟨rfl, b2⟩
    have q2 := (q1.below b2).below ((Below.refl _ w2).alloc (Nat.le_refl _) (.cells #[I C, .slice none 0 0] 28))
    have x2 : Cel (w2.alloc (.cells #[I C, .slice none 0 0] 28)) w2.heap.size 28 #[I C, .slice none 0 0] := Cel.new w2 _ _
    have hP : g ≤ w2.heap.size := Nat.le_trans q1.s b2.size
    have hboth : Both w (w2.alloc (.cells #[I C, .slice none 0 0] 28)) g w2.heap.size C (.pointer (some ⟨g, 0, none⟩)) := ⟨g, [], 0, 0, none, rfl, q2, rfl, x2, Os.nil_ _ _ _⟩
    obtain ⟨P, hP0⟩ : ∃ P, P = w2.heap.size := ⟨_, rfl⟩
    clear hrn q1 x2 q2
    go_wp2_with fail
    rw [← hP0] at hboth hP ⊢
    clear hP0
    go_loopw [5, 7, 8, 9, 10, 11, 12, 13, 14, 15, 16, 17, 18, 19, 20, 21, 22, 23, 24] (fun q i _ _ _ _ _ _ _ _ _ _ _ _ _ _ _ _ _ wr => ∃ k : Nat, k ≤ n ∧ i = .int .i64 k ∧ Both w wr g P C q) (fun _ i _ _ _ _ _ _ _ _ _ _ _ _ _ _ _ _ _ _ => n - (intOf i).toNat)
    case atStart => exact ⟨0, Nat.zero_le _, rfl, hboth⟩
    case round =>
      obtain ⟨k, hk, rfl, hq⟩ := hrel
      clear hboth
      by_cases hlt : k < n
      · have hkl : k < l.length := by have := HN.out; omega
        obtain ⟨g1, L, nL, cL, AL, rfl, q, hL, x, o⟩ := hq
        obtain ⟨b, off, rfl, hbw, hc1, hc2, hc3⟩ := (hl.below q.b).at_ hkl
        generalize l[k] = y at hc1 hc2 hc3
        obtain ⟨ca, pr, it⟩ := y
        dsimp only at hc1 hc2 hc3
        have b1 : Below wr.heap.size wr (wr.alloc (.cells #[I ca, I pr, I it] 31)) := (Below.refl _ wr).alloc (Nat.le_refl _) _
        have qA := q.below b1
        have xA : Cel (wr.alloc (.cells #[I ca, I pr, I it] 31)) P 28 #[I C, .slice AL nL cL] := x.only (Only.of_below (S := []) b1) (by simp)
        have oA := o.below b1
        have XA : Cel (wr.alloc (.cells #[I ca, I pr, I it] 31)) wr.heap.size 31 #[I ca, I pr, I it] := Cel.new wr _ _
        have hLC := q.size.1
        go_upto_block 2 with fail
        obtain ⟨wA, hwA⟩ : ∃ wA, wA = wr.alloc (.cells #[I ca, I pr, I it] 31) := ⟨_, rfl⟩
        rw [← hwA] at qA xA oA XA ⊢
        obtain ⟨X0, hX0⟩ : ∃ X0, X0 = wr.heap.size := ⟨_, rfl⟩
        rw [← hX0] at XA ⊢
        clear hwA hX0 b1 q x o hkl hc1 hc2 hc3 hl
        have f1 := Cel_c0 xA
        have f2 := Cel_c1 xA
        have f3 : wA.cell? ⟨X0, 0, none⟩ = some (I ca) := XA.cell 0
        have f4 : wA.cell? ⟨X0, 1, none⟩ = some (I pr) := XA.cell 1
        have f5 : wA.cell? ⟨X0, 2, none⟩ = some (I it) := XA.cell 2
        go_cut [5, 9, 10, 11, 12, 13, 14, 15, 16, 17, 18, 19, 20] from 33 to 151 (fun q _ _ _ _ _ _ _ _ _ _ _ _ wx => Both w wx g P C q)
        case first =>
          rcases Decidable.em (ca = 1) with rfl | n1
          · obtain ⟨E, hE⟩ : ∃ E, E = pushE C (pr, it) L := ⟨_, rfl⟩
            obtain ⟨F, hF⟩ : ∃ F, F = pushed C (pr, it) L := ⟨_, rfl⟩
            have hcall := qA.push pr it hE.symm hF.symm
            go_wp2_with fail
            refine hcall.mono ?_
            rintro e w3 ⟨rfl, q3, k3⟩
            have x3 := k3 _ _ _ xA (by decide) (by decide)
            have X3 := k3 _ _ _ XA (by decide) (by decide)
            have o3 := Os_kp oA k3
            have g1' := Cel_c0 x3
            have g2 := Cel_c1 x3
            have g4 : w3.cell? ⟨X0, 1, none⟩ = some (I pr) := X3.cell 1
            have g5 : w3.cell? ⟨X0, 2, none⟩ = some (I it) := X3.cell 2
            have hcall2 := rpush_any pr it L C w3 g (.slice AL nL cL) o3 q3.s hLC hC0
            rw [← hE, ← hF] at hcall2
            clear hcall hE hF qA xA oA XA f1 f2 f3 f4 f5 k3
            go_wp2_with fail
            refine hcall2.mono ?_
            rintro e w4 ⟨v4, rfl, o4, b4⟩
            obtain ⟨N, hN⟩ : ∃ N, N = F.length := ⟨_, rfl⟩
            obtain ⟨A4, c4, rfl, _, _, _, _⟩ := o4.reads_len hN.symm
            have q4 := q3.below b4
            have x4 : Cel w4 P 28 #[I C, .slice AL nL cL] := x3.only (Only.of_below (S := []) b4) (by simp)
            have y1 := Cel_c0 x4
            have y2 := Cel_c1 x4
            have y3 : w4.frozen? ⟨P, 0, none⟩ = false := x4.free 0
            have y4 : w4.frozen? ⟨P, 1, none⟩ = false := x4.free 1
            have hPl := x4.lt
            have hz : (E != E) = false := by simp
            have hfin := Both_put q4 x4 hP o4 hN.symm
            clear hcall2 x3 X3 o3 g1' g2 g4 g5 q3 hN
            go_wp2
            go_meet
            case rel => exact hfin.below ((Below.refl _ _).alloc (Nat.le_refl _) _)
          rcases Decidable.em (ca = 2) with rfl | n2
          · obtain ⟨H, hH⟩ : ∃ H, H = hdI L := ⟨_, rfl⟩
            obtain ⟨K, hK⟩ : ∃ K, K = okI L := ⟨_, rfl⟩
            obtain ⟨F, hF⟩ : ∃ F, F = L.tail := ⟨_, rfl⟩
            have hcall := qA.pop hH.symm hK.symm hF.symm
            go_wp2_with fail
            refine hcall.mono ?_
            rintro e w3 ⟨rfl, q3, k3⟩
            have x3 := k3 _ _ _ xA (by decide) (by decide)
            have X3 := k3 _ _ _ XA (by decide) (by decide)
            have o3 := Os_kp oA k3
            have g1' := Cel_c0 x3
            have g2 := Cel_c1 x3
            have g4 : w3.cell? ⟨X0, 1, none⟩ = some (I pr) := X3.cell 1
            have g5 : w3.cell? ⟨X0, 2, none⟩ = some (I it) := X3.cell 2
            have hcall2 := rpop_any L C w3 g (.slice AL nL cL) o3 q3.s (by omega)
            rw [← hH, ← hK, ← hF] at hcall2
            have hz : (H != H) = false := by simp
            have hz2 : (K != K) = false := by simp
            clear hcall hH hK hF qA xA oA XA f1 f2 f3 f4 f5 k3
            go_wp2_with fail
            refine hcall2.mono ?_
            rintro e w4 ⟨v4, rfl, o4, b4⟩
            obtain ⟨N, hN⟩ : ∃ N, N = F.length := ⟨_, rfl⟩
            obtain ⟨A4, c4, rfl, _, _, _, _⟩ := o4.reads_len hN.symm
            have q4 := q3.below b4
            have x4 : Cel w4 P 28 #[I C, .slice AL nL cL] := x3.only (Only.of_below (S := []) b4) (by simp)
            have y1 := Cel_c0 x4
            have y2 := Cel_c1 x4
            have y3 : w4.frozen? ⟨P, 0, none⟩ = false := x4.free 0
            have y4 : w4.frozen? ⟨P, 1, none⟩ = false := x4.free 1
            have hPl := x4.lt
            have hfin := Both_put q4 x4 hP o4 hN.symm
            clear hcall2 x3 X3 o3 g1' g2 g4 g5 q3 hN
            go_wp2
            go_meet
            case rel => exact hfin.below ((Below.refl _ _).alloc (Nat.le_refl _) _)
          rcases Decidable.em (ca = 4) with rfl | n4
          · obtain ⟨K, hK⟩ : ∃ K, K = hasI it L := ⟨_, rfl⟩
            obtain ⟨F, hF⟩ : ∃ F, F = rm it L := ⟨_, rfl⟩
            have hcall := qA.remove it hK.symm hF.symm
            go_wp2_with fail
            refine hcall.mono ?_
            rintro e w3 ⟨rfl, q3, k3⟩
            have x3 := k3 _ _ _ xA (by decide) (by decide)
            have X3 := k3 _ _ _ XA (by decide) (by decide)
            have o3 := Os_kp oA k3
            have g1' := Cel_c0 x3
            have g2 := Cel_c1 x3
            have g4 : w3.cell? ⟨X0, 1, none⟩ = some (I pr) := X3.cell 1
            have g5 : w3.cell? ⟨X0, 2, none⟩ = some (I it) := X3.cell 2
            have hcall2 := rremove_any it L C w3 g (.slice AL nL cL) o3 q3.s (by omega)
            rw [← hK, ← hF] at hcall2
            have hz2 : (K != K) = false := by simp
            clear hcall hK hF qA xA oA XA f1 f2 f3 f4 f5 k3
            go_wp2_with fail
            refine hcall2.mono ?_
            rintro e w4 ⟨v4, rfl, o4, b4⟩
            obtain ⟨N, hN⟩ : ∃ N, N = F.length := ⟨_, rfl⟩
            obtain ⟨A4, c4, rfl, _, _, _, _⟩ := o4.reads_len hN.symm
            have q4 := q3.below b4
            have x4 : Cel w4 P 28 #[I C, .slice AL nL cL] := x3.only (Only.of_below (S := []) b4) (by simp)
            have y1 := Cel_c0 x4
            have y2 := Cel_c1 x4
            have y3 : w4.frozen? ⟨P, 0, none⟩ = false := x4.free 0
            have y4 : w4.frozen? ⟨P, 1, none⟩ = false := x4.free 1
            have hPl := x4.lt
            have hfin := Both_put q4 x4 hP o4 hN.symm
            clear hcall2 x3 X3 o3 g1' g2 g4 g5 q3 hN
            go_wp2
            go_meet
            case rel => exact hfin.below ((Below.refl _ _).alloc (Nat.le_refl _) _)
          rcases Decidable.em (ca = 5) with rfl | n5
          · obtain ⟨⟨r, qw⟩, bq, sq, gq⟩ := qA
            have hcall := qclone_any wA g g1 C r L qw
            go_wp2_with fail
            refine hcall.mono ?_
            rintro e w3 ⟨gc, rc, rfl, hgc, qc, kc⟩
            have qw3 := qw.below kc
            have b3 := bq.trans (kc.mono sq)
            have s3 := Nat.le_trans sq kc.size
            have kk3 := Kp.of_below kc
            have X3 := kk3 _ _ _ XA (by decide) (by decide)
            have g4 : w3.cell? ⟨X0, 1, none⟩ = some (I pr) := X3.cell 1
            have g5 : w3.cell? ⟨X0, 2, none⟩ = some (I it) := X3.cell 2
            have hcall2 := qpush_any pr it w3 g g1 C r L qw3 s3
            have hlw := qw.lt
            have hrw := qw.row
            have hrc := qc.row
            have hlc := qc.lt
            clear hcall f1 f2 f3 f4 f5
            go_wp2_with fail
            refine hcall2.mono ?_
            rintro e w4 ⟨rfl, hp⟩
            have qc4 := hp.keeps qc (by omega) (fun i hi => ⟨by have := (hrc i hi).1; omega, fun e => by have := hrw i e; have := (hrc i hi).1; omega⟩) (fun i hi => by have := hrw i hi; omega)
            have kk4 := Kp.put hp qw3
            have b4 := b3.trans (hp.below qw3 (Nat.le_refl _) gq)
            obtain ⟨r4, qw4, hr4, hO4⟩ := hp
            have s4 := Nat.le_trans s3 hO4.size
            have hcall3 := qpop_any w4 g g1 C r4 _ qw4
            have hr4' : ∀ i, r4 = some i → i < wA.heap.size ∨ w3.heap.size ≤ i := fun i hi => by
              rcases hr4 with h | ⟨i2, h, h2⟩
              · exact .inl (hrw i (by rw [← h]; exact hi)).2.1
              · rw [h] at hi; injection hi with hi; exact .inr (by omega)
            clear hcall2 g4 g5 X3 qw3 hO4 hr4
            go_wp2_with fail
            refine hcall3.mono ?_
            rintro e w5 ⟨rfl, hp2⟩
            have qc5 := hp2.keeps qc4 (by omega) (fun i hi => ⟨by have := (hrc i hi).1; omega, fun e => by have := hr4' i e; have := hrc i hi; omega⟩) (fun i hi => by have := hr4' i hi; omega)
            have kk5 := Kp.put hp2 qw4
            have b5 := b4.trans (hp2.below qw4 (Nat.le_refl _) gq)
            have s5 : g ≤ w5.heap.size := by obtain ⟨_, _, _, hO5⟩ := hp2; exact Nat.le_trans s4 hO5.size
            have kk := (kk3.trans kk4).trans kk5
            have hfin : Both w w5 g P C (.pointer (some ⟨gc, 0, none⟩)) := ⟨gc, L, nL, cL, AL, rfl, ⟨⟨rc, qc5.more sq⟩, b5, s5, Nat.le_trans sq hgc⟩, hL, kk _ _ _ xA (by decide) (by decide), Os_kp oA kk⟩
            clear hcall3 hp2 qw4 qc4 qc5 kk3 kk4 kk5 kk b3 b4 b5 hrc hrw hr4' hlw hlc qc qw
            go_wp2
            go_meet
            case rel => exact hfin
          · have m1 : (ca == 1) = false := by simpa using n1
            have m2 : (ca == 2) = false := by simpa using n2
            have m4 : (ca == 4) = false := by simpa using n4
            have m5 : (ca == 5) = false := by simpa using n5
            have hfin : Both w wA g P C (.pointer (some ⟨g1, 0, none⟩)) := ⟨g1, L, nL, cL, AL, rfl, qA, hL, xA, oA⟩
            clear n1 n2 n4 n5 qA xA oA XA
            go_wp2
            go_meet
            case rel => exact hfin
        case rest =>
          obtain ⟨g2, L2, n2, c2, A2, rfl, q2, hL2, x2, o2⟩ := hcut
          clear qA xA oA XA f1 f2 f3 f4 f5 hL hLC
          obtain ⟨H, hH⟩ : ∃ H, H = hdI L2 := ⟨_, rfl⟩
          obtain ⟨K, hK⟩ : ∃ K, K = okI L2 := ⟨_, rfl⟩
          have hpk := q2.peek hH.symm hK.symm
          obtain ⟨A2', c2', he2, r2, _, _, _⟩ := o2.reads_len hL2
          cases he2
          have hrp := rpeek_any L2 C wc A2 c2 r2
          rw [hL2, ← hH, ← hK] at hrp
          have z1 := Cel_c0 x2
          have z2 := Cel_c1 x2
          have hsz2 := q2.size
          clear hH hK
          go_wp2_with fail
          refine hpk.mono ?_
          rintro e w3 ⟨rfl, rfl⟩
          go_wp2_with fail
          refine hrp.mono ?_
          rintro e w4 ⟨rfl, b4⟩
          have q4 := q2.below b4
          have x4 : Cel w4 P 28 #[I C, .slice A2 n2 c2] := x2.only (Only.of_below (S := []) b4) (by simp)
          have o4 := o2.below b4
          have y1 := Cel_c0 x4
          have y2 := Cel_c1 x4
          have hPl := x4.lt
          have q4d : At w w4.drew g g2 C L2 := q4.below ⟨rfl, rfl, rfl, Nat.le_refl _, fun _ _ => rfl⟩
          have hlen := q4d.len hL2
          have hit := q4d.items (I' := itm L2) (n := n2) rfl (by rw [itm_length, hL2])
          have hz : (H != H) = false := by simp
          have hz2 : (K != K) = false := by simp
          have hz3 : ((n2 : Int) != (n2 : Int)) = false := by simp
          have hin2 : (itm L2).length = n2 := by rw [itm_length, hL2]
          have hn2 : n2 ≤ 256 := by omega
          clear hpk hrp z1 z2 q2 x2 r2
          go_wp2_with fail
          refine wp_region_held_drew (S := (fun w' => w'.cell? ⟨P, 0, none⟩ = some (I C) ∧ w'.cell? ⟨P, 1, none⟩ = some (.slice A2 n2 c2))) (by kernel_rfl) (⟨y1, y2⟩) (fun hHeld => ?_)
          refine wpAnyH_here 0 (v := ?_) rfl (by kernel_rfl) (by kernel_rfl) (by kernel_rfl) (fun _ _ _ h => h) (Or.inl ⟨by rfl, ?_⟩) hHeld ?_
          rotate_left
          · intro w hSw; (try dsimp only at hSw); go_simp; all_goals (with_reducible rfl)
          try simp only [Act.put, List.setIfInBounds_toArray, List.set_cons_zero, List.set_cons_succ]
          refine wpAnyH_here 1 (v := ?_) rfl (by kernel_rfl) (by kernel_rfl) (by kernel_rfl) (fun _ _ _ h => h) (Or.inl ⟨by rfl, ?_⟩) hHeld ?_
          rotate_left
          · intro w hSw; (try dsimp only at hSw); go_simp; all_goals (with_reducible rfl)
          try simp only [Act.put, List.setIfInBounds_toArray, List.set_cons_zero, List.set_cons_succ]
          refine wpAnyH_here 2 (v := ?_) rfl (by kernel_rfl) (by kernel_rfl) (by kernel_rfl) (fun _ _ _ h => h) (Or.inl ⟨by rfl, ?_⟩) hHeld ?_
          rotate_left
          · intro w hSw; (try dsimp only at hSw); go_simp; all_goals (with_reducible rfl)
          try simp only [Act.put, List.setIfInBounds_toArray, List.set_cons_zero, List.set_cons_succ]
          refine wpAnyH_here 3 (v := ?_) rfl (by kernel_rfl) (by kernel_rfl) (by kernel_rfl) (fun _ _ _ h => h) (Or.inl ⟨by rfl, ?_⟩) hHeld ?_
          rotate_left
          · intro w hSw; (try dsimp only at hSw); go_simp; all_goals (with_reducible rfl)
          try simp only [Act.put, List.setIfInBounds_toArray, List.set_cons_zero, List.set_cons_succ]
          refine wpAnyH_here 4 (v := ?_) rfl (by kernel_rfl) (by kernel_rfl) (by kernel_rfl) (fun _ _ _ h => h) (Or.inl ⟨by rfl, ?_⟩) hHeld ?_
          rotate_left
          · intro w hSw; (try dsimp only at hSw); go_simp; all_goals (with_reducible rfl)
          try simp only [Act.put, List.setIfInBounds_toArray, List.set_cons_zero, List.set_cons_succ]
          refine wpAnyH_here 5 (v := ?_) rfl (by kernel_rfl) (by kernel_rfl) (by kernel_rfl) (fun _ _ _ h => h) (Or.inl ⟨by rfl, ?_⟩) hHeld ?_
          rotate_left
          · intro w hSw; (try dsimp only at hSw); go_simp; all_goals (with_reducible rfl)
          try simp only [Act.put, List.setIfInBounds_toArray, List.set_cons_zero, List.set_cons_succ]
          refine wpAnyH_here 6 (v := ?_) rfl (by kernel_rfl) (by kernel_rfl) (by kernel_rfl) (fun _ _ _ h => h) (Or.inl ⟨by rfl, ?_⟩) hHeld ?_
          rotate_left
          · intro w hSw; (try dsimp only at hSw); go_simp; all_goals (with_reducible rfl)
          try simp only [Act.put, List.setIfInBounds_toArray, List.set_cons_zero, List.set_cons_succ]
          refine wpAnyH_here 7 (v := ?_) rfl (by kernel_rfl) (by kernel_rfl) (by kernel_rfl) (fun _ _ _ h => h) (Or.inl ⟨by rfl, ?_⟩) hHeld ?_
          rotate_left
          · intro w hSw; (try dsimp only at hSw); go_simp; all_goals (with_reducible rfl)
          try simp only [Act.put, List.setIfInBounds_toArray, List.set_cons_zero, List.set_cons_succ]
          refine wpAnyH_here 8 (v := ?_) rfl (by kernel_rfl) (by kernel_rfl) (by kernel_rfl) (fun _ _ _ h => h) (Or.inl ⟨by rfl, ?_⟩) hHeld ?_
          rotate_left
          · intro w hSw; (try dsimp only at hSw); go_simp; all_goals (with_reducible rfl)
          try simp only [Act.put, List.setIfInBounds_toArray, List.set_cons_zero, List.set_cons_succ]
          refine wpAnyH_here 9 (v := ?_) rfl (by kernel_rfl) (by kernel_rfl) (by kernel_rfl) (fun _ _ _ h => h) (Or.inl ⟨by rfl, ?_⟩) hHeld ?_
          rotate_left
          · intro w hSw; (try dsimp only at hSw); go_simp; all_goals (with_reducible rfl)
          try simp only [Act.put, List.setIfInBounds_toArray, List.set_cons_zero, List.set_cons_succ]
          refine wpAnyH_here 11 (v := ?_) rfl (by kernel_rfl) (by kernel_rfl) (by kernel_rfl) (fun _ _ _ h => h) (Or.inl ⟨by rfl, ?_⟩) hHeld ?_
          rotate_left
          · intro w hSw; (try dsimp only at hSw); go_simp; all_goals (with_reducible rfl)
          try simp only [Act.put, List.setIfInBounds_toArray, List.set_cons_zero, List.set_cons_succ]
          refine wpAnyH_here 12 (v := ?_) rfl (by kernel_rfl) (by kernel_rfl) (by kernel_rfl) (fun _ _ _ h => h) (Or.inl ⟨by rfl, ?_⟩) hHeld ?_
          rotate_left
          · intro w hSw; (try dsimp only at hSw); go_simp; all_goals (with_reducible rfl)
          try simp only [Act.put, List.setIfInBounds_toArray, List.set_cons_zero, List.set_cons_succ]
          refine wpAnyH_here 13 (v := ?_) rfl (by kernel_rfl) (by kernel_rfl) (by kernel_rfl) (fun _ _ _ h => h) (Or.inl ⟨by rfl, ?_⟩) hHeld ?_
          rotate_left
          · intro w hSw; (try dsimp only at hSw); go_simp; all_goals (with_reducible rfl)
          try simp only [Act.put, List.setIfInBounds_toArray, List.set_cons_zero, List.set_cons_succ]
          refine wpAnyH_alone 10 rfl (by kernel_rfl) (fun K hK => ?_)
          go_simp
          (go_at_call 20; refine hlen.mono ?_; rintro e w5 ⟨rfl, rfl⟩)
          refine hK.out _ _ (⟨y1, y2⟩) (fun hHeld => ?_)
          clear hK K
          try simp only [Act.put, List.setIfInBounds_toArray, List.set_cons_zero, List.set_cons_succ]
          refine wpAnyH_here 14 (v := ?_) rfl (by kernel_rfl) (by kernel_rfl) (by kernel_rfl) (fun _ _ _ h => h) (Or.inl ⟨by rfl, ?_⟩) hHeld ?_
          rotate_left
          · intro w hSw; (try dsimp only at hSw); go_simp; all_goals (with_reducible rfl)
          try simp only [Act.put, List.setIfInBounds_toArray, List.set_cons_zero, List.set_cons_succ]
          refine wpAnyH_here 15 (v := ?_) rfl (by kernel_rfl) (by kernel_rfl) (by kernel_rfl) (fun _ _ _ h => h) (Or.inl ⟨by rfl, ?_⟩) hHeld ?_
          rotate_left
          · intro w hSw; (try dsimp only at hSw); go_simp; all_goals (with_reducible rfl)
          try simp only [Act.put, List.setIfInBounds_toArray, List.set_cons_zero, List.set_cons_succ]
          refine wpAnyH_here 16 (v := ?_) rfl (by kernel_rfl) (by kernel_rfl) (by kernel_rfl) (fun _ _ _ h => h) (Or.inl ⟨by rfl, ?_⟩) hHeld ?_
          rotate_left
          · intro w hSw; (try dsimp only at hSw); go_simp; all_goals (with_reducible rfl)
          try simp only [Act.put, List.setIfInBounds_toArray, List.set_cons_zero, List.set_cons_succ]
          refine wpAnyH_here 17 (v := ?_) rfl (by kernel_rfl) (by kernel_rfl) (by kernel_rfl) (fun _ _ _ h => h) (Or.inl ⟨by rfl, ?_⟩) hHeld ?_
          rotate_left
          · intro w hSw; (try dsimp only at hSw); go_simp; all_goals (with_reducible rfl)
          try simp only [Act.put, List.setIfInBounds_toArray, List.set_cons_zero, List.set_cons_succ]
          refine wpAnyH_here 19 (v := ?_) rfl (by kernel_rfl) (by kernel_rfl) (by kernel_rfl) (fun _ _ _ h => h) (Or.inl ⟨by rfl, ?_⟩) hHeld ?_
          rotate_left
          · intro w hSw; (try dsimp only at hSw); go_simp; all_goals (with_reducible rfl)
          try simp only [Act.put, List.setIfInBounds_toArray, List.set_cons_zero, List.set_cons_succ]
          refine wpAnyH_alone 18 rfl (by kernel_rfl) (fun K hK => ?_)
          go_simp
          (go_at_call 22; refine hit.mono ?_; rintro e w5 ⟨A5, c5, rfl, o5, n5, q5, k5⟩; have k4d : Below w4.heap.size w4 w5 := (bel_drew (Below.refl w4.heap.size w4)).trans (show Below w4.heap.size w4.drew w5 from k5); have x5 : Cel w5 P 28 #[I C, .slice A2 n2 c2] := x4.only (Only.of_below (S := []) k4d) (by simp); have or5 := o4.below k4d; have c0 := Cel_c0 x5; have c1 := Cel_c1 x5; obtain ⟨A2', c2', he2, r5, _, _, _⟩ := or5.reads_len hL2; cases he2; have hri := ritems_any L2 C w5 A2 c2 r5 (by omega); rw [hL2] at hri)
          refine hK.out _ _ (⟨c0, c1⟩) (fun hHeld => ?_)
          clear hK K
          try simp only [Act.put, List.setIfInBounds_toArray, List.set_cons_zero, List.set_cons_succ]
          refine wpAnyH_alone 20 rfl (by kernel_rfl) (fun K hK => ?_)
          go_simp
          (go_at_call 23; refine hri.mono ?_; rintro e w6 ⟨v6, rfl, o6, k6⟩; have x6 : Cel w6 P 28 #[I C, .slice A2 n2 c2] := x5.only (Only.of_below (S := []) k6) (by simp); obtain ⟨A6, c6, rfl, ns6, _, _, _⟩ := o6.reads_len hin2; have d0 := Cel_c0 x6; have d1 := Cel_c1 x6; have hints := rints_any (itm L2) (itm L2) w6 A5 A6 c5 c6 (On_ns (o5.below k6)) ns6 (by omega); rw [decide_eq_true rfl, hin2] at hints)
          refine hK.out _ _ (⟨d0, d1⟩) (fun hHeld => ?_)
          clear hK K
          try simp only [Act.put, List.setIfInBounds_toArray, List.set_cons_zero, List.set_cons_succ]
          refine wpAnyH_alone 21 rfl (by kernel_rfl) (fun K hK => ?_)
          go_simp
          (go_at_call 21; refine hints.mono ?_; rintro e w7 ⟨rfl, k7⟩; have x7 : Cel w7 P 28 #[I C, .slice A2 n2 c2] := x6.only (Only.of_below (S := []) k7) (by simp); have g0 := Cel_c0 x7; have g1 := Cel_c1 x7)
          refine hK.out _ _ (⟨g0, g1⟩) (fun hHeld => ?_)
          clear hK K
          try simp only [Act.put, List.setIfInBounds_toArray, List.set_cons_zero, List.set_cons_succ]
          refine wpAnyH_here 22 (v := ?_) rfl (by kernel_rfl) (by kernel_rfl) (by kernel_rfl) (fun _ _ _ h => h) (Or.inl ⟨by rfl, ?_⟩) hHeld ?_
          rotate_left
          · intro w hSw; (try dsimp only at hSw); go_simp; all_goals (with_reducible rfl)
          try simp only [Act.put, List.setIfInBounds_toArray, List.set_cons_zero, List.set_cons_succ]
          refine wpAnyH_here 23 (v := ?_) rfl (by kernel_rfl) (by kernel_rfl) (by kernel_rfl) (fun _ _ _ h => h) (Or.inl ⟨by rfl, ?_⟩) hHeld ?_
          rotate_left
          · intro w hSw; (try dsimp only at hSw); go_simp; all_goals (with_reducible rfl)
          try simp only [Act.put, List.setIfInBounds_toArray, List.set_cons_zero, List.set_cons_succ]
          refine wpAnyH_done (by kernel_rfl) ?_ _
          have hfin : Both w w7 g P C (.pointer (some ⟨g2, 0, none⟩)) := ⟨g2, L2, n2, c2, A2, rfl, (q5.below k6).below k7, hL2, x7, (or5.below k6).below k7⟩
          go_wp2_with fail
          go_roundw
          case rel => exact ⟨k + 1, hlt, by simp, hfin⟩
          case measure => simp [intOf]; omega
      · obtain rfl : k = n := by omega
        obtain ⟨g1, L, nL, cL, AL, rfl, q, hL, x, o⟩ := hq
        clear hlt hl
        go_wp2_with fail
        refine (alive_any _).mono ?_
        rintro e w6 ⟨rfl, b6⟩
        go_wp2_with fail
        go_ret
        exact ⟨rfl, q.b.trans (b6.mono q.s)⟩
end Go.Proofs.Ytnnjmlpanbbanaa.Rng.Que
