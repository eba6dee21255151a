/-
  Layer 9's law HistoryPlays.
-/
import Derived.Test.YtnkbilbaljdfgaaLaw09b
namespace Go.Proofs.Ytnkbilbaljdfgaa.His
open Go.RowKit Go.Shelf Ints

/-- 'A' leads to the steps l, all below block B -/
def Ss (w : World) (B : Nat) (A : Option Addr) (l : List (Bool × Int)) : Prop :=
  0 < l.length → ∃ b off, A = some ⟨b, off, none⟩ ∧ b < B ∧ ∀ i x, l[i]? = some x → w.cell? ⟨b, off + i * 2, none⟩ = some (.bool x.1) ∧ w.cell? ⟨b, off + i * 2 + 1, none⟩ = some (I x.2)
theorem Ss.below {w w' : World} {B : Nat} {A : Option Addr} {l : List (Bool × Int)} (h : Ss w B A l) (hb : Below B w w') : Ss w' B A l := fun hl => by
  obtain ⟨b, off, rfl, hB, hc⟩ := h hl
  exact ⟨b, off, rfl, hB, fun i x hx => ⟨(hb.cell (p := ⟨b, off + i * 2, none⟩) hB).trans (hc i x hx).1, (hb.cell (p := ⟨b, off + i * 2 + 1, none⟩) hB).trans (hc i x hx).2⟩⟩
theorem Ss.at_ {w : World} {B : Nat} {A : Option Addr} {l : List (Bool × Int)} (h : Ss w B A l) {k : Nat} (hk : k < l.length) : ∃ b off, A = some ⟨b, off, none⟩ ∧ b < B ∧ w.cell? ⟨b, off + k * 2, none⟩ = some (.bool l[k].1) ∧ w.cell? ⟨b, off + k * 2 + 1, none⟩ = some (I l[k].2) := by
  obtain ⟨b, off, rfl, hb, hc⟩ := h (by omega)
  exact ⟨b, off, rfl, hb, hc k _ (List.getElem?_eq_getElem hk)⟩

/-- the play's state: the program's History at g, the reference's at P -/
structure HX (w0 w : World) (B g P C : Nat) (L1 L2 : List Int) (D1 D2 : Int) : Prop where
  o : ∃ F R, HO w B g C L1 D1 F ∧ XO w B P C L2 D2 R ∧ Dis F R
  b : Below B w0 w
  s : B ≤ w.heap.size
section
variable {w0 w w' : World} {B g P C : Nat} {D1 D2 D' : Int} {L1 L2 L' : List Int} {V : Int} {E : Bool}
theorem HX.below (h : HX w0 w B g P C L1 L2 D1 D2) (k : Below w.heap.size w w') : HX w0 w' B g P C L1 L2 D1 D2 := by
  obtain ⟨⟨F1, F2, h1, h2, hd⟩, b, s⟩ := h
  exact ⟨⟨F1, F2, h1.below k, h2.below k, hd⟩, b.trans (k.mono s), Nat.le_trans s k.size⟩
theorem HX.draws (h : HX w0 w B g P C L1 L2 D1 D2) (n : Nat) : HX w0 (w.drewN n) B g P C L1 L2 D1 D2 := h.below (drewN_below w n)
theorem HX.add (h : HX w0 w B g P C L1 L2 D1 D2) (x : Int) (hV : outV C x L1 = V) (hE : outB C L1 = E) (hL : kept C x L1 = L') (hD' : lost C L1 D1 = D') :
    Calls Try.prog 12 #[.pointer (some ⟨g, 0, none⟩), I x] w fun e w' => e = .returned (.tuple #[I V, .bool E]) ∧ HX w0 w' B g P C L' L2 D' D2 := by
  obtain ⟨⟨F1, F2, h1, h2, hd⟩, b, s⟩ := h
  refine (h1.add s x hV hE hL hD').mono ?_
  rintro e w' ⟨rfl, F', h', hO, hF⟩
  exact ⟨rfl, ⟨F', F2, h', h2.only hO hd.symm, hd.next hF (fun i hi => (h2.lt i hi).2)⟩, b.trans (hO.below s (fun i hi => (h1.lt i hi).1)), Nat.le_trans s hO.size⟩
theorem HX.xadd (h : HX w0 w B g P C L1 L2 D1 D2) (x : Int) (hV : outV C x L2 = V) (hE : outB C L2 = E) (hL : kept C x L2 = L') (hD' : lost C L2 D2 = D') :
    Calls Try.prog 13 #[.pointer (some ⟨P, 0, none⟩), I x] w fun e w' => e = .returned (.tuple #[I V, .bool E]) ∧ HX w0 w' B g P C L1 L' D1 D' := by
  obtain ⟨⟨F1, F2, h1, h2, hd⟩, b, s⟩ := h
  refine (h2.add s x hV hE hL hD').mono ?_
  rintro e w' ⟨rfl, F', h', hO, hF⟩
  have hPF : Dis F1 [P] := fun i hi hi2 => by
    rw [List.mem_singleton.1 hi2] at hi
    exact hd P hi h2.mem
  exact ⟨rfl, ⟨F1, F', h1.only hO hPF, h', hd.next2 hF (fun i hi => (h1.lt i hi).2)⟩, b.trans (hO.below s (fun i hi => by rw [List.mem_singleton.1 hi]; exact (h2.lt P h2.mem).1)), Nat.le_trans s hO.size⟩
theorem HX.has (h : HX w0 w B g P C L1 L2 D1 D2) (x : Int) {E : Bool} (hE : decide (x ∈ L1) = E) :
    Calls Try.prog 10 #[.pointer (some ⟨g, 0, none⟩), I x] w fun e w' => e = .returned (.bool E) ∧ w' = w := by
  obtain ⟨⟨F1, F2, h1, h2, hd⟩, b, s⟩ := h
  exact (h1.has x hE).mono fun _ _ ⟨p, q⟩ => ⟨p, q.symm⟩
theorem HX.xhas (h : HX w0 w B g P C L1 L2 D1 D2) (x : Int) {E : Bool} (hE : decide (x ∈ L2) = E) :
    Calls Try.prog 11 #[.pointer (some ⟨P, 0, none⟩), I x] w fun e w' => e = .returned (.bool E) ∧ w' = w := by
  obtain ⟨⟨F1, F2, h1, h2, hd⟩, b, s⟩ := h
  exact (h2.has x hE).mono fun _ _ ⟨p, q⟩ => ⟨p, q.symm⟩
/-- the reference's cells, and agrees at them -/
theorem HX.agrees (h : HX w0 w B g P C L1 L1 D1 D1) : ∃ A n c, w.cell? ⟨P, 0, none⟩ = some (I C) ∧ w.cell? ⟨P, 1, none⟩ = some (I D1) ∧ w.cell? ⟨P, 2, none⟩ = some (.slice A n c) ∧
    Calls Try.prog 14 #[.pointer (some ⟨g, 0, none⟩), .agg #[I C, I D1, .slice A n c]] w fun e w' => e = .returned (.bool true) ∧ HX w0 w' B g P C L1 L1 D1 D1 := by
  have h0 := h
  obtain ⟨⟨F1, F2, h1, h2, hd⟩, b, s⟩ := h
  obtain ⟨A, c, c0, c1, c2, hr⟩ := h2.cells rfl
  exact ⟨A, _, c, c0, c1, c2, (agrees_any w B g C D1 _ c L1 F1 A h1 rfl hr).mono fun _ _ ⟨p, q⟩ => ⟨p, h0.below q⟩⟩
end

set_option maxHeartbeats 2000000 in
set_option maxRecDepth 100000 in
theorem historyPlays_walk (m : Int) (l : List (Bool × Int)) (w : World) (A : Option Addr) (c : Nat) (hl : Ss w w.heap.size A l) :
    Calls Try.prog 3 #[I m, .slice A l.length c] w fun e w' => e = .returned (.bool true) ∧ Below w.heap.size w w' := by
  obtain ⟨n, hn⟩ : ∃ n, n = l.length := ⟨_, rfl⟩
  rw [← hn]
  have hnew := HO.new (B := w.heap.size) m w (Nat.le_refl _)
  have hC0 := hcap_le m
  obtain ⟨C, hCC⟩ : ∃ C, C = hcap m := ⟨_, rfl⟩
  rw [← hCC] at hnew hC0
  have HCC := Lib.hid hCC
  obtain ⟨g, hg⟩ : ∃ g, g = w.heap.size := ⟨_, rfl⟩
  have HN := Lib.hid hn
  rw [← hg] at hnew hl ⊢
  clear hg hn hCC
  go_enter Try.func3, Try.ntmps3
  go_wp2_with fail
  refine hnew.mono ?_
  rintro e w1 ⟨rfl, h1, bw1, s1⟩
  have hrn := rnew_any m w1
  rw [← HCC.out] at hrn
  clear hnew
  go_wp2_with fail
  refine hrn.mono ?_
  rintro e w2 ⟨rfl, b2⟩
  have b3 : Below w2.heap.size w2 (w2.alloc (.cells #[I C, I 0, .slice none 0 0] 27)) := (Below.refl _ w2).alloc (Nat.le_refl _) _
  have hs2 : w1.heap.size ≤ w2.heap.size := b2.size
  have hx : HX w (w2.alloc (.cells #[I C, I 0, .slice none 0 0] 27)) g g w2.heap.size C [] [] 0 0 := by
    refine ⟨⟨[g], [w2.heap.size], (h1.below b2).below b3, ⟨none, ⟨_, Cel.new w2 _ _, On.nil_ _ _ _, rfl⟩, rfl, by omega, by simp, hC0⟩, fun i hi hi2 => by simp at hi hi2; omega⟩, (bw1.trans (b2.mono (by omega))).trans (b3.mono (by omega)), by simp; omega⟩
  obtain ⟨P, hP0⟩ : ∃ P, P = w2.heap.size := ⟨_, rfl⟩
  have sx : g ≤ w2.heap.size := by omega
  have bx : Below g w (w2.alloc (.cells #[I C, I 0, .slice none 0 0] 27)) := hx.b
  clear hrn h1 b2 b3
  by_cases hbig : 600 < n
  · have t1 : decide ((600 : Int) < (n : Int)) = true := by simp; omega
    have t2 : decide (600 < n) = true := by simpa using hbig
    clear hl hbig
    go_wp2_with fail
    refine (lives_any _).mono ?_
    rintro e w4 ⟨rfl, b4⟩
    go_wp2_with fail
    go_ret
    exact ⟨rfl, bx.trans (b4.mono hx.s)⟩
  · have t1 : decide ((600 : Int) < (n : Int)) = false := by simp; omega
    have t2 : decide (600 < n) = false := by simpa using hbig
    have hn1 : n ≤ 600 := by omega
    clear hbig
    go_wp2_with fail
    rw [← hP0] at hx ⊢
    clear hP0 bx
    go_loopw [7, 8, 9, 10, 11] (fun i _ _ _ _ wr => ∃ k : Nat, k ≤ n ∧ i = .int .i64 k ∧ ∃ (L : List Int) (D : Int), HX w wr g g P C L L D D) (fun i _ _ _ _ _ => n - (intOf i).toNat)
    case atStart => exact ⟨0, Nat.zero_le _, rfl, [], 0, hx⟩
    case round =>
      obtain ⟨k, hk, rfl, L, D, q⟩ := hrel
      clear hx
      by_cases hlt : k < n
      · have hkl : k < l.length := by have := HN.out; omega
        obtain ⟨b, off, rfl, hbw, p1, p2⟩ := hl.at_ hkl
        generalize l[k] = y at p1 p2
        obtain ⟨ask, v⟩ := y
        dsimp only at p1 p2
        have hc1 := (q.b.cell (p := ⟨b, off + k * 2, none⟩) hbw).trans p1
        have hc2 := (q.b.cell (p := ⟨b, off + k * 2 + 1, none⟩) hbw).trans p2
        have P2 := Lib.hid p2
        clear p1 p2 hl
        cases ask with
        | true =>
          obtain ⟨E, hE⟩ : ∃ E, E = decide (v ∈ L) := ⟨_, rfl⟩
          have HE := Lib.hid hE
          have hz : (E != E) = false := by simp
          clear hE
          go_wp2_with fail
          go_quiet ((first
            | (go_at_call 10; exact Calls.quiet_of_same ((q.draws _).has v HE.out.symm))
            | (go_at_call 11; exact Calls.quiet_of_same ((q.draws _).xhas v HE.out.symm))))
          go_wp2_with fail
          go_roundw
          case rel => exact ⟨k + 1, hlt, by simp, L, D, q.draws _⟩
          case measure => simp [intOf]; omega
        | false =>
          obtain ⟨V, hV⟩ : ∃ V, V = outV C v L := ⟨_, rfl⟩
          obtain ⟨E, hE⟩ : ∃ E, E = outB C L := ⟨_, rfl⟩
          obtain ⟨L', hL'⟩ : ∃ L', L' = kept C v L := ⟨_, rfl⟩
          obtain ⟨D', hD'⟩ : ∃ D', D' = lost C L D := ⟨_, rfl⟩
          have hadd := q.add v hV.symm hE.symm hL'.symm hD'.symm
          have hxadd := fun (W : World) (hq : HX w W g g P C L' L D' D) => hq.xadd v hV.symm hE.symm hL'.symm hD'.symm
          have hz1 : (V != V) = false := by simp
          have hz2 : (E != E) = false := by simp
          clear hV hE hL' hD' hkl
          go_wp2_with fail
          refine hadd.mono ?_
          rintro e w3 ⟨rfl, q3⟩
          have e2 := (q3.b.cell (p := ⟨b, off + k * 2 + 1, none⟩) hbw).trans P2.out
          clear hadd q
          go_wp2_with fail
          refine (hxadd _ q3).mono ?_
          rintro e w4 ⟨rfl, q4⟩
          obtain ⟨A4, n4, c4, x0, x1, x2, hag⟩ := q4.agrees
          clear hxadd q3
          go_wp2_with fail
          refine hag.mono ?_
          rintro e w5 ⟨rfl, q5⟩
          go_wp2_with fail
          go_roundw
          case rel => exact ⟨k + 1, hlt, by simp, L', D', q5⟩
          case measure => simp [intOf]; omega
      · obtain rfl : k = n := by omega
        obtain ⟨A4, n4, c4, x0, x1, x2, hag⟩ := q.agrees
        go_wp2_with fail
        refine hag.mono ?_
        rintro e w5 ⟨rfl, q5⟩
        go_wp2_with fail
        refine (lives_any _).mono ?_
        rintro e w6 ⟨rfl, b6⟩
        go_wp2_with fail
        go_ret
        exact ⟨rfl, q5.b.trans (b6.mono q5.s)⟩
end Go.Proofs.Ytnkbilbaljdfgaa.His
