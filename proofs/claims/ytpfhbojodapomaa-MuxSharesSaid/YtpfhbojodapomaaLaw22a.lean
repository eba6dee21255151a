/-
  The laws of layer 22: a Mux in play; the chapter's examples (alive).
-/
import Derived.Test.YtpfhbojodapomaaMuxW5
import Derived.Test.YtpfhbojodapomaaMuxMath3
import Derived.Test.YtpfhbojodapomaaLater
namespace Go.Proofs.Ytpfhbojodapomaa.Mux
open Go.RowKit Go.Proofs.Ytpfhbojodapomaa.Row Ints

/-- the Mux at block g, whose channels are those of R in some order, behind T calls; what lies below block B is as it was -/
structure PM (w0 w : World) (B g : Nat) (r : Option Nat) (R : List Ch) (T : Nat) : Prop where
  f : ∃ L, MW w B g r L ∧ L.Perm R ∧ Srt L
  G : Good R
  d : Bd T R
  b : Below B w0 w
  s : B ≤ w.heap.size
  gB : B ≤ g
section
variable {w0 w w' : World} {B g T : Nat} {r : Option Nat} {R R' : List Ch} {S : List Nat} {res : Option Int} {V : Int}
theorem PM.lt (h : PM w0 w B g r R T) : g < w.heap.size := by
  obtain ⟨L, hm, _⟩ := h.f
  exact hm.lt
theorem PM.row (h : PM w0 w B g r R T) : ∀ i, r = some i → B ≤ i ∧ i < w.heap.size ∧ i ≠ g := by
  obtain ⟨L, hm, _⟩ := h.f
  exact hm.row
theorem PM.rows (h : PM w0 w B g r R T) : ∀ x ∈ r.toList, B ≤ x := fun x hx => (h.row x (by simpa using hx)).1
/-- its row is no block of another type -/
theorem PM.ne (h : PM w0 w B g r R T) {b : Nat} {t : TypeId} {cs : Array Value} (q : Cel w b t cs) (ht : 53 ≠ t) : b ∉ r.toList := by
  obtain ⟨L, ⟨v, _, ho, rfl⟩, _⟩ := h.f
  intro hb
  exact Row.Os.apart ho q ht (by simpa using hb)
theorem PM.other (h : PM w0 w B g r R T) (k : Only S w w') (hS : ∀ x ∈ S, B ≤ x) (hg : g ∉ S) (hr : ∀ i, r = some i → i ∉ S) : PM w0 w' B g r R T := by
  obtain ⟨L, hm, h1⟩ := h.f
  exact ⟨⟨L, hm.only k hg hr, h1⟩, h.G, h.d, h.b.trans (k.below h.s hS), Nat.le_trans h.s k.size, h.gB⟩
theorem PM.below (h : PM w0 w B g r R T) (k : Below w.heap.size w w') : PM w0 w' B g r R T := h.other (Only.of_below (S := []) k) (by simp) (by simp) (by simp)
theorem PM.draws (h : PM w0 w B g r R T) (n : Nat) : PM w0 (w.drewN n) B g r R T := h.below (drewN_below w n)
theorem PM.alloc (h : PM w0 w B g r R T) (o : Obj) : PM w0 (w.alloc o) B g r R T := h.below (bel_new w o)
theorem PM.next (h : PM w0 w B g r R T) (rd : List Int) (A2 : Option Addr) (n2 c2 : Nat) (hn2 : rd.length = n2) (hrd : Ns w w.heap.size A2 rd) (hr2 : n2 ≤ 1000000) (hT : T ≤ 1000000000000) (hX : nxf rd R = (res, R')) :
    Calls Try.prog 10 #[.pointer (some ⟨g, 0, none⟩), .slice A2 n2 c2] w fun e w' => e = .returned (.tuple #[I (res.getD 0), .bool res.isSome]) ∧ PM w0 w' B g r R' (T + 1) ∧ Only r.toList w w' := by
  obtain ⟨L, hm, hp, hs⟩ := h.f
  have hG := h.G.perm hp
  refine (mnext_any w B g r L rd T A2 n2 c2 hm hG hs (h.d.perm hp) hT hn2 hrd hr2).mono ?_
  rintro e w' ⟨res', L', rfl, hN, hm', hk⟩
  have hk2 := nxf_ok (rd := rd) h.G
  rw [hX] at hk2
  obtain ⟨e1, e2⟩ := hk2.same hN.out h.G hp
  subst e1
  exact ⟨rfl, ⟨⟨L', hm', e2, hN.out.srt hs⟩, hk2.good h.G, h.d.next hk2 h.G, h.b.trans (hk.below h.s h.rows), Nat.le_trans h.s hk.size, h.gB⟩, hk⟩
theorem PM.sent (h : PM w0 w B g r R T) (i : Int) (hV : snt R i = V) :
    Calls Try.prog 11 #[.pointer (some ⟨g, 0, none⟩), .int .i64 i] w fun e w' => e = .returned (.int .i64 V) ∧ Below w.heap.size w w' := by
  obtain ⟨L, hm, hp, hs⟩ := h.f
  have x := msent_any w B g r L i hm (h.G.perm hp)
  rw [snt_perm h.G hp, hV] at x
  exact x
theorem PM.clone (h : PM w0 w B g r R T) :
    Calls Try.prog 12 #[.pointer (some ⟨g, 0, none⟩)] w fun e w' => ∃ g' r', e = .returned (.pointer (some ⟨g', 0, none⟩)) ∧ PM w0 w' B g' r' R T ∧ PM w0 w' B g r R T ∧ Below w.heap.size w w' ∧ (∀ i, r' = some i → w.heap.size ≤ i) ∧ w.heap.size ≤ g' := by
  obtain ⟨L, hm, hp, hs⟩ := h.f
  have h8 := (h.G.perm hp).len
  refine (mclone_any w B g r L hm (by omega)).mono ?_
  rintro e w' ⟨g', r', rfl, hg', hm', hb⟩
  exact ⟨g', r', rfl, ⟨⟨L, hm'.more h.s, hp, hs⟩, h.G, h.d, h.b.trans (hb.mono h.s), Nat.le_trans h.s hb.size, Nat.le_trans h.s hg'⟩, h.below hb, hb, fun i hi => (hm'.row i hi).1, hg'⟩
end
theorem new_ok (l : List Ch) (w : World) (A : Option Addr) (n c : Nat) (hln : l.length = n) (hr : Rs encA 3 w w.heap.size A l) (hl : n ≤ 1000000) (hz : Hid (∀ x ∈ l, x.cr = 0 ∧ x.sn = 0)) (h0 : chk [] l = 0) :
    Calls Try.prog 8 #[.slice A n c] w fun e w' => ∃ g r, e = .returned (.tuple #[.pointer (some ⟨g, 0, none⟩), .int .i64 0]) ∧ PM w w' w.heap.size g r l 0 := by
  refine (mnew_any l w A n c hln hr hl hz).mono ?_
  rintro e w' ⟨hb, ⟨h1, _⟩ | ⟨_, g, r, L, rfl, hg, hm, hp, hs⟩⟩
  · exact absurd h0 h1
  · exact ⟨g, r, rfl, ⟨L, hm, hp, hs⟩, by have := chk_good (l := l) (s := []) ⟨by simp, by simp [ids]⟩ h0; simpa using this, fun x hx => by have := hz.out x hx; omega, hb, hb.size, hg⟩
theorem new_bad (l : List Ch) (w : World) (A : Option Addr) (n c : Nat) (hln : l.length = n) (hr : Rs encA 3 w w.heap.size A l) (hl : n ≤ 1000000) (hz : Hid (∀ x ∈ l, x.cr = 0 ∧ x.sn = 0)) (h0 : chk [] l ≠ 0) :
    Calls Try.prog 8 #[.slice A n c] w fun e w' => e = .returned (.tuple #[.pointer none, .int .i64 (chk [] l)]) ∧ Below w.heap.size w w' := by
  refine (mnew_any l w A n c hln hr hl hz).mono ?_
  rintro e w' ⟨hb, ⟨_, rfl⟩ | ⟨h1, _⟩⟩
  · exact ⟨rfl, hb⟩
  · exact absurd h1 h0

/-! ### alive -/
def liveL : List Ch := [⟨0, 3, 5, 0, 0⟩, ⟨1, 3, 1, 0, 0⟩, ⟨2, 3, 1, 0, 0⟩, ⟨4, 1, 1, 0, 0⟩]
def liveS : Nat → List Ch
  | 0 => liveL
  | i + 1 => (nxf [2, 1, 0] (liveS i)).2
def liveW : List Int := [0, 0, 1, 0, 2, 0, 0]
theorem live_at : ∀ i : Nat, i < 7 → (nxf [2, 1, 0] (liveS i)).1 = some (liveW.getD i 0)
  | 0, _ => by decide
  | 1, _ => by decide
  | 2, _ => by decide
  | 3, _ => by decide
  | 4, _ => by decide
  | 5, _ => by decide
  | 6, _ => by decide
  | n + 7, h => by omega
theorem live_cell : ∀ i : Nat, i < 7 → (liveW.map I).toArray[i]? = some (I (liveW.getD i 0))
  | 0, _ => rfl
  | 1, _ => rfl
  | 2, _ => rfl
  | 3, _ => rfl
  | 4, _ => rfl
  | 5, _ => rfl
  | 6, _ => rfl
  | n + 7, h => by omega
theorem live_chk : chk [] liveL = 0 := by decide
set_option maxRecDepth 100000 in
set_option maxHeartbeats 4000000 in
theorem alive_any (w : World) : Calls Try.prog 7 #[] w fun e w' => e = .returned (.bool true) ∧ Below w.heap.size w w' := by
  obtain ⟨w1, hw1⟩ : ∃ w1, w1 = w.alloc (.cells #[I 0, I 3, I 5, I 1, I 3, I 1, I 2, I 3, I 1, I 4, I 1, I 1] 42) := ⟨_, rfl⟩
  have hr : Rs encA 3 w1 w1.heap.size (some ⟨w.heap.size, 0, none⟩) liveL := by
    rw [hw1]
    exact Rs_new encA_ok w _ liveL _ rfl _ (by simp)
  have b1 : Below w.heap.size w w1 := by rw [hw1]; exact bel_new _ _
  have x1 := new_ok liveL w1 (some ⟨w.heap.size, 0, none⟩) 4 4 rfl hr (by omega) (Lib.hid (by simp [liveL])) live_chk
  clear hr
  go_enter Try.func7, Try.ntmps7
  go_wp2_with fail
  rw [← hw1]
  clear hw1
  refine x1.mono ?_
  rintro e w2 ⟨g, r, rfl, p2⟩
  clear x1
  obtain ⟨B, hB⟩ : ∃ B, B = w1.heap.size := ⟨_, rfl⟩
  rw [← hB] at p2
  have hwB : w.heap.size ≤ B := by rw [hB]; exact b1.size
  clear hB
  obtain ⟨w3, hw3⟩ : ∃ w3, w3 = w2.alloc (.cells #[I 0, I 0, I 1, I 0, I 2, I 0, I 0] 3) := ⟨_, rfl⟩
  have q3 : Cel w3 w2.heap.size 3 (liveW.map I).toArray := by rw [hw3]; exact Cel.new _ _ _
  have p3 : PM w1 w3 B g r liveL 0 := by rw [hw3]; exact p2.alloc _
  go_wp2_with fail
  rw [← hw3]
  clear hw3
  go_loopw [4, 5, 6] (fun i _ _ wr => ∃ k : Nat, k ≤ 7 ∧ i = .int .i64 k ∧ PM w1 wr B g r (liveS k) k ∧ Cel wr w2.heap.size 3 (liveW.map I).toArray) (fun i _ _ _ => 7 - (intOf i).toNat)
  case atStart => exact ⟨0, by omega, rfl, p3, q3⟩
  case round =>
    obtain ⟨k, hk, rfl, p4, q4⟩ := hrel
    by_cases hlt : k < 7
    · have hres := live_at k hlt
      obtain ⟨X, hX⟩ : ∃ X, X = liveW.getD k 0 := ⟨_, rfl⟩
      rw [← hX] at hres
      have hnx : nxf [2, 1, 0] (liveS k) = (some X, liveS (k + 1)) := Prod.ext hres rfl
      obtain ⟨W1, hW1⟩ : ∃ W1, W1 = wr.alloc (.cells #[I 2, I 1, I 0] 3) := ⟨_, rfl⟩
      have p5 : PM w1 W1 B g r (liveS k) k := by rw [hW1]; exact p4.alloc _
      have hrd : Ns W1 W1.heap.size (some ⟨wr.heap.size, 0, none⟩) [2, 1, 0] := by rw [hW1]; exact Ns_new wr _ [2, 1, 0] _ rfl _ (by simp)
      have q6 : Cel W1 w2.heap.size 3 (liveW.map I).toArray := by rw [hW1]; exact q4.only (Only.of_below (S := []) (bel_new _ _)) (by simp)
      have hcon := p5.next [2, 1, 0] _ 3 3 rfl hrd (by omega) (by omega) hnx
      have hout := p5.ne q6 (by decide)
      have hcell := live_cell k hlt
      rw [← hX] at hcell
      clear hX hres hnx p4 q4 hrd
      go_wp2_with fail
      rw [← hW1]
      clear hW1
      refine hcon.mono ?_
      rintro e W2 ⟨rfl, p6, hk6⟩
      have q7 := q6.only hk6 hout
      have q8 : W2.cell? ⟨w2.heap.size, k, none⟩ = some (I X) := (q7.cell k).trans hcell
      have hXX : (X != X) = false := by simp
      clear hcon hcell q6 hk6
      go_wp2_with fail
      go_roundw
      case rel => exact ⟨k + 1, hlt, by simp, p6, q7⟩
      case measure => simp [intOf]; omega
    · obtain rfl : k = 7 := by omega
      have hn1 : nxf [0, 4] (liveS 7) = (some 4, (nxf [0, 4] (liveS 7)).2) := Prod.ext (by decide) rfl
      obtain ⟨R8, hR8⟩ : ∃ R8, R8 = (nxf [0, 4] (liveS 7)).2 := ⟨_, rfl⟩
      have hn2 : nxf [7] R8 = (none, (nxf [7] R8).2) := Prod.ext (by rw [hR8]; decide) rfl
      obtain ⟨R9, hR9⟩ : ∃ R9, R9 = (nxf [7] R8).2 := ⟨_, rfl⟩
      have hs0 : snt R9 0 = 5 := by rw [hR9, hR8]; decide
      have hs4 : snt R9 4 = 1 := by rw [hR9, hR8]; decide
      rw [← hR8] at hn1
      rw [← hR9] at hn2
      clear hR8 hR9
      obtain ⟨W1, hW1⟩ : ∃ W1, W1 = wr.alloc (.cells #[I 0, I 4] 3) := ⟨_, rfl⟩
      have p5 : PM w1 W1 B g r (liveS 7) 7 := by rw [hW1]; exact p4.alloc _
      have hrd : Ns W1 W1.heap.size (some ⟨wr.heap.size, 0, none⟩) [0, 4] := by rw [hW1]; exact Ns_new wr _ [0, 4] _ rfl _ (by simp)
      have hcon := p5.next [0, 4] _ 2 2 rfl hrd (by omega) (by omega) hn1
      clear hn1 p4 q4 hrd
      go_wp2_with fail
      rw [← hW1]
      clear hW1
      refine hcon.mono ?_
      rintro e W2 ⟨rfl, p6, _⟩
      clear hcon
      obtain ⟨W3, hW3⟩ : ∃ W3, W3 = W2.alloc (.cells #[I 7] 3) := ⟨_, rfl⟩
      have p7 : PM w1 W3 B g r R8 8 := by rw [hW3]; exact p6.alloc _
      have hrd : Ns W3 W3.heap.size (some ⟨W2.heap.size, 0, none⟩) [7] := by rw [hW3]; exact Ns_new W2 _ [7] _ rfl _ (by simp)
      have hcon := p7.next [7] _ 1 1 rfl hrd (by omega) (by omega) hn2
      clear hn2 p6 hrd
      go_wp2_with fail
      rw [← hW3]
      clear hW3
      refine hcon.mono ?_
      rintro e W4 ⟨rfl, p8, _⟩
      clear hcon
      go_wp2_with fail
      refine (p8.sent 0 hs0).mono ?_
      rintro e W5 ⟨rfl, hb5⟩
      have p9 := p8.below hb5
      go_wp2_with fail
      refine (p9.sent 4 hs4).mono ?_
      rintro e W6 ⟨rfl, hb6⟩
      have p10 := p9.below hb6
      go_wp2_with fail
      go_ret
      exact ⟨rfl, b1.trans (p10.b.mono hwB)⟩
end Go.Proofs.Ytpfhbojodapomaa.Mux
