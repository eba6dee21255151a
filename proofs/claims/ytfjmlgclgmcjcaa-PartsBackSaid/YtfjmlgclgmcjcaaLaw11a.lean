/-
  The laws of layer 11: a Joiner in play; alive; PartsNil.
-/
import Derived.Test.YtfjmlgclgmcjcaaParSq
import Derived.Test.YtfjmlgclgmcjcaaParW4
import Derived.Test.YtfjmlgclgmcjcaaHand
import Derived.Lib.SlBytesConst
namespace Go.Proofs.Ytfjmlgclgmcjcaa.Par
open Go.RowKit Go.Proofs.Ytfjmlgclgmcjcaa.Row
open Pac (Pk bel_new Cel.later Cel.within)

/-- a Joiner in play: none of its blocks lies below B, and what lies below B is as it was -/
structure JP (B : Nat) (w0 w : World) (g : Nat) (s : JS) : Prop where
  jo : ∃ v, Jo w g v s ∧ ∀ x ∈ blk g v, B ≤ x
  be : Below B w0 w

section
variable {B : Nat} {w0 w w' : World} {g : Nat} {s : JS}
theorem JP.below (h : JP B w0 w g s) (hB : B ≤ w.heap.size) (k : Below w.heap.size w w') : JP B w0 w' g s := by
  obtain ⟨v, h1, h2⟩ := h.jo
  exact ⟨⟨v, h1.below k, h2⟩, h.be.trans (k.mono hB)⟩
theorem JP.drew (h : JP B w0 w g s) : JP B w0 w.drew g s := by
  obtain ⟨v, h1, h2⟩ := h.jo
  exact ⟨⟨v, h1.below ⟨rfl, rfl, rfl, Nat.le_refl _, fun _ _ => rfl⟩, h2⟩, h.be.trans ⟨rfl, rfl, rfl, Nat.le_refl _, fun _ _ => rfl⟩⟩
theorem JP.new (n : Int) (hn : n ≤ 9223372036854775807) (be : Below B w0 w) (hB : B ≤ w.heap.size) :
    Calls Try.prog 13 #[.int .i64 n] w fun e w' => e = .returned (.pointer (some ⟨w.heap.size, 0, none⟩)) ∧ JP B w0 w' w.heap.size ⟨max n 0, [], 0, 0⟩ := by
  refine (newJoiner_any n w).mono ?_
  rintro e w' ⟨rfl, rfl⟩
  exact ⟨rfl, ⟨_, Jo_new n w hn, fun x hx => by simp [blk, Value.ownBlock] at hx; omega⟩, be.trans ((bel_new w _).mono hB)⟩
theorem JP.take (h : JP B w0 w g s) (hB : B ≤ w.heap.size) {p : Pk} {a : Option Addr} {c n : Nat} (hn : p.d.length = n) (hd : Dt w w.heap.size p.d a c) (h47 : s.msg.length + p.d.length ≤ 1000000) {b : Bool} {e' : Int} {M : List Byte} {s' : JS} (hb : tkB s p = b) (he : tkE s p = e') (hM : tkM s p = M) (hs : tkS s p = s') :
    Calls Try.prog 16 #[.pointer (some ⟨g, 0, none⟩), .agg #[.bool p.com, .bool p.sec, .int .i64 p.ap, .int .i64 p.fl, .int .i64 p.ct, .slice a n c]] w fun e w' =>
      ∃ m, e = .returned (.tuple #[m, .bool b, .int .i64 e']) ∧ Ow w' 0 5 m M ∧ JP B w0 w' g s' ∧ w.heap.size ≤ w'.heap.size := by
  subst hn hb he hM hs
  obtain ⟨v, h1, h2⟩ := h.jo
  refine (take_any w g v s p a c h1 hd h47).mono ?_
  rintro e w' ⟨m, v', rfl, o, j, k, hx⟩
  exact ⟨m, rfl, o, ⟨⟨v', j, fun x hxm => by rcases hx x hxm with h | h; exact h2 x h; omega⟩, h.be.trans (k.below hB h2)⟩, k.size⟩
theorem JP.pending (h : JP B w0 w g s) {n : Nat} (hn : s.msg.length = n) :
    Calls Try.prog 18 #[.pointer (some ⟨g, 0, none⟩)] w fun e w' => e = .returned (.int .i64 (n : Int)) ∧ w = w' := by
  subst hn
  obtain ⟨v, h1, _⟩ := h.jo
  exact pending_any w g v s h1
theorem JP.clone (h : JP B w0 w g s) (hB : B ≤ w.heap.size) (h47 : s.msg.length ≤ 1000000) :
    Calls Try.prog 15 #[.pointer (some ⟨g, 0, none⟩)] w fun e w' => ∃ q, e = .returned (.pointer (some ⟨q, 0, none⟩)) ∧ JP B w0 w' q s ∧ JP B w0 w' g s ∧ w.heap.size ≤ w'.heap.size := by
  obtain ⟨v, h1, h2⟩ := h.jo
  refine (jclone_any w g v s h1 h47).mono ?_
  rintro e w' ⟨q, v', rfl, j, hx, k⟩
  exact ⟨q, rfl, ⟨⟨v', j, fun x hxm => by have := hx x hxm; omega⟩, h.be.trans (k.mono hB)⟩, h.below hB k, k.size⟩
end

/-- a packet in memory: its six cells, and its data below block B -/
structure PkAt (B : Nat) (w : World) (b o : Nat) (p : Pk) (n : Nat) (a : Option Addr) (c : Nat) : Prop where
  k : b < B
  c0 : w.cell? ⟨b, o, none⟩ = some (.bool p.com)
  c1 : w.cell? ⟨b, o + 1, none⟩ = some (.bool p.sec)
  c2 : w.cell? ⟨b, o + 2, none⟩ = some (.int .i64 p.ap)
  c3 : w.cell? ⟨b, o + 3, none⟩ = some (.int .i64 p.fl)
  c4 : w.cell? ⟨b, o + 4, none⟩ = some (.int .i64 p.ct)
  c5 : w.cell? ⟨b, o + 5, none⟩ = some (.slice a n c)
  d : Dt w B p.d a c
theorem PkAt.below {B : Nat} {w w' : World} {b o : Nat} {p : Pk} {n : Nat} {a : Option Addr} {c : Nat} (h : PkAt B w b o p n a c) (k : Below B w w') : PkAt B w' b o p n a c :=
  ⟨h.k, (k.cell h.k).trans h.c0, (k.cell h.k).trans h.c1, (k.cell h.k).trans h.c2, (k.cell h.k).trans h.c3, (k.cell h.k).trans h.c4, (k.cell h.k).trans h.c5, h.d.below k⟩
theorem PS.pk {B : Nat} {w : World} {b off : Nat} {ps : List Pk} (h : PS w B (some ⟨b, off, none⟩) ps) {i : Nat} {p : Pk} (hp : ps[i]? = some p) {n : Nat} (hn : p.d.length = n) {o : Nat} (ho : off + i * 6 = o) : ∃ a c, PkAt B w b o p n a c := by
  subst hn ho
  obtain ⟨b', off', a, c, e, hb, h0, h1, h2, h3, h4, h5, hd⟩ := h.at_ hp
  cases e
  exact ⟨a, c, hb, h0, h1, h2, h3, h4, h5, hd⟩

theorem spP_len_le (p : Pk) (d : List Byte) (most : Int) : (spP p d most).length ≤ d.length := by
  unfold spP
  split
  · rename_i h
    have := spOk_iff.1 h
    rw [spl_len]
    exact num_le (by omega)
  · simp
def P0 : Pk := ⟨false, false, 7, 1, 16383, [97#8, 98#8]⟩
def P1 : Pk := ⟨false, false, 7, 0, 0, [99#8, 100#8]⟩
def P2 : Pk := ⟨false, false, 7, 2, 1, [101#8]⟩
set_option maxRecDepth 100000 in
set_option maxHeartbeats 8000000 in
theorem alive11_any (w : World) : Calls Try.prog 9 #[] w fun e w' => e = .returned (.bool true) ∧ Below w.heap.size w w' := by
  have a1 : spP ⟨false, false, 7, 0, 16383, []⟩ [97#8, 98#8, 99#8, 100#8, 101#8] 2 = [P0, P1, P2] := by kernel_rfl
  have a2 : spE ⟨false, false, 7, 0, 16383, []⟩ 5 2 = 0 := by kernel_rfl
  have b1 := bel_new w (.cells #[.int .u8 97, .int .u8 98, .int .u8 99, .int .u8 100, .int .u8 101] 5 (5, 6))
  have kc := fun (w : World) (C : Array Value) (n c : Nat) => Lib.run_convert_bytes_const (P := Try.prog) w 22 5 C n c Try.underlying22 Try.underlying5
  have x1 := split_any ⟨false, false, 7, 0, 16383, []⟩ none 0 0 [97#8, 98#8, 99#8, 100#8, 101#8] (some ⟨w.heap.size, 0, none⟩) 5 2 (w.alloc (.cells #[.int .u8 97, .int .u8 98, .int .u8 99, .int .u8 100, .int .u8 101] 5 (5, 6))) ⟨Bs_new _ _ _ _ (by simp) _ (by simp) _, (fun h => nomatch h), by decide, by decide⟩ (by decide)
  rw [show ([97#8, 98#8, 99#8, 100#8, 101#8] : List Byte).length = 5 from rfl, a1, a2] at x1
  rw [show ([P0, P1, P2] : List Pk).length = 3 from rfl] at x1
  clear a1 a2
  go_enter Try.func9, Try.ntmps9
  go_wp2_with fail
  refine x1.mono ?_
  rintro e w1 ⟨A1, c1, rfl, hps, h1⟩
  have bel1 := b1.trans (h1.mono b1.size)
  obtain ⟨b, off, a0, c0, rfl, _⟩ := hps.at_ (i := 0) rfl
  obtain ⟨a0, c0, k0⟩ := hps.pk (i := 0) (p := P0) rfl (n := 2) rfl (o := off) (by omega)
  obtain ⟨a1, c1', k1⟩ := hps.pk (i := 1) (p := P1) rfl (n := 2) rfl (o := off + 6) (by omega)
  obtain ⟨a2, c2, k2⟩ := hps.pk (i := 2) (p := P2) rfl (n := 1) rfl (o := off + 12) (by omega)
  clear x1 h1 b1 hps kc
  have hnew := JP.new (B := w1.heap.size) (w0 := w1) (w := w1) 9 (by decide) (Below.refl _ _) (Nat.le_refl _)
  go_wp2_with fail
  refine hnew.mono ?_
  rintro e w2 ⟨rfl, j2⟩
  clear hnew
  have t2 := (j2.take (p := P0) (n := 2) (a := a0) (c := c0) j2.be.size rfl ((k0.below j2.be).d.more j2.be.size) (by decide) (b := false) (e' := 0) (M := []) (s' := ⟨9, [97#8, 98#8], 7, 16383⟩) (by kernel_rfl) (by kernel_rfl) (by kernel_rfl) (by kernel_rfl))
  obtain ⟨_, q0, q1, q2, q3, q4, q5, _⟩ := k0.below j2.be
  unfold P0 at q0 q1 q2 q3 q4 t2
  simp only at q0 q1 q2 q3 q4 t2
  try simp at q0 q1 q2 q3 q4 q5
  clear j2
  go_wp2_with fail
  refine t2.mono ?_
  rintro e w3 ⟨m3, rfl, o3, j3, _⟩
  obtain ⟨A3, v3, rfl, r3, n3, _⟩ := o3.reads_len (n := 0) rfl
  clear q0 q1 q2 q3 q4 q5 t2
  have t3 := (j3.take (p := P2) (n := 1) (a := a2) (c := c2) j3.be.size rfl ((k2.below j3.be).d.more j3.be.size) (by decide) (b := false) (e' := 4) (M := []) (s' := ⟨9, [], 7, 16383⟩) (by kernel_rfl) (by kernel_rfl) (by kernel_rfl) (by kernel_rfl))
  obtain ⟨_, q0, q1, q2, q3, q4, q5, _⟩ := k2.below j3.be
  unfold P2 at q0 q1 q2 q3 q4 t3
  simp only at q0 q1 q2 q3 q4 t3
  try simp at q0 q1 q2 q3 q4 q5
  clear j3
  go_wp2_with fail
  refine t3.mono ?_
  rintro e w4 ⟨m4, rfl, o4, j4, _⟩
  obtain ⟨A4, v4, rfl, r4, n4, _⟩ := o4.reads_len (n := 0) rfl
  clear q0 q1 q2 q3 q4 q5 t3
  have hp4 := j4.pending (n := 0) rfl
  go_wp2_with fail
  refine hp4.mono ?_
  rintro e w5 ⟨rfl, rfl⟩
  have j5 := j4
  clear hp4 j4
  have t5 := (j5.take (p := P0) (n := 2) (a := a0) (c := c0) j5.be.size rfl ((k0.below j5.be).d.more j5.be.size) (by decide) (b := false) (e' := 0) (M := []) (s' := ⟨9, [97#8, 98#8], 7, 16383⟩) (by kernel_rfl) (by kernel_rfl) (by kernel_rfl) (by kernel_rfl))
  obtain ⟨_, q0, q1, q2, q3, q4, q5, _⟩ := k0.below j5.be
  unfold P0 at q0 q1 q2 q3 q4 t5
  simp only at q0 q1 q2 q3 q4 t5
  try simp at q0 q1 q2 q3 q4 q5
  clear j5
  go_wp2_with fail
  refine t5.mono ?_
  rintro e w6 ⟨m6, rfl, o6, j6, _⟩
  obtain ⟨A6, v6, rfl, r6, n6, _⟩ := o6.reads_len (n := 0) rfl
  clear q0 q1 q2 q3 q4 q5 t5
  have t6 := (j6.take (p := P1) (n := 2) (a := a1) (c := c1') j6.be.size rfl ((k1.below j6.be).d.more j6.be.size) (by decide) (b := false) (e' := 0) (M := []) (s' := ⟨9, [97#8, 98#8, 99#8, 100#8], 7, 0⟩) (by kernel_rfl) (by kernel_rfl) (by kernel_rfl) (by kernel_rfl))
  obtain ⟨_, q0, q1, q2, q3, q4, q5, _⟩ := k1.below j6.be
  unfold P1 at q0 q1 q2 q3 q4 t6
  simp only at q0 q1 q2 q3 q4 t6
  try simp at q0 q1 q2 q3 q4 q5
  clear j6
  go_wp2_with fail
  refine t6.mono ?_
  rintro e w7 ⟨m7, rfl, o7, j7, _⟩
  obtain ⟨A7, v7, rfl, r7, n7, _⟩ := o7.reads_len (n := 0) rfl
  clear q0 q1 q2 q3 q4 q5 t6
  have t7 := (j7.take (p := P2) (n := 1) (a := a2) (c := c2) j7.be.size rfl ((k2.below j7.be).d.more j7.be.size) (by decide) (b := true) (e' := 0) (M := [97#8, 98#8, 99#8, 100#8, 101#8]) (s' := ⟨9, [], 7, 0⟩) (by kernel_rfl) (by kernel_rfl) (by kernel_rfl) (by kernel_rfl))
  obtain ⟨_, q0, q1, q2, q3, q4, q5, _⟩ := k2.below j7.be
  unfold P2 at q0 q1 q2 q3 q4 t7
  simp only at q0 q1 q2 q3 q4 t7
  try simp at q0 q1 q2 q3 q4 q5
  clear j7
  go_wp2_with fail
  refine t7.mono ?_
  rintro e w8 ⟨m8, rfl, o8, j8, _⟩
  obtain ⟨A8, v8, rfl, r8, n8, _⟩ := o8.reads_len (n := 5) rfl
  clear q0 q1 q2 q3 q4 q5 t7
  have s1 := run_str (P := Try.prog) w8 is_bytes Try.underlying9 r8 n8
  simp only [List.length_cons, List.length_nil, Nat.zero_add, Nat.reduceAdd] at s1
  have e1 : ((str [97#8, 98#8, 99#8, 100#8, 101#8]).toList == [97, 98, 99, 100, 101]) = true := by decide +kernel
  obtain ⟨_, _, _, _, u3, _, _, _⟩ := k0.below j8.be
  obtain ⟨_, _, _, _, g3, g4, _, _⟩ := k1.below j8.be
  obtain ⟨_, _, _, _, h3, h4, _, _⟩ := k2.below j8.be
  unfold P0 at u3
  unfold P1 at g3 g4
  unfold P2 at h3 h4
  simp at u3 g3 g4 h3 h4
  have bel8 := bel1.trans (j8.be.mono bel1.size)
  clear j8 k0 k1 k2 bel1
  go_wp2
  go_ret
  exact ⟨rfl, bel8⟩
end Go.Proofs.Ytfjmlgclgmcjcaa.Par
