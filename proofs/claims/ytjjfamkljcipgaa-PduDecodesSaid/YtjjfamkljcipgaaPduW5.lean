/-
  Package pdu: the Writer of package octets as one state (WS); writeGaps.
-/
import Derived.Test.YtjjfamkljcipgaaPduW4
import Derived.Test.YtjjfamkljcipgaaOctW1
import Derived.Test.YtjjfamkljcipgaaHand
namespace Go.Proofs.Ytjjfamkljcipgaa.Pdu
open Go.RowKit Go.Proofs.Ytjjfamkljcipgaa.Row

/-- A leads to the bytes l, in a slice of a call's own -/
def Bo (w : World) (A : Option Addr) (l : List Byte) (n c : Nat) : Prop := Bx w A l n c ∧ ∃ s, Ow w s 5 (.slice A n c) l
theorem Bo.zero (w : World) : Bo w none [] 0 0 := ⟨Bx.zero w, 0, World.ownsRow_nil _ _ _ _⟩
theorem Bo.on {w w' : World} {A : Option Addr} {l : List Byte} {n c : Nat} (h : Bo w A l n c) (hb : Below w.heap.size w w') : Bo w' A l n c := by
  obtain ⟨h1, s, h2⟩ := h
  exact ⟨h1.later hb, s, h2.below hb⟩
/-- .. stays where a block of units' cells is written -/
theorem Bo.only {w w' : World} {A : Option Addr} {l : List Byte} {n c q : Nat} {cs : Array Value} (h : Bo w A l n c) (hq : Cel w q 29 cs) (k : Only [q] w w') : Bo w' A l n c := by
  obtain ⟨h1, s, h2⟩ := h
  have h3 := h2.only k (fun i hi => by
    have hn := h2.apart hq (by decide)
    intro hm
    simp at hm
    exact hn (hm ▸ hi))
  obtain ⟨A3, C3, e3, hB3⟩ := Bx.of h3 h1.len
  injection e3 with e31 _ e33
  subst e31 e33
  exact ⟨hB3, s, h3⟩
/-- block g is a Writer with the bytes L, made behind w0; what w0 had is as it was -/
def WS (w0 : World) (g : Nat) (L : List Byte) (w : World) : Prop := (∃ r, OW w w0.heap.size g r L) ∧ w0.heap.size ≤ g ∧ Below w0.heap.size w0 w
section
variable {w0 w w' : World} {g : Nat} {L : List Byte}
theorem WS.new (h : Below w0.heap.size w0 w) : WS w0 w.heap.size [] (w.alloc (.cells #[.bool true, .slice none 0 0] 69)) :=
  ⟨⟨none, OW_new w _⟩, h.size, h.alloc h.size _⟩
theorem WS.draws (h : WS w0 g L w) (n : Nat) : WS w0 g L (w.drewN n) := by
  obtain ⟨⟨r, h1⟩, h2, h3⟩ := h
  exact ⟨⟨r, h1.draws n⟩, h2, below_drewN h3 n⟩
theorem WS.drew (h : WS w0 g L w) : WS w0 g L w.drew := by
  obtain ⟨⟨r, h1⟩, h2, h3⟩ := h
  exact ⟨⟨r, h1.drew⟩, h2, h3.drew⟩
theorem WS.on (h : WS w0 g L w) (hb : Below w.heap.size w w') : WS w0 g L w' := by
  obtain ⟨⟨r, h1⟩, h2, h3⟩ := h
  exact ⟨⟨r, h1.below hb⟩, h2, h3.trans (hb.mono h3.size)⟩
theorem WS.bel (h : WS w0 g L w) : Below w0.heap.size w0 w := h.2.2
theorem WS.of {r : Option Nat} (h : OW w w0.heap.size g r L) (h2 : w0.heap.size ≤ g) (h3 : Below w0.heap.size w0 w) {L' : List Byte} (k : OPut w w0.heap.size g r L' w') : WS w0 g L' w' := by
  have hb := k.below h (Nat.le_refl _) h2
  obtain ⟨r', k1, _, _⟩ := k
  exact ⟨⟨r', k1⟩, h2, h3.trans hb⟩
theorem WS.uint (h : WS w0 g L w) (x : Int) (N : Nat) (hx : x = (N : Int)) (y : Int) (k : Nat) (hy : y = (k : Int)) (hk : 1 ≤ k ∧ k ≤ 8) (hL : L.length < 100000) :
    Calls Try.prog 20 #[.pointer (some ⟨g, 0, none⟩), .int .u64 x, .int .i64 y] w fun e w' => e = .returned (.pointer (some ⟨g, 0, none⟩)) ∧ WS w0 g (L ++ be N k) w' := by
  obtain ⟨⟨r, h1⟩, h2, h3⟩ := h
  subst hy
  refine (ouint_any w _ g r L x (k : Int) N hx h1 (by omega) h3.size).mono fun e w' ⟨h4, h5⟩ => ⟨h4, ?_⟩
  have e : encU N (k : Int) = be N k := by unfold encU; rw [if_pos ⟨by omega, by omega⟩]; rfl
  rw [e] at h5
  exact WS.of h1 h2 h3 h5
theorem WS.int (h : WS w0 g L w) (x : Int) (hx : -9223372036854775808 ≤ x ∧ x ≤ 9223372036854775807) (hL : L.length < 100000) :
    Calls Try.prog 21 #[.pointer (some ⟨g, 0, none⟩), .int .i64 x] w fun e w' => e = .returned (.pointer (some ⟨g, 0, none⟩)) ∧ WS w0 g (L ++ encI x) w' := by
  obtain ⟨⟨r, h1⟩, h2, h3⟩ := h
  exact (oint_any w _ g r L x h1 hx (by omega) h3.size).mono fun e w' ⟨h4, h5⟩ => ⟨h4, WS.of h1 h2 h3 h5⟩
/-- a block of another kind stays where the Writer is written -/
theorem OW.kept {r : Option Nat} {base : Nat} (h : OW w base g r L) (k : Only (g :: r.toList) w w') {q : Nat} {t : TypeId} {cs : Array Value} (hq : Cel w q t cs) (h1 : t ≠ 69) (h2 : t ≠ 5) : Cel w' q t cs := by
  obtain ⟨v, hc, ho, rfl⟩ := h
  refine hq.only k (fun hm => ?_)
  rcases List.mem_cons.1 hm with rfl | hm
  · exact hq.apart hc h1 rfl
  · simp at hm
    exact ho.apart hq (fun e => h2 e.symm) hm
theorem WS.int_k (h : WS w0 g L w) (x : Int) (hx : -9223372036854775808 ≤ x ∧ x ≤ 9223372036854775807) (hL : L.length < 100000) {q : Nat} {t : TypeId} {cs : Array Value} (hq : Cel w q t cs) (q1 : t ≠ 69) (q2 : t ≠ 5) :
    Calls Try.prog 21 #[.pointer (some ⟨g, 0, none⟩), .int .i64 x] w fun e w' => e = .returned (.pointer (some ⟨g, 0, none⟩)) ∧ WS w0 g (L ++ encI x) w' ∧ Cel w' q t cs := by
  obtain ⟨⟨r, h1⟩, h2, h3⟩ := h
  exact (oint_any w _ g r L x h1 hx (by omega) h3.size).mono fun e w' ⟨h4, h5⟩ => ⟨h4, WS.of h1 h2 h3 h5, OW.kept h1 h5.only_ hq q1 q2⟩
theorem WS.blob (h : WS w0 g L w) {A : Option Addr} {l : List Byte} {n c : Nat} (hB : Bx w0 A l n c) (hL : L.length + n < 100000) :
    Calls Try.prog 22 #[.pointer (some ⟨g, 0, none⟩), .slice A n c] w fun e w' => e = .returned (.pointer (some ⟨g, 0, none⟩)) ∧ WS w0 g (L ++ encB l) w' := by
  obtain ⟨⟨r, h1⟩, h2, h3⟩ := h
  exact (oblob_any w _ g r L w0.heap.size A l n c h1 (Lib.hid hB.len) (hB.bs.below h3) hB.nil (Nat.le_refl _) h2 (by omega) h3.size).mono fun e w' ⟨h4, h5⟩ => ⟨h4, WS.of h1 h2 h3 h5⟩
theorem WS.bytes (h : WS w0 g L w) (hL : L.length < 100000) :
    Calls Try.prog 24 #[.pointer (some ⟨g, 0, none⟩)] w fun e w' => (∃ A n c, e = .returned (.slice A n c) ∧ Bo w' A L n c) ∧ Below w.heap.size w w' := by
  obtain ⟨⟨r, h1⟩, h2, h3⟩ := h
  refine (obytes_any w _ g r L h1 (by omega)).mono fun e w' ⟨v, h4, h5, h6⟩ => ⟨?_, h6⟩
  obtain ⟨A, c, rfl, hB⟩ := Bx.of h5 (n := L.length) rfl
  exact ⟨A, _, c, h4, hB, _, h5⟩

/-! ### beside bytes in a block of the call's own -/
/-- the same, and block b holds the bytes l -/
def WB (w0 : World) (g : Nat) (L : List Byte) (b : Nat) (l : List Byte) (n c : Nat) (w : World) : Prop := (∃ r, OW w w0.heap.size g r L ∧ r ≠ some b) ∧ w0.heap.size ≤ g ∧ Below w0.heap.size w0 w ∧ Bx w (some ⟨b, 0, none⟩) l n c ∧ b ≠ g ∧ b < w.heap.size
variable {b n c : Nat} {l : List Byte}
theorem Bx.only_ {S : List Nat} (h : Bx w (some ⟨b, 0, none⟩) l n c) (k : Only S w w') (hb : b ∉ S) : Bx w' (some ⟨b, 0, none⟩) l n c := by
  refine ⟨h.len, fun hl => ?_, h.nil, h.le, h.max⟩
  obtain ⟨b', o', e, hlt, hc⟩ := h.bs hl
  injection e with e
  injection e with e1 e2
  subst e1 e2
  refine ⟨b, 0, rfl, Nat.lt_of_lt_of_le hlt k.size, fun i x hx => ?_⟩
  have h1 := hc i x hx
  have h2 := k.block b hlt hb
  unfold World.cell? at h1 ⊢
  simp only at h1 ⊢
  rw [h2]
  exact h1
theorem WB.of_conv (h : WS w0 g L w) (hB : Bx w' (some ⟨w.heap.size, 0, none⟩) l n c) (hb : Below w.heap.size w w') (hlt : w.heap.size < w'.heap.size) : WB w0 g L w.heap.size l n c w' := by
  obtain ⟨⟨r, h1⟩, h2, h3⟩ := h
  have hg := h1.lt
  refine ⟨⟨r, h1.below hb, fun e => ?_⟩, h2, h3.trans (hb.mono h3.size), hB, by omega, hlt⟩
  have := h1.row _ e
  omega
theorem WB.of {r : Option Nat} (h : OW w w0.heap.size g r L) (hr : r ≠ some b) (h2 : w0.heap.size ≤ g) (h3 : Below w0.heap.size w0 w) (hB : Bx w (some ⟨b, 0, none⟩) l n c) (hne : b ≠ g) (hlt : b < w.heap.size) {L' : List Byte} (k : OPut w w0.heap.size g r L' w') : WB w0 g L' b l n c w' := by
  have hb := k.below h (Nat.le_refl _) h2
  obtain ⟨r', k1, k2, k3⟩ := k
  have hs := k3.size
  refine ⟨⟨r', k1, ?_⟩, h2, h3.trans hb, hB.only_ k3 ?_, hne, by omega⟩
  · rcases k2 with rfl | ⟨i, rfl, hi⟩
    · exact hr
    · intro e; injection e; omega
  · intro hm
    rcases List.mem_cons.1 hm with rfl | hm
    · exact hne rfl
    · simp at hm; exact hr hm
theorem WB.ws (h : WB w0 g L b l n c w) : WS w0 g L w := by
  obtain ⟨⟨r, h1, _⟩, h2, h3, _⟩ := h
  exact ⟨⟨r, h1⟩, h2, h3⟩
theorem WB.uint (h : WB w0 g L b l n c w) (x : Int) (N : Nat) (hx : x = (N : Int)) (y : Int) (k : Nat) (hy : y = (k : Int)) (hk : 1 ≤ k ∧ k ≤ 8) (hL : L.length < 100000) :
    Calls Try.prog 20 #[.pointer (some ⟨g, 0, none⟩), .int .u64 x, .int .i64 y] w fun e w' => e = .returned (.pointer (some ⟨g, 0, none⟩)) ∧ WB w0 g (L ++ be N k) b l n c w' := by
  obtain ⟨⟨r, h1, hr⟩, h2, h3, hB, hne, hlt⟩ := h
  subst hy
  refine (ouint_any w _ g r L x (k : Int) N hx h1 (by omega) h3.size).mono fun e w' ⟨h4, h5⟩ => ⟨h4, ?_⟩
  have e : encU N (k : Int) = be N k := by unfold encU; rw [if_pos ⟨by omega, by omega⟩]; rfl
  rw [e] at h5
  exact WB.of h1 hr h2 h3 hB hne hlt h5
theorem WB.int (h : WB w0 g L b l n c w) (x : Int) (hx : -9223372036854775808 ≤ x ∧ x ≤ 9223372036854775807) (hL : L.length < 100000) :
    Calls Try.prog 21 #[.pointer (some ⟨g, 0, none⟩), .int .i64 x] w fun e w' => e = .returned (.pointer (some ⟨g, 0, none⟩)) ∧ WB w0 g (L ++ encI x) b l n c w' := by
  obtain ⟨⟨r, h1, hr⟩, h2, h3, hB, hne, hlt⟩ := h
  exact (oint_any w _ g r L x h1 hx (by omega) h3.size).mono fun e w' ⟨h4, h5⟩ => ⟨h4, WB.of h1 hr h2 h3 hB hne hlt h5⟩
theorem WB.blob (h : WB w0 g L b l n c w) (hL : L.length + n < 100000) :
    Calls Try.prog 22 #[.pointer (some ⟨g, 0, none⟩), .slice (some ⟨b, 0, none⟩) n c] w fun e w' => e = .returned (.pointer (some ⟨g, 0, none⟩)) ∧ WS w0 g (L ++ encB l) w' := by
  obtain ⟨⟨r, h1, hr⟩, h2, h3, hB, hne, hlt⟩ := h
  refine (oblob_at w _ g r L (b + 1) (some ⟨b, 0, none⟩) l n c h1 (Lib.hid hB.len) (fun w' hO => ?_) hB.nil (by omega) h3.size).mono fun e w' ⟨h4, h5⟩ => ⟨h4, WS.of h1 h2 h3 h5⟩
  have hB' := hB.only_ hO (by
    intro hm
    rcases List.mem_cons.1 hm with rfl | hm
    · exact hne rfl
    · simp at hm; exact hr hm)
  intro hl
  obtain ⟨b', o', e, _, hc⟩ := hB'.bs hl
  injection e with e
  injection e with e1 e2
  subst e1 e2
  exact ⟨b, 0, rfl, Nat.lt_succ_self _, hc⟩
end

/-! ### writeGaps -/
theorem gs_snoc : ∀ (l : List R) (x : R), gs (l ++ [x]) = gs l ++ (encI x.1 ++ encI x.2)
  | [], x => by simp [gs]
  | y :: l, x => by simp [gs, gs_snoc l x]
theorem gs_take {l : List R} {k : Nat} {x : R} (h : l[k]? = some x) : gs (l.take (k + 1)) = gs (l.take k) ++ (encI x.1 ++ encI x.2) := by
  rw [List.take_add_one, h]
  exact gs_snoc _ _
def InR (l : List R) : Prop := ∀ x ∈ l, (-9223372036854775808 ≤ x.1 ∧ x.1 ≤ 9223372036854775807) ∧ -9223372036854775808 ≤ x.2 ∧ x.2 ≤ 9223372036854775807
theorem gs_len : ∀ {l : List R}, InR l → (gs l).length ≤ l.length * 20
  | [], _ => by simp [gs]
  | x :: l, h => by
    have h1 := h x (by simp)
    have h2 := encI_len h1.1
    have h3 := encI_len h1.2
    have h4 := gs_len (l := l) (fun y hy => h y (by simp [hy]))
    simp only [gs, List.length_append, List.length_cons]
    omega
theorem InR.take {l : List R} (h : InR l) (k : Nat) : InR (l.take k) := fun x hx => h x (List.mem_of_mem_take hx)

set_option maxRecDepth 100000 in
set_option maxHeartbeats 4000000 in
theorem pwrite_any (w0 : World) (g : Nat) (L : List Byte) (G : Option Addr) (l : List R) (m c : Nat) (w : World) (h : WS w0 g L w) (hG : Gx w0 G l m c) (hin : InR l) (hm : m ≤ 16) (hL : L.length ≤ 1000) :
    Calls Try.prog 23 #[.pointer (some ⟨g, 0, none⟩), .slice G m c] w fun e w' => e = .returned (.tuple #[]) ∧ WS w0 g (L ++ (encI (m : Int) ++ gs l)) w' := by
  have hlen := hG.len
  have h1 := h.int (m : Int) (by omega) (by omega)
  obtain ⟨E, hE⟩ : ∃ E, E = L ++ (encI (m : Int) ++ gs l) := ⟨_, rfl⟩
  rw [← hE]
  have HE := Lib.hid hE
  have HI := Lib.hid hin
  have HG := Lib.hid hG
  have HL := Lib.hid (encI_len (n := (m : Int)) (by omega))
  have HN := Lib.hid hlen
  clear hE hin hG hlen
  go_enter Try.func23, Try.ntmps23
  go_wp2_with fail
  refine h1.mono ?_
  rintro e w1 ⟨rfl, s1⟩
  clear h1 h
  go_wp2
  go_loopw [5, 12] (fun _ i wr => ∃ k : Nat, k ≤ m ∧ i = .int .i64 k ∧ Hid (WS w0 g (L ++ encI (m : Int) ++ gs (l.take k)) wr)) (fun _ i _ => m - (intOf i).toNat)
  case atStart => exact ⟨0, Nat.zero_le _, rfl, Lib.hid (by simpa [gs] using s1)⟩
  case round =>
    obtain ⟨k, hk, rfl, hz⟩ := hrel
    by_cases hlt : k < m
    · obtain ⟨x, hx⟩ : ∃ x, l[k]? = some x := ⟨_, List.getElem?_eq_getElem (by rw [HN.out]; exact hlt)⟩
      have hx1 := HI.out x (List.mem_of_getElem? hx)
      obtain ⟨b, off, rfl, hbl, d0, d1⟩ := (HG.out.later hz.out.bel).at_ hx
      have hgl := gs_len (HI.out.take k)
      have hgn : (l.take k).length ≤ 16 := by rw [List.length_take]; omega
      have HT := Lib.hid (gs_take hx)
      obtain ⟨x0, x1⟩ := x
      simp only at d0 d1 hx1
      have hl2 := HL.out
      have hE1 := encI_len hx1.1
      obtain ⟨T, hT⟩ : ∃ T, T = L ++ encI (m : Int) ++ gs (l.take k) := ⟨_, rfl⟩
      have hTl : T.length ≤ 2000 := by rw [hT, List.length_append, List.length_append]; omega
      have s2 := hz.out.on (bel_new wr (.cells #[I x0, I x1] 41))
      rw [← hT] at s2
      have HT1 := Lib.hid hT
      clear hz hx hT hgl hgn hl2
      have hQ := Cel.new wr 41 #[I x0, I x1]
      have c0 := hQ.cell 0
      have c1 := hQ.cell 1
      simp only [List.getElem?_toArray, List.getElem?_cons_zero, List.getElem?_cons_succ] at c0 c1
      obtain ⟨W, hW⟩ : ∃ W, W = wr.alloc (.cells #[I x0, I x1] 41) := ⟨_, rfl⟩
      have HW := Lib.hid hW
      rw [← hW] at s2 c0 c1 hQ
      go_wp2_with fail
      rw [← hW]
      clear hW d0 d1
      refine wp_region_held_drew (S := (fun w' => w'.cell? ⟨wr.heap.size, 0, none⟩ = some (I x0) ∧ w'.cell? ⟨wr.heap.size, 1, none⟩ = some (I x1))) (by kernel_rfl) (⟨c0, c1⟩) (fun hHeld => ?_)
      refine wpAnyH_here 0 (v := ?_) rfl (by kernel_rfl) (by kernel_rfl) (by kernel_rfl) (fun _ _ _ h => h) (Or.inl ⟨by rfl, ?_⟩) hHeld ?_
      rotate_left
      · intro w hSw; (try dsimp only at hSw); go_simp; all_goals (with_reducible rfl)
      try simp only [Act.put, List.setIfInBounds_toArray, List.set_cons_zero, List.set_cons_succ]
      refine wpAnyH_here 1 (v := ?_) rfl (by kernel_rfl) (by kernel_rfl) (by kernel_rfl) (fun _ _ _ h => h) (Or.inl ⟨by rfl, ?_⟩) hHeld ?_
      rotate_left
      · intro w hSw; (try dsimp only at hSw); go_simp; all_goals (with_reducible rfl)
      try simp only [Act.put, List.setIfInBounds_toArray, List.set_cons_zero, List.set_cons_succ]
      refine wpAnyH_here 2 (v := ?_) rfl (by kernel_rfl) (by kernel_rfl) (by kernel_rfl) (fun _ _ _ h => h) (Or.inl ⟨by rfl, ?_⟩) hHeld ?_
      rotate_left
      · intro w hSw; (try dsimp only at hSw); go_simp; all_goals (with_reducible rfl)
      try simp only [Act.put, List.setIfInBounds_toArray, List.set_cons_zero, List.set_cons_succ]
      refine wpAnyH_here 4 (v := ?_) rfl (by kernel_rfl) (by kernel_rfl) (by kernel_rfl) (fun _ _ _ h => h) (Or.inl ⟨by rfl, ?_⟩) hHeld ?_
      rotate_left
      · intro w hSw; (try dsimp only at hSw); go_simp; all_goals (with_reducible rfl)
      try simp only [Act.put, List.setIfInBounds_toArray, List.set_cons_zero, List.set_cons_succ]
      refine wpAnyH_here 5 (v := ?_) rfl (by kernel_rfl) (by kernel_rfl) (by kernel_rfl) (fun _ _ _ h => h) (Or.inl ⟨by rfl, ?_⟩) hHeld ?_
      rotate_left
      · intro w hSw; (try dsimp only at hSw); go_simp; all_goals (with_reducible rfl)
      try simp only [Act.put, List.setIfInBounds_toArray, List.set_cons_zero, List.set_cons_succ]
      refine wpAnyH_alone 3 rfl (by kernel_rfl) (fun K hK => ?_)
      go_simp
      (go_at_call 21; refine (s2.drew.int_k x0 hx1.1 (by omega) (hQ.draws 1) (by decide) (by decide)).mono ?_; rintro e w2 ⟨rfl, s3, hQ2⟩)
      refine hK.out _ _ (⟨hQ2.cell 0, hQ2.cell 1⟩) (fun hHeld => ?_)
      clear hK K
      try simp only [Act.put, List.setIfInBounds_toArray, List.set_cons_zero, List.set_cons_succ]
      refine wpAnyH_alone 6 rfl (by kernel_rfl) (fun K hK => ?_)
      go_simp
      (go_at_call 21; refine (s3.int_k x1 hx1.2 (by rw [List.length_append]; omega) hQ2 (by decide) (by decide)).mono ?_; rintro e w3 ⟨rfl, s4, hQ3⟩)
      refine hK.out _ _ (⟨hQ3.cell 0, hQ3.cell 1⟩) (fun hHeld => ?_)
      clear hK K
      try simp only [Act.put, List.setIfInBounds_toArray, List.set_cons_zero, List.set_cons_succ]
      refine wpAnyH_done (by kernel_rfl) ?_ _
      go_wp2
      go_round
      case rel => exact ⟨k + 1, by omega, by go_num, Lib.hid (by rw [HT.out, ← List.append_assoc, ← HT1.out, ← List.append_assoc]; exact s4)⟩
      case measure => simp [intOf]; omega
    · have s9 := hz.out
      rw [List.take_of_length_le (by rw [HN.out]; omega)] at s9
      clear hz
      go_wp2
      go_end0
      exact ⟨rfl, by rw [HE.out, ← List.append_assoc]; exact s9⟩
end Go.Proofs.Ytjjfamkljcipgaa.Pdu
