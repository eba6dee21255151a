/-
  Package queue: Push, Remove, Peek, Pop.
-/
import Derived.Test.YtnnjmlpanbbanaaQueW2
namespace Go.Proofs.Ytnnjmlpanbbanaa.Rng.Que
open Go.RowKit Go.Shelf

/-- what a call that writes leaves: the Queue with the entries L; of the old blocks the Queue's own alone may have turned -/
def QPut (w : World) (base g : Nat) (r : Option Nat) (cap : Nat) (L : List R) (wr : World) : Prop :=
  ∃ r', QW wr base g r' cap L ∧ (r' = r ∨ ∃ i, r' = some i ∧ w.heap.size ≤ i) ∧ Only (g :: r.toList) w wr
theorem QPut.of_below {w w' : World} {base g cap : Nat} {r : Option Nat} {L : List R} (h : QW w base g r cap L) (hb : Below w.heap.size w w') : QPut w base g r cap L w' := ⟨r, h.below hb, .inl rfl, Only.of_below hb⟩
theorem put_close {w wr w2 : World} {base g cap : Nat} {r : Option Nat} {L0 L : List R} {v v2 : Value} (hc : Cel wr g 56 #[.bool true, I cap, v]) (ho1 : Os wr base 61 v L0)
    (hv : v.ownBlock = r) (hO : Only [] w wr) (ho2 : Os w2 base 61 v2 L) (hk : Only v.ownBlock.toList wr w2)
    (hv2 : v2.ownBlock = v.ownBlock ∨ ∃ i, v2.ownBlock = some i ∧ wr.heap.size ≤ i) (hl : L.length ≤ cap) (h2 : cap ≤ 256) : QPut w base g r cap L (w2.setCell ⟨g, 2, none⟩ v2) := by
  have hne := own_apart ho1 hc (by decide)
  have hc2 : Cel w2 g 56 #[.bool true, I cap, v] := hc.only hk (by simpa using hne)
  have hne2 : v2.ownBlock ≠ some g := own_apart ho2 hc2 (by decide)
  have hs := hO.size
  refine ⟨v2.ownBlock, ⟨v2, ?_, ownsRow_setCell_other ho2 (a := ⟨g, 2, none⟩) hne2 _, rfl, hl, h2⟩, ?_, ?_⟩
  · have := hc2.put 2 v2
    simpa using this
  · rcases hv2 with h | ⟨i, h, hi⟩
    · rw [h]; exact .inl hv
    · exact .inr ⟨i, h, by omega⟩
  · refine (((hO.more (by simp)).trans hk ?_).put (p := ⟨g, 2, none⟩) (.inl (by simp)) _)
    intro x hx
    rw [hv] at hx
    exact .inl (List.mem_cons_of_mem _ hx)


theorem fnd_has {i r : Int} {L : List R} (h : Fnd (fun x => x.2 == i) L r) :
    (r = -1 ∧ hasI i L = false) ∨ ∃ (A : List R) (x : R) (B : List R), L = A ++ x :: B ∧ r = A.length ∧ hasI i L = true ∧ rm i L = A ++ B := by
  rcases h with ⟨h1, h2⟩ | ⟨A, x, B, h1, h2, h3, h4⟩
  · exact .inl ⟨h1, hasI_false.2 fun y hy => by simpa using h2 y hy⟩
  · refine .inr ⟨A, x, B, h1, h2, ?_, ?_⟩
    · exact hasI_iff.2 ⟨x, by rw [h1]; simp, by simpa using h3⟩
    · rw [h1]; exact rm_split (fun y hy => by simpa using h4 y hy) (by simpa using h3)

set_option maxHeartbeats 2000000 in
theorem qpush_any (p i : Int) (w : World) (base g cap : Nat) (r : Option Nat) (L : List R) (h : QW w base g r cap L) (hb : base ≤ w.heap.size) :
    Calls Try.prog 11 #[.pointer (some ⟨g, 0, none⟩), I p, I i] w fun e w' => e = .returned (I (pushE cap (p, i) L)) ∧ QPut w base g r cap (pushed cap (p, i) L) w' := by
  have hw := qOk w base g cap r L h
  have hfd := qfind_any w base g cap r L i h
  have hlen := h.len
  have h0 := h
  obtain ⟨v, hc, ho, hvr, _⟩ := h
  obtain ⟨A, c, rfl, hr, hn, _, _⟩ := ho.reads
  clear hr
  obtain ⟨E, hE⟩ : ∃ E, E = pushE cap (p, i) L := ⟨_, rfl⟩
  obtain ⟨F, hF⟩ : ∃ F, F = pushed cap (p, i) L := ⟨_, rfl⟩
  rw [← hE, ← hF]
  unfold pushE at hE
  unfold pushed at hF
  dsimp only at hE hF
  have HE := Lib.hid hE
  have HF := Lib.hid hF
  clear hE hF
  go_enter Try.func11, Try.ntmps11
  go_wp2_with fail
  refine hw.mono ?_
  rintro e w1 ⟨rfl, rfl⟩
  go_wp2_with fail
  refine hfd.mono ?_
  rintro e w3 ⟨q, rfl, hf, hb3⟩
  have hc3 : Cel w3 g 56 #[.bool true, I cap, .slice A L.length c] := (hb3.block _ hc.lt).trans hc
  have ho3 := ho.below hb3
  have hO3 : Only [] w w3 := Only.of_below hb3
  have hsz := hb3.size
  have c1 : w3.cell? ⟨g, 1, none⟩ = some (I cap) := hc3.cell 1
  have c2 : w3.cell? ⟨g, 2, none⟩ = some (.slice A L.length c) := hc3.cell 2
  clear hw hfd hc ho
  rcases fnd_has hf.out with ⟨rfl, hno⟩ | ⟨FA, z, FB, hsp, rfl, hhas, _⟩
  · rw [hno] at HE HF
    by_cases hfull : cap ≤ L.length
    · have hE2 : E = 7 := by rw [HE.out]; simp [hfull]
      have hF2 : F = L := by rw [HF.out]; simp [hfull]
      subst hE2
      subst hF2
      have d1 : decide ((cap : Int) ≤ (F.length : Int)) = true := by simpa using hfull
      have d2 : decide (cap ≤ F.length) = true := by simpa using hfull
      have HFu := Lib.hid hfull
      clear hno HE HF hf hfull
      go_wp2_with fail
      go_quiet (fail)
      go_wp2_with fail
      go_ret
      exact ⟨rfl, ((QPut.of_below h0 (hb3.trans (drewN_below _ _))))⟩
    · have hE2 : E = 0 := by rw [HE.out]; simp [hfull]
      have hF2 : F = ins (p, i) L := by rw [HF.out]; simp [hfull]
      subst hE2
      have HF2 := Lib.hid hF2
      have d1 : decide ((cap : Int) ≤ (L.length : Int)) = false := by simpa using hfull
      have d2 : decide (cap ≤ L.length) = false := by simpa using hfull
      have hFl : F.length ≤ cap := by rw [hF2, ins_length]; omega
      have hll : L.length ≤ 10000 := by omega
      have hcap := hlen.2
      clear hno HE HF hf hF2 hfull hlen
      go_wp2_with fail
      go_quiet (fail)
      go_wp2_with fail
      refine (insert_any (p, i) L _ base (.slice A L.length c) (ho3.draws _) (by simp; omega) hll).mono ?_
      rintro e w4 ⟨v4, rfl, ho4, hv4, hO4⟩
      have hne := own_apart ho3 hc3 (by decide)
      have hc4 : Cel w4 g 56 #[.bool true, I cap, .slice A L.length c] := (hc3.draws _).only hO4 (by simpa using hne)
      have c24 : w4.cell? ⟨g, 2, none⟩ = some (.slice A L.length c) := hc4.cell 2
      have f24 : w4.frozen? ⟨g, 2, none⟩ = false := hc4.free 2
      rw [← HF2.out] at ho4
      obtain ⟨A4, c4, rfl, _, _, _, _⟩ := ho4.reads
      have hfin := put_close (w := w) (hc3.draws _) (ho3.draws _) hvr (hO3.draws _) ho4 hO4 (by simpa using hv4) hFl hcap
      clear hc4 hc3 ho3 HF2
      go_wp2_with fail
      go_ret
      exact ⟨rfl, hfin⟩
  · rw [hhas] at HE HF
    have hE2 : E = 9 := by rw [HE.out]; simp
    have hF2 : F = L := by rw [HF.out]; simp
    subst hE2
    subst hF2
    obtain ⟨K, hK⟩ : ∃ K, K = FA.length := ⟨_, rfl⟩
    rw [← hK]
    clear hhas HE HF hf hsp hK
    go_wp2_with fail
    go_ret
    exact ⟨rfl, QPut.of_below h0 hb3⟩

set_option maxHeartbeats 2000000 in
theorem qremove_any (i : Int) (w : World) (base g cap : Nat) (r : Option Nat) (L : List R) (h : QW w base g r cap L) :
    Calls Try.prog 15 #[.pointer (some ⟨g, 0, none⟩), I i] w fun e w' => e = .returned (.bool (hasI i L)) ∧ QPut w base g r cap (rm i L) w' := by
  have hw := qOk w base g cap r L h
  have hfd := qfind_any w base g cap r L i h
  have hlen := h.len
  have h0 := h
  obtain ⟨v, hc, ho, hvr, _⟩ := h
  obtain ⟨A, c, rfl, hr, hn, _, _⟩ := ho.reads
  clear hr
  obtain ⟨E, hE⟩ : ∃ E, E = hasI i L := ⟨_, rfl⟩
  obtain ⟨F, hF⟩ : ∃ F, F = rm i L := ⟨_, rfl⟩
  rw [← hE, ← hF]
  have HE := Lib.hid hE
  have HF := Lib.hid hF
  clear hE hF
  go_enter Try.func15, Try.ntmps15
  go_wp2_with fail
  refine hw.mono ?_
  rintro e w1 ⟨rfl, rfl⟩
  go_wp2_with fail
  refine hfd.mono ?_
  rintro e w3 ⟨q, rfl, hf, hb3⟩
  have hc3 : Cel w3 g 56 #[.bool true, I cap, .slice A L.length c] := (hb3.block _ hc.lt).trans hc
  have ho3 := ho.below hb3
  have hO3 : Only [] w w3 := Only.of_below hb3
  have hsz := hb3.size
  have c2 : w3.cell? ⟨g, 2, none⟩ = some (.slice A L.length c) := hc3.cell 2
  clear hw hfd hc ho
  rcases fnd_has hf.out with ⟨rfl, hno⟩ | ⟨FA, z, FB, hsp, rfl, hhas, hrm⟩
  · have hE2 : E = false := by rw [HE.out]; exact hno
    have hF2 : F = L := by rw [HF.out]; exact rm_none hno
    subst hE2
    subst hF2
    clear hno HE HF hf
    go_wp2_with fail
    go_ret
    exact ⟨rfl, QPut.of_below h0 hb3⟩
  · have hE2 : E = true := by rw [HE.out]; exact hhas
    have hF2 : F = FA ++ FB := by rw [HF.out]; exact hrm
    subst hE2
    have HF2 := Lib.hid hF2
    have hFl : F.length ≤ cap := by rw [hF2]; have := hlen.1; rw [hsp] at this; simp at this ⊢; omega
    have hcap := hlen.2
    have hdel := fun (W : World) (hO : Os W base 61 (.slice A L.length c) (FA ++ z :: FB)) => delete_any FA z FB W base (.slice A L.length c) FA.length (FA.length + 1) rfl rfl hO (by rw [← hsp]; omega)
    have ho3' : Os w3 base 61 (.slice A L.length c) (FA ++ z :: FB) := by rw [← hsp]; exact ho3
    have hK1 : FA.length ≤ 256 := by have := hlen.1; rw [hsp] at this; simp at this; omega
    obtain ⟨K, hK⟩ : ∃ K, K = FA.length := ⟨_, rfl⟩
    rw [← hK] at hdel hK1 ⊢
    clear hhas hrm HE HF hf hsp hF2 hlen hK
    go_wp2_with fail
    refine (hdel _ ho3').mono ?_
    rintro e w4 ⟨v4, rfl, ho4, hv4, hO4⟩
    have hne := own_apart ho3 hc3 (by decide)
    have hc4 : Cel w4 g 56 #[.bool true, I cap, .slice A L.length c] := hc3.only hO4 (by simpa using hne)
    have c24 : w4.cell? ⟨g, 2, none⟩ = some (.slice A L.length c) := hc4.cell 2
    have f24 : w4.frozen? ⟨g, 2, none⟩ = false := hc4.free 2
    rw [← HF2.out] at ho4
    obtain ⟨A4, c4, rfl, _, _, _, _⟩ := ho4.reads
    have hfin := put_close (w := w) hc3 ho3 hvr hO3 ho4 hO4 (.inl hv4) hFl hcap
    clear hc4 hc3 ho3 HF2 hdel ho3'
    go_wp2_with fail
    go_ret
    exact ⟨rfl, hfin⟩

set_option maxHeartbeats 1000000 in
theorem qpeek_any (w : World) (base g cap : Nat) (r : Option Nat) (L : List R) (h : QW w base g r cap L) :
    Calls Try.prog 18 #[.pointer (some ⟨g, 0, none⟩)] w fun e w' => e = .returned (.tuple #[I (hdI L), .bool (okI L)]) ∧ w = w' := by
  have hl := qlen_any w base g cap r L h
  have hlen := h.len
  obtain ⟨v, hc, ho, hvr, _⟩ := h
  obtain ⟨A, c, rfl, hr, hn, _, _⟩ := ho.reads
  have c2 : w.cell? ⟨g, 2, none⟩ = some (.slice A L.length c) := hc.cell 2
  clear hc ho
  cases L with
  | nil =>
    go_enter Try.func18, Try.ntmps18
    go_wp2_with (go_at_call 20; refine hl.mono ?_; rintro e w1 ⟨rfl, rfl⟩)
    go_ret2
    exact ⟨rfl, rfl⟩
  | cons y L =>
    obtain ⟨b, off, rfl, hb, hc1, hc2⟩ := hr.at_ (k := 0) (by simp)
    obtain ⟨p, q⟩ := y
    simp at hc1 hc2
    have hh : hdI ((p, q) :: L) = q := rfl
    have ho : okI ((p, q) :: L) = true := by simp [okI]
    rw [hh, ho]
    obtain ⟨n, hn⟩ : ∃ n, n = ((p, q) :: L).length := ⟨_, rfl⟩
    rw [← hn] at hl c2
    have hn0 : 0 < n := by rw [hn]; simp
    have hn1 : ¬ (n : Int) = 0 := by omega
    have hn2 : n ≠ 0 := by omega
    clear hn hr hh ho hlen
    go_enter Try.func18, Try.ntmps18
    go_wp2_with (go_at_call 20; refine hl.mono ?_; rintro e w1 ⟨rfl, rfl⟩)
    go_ret2
    exact ⟨rfl, rfl⟩

set_option maxHeartbeats 1000000 in
theorem qpop_any (w : World) (base g cap : Nat) (r : Option Nat) (L : List R) (h : QW w base g r cap L) :
    Calls Try.prog 13 #[.pointer (some ⟨g, 0, none⟩)] w fun e w' => e = .returned (.tuple #[I (hdI L), .bool (okI L)]) ∧ QPut w base g r cap L.tail w' := by
  have hp := qpeek_any w base g cap r L h
  have hlen := h.len
  have h0 := h
  obtain ⟨v, hc, ho, hvr, _⟩ := h
  obtain ⟨A, c, rfl, hr, hn, _, _⟩ := ho.reads
  clear hr
  have c2 : w.cell? ⟨g, 2, none⟩ = some (.slice A L.length c) := hc.cell 2
  cases L with
  | nil =>
    clear hc ho
    go_enter Try.func13, Try.ntmps13
    go_wp2_with (go_at_call 18; refine hp.mono ?_; rintro e w1 ⟨rfl, rfl⟩)
    go_ret2
    exact ⟨rfl, QPut.of_below h0 (Below.refl _ _)⟩
  | cons y L =>
    have ho1 : okI (y :: L) = true := by simp [okI]
    rw [ho1] at hp ⊢
    obtain ⟨H, hH⟩ : ∃ H, H = hdI (y :: L) := ⟨_, rfl⟩
    rw [← hH] at hp ⊢
    have hdel := delete_any [] y L w base (.slice A (y :: L).length c) 0 1 rfl rfl ho (by have := hlen; simp at this ⊢; omega)
    have hFl : L.length ≤ cap := by have := hlen.1; simp at this; omega
    have hcap := hlen.2
    rw [List.tail_cons]
    obtain ⟨n, hn⟩ : ∃ n, n = (y :: L).length := ⟨_, rfl⟩
    rw [← hn] at hdel hc ho c2 hvr
    clear hn hH hlen
    go_enter Try.func13, Try.ntmps13
    go_wp2_with fail
    refine hp.mono ?_
    rintro e w1 ⟨rfl, rfl⟩
    go_wp2_with fail
    refine hdel.mono ?_
    rintro e w4 ⟨v4, rfl, ho4, hv4, hO4⟩
    have hne := own_apart ho hc (by decide)
    have hc4 : Cel w4 g 56 #[.bool true, I cap, .slice A n c] := hc.only hO4 (by simpa using hne)
    have c24 : w4.cell? ⟨g, 2, none⟩ = some (.slice A n c) := hc4.cell 2
    have f24 : w4.frozen? ⟨g, 2, none⟩ = false := hc4.free 2
    obtain ⟨A4, c4, rfl, _, _, _, _⟩ := ho4.reads
    have hfin := put_close (w := w) hc ho hvr (Only.refl _ _) ho4 hO4 (.inl hv4) hFl hcap
    clear hc4 hdel
    go_wp2_with fail
    go_ret2
    exact ⟨rfl, hfin⟩
end Go.Proofs.Ytnnjmlpanbbanaa.Rng.Que
