/-
  Package link: Clone.
-/
import Derived.Test.YtllhdgllgoanbaaLnkW5
namespace Go.Proofs.Ytllhdgllgoanbaa.Lnk
open Go.RowKit Go.Proofs.Ytllhdgllgoanbaa.Row
open Rng (R)
open Lst (Qb)

theorem set_mid {α : Type} {a b : List α} {x y : α} {k : Nat} (h : a.length = k) (hb : b[0]? = some x) : (a ++ b).set k y = (a ++ [y]) ++ b.drop 1 := by
  cases b with
  | nil => cases hb
  | cons z b =>
    subst h
    rw [List.set_append_right _ _ (Nat.le_refl _), Nat.sub_self, List.set_cons_zero, List.append_assoc]
    rfl
section
variable {c : Cf} {Ao Al Af : Option Addr} {no co nl cl nf cf base g : Nat} {w : World} {v : Value} {ts : List Tq} {s : LS}
/-- a new Link whose row is being cloned: k elements are done -/
structure Cln (w0 w : World) (gc : Nat) (v : Value) (k : Nat) (ts : List Tq) (c : Cf) (s : LS) (Ao : Option Addr) (no co : Nat) (Al : Option Addr) (nl cl : Nat) (Af : Option Addr) (nf cf : Nat) : Prop where
  cel : Cel w gc 61 #[.bool true, I c.dl, .slice Ao no co, .slice Al nl cl, .slice Af nf cf, I s.tm, I (s.sn : Int), v]
  bel : Below w0.heap.size w0 w
  ge : w0.heap.size ≤ gc
  row : ∃ ts1 : List Tq, ts1.length = k ∧ ts1.map Tq.p = (ts.take k).map Tq.p ∧ Row.Os encT 2 w w0.heap.size 71 v (ts1 ++ ts.drop k) ∧ ∀ t ∈ ts1, Dq w t.q.l t.q.a t.q.c
theorem Os_at2 {w2 : World} {B gr k n p : Nat} {A2 : Option Addr} {l : List Tq} {x : Tq} (o2 : Row.Os encT 2 w2 B 71 (.slice A2 n p) l) (hv : (Value.slice A2 n p).ownBlock = some gr) (hx : l[k]? = some x) : w2.cell? ⟨gr, k * 2 + 1, none⟩ = some (.slice x.q.a x.q.l.length x.q.c) := by
  obtain ⟨g0, cap, e3, _⟩ := Row.Os.row o2 (by have := (List.getElem?_eq_some_iff.1 hx).1; omega)
  injection e3 with e3 e4 e5
  subst e3 e4
  injection hv with hv
  have hv : g0 = gr := hv
  subst hv
  obtain ⟨b2, off, e, _, hc⟩ := (o2.rs encT_ok) (by have := (List.getElem?_eq_some_iff.1 hx).1; omega)
  cases e
  have := hc k x hx 1 _ rfl
  rwa [Nat.zero_add] at this
theorem Cln.at_ {w0 : World} {gc gr k n p : Nat} {A2 : Option Addr} {x : Tq} (h : Cln w0 w gc (.slice A2 n p) k ts c s Ao no co Al nl cl Af nf cf) (hk : ts[k]? = some x) (hv : (Value.slice A2 n p).ownBlock = some gr) : w.cell? ⟨gr, k * 2 + 1, none⟩ = some (.slice x.q.a x.q.l.length x.q.c) := by
  obtain ⟨h1, h2, h3, ts1, h4, h5, h6, h7⟩ := h
  refine Os_at2 h6 hv ?_
  rw [List.getElem?_append_right (by omega), h4, Nat.sub_self, List.getElem?_drop]
  exact hk
theorem Cln.next {w0 w2 : World} {B0 gc gr k n c' : Nat} {A' : Option Addr} {x : Tq} (h : Cln w0 w gc v k ts c s Ao no co Al nl cl Af nf cf) (b : Below w.heap.size w w2) (hk : ts[k]? = some x) (hn : x.q.l.length = n) (o : Ow w2 B0 5 (.slice A' n c') x.q.l) (hv : v.ownBlock = some gr) :
    Cel w2 gc 61 #[.bool true, I c.dl, .slice Ao no co, .slice Al nl cl, .slice Af nf cf, I s.tm, I (s.sn : Int), v] ∧ Cln w0 (w2.setCell ⟨gr, k * 2 + 1, none⟩ (.slice A' n c')) gc v (k + 1) ts c s Ao no co Al nl cl Af nf cf ∧ w2.cell? ⟨gr, k * 2 + 1, none⟩ = some (.slice x.q.a n x.q.c) ∧ w2.frozen? ⟨gr, k * 2 + 1, none⟩ = false ∧ gr ≠ gc := by
  obtain ⟨h1, h2, h3, ts1, h4, h5, h6, h7⟩ := h
  subst hn
  have c2 := Cel.on h1 b
  have o2 := Row.Os.below h6 b
  obtain ⟨cs, hcel⟩ := Lst.own_cel o2 hv
  have hne : gr ≠ gc := fun e => Row.Os.apart o2 c2 (by decide) (by rw [hv, e])
  have hge := (Row.Os.lt o2 gr hv).1
  have k9 : Only [gr] w2 (w2.setCell ⟨gr, k * 2 + 1, none⟩ (.slice A' x.q.l.length c')) := (Only.refl _ _).put (.inl (by simp)) _
  have q9 : Kq w2 (w2.setCell ⟨gr, k * 2 + 1, none⟩ (.slice A' x.q.l.length c')) := .of_only k9 (fun y hy => by rw [List.mem_singleton.1 hy]; exact not_fx hcel (by decide))
  have hx0 : (ts.drop k)[0]? = some x := by rw [List.getElem?_drop]; exact hk
  have hx : (ts1 ++ ts.drop k)[k]? = some x := by rw [List.getElem?_append_right (by omega), h4, Nat.sub_self]; exact hx0
  have hkl := (List.getElem?_eq_some_iff.1 hk).1
  refine ⟨c2, ⟨c2.only k9 (by simpa using fun e => hne e.symm), h2.trans ((b.mono h2.size).trans (k9.below (Nat.le_trans h2.size b.size) (by simpa using hge))), h3, ts1 ++ [⟨x.at_, ⟨x.q.l, A', c'⟩⟩], by simp [h4], ?_, ?_, ?_⟩, ?_, hcel.free _, hne⟩
  · rw [List.take_add_one, hk, List.map_append, List.map_append, h5]; rfl
  · have := Row.Os.set_ encT_ok (x' := ⟨x.at_, ⟨x.q.l, A', c'⟩⟩) (j := 1) o2 hv hx rfl (by decide)
    rw [set_mid h4 hx0, List.drop_drop] at this
    exact this
  · intro t ht
    rcases List.mem_append.1 ht with ht | ht
    · exact ((h7 t ht).keep (Kq.of_below b)).keep q9
    · rw [List.mem_singleton.1 ht]
      exact (Dq.own o).keep q9
  · obtain ⟨A2, p2, rfl, _⟩ := o2.reads encT_ok
    exact Os_at2 o2 hv hx
set_option maxHeartbeats 4000000 in
set_option maxRecDepth 100000 in
theorem clone_c (h : LC w base g v ts c s Ao no co Al nl cl Af nf cf) {N : Nat} (hs : s.Ok N) (hN : N ≤ 100000) :
    Calls Try.prog 16 #[.pointer (some ⟨g, 0, none⟩)] w fun e w' => ∃ g', e = .returned (.pointer (some ⟨g', 0, none⟩)) ∧ w.heap.size ≤ g' ∧ (∃ r', LW w' w.heap.size g' r' c s) ∧ Below w.heap.size w w' := by
  have hlM : ts.length ≤ 100000 := by have := h.len; have := hs.n; have := hs.w; omega
  have HD := Lib.hid (fun (x : Tq) (hx : x ∈ ts) => (show x.q.l.length ≤ 1000000 from hs.d x.p (by rw [← h.tp]; exact List.mem_map_of_mem hx)))
  have hw := h.works
  obtain ⟨M, hM⟩ : ∃ M, M = ts.length := ⟨_, rfl⟩
  obtain ⟨A, cw, rfl, hr, hnil, hle, hmx⟩ := h.os.reads_len encT_ok hM.symm
  have C0 := h.cel
  have c0 := C0.cell 0
  have c1 := C0.cell 1
  have c2 := C0.cell 2
  have c3 := C0.cell 3
  have c4 := C0.cell 4
  have c5 := C0.cell 5
  have c6 := C0.cell 6
  have c7 := C0.cell 7
  simp at c0 c1 c2 c3 c4 c5 c6 c7
  obtain ⟨dl, hdl⟩ : ∃ dl, dl = c.dl := ⟨_, rfl⟩
  obtain ⟨tm, htm⟩ : ∃ tm, tm = s.tm := ⟨_, rfl⟩
  obtain ⟨sn, hsn⟩ : ∃ sn, sn = s.sn := ⟨_, rfl⟩
  rw [← hdl] at c1
  rw [← htm] at c5
  rw [← hsn] at c6
  obtain ⟨w1, hw1⟩ : ∃ w1, w1 = w.alloc (.cells #[.bool true, I dl, .slice Ao no co, .slice Al nl cl, .slice Af nf cf, I tm, I (sn : Int), .slice A M cw] 61) := ⟨_, rfl⟩
  have b1 : Below w.heap.size w w1 := by rw [hw1]; exact bel_new _ _
  have X1 : Cel w1 w.heap.size 61 #[.bool true, I dl, .slice Ao no co, .slice Al nl cl, .slice Af nf cf, I tm, I (sn : Int), .slice A M cw] := by rw [hw1]; exact Cel.new _ _ _
  have hs1 : w1.heap.size = w.heap.size + 1 := by rw [hw1]; simp
  have H := Lib.hid h
  have hcl := tclone_any ts M w1 A cw ⟨(h.below b1).os.rs encT_ok, hM.symm, hnil, hle, hmx⟩ (by omega)
  have d7 : w1.cell? ⟨g, 7, none⟩ = some (.slice A M cw) := (b1.cell (p := ⟨g, 7, none⟩) h.cel.lt).trans c7
  have hne : g ≠ w.heap.size := by have := h.cel.lt; omega
  have HM := Lib.hid hM
  have HC := Lib.hid (And.intro hdl (And.intro htm hsn))
  have HS1 := Lib.hid hs1
  have hM2 : M ≤ 100000 := by omega
  clear hs hN h C0 hM hr hnil hle hmx hdl htm hsn hs1 hlM
  go_enter Try.func16, Try.ntmps16
  go_wp2_with fail
  refine hw.mono ?_
  rintro e w0 ⟨rfl, rfl⟩
  have d7' : (w.alloc (.cells #[.bool true, I dl, .slice Ao no co, .slice Al nl cl, .slice Af nf cf, I tm, I (sn : Int), .slice A M cw] 61)).cell? ⟨g, 7, none⟩ = some (.slice A M cw) := by rw [← hw1]; exact d7
  go_wp2_with fail
  rw [← hw1]
  clear hw1 d7' d7 c0 c1 c2 c3 c4 c5 c6 c7 hw
  refine hcl.mono ?_
  rintro e w2 ⟨v2, rfl, o2, b2⟩
  obtain ⟨A2, p2, rfl, _⟩ := o2.reads_len encT_ok HM.out.symm
  have X2 := Cel.on X1 b2
  have f7 := X2.free 7
  have e7 := X2.cell 7
  simp at e7
  have k3 : Only [w.heap.size] w2 (w2.setCell ⟨w.heap.size, 7, none⟩ (.slice A2 M p2)) := (Only.refl _ _).put (.inl (by simp)) _
  have B2 := b1.trans (b2.mono b1.size)
  have X3 := X2.put 7 (.slice A2 M p2)
  have n7 := X3.cell 7
  simp at n7
  have hgr : ∀ i, (Value.slice A2 M p2).ownBlock = some i → i ∉ [w.heap.size] := fun i hi hm => by
    have := (o2.lt i hi).1
    have := HS1.out
    rw [List.mem_singleton.1 hm] at *
    omega
  have hst : Hid (Cln w (w2.setCell ⟨w.heap.size, 7, none⟩ (.slice A2 M p2)) w.heap.size (.slice A2 M p2) 0 ts c s Ao no co Al nl cl Af nf cf) := Lib.hid ⟨by rw [← HC.out.1, ← HC.out.2.1, ← HC.out.2.2]; exact X3, B2.trans (k3.below B2.size (by simp)), Nat.le_refl _, [], rfl, rfl, ((Row.Os.only o2 k3 hgr).more (by have := HS1.out; omega)), (fun t ht => nomatch ht)⟩
  clear hcl X1 b1 b2 B2 o2 X2 k3 X3 hgr
  go_wp2_with fail
  go_loopw [4, 20] (fun _ iv wr => ∃ k : Nat, iv = .int .i64 (k : Int) ∧ k ≤ M ∧ Hid (Cln w wr w.heap.size (.slice A2 M p2) k ts c s Ao no co Al nl cl Af nf cf)) (fun _ iv _ => M - (intOf iv).toNat)
  case atStart => exact ⟨0, rfl, Nat.zero_le _, hst⟩
  case round =>
    obtain ⟨k, rfl, hk, HL⟩ := hrel
    clear n7 e7 f7 hst
    by_cases hkn : k < M
    · have hkl : k < ts.length := by rw [← HM.out]; exact hkn
      have hx := List.getElem?_eq_getElem hkl
      have hdq := (H.out.dq _ (List.getElem_mem hkl)).keep (Kq.of_below HL.out.bel)
      obtain ⟨x, hxx⟩ : ∃ x, x = ts[k] := ⟨_, rfl⟩
      rw [← hxx] at hx hdq
      obtain ⟨nq', hnq⟩ : ∃ nq', x.q.l.length = nq' := ⟨_, rfl⟩
      obtain ⟨gr, hA⟩ : ∃ gr, A2 = some ⟨gr, 0, none⟩ := by
        obtain ⟨ts1, e1, _, e3, _⟩ := HL.out.row
        obtain ⟨gr, cp, e4, _⟩ := Row.Os.row e3 (by rw [List.length_append, List.length_drop]; omega)
        injection e4 with e4
        exact ⟨gr, e4⟩
      subst hA
      have n7 := HL.out.cel.cell 7
      simp at n7
      have hdq2 := hdq.keep (Kq.of_below (drewN_below wr 1))
      have hcb := clone_any x.q.a x.q.l nq' x.q.c (wr.drewN 1) (Lib.hid hnq) hdq2.bs hdq2.n (by have := HD.out x (List.mem_of_getElem? hx); omega)
      have HX := Lib.hid hx
      have HN := Lib.hid hnq
      have z8 := HL.out.at_ hx (gr := gr) rfl
      rw [hnq] at z8
      clear hdq hdq2 hx hnq hxx hkl
      go_wp2_with fail
      refine wp_region_held_drew (S := (fun w' => w'.cell? ⟨w.heap.size, 7, none⟩ = some (.slice (some ⟨gr, 0, none⟩) M p2))) (by kernel_rfl) (n7) (fun hHeld => ?_)
      refine wpAnyH_here 0 (v := ?_) rfl (by kernel_rfl) (by kernel_rfl) (by kernel_rfl) (fun _ _ _ h => h) (Or.inl ⟨by rfl, ?_⟩) hHeld ?_
      rotate_left
      · intro w hSw; (try dsimp only at hSw); go_simp; all_goals (with_reducible rfl)
      try simp only [Act.put, List.setIfInBounds_toArray, List.set_cons_zero, List.set_cons_succ]
      refine wpAnyH_here 1 (v := ?_) rfl (by kernel_rfl) (by kernel_rfl) (by kernel_rfl) (fun _ _ _ h => h) (Or.inl ⟨by rfl, ?_⟩) hHeld ?_
      rotate_left
      · intro w hSw; (try dsimp only at hSw); go_simp; all_goals (with_reducible rfl)
      try simp only [Act.put, List.setIfInBounds_toArray, List.set_cons_zero, List.set_cons_succ]
      refine wpAnyH_here 2 (v := ?_) rfl (by kernel_rfl) (by kernel_rfl) (by kernel_rfl) (fun _ _ _ h => h) (Or.inl ⟨by rfl, ?_⟩) hHeld ?_
      rotate_left
      · intro w hSw; (try dsimp only at hSw); go_simp; all_goals (with_reducible rfl)
      try simp only [Act.put, List.setIfInBounds_toArray, List.set_cons_zero, List.set_cons_succ]
      refine wpAnyH_here 3 (v := ?_) rfl (by kernel_rfl) (by kernel_rfl) (by kernel_rfl) (fun _ _ _ h => h) (Or.inl ⟨by rfl, ?_⟩) hHeld ?_
      rotate_left
      · intro w hSw; (try dsimp only at hSw); go_simp; all_goals (with_reducible rfl)
      try simp only [Act.put, List.setIfInBounds_toArray, List.set_cons_zero, List.set_cons_succ]
      refine wpAnyH_here 4 (v := ?_) rfl (by kernel_rfl) (by kernel_rfl) (by kernel_rfl) (fun _ _ _ h => h) (Or.inl ⟨by rfl, ?_⟩) hHeld ?_
      rotate_left
      · intro w hSw; (try dsimp only at hSw); go_simp; all_goals (with_reducible rfl)
      try simp only [Act.put, List.setIfInBounds_toArray, List.set_cons_zero, List.set_cons_succ]
      refine wpAnyH_here 5 (v := ?_) rfl (by kernel_rfl) (by kernel_rfl) (by kernel_rfl) (fun _ _ _ h => h) (Or.inl ⟨by rfl, ?_⟩) hHeld ?_
      rotate_left
      · intro w hSw; (try dsimp only at hSw); go_simp; all_goals (with_reducible rfl)
      try simp only [Act.put, List.setIfInBounds_toArray, List.set_cons_zero, List.set_cons_succ]
      refine wpAnyH_here 6 (v := ?_) rfl (by kernel_rfl) (by kernel_rfl) (by kernel_rfl) (fun _ _ _ h => h) (Or.inl ⟨by rfl, ?_⟩) hHeld ?_
      rotate_left
      · intro w hSw; (try dsimp only at hSw); go_simp; all_goals (with_reducible rfl)
      try simp only [Act.put, List.setIfInBounds_toArray, List.set_cons_zero, List.set_cons_succ]
      refine wpAnyH_here 7 (v := ?_) rfl (by kernel_rfl) (by kernel_rfl) (by kernel_rfl) (fun _ _ _ h => h) (Or.inl ⟨by rfl, ?_⟩) hHeld ?_
      rotate_left
      · intro w hSw; (try dsimp only at hSw); go_simp; all_goals (with_reducible rfl)
      try simp only [Act.put, List.setIfInBounds_toArray, List.set_cons_zero, List.set_cons_succ]
      refine wpAnyH_alone 8 rfl (by kernel_rfl) (fun K hK => ?_)
      go_simp
      skip
      refine hK.out _ _ (n7) (fun hHeld => ?_)
      clear hK K
      try simp only [Act.put, List.setIfInBounds_toArray, List.set_cons_zero, List.set_cons_succ]
      refine wpAnyH_alone 9 rfl (by kernel_rfl) (fun K hK => ?_)
      go_simp
      refine hcb.mono ?_; rintro e w5 ⟨v5, rfl, o5, b5⟩; obtain ⟨A5, p5, rfl, _⟩ := o5.reads_len HN.out; have hnx := HL.out.next ((drewN_below wr 1).trans b5) HX.out HN.out o5 (gr := gr) rfl; have m7 := hnx.1.cell 7; simp at m7; have q7 := hnx.2.2.1; have q8 := hnx.2.2.2.1; have m8 : (w5.setCell ⟨gr, k * 2 + 1, none⟩ (.slice A5 nq' p5)).cell? ⟨w.heap.size, 7, none⟩ = some (.slice (some ⟨gr, 0, none⟩) M p2) := (by have := hnx.2.1.cel.cell 7; simpa using this); have HF := Lib.hid hnx.2.1; clear hnx
      refine hK.out _ _ (m7) (fun hHeld => ?_)
      clear hK K
      try simp only [Act.put, List.setIfInBounds_toArray, List.set_cons_zero, List.set_cons_succ]
      refine wpAnyH_here 10 (v := ?_) rfl (by kernel_rfl) (by kernel_rfl) (by kernel_rfl) (fun _ _ _ h => h) (Or.inl ⟨by rfl, ?_⟩) hHeld ?_
      rotate_left
      · intro w hSw; (try dsimp only at hSw); go_simp; all_goals (with_reducible rfl)
      try simp only [Act.put, List.setIfInBounds_toArray, List.set_cons_zero, List.set_cons_succ]
      refine wpAnyH_here 11 (v := ?_) rfl (by kernel_rfl) (by kernel_rfl) (by kernel_rfl) (fun _ _ _ h => h) (Or.inl ⟨by rfl, ?_⟩) hHeld ?_
      rotate_left
      · intro w hSw; (try dsimp only at hSw); go_simp; all_goals (with_reducible rfl)
      try simp only [Act.put, List.setIfInBounds_toArray, List.set_cons_zero, List.set_cons_succ]
      refine wpAnyH_alone 12 rfl (by kernel_rfl) (fun K hK => ?_)
      go_simp
      skip
      refine hK.out _ _ (m8) (fun hHeld => ?_)
      clear hK K
      try simp only [Act.put, List.setIfInBounds_toArray, List.set_cons_zero, List.set_cons_succ]
      refine wpAnyH_done (by kernel_rfl) ?_ _
      go_wp2
      go_roundw
      case rel => exact ⟨k + 1, by go_num, hkn, HF⟩
      case measure => simp [intOf]; omega
    · obtain rfl : k = M := by omega
      have HF : Hid (LW wr w.heap.size w.heap.size (Value.slice A2 k p2).ownBlock c s) := by
        obtain ⟨h1, h2, h3, ts1, h4, h5, h6, h7⟩ := HL.out
        have hq := Kq.of_below h2
        rw [List.drop_of_length_le (by have := HM.out; omega), List.append_nil] at h6
        rw [List.take_of_length_le (by have := HM.out; omega)] at h5
        exact Lib.hid ⟨_, ts1, Ao, no, co, Al, nl, cl, Af, nf, cf, ⟨h1, H.out.ch.keep hq, h6, by rw [h5, H.out.tp], h7, H.out.ok⟩, rfl⟩
      go_wp2
      go_ret
      exact ⟨_, rfl, Nat.le_refl _, ⟨_, HF.out⟩, HL.out.bel⟩
end
end Go.Proofs.Ytllhdgllgoanbaa.Lnk
