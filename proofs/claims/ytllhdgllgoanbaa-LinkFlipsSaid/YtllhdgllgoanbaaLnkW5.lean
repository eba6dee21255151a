/-
  Package link: Receive.
-/
import Derived.Test.YtllhdgllgoanbaaLnkW4
import Derived.Test.YtllhdgllgoanbaaLnkDel
namespace Go.Proofs.Ytllhdgllgoanbaa.Lnk
open Go.RowKit Go.Proofs.Ytllhdgllgoanbaa.Row
open Rng (R)
open Lst (Qb)

section
variable {c : Cf} {Ao Al Af : Option Addr} {no co nl cl nf cf base g : Nat} {w : World} {v : Value} {ts : List Tq} {s : LS}
/-- what the Delete and the store of Receive leave -/
theorem LC.rcvd {w6 : World} {k : Nat} {t : Int} {n : Nat} {wt : List (Int × List Byte)} {v7 : Value} (h : LC w base g v ts c ⟨t, n, wt⟩ Ao no co Al nl cl Af nf cf) (k6 : Only v.ownBlock.toList w w6)
    (own : Row.Os encT 2 w6 base 71 v7 (ts.drop k)) (hv : v7.ownBlock = v.ownBlock) :
    Cel w6 g 61 #[.bool true, I c.dl, .slice Ao no co, .slice Al nl cl, .slice Af nf cf, I t, I (n : Int), v] ∧ LC (w6.setCell ⟨g, 7, none⟩ v7) base g v7 (ts.drop k) c ⟨t, n, wt.drop k⟩ Ao no co Al nl cl Af nf cf ∧ Only (g :: v.ownBlock.toList) w (w6.setCell ⟨g, 7, none⟩ v7) := by
  have c8 := h.cel.only k6 (fun hm => h.off (by simpa using hm))
  have k9 : Only [g] w6 (w6.setCell ⟨g, 7, none⟩ v7) := (Only.refl _ _).put (.inl (by simp)) _
  have kk : Only (g :: v.ownBlock.toList) w (w6.setCell ⟨g, 7, none⟩ v7) := (k6.more (fun x hx => .inl (List.mem_cons_of_mem _ hx))).trans k9 (fun x hx => .inl (by simp at hx; simp [hx]))
  have q7 := h.kq kk
  refine ⟨c8, ⟨c8.put 7 v7, h.ch.keep q7, Row.Os.only own k9 (fun i hi hm => h.off (by rw [← hv, hi, List.mem_singleton.1 hm])), ?_, ?_, h.ok⟩, kk⟩
  · rw [List.map_drop, h.tp]
  · intro y hy
    exact (h.dq y (List.mem_of_mem_drop hy)).keep q7
/-- a list of byte strings that a call makes -/
structure Ls (w : World) (base : Nat) (v : Value) (ls : List (List Byte)) : Prop where
  ex : ∃ qs : List Qb, qs.map (·.l) = ls ∧ Row.Os Lst.enc 1 w base 39 v qs ∧ ∀ q ∈ qs, Dq w q.l q.a q.c
theorem Ls.only {w' : World} {S : List Nat} {ls : List (List Byte)} (h : Ls w base v ls) (k : Only S w w') (q : Kq w w') (hS : ∀ i, v.ownBlock = some i → i ∉ S) : Ls w' base v ls := by
  obtain ⟨qs, h1, h2, h3⟩ := h
  exact ⟨qs, h1, Row.Os.only h2 k hS, fun x hx => (h3 x hx).keep q⟩
theorem Ls.below {w' : World} {ls : List (List Byte)} (h : Ls w base v ls) (k : Below w.heap.size w w') : Ls w' base v ls := h.only (Only.of_below (S := []) k) (.of_below k) (by simp)
theorem Ls.more {b' : Nat} {ls : List (List Byte)} (h : Ls w base v ls) (hb : b' ≤ base) : Ls w b' v ls := by
  obtain ⟨qs, h1, h2, h3⟩ := h
  exact ⟨qs, h1, Row.Os.more h2 hb, h3⟩
theorem Ls.len {n : Nat} {ls : List (List Byte)} (h : Ls w base v ls) (hn : ls.length = n) : ∃ A k, v = .slice A n k ∧ Lst.LS w w.heap.size A ls ∧ (A = none → k = 0) ∧ n ≤ k ∧ k ≤ maxLen := by
  obtain ⟨qs, rfl, h2, h3⟩ := h
  obtain ⟨A, k, hv, hr, h4, h5, h6⟩ := h2.reads_len Lst.enc_ok (n := n) (by simpa using hn)
  exact ⟨A, k, hv, ⟨qs, rfl, hr, fun q hq => (h3 q hq).dt⟩, h4, h5, h6⟩

set_option maxHeartbeats 4000000 in
set_option maxRecDepth 100000 in
theorem recv_c (h : LC w base g v ts c s Ao no co Al nl cl Af nf cf) {N : Nat} (hs : s.Ok N) (hN : N ≤ 100000) (now : Int) :
    Calls Try.prog 13 #[.pointer (some ⟨g, 0, none⟩), I now] w fun e w' => ∃ vr, e = .returned vr ∧ Ls w' w.heap.size vr (rcO now s) ∧ ∃ v' ts', LC w' base g v' ts' c (rcS now s) Ao no co Al nl cl Af nf cf ∧ Only (g :: v.ownBlock.toList) w w' ∧ v'.ownBlock = v.ownBlock := by
  have hw := h.works
  have ha := adv_any h now
  obtain ⟨S', hS'⟩ : ∃ S', S' = rcS now s := ⟨_, rfl⟩
  obtain ⟨O', hO'⟩ : ∃ O', O' = rcO now s := ⟨_, rfl⟩
  rw [← hS', ← hO']
  unfold rcS at hS'
  unfold rcO at hO'
  obtain ⟨sn, hsn⟩ : ∃ sn, sn = s.sn := ⟨_, rfl⟩
  obtain ⟨wt, hwt⟩ : ∃ wt, wt = s.wt := ⟨_, rfl⟩
  obtain ⟨t, ht⟩ : ∃ t, t = adv s.tm now := ⟨_, rfl⟩
  have hlen := h.len
  have hlM : wt.length ≤ 100000 := by rw [hwt]; have := hs.n; have := hs.w; omega
  rw [← hsn, ← hwt, ← ht] at ha hS'
  rw [← hwt, ← ht] at hO'
  rw [← hwt] at hlen
  obtain ⟨M, hM⟩ : ∃ M, M = wt.length := ⟨_, rfl⟩
  rw [← hM] at hlen hlM
  have HS := Lib.hid hS'
  have HO := Lib.hid hO'
  have HM := Lib.hid hM
  have HL := Lib.hid hlen
  clear h hs hN hsn hwt ht hS' hO' hM hlen
  go_enter Try.func13, Try.ntmps13
  go_wp2_with fail
  refine hw.mono ?_
  rintro e w1 ⟨rfl, rfl⟩
  go_wp2_with fail
  refine ha.mono ?_
  rintro e w1 ⟨rfl, h1, k1⟩
  clear ha hw
  obtain ⟨A, cw, rfl, hr, _⟩ := h1.os.reads_len encT_ok HL.out
  have hg := h1.cel.lt
  have c7 := h1.cel.cell 7
  have c5 := h1.cel.cell 5
  simp at c5 c7
  have H1 := Lib.hid h1
  have K1 := Lib.hid k1
  clear h1 k1
  go_wp2_with fail
  go_loopw [5, 7, 19] (fun lv _ iv wr => ∃ k : Nat, iv = .int .i64 (k : Int) ∧ k ≤ M ∧ Below w1.heap.size w1 wr ∧ (∃ Ar cr, lv = .slice Ar k cr ∧ Row.Os Lst.enc 1 wr w1.heap.size 39 (.slice Ar k cr) ((ts.take k).map (·.q))) ∧ Hid (∀ x ∈ wt.take k, x.1 ≤ t)) (fun _ _ iv _ => M - (intOf iv).toNat)
  case atStart => exact ⟨0, rfl, Nat.zero_le _, Below.refl _ _, ⟨none, 0, rfl, Row.Os.nil_ _ _ _⟩, Lib.hid (by simp)⟩
  case round =>
    obtain ⟨k, rfl, hk, hB, ⟨Ar, cr, rfl, ho⟩, hle⟩ := hrel
    clear c7
    by_cases hkn : k < M
    · have hkl : k < ts.length := by rw [HL.out]; exact hkn
      obtain ⟨bf, off, rfl, hbf, e0, e1⟩ := t_at (hr.below hB) hkl
      have HT := Lib.hid (show (ts.take (k + 1)).map (·.q) = (ts.take k).map (·.q) ++ [ts[k].q] by rw [List.take_add_one, List.getElem?_eq_getElem hkl, List.map_append]; rfl)
      have HW := Lib.hid (show wt[k]? = some ts[k].p by rw [show wt = ts.map Tq.p from H1.out.tp.symm, List.getElem?_map, List.getElem?_eq_getElem hkl]; rfl)
      clear hr
      generalize ts[k] = x at e0 e1 HT HW
      obtain ⟨xa, q⟩ := x
      dsimp only at e0 e1
      obtain ⟨nq', hnq⟩ : ∃ nq', nq' = q.l.length := ⟨_, rfl⟩
      have d5 : wr.cell? ⟨g, 5, none⟩ = some (I t) := (hB.cell (p := ⟨g, 5, none⟩) hg).trans c5
      have hne : g ≠ wr.heap.size := by have := hB.size; omega
      obtain ⟨w3, hw3⟩ : ∃ w3, w3 = wr.alloc (.cells #[I xa, .slice q.a q.l.length q.c] 71) := ⟨_, rfl⟩
      have B3 : Below w1.heap.size w1 w3 := by rw [hw3]; exact hB.alloc hB.size _
      have b3 : Below wr.heap.size wr w3 := by rw [hw3]; exact bel_new _ _
      have X3 : Cel w3 wr.heap.size 71 #[I xa, .slice q.a q.l.length q.c] := by rw [hw3]; exact Cel.new _ _ _
      rw [← hnq] at e1 hw3 X3
      have HNQ := Lib.hid hnq
      clear hnq
      have x0 := X3.cell 0
      have x1 := X3.cell 1
      simp at x0 x1
      have d5' : w3.cell? ⟨g, 5, none⟩ = some (I t) := (B3.cell (p := ⟨g, 5, none⟩) hg).trans c5
      have hsz3 := B3.size
      by_cases hx : xa ≤ t
      · have t1 : decide (t < xa) = false := by simp; omega
        have HX := Lib.hid hx
        have HB3 := Lib.hid B3
        have HO := Lib.hid (ho.below b3)
        have hq1 : Lib.hid hle = Lib.hid hle := rfl
        clear hq1 ho b3 B3 hx hB
        go_wp2_with fail
        rw [← hw3]
        clear hw3
        go_quiet (fail)
        have b4 : Below w1.heap.size w1 ((w3.drewN nq).alloc (.cells #[.slice q.a nq' q.c] 39)) := (HB3.out.trans (drewN_below w3 nq)).alloc hsz3 _
        have ho4 := HO.out.below ((drewN_below w3 nq).trans (show Below w3.heap.size (w3.drewN nq) _ from bel_new (w3.drewN nq) (.cells #[.slice q.a nq' q.c] 39)))
        have rs4 : Row.Rs Lst.enc 1 ((w3.drewN nq).alloc (.cells #[.slice q.a nq' q.c] 39)) (w3.heap.size + 1) (some ⟨w3.heap.size, 0, none⟩) [q] := Row.Rs_new1 Lst.enc_ok (w3.drewN nq) _ q _ (by rw [HNQ.out]; rfl)
        have hl4 : ((ts.take k).map (·.q)).length = k := by rw [List.length_map, List.length_take, HL.out]; omega
        go_wp2_with (at_builtin; refine Row.wpList_row _ Lst.enc_ok is_lists (by decide) rfl (.tmp 30) (.tmp 33) rfl rfl ho4 (l := [q]) (n := 1) (A := some ⟨w3.heap.size, 0, none⟩) (c := 1) rfl rfl rs4 (fun h => nomatch h) (by rw [hl4]; simp; omega) b4.size ?_; intro v5 w5 own5 gr5 hv5; rw [← HT.out] at own5; (obtain ⟨A5, c5', rfl, _⟩ := own5.reads_len (n := k + 1) Lst.enc_ok (by rw [List.length_map, List.length_take]; have := HL.out; omega)))
        go_roundw
        case rel =>
          refine ⟨k + 1, by go_num, hkn, b4.grown gr5 b4.size (fun i hi => (ho4.lt i hi).1), ⟨_, _, rfl, own5⟩, Lib.hid ?_⟩
          intro y hy
          rw [List.take_add_one, HW.out] at hy
          rcases List.mem_append.1 hy with hy | hy
          · exact hle.out y hy
          · rw [List.mem_singleton.1 hy]; exact HX.out
        case measure => simp [intOf]; omega
      · have t1 : decide (t < xa) = true := by simp; omega
        have HB : Hid (k = wt.length ∨ ∃ x, wt[k]? = some x ∧ t < x.1) := Lib.hid (.inr ⟨_, HW.out, by show t < xa; omega⟩)
        have ho3 := ho.below b3
        clear hx b3 hB ho HT HW
        go_wp2_with fail
        rw [← hw3]
        clear hw3
        go_quiet (fail)
        have B5' := B3.trans (drewN_below w3 nq)
        have ho5 := ho3.below (drewN_below w3 nq)
        obtain ⟨W5, hW5⟩ : ∃ W5, W5 = w3.drewN nq := ⟨_, rfl⟩
        rw [← hW5] at B5' ho5 ⊢
        have B5 : Below w1.heap.size w1 W5 := B5'
        have ho := ho5
        clear hW5 B5' x0 x1 d5 d5' X3 B3 ho3 t1
        have hrn : rn t wt = k := rn_at hle.out HB.out (by have := HM.out; omega)
        have hO2 : O' = (wt.take k).map (·.2) := by rw [HO.out, hrn]
        have hS2 : S' = ⟨t, sn, wt.drop k⟩ := by rw [HS.out, hrn]
        have h5 := H1.out.below B5
        have c7 := h5.cel.cell 7
        simp at c7
        have hdel := tdel_n ts k W5 base _ (by have := HL.out; omega) h5.os (by have := HL.out; omega)
        have HQ := Lib.hid (show Ls W5 w1.heap.size (.slice Ar k cr) O' from ⟨(ts.take k).map (·.q), by
          rw [hO2, ← show ts.map Tq.p = wt from H1.out.tp, ← List.map_take, List.map_map, List.map_map]
          rfl, ho5, (fun q hq => by
            obtain ⟨y, hy, rfl⟩ := List.mem_map.1 hq
            exact h5.dq y (List.mem_of_mem_take hy))⟩)
        have H5 := Lib.hid h5
        have HS2 := Lib.hid hS2
        have HB5 := Lib.hid B5
        clear hO2 hS2 hrn h5 ho5 ho hle HO B5
        go_wp2_with fail
        refine hdel.mono ?_
        rintro e w6 ⟨v7, rfl, o7, e7, k7⟩
        obtain ⟨N8, hN8⟩ : ∃ N8, (ts.drop k).length = N8 := ⟨_, rfl⟩
        obtain ⟨A8, c8, rfl, _⟩ := o7.reads_len encT_ok hN8
        clear hN8
        have hf := H5.out.rcvd k7 o7 e7
        have f7 := hf.1.free 7
        have x7 := hf.1.cell 7
        simp at x7
        have HF := Lib.hid hf
        clear hf hdel c7 o7 k7
        go_wp2
        go_ret
        have kk := HF.out.2.2
        refine ⟨_, rfl, (HQ.out.only kk (H5.out.kq kk) (fun i hi hm => ?_)).more K1.out.size, _, _, by rw [HS2.out]; exact HF.out.2.1, ?_, e7⟩
        · have hi1 : w1.heap.size ≤ i := by
            obtain ⟨qs, _, ho, _⟩ := HQ.out.ex
            exact (ho.lt i hi).1
          have hi2 : i < w1.heap.size := by
            rcases List.mem_cons.1 hm with rfl | hm
            · exact hg
            · exact (H1.out.os.lt i (by simpa using hm)).2
          omega
        · exact ((K1.out.more (fun x hx => .inl (by simp at hx; simp [hx]))).trans (Only.of_below (S := []) HB5.out) (by simp)).trans kk (fun x hx => .inl hx)
    · obtain rfl : k = M := by omega
      have HB : Hid (k = wt.length ∨ ∃ x, wt[k]? = some x ∧ t < x.1) := Lib.hid (.inl HM.out)
      obtain ⟨W5, hW5⟩ : ∃ W5, W5 = wr := ⟨_, rfl⟩
      subst hW5
      have B5 := hB
      have ho5 := ho
      clear hB
      have hrn : rn t wt = k := rn_at hle.out HB.out (by have := HM.out; omega)
      have hO2 : O' = (wt.take k).map (·.2) := by rw [HO.out, hrn]
      have hS2 : S' = ⟨t, sn, wt.drop k⟩ := by rw [HS.out, hrn]
      have h5 := H1.out.below B5
      have c7 := h5.cel.cell 7
      simp at c7
      have hdel := tdel_n ts k W5 base _ (by have := HL.out; omega) h5.os (by have := HL.out; omega)
      have HQ := Lib.hid (show Ls W5 w1.heap.size (.slice Ar k cr) O' from ⟨(ts.take k).map (·.q), by
        rw [hO2, ← show ts.map Tq.p = wt from H1.out.tp, ← List.map_take, List.map_map, List.map_map]
        rfl, ho5, (fun q hq => by
          obtain ⟨y, hy, rfl⟩ := List.mem_map.1 hq
          exact h5.dq y (List.mem_of_mem_take hy))⟩)
      have H5 := Lib.hid h5
      have HS2 := Lib.hid hS2
      have HB5 := Lib.hid B5
      clear hO2 hS2 hrn h5 ho5 ho hle HO B5
      go_wp2_with fail
      refine hdel.mono ?_
      rintro e w6 ⟨v7, rfl, o7, e7, k7⟩
      obtain ⟨N8, hN8⟩ : ∃ N8, (ts.drop k).length = N8 := ⟨_, rfl⟩
      obtain ⟨A8, c8, rfl, _⟩ := o7.reads_len encT_ok hN8
      clear hN8
      have hf := H5.out.rcvd k7 o7 e7
      have f7 := hf.1.free 7
      have x7 := hf.1.cell 7
      simp at x7
      have HF := Lib.hid hf
      clear hf hdel c7 o7 k7
      go_wp2
      go_ret
      have kk := HF.out.2.2
      refine ⟨_, rfl, (HQ.out.only kk (H5.out.kq kk) (fun i hi hm => ?_)).more K1.out.size, _, _, by rw [HS2.out]; exact HF.out.2.1, ?_, e7⟩
      · have hi1 : w1.heap.size ≤ i := by
          obtain ⟨qs, _, ho, _⟩ := HQ.out.ex
          exact (ho.lt i hi).1
        have hi2 : i < w1.heap.size := by
          rcases List.mem_cons.1 hm with rfl | hm
          · exact hg
          · exact (H1.out.os.lt i (by simpa using hm)).2
        omega
      · exact ((K1.out.more (fun x hx => .inl (by simp at hx; simp [hx]))).trans (Only.of_below (S := []) HB5.out) (by simp)).trans kk (fun x hx => .inl hx)
end
end Go.Proofs.Ytllhdgllgoanbaa.Lnk
