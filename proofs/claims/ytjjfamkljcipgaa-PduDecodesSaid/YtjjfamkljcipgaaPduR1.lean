/-
  Package pdu: gaps (the ranges of a Nak are read, or it panics).
-/
import Derived.Test.YtjjfamkljcipgaaPduR0
namespace Go.Proofs.Ytjjfamkljcipgaa.Pdu
open Go.RowKit Go.Proofs.Ytjjfamkljcipgaa.Row

theorem flat_zero : ∀ n : Nat, flat encR (List.replicate n ((0 : Int), (0 : Int))) = List.replicate (n * 2) (I 0)
  | 0 => rfl
  | n + 1 => by
    rw [List.replicate_succ, flat_cons, flat_zero n, show (n + 1) * 2 = n * 2 + 1 + 1 by omega, List.replicate_succ, List.replicate_succ]
    rfl
theorem made_rng (n : Nat) : madeCells #[I 0, I 0] n = (List.replicate n (I 0)).toArray := by
  apply Array.ext
  · simp [size_madeCells]
  · intro i h1 h2
    have : i % 2 = 0 ∨ i % 2 = 1 := by omega
    rcases this with h | h <;> simp [madeCells, h]
theorem make_rng (n : Nat) (hn : n ≤ 1000) (w : World) : (Instr.makeSlice 27 (.int .i64 (n : Int)) (.int .i64 (n : Int))).run Try.prog w = .ok (.slice (some ⟨w.heap.size, 0, none⟩) n n) (w.alloc (.cells (flat encR (List.replicate n (0, 0))).toArray 41)) := by
  obtain ⟨ht, _, i, hi, hz, hb, hc⟩ := is_ranges
  have hr := run_make (P := Try.prog) w 27 41 i _ ht hi hz .i64 .i64 (n : Int) (n : Int) (by omega) (Int.le_refl _) (by rw [hc]; omega) (by omega)
  simp only [Int.toNat_natCast, hb] at hr
  rw [hr, flat_zero, ← made_rng]
  rfl
theorem os_cell {w : World} {base b n c : Nat} {L : List R} {i : Nat} {x : R} (h : Row.Os encR 2 w base 41 (.slice (some ⟨b, 0, none⟩) n c) L) (hx : L[i]? = some x) :
    (w.cell? ⟨b, i * 2, none⟩ = some (I x.1) ∧ w.frozen? ⟨b, i * 2, none⟩ = false) ∧ w.cell? ⟨b, i * 2 + 1, none⟩ = some (I x.2) ∧ w.frozen? ⟨b, i * 2 + 1, none⟩ = false := by
  have hi := (List.getElem?_eq_some_iff.1 hx).1
  obtain ⟨g, c', he, _, _, sp, hc, _⟩ := Row.Os.row h (by omega)
  injection he with he
  injection he with he
  injection he with he
  subst he
  have hl := flat_length encR_ok L
  have f0 := flat_at encR_ok (j := 0) hx rfl
  have f1 := flat_at encR_ok (j := 1) hx rfl
  rw [Nat.add_zero] at f0
  refine ⟨⟨?_, hc.free _⟩, ?_, hc.free _⟩
  · rw [hc.cell, List.getElem?_toArray, List.getElem?_append_left (by rw [hl]; omega)]
    exact f0
  · rw [hc.cell, List.getElem?_toArray, List.getElem?_append_left (by rw [hl]; omega)]
    exact f1
theorem os_put {w : World} {base b n c k j : Nat} {gk : List R} {a d : Int} (h : Row.Os encR 2 w base 41 (.slice (some ⟨b, 0, none⟩) n c) (gk ++ (a, d) :: List.replicate j (0, 0))) (hk : gk.length = k) (a' : Int) :
    Row.Os encR 2 (w.setCell ⟨b, k * 2, none⟩ (I a')) base 41 (.slice (some ⟨b, 0, none⟩) n c) (gk ++ (a', d) :: List.replicate j (0, 0)) := by
  have := Row.Os.set_ encR_ok h (gr := b) (i := k) (j := 0) (x := (a, d)) (x' := (a', d)) (u := I a') rfl (by rw [List.getElem?_append_right (by omega), hk, Nat.sub_self]; rfl) rfl (by decide)
  rw [Nat.add_zero, List.set_append_right _ _ (by omega), hk, Nat.sub_self] at this
  exact this
theorem os_put2 {w : World} {base b n c k j : Nat} {gk : List R} {a d : Int} (h : Row.Os encR 2 w base 41 (.slice (some ⟨b, 0, none⟩) n c) (gk ++ (a, d) :: List.replicate j (0, 0))) (hk : gk.length = k) (d' : Int) :
    Row.Os encR 2 (w.setCell ⟨b, k * 2 + 1, none⟩ (I d')) base 41 (.slice (some ⟨b, 0, none⟩) n c) ((gk ++ [(a, d')]) ++ List.replicate j (0, 0)) := by
  have := Row.Os.set_ encR_ok h (gr := b) (i := k) (j := 1) (x := (a, d)) (x' := (a, d')) (u := I d') rfl (by rw [List.getElem?_append_right (by omega), hk, Nat.sub_self]; rfl) rfl (by decide)
  rw [List.set_append_right _ _ (by omega), hk, Nat.sub_self] at this
  simpa using this

/-- what gaps makes of bytes -/
def pGp (l : List Byte) : Option (List R × List Byte) := (tC 16 l).bind fun a => tG a.1.toNat a.2
theorem tG_no {n j : Nat} {l lk : List Byte} {gk : List R} (h : tG n l = (tG (j + 1) lk).map fun r => (gk ++ r.1, r.2)) (ht : tI lk = none) : tG n l = none := by
  rw [h]
  simp [tG, ht]
theorem tG_no2 {n j : Nat} {l lk l2 : List Byte} {gk : List R} {a : Int} (h : tG n l = (tG (j + 1) lk).map fun r => (gk ++ r.1, r.2)) (ht : tI lk = some (a, l2)) (ht2 : tI l2 = none) : tG n l = none := by
  rw [h]
  simp [tG, ht, ht2]
theorem tG_next {n j : Nat} {l lk l2 l3 : List Byte} {gk : List R} {a d : Int} (h : tG n l = (tG (j + 1) lk).map fun r => (gk ++ r.1, r.2)) (ht : tI lk = some (a, l2)) (ht2 : tI l2 = some (d, l3)) : tG n l = (tG j l3).map fun r => ((gk ++ [(a, d)]) ++ r.1, r.2) := by
  rw [h]
  simp only [tG, ht, ht2, Option.bind_some, Option.map_map]
  congr 1
  funext r
  simp
theorem tI_short {l r : List Byte} {v : Int} (h : tI l = some (v, r)) : r.length ≤ l.length := by
  obtain ⟨_, _, e⟩ := tI_some h
  rw [e, List.length_append]
  omega
/-- how a call that reads, or panics, ends -/
def GO (X : Option (List R × List Byte)) (w : World) (B g : Nat) (e : Ending) (w' : World) : Prop :=
  match X with
  | some (l, r) => (∃ G c s, e = .returned (.slice G l.length c) ∧ Row.Os encR 2 w' s 41 (.slice G l.length c) l) ∧ OR w' B g (some r) ∧ Only [g] w w'
  | none => e = .panicked mal ∧ Only [g] w w'

set_option maxRecDepth 100000 in
set_option maxHeartbeats 4000000 in
theorem gaps_any (w : World) (B g : Nat) (l : List Byte) (h : OR w B g (some l)) (hL : l.length < 1000000) :
    Calls Try.prog 59 #[.agg #[.pointer (some ⟨g, 0, none⟩)]] w (GO (pGp l) w B g) := by
  obtain ⟨X, hX⟩ : ∃ X, pGp l = X := ⟨_, rfl⟩
  rw [hX]
  have HX := Lib.hid hX
  clear hX
  have hs := h.lt.2
  have hC := Cel.new w 60 #[.pointer (some ⟨g, 0, none⟩)]
  have bo := box_only w [g] (.cells #[.pointer (some ⟨g, 0, none⟩)] 60)
  have ho := OR.box h (.cells #[.pointer (some ⟨g, 0, none⟩)] 60)
  cases ht : tC 16 l with
  | none =>
    have hr := cnt_no 16 ho ht hL
    have e1 : X = none := by rw [← HX.out]; unfold pGp; rw [ht]; rfl
    subst e1
    clear HX ht hL h ho hC
    go_enter Try.func59, Try.ntmps59
    go_wp2_with fail
    refine hr.mono ?_
    rintro e w1 ⟨rfl, k⟩
    exact ⟨rfl, rfl, bo.trans k (fun x hx => .inl hx)⟩
  | some a =>
    obtain ⟨v, l1⟩ := a
    have hr := cnt_yes 16 v ho ht hL
    obtain ⟨ht1, hv0, hv1⟩ := tC_tI ht
    obtain ⟨n, rfl⟩ := Int.eq_ofNat_of_zero_le hv0
    have hl1 := tI_short ht1
    have e1 : X = tG n l1 := by rw [← HX.out]; unfold pGp; rw [ht]; rfl
    have HE := Lib.hid e1
    have mk := fun W => make_rng n (by omega) W
    clear HX e1 ht ht1 hv0 h ho
    go_enter Try.func59, Try.ntmps59
    go_wp2_with fail
    refine hr.mono ?_
    rintro e w1 ⟨rfl, o1, k1⟩
    have K1 := bo.trans k1 (fun x hx => .inl hx)
    have f1 := hC.only k1 (by simp; omega)
    have s1 := K1.size
    clear hr bo hC k1
    have o2 := OR.box o1 (.cells (flat encR (List.replicate n (0, 0))).toArray 41)
    have f2 := Cel.on f1 (bel_new w1 (.cells (flat encR (List.replicate n (0, 0))).toArray 41))
    have K2 := K1.alloc (.cells (flat encR (List.replicate n (0, 0))).toArray 41)
    have r2 := Row.Os_of_cel (base := w1.heap.size) encR_ok (Cel.new w1 41 (flat encR (List.replicate n ((0 : Int), (0 : Int)))).toArray) (Nat.le_refl _) (by rw [List.length_replicate]; unfold maxLen; omega)
    rw [List.length_replicate] at r2
    obtain ⟨W, hW⟩ : ∃ W, W = w1.alloc (.cells (flat encR (List.replicate n (0, 0))).toArray 41) := ⟨_, rfl⟩
    rw [← hW] at o2 f2 K2 r2
    obtain ⟨b, hb⟩ : ∃ b, b = w1.heap.size := ⟨_, rfl⟩
    rw [← hb] at r2
    have hgb : g < b := by omega
    have hFg : w.heap.size ≠ g := by omega
    have hFb : w.heap.size ≠ b := by have := f1.lt; omega
    have hwb : w.heap.size ≤ b := by omega
    have hBg := o1.lt.1
    clear o1 f1 K1
    go_wp2_with fail
    rw [← hW, ← hb]
    clear hW hb
    go_loopw [4, 10] (fun _ i wr => ∃ (k : Nat) (lk : List Byte) (gk : List R), k ≤ n ∧ i = .int .i64 k ∧ Hid (gk.length = k) ∧ Hid (OR wr B g (some lk)) ∧ Hid (Row.Os encR 2 wr b 41 (.slice (some ⟨b, 0, none⟩) n n) (gk ++ List.replicate (n - k) (0, 0))) ∧ Hid (Only [g] w wr) ∧ Hid (Cel wr w.heap.size 60 #[.pointer (some ⟨g, 0, none⟩)]) ∧ Hid (tG n l1 = (tG (n - k) lk).map fun r => (gk ++ r.1, r.2)) ∧ Hid (lk.length ≤ l1.length)) (fun _ i _ => n - (intOf i).toNat)
    case atStart => exact ⟨0, l1, [], Nat.zero_le _, rfl, Lib.hid rfl, Lib.hid o2, Lib.hid r2, Lib.hid K2, Lib.hid f2, Lib.hid (by simp), Lib.hid (Nat.le_refl _)⟩
    case round =>
      obtain ⟨k, lk, gk, hk, rfl, hgk, ho, hos, hkk, hcf, htg, hll⟩ := hrel
      clear o2 f2 K2 r2
      by_cases hlt : k < n
      · obtain ⟨j, hj⟩ : ∃ j, n - k = j + 1 := ⟨n - k - 1, by omega⟩
        have hj2 : n - (k + 1) = j := by omega
        rw [hj] at hos htg
        rw [List.replicate_succ] at hos
        have cF := hcf.out.cell 0
        simp only [List.getElem?_toArray, List.getElem?_cons_zero] at cF
        have hll' := hll.out
        cases ht2 : tI lk with
        | none =>
          have hs1 := sgn_no ho.out ht2 (by omega)
          have e1 : X = none := by rw [HE.out]; exact tG_no htg.out ht2
          subst e1
          have HK := Lib.hid hkk.out
          clear HE ht2 hj hj2 hll'
          go_wp2_with fail
          refine hs1.mono ?_
          rintro e w2 ⟨rfl, k2⟩
          exact ⟨rfl, rfl, HK.out.trans k2 (fun x hx => .inl hx)⟩
        | some a2 =>
          obtain ⟨va, l2⟩ := a2
          have hs1 := sgn_yes va ho.out ht2 (by omega)
          have hb2 := tI_short ht2
          have HT2 := Lib.hid ht2
          clear ht2 hll'
          go_wp2_with fail
          refine hs1.mono ?_
          rintro e w2 ⟨rfl, o3, k3⟩
          have r3 := hos.out.only k3 (fun i hi => by cases hi; simp; omega)
          have f3 := hcf.out.only k3 (by simpa using hFg)
          have q3 := (os_cell r3 (i := k) (x := (0, 0)) (by rw [List.getElem?_append_right (by rw [hgk.out]; exact Nat.le_refl _), hgk.out, Nat.sub_self]; rfl)).1
          obtain ⟨q3c, q3f⟩ := q3
          simp only at q3c
          have kS := (Only.refl [b] w2).put (p := ⟨b, k * 2, none⟩) (.inl (by simp)) (I va)
          have o4 := o3.only kS (by simp; omega) (by simp; omega)
          have f4 := f3.only kS (by simpa using hFb)
          have r4 := os_put r3 hgk.out va
          have K4 := (hkk.out.trans k3 (fun x hx => .inl hx)).put (p := ⟨b, k * 2, none⟩) (.inr hwb) (I va)
          have HO := Lib.hid o4
          have HR := Lib.hid r4
          have HK := Lib.hid K4
          have HF := Lib.hid f4
          have cF := f4.cell 0
          simp only [List.getElem?_toArray, List.getElem?_cons_zero] at cF
          clear o3 k3 r3 f3 kS o4 f4 r4 K4 hs1 ho hos hkk hcf
          have hll2 := hll.out
          cases ht3 : tI l2 with
          | none =>
            have hs2 := sgn_no HO.out ht3 (by omega)
            have e1 : X = none := by rw [HE.out]; exact tG_no2 htg.out HT2.out ht3
            subst e1
            clear HE ht3 hj hj2 hll2 hb2
            go_wp2_with fail
            refine hs2.mono ?_
            rintro e w3 ⟨rfl, k2⟩
            exact ⟨rfl, rfl, HK.out.trans k2 (fun x hx => .inl hx)⟩
          | some a3 =>
            obtain ⟨vb, l3⟩ := a3
            have hs2 := sgn_yes vb HO.out ht3 (by omega)
            have hb3 := tI_short ht3
            have HN := Lib.hid (tG_next htg.out HT2.out ht3)
            have HLL := Lib.hid (show l3.length ≤ l1.length by omega)
            clear ht3 hll2 hb2 hb3 hll
            go_wp2_with fail
            refine hs2.mono ?_
            rintro e w3 ⟨rfl, o5, k5⟩
            have r5 := HR.out.only k5 (fun i hi => by cases hi; simp; omega)
            have f5 := HF.out.only k5 (by simpa using hFg)
            have q5 := (os_cell r5 (i := k) (x := (va, 0)) (by rw [List.getElem?_append_right (by rw [hgk.out]; exact Nat.le_refl _), hgk.out, Nat.sub_self]; rfl)).2
            obtain ⟨q5c, q5f⟩ := q5
            simp only at q5c
            have kS := (Only.refl [b] w3).put (p := ⟨b, k * 2 + 1, none⟩) (.inl (by simp)) (I vb)
            have HO6 := Lib.hid (o5.only kS (by simp; omega) (by simp; omega))
            have HF6 := Lib.hid (f5.only kS (by simpa using hFb))
            have HR6 := Lib.hid (os_put2 r5 hgk.out vb)
            have HK6 := Lib.hid ((HK.out.trans k5 (fun x hx => .inl hx)).put (p := ⟨b, k * 2 + 1, none⟩) (.inr hwb) (I vb))
            have HG6 := Lib.hid (show (gk ++ [(va, vb)]).length = k + 1 by rw [List.length_append, hgk.out]; rfl)
            rw [← hj2] at HN HR6
            clear o5 k5 r5 f5 kS hs2 hj hj2 HO HF HR HK q3c q3f htg
            go_wp2
            go_round
            case rel => exact ⟨k + 1, l3, gk ++ [(va, vb)], by omega, by go_num, HG6, HO6, HR6, HK6, HF6, HN, HLL⟩
            case measure => simp [intOf]; omega
      · have hn0 : n - k = 0 := by omega
        rw [hn0] at hos htg
        have e1 : X = some (gk, lk) := by rw [HE.out, htg.out]; simp [tG]
        have hkn : k = n := by omega
        have r9 := hos.out
        rw [List.replicate_zero, List.append_nil] at r9
        have hgl := hgk.out
        have HQ := Lib.hid (show GO (some (gk, lk)) w B g (.returned (.slice (some ⟨b, 0, none⟩) n n)) wr from ⟨⟨some ⟨b, 0, none⟩, n, b, by rw [hgl, hkn], by rw [hgl, hkn]; exact r9⟩, ho.out, hkk.out⟩)
        subst e1
        clear r9 hgl HE
        go_wp2
        go_ret
        exact HQ.out
end Go.Proofs.Ytjjfamkljcipgaa.Pdu
