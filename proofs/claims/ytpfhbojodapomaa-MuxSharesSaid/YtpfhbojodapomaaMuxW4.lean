/-
  Package mux: Next.
-/
import Derived.Test.YtpfhbojodapomaaMuxW3
namespace Go.Proofs.Ytpfhbojodapomaa.Mux
open Go.RowKit Go.Shelf Go.Proofs.Ytpfhbojodapomaa.Row Ints

theorem os_free {w : World} {base g n cap : Nat} {e : TypeId} {l : List Ch} (h : Row.Os encC 5 w base e (.slice (some ⟨g, 0, none⟩) n cap) l) (i : Nat) : w.frozen? ⟨g, i, none⟩ = false := by
  rcases h.2 with ⟨he, _⟩ | ⟨g', cap', cur, he, _, hh, _⟩
  · cases he
  · cases he; exact Cel.free (t := e) hh i
theorem put1 (w : World) (g i : Nat) (v : Value) : Only [g] w (w.setCell ⟨g, i, none⟩ v) := (Only.refl [g] w).put (p := ⟨g, i, none⟩) (.inl (by simp)) v
/-- the credit of one channel, written in place -/
theorem os_cred {w : World} {base g n cap i : Nat} {l : List Ch} (h : Row.Os encC 5 w base 53 (.slice (some ⟨g, 0, none⟩) n cap) l) (hi : i < l.length) (c : Int) :
    Row.Os encC 5 (w.setCell ⟨g, i * 5 + 3, none⟩ (I c)) base 53 (.slice (some ⟨g, 0, none⟩) n cap) (l.set i ⟨l[i].id, l[i].pr, l[i].wt, c, l[i].sn⟩) :=
  h.set_ encC_ok rfl (List.getElem?_eq_getElem hi) (j := 3) (u := I c) rfl (by decide)
theorem os_sent {w : World} {base g n cap i : Nat} {l : List Ch} (h : Row.Os encC 5 w base 53 (.slice (some ⟨g, 0, none⟩) n cap) l) (hi : i < l.length) (c : Int) :
    Row.Os encC 5 (w.setCell ⟨g, i * 5 + 4, none⟩ (I c)) base 53 (.slice (some ⟨g, 0, none⟩) n cap) (l.set i ⟨l[i].id, l[i].pr, l[i].wt, l[i].cr, c⟩) :=
  h.set_ encC_ok rfl (List.getElem?_eq_getElem hi) (j := 4) (u := I c) rfl (by decide)
theorem set_fin {L : List Ch} {m : Nat} {s : Int} (h : m < L.length) (h2 : m < (L.set m ⟨L[m].id, L[m].pr, L[m].wt, L[m].cr - s, L[m].sn⟩).length) :
    (L.set m ⟨L[m].id, L[m].pr, L[m].wt, L[m].cr - s, L[m].sn⟩).set m ⟨(L.set m ⟨L[m].id, L[m].pr, L[m].wt, L[m].cr - s, L[m].sn⟩)[m].id, (L.set m ⟨L[m].id, L[m].pr, L[m].wt, L[m].cr - s, L[m].sn⟩)[m].pr, (L.set m ⟨L[m].id, L[m].pr, L[m].wt, L[m].cr - s, L[m].sn⟩)[m].wt, (L.set m ⟨L[m].id, L[m].pr, L[m].wt, L[m].cr - s, L[m].sn⟩)[m].cr, L[m].sn + 1⟩ = L.modify m (fin s) := by
  rw [modify_set h, List.set_set]
  simp [fin]

set_option maxHeartbeats 4000000 in
set_option maxRecDepth 100000 in
theorem mnext_any (w : World) (base g : Nat) (r : Option Nat) (L : List Ch) (rd : List Int) (T : Nat) (A2 : Option Addr) (n2 c2 : Nat) (h : MW w base g r L) (hG : Good L) (hS : Srt L) (hB : Bd T L) (hT : T ≤ 1000000000000)
    (hn2 : rd.length = n2) (hrd : Ns w w.heap.size A2 rd) (hr2 : n2 ≤ 1000000) :
    Calls Try.prog 10 #[.pointer (some ⟨g, 0, none⟩), .slice A2 n2 c2] w fun e w' => ∃ res L', e = .returned (.tuple #[I (res.getD 0), .bool res.isSome]) ∧ Hid (Nx rd L res L') ∧ MW w' base g r L' ∧ Only r.toList w w' := by
  have hw := mOk w base g r L h
  have hg := h.lt
  have hrow := h.row
  have hlen := hG.len
  obtain ⟨v, hc, ho, hv⟩ := h
  obtain ⟨gr, hgr⟩ : ∃ gr, L ≠ [] → ∃ c, v = .slice (some ⟨gr, 0, none⟩) L.length c := by
    cases hL : L with
    | nil => exact ⟨0, fun e => absurd rfl e⟩
    | cons x l =>
      obtain ⟨gr, c, e, _⟩ := ho.row (by rw [hL]; simp)
      rw [hL] at e
      exact ⟨gr, fun _ => ⟨c, e⟩⟩
  obtain ⟨A, c, rfl, hr, _, _, _⟩ := ho.reads encC_ok
  have hA : L ≠ [] → A = some ⟨gr, 0, none⟩ := fun e => by obtain ⟨_, e2⟩ := hgr e; cases e2; rfl
  have k1 : w.cell? ⟨g, 1, none⟩ = some (.slice A L.length c) := hc.cell 1
  have hf := foremost_any w g gr c A A2 n2 c2 L rd hg k1 hA hr (by omega) (Lib.hid hS) hn2 hrd hr2
  have HC := Lib.hid hc
  clear hc hr hgr k1 hrd hn2
  go_enter Try.func10, Try.ntmps10
  go_wp2_with fail
  refine hw.mono ?_
  rintro e w1 ⟨rfl, rfl⟩
  go_wp2_with fail
  refine hf.mono ?_
  rintro e w1 ⟨v5, acc, rfl, hp, hb, hfm⟩
  have hsz := hb.size
  obtain ⟨A5, c5, rfl, hp5, _, h51, h52⟩ := hp.reads (encP_ok gr)
  have hc1 := HC.out.only (Only.of_below (S := []) hb) (by simp)
  have ho1 := ho.below hb
  clear hf hw
  rcases hfm.out with ⟨rfl, hnone⟩ | ⟨p, hne, hacc, hmin⟩
  · have hN := Lib.hid (none_is hnone)
    have HM : Hid (MW w1 base g r L) := Lib.hid ⟨_, hc1, ho1, hv⟩
    have HO : Hid (Only r.toList w w1) := Lib.hid ((Only.of_below (S := []) hb).more (by simp))
    clear hnone hfm hc1 ho1 hp hp5 ho HC hA
    go_wp2_with fail
    go_ret2
    exact ⟨none, L, rfl, hN, HM.out, HO.out⟩
  · have hLne : L ≠ [] := by
      rintro rfl
      exact hne hacc
    obtain rfl := hA hLne
    obtain rfl : r = some gr := hv.symm
    have hgrw := (hrow gr rfl).2.1
    have hgne := (hrow gr rfl).2.2
    have hup := Lib.hid (show acc.Pairwise (· < ·) by rw [hacc]; exact ix_up)
    have hmem := Lib.hid (show ∀ i ∈ acc, i < L.length from fun i hi => by
      rw [hacc] at hi
      obtain ⟨k, e, hk, _⟩ := ix_mem.1 hi
      omega)
    have hal : acc.length ≤ 8 := by
      have := ix_len (f := el rd p) (l := L) (s := 0)
      rw [← hacc] at this
      omega
    obtain ⟨N, hN⟩ : ∃ N, N = acc.length := ⟨_, rfl⟩
    have hN0 : 0 < N := by
      rw [hN]
      exact List.length_pos_iff.2 hne
    have HN := Lib.hid hN
    have t0 : ((N : Int) == 0) = false := by simpa using (by omega : N ≠ 0)
    have t1 : (N == 0) = false := by simpa using (by omega : N ≠ 0)
    have hN8 : N ≤ 8 := by omega
    rw [← hN]
    have HA := Lib.hid (⟨hacc, hmin⟩ : acc = ix (el rd p) 0 L ∧ ∀ x ∈ L, x.id ∈ rd → p ≤ x.pr)
    have hlL : L.length ≤ 8 := hlen
    obtain ⟨n, hn⟩ : ∃ n, n = L.length := ⟨_, rfl⟩
    rw [← hn] at ho1 hc1
    have hpb : ∀ i, (Value.slice A5 acc.length c5).ownBlock = some i → i ∉ [gr] := fun i hi => by
      have := (hp.lt i hi).1
      simp; omega
    have hbnd : Hid (Bnd (1000 * T) 0 L 0) := Lib.hid ⟨fun x hx => (hG.ok x hx).2.2.2.2, fun x hx => ⟨(hB x hx).1, by have := (hB x hx).2.1; omega⟩, Int.le_refl _, by omega⟩
    have Hn := Lib.hid hn
    clear hN hne hacc hmin hfm hp5 ho hlen hn
    go_wp2_with fail
    go_loopw [7, 9, 22] (fun sm _ i wr => ∃ (t : Nat) (Lt : List Ch) (st : Int), sm = I st ∧ i = .int .i64 t ∧ t ≤ N ∧ Row.Os encC 5 wr base 53 (.slice (some ⟨gr, 0, none⟩) n c) Lt ∧ Only [gr] w1 wr ∧ Hid ((acc.take t).foldl stp (L, 0) = (Lt, st)) ∧ Hid (Bnd (1000 * T) t Lt st)) (fun _ _ i _ => N - (intOf i).toNat)
    case atStart => exact ⟨0, L, 0, rfl, rfl, by omega, ho1, Only.refl _ _, Lib.hid (by simp), hbnd⟩
    case round =>
      obtain ⟨t, Lt, st, rfl, rfl, htN, hot, hon, hfold, hbt⟩ := hrel
      have hpt := hp.only hon hpb
      obtain ⟨_, _, e5, hq5, _, _, _⟩ := hpt.reads (encP_ok gr)
      cases e5
      have hLt : Hid (Lt.length = L.length) := Lib.hid (by
        have := congrArg (fun z => z.1.length) hfold.out
        simpa [fold_len] using this.symm)
      by_cases hlt : t < N
      · have hta : t < acc.length := by rw [← HN.out]; exact hlt
        obtain ⟨_, _, e5, hb5, q1⟩ := p_at hq5 hta
        obtain rfl := e5
        have hiL : acc[t] < Lt.length := by rw [hLt.out]; exact hmem.out _ (List.getElem_mem _)
        have htk : Hid ((acc.take (t + 1)).foldl stp (L, 0) = (Lt.set acc[t] (bump Lt[acc[t]]), st + Lt[acc[t]].wt)) := Lib.hid (by
          rw [List.take_add_one, List.getElem?_eq_getElem hta]
          simp only [Option.toList, List.foldl_append, hfold.out, List.foldl_cons, List.foldl_nil]
          exact stp_set hiL)
        have hbt2 : Hid (Bnd (1000 * T) (t + 1) (Lt.set acc[t] (bump Lt[acc[t]])) (st + Lt[acc[t]].wt)) := Lib.hid (hbt.out.next hiL)
        have hbw := hbt.out.w Lt[acc[t]] (List.getElem_mem hiL)
        have hbc := hbt.out.c Lt[acc[t]] (List.getElem_mem hiL)
        have hb0 := hbt.out.s0
        have hb1 := hbt.out.s1
        generalize acc[t] = i at q1 hiL htk hbt2 hbw hbc
        obtain ⟨hgB, a0, a1, a2, a3, a4⟩ := c_row (hot.rs encC_ok) hiL
        have afr := os_free hot (i * 5 + 3)
        have hot2 := (os_cred hot hiL (Lt[i].cr + Lt[i].wt)).drew
        have hon2 := fun v => hon.trans (put1 wr gr (i * 5 + 3) v) (fun _ h => .inl h)
        have hbu : Hid (bump Lt[i] = ⟨Lt[i].id, Lt[i].pr, Lt[i].wt, Lt[i].cr + Lt[i].wt, Lt[i].sn⟩) := Lib.hid rfl
        rw [hbu.out] at htk hbt2
        generalize Lt[i].id = x0 at *
        generalize Lt[i].pr = x1 at *
        generalize Lt[i].wt = x2 at *
        generalize Lt[i].cr = x3 at *
        generalize Lt[i].sn = x4 at *
        obtain ⟨S, hSe⟩ : ∃ S, S = x3 + x2 := ⟨_, rfl⟩
        obtain ⟨U, hUe⟩ : ∃ U, U = st + x2 := ⟨_, rfl⟩
        rw [← hSe] at hot2 hbu htk hbt2
        rw [← hUe] at htk hbt2
        have w1e : wrap64 (x3 + x2) = S := by unfold wrap64; omega
        have w2e : IntKind.i64.wrap (x3 + x2) = S := by rw [IntKind.wrap_i64]; omega
        have w3e : wrap64 (st + x2) = U := by unfold wrap64; omega
        have w4e : IntKind.i64.wrap (st + x2) = U := by rw [IntKind.wrap_i64]; omega
        obtain ⟨W2, hW2⟩ : ∃ W2, W2 = (wr.setCell ⟨gr, i * 5 + 3, none⟩ (I S)).drew := ⟨_, rfl⟩
        have hon3 : Only [gr] w1 W2 := by
          have := hon2 (I S)
          rw [hW2]; exact ⟨this.1, this.2, this.3, this.4, this.5⟩
        rw [← hW2] at hot2
        have hiL2 : i < (Lt.set i ⟨x0, x1, x2, S, x4⟩).length := by simpa using hiL
        have hx2 : (Lt.set i ⟨x0, x1, x2, S, x4⟩)[i].wt = x2 := by simp
        obtain ⟨_, _, _, z2, _, _⟩ := c_row (hot2.rs encC_ok) hiL2
        rw [hx2] at z2
        clear hSe hUe hbu hfold hbt hbw hbc hb0 hb1 hLt hta hon2 hx2
        go_wp2_with fail
        go_region
        rw [← hW2]
        clear hW2
        go_wp2_with fail
        go_roundw
        case rel => exact ⟨t + 1, _, U, rfl, by simp, hlt, hot2, hon3, htk, hbt2⟩
        case measure => simp [intOf]; omega
      · obtain rfl : t = N := by omega
        have hall : Lt = L.map (bmp (el rd p)) ∧ st = ws rd p L := by
          have h1 := hfold.out
          rw [HN.out, List.take_length, HA.out.1] at h1
          have h2 := stp_all (el rd p) L [] 0
          rw [List.length_nil, List.nil_append, List.nil_append, Int.zero_add, wsf_el] at h2
          rw [h2] at h1
          injection h1 with h3 h4
          exact ⟨h3.symm, h4.symm⟩
        have hmf := maxFunc_any wr _ gr c5 _ acc Lt t HN.out.symm hN0 (by omega) hq5 (hot.rs encC_ok) (Lib.hid (by rw [hLt.out]; exact hmem.out)) hup
        have hstB := hbt.out
        have Hall := Lib.hid hall
        have HB := Lib.hid hB
        have HG := Lib.hid hG
        have HS := Lib.hid hS
        clear hfold hbt hq5 hall hB hG hS
        go_wp2_with fail
        refine hmf.mono ?_
        rintro e w3 ⟨m, rfl, hmx, nq, rfl⟩
        have hmL := hmx.out.2
        have hmL0 : m < L.length := by rw [← hLt.out]; exact hmL
        have hfin := Lib.hid (next_is HG.out HS.out HA.out.1 HA.out.2 (by rw [← Hall.out.1]; exact hmx.out.1) hmL0)
        have hxid : Lt[m].id = L[m].id := by
          have : Lt[m] = bmp (el rd p) L[m] := by
            have h1 : Lt[m]? = (L.map (bmp (el rd p)))[m]? := by rw [Hall.out.1]
            rw [List.getElem?_eq_getElem hmL, List.getElem?_map, List.getElem?_eq_getElem hmL0] at h1
            exact Option.some.inj h1
          rw [this]; unfold bmp; split <;> rfl
        have hxsn : Lt[m].sn = L[m].sn := by
          have : Lt[m] = bmp (el rd p) L[m] := by
            have h1 : Lt[m]? = (L.map (bmp (el rd p)))[m]? := by rw [Hall.out.1]
            rw [List.getElem?_eq_getElem hmL, List.getElem?_map, List.getElem?_eq_getElem hmL0] at h1
            exact Option.some.inj h1
          rw [this]; unfold bmp; split <;> rfl
        have hsn := HB.out L[m] (List.getElem_mem hmL0)
        have hcr := hstB.c Lt[m] (List.getElem_mem hmL)
        have hs0 := hstB.s0
        have hs1 := hstB.s1
        rw [← hxsn] at hsn
        rw [← hxid, ← Hall.out.1, ← Hall.out.2] at hfin
        obtain ⟨hgB, a0, a1, a2, a3, a4⟩ := c_row ((hot.draws nq).rs encC_ok) hmL
        have af3 := os_free (hot.draws nq) (m * 5 + 3)
        have af4 := os_free (hot.draws nq) (m * 5 + 4)
        have hot2 := os_cred (hot.draws nq) hmL (Lt[m].cr - st)
        have hmL2 : m < (Lt.set m ⟨Lt[m].id, Lt[m].pr, Lt[m].wt, Lt[m].cr - st, Lt[m].sn⟩).length := by simpa using hmL
        have hot3 := os_sent hot2 hmL2 (Lt[m].sn + 1)
        rw [set_fin hmL hmL2] at hot3
        have honf : Only [gr] w (((wr.drewN nq).setCell ⟨gr, m * 5 + 3, none⟩ (I (Lt[m].cr - st))).setCell ⟨gr, m * 5 + 4, none⟩ (I (Lt[m].sn + 1))) :=
          (((Only.of_below (S := []) hb).more (by simp)).trans (((hon.trans (Only.of_below (S := []) (drewN_below wr nq)) (fun _ h => nomatch h)).trans (put1 _ gr (m * 5 + 3) _) (fun _ h => .inl h)).trans (put1 _ gr (m * 5 + 4) _) (fun _ h => .inl h)) (fun _ h => .inl h))
        have hcf := HC.out.only honf (by simp; omega)
        have hgo := hgne
        generalize Lt[m].id = x0 at *
        generalize Lt[m].cr = x3 at *
        generalize Lt[m].sn = x4 at *
        obtain ⟨S, hSe⟩ : ∃ S, S = x3 - st := ⟨_, rfl⟩
        obtain ⟨U, hUe⟩ : ∃ U, U = x4 + 1 := ⟨_, rfl⟩
        rw [← hSe, ← hUe] at hot3 honf hcf
        have w1e : wrap64 (x3 - st) = S := by unfold wrap64; omega
        have w2e : IntKind.i64.wrap (x3 - st) = S := by rw [IntKind.wrap_i64]; omega
        have w3e : wrap64 (x4 + 1) = U := by unfold wrap64; omega
        have w4e : IntKind.i64.wrap (x4 + 1) = U := by rw [IntKind.wrap_i64]; omega
        have HF : Hid (MW (((wr.drewN nq).setCell ⟨gr, m * 5 + 3, none⟩ (I S)).setCell ⟨gr, m * 5 + 4, none⟩ (I U)) base g (some gr) (Lt.modify m (fin st)) ∧ Only [gr] w (((wr.drewN nq).setCell ⟨gr, m * 5 + 3, none⟩ (I S)).setCell ⟨gr, m * 5 + 4, none⟩ (I U))) :=
          Lib.hid ⟨⟨_, by rw [← Hn.out] at hcf; exact hcf, hot3, rfl⟩, honf⟩
        clear hSe hUe hot2 hot3 honf hcf hstB hsn hcr hs0 hs1 hxid hxsn hmf hmL2 hot hon
        go_wp2_with fail
        go_ret2
        exact ⟨some x0, _, rfl, hfin, HF.out.1, HF.out.2⟩
end Go.Proofs.Ytpfhbojodapomaa.Mux
