/-
  Package link: Send.
-/
import Derived.Test.YtllhdgllgoanbaaLnkW3
import Derived.Test.YtllhdgllgoanbaaLater
import Derived.Test.YtllhdgllgoanbaaHand
import Derived.Test.YtllhdgllgoanbaaRngW0
import Derived.Test.YtllhdgllgoanbaaIntS
namespace Go.Proofs.Ytllhdgllgoanbaa.Lnk
open Go.RowKit Go.Proofs.Ytllhdgllgoanbaa.Row
open Rng (R)

/-- bytes that stay while block g is written -/
def Bo (w : World) (g : Nat) (a : Option Addr) (b : List Byte) : Prop := ∀ W, Only [g] w W → Bs W W.heap.size a b
theorem Bo_low {w : World} {B g : Nat} {a : Option Addr} {b : List Byte} (h : Bs w B a b) (hB : B ≤ w.heap.size) (hg : B ≤ g) : Bo w g a b := fun _ k => (h.below (k.below hB (by simpa using hg))).more (Nat.le_trans hB k.size)
theorem Bo_dq {w : World} {g k : Nat} {t : TypeId} {cs : Array Value} {a : Option Addr} {b : List Byte} (h : Dq w b a k) (hc : Cel w g t cs) (ht : ¬ Fx t) : Bo w g a b := fun _ q =>
  (h.keep (.of_only q (fun x hx => by rw [List.mem_singleton.1 hx]; exact not_fx hc ht))).bs

section
variable {c : Cf} {Ao Al Af : Option Addr} {no co nl cl nf cf base g : Nat} {w : World} {v : Value} {ts : List Tq} {s : LS}
theorem has_n (h : Ch w c Ao no co Al nl cl Af nf cf) (hm : no ≤ 1000000) (t : Int) : Calls Try.prog 26 #[.slice Ao no co, I t] w fun e w' => e = .returned (.bool (Rng.has c.ot t)) ∧ Below w.heap.size w w' := by
  have := Rng.has_any c.ot t w Ao co (Rng_of h.o.r.rs) (by rw [h.o.len]; omega)
  rw [h.o.len] at this
  exact this
theorem con_n (h : Ch w c Ao no co Al nl cl Af nf cf) (hm : nl ≤ 1000000) (t : Int) : Calls Try.prog 27 #[.slice Al nl cl, I t] w fun e w' => e = .returned (.bool (decide (t ∈ c.lo))) ∧ w = w' := by
  have := Ints.icontains_any t c.lo w Al cl (Ns_of h.l.r.rs) (by rw [h.l.len]; omega)
  rw [h.l.len] at this
  exact this
/-- what the append and the store of Send leave -/
theorem LC.sent {w2 w6 W7 W8 : World} {B0 nd k6 : Nat} {t x : Int} {n : Nat} {wt : List (Int × List Byte)} {A6 : Option Addr} {d : List Byte} {v7 : Value} (h : LC w2 base g v ts c ⟨t, n, wt⟩ Ao no co Al nl cl Af nf cf) (b6 : Below w2.heap.size w2 w6) (hd : d.length = nd) (o6 : Ow w6 B0 5 (.slice A6 nd k6) d) (b7 : Below w6.heap.size w6 W7)
    (own : Row.Os encT 2 W8 base 71 v7 (ts ++ [⟨x, ⟨d, A6, k6⟩⟩])) (gr : W7.grownBy W8 v.ownBlock) (hv : v7.ownBlock = v.ownBlock ∨ v7.ownBlock = some W7.heap.size) :
    Cel W8 g 61 #[.bool true, I c.dl, .slice Ao no co, .slice Al nl cl, .slice Af nf cf, I t, I (n : Int), v] ∧ LC (W8.setCell ⟨g, 7, none⟩ v7) base g v7 (ts ++ [⟨x, ⟨d, A6, k6⟩⟩]) c ⟨t, n, wt ++ [(x, d)]⟩ Ao no co Al nl cl Af nf cf ∧ Only (g :: v.ownBlock.toList) w2 (W8.setCell ⟨g, 7, none⟩ v7) ∧ (v7.ownBlock = v.ownBlock ∨ ∃ i, v7.ownBlock = some i ∧ w2.heap.size ≤ i) := by
  have b67 := b6.trans (b7.mono b6.size)
  have h7 := h.below b67
  have k8 : Only v.ownBlock.toList W7 W8 := Only.of_grown gr
  have c8 := h7.cel.only k8 (fun hm => h.off (by simpa using hm))
  have k9 : Only [g] W8 (W8.setCell ⟨g, 7, none⟩ v7) := (Only.refl _ _).put (.inl (by simp)) _
  have kk : Only (g :: v.ownBlock.toList) W7 (W8.setCell ⟨g, 7, none⟩ v7) := (k8.more (fun x hx => .inl (List.mem_cons_of_mem _ hx))).trans k9 (fun x hx => .inl (by simp at hx; simp [hx]))
  have q7 := h7.kq kk
  have hne : v7.ownBlock ≠ some g := by
    rcases hv with e | e
    · rw [e]; exact h.off
    · rw [e]; intro e2; injection e2 with e2; have := h7.cel.lt; omega
  have d6 : Dq w6 d A6 k6 := by subst hd; exact Dq.own o6
  refine ⟨c8, ⟨c8.put 7 v7, h7.ch.keep q7, Row.Os.only own k9 (fun i hi hm => hne (by rw [hi, List.mem_singleton.1 hm])), ?_, ?_, h.ok⟩, (Only.of_below b67).trans kk (fun x hx => .inl hx), ?_⟩
  · rw [List.map_append, h.tp]; rfl
  · intro y hy
    rcases List.mem_append.1 hy with hy | hy
    · exact (h7.dq y hy).keep q7
    · rw [List.mem_singleton.1 hy]
      exact (d6.keep (Kq.of_below b7)).keep q7
  · rcases hv with e | e
    · exact .inl e
    · exact .inr ⟨_, e, b67.size⟩
set_option maxHeartbeats 4000000 in
set_option maxRecDepth 100000 in
theorem send_c (h : LC w base g v ts c s Ao no co Al nl cl Af nf cf) {N : Nat} (hs : s.Ok N) (hN : N ≤ 100000) (m1 : no ≤ 1000000) (m2 : nl ≤ 1000000) (m3 : nf ≤ 1000000) (hbase : base ≤ w.heap.size) (now : Int) (a : Option Addr) (b : List Byte) (n k : Nat) (hl : Hid (b.length = n)) (hb : Bo w g a b) (hn : a = none → k = 0) (hm : n ≤ 1000000) :
    Calls Try.prog 11 #[.pointer (some ⟨g, 0, none⟩), I now, .slice a n k] w fun e w' => e = .returned (.int .i64 0) ∧ ∃ v' ts', LC w' base g v' ts' c (snd c now b s) Ao no co Al nl cl Af nf cf ∧ Only (g :: v.ownBlock.toList) w w' ∧ (v'.ownBlock = v.ownBlock ∨ ∃ i, v'.ownBlock = some i ∧ w.heap.size ≤ i) := by
  have hw := h.works
  have ha := adv_any h now
  obtain ⟨S', hS'⟩ : ∃ S', S' = snd c now b s := ⟨_, rfl⟩
  rw [← hS']
  unfold snd at hS'
  obtain ⟨sn, hsn⟩ : ∃ sn, sn = s.sn := ⟨_, rfl⟩
  obtain ⟨wt, hwt⟩ : ∃ wt, wt = s.wt := ⟨_, rfl⟩
  obtain ⟨t, ht⟩ : ∃ t, t = adv s.tm now := ⟨_, rfl⟩
  have hbd := adv_bd (now := now) hs.t0 hs.t1
  have hN2 := hs.n
  have hW2 := hs.w
  have hdl := Cf.ok_dl h.ok
  rw [← hsn, ← hwt, ← ht] at ha hS'
  rw [← ht] at hbd
  rw [← hsn] at hN2 hW2
  rw [← hwt] at hW2
  have HB := Lib.hid hb
  have HS := Lib.hid hS'
  have HG := Lib.hid hbase
  have sz := h.cel.lt
  clear h hs hsn hwt ht hS' hb hbase
  go_enter Try.func11, Try.ntmps11
  go_wp2_with fail
  refine hw.mono ?_
  rintro e w1 ⟨rfl, rfl⟩
  go_wp2_with fail
  refine ha.mono ?_
  rintro e w1 ⟨rfl, h1, k1⟩
  clear ha hw
  have c6 := h1.cel.cell 6
  have f6 := h1.cel.free 6
  simp at c6
  have k2 : Only [g] w1 (w1.setCell ⟨g, 6, none⟩ (I ((sn + 1 : Nat) : Int))) := (Only.refl _ _).put (.inl (by simp)) _
  have h2 := h1.turn (t := t) (n := sn + 1) k2 (h1.cel.put 6 (I ((sn + 1 : Nat) : Int)))
  have k3 := k1.trans k2 (fun x hx => .inl hx)
  rw [show ((sn + 1 : Nat) : Int) = (sn : Int) + 1 by omega] at k2 h2 k3
  obtain ⟨w2, hw2⟩ : ∃ w2, w2 = w1.setCell ⟨g, 6, none⟩ (I ((sn : Int) + 1)) := ⟨_, rfl⟩
  rw [← hw2] at h2 k3
  have HW := Lib.hid hw2
  have H2 := Lib.hid h2
  have K3 := Lib.hid k3
  have hsn1 : (sn : Int) + 1 ≤ 200000 := by omega
  have hsn0 : (0 : Int) ≤ (sn : Int) := by omega
  clear h1 k1 k2 h2 k3 hw2
  go_wp2_with fail
  rw [← HW.out]
  have hg2 := H2.out.cel.lt
  have e2 := H2.out.cel.cell 2
  have e3 := H2.out.cel.cell 3
  have e5 := H2.out.cel.cell 5
  simp at e2 e3 e5
  have r2 : ∀ p : Later w2, p.W.cell? ⟨g, 2, none⟩ = some (.slice Ao no co) := later_cell e2 hg2
  have r3 : ∀ p : Later w2, p.W.cell? ⟨g, 3, none⟩ = some (.slice Al nl cl) := later_cell e3 hg2
  have r5 : ∀ p : Later w2, p.W.cell? ⟨g, 5, none⟩ = some (I t) := later_cell e5 hg2
  have hh := fun p : Later w2 => later_of (p := p) (has_n (H2.out.ch.keep (Kq.of_below p.h)) m1 t)
  have hc := fun p : Later w2 => later_same (p := p) (con_n (H2.out.ch.keep (Kq.of_below p.h)) m2 (sn : Int))
  clear e2 e3 e5
  have HG2 := Lib.hid (show gone c t sn = (Rng.has c.ot t || decide ((sn : Int) ∈ c.lo)) from rfl)
  cases hA : Rng.has c.ot t with
  | true =>
    rw [hA] at hh HG2
    have hS2 : S' = ⟨t, sn + 1, wt⟩ := by rw [HS.out, if_pos (by rw [HG2.out]; rfl)]
    clear hA hc
    refine wp_region_later (by kernel_rfl) (by kernel_rfl) ?_
    repeat (go_big_quiet_step (first | (go_at_call 26; exact hh _)))
    refine wpQuiet_nil ?_
    rintro w5 ⟨p5, hp5⟩
    have hb5' : Below w2.heap.size w2 w5 := by rw [hp5]; exact p5.h
    clear hp5 p5
    go_wp2
    go_ret
    have hk := K3.out.trans (Only.of_below (S := []) hb5') (by simp)
    exact ⟨rfl, v, ts, by rw [hS2]; exact H2.out.below hb5', hk.more (fun x hx => .inl (by simp at hx; simp [hx])), .inl rfl⟩
  | false =>
    rw [hA] at hh HG2
    clear hA
    cases hC : decide ((sn : Int) ∈ c.lo) with
    | true =>
      rw [hC] at hc HG2
      have hS2 : S' = ⟨t, sn + 1, wt⟩ := by rw [HS.out, if_pos (by rw [HG2.out]; rfl)]
      clear hC
      refine wp_region_later (by kernel_rfl) (by kernel_rfl) ?_
      repeat (go_big_quiet_step (first | (go_at_call 26; exact hh _) | (go_at_call 27; exact hc _)))
      refine wpQuiet_nil ?_
      rintro w5 ⟨p5, hp5⟩
      have hb5' : Below w2.heap.size w2 w5 := by rw [hp5]; exact p5.h
      clear hp5 p5
      go_wp2
      go_ret
      have hk := K3.out.trans (Only.of_below (S := []) hb5') (by simp)
      exact ⟨rfl, v, ts, by rw [hS2]; exact H2.out.below hb5', hk.more (fun x hx => .inl (by simp at hx; simp [hx])), .inl rfl⟩
    | false =>
      rw [hC] at hc HG2
      have hS2 : Hid (S' = ⟨t, sn + 1, wt ++ [(t + c.dl, dmg c.fl sn b)]⟩) := Lib.hid (by rw [HS.out, if_neg (by rw [HG2.out]; decide)])
      clear hC
      refine wp_region_later (by kernel_rfl) (by kernel_rfl) ?_
      repeat (go_big_quiet_step (first | (go_at_call 26; exact hh _) | (go_at_call 27; exact hc _)))
      refine wpQuiet_nil ?_
      rintro w5 ⟨p5, hp5⟩
      have hb5' : Below w2.heap.size w2 w5 := by rw [hp5]; exact p5.h
      clear hp5 p5
      go_wp2_with fail
      have hb6 : Below w2.heap.size w2 (w5.drewN 1) := hb5'.trans (drewN_below _ 1)
      have h6 := H2.out.below hb6
      have z0 := h6.cel
      have z1 := z0.cell 1
      have z5 := z0.cell 5
      have z7 := z0.cell 7
      simp at z1 z5 z7
      have hcall := dmg_any h6 (sn : Int) a b n k hl (HB.out _ (K3.out.trans (Only.of_below (S := []) hb6) (by simp))) hn hm m3
      obtain ⟨dl, hdl2⟩ : ∃ dl, dl = c.dl := ⟨_, rfl⟩
      have HDL := Lib.hid hdl2
      rw [← hdl2] at z1 hdl hS2
      obtain ⟨X, hX⟩ : ∃ X, X = t + dl := ⟨_, rfl⟩
      have hX1 : wrap64 (t + dl) = X := by rw [hX]; exact IntWalk.wrap64_in _ (by omega)
      have hX2 : IntKind.i64.wrap (t + dl) = X := by rw [IntKind.wrap_i64]; omega
      have hX3 : IntKind.i64.wrap X = X := by rw [IntKind.wrap_i64]; omega
      have hX4 : wrap64 X = X := IntWalk.wrap64_in _ (by omega)
      rw [← hX] at hS2
      have hlT := h6.len
      simp only at hlT
      obtain ⟨M, hM⟩ : ∃ M, M = wt.length := ⟨_, rfl⟩
      rw [← hM] at hlT hW2
      obtain ⟨A7, c7, e7, _⟩ := h6.os.reads_len encT_ok hlT
      subst e7
      obtain ⟨D, hD⟩ : ∃ D, D = dmg c.fl (sn : Int) b := ⟨_, rfl⟩
      rw [← hD] at hcall hS2
      have hDl : Hid (D.length = n) := Lib.hid (by rw [hD, dmg_len]; exact hl.out)
      have HLT := Lib.hid hlT
      have HGs : Hid (base ≤ w2.heap.size) := Lib.hid (Nat.le_trans HG.out K3.out.size)
      have HK := Lib.hid hW2
      have HN := Lib.hid (And.intro hN hN2)
      clear r2 r3 r5 hh hc hdl2 hX hM hlT hD h6 hb5' z0 hsn1 hsn0 hbd hdl hW2 hN hN2
      refine wp_region_held_drew (S := (fun w' => w'.cell? ⟨g, 1, none⟩ = some (I dl) ∧ w'.cell? ⟨g, 5, none⟩ = some (I t))) (by kernel_rfl) (⟨z1, z5⟩) (fun hHeld => ?_)
      refine wpAnyH_here 0 (v := ?_) rfl (by kernel_rfl) (by kernel_rfl) (by kernel_rfl) (fun _ _ _ h => h) (Or.inl ⟨by rfl, ?_⟩) hHeld ?_
      rotate_left
      · intro w hSw; (try dsimp only at hSw); go_simp; all_goals (with_reducible rfl)
      try simp only [Act.put, List.setIfInBounds_toArray, List.set_cons_zero, List.set_cons_succ]
      refine wpAnyH_here 1 (v := ?_) rfl (by kernel_rfl) (by kernel_rfl) (by kernel_rfl) (fun _ _ _ h => h) (Or.inl ⟨by rfl, ?_⟩) hHeld ?_
      rotate_left
      · intro w hSw; (try dsimp only at hSw); go_simp; all_goals (with_reducible rfl)
      try simp only [Act.put, List.setIfInBounds_toArray, List.set_cons_zero, List.set_cons_succ]
      refine wpAnyH_here 2 (v := ?_) rfl (by kernel_rfl) (by kernel_rfl) (by kernel_rfl) (fun _ _ _ h => h) (Or.inl ⟨by rfl, ?_⟩) hHeld ?_
      rotate_left
      · intro w hSw; (try dsimp only at hSw); go_simp; all_goals (with_reducible rfl)
      try simp only [Act.put, List.setIfInBounds_toArray, List.set_cons_zero, List.set_cons_succ]
      refine wpAnyH_here 3 (v := ?_) rfl (by kernel_rfl) (by kernel_rfl) (by kernel_rfl) (fun _ _ _ h => h) (Or.inl ⟨by rfl, ?_⟩) hHeld ?_
      rotate_left
      · intro w hSw; (try dsimp only at hSw); go_simp; all_goals (with_reducible rfl)
      try simp only [Act.put, List.setIfInBounds_toArray, List.set_cons_zero, List.set_cons_succ]
      refine wpAnyH_here 5 (v := ?_) rfl (by kernel_rfl) (by kernel_rfl) (by kernel_rfl) (fun _ _ _ h => h) (Or.inl ⟨by rfl, ?_⟩) hHeld ?_
      rotate_left
      · intro w hSw; (try dsimp only at hSw); go_simp; all_goals (with_reducible rfl)
      try simp only [Act.put, List.setIfInBounds_toArray, List.set_cons_zero, List.set_cons_succ]
      refine wpAnyH_here 6 (v := ?_) rfl (by kernel_rfl) (by kernel_rfl) (by kernel_rfl) (fun _ _ _ h => h) (Or.inl ⟨by rfl, ?_⟩) hHeld ?_
      rotate_left
      · intro w hSw; (try dsimp only at hSw); go_simp; all_goals (with_reducible rfl)
      try simp only [Act.put, List.setIfInBounds_toArray, List.set_cons_zero, List.set_cons_succ]
      refine wpAnyH_here 7 (v := ?_) rfl (by kernel_rfl) (by kernel_rfl) (by kernel_rfl) (fun _ _ _ h => h) (Or.inl ⟨by rfl, ?_⟩) hHeld ?_
      rotate_left
      · intro w hSw; (try dsimp only at hSw); go_simp; all_goals (with_reducible rfl)
      try simp only [Act.put, List.setIfInBounds_toArray, List.set_cons_zero, List.set_cons_succ]
      refine wpAnyH_here 8 (v := ?_) rfl (by kernel_rfl) (by kernel_rfl) (by kernel_rfl) (fun _ _ _ h => h) (Or.inl ⟨by rfl, ?_⟩) hHeld ?_
      rotate_left
      · intro w hSw; (try dsimp only at hSw); go_simp; all_goals (with_reducible rfl)
      try simp only [Act.put, List.setIfInBounds_toArray, List.set_cons_zero, List.set_cons_succ]
      refine wpAnyH_here 9 (v := ?_) rfl (by kernel_rfl) (by kernel_rfl) (by kernel_rfl) (fun _ _ _ h => h) (Or.inl ⟨by rfl, ?_⟩) hHeld ?_
      rotate_left
      · intro w hSw; (try dsimp only at hSw); go_simp; all_goals (with_reducible rfl)
      try simp only [Act.put, List.setIfInBounds_toArray, List.set_cons_zero, List.set_cons_succ]
      refine wpAnyH_here 10 (v := ?_) rfl (by kernel_rfl) (by kernel_rfl) (by kernel_rfl) (fun _ _ _ h => h) (Or.inl ⟨by rfl, ?_⟩) hHeld ?_
      rotate_left
      · intro w hSw; (try dsimp only at hSw); go_simp; all_goals (with_reducible rfl)
      try simp only [Act.put, List.setIfInBounds_toArray, List.set_cons_zero, List.set_cons_succ]
      refine wpAnyH_here 11 (v := ?_) rfl (by kernel_rfl) (by kernel_rfl) (by kernel_rfl) (fun _ _ _ h => h) (Or.inl ⟨by rfl, ?_⟩) hHeld ?_
      rotate_left
      · intro w hSw; (try dsimp only at hSw); go_simp; all_goals (with_reducible rfl)
      try simp only [Act.put, List.setIfInBounds_toArray, List.set_cons_zero, List.set_cons_succ]
      refine wpAnyH_here 12 (v := ?_) rfl (by kernel_rfl) (by kernel_rfl) (by kernel_rfl) (fun _ _ _ h => h) (Or.inl ⟨by rfl, ?_⟩) hHeld ?_
      rotate_left
      · intro w hSw; (try dsimp only at hSw); go_simp; all_goals (with_reducible rfl)
      try simp only [Act.put, List.setIfInBounds_toArray, List.set_cons_zero, List.set_cons_succ]
      refine wpAnyH_here 13 (v := ?_) rfl (by kernel_rfl) (by kernel_rfl) (by kernel_rfl) (fun _ _ _ h => h) (Or.inl ⟨by rfl, ?_⟩) hHeld ?_
      rotate_left
      · intro w hSw; (try dsimp only at hSw); go_simp; all_goals (with_reducible rfl)
      try simp only [Act.put, List.setIfInBounds_toArray, List.set_cons_zero, List.set_cons_succ]
      refine wpAnyH_here 14 (v := ?_) rfl (by kernel_rfl) (by kernel_rfl) (by kernel_rfl) (fun _ _ _ h => h) (Or.inl ⟨by rfl, ?_⟩) hHeld ?_
      rotate_left
      · intro w hSw; (try dsimp only at hSw); go_simp; all_goals (with_reducible rfl)
      try simp only [Act.put, List.setIfInBounds_toArray, List.set_cons_zero, List.set_cons_succ]
      refine wpAnyH_here 15 (v := ?_) rfl (by kernel_rfl) (by kernel_rfl) (by kernel_rfl) (fun _ _ _ h => h) (Or.inl ⟨by rfl, ?_⟩) hHeld ?_
      rotate_left
      · intro w hSw; (try dsimp only at hSw); go_simp; all_goals (with_reducible rfl)
      try simp only [Act.put, List.setIfInBounds_toArray, List.set_cons_zero, List.set_cons_succ]
      refine wpAnyH_here 16 (v := ?_) rfl (by kernel_rfl) (by kernel_rfl) (by kernel_rfl) (fun _ _ _ h => h) (Or.inl ⟨by rfl, ?_⟩) hHeld ?_
      rotate_left
      · intro w hSw; (try dsimp only at hSw); go_simp; all_goals (with_reducible rfl)
      try simp only [Act.put, List.setIfInBounds_toArray, List.set_cons_zero, List.set_cons_succ]
      refine wpAnyH_here 17 (v := ?_) rfl (by kernel_rfl) (by kernel_rfl) (by kernel_rfl) (fun _ _ _ h => h) (Or.inl ⟨by rfl, ?_⟩) hHeld ?_
      rotate_left
      · intro w hSw; (try dsimp only at hSw); go_simp; all_goals (with_reducible rfl)
      try simp only [Act.put, List.setIfInBounds_toArray, List.set_cons_zero, List.set_cons_succ]
      refine wpAnyH_both 4 18 rfl rfl (by kernel_rfl) (fun K hK => ?_) (fun K hK => ?_)
      · go_simp
        skip
        refine hK.out _ _ (⟨z1, z5⟩) (fun hHeld => ?_)
        clear hK K
        try simp only [Act.put, List.setIfInBounds_toArray, List.set_cons_zero, List.set_cons_succ]
        refine wpAnyH_alone 18 rfl (by kernel_rfl) (fun K hK => ?_)
        go_simp
        refine hcall.mono ?_; rintro e w6 ⟨v6, rfl, o6, b6⟩; obtain ⟨A6, k6, rfl, _⟩ := o6.reads_len hDl.out; have b6' := hb6.trans (b6.mono hb6.size); have h7 := H2.out.below b6'; have y1 := h7.cel.cell 1; have y5 := h7.cel.cell 5; have y7 := h7.cel.cell 7; simp at y1 y5 y7; rw [← HDL.out] at y1
        refine hK.out _ _ (⟨y1, y5⟩) (fun hHeld => ?_)
        clear hK K
        try simp only [Act.put, List.setIfInBounds_toArray, List.set_cons_zero, List.set_cons_succ]
        refine wpAnyH_here 19 (v := ?_) rfl (by kernel_rfl) (by kernel_rfl) (by kernel_rfl) (fun _ _ _ h => h) (Or.inl ⟨by rfl, ?_⟩) hHeld ?_
        rotate_left
        · intro w hSw; (try dsimp only at hSw); go_simp; all_goals (with_reducible rfl)
        try simp only [Act.put, List.setIfInBounds_toArray, List.set_cons_zero, List.set_cons_succ]
        refine wpAnyH_alone 20 rfl (by kernel_rfl) (fun K hK => ?_)
        go_simp
        (obtain ⟨W7, hW7⟩ : ∃ W7, W7 = w6.alloc (.cells #[I X, .slice A6 n k6] 71) := ⟨_, rfl⟩); (have b7 : Below w6.heap.size w6 W7 := by rw [hW7]; exact bel_new _ _); (have rs7 : Row.Rs encT 2 W7 (w6.heap.size + 1) (some ⟨w6.heap.size, 0, none⟩) [(⟨X, ⟨D, A6, k6⟩⟩ : Tq)] := by rw [hW7]; exact Row.Rs_new1 encT_ok w6 _ _ _ (by unfold encT; rw [hDl.out])); (have h8 := h7.below b7); (have x1 := h8.cel.cell 1); (have x5 := h8.cel.cell 5); (have x7 := h8.cel.cell 7); simp at x1 x5 x7; rw [← HDL.out] at x1; rw [← hW7]; clear hW7
        refine hK.out _ _ (⟨x1, x5⟩) (fun hHeld => ?_)
        clear hK K
        try simp only [Act.put, List.setIfInBounds_toArray, List.set_cons_zero, List.set_cons_succ]
        refine wpAnyH_alone 21 rfl (by kernel_rfl) (fun K hK => ?_)
        (refine Row.step_row _ encT_ok is_trans (by decide) rfl (.tmp 50) (.tmp 66) rfl (m := ts) rfl h8.os (l := [(⟨X, ⟨D, A6, k6⟩⟩ : Tq)]) (n := 1) (A := some ⟨w6.heap.size, 0, none⟩) (c := 1) rfl rfl rs7 (fun h => nomatch h) (by rw [HLT.out]; simp; have := HK.out; have := HN.out.1; have := HN.out.2; omega) (Nat.le_trans HGs.out (Nat.le_trans b6'.size b7.size)) ?_); intro v8 W8 own8 gr8 hv8; have hfin := H2.out.sent b6' hDl.out o6 b7 own8 gr8 hv8; have u0 := hfin.1; have u1 := u0.cell 1; have u5 := u0.cell 5; have uf := u0.free 7; have u7 := u0.cell 7; simp at u1 u5 u7; rw [← HDL.out] at u1; (obtain ⟨A8, c8, e8, _⟩ := own8.reads_len (n := M + 1) encT_ok (by rw [List.length_append, HLT.out]; rfl)); subst e8; have n1 := (u0.put 7 (.slice A8 (M + 1) c8)).cell 1; have n5 := (u0.put 7 (.slice A8 (M + 1) c8)).cell 5; simp at n1 n5; rw [← HDL.out] at n1; have HF := Lib.hid hfin.2; clear hfin u0 own8 gr8 hv8
        refine hK.out _ _ (⟨u1, u5⟩) (fun hHeld => ?_)
        clear hK K
        try simp only [Act.put, List.setIfInBounds_toArray, List.set_cons_zero, List.set_cons_succ]
        refine wpAnyH_here 22 (v := ?_) rfl (by kernel_rfl) (by kernel_rfl) (by kernel_rfl) (fun _ _ _ h => h) (Or.inl ⟨by rfl, ?_⟩) hHeld ?_
        rotate_left
        · intro w hSw; (try dsimp only at hSw); go_simp; all_goals (with_reducible rfl)
        try simp only [Act.put, List.setIfInBounds_toArray, List.set_cons_zero, List.set_cons_succ]
        refine wpAnyH_here 23 (v := ?_) rfl (by kernel_rfl) (by kernel_rfl) (by kernel_rfl) (fun _ _ _ h => h) (Or.inl ⟨by rfl, ?_⟩) hHeld ?_
        rotate_left
        · intro w hSw; (try dsimp only at hSw); go_simp; all_goals (with_reducible rfl)
        try simp only [Act.put, List.setIfInBounds_toArray, List.set_cons_zero, List.set_cons_succ]
        refine wpAnyH_alone 24 rfl (by kernel_rfl) (fun K hK => ?_)
        go_simp
        skip
        refine hK.out _ _ (⟨n1, n5⟩) (fun hHeld => ?_)
        clear hK K
        try simp only [Act.put, List.setIfInBounds_toArray, List.set_cons_zero, List.set_cons_succ]
        refine wpAnyH_done (by kernel_rfl) ?_ _
        go_wp2
        go_ret
        exact ⟨rfl, _, _, by rw [hS2.out]; exact HF.out.1, (K3.out.more (fun x hx => .inl (by simp at hx; simp [hx]))).trans HF.out.2.1 (fun x hx => .inl hx), HF.out.2.2.elim .inl (fun ⟨i, hi, hj⟩ => .inr ⟨i, hi, Nat.le_trans K3.out.size hj⟩)⟩
      · go_simp
        refine hcall.mono ?_; rintro e w6 ⟨v6, rfl, o6, b6⟩; obtain ⟨A6, k6, rfl, _⟩ := o6.reads_len hDl.out; have b6' := hb6.trans (b6.mono hb6.size); have h7 := H2.out.below b6'; have y1 := h7.cel.cell 1; have y5 := h7.cel.cell 5; have y7 := h7.cel.cell 7; simp at y1 y5 y7; rw [← HDL.out] at y1
        refine hK.out _ _ (⟨y1, y5⟩) (fun hHeld => ?_)
        clear hK K
        try simp only [Act.put, List.setIfInBounds_toArray, List.set_cons_zero, List.set_cons_succ]
        refine wpAnyH_here 19 (v := ?_) rfl (by kernel_rfl) (by kernel_rfl) (by kernel_rfl) (fun _ _ _ h => h) (Or.inl ⟨by rfl, ?_⟩) hHeld ?_
        rotate_left
        · intro w hSw; (try dsimp only at hSw); go_simp; all_goals (with_reducible rfl)
        try simp only [Act.put, List.setIfInBounds_toArray, List.set_cons_zero, List.set_cons_succ]
        refine wpAnyH_both 4 20 rfl rfl (by kernel_rfl) (fun K hK => ?_) (fun K hK => ?_)
        · go_simp
          skip
          refine hK.out _ _ (⟨y1, y5⟩) (fun hHeld => ?_)
          clear hK K
          try simp only [Act.put, List.setIfInBounds_toArray, List.set_cons_zero, List.set_cons_succ]
          refine wpAnyH_alone 20 rfl (by kernel_rfl) (fun K hK => ?_)
          go_simp
          (obtain ⟨W7, hW7⟩ : ∃ W7, W7 = w6.alloc (.cells #[I X, .slice A6 n k6] 71) := ⟨_, rfl⟩); (have b7 : Below w6.heap.size w6 W7 := by rw [hW7]; exact bel_new _ _); (have rs7 : Row.Rs encT 2 W7 (w6.heap.size + 1) (some ⟨w6.heap.size, 0, none⟩) [(⟨X, ⟨D, A6, k6⟩⟩ : Tq)] := by rw [hW7]; exact Row.Rs_new1 encT_ok w6 _ _ _ (by unfold encT; rw [hDl.out])); (have h8 := h7.below b7); (have x1 := h8.cel.cell 1); (have x5 := h8.cel.cell 5); (have x7 := h8.cel.cell 7); simp at x1 x5 x7; rw [← HDL.out] at x1; rw [← hW7]; clear hW7
          refine hK.out _ _ (⟨x1, x5⟩) (fun hHeld => ?_)
          clear hK K
          try simp only [Act.put, List.setIfInBounds_toArray, List.set_cons_zero, List.set_cons_succ]
          refine wpAnyH_alone 21 rfl (by kernel_rfl) (fun K hK => ?_)
          (refine Row.step_row _ encT_ok is_trans (by decide) rfl (.tmp 50) (.tmp 66) rfl (m := ts) rfl h8.os (l := [(⟨X, ⟨D, A6, k6⟩⟩ : Tq)]) (n := 1) (A := some ⟨w6.heap.size, 0, none⟩) (c := 1) rfl rfl rs7 (fun h => nomatch h) (by rw [HLT.out]; simp; have := HK.out; have := HN.out.1; have := HN.out.2; omega) (Nat.le_trans HGs.out (Nat.le_trans b6'.size b7.size)) ?_); intro v8 W8 own8 gr8 hv8; have hfin := H2.out.sent b6' hDl.out o6 b7 own8 gr8 hv8; have u0 := hfin.1; have u1 := u0.cell 1; have u5 := u0.cell 5; have uf := u0.free 7; have u7 := u0.cell 7; simp at u1 u5 u7; rw [← HDL.out] at u1; (obtain ⟨A8, c8, e8, _⟩ := own8.reads_len (n := M + 1) encT_ok (by rw [List.length_append, HLT.out]; rfl)); subst e8; have n1 := (u0.put 7 (.slice A8 (M + 1) c8)).cell 1; have n5 := (u0.put 7 (.slice A8 (M + 1) c8)).cell 5; simp at n1 n5; rw [← HDL.out] at n1; have HF := Lib.hid hfin.2; clear hfin u0 own8 gr8 hv8
          refine hK.out _ _ (⟨u1, u5⟩) (fun hHeld => ?_)
          clear hK K
          try simp only [Act.put, List.setIfInBounds_toArray, List.set_cons_zero, List.set_cons_succ]
          refine wpAnyH_here 22 (v := ?_) rfl (by kernel_rfl) (by kernel_rfl) (by kernel_rfl) (fun _ _ _ h => h) (Or.inl ⟨by rfl, ?_⟩) hHeld ?_
          rotate_left
          · intro w hSw; (try dsimp only at hSw); go_simp; all_goals (with_reducible rfl)
          try simp only [Act.put, List.setIfInBounds_toArray, List.set_cons_zero, List.set_cons_succ]
          refine wpAnyH_here 23 (v := ?_) rfl (by kernel_rfl) (by kernel_rfl) (by kernel_rfl) (fun _ _ _ h => h) (Or.inl ⟨by rfl, ?_⟩) hHeld ?_
          rotate_left
          · intro w hSw; (try dsimp only at hSw); go_simp; all_goals (with_reducible rfl)
          try simp only [Act.put, List.setIfInBounds_toArray, List.set_cons_zero, List.set_cons_succ]
          refine wpAnyH_alone 24 rfl (by kernel_rfl) (fun K hK => ?_)
          go_simp
          skip
          refine hK.out _ _ (⟨n1, n5⟩) (fun hHeld => ?_)
          clear hK K
          try simp only [Act.put, List.setIfInBounds_toArray, List.set_cons_zero, List.set_cons_succ]
          refine wpAnyH_done (by kernel_rfl) ?_ _
          go_wp2
          go_ret
          exact ⟨rfl, _, _, by rw [hS2.out]; exact HF.out.1, (K3.out.more (fun x hx => .inl (by simp at hx; simp [hx]))).trans HF.out.2.1 (fun x hx => .inl hx), HF.out.2.2.elim .inl (fun ⟨i, hi, hj⟩ => .inr ⟨i, hi, Nat.le_trans K3.out.size hj⟩)⟩
        · go_simp
          (obtain ⟨W7, hW7⟩ : ∃ W7, W7 = w6.alloc (.cells #[I X, .slice A6 n k6] 71) := ⟨_, rfl⟩); (have b7 : Below w6.heap.size w6 W7 := by rw [hW7]; exact bel_new _ _); (have rs7 : Row.Rs encT 2 W7 (w6.heap.size + 1) (some ⟨w6.heap.size, 0, none⟩) [(⟨X, ⟨D, A6, k6⟩⟩ : Tq)] := by rw [hW7]; exact Row.Rs_new1 encT_ok w6 _ _ _ (by unfold encT; rw [hDl.out])); (have h8 := h7.below b7); (have x1 := h8.cel.cell 1); (have x5 := h8.cel.cell 5); (have x7 := h8.cel.cell 7); simp at x1 x5 x7; rw [← HDL.out] at x1; rw [← hW7]; clear hW7
          refine hK.out _ _ (⟨x1, x5⟩) (fun hHeld => ?_)
          clear hK K
          try simp only [Act.put, List.setIfInBounds_toArray, List.set_cons_zero, List.set_cons_succ]
          refine wpAnyH_alone 4 rfl (by kernel_rfl) (fun K hK => ?_)
          go_simp
          skip
          refine hK.out _ _ (⟨x1, x5⟩) (fun hHeld => ?_)
          clear hK K
          try simp only [Act.put, List.setIfInBounds_toArray, List.set_cons_zero, List.set_cons_succ]
          refine wpAnyH_alone 21 rfl (by kernel_rfl) (fun K hK => ?_)
          (refine Row.step_row _ encT_ok is_trans (by decide) rfl (.tmp 50) (.tmp 66) rfl (m := ts) rfl h8.os (l := [(⟨X, ⟨D, A6, k6⟩⟩ : Tq)]) (n := 1) (A := some ⟨w6.heap.size, 0, none⟩) (c := 1) rfl rfl rs7 (fun h => nomatch h) (by rw [HLT.out]; simp; have := HK.out; have := HN.out.1; have := HN.out.2; omega) (Nat.le_trans HGs.out (Nat.le_trans b6'.size b7.size)) ?_); intro v8 W8 own8 gr8 hv8; have hfin := H2.out.sent b6' hDl.out o6 b7 own8 gr8 hv8; have u0 := hfin.1; have u1 := u0.cell 1; have u5 := u0.cell 5; have uf := u0.free 7; have u7 := u0.cell 7; simp at u1 u5 u7; rw [← HDL.out] at u1; (obtain ⟨A8, c8, e8, _⟩ := own8.reads_len (n := M + 1) encT_ok (by rw [List.length_append, HLT.out]; rfl)); subst e8; have n1 := (u0.put 7 (.slice A8 (M + 1) c8)).cell 1; have n5 := (u0.put 7 (.slice A8 (M + 1) c8)).cell 5; simp at n1 n5; rw [← HDL.out] at n1; have HF := Lib.hid hfin.2; clear hfin u0 own8 gr8 hv8
          refine hK.out _ _ (⟨u1, u5⟩) (fun hHeld => ?_)
          clear hK K
          try simp only [Act.put, List.setIfInBounds_toArray, List.set_cons_zero, List.set_cons_succ]
          refine wpAnyH_here 22 (v := ?_) rfl (by kernel_rfl) (by kernel_rfl) (by kernel_rfl) (fun _ _ _ h => h) (Or.inl ⟨by rfl, ?_⟩) hHeld ?_
          rotate_left
          · intro w hSw; (try dsimp only at hSw); go_simp; all_goals (with_reducible rfl)
          try simp only [Act.put, List.setIfInBounds_toArray, List.set_cons_zero, List.set_cons_succ]
          refine wpAnyH_here 23 (v := ?_) rfl (by kernel_rfl) (by kernel_rfl) (by kernel_rfl) (fun _ _ _ h => h) (Or.inl ⟨by rfl, ?_⟩) hHeld ?_
          rotate_left
          · intro w hSw; (try dsimp only at hSw); go_simp; all_goals (with_reducible rfl)
          try simp only [Act.put, List.setIfInBounds_toArray, List.set_cons_zero, List.set_cons_succ]
          refine wpAnyH_alone 24 rfl (by kernel_rfl) (fun K hK => ?_)
          go_simp
          skip
          refine hK.out _ _ (⟨n1, n5⟩) (fun hHeld => ?_)
          clear hK K
          try simp only [Act.put, List.setIfInBounds_toArray, List.set_cons_zero, List.set_cons_succ]
          refine wpAnyH_done (by kernel_rfl) ?_ _
          go_wp2
          go_ret
          exact ⟨rfl, _, _, by rw [hS2.out]; exact HF.out.1, (K3.out.more (fun x hx => .inl (by simp at hx; simp [hx]))).trans HF.out.2.1 (fun x hx => .inl hx), HF.out.2.2.elim .inl (fun ⟨i, hi, hj⟩ => .inr ⟨i, hi, Nat.le_trans K3.out.size hj⟩)⟩
end
end Go.Proofs.Ytllhdgllgoanbaa.Lnk
