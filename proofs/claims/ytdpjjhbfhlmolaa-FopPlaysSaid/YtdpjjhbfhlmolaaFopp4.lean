/-
  Ref17l Leaf Ops17 Law17j Law17k, one after another.
-/
import Derived.Test.YtdpjjhbfhlmolaaFopp3
import Derived.OpenShut
import Derived.Deep.Slices
import Derived.Deep.Fields
import Derived.WideShapes
import Derived.Test.YtdpjjhbfhlmolaaRows
import Derived.ChangeSlices
import Derived.Deep.Cut
import Derived.Deep.CutRange
import Derived.Deep.CutBlock

/-
  The reference of layer 17: its calls at a state (RV).
-/
namespace Go.Proofs.Ytdpjjhbfhlmolaa.Fop
open Go.RowKit
open Pac (bel_new Cel.later)
open Tcf (Fr)
open Clc (Cw)

/-- the reference's sending end: its units lie at (A, n, c), its control frames at (A2, n2, c2) -/
structure RV (w : World) (K H W T R : Int) (A : Option Addr) (n c : Nat) (A2 : Option Addr) (n2 c2 : Nat) (s : Fs) : Prop where
  us : US w A n c s.us
  ct : CT w K H s.ac s.ct A2 n2 c2
  ok : s.Ok R
  p : Par K H W T R
section
variable {w w' : World} {K H W T R : Int} {A A2 : Option Addr} {n c n2 c2 : Nat} {s : Fs}
theorem RV.keep (h : RV w K H W T R A n c A2 n2 c2 s) (k : Kq w w') : RV w' K H W T R A n c A2 n2 c2 s := ⟨h.us.keep k, h.ct.keep k, h.ok, h.p⟩
theorem RV.below (h : RV w K H W T R A n c A2 n2 c2 s) (k : Below w.heap.size w w') : RV w' K H W T R A n c A2 n2 c2 s := h.keep (.of_below k)

theorem RV.send (h : RV w K H W T R A n c A2 n2 c2 s) {a : Option Addr} {l : List Byte} {N cap : Nat} (hD : Rd w a l N cap) {E : Int} {s' : Fs} (hS : snd l s = (E, s')) :
    Calls Try.prog 13 #[.agg #[.int .i64 K, .int .i64 H, .int .i64 W, .int .i64 T, .int .i64 R, .int .i64 s.st, .slice A n c, .int .i64 s.ac, .int .i64 s.fl, .int .i64 s.fr, .slice A2 n2 c2, .int .i64 s.nw, .int .i64 s.tm, .int .i64 s.rp], .slice a N cap] w fun e w' => (∃ A' n' c', e = .returned (.tuple #[.agg #[.int .i64 K, .int .i64 H, .int .i64 W, .int .i64 T, .int .i64 R, .int .i64 s'.st, .slice A' n' c', .int .i64 s'.ac, .int .i64 s'.fl, .int .i64 s'.fr, .slice A2 n2 c2, .int .i64 s'.nw, .int .i64 s'.tm, .int .i64 s'.rp], .int .i64 E]) ∧ RV w' K H W T R A' n' c' A2 n2 c2 s') ∧ Below w.heap.size w w' := by
  have x := xsend17_any a l N cap K H W T R s.st s.ac s.fl s.fr A2 n2 c2 s.nw s.tm s.rp w hD h.us
  have hok := snd_ok (d := l) h.ok
  rw [hS] at hok
  rw [snd_sn] at hS
  injection hS with h1 h2
  rw [h1] at x
  subst h2
  refine x.mono ?_
  rintro e w' ⟨⟨A', n', c', rfl, hu⟩, b⟩
  exact ⟨⟨A', n', c', rfl, hu, h.ct.below b, hok, h.p⟩, b⟩

theorem RV.unlock (h : RV w K H W T R A n c A2 n2 c2 s) (m : Int) {s' : Fs} (hU : unl m s = s') :
    Calls Try.prog 20 #[.agg #[.int .i64 K, .int .i64 H, .int .i64 W, .int .i64 T, .int .i64 R, .int .i64 s.st, .slice A n c, .int .i64 s.ac, .int .i64 s.fl, .int .i64 s.fr, .slice A2 n2 c2, .int .i64 s.nw, .int .i64 s.tm, .int .i64 s.rp], .int .i64 m] w fun e w' => (∃ A2' n2' c2', e = .returned (.agg #[.int .i64 K, .int .i64 H, .int .i64 W, .int .i64 T, .int .i64 R, .int .i64 s'.st, .slice A n c, .int .i64 s'.ac, .int .i64 s'.fl, .int .i64 s'.fr, .slice A2' n2' c2', .int .i64 s'.nw, .int .i64 s'.tm, .int .i64 s'.rp]) ∧ RV w' K H W T R A n c A2' n2' c2' s') ∧ Below w.heap.size w w' := by
  have hok := unl_ok (n := m) h.ok h.p.r0
  rw [hU] at hok
  have e : s' = { s with nw := adn m s.nw, ct := 2, fl := 0, fr := 0, rp := 0, tm := adn m s.nw, st := 1 } := by rw [← hU]; unfold unl; rw [adv_adn]
  subst e
  refine (xunlock17_any m K H W T R s.st A n c s.ac s.fl s.fr A2 n2 c2 s.nw s.tm s.rp w rfl h.ok.a0).mono ?_
  rintro e w' ⟨⟨F, rfl, hc⟩, b⟩
  exact ⟨⟨_, _, _, rfl, h.us.below b, hc, hok, h.p⟩, b⟩

theorem RV.next (h : RV w K H W T R A n c A2 n2 c2 s) (m : Int) {x : Fr} {ok : Bool} {s' : Fs} (hN : nxt K H W T R m s = ((x, ok), s')) {N : Nat} (hx : x.d.length = N) (ha : s.ac ≤ 1099511627776) :
    Calls Try.prog 15 #[.agg #[.int .i64 K, .int .i64 H, .int .i64 W, .int .i64 T, .int .i64 R, .int .i64 s.st, .slice A n c, .int .i64 s.ac, .int .i64 s.fl, .int .i64 s.fr, .slice A2 n2 c2, .int .i64 s.nw, .int .i64 s.tm, .int .i64 s.rp], .int .i64 m] w fun e w' => (∃ A2' n2' c2' a cd, e = .returned (.tuple #[.agg #[.int .i64 K, .int .i64 H, .int .i64 W, .int .i64 T, .int .i64 R, .int .i64 s'.st, .slice A n c, .int .i64 s'.ac, .int .i64 s'.fl, .int .i64 s'.fr, .slice A2' n2' c2', .int .i64 s'.nw, .int .i64 s'.tm, .int .i64 s'.rp], .agg #[.bool x.byp, .bool x.con, .int .i64 x.cr, .int .i64 x.ch, .int .i64 x.sq, .slice a N cd], .bool ok]) ∧ RV w' K H W T R A n c A2' n2' c2' s' ∧ Rd w' a x.d N cd) ∧ Below w.heap.size w w' := by
  subst hx
  have hok' := nxt_ok (K := K) (H := H) (W := W) (T := T) (n := m) h.ok h.p.w0
  rw [hN] at hok'
  have hok := adv_ok (n := m) h.ok
  unfold nxt at hN
  rw [adv_adn] at hN hok
  obtain ⟨us, fl, fr, ac, st, ct, rp, tm, nw⟩ := s
  obtain ⟨nw1, hn1⟩ : ∃ nw1, adn m nw = nw1 := ⟨_, rfl⟩
  dsimp only at hN hok ha ⊢
  rw [hn1] at hN hok
  obtain ⟨hu, hct, hok0, hp⟩ := h
  dsimp only at hu hct
  by_cases h0 : 0 < ct
  · have e : nxc K H W T R ⟨us, fl, fr, ac, st, ct, rp, tm, nw1⟩ = ((ctl K H ⟨us, fl, fr, ac, st, ct, rp, tm, nw1⟩, true), ⟨us, fl, fr, ac, st, ct - 1, rp, tm, nw1⟩) := by unfold nxc; rw [if_pos h0]
    rw [e] at hN
    clear e
    rcases hct with ⟨rfl, _⟩ | ⟨rfl, b, rfl, rfl, rfl, hb, f1⟩ | ⟨rfl, b, rfl, rfl, rfl, hb, f0, f1⟩
    · exact absurd h0 (by decide)
    · cases hN
      obtain ⟨a, cd, e0, e1, e2, e3, e4, e5, hd⟩ := f1
      refine (xnext_ctl1 m K H W T R st A n c ac fl fr b nw tm rp w hn1 a cd hb.lt e0 e1 e2 e3 e4 e5).mono ?_
      rintro e w' ⟨rfl, bw⟩
      exact ⟨⟨_, _, _, a, cd, rfl, ⟨hu.below bw, .inl ⟨rfl, rfl⟩, hok', hp⟩, (hd.keep (.of_below bw)).rd rfl⟩, bw⟩
    · cases hN
      obtain ⟨a, cd, e0, e1, e2, e3, e4, e5, hd⟩ := f0
      refine (xnext_ctl2 m K H W T R st A n c ac fl fr b nw tm rp w hn1 a cd hb.lt e0 e1 e2 e3 e4 e5).mono ?_
      rintro e w' ⟨rfl, bw⟩
      have kq : Kq w w' := .of_below bw
      exact ⟨⟨_, _, _, a, cd, rfl, ⟨hu.below bw, .inr (.inl ⟨rfl, b, rfl, rfl, rfl, hb.keep kq, f1.keep hb kq⟩), hok', hp⟩, (hd.keep kq).rd rfl⟩, bw⟩
  · have hc0 : ct = 0 := by have := hok.c0; dsimp only at this; omega
    subst hc0
    have hn2 : n2 = 0 := by have := hct.len; omega
    subst hn2
    have e : nxc K H W T R ⟨us, fl, fr, ac, st, 0, rp, tm, nw1⟩ = nxd K H W T R ⟨us, fl, fr, ac, st, 0, rp, tm, nw1⟩ := by unfold nxc; rw [if_neg h0]
    rw [e] at hN
    clear e h0
    have hlen := hu.len
    have hT0 := hp.t0
    have hT1 := hp.t1
    have hR1 := hp.r1
    have q0 : 0 ≤ fl := hok.f0
    have q3 : fr ≤ us.length := hok.f2
    have q4 : fl ≤ fr := hok.f1
    have q5 : us.length ≤ 256 := hok.u
    have q6 : 0 ≤ ac := hok.a0
    have q7 : 0 ≤ rp := hok.r0
    have q8 : rp ≤ R := hok.r1
    have q9 : 0 ≤ tm := hok.t0
    have q10 : tm ≤ nw1 := hok.t1
    have q11 : nw1 ≤ 1099511627776 := hok.n1
    have rt : ∀ {a : Option Addr} {d : List Byte} {cd : Nat} {w' : World}, Dq w d a cd → Below w.heap.size w w' → Rd w' a d d.length cd := fun hd bw => (hd.keep (.of_below bw)).rd rfl
    have fin : ∀ {w' : World} {s1 : Fs}, s1.us = us → s1.ct = 0 → s1.Ok R → Below w.heap.size w w' → RV w' K H W T R A n c A2 0 c2 s1 := fun e1 e2 h1 bw => ⟨by rw [e1]; exact hu.below bw, .inl ⟨e2, rfl⟩, h1, hp⟩
    unfold nxd at hN
    dsimp only at hN
    by_cases h1 : st ≠ 1 ∨ us.length = 0
    · rw [if_pos h1] at hN
      cases hN
      refine (xnext_idle m K H W T R st A n c ac fl fr A2 c2 nw tm rp w hn1 (by omega)).mono ?_
      rintro e w' ⟨rfl, bw⟩
      exact ⟨⟨_, _, _, none, 0, rfl, fin rfl rfl hok' bw, ⟨rfl, fun h => absurd h (by simp [zr]), fun _ => rfl, Nat.le_refl _, by decide⟩⟩, bw⟩
    rw [if_neg h1] at hN
    have hst : st = 1 := by omega
    subst hst
    have hn0 : n ≠ 0 := by omega
    obtain ⟨M, hM⟩ : ∃ M, min (n : Int) W = M := ⟨_, rfl⟩
    have hM2 : min W (us.length : Int) = M := by rw [hlen]; omega
    rw [hM2] at hN
    by_cases h2 : fl < M
    · rw [if_pos h2] at hN
      obtain ⟨i, rfl⟩ := Int.eq_ofNat_of_zero_le q0
      have hi : i < us.length := by omega
      obtain ⟨b, off, a, cd, rfl, hcell, hd⟩ := hu.lt.at_ (List.getElem?_eq_getElem hi)
      have hxd : us.getD ((i : Int)).toNat [] = us[i] := by rw [Int.toNat_natCast, List.getD_eq_getElem?_getD, List.getElem?_eq_getElem hi]; rfl
      have hlt : b < w.heap.size := lt_of_cell hcell
      unfold lau fly at hN
      dsimp only at hN
      rw [hxd] at hN
      cases hN
      refine (xnext_send m K H W T R b off n c ac i fr A2 c2 nw tm rp w hn1 hn0 hM h2 q6 ha (by omega) rfl rfl a _ cd hlt hcell).mono ?_
      rintro e w' ⟨rfl, bw⟩
      exact ⟨⟨_, _, _, a, cd, rfl, fin rfl rfl hok' bw, rt hd bw⟩, bw⟩
    rw [if_neg h2] at hN
    by_cases h3 : nw1 - tm < T
    · rw [if_pos h3] at hN
      cases hN
      refine (xnext_wait m K H W T R A n c ac fl fr A2 c2 nw tm rp w hn1 hn0 hM (by omega) q9 (by omega) (by omega) hT1 (by omega)).mono ?_
      rintro e w' ⟨rfl, bw⟩
      exact ⟨⟨_, _, _, none, 0, rfl, fin rfl rfl hok' bw, ⟨rfl, fun h => absurd h (by simp [zr]), fun _ => rfl, Nat.le_refl _, by decide⟩⟩, bw⟩
    rw [if_neg h3] at hN
    by_cases h4 : rp = R
    · rw [if_pos h4] at hN
      cases hN
      refine (xnext_stop m K H W T R A n c ac fl fr A2 c2 nw tm rp w hn1 hn0 hM (by omega) q9 (by omega) (by omega) hT1 (by omega) (by omega)).mono ?_
      rintro e w' ⟨rfl, bw⟩
      exact ⟨⟨_, _, _, none, 0, rfl, fin rfl rfl hok' bw, ⟨rfl, fun h => absurd h (by simp [zr]), fun _ => rfl, Nat.le_refl _, by decide⟩⟩, bw⟩
    rw [if_neg h4] at hN
    have hi : 0 < us.length := by omega
    obtain ⟨b, off, a, cd, rfl, hcell, hd⟩ := hu.lt.at_ (List.getElem?_eq_getElem hi)
    have hxd : us.getD ((0 : Int)).toNat [] = us[0] := by rw [List.getD_eq_getElem?_getD, show ((0 : Int)).toNat = 0 from rfl, List.getElem?_eq_getElem hi]; rfl
    have hlt : b < w.heap.size := lt_of_cell hcell
    rw [Nat.add_zero] at hcell
    unfold lau fly at hN
    dsimp only at hN
    rw [hxd, Int.add_zero] at hN
    cases hN
    refine (xnext_again m K H W T R b off n c ac fl fr A2 c2 nw tm rp w hn1 hn0 hM (by omega) q9 (by omega) (by omega) hT1 (by omega) (by omega) q7 hR1 q6 ha rfl rfl a _ cd hlt hcell).mono ?_
    rintro e w' ⟨rfl, bw⟩
    exact ⟨⟨_, _, _, a, cd, rfl, fin rfl rfl hok' bw, rt hd bw⟩, bw⟩
end

theorem hld_rtx (us : List (List Byte)) (fl fr ac st ct rp tm nw : Int) (wt rt : Bool) : hld wt (rtx rt ⟨us, fl, fr, ac, st, ct, rp, tm, nw⟩) = ⟨us, (if rt then 0 else fl), fr, ac, (if st = 1 ∨ st = 2 then (if wt then 2 else 1) else st), ct, rp, tm, nw⟩ := by
  cases rt <;> cases wt <;> (unfold hld rtx rew; dsimp only; by_cases h : st = 1 ∨ st = 2 <;> simp [h])
theorem US_drop {w : World} {A : Option Addr} {n c D : Nat} {us : List (List Byte)} (h : US w A n c us) (hD : D ≤ n) : US w (if c = D then A else Option.map (fun x => x.add D) A) (n - D) (c - D) (us.drop D) := by
  obtain ⟨lt, len, nil, le, max⟩ := h
  refine ⟨?_, by rw [List.length_drop, len], fun e => ?_, by omega, by omega⟩
  · by_cases hn : D = n
    · have : us.drop D = [] := List.eq_nil_of_length_eq_zero (by rw [List.length_drop]; omega)
      rw [this]
      exact LT.nil_
    · have hi : 0 < us.length := by omega
      obtain ⟨b, off, a, cd, rfl, _⟩ := lt.at_ (List.getElem?_eq_getElem hi)
      have hc : c ≠ D := by omega
      rw [if_neg hc]
      have hx := lt.drop D
      show LT w (some (Addr.add ⟨b, off, none⟩ D)) (us.drop D)
      rcases Nat.eq_zero_or_pos D with rfl | h0
      · exact hx
      · have hne : D ≠ 0 := by omega
        simp only [Addr.add, if_neg hne]
        exact hx
  · by_cases hc : c = D
    · omega
    · rw [if_neg hc] at e
      cases A with
      | none => have := nil rfl; omega
      | some x => cases e

section
variable {w w' : World} {K H W T R : Int} {A A2 : Option Addr} {n c n2 c2 : Nat} {s : Fs}
theorem RV.report (h : RV w K H W T R A n c A2 n2 c2 s) (ch : Int) (lk wt rt : Bool) (bp nx m : Int) {E : Int} {s' : Fs} (hR : rpt H ⟨ch, lk, wt, rt, bp, nx⟩ m s = (E, s')) (ha : s.ac ≤ 1099511627776) :
    Calls Try.prog 18 #[.agg #[.int .i64 K, .int .i64 H, .int .i64 W, .int .i64 T, .int .i64 R, .int .i64 s.st, .slice A n c, .int .i64 s.ac, .int .i64 s.fl, .int .i64 s.fr, .slice A2 n2 c2, .int .i64 s.nw, .int .i64 s.tm, .int .i64 s.rp], .agg #[.int .i64 ch, .bool lk, .bool wt, .bool rt, .int .i64 bp, .int .i64 nx], .int .i64 m] w fun e w' => (∃ A' n' c', e = .returned (.tuple #[.agg #[.int .i64 K, .int .i64 H, .int .i64 W, .int .i64 T, .int .i64 R, .int .i64 s'.st, .slice A' n' c', .int .i64 s'.ac, .int .i64 s'.fl, .int .i64 s'.fr, .slice A2 n2 c2, .int .i64 s'.nw, .int .i64 s'.tm, .int .i64 s'.rp], .int .i64 E]) ∧ RV w' K H W T R A' n' c' A2 n2 c2 s') ∧ Below w.heap.size w w' := by
  have hok' := rpt_ok (H := H) (n := m) (c := ⟨ch, lk, wt, rt, bp, nx⟩) h.ok h.p.r0
  rw [hR] at hok'
  have hok := adv_ok (n := m) h.ok
  unfold rpt at hR
  rw [adv_adn] at hR hok
  obtain ⟨us, fl, fr, ac, st, ct, rp, tm, nw⟩ := s
  obtain ⟨nw1, hn1⟩ : ∃ nw1, adn m nw = nw1 := ⟨_, rfl⟩
  dsimp only at hR hok ha ⊢
  rw [hn1] at hR hok
  obtain ⟨hu, hct, hok0, hp⟩ := h
  dsimp only at hu hct
  unfold rpc at hR
  dsimp only at hR
  cases hV : Cw.ok ⟨ch, lk, wt, rt, bp, nx⟩ with
  | false =>
    rw [if_pos (.inl hV)] at hR
    cases hR
    refine (xrep_form m ch lk wt rt bp nx K H W T R st A n c ac fl fr A2 n2 c2 nw tm rp w hn1 hV).mono ?_
    rintro e w' ⟨rfl, bw⟩
    exact ⟨⟨_, _, _, rfl, hu.below bw, hct.below bw, hok', hp⟩, bw⟩
  | true =>
    by_cases hc : ch = H
    · rw [if_neg (fun h => h.elim (fun e => by rw [hV] at e; cases e) (fun e => e hc))] at hR
      cases lk with
      | true =>
        rw [if_pos rfl] at hR
        cases hR
        refine (xrep_lock m ch wt rt bp nx K H W T R st A n c ac fl fr A2 n2 c2 nw tm rp w hn1 hc hV).mono ?_
        rintro e w' ⟨rfl, bw⟩
        exact ⟨⟨_, _, _, rfl, hu.below bw, hct.below bw, hok', hp⟩, bw⟩
      | false =>
        rw [if_neg (by decide)] at hR
        unfold rpd at hR
        dsimp only at hR
        have hF := Cw.ok_fits hV
        have n0 : 0 ≤ nx := hF.2.2.2.2.1
        have n1 : nx ≤ 255 := hF.2.2.2.2.2
        have a0 : 0 ≤ ac := hok.a0
        have q0 : 0 ≤ fl := hok.f0
        have q3 : fr ≤ us.length := hok.f2
        have q4 : fl ≤ fr := hok.f1
        have q5 : us.length ≤ 256 := hok.u
        have hcf : 0 < ct → fr = 0 := hok.cf
        have hct0 : 0 ≤ ct := hok.c0
        have hlen := hu.len
        obtain ⟨D, hD⟩ : ∃ D : Nat, (nx - ac) % 256 = (D : Int) := ⟨((nx - ac) % 256).toNat, by omega⟩
        rw [hD] at hR
        by_cases hf : fr < (D : Int)
        · rw [if_pos hf] at hR
          cases hR
          refine (xrep_far m ch wt rt bp nx K H W T R st A n c ac fl fr A2 n2 c2 nw tm rp w hn1 hc hV n0 n1 a0 ha hD hf).mono ?_
          rintro e w' ⟨rfl, bw⟩
          exact ⟨⟨_, _, _, rfl, hu.below bw, hct.below bw, hok', hp⟩, bw⟩
        · rw [if_neg hf] at hR
          have hDn : D ≤ n := by omega
          have hud := US_drop hu hDn
          have hct2 : CT w K H (ac + (D : Int)) ct A2 n2 c2 := by
            by_cases h0 : 0 < ct
            · have := hcf h0
              have hD0 : D = 0 := by omega
              rw [show ac + (D : Int) = ac by omega]
              exact hct
            · exact .inl ⟨by omega, by have := hct.len; omega⟩
          by_cases hp0 : D = 0
          · have e1 : prg (D : Int) ⟨us, fl, fr, ac, st, ct, rp, tm, nw1⟩ = ⟨us.drop D, max (fl - (D : Int)) 0, fr - (D : Int), ac + (D : Int), st, ct, rp, tm, nw1⟩ := by
              subst hp0
              unfold prg
              rw [if_pos (show ((0 : Nat) : Int) = 0 from rfl)]
              have : max (fl - ((0 : Nat) : Int)) 0 = fl := by omega
              rw [this]
              simp
            rw [e1, hld_rtx] at hR
            cases hR
            refine (xrep_none m ch wt rt bp nx K H W T R st A n c ac fl fr A2 n2 c2 nw tm rp w hn1 hc hV n0 n1 a0 ha hD (by omega) q0 (by omega) q4 hDn hu.le hu.nil hp0 rfl rfl rfl rfl rfl rfl rfl).mono ?_
            rintro e w' ⟨rfl, bw⟩
            exact ⟨⟨_, _, _, rfl, hud.below bw, hct2.below bw, hok', hp⟩, bw⟩
          · have e1 : prg (D : Int) ⟨us, fl, fr, ac, st, ct, rp, tm, nw1⟩ = ⟨us.drop D, max (fl - (D : Int)) 0, fr - (D : Int), ac + (D : Int), st, ct, 0, nw1, nw1⟩ := by
              unfold prg
              rw [if_neg (by omega)]
              rfl
            rw [e1, hld_rtx] at hR
            cases hR
            refine (xrep_some m ch wt rt bp nx K H W T R st A n c ac fl fr A2 n2 c2 nw tm rp w hn1 hc hV n0 n1 a0 ha hD (by omega) q0 (by omega) q4 hDn hu.le hu.nil (by omega) rfl rfl rfl rfl rfl rfl rfl).mono ?_
            rintro e w' ⟨rfl, bw⟩
            exact ⟨⟨_, _, _, rfl, hud.below bw, hct2.below bw, hok', hp⟩, bw⟩
    · rw [if_pos (.inr hc)] at hR
      cases hR
      refine (xrep_chan m ch lk wt rt bp nx K H W T R st A n c ac fl fr A2 n2 c2 nw tm rp w hn1 hV hc).mono ?_
      rintro e w' ⟨rfl, bw⟩
      exact ⟨⟨_, _, _, rfl, hu.below bw, hct.below bw, hok', hp⟩, bw⟩
end
end Go.Proofs.Ytdpjjhbfhlmolaa.Fop

/-
  Slices of structs whose fields may be structs themselves: the cells of each element, and what each cell of one field holds, however deep. No dump is imported.
-/
namespace Go.Proofs.Ytdpjjhbfhlmolaa
open Go.RowKit Go.ChangeShapes Go.WideShapes Go.Deep

section
variable {H : Type} {enc : TypeId × Value → H} {P : Program} {w : World} {base : Nat} {spare : Nat → Bool} {held : Bool}

/-- cell j of whatever reads as a value of type e reads as a value of type t -/
def Leaf (enc : TypeId × Value → H) (P : Program) (w : World) (base : Nat) (spare : Nat → Bool) (held : Bool) (e : TypeId) (j : Nat) (t : TypeId) : Prop :=
  ∀ (n : Nat) (cs : List Value) (x : DataW H × List MemPlace), DataW.trod enc P w base spare held n e cs = some x → ∃ m y, DataW.trod enc P w base spare held m t [cs.getD j undef] = some y
theorem Leaf.one {e : TypeId} {fs : Array Field} {i : Nat} {f : Field} (he : P.underlying e = some (.struct fs)) (hi : fs[i]? = some f) (hc : P.cellsOf f.type = 1) (ho : f.offset < P.cellsOf e) : Leaf enc P w base spare held e f.offset f.type := by
  intro n cs x h
  obtain ⟨xs, m, _, _, hl, hxl, hg⟩ := DataW.trod_struct he h
  have g := hg i f hi
  have hil : i < fs.size := (Array.getElem?_eq_some_iff.1 hi).1
  rw [hc, take1_drop cs f.offset undef (by omega)] at g
  exact ⟨m, xs[i]'(by omega), by rw [g]; exact List.getElem?_eq_getElem (by omega)⟩
theorem Leaf.sub {e t : TypeId} {fs : Array Field} {i k : Nat} {f : Field} (he : P.underlying e = some (.struct fs)) (hi : fs[i]? = some f) (hk : k < P.cellsOf f.type) (h : Leaf enc P w base spare held f.type k t) : Leaf enc P w base spare held e (f.offset + k) t := by
  intro n cs x hx
  obtain ⟨xs, m, _, _, hl, hxl, hg⟩ := DataW.trod_struct he hx
  have g := hg i f hi
  have hil : i < fs.size := (Array.getElem?_eq_some_iff.1 hi).1
  obtain ⟨m', y, hy⟩ := h m _ (xs[i]'(by omega)) (by rw [g]; exact List.getElem?_eq_getElem (by omega))
  refine ⟨m', y, ?_⟩
  have e1 : ((cs.drop f.offset).take (P.cellsOf f.type)).getD k undef = cs.getD (f.offset + k) undef := by
    rw [List.getD_eq_getElem?_getD, List.getD_eq_getElem?_getD, List.getElem?_take, if_pos hk, List.getElem?_drop]
  rw [← e1]
  exact hy
/-- the elements of a slice, cell by cell -/
theorem open_cells {t e : TypeId} {fuel C : Nat} {cs : List Value} {x : DataW H × List MemPlace} (ht : P.underlying t = some (.slice e)) (hC : P.cellsOf e = C) (h : DataW.trod enc P w base spare held fuel t cs = some x) :
    cs = [.slice none 0 0] ∨ ∃ (a : Addr) (len cap : Nat) (L : Nat → List Value), cs = [.slice (some a) len cap] ∧ len ≤ cap ∧ cap ≤ maxLen ∧
      ∀ i, i < len → (∀ j, j < C → w.cell? (a.add (i * C + j)) = some ((L i).getD j undef)) ∧ ∃ n y, DataW.trod enc P w base spare held n e (L i) = some y := by
  rcases open_slice ht h with ⟨h0, _⟩ | ⟨a, len, cap, m, n, D, Pl, rfl, hb, hl, hm, hmm, rfl, hx⟩
  · exact .inl h0
  have hlm : len ≤ m := by rw [hmm]; split <;> omega
  have each : ∀ i, i < len → ∃ L : List Value, (∀ j, j < C → w.cell? (a.add (i * C + j)) = some (L.getD j undef)) ∧ ∃ n y, DataW.trod enc P w base spare held n e L = some y := by
    intro i hi
    obtain ⟨cs', h1, h2⟩ := hx i (by omega)
    rw [hC] at h1
    obtain ⟨_, hlen, hcell⟩ := World.cells?_some h1
    refine ⟨cs', fun j hj => ?_, _, _, h2⟩
    have c := hcell j hj
    rw [add_add] at c
    rw [c, List.getD_eq_getElem?_getD, List.getElem?_eq_getElem (by omega)]
    rfl
  obtain ⟨L, hL⟩ := choose_lt each
  exact .inr ⟨a, len, cap, L, rfl, hl, hm, hL⟩
end
end Go.Proofs.Ytdpjjhbfhlmolaa

/-
  The arguments of FopPlays, opened: a slice of calls with a control word each, and a struct of five ints.
-/
namespace Go.Proofs.Ytdpjjhbfhlmolaa.Fop
open Go.RowKit Go.ChangeShapes Go.WideShapes Go.Deep
open Clc (Cw)

/-- a call, the ticks ahead of it, its data, its control word -/
structure Op17 where
  ca : Int
  dt : Int
  d : List Byte
  cw : Cw
/-- element k of the slice that A leads to -/
structure OA (w : World) (B : Nat) (A : Option Addr) (b off k : Nat) (o : Op17) (a : Option Addr) (n c : Nat) : Prop where
  e : A = some ⟨b, off, none⟩
  hb : b < B
  c0 : w.cell? ⟨b, off + k * 9, none⟩ = some (.int .i64 o.ca)
  c1 : w.cell? ⟨b, off + k * 9 + 1, none⟩ = some (.int .i64 o.dt)
  c2 : w.cell? ⟨b, off + k * 9 + 2, none⟩ = some (.slice a n c)
  c3 : w.cell? ⟨b, off + k * 9 + 3, none⟩ = some (.int .i64 o.cw.ch)
  c4 : w.cell? ⟨b, off + k * 9 + 4, none⟩ = some (.bool o.cw.lk)
  c5 : w.cell? ⟨b, off + k * 9 + 5, none⟩ = some (.bool o.cw.wt)
  c6 : w.cell? ⟨b, off + k * 9 + 6, none⟩ = some (.bool o.cw.rt)
  c7 : w.cell? ⟨b, off + k * 9 + 7, none⟩ = some (.int .i64 o.cw.bp)
  c8 : w.cell? ⟨b, off + k * 9 + 8, none⟩ = some (.int .i64 o.cw.nx)
  len : o.d.length = n
  bs : Bs w B a o.d
  nil : a = none → c = 0
  le : n ≤ c
  max : c ≤ maxLen
theorem OA.below {w w' : World} {B b off k n c : Nat} {A a : Option Addr} {o : Op17} (h : OA w B A b off k o a n c) (t : Below B w w') : OA w' B A b off k o a n c :=
  ⟨h.e, h.hb, (t.cell h.hb).trans h.c0, (t.cell h.hb).trans h.c1, (t.cell h.hb).trans h.c2, (t.cell h.hb).trans h.c3, (t.cell h.hb).trans h.c4, (t.cell h.hb).trans h.c5, (t.cell h.hb).trans h.c6, (t.cell h.hb).trans h.c7, (t.cell h.hb).trans h.c8, h.len, h.bs.below t, h.nil, h.le, h.max⟩
theorem OA.rd {w : World} {B b off k n c : Nat} {A a : Option Addr} {o : Op17} (h : OA w B A b off k o a n c) (hB : B ≤ w.heap.size) : Rd w a o.d n c := ⟨h.len, h.bs.more hB, h.nil, h.le, h.max⟩
def Ops (w : World) (B : Nat) (A : Option Addr) (l : List Op17) : Prop := ∀ k o, l[k]? = some o → ∃ b off a n c, OA w B A b off k o a n c

section
variable {H : Type} {enc' : TypeId × Value → H} {w : World} {base : Nat} {held : Bool}
abbrev LeafOp (enc' : TypeId × Value → H) (w : World) (base : Nat) (held : Bool) (j : Nat) (t : TypeId) : Prop := Leaf enc' Try.prog w base (fun _ => true) held 37 j t
abbrev LeafCw (enc' : TypeId × Value → H) (w : World) (base : Nat) (held : Bool) (j : Nat) (t : TypeId) : Prop := Leaf enc' Try.prog w base (fun _ => true) held 35 j t
set_option maxRecDepth 100000 in
theorem f0 : LeafCw enc' w base held 0 3 := Leaf.one (i := 0) Try.underlying35 rfl (by kernel_rfl) (of_decide_eq_true (by kernel_rfl))
set_option maxRecDepth 100000 in
theorem f1 : LeafCw enc' w base held 1 4 := Leaf.one (i := 1) Try.underlying35 rfl (by kernel_rfl) (of_decide_eq_true (by kernel_rfl))
set_option maxRecDepth 100000 in
theorem f2 : LeafCw enc' w base held 2 4 := Leaf.one (i := 2) Try.underlying35 rfl (by kernel_rfl) (of_decide_eq_true (by kernel_rfl))
set_option maxRecDepth 100000 in
theorem f3 : LeafCw enc' w base held 3 4 := Leaf.one (i := 3) Try.underlying35 rfl (by kernel_rfl) (of_decide_eq_true (by kernel_rfl))
set_option maxRecDepth 100000 in
theorem f4 : LeafCw enc' w base held 4 3 := Leaf.one (i := 4) Try.underlying35 rfl (by kernel_rfl) (of_decide_eq_true (by kernel_rfl))
set_option maxRecDepth 100000 in
theorem f5 : LeafCw enc' w base held 5 3 := Leaf.one (i := 5) Try.underlying35 rfl (by kernel_rfl) (of_decide_eq_true (by kernel_rfl))
set_option maxRecDepth 100000 in
theorem o0 : LeafOp enc' w base held 0 3 := Leaf.one (i := 0) Try.underlying37 rfl (by kernel_rfl) (of_decide_eq_true (by kernel_rfl))
set_option maxRecDepth 100000 in
theorem o1 : LeafOp enc' w base held 1 3 := Leaf.one (i := 1) Try.underlying37 rfl (by kernel_rfl) (of_decide_eq_true (by kernel_rfl))
set_option maxRecDepth 100000 in
theorem o2 : LeafOp enc' w base held 2 33 := Leaf.one (i := 2) Try.underlying37 rfl (by kernel_rfl) (of_decide_eq_true (by kernel_rfl))
set_option maxRecDepth 100000 in
theorem o3 {j : Nat} {t : TypeId} (hj : j < 6) (h : LeafCw enc' w base held j t) : LeafOp enc' w base held (3 + j) t :=
  Leaf.sub (i := 3) (k := j) (enc := enc') (P := Try.prog) (w := w) (base := base) (spare := fun _ => true) (held := held) (t := t) Try.underlying37 rfl (Nat.lt_of_lt_of_eq hj (by kernel_rfl)) h

set_option maxRecDepth 100000 in
theorem open_ops17 {r : Reach} {b0 : Nat} {v : Value} {d : DataW H} {ps : List MemPlace} (hval : Value.okWide Try.prog w r b0 24 v) (hd : DataW.Trod enc' Try.prog w base (fun _ => true) held 24 v d ps) :
    ∃ a cap, ∃ l : List Op17, v = .slice a l.length cap ∧ (a = none → cap = 0) ∧ l.length ≤ cap ∧ cap ≤ maxLen ∧ Ops w w.heap.size a l := by
  obtain ⟨a0, len0, cap0, rfl⟩ := okWide_slice Try.underlying24 hval
  obtain ⟨fuel, hf⟩ := hd
  rcases open_cells (C := 9) Try.underlying24 (by kernel_rfl) hf with hcs | ⟨a, len, cap, L, hcs, hl, hm, hx⟩
  · simp [Value.cells] at hcs
    obtain ⟨rfl, rfl, rfl⟩ := hcs
    exact ⟨none, 0, [], rfl, fun _ => rfl, by simp, by simp, fun k o h => by simp at h⟩
  · simp [Value.cells] at hcs
    obtain ⟨rfl, rfl, rfl⟩ := hcs
    have sel : ∀ i, i < len0 → ∃ q : Op17 × Option Addr × Nat, ((L i).getD 0 undef = .int .i64 q.1.ca ∧ (L i).getD 1 undef = .int .i64 q.1.dt ∧ (L i).getD 2 undef = .slice q.2.1 q.1.d.length q.2.2 ∧ (L i).getD 3 undef = .int .i64 q.1.cw.ch ∧ (L i).getD 4 undef = .bool q.1.cw.lk ∧
        (L i).getD 5 undef = .bool q.1.cw.wt ∧ (L i).getD 6 undef = .bool q.1.cw.rt ∧ (L i).getD 7 undef = .int .i64 q.1.cw.bp ∧ (L i).getD 8 undef = .int .i64 q.1.cw.nx) ∧ Bs w w.heap.size q.2.1 q.1.d ∧ (q.2.1 = none → q.2.2 = 0) ∧ q.1.d.length ≤ q.2.2 ∧ q.2.2 ≤ maxLen := by
      intro i hi
      obtain ⟨_, n, y, t⟩ := hx i hi
      obtain ⟨_, _, t0⟩ := o0 n _ _ t
      obtain ⟨_, _, t1⟩ := o1 n _ _ t
      obtain ⟨_, _, t2⟩ := o2 n _ _ t
      obtain ⟨_, _, t3⟩ := o3 (by decide) f0 n _ _ t
      obtain ⟨_, _, t4⟩ := o3 (by decide) f1 n _ _ t
      obtain ⟨_, _, t5⟩ := o3 (by decide) f2 n _ _ t
      obtain ⟨_, _, t6⟩ := o3 (by decide) f3 n _ _ t
      obtain ⟨_, _, t7⟩ := o3 (by decide) f4 n _ _ t
      obtain ⟨_, _, t8⟩ := o3 (by decide) f5 n _ _ t
      obtain ⟨x0, e0, _⟩ := DataW.trod_int Try.underlying3 t0
      obtain ⟨x1, e1, _⟩ := DataW.trod_int Try.underlying3 t1
      obtain ⟨A2, l2, c2', e2, hb, hn, hlc, hcm⟩ := open_bytes_cell Try.underlying33 Try.underlying5 (by kernel_rfl) t2
      obtain ⟨x3, e3, _⟩ := DataW.trod_int Try.underlying3 t3
      obtain ⟨x4, e4, _⟩ := DataW.trod_bool Try.underlying4 t4
      obtain ⟨x5, e5, _⟩ := DataW.trod_bool Try.underlying4 t5
      obtain ⟨x6, e6, _⟩ := DataW.trod_bool Try.underlying4 t6
      obtain ⟨x7, e7, _⟩ := DataW.trod_int Try.underlying3 t7
      obtain ⟨x8, e8, _⟩ := DataW.trod_int Try.underlying3 t8
      injection e0 with e0
      injection e1 with e1
      injection e3 with e3
      injection e4 with e4
      injection e5 with e5
      injection e6 with e6
      injection e7 with e7
      injection e8 with e8
      exact ⟨(⟨x0, x1, l2, ⟨x3, x4, x5, x6, x7, x8⟩⟩, A2, c2'), ⟨e0, e1, e2, e3, e4, e5, e6, e7, e8⟩, hb, hn, hlc, hcm⟩
    have : Inhabited (Op17 × Option Addr × Nat) := ⟨(⟨0, 0, [], ⟨0, false, false, false, 0, 0⟩⟩, none, 0)⟩
    obtain ⟨F, hF⟩ := choose_lt sel
    have hlen : ((List.range len0).map (fun i => (F i).1)).length = len0 := by simp
    refine ⟨some a, cap0, (List.range len0).map (fun i => (F i).1), by rw [hlen], (fun h => nomatch h), by rw [hlen]; exact hl, hm, fun i o hv => ?_⟩
    rw [List.getElem?_map] at hv
    by_cases hi : i < len0
    · rw [List.getElem?_range hi] at hv
      injection hv with hv
      subst hv
      obtain ⟨b, off, spot⟩ := a
      have hs : spot = none := by
        have := World.cell?_spot ((hx 0 (by omega)).1 0 (by decide))
        simpa [Addr.add] using this
      subst hs
      have c0 := (hx i hi).1 0 (by decide)
      have c1 := (hx i hi).1 1 (by decide)
      have c2 := (hx i hi).1 2 (by decide)
      have c3 := (hx i hi).1 3 (by decide)
      have c4 := (hx i hi).1 4 (by decide)
      have c5 := (hx i hi).1 5 (by decide)
      have c6 := (hx i hi).1 6 (by decide)
      have c7 := (hx i hi).1 7 (by decide)
      have c8 := (hx i hi).1 8 (by decide)
      rw [add_plain] at c0 c1 c2 c3 c4 c5 c6 c7 c8
      obtain ⟨⟨e0, e1, e2, e3, e4, e5, e6, e7, e8⟩, hb, hn, hlc, hcm⟩ := hF i hi
      rw [e0] at c0
      rw [e1] at c1
      rw [e2] at c2
      rw [e3] at c3
      rw [e4] at c4
      rw [e5] at c5
      rw [e6] at c6
      rw [e7] at c7
      rw [e8] at c8
      simp only [Nat.add_zero, ← Nat.add_assoc] at c0 c1 c2 c3 c4 c5 c6 c7 c8
      exact ⟨b, off, (F i).2.1, _, (F i).2.2, rfl, lt_of_cell c0, c0, c1, c2, c3, c4, c5, c6, c7, c8, rfl, hb, hn, hlc, hcm⟩
    · rw [List.getElem?_eq_none (by simpa using hi)] at hv
      cases hv

theorem array5 {cs : Array Value} (h : cs.size = 5) : cs = #[cs.getD 0 undef, cs.getD 1 undef, cs.getD 2 undef, cs.getD 3 undef, cs.getD 4 undef] := by
  obtain ⟨l⟩ := cs
  match l, h with
  | [x0, x1, x2, x3, x4], _ => rfl
set_option maxRecDepth 100000 in
theorem open_setup {r : Reach} {b0 : Nat} {v : Value} {d : DataW H} {ps : List MemPlace} (hval : Value.okWide Try.prog w r b0 23 v)
    (hd : DataW.Trod enc' Try.prog w base (fun _ => true) held 23 v d ps) :
    ∃ x y z u t : Int, v = .agg #[.int .i64 x, .int .i64 y, .int .i64 z, .int .i64 u, .int .i64 t] := by
  obtain ⟨cs, rfl, hsz, n, hf⟩ := open_agg_any Try.underlying23 (hone_of (by kernel_rfl)) (by kernel_rfl) hval hd
  have h6 := array5 (hsz.trans rfl)
  obtain ⟨y0, t0⟩ := hf 0 _ rfl
  obtain ⟨y1, t1⟩ := hf 1 _ rfl
  obtain ⟨y2, t2⟩ := hf 2 _ rfl
  obtain ⟨y3, t3⟩ := hf 3 _ rfl
  obtain ⟨y4, t4⟩ := hf 4 _ rfl
  obtain ⟨x0, e0, _⟩ := DataW.trod_int Try.underlying3 t0
  obtain ⟨x1, e1, _⟩ := DataW.trod_int Try.underlying3 t1
  obtain ⟨x2, e2, _⟩ := DataW.trod_int Try.underlying3 t2
  obtain ⟨x3, e3, _⟩ := DataW.trod_int Try.underlying3 t3
  obtain ⟨x4, e4, _⟩ := DataW.trod_int Try.underlying3 t4
  injection e0 with e0
  injection e1 with e1
  injection e2 with e2
  injection e3 with e3
  injection e4 with e4
  rw [e0, e1, e2, e3, e4] at h6
  exact ⟨x0, x1, x2, x3, x4, h6 ▸ rfl⟩
end
end Go.Proofs.Ytdpjjhbfhlmolaa.Fop

/-
  The law FopPlays: a sending end beside the reference's in a variable.
-/
namespace Go.Proofs.Ytdpjjhbfhlmolaa.Fop
open Go.RowKit
open Pac (bel_new Cel.later)
open Tcf (Fr)
open Clc (Cw)

theorem Kq.of_kp {w w' : World} (h : Kp w w') : Kq w w' := fun b t cs hc h1 h2 _ => h b t cs hc h1 h2
/-- a sending end (block g, row O, state s) and a variable X that holds the reference's (state r); neither lies below B -/
structure PR (w0 w : World) (B g : Nat) (O : Option Nat) (X : Nat) (K H W T R : Int) (A : Option Addr) (n c : Nat) (A2 : Option Addr) (n2 c2 : Nat) (s r : Fs) : Prop where
  p : PO w0 w B g O K H W T R s
  x : Cel w X 31 #[.int .i64 K, .int .i64 H, .int .i64 W, .int .i64 T, .int .i64 R, .int .i64 r.st, .slice A n c, .int .i64 r.ac, .int .i64 r.fl, .int .i64 r.fr, .slice A2 n2 c2, .int .i64 r.nw, .int .i64 r.tm, .int .i64 r.rp]
  v : RV w K H W T R A n c A2 n2 c2 r
  b : B ≤ X
section
variable {w0 w w' : World} {B g q X : Nat} {O Oq : Option Nat} {K H W T R : Int} {A A2 : Option Addr} {n c n2 c2 : Nat} {s r s2 : Fs} {S : List Nat}
theorem PO.offref (h : PO w0 w B g O K H W T R s) {t : TypeId} {cs : Array Value} (hc : Cel w X t cs) (h1 : t ≠ 70) (h2 : t ≠ 9) : X ∉ g :: O.toList := by
  obtain ⟨v, rfl, f⟩ := h.ex
  simp only [List.mem_cons, Option.mem_toList, not_or]
  exact ⟨fun e => by subst e; exact Cel.apart hc f.cel h1 rfl, fun e => Row.Os.apart f.row hc h2.symm e⟩
theorem PR.below (h : PR w0 w B g O X K H W T R A n c A2 n2 c2 s r) (k : Below w.heap.size w w') : PR w0 w' B g O X K H W T R A n c A2 n2 c2 s r :=
  ⟨h.p.below k, Cel.later h.x k, h.v.below k, h.b⟩
theorem PR.kept (h : PR w0 w B g O X K H W T R A n c A2 n2 c2 s r) (k : Kp w w') (p : PO w0 w' B q Oq K H W T R s2) : PR w0 w' B q Oq X K H W T R A n c A2 n2 c2 s2 r :=
  ⟨p, k _ _ _ h.x (by decide) (by decide), h.v.keep (Kq.of_kp k), h.b⟩
theorem PR.send1 (h : PR w0 w B g O X K H W T R A n c A2 n2 c2 s r) {a : Option Addr} {l : List Byte} {N cap : Nat} (hD : Rd w a l N cap) {E : Int} {s' : Fs} (hS : snd l s = (E, s')) :
    Calls Try.prog 12 #[.pointer (some ⟨g, 0, none⟩), .slice a N cap] w fun e w' => e = .returned (.int .i64 E) ∧ (∃ O', PR w0 w' B g O' X K H W T R A n c A2 n2 c2 s' r) ∧ Kp w w' := by
  refine (h.p.send_ hD hS).mono ?_
  rintro e w' ⟨rfl, ⟨O', p', _⟩, k⟩
  exact ⟨rfl, ⟨O', h.kept (h.p.kp k) p'⟩, h.p.kp k⟩
theorem PR.next1 (h : PR w0 w B g O X K H W T R A n c A2 n2 c2 s r) (m : Int) {byp con ok : Bool} {cr ch sq : Int} {d : List Byte} {s' : Fs} (hN : nxt K H W T R m s = ((⟨byp, con, cr, ch, sq, d⟩, ok), s')) {N : Nat} (hm : d.length = N) :
    Calls Try.prog 14 #[.pointer (some ⟨g, 0, none⟩), .int .i64 m] w fun e w' => (∃ Au cu, e = .returned (.tuple #[.agg #[.bool byp, .bool con, .int .i64 cr, .int .i64 ch, .int .i64 sq, .slice Au N cu], .bool ok]) ∧ Rd w' Au d N cu) ∧ PR w0 w' B g O X K H W T R A n c A2 n2 c2 s' r ∧ Kp w w' := by
  refine (h.p.next_ m hN hm).mono ?_
  rintro e w' ⟨⟨Au, cu, rfl, hr, _⟩, p', k⟩
  exact ⟨⟨Au, cu, rfl, hr⟩, h.kept (h.p.kp1 k) p', h.p.kp1 k⟩
theorem PR.report1 (h : PR w0 w B g O X K H W T R A n c A2 n2 c2 s r) (ch : Int) (lk wt rt : Bool) (bp nx m : Int) {E : Int} {s' : Fs} (hR : rpt H ⟨ch, lk, wt, rt, bp, nx⟩ m s = (E, s')) (ha : s.ac ≤ 1099511627776) :
    Calls Try.prog 17 #[.pointer (some ⟨g, 0, none⟩), .agg #[.int .i64 ch, .bool lk, .bool wt, .bool rt, .int .i64 bp, .int .i64 nx], .int .i64 m] w fun e w' => e = .returned (.int .i64 E) ∧ PR w0 w' B g O X K H W T R A n c A2 n2 c2 s' r ∧ Kp w w' := by
  refine (h.p.report_ ch lk wt rt bp nx m hR ha).mono ?_
  rintro e w' ⟨rfl, p', k⟩
  exact ⟨rfl, h.kept (h.p.kp k) p', h.p.kp k⟩
theorem PR.unlock1 (h : PR w0 w B g O X K H W T R A n c A2 n2 c2 s r) (m : Int) {s' : Fs} (hU : unl m s = s') :
    Calls Try.prog 19 #[.pointer (some ⟨g, 0, none⟩), .int .i64 m] w fun e w' => e = .returned (.int .i64 0) ∧ PR w0 w' B g O X K H W T R A n c A2 n2 c2 s' r ∧ Kp w w' := by
  refine (h.p.unlock_ m hU).mono ?_
  rintro e w' ⟨rfl, p', k⟩
  exact ⟨rfl, h.kept (h.p.kp1 k) p', h.p.kp1 k⟩
/-- a copy beside it -/
theorem PR.clone1 (h : PR w0 w B g O X K H W T R A n c A2 n2 c2 s r) :
    Calls Try.prog 21 #[.pointer (some ⟨g, 0, none⟩)] w fun e w' => ∃ q Oq, e = .returned (.pointer (some ⟨q, 0, none⟩)) ∧ PR w0 w' B q Oq X K H W T R A n c A2 n2 c2 s r ∧ PO w0 w' B g O K H W T R s ∧ (∀ x ∈ q :: Oq.toList, x ∉ g :: O.toList) := by
  obtain ⟨v, rfl, f⟩ := h.p.ex
  refine (fclone_any w B g v K H W T R s f).mono ?_
  rintro e w' ⟨q, v', rfl, hq, f', b⟩
  have h' := h.below b
  have hl := h.p.lt
  refine ⟨q, v'.ownBlock, rfl, ⟨⟨⟨v', rfl, ⟨f'.cel, f'.row.more h.p.s, f'.ok, f'.p⟩⟩, h'.p.b, h'.p.s, Nat.le_trans h.p.s hq⟩, h'.x, h'.v, h'.b⟩, h'.p, fun x hx hm => ?_⟩
  have h1 := (hl x hm).2
  simp only [List.mem_cons, Option.mem_toList] at hx
  rcases hx with rfl | hx
  · omega
  · have := (Row.Os.lt f'.row x hx).1
    omega
/-- calls of another sending end leave this one alone -/
theorem PR.send_other (h : PR w0 w B q Oq X K H W T R A n c A2 n2 c2 s r) (hg : PO w0 w B g O K H W T R s2) (hd : ∀ x ∈ q :: Oq.toList, x ∉ g :: O.toList) {a : Option Addr} {l : List Byte} {N cap : Nat} (hD : Rd w a l N cap) :
    Calls Try.prog 12 #[.pointer (some ⟨g, 0, none⟩), .slice a N cap] w fun e w' => (∃ E, e = .returned (.int .i64 E)) ∧ PR w0 w' B q Oq X K H W T R A n c A2 n2 c2 s r ∧ (∃ O' s', PO w0 w' B g O' K H W T R s') ∧ Kp w w' := by
  obtain ⟨E, hE⟩ : ∃ E, snd l s2 = E := ⟨_, rfl⟩
  obtain ⟨E, s'⟩ := E
  refine (hg.send_ hD hE).mono ?_
  rintro e w' ⟨rfl, ⟨O', p', _⟩, k⟩
  exact ⟨⟨E, rfl⟩, h.kept (hg.kp k) (h.p.only k (fun x hx => (hg.lt x hx).1) hd), ⟨O', s', p'⟩, hg.kp k⟩
theorem PR.unlock_other (h : PR w0 w B q Oq X K H W T R A n c A2 n2 c2 s r) (hg : PO w0 w B g O K H W T R s2) (hd : ∀ x ∈ q :: Oq.toList, x ≠ g) (m : Int) :
    Calls Try.prog 19 #[.pointer (some ⟨g, 0, none⟩), .int .i64 m] w fun e w' => e = .returned (.int .i64 0) ∧ PR w0 w' B q Oq X K H W T R A n c A2 n2 c2 s r := by
  refine (hg.unlock_ m rfl).mono ?_
  rintro e w' ⟨rfl, _, k⟩
  exact ⟨rfl, h.kept (hg.kp1 k) (h.p.only k (by simpa using hg.g) (fun x hx => by simpa using hd x hx))⟩
/-- the reference's next state stored into its variable -/
theorem PR.store (h : PR w0 w B g O X K H W T R A n c A2 n2 c2 s r) {A' A2' : Option Addr} {n' c' n2' c2' : Nat} {t : Fs} (v : RV w K H W T R A' n' c' A2' n2' c2' t) :
    PR w0 (put14 w X (.int .i64 K) (.int .i64 H) (.int .i64 W) (.int .i64 T) (.int .i64 R) (.int .i64 t.st) (.slice A' n' c') (.int .i64 t.ac) (.int .i64 t.fl) (.int .i64 t.fr) (.slice A2' n2' c2') (.int .i64 t.nw) (.int .i64 t.tm) (.int .i64 t.rp)) B g O X K H W T R A' n' c' A2' n2' c2' s t := by
  have k := put14_only w X (.int .i64 K) (.int .i64 H) (.int .i64 W) (.int .i64 T) (.int .i64 R) (.int .i64 t.st) (.slice A' n' c') (.int .i64 t.ac) (.int .i64 t.fl) (.int .i64 t.fr) (.slice A2' n2' c2') (.int .i64 t.nw) (.int .i64 t.tm) (.int .i64 t.rp)
  have ha := h.p.offref h.x (by decide) (by decide)
  exact ⟨h.p.only k (by simpa using h.b) (fun x hx hm => ha (by rw [List.mem_singleton] at hm; rw [← hm]; exact hx)), put14_cel h.x _ _ _ _ _ _ _ _ _ _ _ _ _ _, v.keep (Kq.of_ref h.x k), h.b⟩
/-- bytes stay where the reference's variable is written -/
theorem PR.rd (h : PR w0 w B g O X K H W T R A n c A2 n2 c2 s r) {a : Option Addr} {l : List Byte} {N cap : Nat} (hD : Rd w a l N cap) (k : Only [X] w w') : Rd w' a l N cap := by
  refine ⟨hD.len, fun hl => ?_, hD.nil, hD.le, hD.max⟩
  obtain ⟨b, off, e, hlt, h1⟩ := hD.bs hl
  have hb : b ≠ X := by
    rintro rfl
    obtain ⟨x, hx⟩ : ∃ x, l[0]? = some x := ⟨_, List.getElem?_eq_getElem hl⟩
    have h2 := h1 0 x hx
    rw [h.x.cell (off + 0)] at h2
    exact no_byte (l := [.int .i64 K, .int .i64 H, .int .i64 W, .int .i64 T, .int .i64 R, .int .i64 r.st, .slice A n c, .int .i64 r.ac, .int .i64 r.fl, .int .i64 r.fr, .slice A2 n2 c2, .int .i64 r.nw, .int .i64 r.tm, .int .i64 r.rp]) (by intro v hv y; simp only [List.mem_cons, List.not_mem_nil, or_false] at hv; rcases hv with rfl | rfl | rfl | rfl | rfl | rfl | rfl | rfl | rfl | rfl | rfl | rfl | rfl | rfl <;> simp [B8]) _ _ h2
  refine ⟨b, off, e, Nat.lt_of_lt_of_le hlt k.size, fun i x hx => ?_⟩
  have h1 := h1 i x hx
  have h2 := k.block b hlt (by simpa using hb)
  unfold World.cell? at h1 ⊢
  simp only at h1 ⊢
  rw [h2]
  exact h1
end
end Go.Proofs.Ytdpjjhbfhlmolaa.Fop

/-
  The walk of the law FopPlays.
-/
namespace Go.Proofs.Ytdpjjhbfhlmolaa.Fop
open Go.RowKit
open Pac (bel_new Cel.later)
open Tcf (Fr ysame_any)
open Clc (Cw)

theorem PO.lower {w w1 w2 : World} {g : Nat} {O : Option Nat} {K H W T R : Int} {s : Fs} (h : PO w1 w2 w1.heap.size g O K H W T R s) (b : Below w.heap.size w w1) : PO w w2 w.heap.size g O K H W T R s := by
  obtain ⟨v, e, f⟩ := h.ex
  exact ⟨⟨v, e, f.cel, f.row.more b.size, f.ok, f.p⟩, b.trans (h.b.mono b.size), Nat.le_trans b.size h.s, Nat.le_trans b.size h.g⟩

set_option maxRecDepth 100000 in
set_option maxHeartbeats 40000000 in
theorem fopPlays_walk (k0 h0 m0 t0 r0 : Int) (AL : Option Addr) (N cap : Nat) (l : List Op17) (w : World) (hN : Hid (l.length = N)) (hps : Ops w w.heap.size AL l) :
    Calls Try.prog 3 #[.agg #[.int .i64 k0, .int .i64 h0, .int .i64 m0, .int .i64 t0, .int .i64 r0], .slice AL N cap] w fun e w' => e = .returned (.bool true) ∧ Below w.heap.size w w' := by
  obtain ⟨w1, hw1⟩ : ∃ w1, w1 = w.alloc (.cells #[.int .i64 k0, .int .i64 h0, .int .i64 m0, .int .i64 t0, .int .i64 r0] 23) := ⟨_, rfl⟩
  have b1 : Below w.heap.size w w1 := by rw [hw1]; exact bel_new _ _
  have y1 : Cel w1 w.heap.size 23 #[.int .i64 k0, .int .i64 h0, .int .i64 m0, .int .i64 t0, .int .i64 r0] := by rw [hw1]; exact Cel.new _ _ _
  by_cases hbig : 120 < N
  · have g1 : decide ((120 : Int) < (N : Int)) = true := by simp; omega
    have g2 : decide (120 < N) = true := by simp; omega
    clear hbig y1
    go_enter Try.func3, Try.ntmps3
    go_wp2_with fail
    rw [← hw1]
    refine (alive17_any w1).mono ?_
    rintro e w2 ⟨rfl, b2⟩
    go_wp2
    go_ret
    exact ⟨rfl, b1.trans (b2.mono b1.size)⟩
  have g1 : decide ((120 : Int) < (N : Int)) = false := by simp; omega
  have g2 : decide (120 < N) = false := by simp; omega
  have hN120 : N ≤ 120 := by omega
  obtain ⟨K, hK⟩ : ∃ K, clp k0 0 1023 = K := ⟨_, rfl⟩
  obtain ⟨H, hH⟩ : ∃ H, clp h0 0 7 = H := ⟨_, rfl⟩
  obtain ⟨W, hW⟩ : ∃ W, clp m0 1 127 = W := ⟨_, rfl⟩
  obtain ⟨T, hT⟩ : ∃ T, clp t0 1 1099511627776 = T := ⟨_, rfl⟩
  obtain ⟨R, hR⟩ : ∃ R, clp r0 0 255 = R := ⟨_, rfl⟩
  have x1 := PO.new k0 h0 m0 t0 r0 w1 hK hH hW hT hR
  have x2 := fun W0 => xnew17_any k0 h0 m0 t0 r0 W0 hK hH hW hT hR
  have z0 := y1.cell 0
  have z1 := y1.cell 1
  have z2 := y1.cell 2
  have z3 := y1.cell 3
  have z4 := y1.cell 4
  simp at z0 z1 z2 z3 z4
  rw [hw1] at z0 z1 z2 z3 z4
  have HB1 := Lib.hid b1
  clear hbig hK hH hW hT hR b1
  go_enter Try.func3, Try.ntmps3
  go_wp2_with fail
  rw [← hw1]
  clear z0 z1 z2 z3 z4 hw1
  refine x1.mono ?_
  rintro e w2 ⟨g, rfl, p2⟩
  clear x1
  have y2 := Cel.later y1 p2.b
  have q2 := p2.lower HB1.out
  clear y1 p2
  have z0 := y2.cell 0
  have z1 := y2.cell 1
  have z2 := y2.cell 2
  have z3 := y2.cell 3
  have z4 := y2.cell 4
  simp at z0 z1 z2 z3 z4
  go_wp2_with fail
  refine (x2 _).mono ?_
  rintro e w3 ⟨rfl, b3⟩
  clear x2 z0 z1 z2 z3 z4 y2
  have q3 := q2.below b3
  obtain ⟨w4, hw4⟩ : ∃ w4, w4 = w3.alloc (.cells #[.int .i64 K, .int .i64 H, .int .i64 W, .int .i64 T, .int .i64 R, .int .i64 1, .slice none 0 0, .int .i64 0, .int .i64 0, .int .i64 0, .slice none 0 0, .int .i64 0, .int .i64 0, .int .i64 0] 31) := ⟨_, rfl⟩
  have b4 : Below w3.heap.size w3 w4 := by rw [hw4]; exact bel_new _ _
  have y4 : Cel w4 w3.heap.size 31 #[.int .i64 K, .int .i64 H, .int .i64 W, .int .i64 T, .int .i64 R, .int .i64 1, .slice none 0 0, .int .i64 0, .int .i64 0, .int .i64 0, .slice none 0 0, .int .i64 0, .int .i64 0, .int .i64 0] := by rw [hw4]; exact Cel.new _ _ _
  obtain ⟨X, hX⟩ : ∃ X, X = w3.heap.size := ⟨_, rfl⟩
  have hXB : w.heap.size ≤ X := by rw [hX]; exact q3.s
  rw [← hX] at y4
  have P0 : PR w w4 w.heap.size g none X K H W T R none 0 0 none 0 0 fs0 fs0 := ⟨by rw [hX] at *; exact q3.below b4, y4, ⟨US.none_ w4, .inl ⟨rfl, rfl⟩, q3.ok, q3.p⟩, hXB⟩
  clear q2 q3 b3 b4 y4 hXB
  go_upto_region 5 with fail
  rw [← hw4, ← hX]
  clear hw4 hX
  go_wp2
  go_loopw [5, 7, 8] (fun f nw i wr => ∃ (k g : Nat) (O : Option Nat) (A : Option Addr) (n c : Nat) (A2 : Option Addr) (n2 c2 : Nat) (s : Fs) (NW : Int), k ≤ N ∧ f = .pointer (some ⟨g, 0, none⟩) ∧ nw = .int .i64 NW ∧ i = .int .i64 (k : Int) ∧ PR w wr w.heap.size g O X K H W T R A n c A2 n2 c2 s s ∧ tot s ≤ k) (fun _ _ i _ => N - (intOf i).toNat)
  case atStart => exact ⟨0, _, _, _, _, _, _, _, _, _, _, Nat.zero_le _, rfl, rfl, rfl, P0, by decide⟩
  case round =>
    clear P0
    obtain ⟨k, g, O, A, n, c, A2, n2, c2, s, NW, hk, rfl, rfl, rfl, P0, htot⟩ := hrel
    by_cases hkN : k < N
    · obtain ⟨o, ho⟩ : ∃ o, l[k]? = some o := ⟨_, List.getElem?_eq_getElem (by have := hN.out; omega)⟩
      obtain ⟨b, off, a, M, cd, K0⟩ := hps k o ho
      clear ho
      obtain ⟨ca, dt, d, ch, lk, wt, rt, bp, nx⟩ := o
      obtain rfl := K0.e
      have Kr := K0.below P0.p.b
      have i0 : (0 : Int) ≤ (k : Int) := Int.natCast_nonneg _
      have i1 : (k : Int) < (N : Int) := by omega
      have e0 := Kr.c0
      have e1 := Kr.c1
      have e2 := Kr.c2
      have e3 := Kr.c3
      have e4 := Kr.c4
      have e5 := Kr.c5
      have e6 := Kr.c6
      have e7 := Kr.c7
      have e8 := Kr.c8
      dsimp only at e0 e1 e2 e3 e4 e5 e6 e7 e8
      obtain ⟨wA, hwA⟩ : ∃ wA, wA = wr.alloc (.cells #[.int .i64 ca, .int .i64 dt, .slice a M cd, .int .i64 ch, .bool lk, .bool wt, .bool rt, .int .i64 bp, .int .i64 nx] 37) := ⟨_, rfl⟩
      have bA : Below wr.heap.size wr wA := by rw [hwA]; exact bel_new _ _
      have PA := P0.below bA
      obtain ⟨Y, hY⟩ : ∃ Y, Y = wr.heap.size := ⟨_, rfl⟩
      have XA : Cel wA Y 37 #[.int .i64 ca, .int .i64 dt, .slice a M cd, .int .i64 ch, .bool lk, .bool wt, .bool rt, .int .i64 bp, .int .i64 nx] := by rw [hwA, hY]; exact Cel.new _ _ _
      have hAC : s.ac ≤ 1099511627776 := by have h1 := htot; unfold tot at h1; omega
      have HT := Lib.hid (And.intro htot hAC)
      have HK := Lib.hid hkN
      have HPA := Lib.hid PA
      have HXA := Lib.hid XA
      clear P0 bA PA XA htot hAC
      go_upto_region 10 with fail
      rw [← hwA, ← hY]
      clear e0 e1 e2 e3 e4 e5 e6 e7 e8 hwA hY
      have XA := HXA.out
      have f0 := XA.cell 0
      have f1 := XA.cell 1
      have f2 := XA.cell 2
      simp at f0 f1 f2
      by_cases hlong : 1100 < M
      · have t1 : decide ((1100 : Int) < (M : Int)) = true := by simp; omega
        have t2 : decide (1100 < M) = true := by simp; omega
        clear hlong XA
        go_wp2_with fail
        refine (alive17_any wA).mono ?_
        rintro e w6 ⟨rfl, b6⟩
        go_wp2
        go_ret
        exact ⟨rfl, (HPA.out.below b6).p.b⟩
      have t1 : decide ((1100 : Int) < (M : Int)) = false := by simp; omega
      have t2 : decide (1100 < M) = false := by simp; omega
      obtain ⟨NW2, hNW2⟩ : ∃ NW2, wrap64 (NW + dt) = NW2 := ⟨_, rfl⟩
      clear hlong
      go_upto_block 2 with fail
      rw [hNW2]
      clear hNW2 t1 t2
      go_cut [5, 10, 11, 12, 13, 14, 15, 16, 17] from 44 to 161 (fun f ea eb _ _ _ _ _ _ wx => ∃ (g : Nat) (O : Option Nat) (A : Option Addr) (n c : Nat) (A2 : Option Addr) (n2 c2 : Nat) (s : Fs) (E : Int), f = .pointer (some ⟨g, 0, none⟩) ∧ ea = .int .i64 E ∧ eb = .int .i64 E ∧ PR w wx w.heap.size g O X K H W T R A n c A2 n2 c2 s s ∧ tot s ≤ (k : Int) + 1)
      case first =>
        have PA := HPA.out
        obtain ⟨htot, hac⟩ := HT.out
        have rdA := (K0.below PA.p.b).rd PA.p.s
        dsimp only at rdA
        clear f0 f1 f2
        rcases Decidable.em (ca = 1) with rfl | n1
        · obtain ⟨SE, hSE⟩ : ∃ SE, snd d s = SE := ⟨_, rfl⟩
          obtain ⟨E, s'⟩ := SE
          have hcall := PA.send1 rdA hSE
          have ht' : tot s' ≤ (k : Int) + 1 := by
            have h1 := tot_snd (d := d) (s := s)
            rw [hSE] at h1
            dsimp only at h1
            omega
          have HS := Lib.hid hSE
          have HT' := Lib.hid ht'
          have f2 := XA.cell 2
          simp at f2
          clear hSE ht' htot hac PA rdA
          go_wp2_with fail
          refine hcall.mono ?_
          rintro e w3 ⟨rfl, ⟨O', P3⟩, kp3⟩
          have X3 := kp3 _ _ _ XA (by decide) (by decide)
          have rd3 := (K0.below P3.p.b).rd P3.p.s
          dsimp only at rd3
          have href := P3.v.send rd3 HS.out
          clear hcall f2 XA kp3 rd3
          have f2 := X3.cell 2
          simp at f2
          have x0 := P3.x.cell 0
          have x1 := P3.x.cell 1
          have x2 := P3.x.cell 2
          have x3 := P3.x.cell 3
          have x4 := P3.x.cell 4
          have x5 := P3.x.cell 5
          have x6 := P3.x.cell 6
          have x7 := P3.x.cell 7
          have x8 := P3.x.cell 8
          have x9 := P3.x.cell 9
          have x10 := P3.x.cell 10
          have x11 := P3.x.cell 11
          have x12 := P3.x.cell 12
          have x13 := P3.x.cell 13
          simp at x0 x1 x2 x3 x4 x5 x6 x7 x8 x9 x10 x11 x12 x13
          have HP3 := Lib.hid P3
          clear P3 X3
          go_wp2_with fail
          refine href.mono ?_
          rintro e w4 ⟨⟨A', n', c', rfl, v4⟩, b4⟩
          have P4 := HP3.out.below b4
          clear href f2 b4
          clear x0 x1 x2 x3 x4 x5 x6 x7 x8 x9 x10 x11 x12 x13
          have y0 := P4.x.cell 0
          have y1 := P4.x.cell 1
          have y2 := P4.x.cell 2
          have y3 := P4.x.cell 3
          have y4 := P4.x.cell 4
          have y5 := P4.x.cell 5
          have y6 := P4.x.cell 6
          have y7 := P4.x.cell 7
          have y8 := P4.x.cell 8
          have y9 := P4.x.cell 9
          have y10 := P4.x.cell 10
          have y11 := P4.x.cell 11
          have y12 := P4.x.cell 12
          have y13 := P4.x.cell 13
          simp at y0 y1 y2 y3 y4 y5 y6 y7 y8 y9 y10 y11 y12 y13
          have yy0 := P4.x.free 0
          have yy1 := P4.x.free 1
          have yy2 := P4.x.free 2
          have yy3 := P4.x.free 3
          have yy4 := P4.x.free 4
          have yy5 := P4.x.free 5
          have yy6 := P4.x.free 6
          have yy7 := P4.x.free 7
          have yy8 := P4.x.free 8
          have yy9 := P4.x.free 9
          have yy10 := P4.x.free 10
          have yy11 := P4.x.free 11
          have yy12 := P4.x.free 12
          have yy13 := P4.x.free 13
          have P5 := P4.store v4
          unfold put14 at P5
          have HP5 := Lib.hid P5
          clear P5 P4 v4
          go_wp2
          go_meet
          case rel => exact ⟨_, _, _, _, _, _, _, _, s', E, rfl, rfl, rfl, HP5.out, HT'.out⟩
        rcases Decidable.em (ca = 2) with rfl | n2'
        · have v1 : ((2 : Int) == 1) = false := rfl
          obtain ⟨NX, hNX⟩ : ∃ NX, nxt K H W T R NW2 s = NX := ⟨_, rfl⟩
          obtain ⟨⟨⟨byp, con, cr, chh, sq, dd⟩, ok⟩, s'⟩ := NX
          obtain ⟨Nd, hNd⟩ : ∃ Nd, dd.length = Nd := ⟨_, rfl⟩
          have hcall := PA.next1 NW2 hNX hNd
          have ht' : tot s' ≤ (k : Int) + 1 := by
            have h1 := tot_nxt (K := K) (H := H) (W := W) (T := T) (R := R) (n := NW2) (s := s)
            rw [hNX] at h1
            dsimp only at h1
            omega
          have HS := Lib.hid (And.intro hNX (And.intro hNd hac))
          have HT' := Lib.hid ht'
          clear hNX hNd ht' htot hac PA rdA XA
          go_wp2_with fail
          refine hcall.mono ?_
          rintro e w3 ⟨⟨Au, cu, rfl, ru⟩, P3, kp3⟩
          clear hcall kp3
          obtain ⟨w4, hw4⟩ : ∃ w4, w4 = w3.alloc (.cells #[.bool byp, .bool con, .int .i64 cr, .int .i64 chh, .int .i64 sq, .slice Au Nd cu] 43) := ⟨_, rfl⟩
          have b4 : Below w3.heap.size w3 w4 := by rw [hw4]; exact bel_new _ _
          have yu := Cel.new w3 43 #[.bool byp, .bool con, .int .i64 cr, .int .i64 chh, .int .i64 sq, .slice Au Nd cu]
          obtain ⟨U, hU⟩ : ∃ U, U = w3.heap.size := ⟨_, rfl⟩
          rw [← hw4, ← hU] at yu
          have P4 := P3.below b4
          have ru4 := ru.later b4
          have href := P4.v.next NW2 HS.out.1 HS.out.2.1 HS.out.2.2
          dsimp only at href
          clear P3 ru b4
          go_upto_region 21 with fail
          rw [← hw4, ← hU]
          clear hw4 hU
          have x0 := P4.x.cell 0
          have x1 := P4.x.cell 1
          have x2 := P4.x.cell 2
          have x3 := P4.x.cell 3
          have x4 := P4.x.cell 4
          have x5 := P4.x.cell 5
          have x6 := P4.x.cell 6
          have x7 := P4.x.cell 7
          have x8 := P4.x.cell 8
          have x9 := P4.x.cell 9
          have x10 := P4.x.cell 10
          have x11 := P4.x.cell 11
          have x12 := P4.x.cell 12
          have x13 := P4.x.cell 13
          simp at x0 x1 x2 x3 x4 x5 x6 x7 x8 x9 x10 x11 x12 x13
          have HP4 := Lib.hid P4
          clear P4
          go_wp2_with fail
          refine href.mono ?_
          rintro e w5 ⟨⟨A2', n2', c2', av, cv, rfl, v5, rv⟩, b5⟩
          have P5 := HP4.out.below b5
          have yu5 := Cel.later yu b5
          have ru5 := ru4.later b5
          clear href yu ru4
          clear x0 x1 x2 x3 x4 x5 x6 x7 x8 x9 x10 x11 x12 x13
          obtain ⟨w6, hw6⟩ : ∃ w6, w6 = (w5.alloc (.cells #[.int .i64 K, .int .i64 H, .int .i64 W, .int .i64 T, .int .i64 R, .int .i64 s'.st, .slice A n c, .int .i64 s'.ac, .int .i64 s'.fl, .int .i64 s'.fr, .slice A2' n2' c2', .int .i64 s'.nw, .int .i64 s'.tm, .int .i64 s'.rp] 31)).alloc (.cells #[.bool byp, .bool con, .int .i64 cr, .int .i64 chh, .int .i64 sq, .slice av Nd cv] 43) := ⟨_, rfl⟩
          have b6 : Below w5.heap.size w5 w6 := by rw [hw6]; exact (bel_new _ _).alloc (by simp) _
          obtain ⟨Z, hZ⟩ : ∃ Z, Z = w5.heap.size := ⟨_, rfl⟩
          obtain ⟨V, hVz⟩ : ∃ V, V = Z + 1 := ⟨_, rfl⟩
          have yz : Cel w6 Z 31 #[.int .i64 K, .int .i64 H, .int .i64 W, .int .i64 T, .int .i64 R, .int .i64 s'.st, .slice A n c, .int .i64 s'.ac, .int .i64 s'.fl, .int .i64 s'.fr, .slice A2' n2' c2', .int .i64 s'.nw, .int .i64 s'.tm, .int .i64 s'.rp] := by rw [hw6, hZ]; exact Cel.later (Cel_at rfl) (bel_new _ _)
          have yv : Cel w6 V 43 #[.bool byp, .bool con, .int .i64 cr, .int .i64 chh, .int .i64 sq, .slice av Nd cv] := by rw [hw6, hVz, hZ]; exact Cel_at (by simp)
          have P6 := P5.below b6
          have yu6 := Cel.later yu5 b6
          have ru6 := ru5.later b6
          have rv6 := rv.later b6
          have v6 := v5.below b6
          clear P5 yu5 ru5 rv v5 b6
          go_upto_region 22 with fail
          rw [← hw6, ← hZ, ← hVz]
          clear hw6 hZ hVz
          obtain ⟨w7, hw7⟩ : ∃ w7, w7 = put14 w6 X (.int .i64 K) (.int .i64 H) (.int .i64 W) (.int .i64 T) (.int .i64 R) (.int .i64 s'.st) (.slice A n c) (.int .i64 s'.ac) (.int .i64 s'.fl) (.int .i64 s'.fr) (.slice A2' n2' c2') (.int .i64 s'.nw) (.int .i64 s'.tm) (.int .i64 s'.rp) := ⟨_, rfl⟩
          have k7 : Only [X] w6 w7 := by rw [hw7]; exact put14_only _ _ _ _ _ _ _ _ _ _ _ _ _ _ _ _
          have P7 := P6.store v6
          rw [← hw7] at P7
          have yu7 := yu6.only k7 (by rw [List.mem_singleton]; exact Cel.apart yu6 P6.x (by decide))
          have yv7 := yv.only k7 (by rw [List.mem_singleton]; exact Cel.apart yv P6.x (by decide))
          have ru7 := P6.rd ru6 k7
          have rv7 := P6.rd rv6 k7
          unfold put14 at hw7
          have x0 := yz.cell 0
          have x1 := yz.cell 1
          have x2 := yz.cell 2
          have x3 := yz.cell 3
          have x4 := yz.cell 4
          have x5 := yz.cell 5
          have x6 := yz.cell 6
          have x7 := yz.cell 7
          have x8 := yz.cell 8
          have x9 := yz.cell 9
          have x10 := yz.cell 10
          have x11 := yz.cell 11
          have x12 := yz.cell 12
          have x13 := yz.cell 13
          simp at x0 x1 x2 x3 x4 x5 x6 x7 x8 x9 x10 x11 x12 x13
          have y0 := P6.x.cell 0
          have y1 := P6.x.cell 1
          have y2 := P6.x.cell 2
          have y3 := P6.x.cell 3
          have y4 := P6.x.cell 4
          have y5 := P6.x.cell 5
          have y6 := P6.x.cell 6
          have y7 := P6.x.cell 7
          have y8 := P6.x.cell 8
          have y9 := P6.x.cell 9
          have y10 := P6.x.cell 10
          have y11 := P6.x.cell 11
          have y12 := P6.x.cell 12
          have y13 := P6.x.cell 13
          simp at y0 y1 y2 y3 y4 y5 y6 y7 y8 y9 y10 y11 y12 y13
          have yy0 := P6.x.free 0
          have yy1 := P6.x.free 1
          have yy2 := P6.x.free 2
          have yy3 := P6.x.free 3
          have yy4 := P6.x.free 4
          have yy5 := P6.x.free 5
          have yy6 := P6.x.free 6
          have yy7 := P6.x.free 7
          have yy8 := P6.x.free 8
          have yy9 := P6.x.free 9
          have yy10 := P6.x.free 10
          have yy11 := P6.x.free 11
          have yy12 := P6.x.free 12
          have yy13 := P6.x.free 13
          have HP7 := Lib.hid P7
          clear P6 v6 yu6 yv ru6 rv6 k7 P7 yz
          go_upto_region 23 with fail
          rw [← hw7]
          clear hw7
          clear x0 x1 x2 x3 x4 x5 x6 x7 x8 x9 x10 x11 x12 x13
          clear y0 yy0 y1 yy1 y2 yy2 y3 yy3 y4 yy4 y5 yy5 y6 yy6 y7 yy7 y8 yy8 y9 yy9 y10 yy10 y11 yy11 y12 yy12 y13 yy13
          have x0 := yu7.cell 0
          have x1 := yu7.cell 1
          have x2 := yu7.cell 2
          have x3 := yu7.cell 3
          have x4 := yu7.cell 4
          have x5 := yu7.cell 5
          simp at x0 x1 x2 x3 x4 x5
          have z0 := yv7.cell 0
          have z1 := yv7.cell 1
          have z2 := yv7.cell 2
          have z3 := yv7.cell 3
          have z4 := yv7.cell 4
          have z5 := yv7.cell 5
          simp at z0 z1 z2 z3 z4 z5
          have hsame := ysame_any byp con cr chh sq Au av dd Nd cu cv w7 ru7 rv7
          have t9 : (ok != ok) = false := by simp
          clear yu7 yv7 ru7 rv7
          go_wp2_with fail
          refine hsame.mono ?_
          rintro e w8 ⟨rfl, b8⟩
          have HP8 := Lib.hid (HP7.out.below b8)
          clear hsame b8 HP7
          go_wp2
          go_meet
          case rel => exact ⟨_, _, _, _, _, _, _, _, s', 0, rfl, rfl, rfl, HP8.out, HT'.out⟩
        rcases Decidable.em (ca = 3) with rfl | n3
        · obtain ⟨RE, hRE⟩ : ∃ RE, rpt H ⟨ch, lk, wt, rt, bp, nx⟩ NW2 s = RE := ⟨_, rfl⟩
          obtain ⟨E, s'⟩ := RE
          have hcall := PA.report1 ch lk wt rt bp nx NW2 hRE hac
          have ht' : tot s' ≤ (k : Int) + 1 := by
            have h1 := tot_rpt (H := H) (n := NW2) (c := ⟨ch, lk, wt, rt, bp, nx⟩) PA.p.ok
            rw [hRE] at h1
            dsimp only at h1
            omega
          have HS := Lib.hid (And.intro hRE hac)
          have HT' := Lib.hid ht'
          have f3 := XA.cell 3
          have f4 := XA.cell 4
          have f5 := XA.cell 5
          have f6 := XA.cell 6
          have f7 := XA.cell 7
          have f8 := XA.cell 8
          simp at f3 f4 f5 f6 f7 f8
          clear hRE ht' htot hac PA rdA n1 n2'
          go_wp2_with fail
          refine hcall.mono ?_
          rintro e w3 ⟨rfl, P3, kp3⟩
          have X3 := kp3 _ _ _ XA (by decide) (by decide)
          have href := P3.v.report ch lk wt rt bp nx NW2 HS.out.1 HS.out.2
          clear hcall f3 f4 f5 f6 f7 f8 XA kp3
          have f3 := X3.cell 3
          have f4 := X3.cell 4
          have f5 := X3.cell 5
          have f6 := X3.cell 6
          have f7 := X3.cell 7
          have f8 := X3.cell 8
          simp at f3 f4 f5 f6 f7 f8
          have x0 := P3.x.cell 0
          have x1 := P3.x.cell 1
          have x2 := P3.x.cell 2
          have x3 := P3.x.cell 3
          have x4 := P3.x.cell 4
          have x5 := P3.x.cell 5
          have x6 := P3.x.cell 6
          have x7 := P3.x.cell 7
          have x8 := P3.x.cell 8
          have x9 := P3.x.cell 9
          have x10 := P3.x.cell 10
          have x11 := P3.x.cell 11
          have x12 := P3.x.cell 12
          have x13 := P3.x.cell 13
          simp at x0 x1 x2 x3 x4 x5 x6 x7 x8 x9 x10 x11 x12 x13
          have HP3 := Lib.hid P3
          clear P3 X3
          go_wp2_with fail
          refine href.mono ?_
          rintro e w4 ⟨⟨A', n', c', rfl, v4⟩, b4⟩
          have P4 := HP3.out.below b4
          clear href f3 f4 f5 f6 f7 f8 b4
          clear x0 x1 x2 x3 x4 x5 x6 x7 x8 x9 x10 x11 x12 x13
          have y0 := P4.x.cell 0
          have y1 := P4.x.cell 1
          have y2 := P4.x.cell 2
          have y3 := P4.x.cell 3
          have y4 := P4.x.cell 4
          have y5 := P4.x.cell 5
          have y6 := P4.x.cell 6
          have y7 := P4.x.cell 7
          have y8 := P4.x.cell 8
          have y9 := P4.x.cell 9
          have y10 := P4.x.cell 10
          have y11 := P4.x.cell 11
          have y12 := P4.x.cell 12
          have y13 := P4.x.cell 13
          simp at y0 y1 y2 y3 y4 y5 y6 y7 y8 y9 y10 y11 y12 y13
          have yy0 := P4.x.free 0
          have yy1 := P4.x.free 1
          have yy2 := P4.x.free 2
          have yy3 := P4.x.free 3
          have yy4 := P4.x.free 4
          have yy5 := P4.x.free 5
          have yy6 := P4.x.free 6
          have yy7 := P4.x.free 7
          have yy8 := P4.x.free 8
          have yy9 := P4.x.free 9
          have yy10 := P4.x.free 10
          have yy11 := P4.x.free 11
          have yy12 := P4.x.free 12
          have yy13 := P4.x.free 13
          have P5 := P4.store v4
          unfold put14 at P5
          have HP5 := Lib.hid P5
          clear P5 P4 v4
          go_wp2
          go_meet
          case rel => exact ⟨_, _, _, _, _, _, _, _, s', E, rfl, rfl, rfl, HP5.out, HT'.out⟩
        rcases Decidable.em (ca = 4) with rfl | n4
        · obtain ⟨s', hU⟩ : ∃ s', unl NW2 s = s' := ⟨_, rfl⟩
          have hcall := PA.unlock1 NW2 hU
          have ht' : tot s' ≤ (k : Int) + 1 := by
            have h1 := tot_unl (n := NW2) (s := s)
            rw [hU] at h1
            omega
          have HS := Lib.hid hU
          have HT' := Lib.hid ht'
          clear hU ht' htot hac PA rdA
          go_wp2_with fail
          refine hcall.mono ?_
          rintro e w3 ⟨rfl, P3, kp3⟩
          have href := P3.v.unlock NW2 HS.out
          clear hcall XA kp3
          have x0 := P3.x.cell 0
          have x1 := P3.x.cell 1
          have x2 := P3.x.cell 2
          have x3 := P3.x.cell 3
          have x4 := P3.x.cell 4
          have x5 := P3.x.cell 5
          have x6 := P3.x.cell 6
          have x7 := P3.x.cell 7
          have x8 := P3.x.cell 8
          have x9 := P3.x.cell 9
          have x10 := P3.x.cell 10
          have x11 := P3.x.cell 11
          have x12 := P3.x.cell 12
          have x13 := P3.x.cell 13
          simp at x0 x1 x2 x3 x4 x5 x6 x7 x8 x9 x10 x11 x12 x13
          have HP3 := Lib.hid P3
          clear P3
          go_wp2_with fail
          refine href.mono ?_
          rintro e w4 ⟨⟨A2', n2', c2', rfl, v4⟩, b4⟩
          have P4 := HP3.out.below b4
          clear href b4
          clear x0 x1 x2 x3 x4 x5 x6 x7 x8 x9 x10 x11 x12 x13
          have y0 := P4.x.cell 0
          have y1 := P4.x.cell 1
          have y2 := P4.x.cell 2
          have y3 := P4.x.cell 3
          have y4 := P4.x.cell 4
          have y5 := P4.x.cell 5
          have y6 := P4.x.cell 6
          have y7 := P4.x.cell 7
          have y8 := P4.x.cell 8
          have y9 := P4.x.cell 9
          have y10 := P4.x.cell 10
          have y11 := P4.x.cell 11
          have y12 := P4.x.cell 12
          have y13 := P4.x.cell 13
          simp at y0 y1 y2 y3 y4 y5 y6 y7 y8 y9 y10 y11 y12 y13
          have yy0 := P4.x.free 0
          have yy1 := P4.x.free 1
          have yy2 := P4.x.free 2
          have yy3 := P4.x.free 3
          have yy4 := P4.x.free 4
          have yy5 := P4.x.free 5
          have yy6 := P4.x.free 6
          have yy7 := P4.x.free 7
          have yy8 := P4.x.free 8
          have yy9 := P4.x.free 9
          have yy10 := P4.x.free 10
          have yy11 := P4.x.free 11
          have yy12 := P4.x.free 12
          have yy13 := P4.x.free 13
          have P5 := P4.store v4
          unfold put14 at P5
          have HP5 := Lib.hid P5
          clear P5 P4 v4
          go_wp2
          go_meet
          case rel => exact ⟨_, _, _, _, _, _, _, _, s', 0, rfl, rfl, rfl, HP5.out, HT'.out⟩
        rcases Decidable.em (ca = 5) with rfl | n5
        · have hcall := PA.clone1
          have HT' : Hid (tot s ≤ (k : Int) + 1) := Lib.hid (by omega)
          clear htot hac PA rdA XA
          go_wp2_with fail
          refine hcall.mono ?_
          rintro e w3 ⟨q, Oq, rfl, Pq, pg, hd⟩
          clear hcall
          obtain ⟨w4, hw4⟩ : ∃ w4, w4 = w3.alloc (.cells #[.int .u8 1] 5) := ⟨_, rfl⟩
          have b4 : Below w3.heap.size w3 w4 := by rw [hw4]; exact bel_new _ _
          have rd4 : Rd w4 (some ⟨w3.heap.size, 0, none⟩) [1#8] 1 1 := by
            rw [hw4]
            exact ⟨rfl, Bs_new _ _ _ _ (by simp) _ (by simp) _, (fun h => nomatch h), Nat.le_refl _, by decide⟩
          have hot := (Pq.below b4).send_other (pg.below b4) hd rd4
          clear Pq pg b4 rd4
          go_wp2_with fail
          rw [← hw4]
          refine hot.mono ?_
          rintro e w5 ⟨⟨E5, rfl⟩, P5, ⟨O5, s5, p5⟩, _⟩
          have hun := P5.unlock_other p5 (fun x hx e => hd x hx (by rw [e]; simp)) NW2
          clear hot hw4 P5 p5 hd
          go_wp2_with fail
          refine hun.mono ?_
          rintro e w6 ⟨rfl, P6⟩
          have HP6 := Lib.hid P6
          clear hun P6
          go_wp2
          go_meet
          case rel => exact ⟨_, _, _, _, _, _, _, _, s, 0, rfl, rfl, rfl, HP6.out, HT'.out⟩
        have v1 : (ca == 1) = false := by simpa using n1
        have v2 : (ca == 2) = false := by simpa using n2'
        have v3 : (ca == 3) = false := by simpa using n3
        have v4 : (ca == 4) = false := by simpa using n4
        have v5 : (ca == 5) = false := by simpa using n5
        have HP6 := Lib.hid PA
        have HT' : Hid (tot s ≤ (k : Int) + 1) := Lib.hid (by omega)
        clear PA htot hac rdA XA
        go_wp2
        go_meet
        case rel => exact ⟨_, _, _, _, _, _, _, _, s, 0, rfl, rfl, rfl, HP6.out, HT'.out⟩
      case rest =>
        clear f0 f1 f2
        obtain ⟨g', O', A', n', c', A2', n2', c2', s', E, rfl, rfl, rfl, P9, ht9⟩ := hcut
        have hXn : X < wc.heap.size := P9.x.lt
        have e5 := P9.x.cell 5
        have e6 := P9.x.cell 6
        have e7 := P9.x.cell 7
        simp at e5 e6 e7
        have d5 : ∀ q : Later wc, q.W.cell? ⟨X, 5, none⟩ = some (.int .i64 s'.st) := later_cell e5 hXn
        have d6 : ∀ q : Later wc, q.W.cell? ⟨X, 6, none⟩ = some (.slice A' n' c') := later_cell e6 hXn
        have d7 : ∀ q : Later wc, q.W.cell? ⟨X, 7, none⟩ = some (.int .i64 s'.ac) := later_cell e7 hXn
        have HP := Lib.hid P9
        have HT9 := Lib.hid ht9
        have v1 : ∀ q : Later wc, Calls Try.prog 22 #[.pointer (some ⟨g', 0, none⟩)] q.W fun e w' => e = .returned (.int .i64 s'.st) ∧ Below q.W.heap.size q.W w' := fun q => (HP.out.p.below q.h).state_.mono fun _ _ ⟨e, h⟩ => ⟨e, by subst h; exact Below.refl _ _⟩
        have v2 : ∀ q : Later wc, Calls Try.prog 23 #[.pointer (some ⟨g', 0, none⟩)] q.W fun e w' => e = .returned (.int .i64 (n' : Int)) ∧ Below q.W.heap.size q.W w' := fun q => (HP.out.p.below q.h).queued_.mono fun _ _ ⟨e, h⟩ => ⟨by rw [e, HP.out.v.us.len], by subst h; exact Below.refl _ _⟩
        have v3 : ∀ q : Later wc, Calls Try.prog 24 #[.pointer (some ⟨g', 0, none⟩)] q.W fun e w' => e = .returned (.int .i64 s'.ac) ∧ Below q.W.heap.size q.W w' := fun q => (HP.out.p.below q.h).acked_.mono fun _ _ ⟨e, h⟩ => ⟨e, by subst h; exact Below.refl _ _⟩
        obtain ⟨sst, hsst⟩ : ∃ x, x = s'.st := ⟨_, rfl⟩
        obtain ⟨sac, hsac⟩ : ∃ x, x = s'.ac := ⟨_, rfl⟩
        rw [← hsst] at d5
        rw [← hsac] at d7
        simp only [← hsst] at v1
        simp only [← hsac] at v3
        have j0 : (E != E) = false := by simp
        have j1 : (sst != sst) = false := by simp
        have j2 : ((n' : Int) != (n' : Int)) = false := by simp
        have j3 : (sac != sac) = false := by simp
        clear P9 ht9 e5 e6 e7 hsst hsac XA
        go_upto_region 36 with fail
        refine wp_region_later (by kernel_rfl) (by kernel_rfl) ?_
        repeat (go_big_quiet_step ((first
          | (go_at_call 22; exact later_of (v1 _))
          | (go_at_call 23; exact later_of (v2 _))
          | (go_at_call 24; exact later_of (v3 _)))))
        refine wpQuiet_nil ?_
        rintro _ ⟨⟨w10, b10⟩, rfl⟩
        have HP10 := Lib.hid (HP.out.below b10)
        clear v1 v2 v3 d5 d6 d7 HP b10
        go_wp2
        go_roundw
        case rel => exact ⟨k + 1, g', O', A', n', c', A2', n2', c2', s', NW2, HK.out, rfl, rfl, by simp, HP10.out, by have := HT9.out; omega⟩
        case measure => have := HK.out; simp [intOf]; omega
    · obtain rfl : k = N := by omega
      have HP := Lib.hid P0
      clear P0 hkN
      go_wp2_with fail
      refine (alive17_any wr).mono ?_
      rintro e w6 ⟨rfl, b6⟩
      go_wp2
      go_ret
      exact ⟨rfl, (HP.out.below b6).p.b⟩
end Go.Proofs.Ytdpjjhbfhlmolaa.Fop
