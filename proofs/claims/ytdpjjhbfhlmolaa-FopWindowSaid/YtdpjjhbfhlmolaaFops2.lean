/-
  Law17h Law17i ArgCw, one after another.
-/
import Derived.Test.YtdpjjhbfhlmolaaFops1
import Derived.Test.YtdpjjhbfhlmolaaRows

/-
  The law FopDelivers.
-/
namespace Go.Proofs.Ytdpjjhbfhlmolaa.Fop
open Go.RowKit
open Pac (bel_new Cel.later)
open Tcf (Fr)
open Lst (LS Qb)

theorem rd_off {w w' : World} {g n c : Nat} {t : TypeId} {cs : Array Value} {a : Option Addr} {l : List Byte} (hc : Cel w g t cs) (hn : ∀ (i : Nat) (x : Byte), cs[i]? ≠ some (B8 x)) (hd : Rd w a l n c) (k : Only [g] w w') : Rd w' a l n c := by
  refine ⟨hd.len, fun hl => ?_, hd.nil, hd.le, hd.max⟩
  obtain ⟨b, off, e, hlt, h1⟩ := hd.bs hl
  refine ⟨b, off, e, Nat.lt_of_lt_of_le hlt k.size, fun i x hx => ?_⟩
  have h1 := h1 i x hx
  have hb : b ≠ g := by
    rintro rfl
    rw [hc.cell (off + i)] at h1
    exact hn _ _ h1
  have h2 := k.block b hlt (by simpa using hb)
  unfold World.cell? at h1 ⊢
  simp only at h1 ⊢
  rw [h2]
  exact h1
theorem end_no (R : Int) (ag : Bool) (A : Option Addr) (n c : Nat) : ∀ (i : Nat) (x : Byte), (#[.int .i64 R, .bool ag, .slice A n c] : Array Value)[i]? ≠ some (B8 x)
  | 0, _ => by simp
  | 1, _ => by simp
  | 2, _ => by simp
  | i + 3, _ => by simp
theorem PO.apart1 {w0 w : World} {B g : Nat} {O : Option Nat} {K H W T R : Int} {s : Fs} (h : PO w0 w B g O K H W T R s) {q : Nat} {t : TypeId} {cs : Array Value} (hc : Cel w q t cs) (h1 : t ≠ 70) (h2 : t ≠ 9) : ∀ x ∈ g :: O.toList, x ∉ [q] := by
  obtain ⟨v, rfl, f⟩ := h.ex
  intro x hx hm
  rw [List.mem_singleton] at hm
  subst hm
  simp only [List.mem_cons, Option.mem_toList] at hx
  rcases hx with rfl | hx
  · exact Cel.apart hc f.cel h1 rfl
  · exact Row.Os.apart f.row hc h2.symm hx
/-- a row of slices is none of the end's blocks -/
theorem PO.row_apart {w0 w : World} {B g : Nat} {O : Option Nat} {K H W T R : Int} {s : Fs} (h : PO w0 w B g O K H W T R s) {v : Value} {qs : List Qb} {B' : Nat} (r : Row.Os Lst.enc 1 w B' 33 v qs) : ∀ i, v.ownBlock = some i → i ∉ g :: O.toList := by
  intro i hi hm
  rcases r.2 with ⟨rfl, _⟩ | ⟨g', cap, cur, rfl, _, hc, _⟩
  · cases hi
  · injection hi with hi
    have hi' : g' = i := hi
    subst hi'
    exact h.apart1 (t := 33) hc (by decide) (by decide) g' hm (by simp)

/-- what the receiving end has: its elements' bytes lie behind all blocks of the sending end, and not in its own row -/
def GD (w : World) (F : List Nat) (v : Value) (qs : List Qb) : Prop := ∀ q ∈ qs, ∃ b, q.a = some ⟨b, 0, none⟩ ∧ Rd w (some ⟨b, 0, none⟩) q.l q.l.length q.c ∧ (∀ x ∈ F, x < b) ∧ v.ownBlock ≠ some b ∧ b < w.heap.size
structure DD (w0 w : World) (B g : Nat) (O : Option Nat) (W T : Int) (s : Fs) (X : Nat) (Q : Int) (ag : Bool) (A : Option Addr) (n c : Nat) (qs : List Qb) : Prop where
  p : PO w0 w B g O 5 1 W T 255 s
  e : Cel w X 57 #[.int .i64 Q, .bool ag, .slice A n c]
  r : Row.Os Lst.enc 1 w B 33 (.slice A n c) qs
  d : GD w (g :: O.toList) (.slice A n c) qs
  x : B ≤ X
section
variable {w0 w w' : World} {B g : Nat} {O : Option Nat} {W T : Int} {s s' : Fs} {X n c : Nat} {Q : Int} {ag : Bool} {A : Option Addr} {qs : List Qb}
theorem DD.kp (h : DD w0 w B g O W T s X Q ag A n c qs) (k : Only (g :: O.toList) w w') (p' : PO w0 w' B g O 5 1 W T 255 s') : DD w0 w' B g O W T s' X Q ag A n c qs :=
  ⟨p', h.p.kp k _ _ _ h.e (by decide) (by decide), h.r.only k (h.p.row_apart h.r), fun q hq => by
    obtain ⟨b, e, r, hx, hv, hb⟩ := h.d q hq
    exact ⟨b, e, rd_only r k hx, hx, hv, Nat.lt_of_lt_of_le hb k.size⟩, h.x⟩
theorem DD.kp1 (h : DD w0 w B g O W T s X Q ag A n c qs) (k : Only [g] w w') (p' : PO w0 w' B g O 5 1 W T 255 s') : DD w0 w' B g O W T s' X Q ag A n c qs :=
  h.kp (k.more (fun x hx => .inl (by simp at hx ⊢; exact .inl hx))) p'
theorem DD.below (h : DD w0 w B g O W T s X Q ag A n c qs) (k : Below w.heap.size w w') : DD w0 w' B g O W T s X Q ag A n c qs :=
  ⟨h.p.below k, Cel.later h.e k, h.r.below k, fun q hq => by
    obtain ⟨b, e, r, hx, hv, hb⟩ := h.d q hq
    exact ⟨b, e, r.later k, hx, hv, Nat.lt_of_lt_of_le hb k.size⟩, h.x⟩
/-- the variable is stored anew -/
theorem DD.store (p : PO w0 w B g O 5 1 W T 255 s) {Q0 : Int} {ag0 : Bool} {A0 : Option Addr} {n0 c0 : Nat} (e : Cel w X 57 #[.int .i64 Q0, .bool ag0, .slice A0 n0 c0]) (r : Row.Os Lst.enc 1 w B 33 (.slice A n c) qs) (d : GD w (g :: O.toList) (.slice A n c) qs) (x : B ≤ X) (Q : Int) (ag : Bool) : DD w0 (put3 w X (.int .i64 Q) (.bool ag) (.slice A n c)) B g O W T s X Q ag A n c qs := by
  have k := put3_only w X (.int .i64 Q) (.bool ag) (.slice A n c)
  exact ⟨p.only k (by simpa using x) (p.apart1 (t := 57) e (by decide) (by decide)), put3_cel e _ _ _, r.only k (fun i hi hm => by
      rw [List.mem_singleton] at hm
      subst hm
      exact Row.Os.apart r (t := 57) e (by decide) hi), fun q hq => by
    obtain ⟨b, e2, r2, hx, hv, hb⟩ := d q hq
    exact ⟨b, e2, rd_off (t := 57) e (end_no _ _ _ _ _) r2 k, hx, hv, Nat.lt_of_lt_of_le hb k.size⟩, x⟩
/-- a unit is received -/
theorem DD.heard (h : DD w0 w B g O W T s X Q ag A n c qs) {A' : Option Addr} {n' c' : Nat} {d : List Byte} {b m c2 : Nat} (k : Only (Value.slice A n c).ownBlock.toList w w') (r' : Row.Os Lst.enc 1 w' B 33 (.slice A' n' c') (qs ++ [⟨d, some ⟨b, 0, none⟩, c2⟩])) (hv : (Value.slice A' n' c').ownBlock = (Value.slice A n c).ownBlock ∨ ∃ i, (Value.slice A' n' c').ownBlock = some i ∧ w.heap.size ≤ i)
    (rd : Rd w (some ⟨b, 0, none⟩) d m c2) (hdm : d.length = m) (hF : ∀ x ∈ g :: O.toList, x < b) (hvb : (Value.slice A n c).ownBlock ≠ some b) (hb : b < w.heap.size) (Q' : Int) (ag' : Bool) : DD w0 (put3 w' X (.int .i64 Q') (.bool ag') (.slice A' n' c')) B g O W T s X Q' ag' A' n' c' (qs ++ [⟨d, some ⟨b, 0, none⟩, c2⟩]) := by
  have hlt := h.r.lt
  have p' := h.p.only k (fun x hx => (hlt x (by simpa using hx)).1) (fun x hx hm => h.p.row_apart h.r x (by simpa using hm) hx)
  have e' := h.e.only k (fun hm => Row.Os.apart h.r (t := 57) h.e (by decide) (by simpa using hm))
  have keep : ∀ {b : Nat} {l : List Byte} {n9 c9 : Nat}, Rd w (some ⟨b, 0, none⟩) l n9 c9 → (Value.slice A n c).ownBlock ≠ some b → b < w.heap.size → Rd w' (some ⟨b, 0, none⟩) l n9 c9 ∧ (Value.slice A' n' c').ownBlock ≠ some b := fun r2 h2 h3 => by
    refine ⟨r2.only k (fun hm => h2 (by simpa using hm)), ?_⟩
    rcases hv with e | ⟨i, e, hi⟩
    · rw [e]; exact h2
    · rw [e]; intro he; injection he with he; omega
  refine DD.store p' e' r' (fun q hq => ?_) h.x Q' ag'
  rcases List.mem_append.1 hq with hq | hq
  · obtain ⟨b1, e1, r1, hx, hv1, hb1⟩ := h.d q hq
    obtain ⟨k1, k2⟩ := keep r1 hv1 hb1
    exact ⟨b1, e1, k1, hx, k2, Nat.lt_of_lt_of_le hb1 k.size⟩
  · rw [List.mem_singleton] at hq
    subst hq
    obtain ⟨k1, k2⟩ := keep rd hvb hb
    exact ⟨b, rfl, by rw [hdm]; exact k1, hF, k2, Nat.lt_of_lt_of_le hb k.size⟩
end
end Go.Proofs.Ytdpjjhbfhlmolaa.Fop

/-
  The walk of the law FopDelivers.
-/
namespace Go.Proofs.Ytdpjjhbfhlmolaa.Fop
open Go.RowKit
open Pac (bel_new Cel.later)
open Tcf (Fr)
open Lst (LS Qb)

set_option maxRecDepth 100000 in
set_option maxHeartbeats 16000000 in
theorem fopDelivers_any (x z : Int) (l : List (List Byte)) (A0 : Option Addr) (N cap : Nat) (up : List Byte) (Au : Option Addr) (Nu cu : Nat) (dn : List Byte) (Ad : Option Addr) (Nd cd : Nat) (w : World) (hx : 0 ≤ x ∧ x ≤ 255) (hz : 0 ≤ z ∧ z ≤ 255) (hN : Hid (l.length = N)) (hl : LS w w.heap.size A0 l) (hNu : Hid (up.length = Nu)) (hu : Bs w w.heap.size Au up) (hNd : Hid (dn.length = Nd)) (hd : Bs w w.heap.size Ad dn) :
    Calls Try.prog 4 #[.int .u8 x, .int .u8 z, .slice A0 N cap, .slice Au Nu cu, .slice Ad Nd cd] w fun e w' => e = .returned (.bool true) ∧ Below w.heap.size w w' := by
  by_cases b1 : 40 < N
  · have g1a : decide ((40 : Int) < (N : Int)) = true := by simp; omega
    have g1b : decide (40 < N) = true := by simp; omega
    clear b1 hl hu hd hN hNu hNd hx hz
    go_enter Try.func4, Try.ntmps4
    go_wp2_with fail
    refine (alive17_any w).mono ?_
    rintro e w2 ⟨rfl, b2⟩
    go_wp2
    go_ret
    exact ⟨rfl, b2⟩
  have g1a : decide ((40 : Int) < (N : Int)) = false := by simp; omega
  have g1b : decide (40 < N) = false := by simp; omega
  by_cases b2 : 10 < Nu
  · have g2a : decide ((10 : Int) < (Nu : Int)) = true := by simp; omega
    have g2b : decide (10 < Nu) = true := by simp; omega
    clear b1 b2 hl hu hd hN hNu hNd hx hz
    go_enter Try.func4, Try.ntmps4
    go_wp2_with fail
    refine (alive17_any w).mono ?_
    rintro e w2 ⟨rfl, b2⟩
    go_wp2
    go_ret
    exact ⟨rfl, b2⟩
  have g2a : decide ((10 : Int) < (Nu : Int)) = false := by simp; omega
  have g2b : decide (10 < Nu) = false := by simp; omega
  by_cases b3 : 10 < Nd
  · have g3a : decide ((10 : Int) < (Nd : Int)) = true := by simp; omega
    have g3b : decide (10 < Nd) = true := by simp; omega
    clear b1 b2 b3 hl hu hd hN hNu hNd hx hz
    go_enter Try.func4, Try.ntmps4
    go_wp2_with fail
    refine (alive17_any w).mono ?_
    rintro e w2 ⟨rfl, b2⟩
    go_wp2
    go_ret
    exact ⟨rfl, b2⟩
  have g3a : decide ((10 : Int) < (Nd : Int)) = false := by simp; omega
  have g3b : decide (10 < Nd) = false := by simp; omega
  have HB := Lib.hid (And.intro (Nat.not_lt.1 b1) (And.intro (Nat.not_lt.1 b2) (Nat.not_lt.1 b3)))
  obtain ⟨X7, hX7⟩ : ∃ X7, X7 = x % 127 := ⟨_, rfl⟩
  have xa : x.tmod 127 = X7 := by rw [Int.tmod_eq_emod_of_nonneg hx.1]; exact hX7.symm
  have xb : x % 127 = X7 := hX7.symm
  obtain ⟨W, hW⟩ : ∃ W, W = X7 + 1 := ⟨_, rfl⟩
  have xs2 : X7 + 1 = W := hW.symm
  have hW1 : 1 ≤ W := by omega
  have hW127 : W ≤ 127 := by omega
  have xs : wrap64 (X7 + 1) = W := by rw [wr64 (by omega) (by omega)]; omega
  obtain ⟨Z9, hZ9⟩ : ∃ Z9, Z9 = z % 9 := ⟨_, rfl⟩
  have za : z.tmod 9 = Z9 := by rw [Int.tmod_eq_emod_of_nonneg hz.1]; exact hZ9.symm
  have zb : z % 9 = Z9 := hZ9.symm
  obtain ⟨T, hT⟩ : ∃ T, T = clp Z9 1 1099511627776 := ⟨_, rfl⟩
  have hT1 : 1 ≤ T ∧ T ≤ 8 := by rw [hT]; unfold clp; omega
  have x1 := PO.new 5 1 W Z9 255 w (K' := 5) (H' := 1) (W' := W) (T' := T) (R' := 255) (by decide) (by decide) (by unfold clp; omega) hT.symm (by decide)
  have HW := Lib.hid (And.intro hW1 hW127)
  have HT := Lib.hid hT1
  clear b1 b2 b3 hX7 hW hZ9 hT hT1
  go_enter Try.func4, Try.ntmps4
  go_wp2_with fail
  refine x1.mono ?_
  rintro e w1 ⟨g, rfl, p⟩
  clear x1 xa xb xs xs2 za zb hx hz hW1 hW127
  go_wp2_with fail
  go_loopw [13] (fun i wr => ∃ m : Nat, m ≤ N ∧ i = .int .i64 m ∧ ∃ O, PO w wr w.heap.size g O 5 1 W T 255 (sqq (l.take m))) (fun i _ => N - (intOf i).toNat)
  case atStart => exact ⟨0, Nat.zero_le _, rfl, none, p⟩
  case round =>
    obtain ⟨m, hm, rfl, O, q⟩ := hrel
    clear p
    by_cases hlt : m < N
    · obtain ⟨d, hdm⟩ : ∃ d, l[m]? = some d := ⟨_, List.getElem?_eq_getElem (by rw [hN.out]; exact hlt)⟩
      obtain ⟨b0, off0, ad, cdd, rfl, hb0, hcell, hDt⟩ := hl.at_ hdm
      obtain ⟨M, hM⟩ : ∃ M, d.length = M := ⟨_, rfl⟩
      rw [hM] at hcell
      have rd : Rd w ad d M cdd := ⟨hM, hDt.b, hDt.n, by rw [← hM]; exact hDt.l, hDt.m⟩
      have rd' := rd.later q.b
      have q1 := (q.b.cell (p := ⟨b0, off0 + m, none⟩) hb0).trans hcell
      have Hdm := Lib.hid hdm
      have HM := Lib.hid hM
      have m40 : m ≤ 40 := by have := HB.out.1; omega
      clear hdm hM hcell hDt rd
      by_cases c1 : M < 1
      · have t1 : decide ((M : Int) < 1) = true := by simp; omega
        have t2 : decide (M < 1) = true := by simp; omega
        clear c1
        go_wp2_with fail
        refine (alive17_any _).mono ?_
        rintro e w4 ⟨rfl, b4⟩
        go_wp2
        go_ret
        exact ⟨rfl, q.b.trans (b4.mono q.s)⟩
      · have t1 : decide ((M : Int) < 1) = false := by simp; omega
        have t2 : decide (M < 1) = false := by simp; omega
        by_cases c2 : 20 < M
        · have t3 : decide ((20 : Int) < (M : Int)) = true := by simp; omega
          have t4 : decide (20 < M) = true := by simp; omega
          clear c1 c2
          go_wp2_with fail
          refine (alive17_any _).mono ?_
          rintro e w4 ⟨rfl, b4⟩
          go_wp2
          go_ret
          exact ⟨rfl, q.b.trans (b4.mono q.s)⟩
        · have t3 : decide ((20 : Int) < (M : Int)) = false := by simp; omega
          have t4 : decide (20 < M) = false := by simp; omega
          have hsn := snd_sqq Hdm.out (by have := HM.out; omega) (by have := HM.out; omega) (by have := hN.out; have := HB.out.1; omega)
          have Hsn := Lib.hid hsn
          clear hsn c1 c2
          go_wp2_with fail
          refine (q.send_ rd' Hsn.out).mono ?_
          rintro e w3 ⟨rfl, ⟨O3, p3, _⟩, _⟩
          clear q rd' Hsn
          go_wp2
          go_roundw
          case rel => exact ⟨m + 1, hlt, by simp, O3, p3⟩
          case measure => simp [intOf]; omega
    · obtain rfl : m = N := by omega
      have htk : l.take m = l := List.take_of_length_le (by rw [hN.out]; exact Nat.le_refl _)
      rw [htk] at q
      have HS : Hid (Tq l W T 80 130 0 0 (sqq l)) := Lib.hid (Tq.start (by decide) (by have := HW.out; omega))
      have hul := q.ok.ul
      have HUL : Hid (∀ d ∈ l, 1 ≤ d.length ∧ d.length ≤ 1017) := Lib.hid hul
      obtain ⟨W1, hW1⟩ : ∃ W1, W1 = wr.alloc (.cells #[.int .i64 0, .bool false, .slice none 0 0] 57) := ⟨_, rfl⟩
      have dd : DD w W1 w.heap.size g O W T (sqq l) wr.heap.size 0 false none 0 0 [] := by
        rw [hW1]
        exact ⟨q.below (bel_new _ _), Cel.new _ _ _, Row.Os.nil_ _ _ _, (fun q hq => by cases hq), q.s⟩
      obtain ⟨X, hX⟩ : ∃ X, X = wr.heap.size := ⟨_, rfl⟩
      rw [← hX] at dd
      have hX2 : wr.heap.size = X := hX.symm
      clear hm hlt htk hul q hX
      go_wp2_with fail
      rw [← hW1]
      clear hW1 hX2
      go_loopw [15, 16, 17] (fun tv _ _ wr => ∃ (t : Nat) (Q : Int) (ag : Bool) (s : Fs) (A : Option Addr) (n c : Nat) (qs : List Qb), tv = .int .i64 t ∧ t ≤ 131 ∧ 0 ≤ Q ∧ Q ≤ (m : Int) ∧ DD w wr w.heap.size g O W T s X Q ag A n c qs ∧ Hid (Tq l W T 80 130 t Q s ∧ qs.map (·.l) = l.take Q.toNat ∧ qs.length = n)) (fun tv _ _ _ => 132 - (intOf tv).toNat)
      case atStart => exact ⟨0, 0, false, _, none, 0, 0, [], rfl, by decide, by decide, by omega, dd, Lib.hid ⟨HS.out, rfl, rfl⟩⟩
      case round =>
        obtain ⟨t, Q, ag, s, A, n, c, qs, rfl, ht, hQ0, hQ1, dq, hs⟩ := hrel
        clear dd
        have hm40 : m ≤ 40 := HB.out.1
        have gt1 : decide ((t : Int) < 1000) = true := by simp; omega
        have gt2 : decide (t < 1000) = true := by simp; omega
        have xq := dq.p.queued_
        obtain ⟨U, hU⟩ : ∃ U, s.us.length = U := ⟨_, rfl⟩
        rw [hU] at xq
        by_cases hu0 : U = 0
        · subst hu0
          have hfin := hs.out.1.done hU
          rw [hN.out] at hfin
          have hq2 := hs.out.2.1
          rw [hfin.1, Int.toNat_natCast, List.take_of_length_le (by rw [hN.out]; exact Nat.le_refl _)] at hq2
          have hmn : m = n := by
            have h1 := congrArg List.length hq2
            rw [List.length_map, hs.out.2.2, hN.out] at h1
            exact h1.symm
          subst hmn
          have HQS : Hid (qs.map (·.l) = l) := Lib.hid hq2
          have HQL : Hid (qs.length = m) := Lib.hid hs.out.2.2
          have xa := dq.p.acked_
          have xst := dq.p.state_
          rw [hs.out.1.v.st] at xst
          rw [hfin.2] at xa
          have ec2 := dq.e.cell 2
          simp at ec2
          have z1 : ((m : Int) != (m : Int)) = false := by simp
          have z2 : (m != m) = false := by simp
          clear hs hfin hq2 hU hQ0 hQ1
          go_wp2_with fail
          refine xq.mono ?_
          rintro e u1 ⟨rfl, rfl⟩
          go_wp2_with fail
          refine xq.mono ?_
          rintro e u1 ⟨rfl, rfl⟩
          go_wp2_with fail
          refine xa.mono ?_
          rintro e u1 ⟨rfl, rfl⟩
          go_wp2_with fail
          refine xst.mono ?_
          rintro e u1 ⟨rfl, rfl⟩
          clear xq xa xst ec2
          go_wp2_with fail
          go_loopw [18] (fun iv wr => ∃ j : Nat, j ≤ m ∧ iv = .int .i64 j ∧ DD w wr w.heap.size g O W T s X Q ag A m c qs) (fun iv _ => m - (intOf iv).toNat)
          case atStart => exact ⟨0, Nat.zero_le _, rfl, dq⟩
          case round =>
            obtain ⟨j, hj, rfl, d9⟩ := hrel
            clear dq
            by_cases hjm : j < m
            · have hjq : j < qs.length := by rw [HQL.out]; exact hjm
              obtain ⟨qq, hqq⟩ : ∃ qq, qs[j]? = some qq := ⟨_, List.getElem?_eq_getElem hjq⟩
              have hlj : l[j]? = some qq.l := by rw [← HQS.out, List.getElem?_map, hqq]; rfl
              obtain ⟨b1, off1, ad, cdd, eA, hb1, hcell, hDt⟩ := hl.at_ hlj
              subst eA
              obtain ⟨DM, hDM⟩ : ∃ DM, qq.l.length = DM := ⟨_, rfl⟩
              obtain ⟨bq, eq1, rq, _, _, _⟩ := d9.d qq (List.mem_of_getElem? hqq)
              have hrs := d9.r.rs Lst.enc_ok
              obtain ⟨br, offr, eR, hbr, hcr⟩ := hrs.at_ hjq
              subst eR
              have hge : qs[j] = qq := by
                rw [List.getElem?_eq_getElem hjq] at hqq
                injection hqq
              have cr := hcr 0 _ rfl
              rw [hge, eq1, Nat.mul_one, Nat.add_zero, hDM] at cr
              rw [hDM] at hcell rq
              have rl : Rd w ad qq.l DM cdd := ⟨hDM, hDt.b, hDt.n, by rw [← hDM]; exact hDt.l, hDt.m⟩
              have rl' := rl.later d9.p.b
              have cl := (d9.p.b.cell (p := ⟨b1, off1 + j, none⟩) hb1).trans hcell
              have hb1' : b1 < wr.heap.size := Nat.lt_of_lt_of_le hb1 d9.p.b.size
              have ec2 := d9.e.cell 2
              simp at ec2
              have hXl := d9.e.lt
              obtain ⟨XS, hXS⟩ : ∃ XS, str qq.l = XS := ⟨_, rfl⟩
              have n1 : ∀ p : Later wr, p.W.cell? ⟨X, 2, none⟩ = some (.slice (some ⟨br, offr, none⟩) m c) := later_cell ec2 hXl
              have n2 : ∀ p : Later wr, p.W.cell? ⟨br, offr + j, none⟩ = some (.slice (some ⟨bq, 0, none⟩) DM qq.c) := later_cell cr hbr
              have n3 : ∀ p : Later wr, (convert 33 9 (.slice (some ⟨bq, 0, none⟩) DM qq.c)).run Try.prog p.W = .ok (.string XS) p.W := fun p => by rw [← hXS]; exact rq.conv p.h
              have n4 : ∀ p : Later wr, p.W.cell? ⟨b1, off1 + j, none⟩ = some (.slice ad DM cdd) := later_cell cl hb1'
              have n5 : ∀ p : Later wr, (convert 33 9 (.slice ad DM cdd)).run Try.prog p.W = .ok (.string XS) p.W := fun p => by rw [← hXS]; exact rl'.conv p.h
              have zi : (XS.toList != XS.toList) = false := by simp
              have HD := Lib.hid d9
              clear hjq hqq hlj hcell hDt hDM eq1 rq hrs hcr hge cr rl rl' cl ec2 hXS d9 hb1
              go_wp2_with fail
              refine wp_region_later (by kernel_rfl) (by kernel_rfl) ?_
              repeat (go_big_quiet_step (fail))
              refine wpQuiet_nil ?_
              rintro w8 ⟨p8, hp8⟩
              have b8 : Below wr.heap.size wr w8 := by rw [hp8]; exact p8.h
              have d8 := HD.out.below b8
              clear hp8 p8 n1 n2 n3 n4 n5 HD b8
              go_wp2
              go_roundw
              case rel => exact ⟨j + 1, hjm, by simp, d8⟩
              case measure => simp [intOf]; omega
            · obtain rfl : j = m := by omega
              go_wp2_with fail
              refine (alive17_any wr).mono ?_
              rintro e w4 ⟨rfl, b4⟩
              go_wp2
              go_ret
              exact ⟨rfl, d9.p.b.trans (b4.mono d9.p.s)⟩
        · have gu1 : decide ((0 : Int) < (U : Int)) = true := by simp; omega
          have gu2 : decide (0 < U) = true := by simp; omega
          have ht130 : t ≤ 130 := by
            have := hs.out.1.soon (by rw [hU]; exact hu0) (by decide)
            omega
          have hx := hs.out.1.next ag (by omega) (by omega) (by have := hN.out; omega) (by decide) HW.out.1 HW.out.2 HT.out.2 (by have := hN.out; omega)
          have HX := Lib.hid hx
          have HQS := Lib.hid hs.out.2
          have hn40 : n ≤ 40 := by
            have h1 := congrArg List.length hs.out.2.1
            rw [List.length_map, List.length_take, hs.out.2.2, hN.out] at h1
            omega
          clear hx hs hU hu0
          have xu := fun (W' : World) (hb : Below w.heap.size w W') => lost_any up Nu t Au cu W' hNu ((hu.below hb).more hb.size) (by omega)
          have xd := fun (W' : World) (hb : Below w.heap.size w W') => lost_any dn Nd t Ad cd W' hNd ((hd.below hb).more hb.size) (by omega)
          go_wp2_with fail
          refine xq.mono ?_
          rintro e u0 ⟨rfl, rfl⟩
          clear xq
          rcases HX.out with ⟨s1, hnx, hm1⟩ | ⟨S1, d, s1, hnx, hld, hS0, hSl, hlo, hhi, hq0, hql, hm0, hm1⟩
          · have hnx' := Lib.hid hnx
            have HM := Lib.hid hm1
            clear HX hnx hm1
            go_wp2_with fail
            refine (dq.p.next_ (t : Int) hnx'.out (m := 0) rfl).mono ?_
            rintro e w5 ⟨⟨A5, c5, rfl, _, _⟩, p5, k5⟩
            have d5 := dq.kp1 k5 p5
            obtain ⟨W5, hW5⟩ : ∃ W5, W5 = w5.alloc (.cells #[.bool false, .bool false, .int .i64 0, .int .i64 0, .int .i64 0, .slice A5 0 c5] 43) := ⟨_, rfl⟩
            have d6 := d5.below (w' := W5) (by rw [hW5]; exact bel_new _ _)
            clear dq p5 k5 d5
            go_wp2_with fail
            rw [← hW5]
            clear hW5
            refine (xd _ d6.p.b).mono ?_
            rintro e u1 ⟨bd, rfl, rfl, hbd⟩
            have Hbd := Lib.hid hbd
            have ec0 := d6.e.cell 0
            have ec1 := d6.e.cell 1
            simp at ec0 ec1
            clear hbd xd xu
            cases bd with
            | true =>
              have hlt80 : (t : Int) < 80 := by
                have h1 := HB.out.2.2
                have h2 := Hbd.out
                by_cases h3 : 8 * Nd ≤ t
                · exact absurd (h2 h3) (by decide)
                · omega
              have Hn := Lib.hid (HM.out.skip hlt80)
              clear Hbd HM hlt80
              go_wp2
              go_roundw
              case rel => exact ⟨t + 1, Q, ag, s1, A, n, c, qs, by simp, by omega, hQ0, hQ1, d6, Lib.hid ⟨by have := Hn.out; simpa using this, HQS.out⟩⟩
              case measure => simp [intOf]; omega
            | false =>
              obtain ⟨s2, hrp, hn2⟩ := HM.out.report (by have := hN.out; omega)
              have Hrp := Lib.hid hrp
              have Hn2 := Lib.hid hn2
              have hac9 : s1.ac ≤ 1099511627776 := by
                have h1 := HM.out.v.al
                have := hN.out
                omega
              clear Hbd HM hrp hn2
              go_wp2_with fail
              refine (d6.p.report_ 1 false false ag 0 Q (t : Int) Hrp.out hac9).mono ?_
              rintro e w9 ⟨rfl, p9, k9⟩
              have d9 := d6.kp k9 p9
              clear d6 p9 k9 Hrp hac9 ec0 ec1
              go_wp2
              go_roundw
              case rel => exact ⟨t + 1, Q, ag, s2, A, n, c, qs, by simp, by omega, hQ0, hQ1, d9, Lib.hid ⟨by have := Hn2.out; simpa using this, HQS.out⟩⟩
              case measure => simp [intOf]; omega
          · have hnx' := Lib.hid hnx
            have hdm := HUL.out d (List.mem_of_getElem? hld)
            obtain ⟨DM, hDM⟩ : ∃ DM, d.length = DM := ⟨_, rfl⟩
            have HDM := Lib.hid hDM
            have Hld := Lib.hid hld
            have Hlh := Lib.hid (And.intro hlo hhi)
            rw [hN.out] at hSl
            have Hm0 := Lib.hid hm0
            have Hm1 := Lib.hid hm1
            have HdM := Lib.hid hdm
            clear HX hnx hm0 hm1 hdm hDM hld hlo hhi
            go_wp2_with fail
            refine (dq.p.next_ (t : Int) hnx'.out (m := DM) HDM.out).mono ?_
            rintro e w5 ⟨⟨A5, c5, rfl, r5, hnew⟩, p5, k5⟩
            obtain ⟨bb, rfl, hbb⟩ := hnew rfl rfl
            have hF := fun x hx => Nat.lt_of_lt_of_le (dq.p.lt x hx).2 hbb
            have hvb : (Value.slice A n c).ownBlock ≠ some bb := fun e => by have := (dq.r.lt bb e).2; omega
            have hbs : bb < w5.heap.size := by
              obtain ⟨b', o', e', hlt', _⟩ := r5.bs (by have := HdM.out; omega)
              injection e' with e'
              injection e' with e1 e2
              omega
            have d5 := dq.kp1 k5 p5
            obtain ⟨W5, hW5⟩ : ∃ W5, W5 = w5.alloc (.cells #[.bool false, .bool false, .int .i64 5, .int .i64 1, .int .i64 S1, .slice (some ⟨bb, 0, none⟩) DM c5] 43) := ⟨_, rfl⟩
            have bn : Below w5.heap.size w5 W5 := by rw [hW5]; exact bel_new _ _
            have d6 := d5.below bn
            have hbs6 : bb < W5.heap.size := Nat.lt_of_lt_of_le hbs bn.size
            have L : Cel W5 w5.heap.size 43 #[.bool false, .bool false, .int .i64 5, .int .i64 1, .int .i64 S1, .slice (some ⟨bb, 0, none⟩) DM c5] := by rw [hW5]; exact Cel.new _ _ _
            have r6 := r5.later bn
            have HF := Lib.hid hF
            have HV := Lib.hid hvb
            clear dq p5 k5 d5 bn r5 hnx' hbb hbs hF hvb hnew
            go_wp2_with fail
            rw [← hW5]
            clear hW5
            refine (xu _ d6.p.b).mono ?_
            rintro e u1 ⟨bu, rfl, rfl, hbu⟩
            have Hbu := Lib.hid hbu
            clear hbu
            cases bu with
            | true =>
              have hlt80 : (t : Int) < 80 := by
                have h1 := HB.out.2.1
                have h2 := Hbu.out
                by_cases h3 : 8 * Nu ≤ t
                · exact absurd (h2 h3) (by decide)
                · omega
              have HM := Lib.hid (Hm0.out hlt80)
              clear Hbu Hm0 Hm1 hlt80 L r6 Hlh hSl hS0 Hld
              go_wp2_with fail
              refine (xd _ d6.p.b).mono ?_
              rintro e u1 ⟨bd, rfl, rfl, hbd⟩
              have Hbd := Lib.hid hbd
              have ec0 := d6.e.cell 0
              have ec1 := d6.e.cell 1
              simp at ec0 ec1
              clear hbd xd xu
              cases bd with
              | true =>
                have hlt80 : (t : Int) < 80 := by
                  have h1 := HB.out.2.2
                  have h2 := Hbd.out
                  by_cases h3 : 8 * Nd ≤ t
                  · exact absurd (h2 h3) (by decide)
                  · omega
                have Hn := Lib.hid (HM.out.skip hlt80)
                clear Hbd HM hlt80
                go_wp2
                go_roundw
                case rel => exact ⟨t + 1, Q, ag, s1, A, n, c, qs, by simp, by omega, hQ0, hQ1, d6, Lib.hid ⟨by have := Hn.out; simpa using this, HQS.out⟩⟩
                case measure => simp [intOf]; omega
              | false =>
                obtain ⟨s2, hrp, hn2⟩ := HM.out.report (by have := hN.out; omega)
                have Hrp := Lib.hid hrp
                have Hn2 := Lib.hid hn2
                have hac9 : s1.ac ≤ 1099511627776 := by
                  have h1 := HM.out.v.al
                  have := hN.out
                  omega
                clear Hbd HM hrp hn2
                go_wp2_with fail
                refine (d6.p.report_ 1 false false ag 0 Q (t : Int) Hrp.out hac9).mono ?_
                rintro e w9 ⟨rfl, p9, k9⟩
                have d9 := d6.kp k9 p9
                clear d6 p9 k9 Hrp hac9 ec0 ec1
                go_wp2
                go_roundw
                case rel => exact ⟨t + 1, Q, ag, s2, A, n, c, qs, by simp, by omega, hQ0, hQ1, d9, Lib.hid ⟨by have := Hn2.out; simpa using this, HQS.out⟩⟩
                case measure => simp [intOf]; omega
            | false =>
              have l0 := L.cell 0
              have l1 := L.cell 1
              have l2 := L.cell 2
              have l3 := L.cell 3
              have l4 := L.cell 4
              have l5 := L.cell 5
              simp at l0 l1 l2 l3 l4 l5
              have ec0 := d6.e.cell 0
              have ec1 := d6.e.cell 1
              have ec2 := d6.e.cell 2
              simp at ec0 ec1 ec2
              have hS40 : S1 ≤ 200 := by omega
              have hQ200 : Q ≤ 200 := by omega
              clear L Hbu Hm0
              by_cases hqQ : S1 = Q
              · have ehr := hr_zero (W := W) (ag := ag) hqQ
                have HM := Hm1
                rw [ehr] at HM
                dsimp only at HM
                have HNE := Lib.hid hqQ
                have HQQ : Hid ((qs ++ [(⟨d, some ⟨bb, 0, none⟩, c5⟩ : Qb)]).map (·.l) = l.take (Q + 1).toNat ∧ (qs ++ [(⟨d, some ⟨bb, 0, none⟩, c5⟩ : Qb)]).length = n + 1) := Lib.hid (by
                  have h1 := HQS.out
                  have h2 := Hld.out
                  rw [hqQ] at h2
                  refine ⟨?_, by rw [List.length_append, h1.2]; rfl⟩
                  rw [List.map_append, h1.1, show (Q + 1).toNat = Q.toNat + 1 by omega, List.take_add_one, h2]
                  rfl)
                have HD6 := Lib.hid d6
                have hlq : Q < (m : Int) := by omega
                clear Hm1 hqQ ehr
                go_wp2_with fail
                refine (hears_next Q S1 W ag A (some ⟨bb, 0, none⟩) n c DM c5 qs d w.heap.size _ hQ0 hQ200 HNE (Lib.hid HQS.out.2) (by omega) HDM d6.r d6.p.s).mono ?_
                rintro e w7 ⟨⟨A7, c7, rfl, r7, hv7⟩, k7⟩
                have e7 := d6.e.only k7 (fun hm => Row.Os.apart d6.r (t := 57) d6.e (by decide) (by simpa using hm))
                have f0 := e7.free 0
                have f1 := e7.free 1
                have f2 := e7.free 2
                have fc0 := e7.cell 0
                have fc1 := e7.cell 1
                have fc2 := e7.cell 2
                simp at fc0 fc1 fc2
                obtain ⟨W8, hW8⟩ : ∃ W8, W8 = put3 w7 X (.int .i64 (Q + 1)) (.bool false) (.slice A7 (n + 1) c7) := ⟨_, rfl⟩
                have d8 : DD w W8 w.heap.size g O W T s1 X (Q + 1) false A7 (n + 1) c7 (qs ++ [⟨d, some ⟨bb, 0, none⟩, c5⟩]) := by rw [hW8]; exact HD6.out.heard k7 r7 hv7 r6 HDM.out HF.out HV.out hbs6 (Q + 1) false
                unfold put3 at hW8
                clear d6 HD6 e7 l0 l1 l2 l3 l4 l5 ec0 ec1 ec2 r6 Hld hSl hS0 Hlh k7 r7 hv7
                go_wp2_with fail
                rw [← hW8]
                clear hW8 f0 f1 f2 fc0 fc1 fc2
                refine (xd _ d8.p.b).mono ?_
                rintro e u1 ⟨bd, rfl, rfl, hbd⟩
                have Hbd := Lib.hid hbd
                have ec0 := d8.e.cell 0
                have ec1 := d8.e.cell 1
                simp at ec0 ec1
                clear hbd xd xu
                cases bd with
                | true =>
                  have hlt80 : (t : Int) < 80 := by
                    have h1 := HB.out.2.2
                    have h2 := Hbd.out
                    by_cases h3 : 8 * Nd ≤ t
                    · exact absurd (h2 h3) (by decide)
                    · omega
                  have Hn := Lib.hid (HM.out.skip hlt80)
                  clear Hbd HM hlt80
                  go_wp2
                  go_roundw
                  case rel => exact ⟨t + 1, (Q + 1), false, s1, A7, (n + 1), c7, (qs ++ [⟨d, some ⟨bb, 0, none⟩, c5⟩]), by simp, by omega, by omega, by omega, d8, Lib.hid ⟨by have := Hn.out; simpa using this, HQQ.out⟩⟩
                  case measure => simp [intOf]; omega
                | false =>
                  obtain ⟨s2, hrp, hn2⟩ := HM.out.report (by have := hN.out; omega)
                  have Hrp := Lib.hid hrp
                  have Hn2 := Lib.hid hn2
                  have hac9 : s1.ac ≤ 1099511627776 := by
                    have h1 := HM.out.v.al
                    have := hN.out
                    omega
                  clear Hbd HM hrp hn2
                  go_wp2_with fail
                  refine (d8.p.report_ 1 false false false 0 (Q + 1) (t : Int) Hrp.out hac9).mono ?_
                  rintro e w9 ⟨rfl, p9, k9⟩
                  have d9 := d8.kp k9 p9
                  clear d8 p9 k9 Hrp hac9 ec0 ec1
                  go_wp2
                  go_roundw
                  case rel => exact ⟨t + 1, (Q + 1), false, s2, A7, (n + 1), c7, (qs ++ [⟨d, some ⟨bb, 0, none⟩, c5⟩]), by simp, by omega, by omega, by omega, d9, Lib.hid ⟨by have := Hn2.out; simpa using this, HQQ.out⟩⟩
                  case measure => simp [intOf]; omega
              · by_cases hgap : (S1 - Q) % 256 < W
                · have ehr := hr_gap (ag := ag) hqQ hgap
                  have HG := Lib.hid hgap
                  have HNE := Lib.hid hqQ
                  clear hgap
                  have HM := Hm1
                  rw [ehr] at HM
                  dsimp only at HM
                  clear Hm1
                  go_wp2_with fail
                  refine (hears_gap Q S1 W ag A (some ⟨bb, 0, none⟩) n c DM c5 _ hQ0 hQ200 hS0 hS40 HNE HG).mono ?_
                  rintro e w7 ⟨rfl, b7⟩
                  have d7 := d6.below b7
                  have f0 := d7.e.free 0
                  have f1 := d7.e.free 1
                  have f2 := d7.e.free 2
                  have fc0 := d7.e.cell 0
                  have fc1 := d7.e.cell 1
                  have fc2 := d7.e.cell 2
                  simp at fc0 fc1 fc2
                  obtain ⟨W8, hW8⟩ : ∃ W8, W8 = put3 w7 X (.int .i64 Q) (.bool true) (.slice A n c) := ⟨_, rfl⟩
                  have d8 : DD w W8 w.heap.size g O W T s1 X Q true A n c qs := by rw [hW8]; exact DD.store d7.p d7.e d7.r d7.d d7.x Q true
                  unfold put3 at hW8
                  clear d6 b7 d7 l0 l1 l2 l3 l4 l5 ec0 ec1 ec2 r6 Hld hSl hS0 Hlh hqQ
                  go_wp2_with fail
                  rw [← hW8]
                  clear hW8 f0 f1 f2 fc0 fc1 fc2
                  refine (xd _ d8.p.b).mono ?_
                  rintro e u1 ⟨bd, rfl, rfl, hbd⟩
                  have Hbd := Lib.hid hbd
                  have ec0 := d8.e.cell 0
                  have ec1 := d8.e.cell 1
                  simp at ec0 ec1
                  clear hbd xd xu
                  cases bd with
                  | true =>
                    have hlt80 : (t : Int) < 80 := by
                      have h1 := HB.out.2.2
                      have h2 := Hbd.out
                      by_cases h3 : 8 * Nd ≤ t
                      · exact absurd (h2 h3) (by decide)
                      · omega
                    have Hn := Lib.hid (HM.out.skip hlt80)
                    clear Hbd HM hlt80
                    go_wp2
                    go_roundw
                    case rel => exact ⟨t + 1, Q, true, s1, A, n, c, qs, by simp, by omega, hQ0, hQ1, d8, Lib.hid ⟨by have := Hn.out; simpa using this, HQS.out⟩⟩
                    case measure => simp [intOf]; omega
                  | false =>
                    obtain ⟨s2, hrp, hn2⟩ := HM.out.report (by have := hN.out; omega)
                    have Hrp := Lib.hid hrp
                    have Hn2 := Lib.hid hn2
                    have hac9 : s1.ac ≤ 1099511627776 := by
                      have h1 := HM.out.v.al
                      have := hN.out
                      omega
                    clear Hbd HM hrp hn2
                    go_wp2_with fail
                    refine (d8.p.report_ 1 false false true 0 Q (t : Int) Hrp.out hac9).mono ?_
                    rintro e w9 ⟨rfl, p9, k9⟩
                    have d9 := d8.kp k9 p9
                    clear d8 p9 k9 Hrp hac9 ec0 ec1
                    go_wp2
                    go_roundw
                    case rel => exact ⟨t + 1, Q, true, s2, A, n, c, qs, by simp, by omega, hQ0, hQ1, d9, Lib.hid ⟨by have := Hn2.out; simpa using this, HQS.out⟩⟩
                    case measure => simp [intOf]; omega
                · have ehr := hr_else (ag := ag) hqQ hgap
                  have HG := Lib.hid (Int.not_lt.1 hgap)
                  have HNE := Lib.hid hqQ
                  clear hgap
                  have HM := Hm1
                  rw [ehr] at HM
                  dsimp only at HM
                  clear Hm1
                  go_wp2_with fail
                  refine (hears_else Q S1 W ag A (some ⟨bb, 0, none⟩) n c DM c5 _ hQ0 hQ200 hS0 hS40 HNE HG).mono ?_
                  rintro e w7 ⟨rfl, b7⟩
                  have d7 := d6.below b7
                  have f0 := d7.e.free 0
                  have f1 := d7.e.free 1
                  have f2 := d7.e.free 2
                  have fc0 := d7.e.cell 0
                  have fc1 := d7.e.cell 1
                  have fc2 := d7.e.cell 2
                  simp at fc0 fc1 fc2
                  obtain ⟨W8, hW8⟩ : ∃ W8, W8 = put3 w7 X (.int .i64 Q) (.bool ag) (.slice A n c) := ⟨_, rfl⟩
                  have d8 : DD w W8 w.heap.size g O W T s1 X Q ag A n c qs := by rw [hW8]; exact DD.store d7.p d7.e d7.r d7.d d7.x Q ag
                  unfold put3 at hW8
                  clear d6 b7 d7 l0 l1 l2 l3 l4 l5 ec0 ec1 ec2 r6 Hld hSl hS0 Hlh hqQ
                  go_wp2_with fail
                  rw [← hW8]
                  clear hW8 f0 f1 f2 fc0 fc1 fc2
                  refine (xd _ d8.p.b).mono ?_
                  rintro e u1 ⟨bd, rfl, rfl, hbd⟩
                  have Hbd := Lib.hid hbd
                  have ec0 := d8.e.cell 0
                  have ec1 := d8.e.cell 1
                  simp at ec0 ec1
                  clear hbd xd xu
                  cases bd with
                  | true =>
                    have hlt80 : (t : Int) < 80 := by
                      have h1 := HB.out.2.2
                      have h2 := Hbd.out
                      by_cases h3 : 8 * Nd ≤ t
                      · exact absurd (h2 h3) (by decide)
                      · omega
                    have Hn := Lib.hid (HM.out.skip hlt80)
                    clear Hbd HM hlt80
                    go_wp2
                    go_roundw
                    case rel => exact ⟨t + 1, Q, ag, s1, A, n, c, qs, by simp, by omega, hQ0, hQ1, d8, Lib.hid ⟨by have := Hn.out; simpa using this, HQS.out⟩⟩
                    case measure => simp [intOf]; omega
                  | false =>
                    obtain ⟨s2, hrp, hn2⟩ := HM.out.report (by have := hN.out; omega)
                    have Hrp := Lib.hid hrp
                    have Hn2 := Lib.hid hn2
                    have hac9 : s1.ac ≤ 1099511627776 := by
                      have h1 := HM.out.v.al
                      have := hN.out
                      omega
                    clear Hbd HM hrp hn2
                    go_wp2_with fail
                    refine (d8.p.report_ 1 false false ag 0 Q (t : Int) Hrp.out hac9).mono ?_
                    rintro e w9 ⟨rfl, p9, k9⟩
                    have d9 := d8.kp k9 p9
                    clear d8 p9 k9 Hrp hac9 ec0 ec1
                    go_wp2
                    go_roundw
                    case rel => exact ⟨t + 1, Q, ag, s2, A, n, c, qs, by simp, by omega, hQ0, hQ1, d9, Lib.hid ⟨by have := Hn2.out; simpa using this, HQS.out⟩⟩
                    case measure => simp [intOf]; omega
end Go.Proofs.Ytdpjjhbfhlmolaa.Fop

/-
  An argument opened: an api.Clcw by value.
-/
namespace Go.Proofs.Ytdpjjhbfhlmolaa
open Go.RowKit Go.ChangeShapes Go.WideShapes Go.Deep

set_option maxRecDepth 100000 in
theorem open_clcw {H : Type} {enc : TypeId × Value → H} {w : World} {base : Nat} {held : Bool} {r : Reach} {b0 : Nat} {v : Value} {d : DataW H} {ps : List MemPlace} (hval : Value.okWide Try.prog w r b0 35 v)
    (hd : DataW.Trod enc Try.prog w base (fun _ => true) held 35 v d ps) :
    ∃ (ch : Int) (lk wt rt : Bool) (bp nx : Int), v = .agg #[.int .i64 ch, .bool lk, .bool wt, .bool rt, .int .i64 bp, .int .i64 nx] := by
  obtain ⟨cs, rfl, hsz, n, hf⟩ := open_agg_any Try.underlying35 (hone_of (by kernel_rfl)) (by kernel_rfl) hval hd
  have h6 := array6 (hsz.trans rfl)
  obtain ⟨y0, t0⟩ := hf 0 _ rfl
  obtain ⟨y1, t1⟩ := hf 1 _ rfl
  obtain ⟨y2, t2⟩ := hf 2 _ rfl
  obtain ⟨y3, t3⟩ := hf 3 _ rfl
  obtain ⟨y4, t4⟩ := hf 4 _ rfl
  obtain ⟨y5, t5⟩ := hf 5 _ rfl
  obtain ⟨x0, e0, _⟩ := DataW.trod_int Try.underlying3 t0
  obtain ⟨x1, e1, _⟩ := DataW.trod_bool Try.underlying4 t1
  obtain ⟨x2, e2, _⟩ := DataW.trod_bool Try.underlying4 t2
  obtain ⟨x3, e3, _⟩ := DataW.trod_bool Try.underlying4 t3
  obtain ⟨x4, e4, _⟩ := DataW.trod_int Try.underlying3 t4
  obtain ⟨x5, e5, _⟩ := DataW.trod_int Try.underlying3 t5
  injection e0 with e0
  injection e1 with e1
  injection e2 with e2
  injection e3 with e3
  injection e4 with e4
  injection e5 with e5
  rw [e0, e1, e2, e3, e4, e5] at h6
  exact ⟨x0, x1, x2, x3, x4, x5, by rw [h6]⟩
end Go.Proofs.Ytdpjjhbfhlmolaa
