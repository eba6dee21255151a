/-
  The reference of layer 19: Next where something waits.
-/
import Derived.Test.YtjjjlgaidklokaaRef19d
import Derived.Test.YtjjjlgaidklokaaPkrW1
namespace Go.Proofs.Ytjjjlgaidklokaa.Pkr
open Go.RowKit Go.Proofs.Ytjjjlgaidklokaa.Lst
open Pac (bel_new Cel.later xidle_any)

theorem bel_drew (w : World) : Below w.heap.size w w.drew := ⟨rfl, rfl, rfl, Nat.le_refl _, fun _ _ => rfl⟩
section
variable {w : World} {D : Nat → Prop} {Z R Re n c Tk : Nat} {A : Option Addr} {s : PS}
set_option maxRecDepth 100000 in
set_option maxHeartbeats 8000000 in
theorem xnext_yes (h : RV w D R Re A n c Tk s) (hZ : Z ≤ 1012) (h0 : 0 < s.wt.length) :
    Calls Try.prog 19 #[.agg #[.int .i64 (Z : Int), .int .i64 (R : Int), .int .i64 (Re : Int), .slice A n c, .int .i64 (Tk : Int)]] w fun e w' => (∃ Re' A' n' c' Tk' v, e = .returned (.tuple #[.agg #[.int .i64 (Z : Int), .int .i64 (R : Int), .int .i64 ((Re' : Nat) : Int), .slice A' n' c', .int .i64 ((Tk' : Nat) : Int)], v, .int .i64 ((nxP Z s : Nat) : Int), .bool true]) ∧ RV w' D R Re' A' n' c' Tk' (nxS Z s) ∧ Ow w' w.heap.size 5 v (nxF Z s)) ∧ Below w.heap.size w w' := by
  obtain ⟨Lr0, hLD, hRR, _, _, hn6⟩ := h.left
  obtain ⟨m, hm⟩ : ∃ m, s.wt.length = m := ⟨_, rfl⟩
  have tm : ((m : Int) == 0) = false := by simp; omega
  have tm' : (m == 0) = false := by simp; omega
  have hRe := hRR.r
  obtain ⟨w1, hw1⟩ : ∃ w1, w1 = (w.alloc (.cells #[.int .i64 (Z : Int), .int .i64 (R : Int), .int .i64 (Re : Int), .slice A n c, .int .i64 (Tk : Int)] 36)).alloc (.cells #[.int .i64 0, .int .i64 0, .int .i64 0, .slice none 0 0, .int .i64 0] 36) := ⟨_, rfl⟩
  have b1 : Below w.heap.size w w1 := by rw [hw1]; exact (bel_new _ _).alloc (by simp) _
  have p1 : Cel w1 w.heap.size 36 #[.int .i64 (Z : Int), .int .i64 (R : Int), .int .i64 (Re : Int), .slice A n c, .int .i64 (Tk : Int)] := by rw [hw1]; exact Cel.later (Cel_at rfl) (bel_new _ _)
  have z1 : Cel w1 (w.heap.size + 1) 36 #[.int .i64 0, .int .i64 0, .int .i64 0, .slice none 0 0, .int .i64 0] := by rw [hw1]; exact Cel_at (by simp)
  have x1 := (h.below b1).xleft (Z : Int) hm
  have e7 : Pac.idV 7 = sev := rfl
  have e8 : Pac.idE 7 = 0 := rfl
  have x2 := fun W => xidle_any 7 W (by omega)
  rw [e7, e8] at x2
  obtain ⟨k0, hk0⟩ : ∃ k0, k0 = min Re Z := ⟨_, rfl⟩
  obtain ⟨lo, hlo⟩ : ∃ lo, lo = 7 - Re := ⟨_, rfl⟩
  obtain ⟨hi, hhi⟩ : ∃ hi, hi = lo + k0 := ⟨_, rfl⟩
  obtain ⟨R1, hR1⟩ : ∃ R1, R1 = Re - k0 := ⟨_, rfl⟩
  have m5 : (if Z < Re then (Z : Int) else (Re : Int)) = (k0 : Int) := by split <;> omega
  have f1 : (7 : Int) - (Re : Int) = (lo : Int) := by omega
  have f2 : (lo : Int) + (k0 : Int) = (hi : Int) := by omega
  have f3 : (Re : Int) - (k0 : Int) = (R1 : Int) := by omega
  have f4 : lo ≤ hi := by omega
  have f5 : hi ≤ 7 := by omega
  have f6 : (lo : Int) ≤ (hi : Int) := by omega
  have f7 : hi - lo = k0 := by omega
  have f8 : (sev.drop lo).take k0 = s.rs.take Z := by
    rw [hRR.rs, hlo]
    have hl : (sev.drop (7 - Re)).length = Re := by rw [List.length_drop, sev_len]; omega
    by_cases hq : Re ≤ Z
    · rw [List.take_of_length_le (by omega), List.take_of_length_le (by omega)]
    · rw [show k0 = Z by omega]
  have f9 : (s.rs.take Z).length = k0 := by rw [List.length_take, hRR.rl, hk0, Nat.min_comm]
  have hrl := RL.start (Z := Z) hRR
  have HN := Lib.hid (And.intro hk0 hR1)
  have HH := Lib.hid (And.intro h (And.intro hLD (And.intro hRR (And.intro hrl (And.intro b1 (And.intro p1 z1))))))
  have HL := Lib.hid (And.intro f8 f9)
  clear h0 hm hk0 hlo hhi hR1 b1 p1 z1 f8 f9 h hLD hRR hrl e7 e8
  go_enter Try.func19, Try.ntmps19
  go_wp2_with fail
  rw [← hw1]
  refine x1.mono ?_
  clear x1 hw1
  rintro e w2 ⟨rfl, b2⟩
  obtain ⟨h, hLD, hRR, hrl, b1, p1, z1⟩ := HH.out
  have p2 := Cel.later p1 b2
  have z2 := Cel.later z1 b2
  have b02 := b1.trans (b2.mono b1.size)
  clear b1 b2 p1 z1
  go_wp2_with fail
  refine (x2 _).mono ?_
  clear x2
  rintro e w3 ⟨v3, rfl, o3, b3⟩
  obtain ⟨A3, kc, rfl, _, _, hk7, hkm⟩ := o3.reads_len sev_len
  have p3 := Cel.later p2 b3
  have z3 := Cel.later z2 b3
  have b03 := b02.trans (b3.mono b02.size)
  obtain ⟨A4, hA4⟩ : ∃ A4, (if kc = lo then A3 else Option.map (fun x => x.add lo) A3) = A4 := ⟨_, rfl⟩
  obtain ⟨k4, hk4⟩ : ∃ k4, kc - lo = k4 := ⟨_, rfl⟩
  have md := (Md.of o3 sev_len).drop (k := lo) (by omega)
  rw [hA4, hk4] at md
  have r3 := Rd.head (Md.rd md) k0 (by omega)
  rw [HL.out.1] at r3
  obtain ⟨w4, hw4⟩ : ∃ w4, w4 = w3.alloc (.cells #[] 5) := ⟨_, rfl⟩
  have k34 : Below w3.heap.size w3 w4 := by rw [hw4]; exact bel_new _ _
  have p4 := Cel.later p3 k34
  have z4 := Cel.later z3 k34
  have b04 := b03.trans (k34.mono b03.size)
  have own4 : Ow w4 w.heap.size 5 (.slice (some ⟨w3.heap.size, 0, none⟩) 0 0) [] := by rw [hw4]; exact Ow_new w3 _ _ [] 0 #[] rfl rfl b03.size (by decide) _ rfl
  have r4 := r3.later k34
  have c0 := p3.cell 0
  have c1 := p3.cell 1
  have c2 := p3.cell 2
  have c3 := p3.cell 3
  have c4 := p3.cell 4
  simp at c0 c1 c2 c3 c4
  have g1 : (lo : Int) ≤ (kc : Int) := by omega
  have g2 : (hi : Int) ≤ (kc : Int) := by omega
  have g3 : hi ≤ kc := by omega
  have g4 : lo ≤ kc := by omega
  have g5 : max (hi : Int) 0 = (hi : Int) := by omega
  have g6 : max (lo : Int) 0 = (lo : Int) := by omega
  have X4 : XL w w4 Z R Re A n c Tk (.slice (some ⟨w3.heap.size, 0, none⟩) 0 0) [] := ⟨own4, p4, z4, b04⟩
  have hlen := Lib.hid r4.len
  have HX := Lib.hid (And.intro X4 r4)
  have d0 := p4.cell 0
  have d1 := p4.cell 1
  have d2 := p4.cell 2
  have d3 := p4.cell 3
  have d4 := p4.cell 4
  simp at d0 d1 d2 d3 d4
  have e2 : (w3.alloc (.cells #[] 5)).cell? ⟨w.heap.size, 2, none⟩ = some (.int .i64 (Re : Int)) := by rw [← hw4]; exact d2
  have HW := Lib.hid hw4
  clear tm tm' hw4 d0 d1 d2 d3 d4 b02 p2 z2 o3 b3 p3 z3 b03 md r3 k34 p4 z4 b04 own4 r4 X4 HH
  go_wp2_with (at_builtin; rw [← HW.out]; refine wpList_appAt _ is_bytes rfl (.tmp 29) (.tmp 39) rfl (m := []) rfl HX.out.1.ow (l := s.rs.take Z) (by rw [hlen.out]; rfl) HX.out.2.bs HX.out.2.nil (by rw [hlen.out]; simp; omega) HX.out.1.b.size ?_)
  intro v5 w5 o5 g5' hv5
  try rw [← HW.out] at g5'
  try rw [List.nil_append] at o5
  have X5 := HX.out.1.app g5' o5
  obtain ⟨A5, k5, rfl, _⟩ := o5.reads_len hlen.out
  have X6 := X5.setRe R1
  have q0 := X5.p.cell 0
  have q1 := X5.p.cell 1
  have q2 := X5.p.cell 2
  have q3 := X5.p.cell 3
  have q4 := X5.p.cell 4
  simp at q0 q1 q2 q3 q4
  have qf0 := X5.p.free 0
  have qf1 := X5.p.free 1
  have qf2 := X5.p.free 2
  have qf3 := X5.p.free 3
  have qf4 := X5.p.free 4
  clear o5 g5' hv5 HX X5 c0 c1 c2 c3 c4 e2
  go_wp2_with fail
  clear m5 f1 f2 f3 f4 f5 f6 f7 g1 g2 g3 g4 g5 g6 hA4 hk4 hk7 hkm HW hlen
  have HR := Lib.hid (And.intro h hRR)
  clear h hRR
  go_loopw [6, 10] (fun fv ov wr => ∃ (Lr : List (List Byte)) (A : Option Addr) (n c Tk fst no : Nat) (Ao : Option Addr) (ko : Nat) (out : List Byte), fv = .int .i64 (fst : Int) ∧ ov = .slice Ao no ko ∧ out.length = no ∧ XL w wr Z R R1 A n c Tk (.slice Ao no ko) out ∧ LD w D A n c Lr ∧ RL Z s out Lr Tk fst) (fun _ ov _ => Z - slen ov)
  case atStart => exact ⟨Lr0, A, n, c, Tk, 2047, k0, A5, k5, s.rs.take Z, rfl, rfl, HL.out.2, X6, hLD, hrl⟩
  case round =>
    clear X6 q0 q1 q2 q3 q4 qf0 qf1 qf2 qf3 qf4
    obtain ⟨Lr, A, n, c, Tk, fst, no, Ao, ko, out, rfl, rfl, hno, X, hLD, hrl⟩ := hrel
    have hnZ := hrl.z
    rw [hno] at hnZ
    have c0 := X.p.cell 0
    have c1 := X.p.cell 1
    have c2 := X.p.cell 2
    have c3 := X.p.cell 3
    have c4 := X.p.cell 4
    simp at c0 c1 c2 c3 c4
    by_cases hgo : no < Z ∧ 0 < n
    · cases Lr with
      | nil => have := hLD.len; simp at this; omega
      | cons x L =>
        obtain ⟨b, off, a, kx, rfl, hb, _, hcell, hdd⟩ := hLD.at_ (i := 0) (l := x) rfl
        obtain ⟨k, hk⟩ : ∃ k, k = min (x.length - Tk) (Z - out.length) := ⟨_, rfl⟩
        obtain ⟨hT, hx4, hk0', hkx, hkZ, hrl'⟩ := hrl.step hZ (by rw [hno]; exact hgo.1) hk
        have rx := (hdd.rd rfl).later X.b
        obtain ⟨nx, hnx⟩ : ∃ nx, x.length = nx := ⟨_, rfl⟩
        rw [hnx] at hk hT hx4 hkx hcell rx hrl'
        rw [hno] at hk hkZ hrl'
        have e1 := (X.b.cell (p := ⟨b, off + 0, none⟩) hb).trans hcell
        have e1' : wr.cell? ⟨b, off, none⟩ = some (.slice a nx kx) := e1
        have rd1 := Rd.drop rx hT
        obtain ⟨A4, hA4⟩ : ∃ A4, (if kx = Tk then a else Option.map (fun x => x.add Tk) a) = A4 := ⟨_, rfl⟩
        obtain ⟨nb, hnb⟩ : ∃ nb, nx - Tk = nb := ⟨_, rfl⟩
        obtain ⟨k4, hk4⟩ : ∃ k4, kx - Tk = k4 := ⟨_, rfl⟩
        rw [hA4, hnb, hk4] at rd1
        have rd2 := Rd.head rd1 k (by omega)
        have hle1 := rx.le
        have hle2 := rd1.le
        have hmx := rx.max
        obtain ⟨q, hq⟩ : ∃ q, Z - no = q := ⟨_, rfl⟩
        obtain ⟨T2, hT2⟩ : ∃ T2, Tk + k = T2 := ⟨_, rfl⟩
        obtain ⟨n2, hn2⟩ : ∃ n2, no + k = n2 := ⟨_, rfl⟩
        rw [hT2] at hrl'
        have s1 : (Tk : Int) ≤ (kx : Int) := by omega
        have s2 : Tk ≤ kx := by omega
        have s3 : (Tk : Int) ≤ (nx : Int) := by omega
        have s4 : (Z : Int) - (no : Int) = (q : Int) := by omega
        have s9 : (if q < nb then (q : Int) else (nb : Int)) = (k : Int) := by split <;> omega
        have s10 : (k : Int) ≤ (k4 : Int) := by omega
        have s11 : k ≤ k4 := by omega
        have s12 : (Tk : Int) + (k : Int) = (T2 : Int) := by omega
        have H13 : Hid (wrap64 (T2 : Int) = (T2 : Int)) := Lib.hid (by unfold wrap64; omega)
        have tz : decide ((no : Int) < (Z : Int)) = true := decide_eq_true (Int.ofNat_lt.2 hgo.1)
        have tz' : decide (no < Z) = true := decide_eq_true hgo.1
        have tn : decide ((0 : Int) < (n : Int)) = true := decide_eq_true (Int.ofNat_lt.2 hgo.2)
        have tn' : decide (0 < n) = true := decide_eq_true hgo.2
        have i0 : (0 : Int) < (n : Int) := Int.ofNat_lt.2 hgo.2
        have hout2 : Hid ((out ++ (x.drop Tk).take k).length = n2) := Lib.hid (by rw [List.length_append, hno, rd2.len, hn2])
        have hlt2 := Lib.hid rd2.len
        have HA := Lib.hid (And.intro hLD (And.intro hrl' (And.intro hcell hb)))
        have Hn := Lib.hid (And.intro hno (And.intro hn2 (And.intro hk0' (And.intro hkZ hgo))))
        have hbound : out.length + ((x.drop Tk).take k).length ≤ 140737488355328 := by rw [hno, rd2.len]; exact Nat.le_trans (Nat.le_trans (by rw [Nat.add_comm]; exact hkZ) hZ) (by decide)
        clear hk hT hx4 hkx rx rd1 hle1 hle2 hmx hq hT2 hn2 hLD hrl hrl' hcell hno hgo hk0' hkZ hdd hnx
        by_cases hF : T2 = nx
        · have HF := Lib.hid hF
          have tf : ((T2 : Int) == (nx : Int)) = true := by simp; omega
          have tf' : (T2 == nx) = true := by simp; omega
          obtain ⟨A3n, hA3n⟩ : ∃ A3n, (if c = 1 then some ⟨b, off, none⟩ else some ((⟨b, off, none⟩ : Addr).add 1)) = A3n := ⟨_, rfl⟩
          have hA3m : (if c = 1 then some (⟨b, off, none⟩ : Addr) else some ⟨b, off + 1, none⟩) = A3n := hA3n
          obtain ⟨n3, hn3⟩ : ∃ n3, n - 1 = n3 := ⟨_, rfl⟩
          obtain ⟨c3n, hc3n⟩ : ∃ c3n, c - 1 = c3n := ⟨_, rfl⟩
          have hLt := Lib.hid (HA.out.1.tail)
          rw [hA3n, hn3, hc3n] at hLt
          have l1 : (1 : Int) ≤ (c : Int) := by have := HA.out.1.le; omega
          have l2 : 1 ≤ c := by omega
          have l3 : (1 : Int) ≤ (n : Int) := by omega
          have l4 : 1 ≤ n := by omega
          by_cases hTk : Tk = 0
          · have ta : ((Tk : Int) == 0) = true := by simp; omega
            have ta' : (Tk == 0) = true := by simp; omega
            by_cases hfs : fst = 2047
            · have tb : ((fst : Int) == 2047) = true := by simp; omega
              have tb' : (fst == 2047) = true := by simp; omega
              have HT := Lib.hid (And.intro hTk hfs)
              clear hTk hfs hF
              have s13 := H13.out
              go_wp2_with fail
              go_quiet (fail)
              obtain ⟨W0, hW0⟩ : ∃ W0, W0 = wr.drewN nq := ⟨_, rfl⟩
              have Y := X.draws nq
              have rdw := rd2.later (drewN_below wr nq)
              have e2 : (wr.drewN nq).cell? ⟨b, off, none⟩ = some (.slice a nx kx) := e1'
              rw [← hW0] at Y rdw e2
              have y0 := Y.p.cell 0
              have y1 := Y.p.cell 1
              have y2 := Y.p.cell 2
              have y3 := Y.p.cell 3
              have y4 := Y.p.cell 4
              simp at y0 y1 y2 y3 y4
              rw [← hW0]
              clear hW0 c0 c1 c2 c3 c4 e1 e1' X hA4 hnb hk4 s1 s2 s3 tz tz' tn tn' ta ta'
              go_wp2_with (at_builtin; refine wpList_appAt _ is_bytes rfl (.tmp 81) (.tmp 84) rfl (m := out) rfl Y.ow (l := (x.drop Tk).take k) (by rw [hlt2.out]; rfl) rdw.bs rdw.nil hbound Y.b.size ?_; intro v2 w2' o2 g2 hv2; have X2 := Y.app g2 o2; obtain ⟨A2, kc2, rfl, _⟩ := o2.reads_len hout2.out; have z4 := X2.p.cell 4; have zf4 := X2.p.free 4; simp at z4; have X3 := X2.setTk T2; clear o2 g2 hv2)
              obtain ⟨W3, hW3⟩ : ∃ W3, W3 = w2'.setCell ⟨w.heap.size, 4, none⟩ (.int .i64 (T2 : Int)) := ⟨_, rfl⟩
              rw [← hW3] at X3
              have ua0 := X3.p.cell 0
              have ua1 := X3.p.cell 1
              have ua2 := X3.p.cell 2
              have ua3 := X3.p.cell 3
              have ua4 := X3.p.cell 4
              simp at ua0 ua1 ua2 ua3 ua4
              have e3 : W3.cell? ⟨b, off, none⟩ = some (.slice a nx kx) := (X3.b.cell (p := ⟨b, off + 0, none⟩) HA.out.2.2.2).trans HA.out.2.2.1
              rw [← hW3]
              clear hW3 X2 z4 zf4 s4 s9 s10 s11 s12 y0 y1 y2 y3 y4 e2 Y rdw
              go_quiet (fail)
              obtain ⟨W4, hW4⟩ : ∃ W4, W4 = W3.drewN nq := ⟨_, rfl⟩
              have X4 := X3.draws nq
              rw [← hW4] at X4
              have ub0 := X4.p.cell 0
              have ub1 := X4.p.cell 1
              have ub2 := X4.p.cell 2
              have ub3 := X4.p.cell 3
              have ub4 := X4.p.cell 4
              simp at ub0 ub1 ub2 ub3 ub4
              have ubf0 := X4.p.free 0
              have ubf1 := X4.p.free 1
              have ubf2 := X4.p.free 2
              have ubf3 := X4.p.free 3
              have ubf4 := X4.p.free 4
              rw [← hW4]
              clear hW4 X3 ua0 ua1 ua2 ua3 ua4 e3
              have X5 := X4.setL A3n n3 c3n
              have X6 := X5.setTk 0
              clear X4 X5
              go_wp2
              go_roundw
              case rel => exact ⟨L, A3n, n3, c3n, 0, no, n2, A2, kc2, _, rfl, rfl, hout2.out, X6, hLt.out, by have h9 := HA.out.2.1; rw [if_pos HT.out] at h9; rw [if_pos HF.out, if_pos HF.out] at h9; exact h9⟩
              case measure => clear s13; simp only [slen]; have := Hn.out; omega
            · have tb : ((fst : Int) == 2047) = false := by simp; omega
              have tb' : (fst == 2047) = false := by simp; omega
              have HT : Hid (¬ (Tk = 0 ∧ fst = 2047)) := Lib.hid (fun k => hfs k.2)
              clear hTk hfs hF
              have s13 := H13.out
              go_wp2_with fail
              go_quiet (fail)
              obtain ⟨W0, hW0⟩ : ∃ W0, W0 = wr.drewN nq := ⟨_, rfl⟩
              have Y := X.draws nq
              have rdw := rd2.later (drewN_below wr nq)
              have e2 : (wr.drewN nq).cell? ⟨b, off, none⟩ = some (.slice a nx kx) := e1'
              rw [← hW0] at Y rdw e2
              have y0 := Y.p.cell 0
              have y1 := Y.p.cell 1
              have y2 := Y.p.cell 2
              have y3 := Y.p.cell 3
              have y4 := Y.p.cell 4
              simp at y0 y1 y2 y3 y4
              rw [← hW0]
              clear hW0 c0 c1 c2 c3 c4 e1 e1' X hA4 hnb hk4 s1 s2 s3 tz tz' tn tn' ta ta'
              go_wp2_with (at_builtin; refine wpList_appAt _ is_bytes rfl (.tmp 81) (.tmp 84) rfl (m := out) rfl Y.ow (l := (x.drop Tk).take k) (by rw [hlt2.out]; rfl) rdw.bs rdw.nil hbound Y.b.size ?_; intro v2 w2' o2 g2 hv2; have X2 := Y.app g2 o2; obtain ⟨A2, kc2, rfl, _⟩ := o2.reads_len hout2.out; have z4 := X2.p.cell 4; have zf4 := X2.p.free 4; simp at z4; have X3 := X2.setTk T2; clear o2 g2 hv2)
              obtain ⟨W3, hW3⟩ : ∃ W3, W3 = w2'.setCell ⟨w.heap.size, 4, none⟩ (.int .i64 (T2 : Int)) := ⟨_, rfl⟩
              rw [← hW3] at X3
              have ua0 := X3.p.cell 0
              have ua1 := X3.p.cell 1
              have ua2 := X3.p.cell 2
              have ua3 := X3.p.cell 3
              have ua4 := X3.p.cell 4
              simp at ua0 ua1 ua2 ua3 ua4
              have e3 : W3.cell? ⟨b, off, none⟩ = some (.slice a nx kx) := (X3.b.cell (p := ⟨b, off + 0, none⟩) HA.out.2.2.2).trans HA.out.2.2.1
              rw [← hW3]
              clear hW3 X2 z4 zf4 s4 s9 s10 s11 s12 y0 y1 y2 y3 y4 e2 Y rdw
              go_quiet (fail)
              obtain ⟨W4, hW4⟩ : ∃ W4, W4 = W3.drewN nq := ⟨_, rfl⟩
              have X4 := X3.draws nq
              rw [← hW4] at X4
              have ub0 := X4.p.cell 0
              have ub1 := X4.p.cell 1
              have ub2 := X4.p.cell 2
              have ub3 := X4.p.cell 3
              have ub4 := X4.p.cell 4
              simp at ub0 ub1 ub2 ub3 ub4
              have ubf0 := X4.p.free 0
              have ubf1 := X4.p.free 1
              have ubf2 := X4.p.free 2
              have ubf3 := X4.p.free 3
              have ubf4 := X4.p.free 4
              rw [← hW4]
              clear hW4 X3 ua0 ua1 ua2 ua3 ua4 e3
              have X5 := X4.setL A3n n3 c3n
              have X6 := X5.setTk 0
              clear X4 X5
              go_wp2
              go_roundw
              case rel => exact ⟨L, A3n, n3, c3n, 0, fst, n2, A2, kc2, _, rfl, rfl, hout2.out, X6, hLt.out, by have h9 := HA.out.2.1; rw [if_neg HT.out] at h9; rw [if_pos HF.out, if_pos HF.out] at h9; exact h9⟩
              case measure => clear s13; simp only [slen]; have := Hn.out; omega
          · have ta : ((Tk : Int) == 0) = false := by simp; omega
            have ta' : (Tk == 0) = false := by simp; omega
            have HT : Hid (¬ (Tk = 0 ∧ fst = 2047)) := Lib.hid (fun k => hTk k.1)
            clear hTk hF
            have s13 := H13.out
            go_wp2_with fail
            go_quiet (fail)
            obtain ⟨W0, hW0⟩ : ∃ W0, W0 = wr.drewN nq := ⟨_, rfl⟩
            have Y := X.draws nq
            have rdw := rd2.later (drewN_below wr nq)
            have e2 : (wr.drewN nq).cell? ⟨b, off, none⟩ = some (.slice a nx kx) := e1'
            rw [← hW0] at Y rdw e2
            have y0 := Y.p.cell 0
            have y1 := Y.p.cell 1
            have y2 := Y.p.cell 2
            have y3 := Y.p.cell 3
            have y4 := Y.p.cell 4
            simp at y0 y1 y2 y3 y4
            rw [← hW0]
            clear hW0 c0 c1 c2 c3 c4 e1 e1' X hA4 hnb hk4 s1 s2 s3 tz tz' tn tn' ta ta'
            go_wp2_with (at_builtin; refine wpList_appAt _ is_bytes rfl (.tmp 81) (.tmp 84) rfl (m := out) rfl Y.ow (l := (x.drop Tk).take k) (by rw [hlt2.out]; rfl) rdw.bs rdw.nil hbound Y.b.size ?_; intro v2 w2' o2 g2 hv2; have X2 := Y.app g2 o2; obtain ⟨A2, kc2, rfl, _⟩ := o2.reads_len hout2.out; have z4 := X2.p.cell 4; have zf4 := X2.p.free 4; simp at z4; have X3 := X2.setTk T2; clear o2 g2 hv2)
            obtain ⟨W3, hW3⟩ : ∃ W3, W3 = w2'.setCell ⟨w.heap.size, 4, none⟩ (.int .i64 (T2 : Int)) := ⟨_, rfl⟩
            rw [← hW3] at X3
            have ua0 := X3.p.cell 0
            have ua1 := X3.p.cell 1
            have ua2 := X3.p.cell 2
            have ua3 := X3.p.cell 3
            have ua4 := X3.p.cell 4
            simp at ua0 ua1 ua2 ua3 ua4
            have e3 : W3.cell? ⟨b, off, none⟩ = some (.slice a nx kx) := (X3.b.cell (p := ⟨b, off + 0, none⟩) HA.out.2.2.2).trans HA.out.2.2.1
            rw [← hW3]
            clear hW3 X2 z4 zf4 s4 s9 s10 s11 s12 y0 y1 y2 y3 y4 e2 Y rdw
            go_quiet (fail)
            obtain ⟨W4, hW4⟩ : ∃ W4, W4 = W3.drewN nq := ⟨_, rfl⟩
            have X4 := X3.draws nq
            rw [← hW4] at X4
            have ub0 := X4.p.cell 0
            have ub1 := X4.p.cell 1
            have ub2 := X4.p.cell 2
            have ub3 := X4.p.cell 3
            have ub4 := X4.p.cell 4
            simp at ub0 ub1 ub2 ub3 ub4
            have ubf0 := X4.p.free 0
            have ubf1 := X4.p.free 1
            have ubf2 := X4.p.free 2
            have ubf3 := X4.p.free 3
            have ubf4 := X4.p.free 4
            rw [← hW4]
            clear hW4 X3 ua0 ua1 ua2 ua3 ua4 e3
            have X5 := X4.setL A3n n3 c3n
            have X6 := X5.setTk 0
            clear X4 X5
            go_wp2
            go_roundw
            case rel => exact ⟨L, A3n, n3, c3n, 0, fst, n2, A2, kc2, _, rfl, rfl, hout2.out, X6, hLt.out, by have h9 := HA.out.2.1; rw [if_neg HT.out] at h9; rw [if_pos HF.out, if_pos HF.out] at h9; exact h9⟩
            case measure => clear s13; simp only [slen]; have := Hn.out; omega
        · have HF := Lib.hid hF
          have tf : ((T2 : Int) == (nx : Int)) = false := by simp; omega
          have tf' : (T2 == nx) = false := by simp; omega
          by_cases hTk : Tk = 0
          · have ta : ((Tk : Int) == 0) = true := by simp; omega
            have ta' : (Tk == 0) = true := by simp; omega
            by_cases hfs : fst = 2047
            · have tb : ((fst : Int) == 2047) = true := by simp; omega
              have tb' : (fst == 2047) = true := by simp; omega
              have HT := Lib.hid (And.intro hTk hfs)
              clear hTk hfs hF
              have s13 := H13.out
              go_wp2_with fail
              go_quiet (fail)
              obtain ⟨W0, hW0⟩ : ∃ W0, W0 = wr.drewN nq := ⟨_, rfl⟩
              have Y := X.draws nq
              have rdw := rd2.later (drewN_below wr nq)
              have e2 : (wr.drewN nq).cell? ⟨b, off, none⟩ = some (.slice a nx kx) := e1'
              rw [← hW0] at Y rdw e2
              have y0 := Y.p.cell 0
              have y1 := Y.p.cell 1
              have y2 := Y.p.cell 2
              have y3 := Y.p.cell 3
              have y4 := Y.p.cell 4
              simp at y0 y1 y2 y3 y4
              rw [← hW0]
              clear hW0 c0 c1 c2 c3 c4 e1 e1' X hA4 hnb hk4 s1 s2 s3 tz tz' tn tn' ta ta'
              go_wp2_with (at_builtin; refine wpList_appAt _ is_bytes rfl (.tmp 81) (.tmp 84) rfl (m := out) rfl Y.ow (l := (x.drop Tk).take k) (by rw [hlt2.out]; rfl) rdw.bs rdw.nil hbound Y.b.size ?_; intro v2 w2' o2 g2 hv2; have X2 := Y.app g2 o2; obtain ⟨A2, kc2, rfl, _⟩ := o2.reads_len hout2.out; have z4 := X2.p.cell 4; have zf4 := X2.p.free 4; simp at z4; have X3 := X2.setTk T2; clear o2 g2 hv2)
              obtain ⟨W3, hW3⟩ : ∃ W3, W3 = w2'.setCell ⟨w.heap.size, 4, none⟩ (.int .i64 (T2 : Int)) := ⟨_, rfl⟩
              rw [← hW3] at X3
              have ua0 := X3.p.cell 0
              have ua1 := X3.p.cell 1
              have ua2 := X3.p.cell 2
              have ua3 := X3.p.cell 3
              have ua4 := X3.p.cell 4
              simp at ua0 ua1 ua2 ua3 ua4
              have e3 : W3.cell? ⟨b, off, none⟩ = some (.slice a nx kx) := (X3.b.cell (p := ⟨b, off + 0, none⟩) HA.out.2.2.2).trans HA.out.2.2.1
              rw [← hW3]
              clear hW3 X2 z4 zf4 s4 s9 s10 s11 s12 y0 y1 y2 y3 y4 e2 Y rdw
              go_quiet (fail)
              obtain ⟨W4, hW4⟩ : ∃ W4, W4 = W3.drewN nq := ⟨_, rfl⟩
              have X4 := X3.draws nq
              rw [← hW4] at X4
              have ub0 := X4.p.cell 0
              have ub1 := X4.p.cell 1
              have ub2 := X4.p.cell 2
              have ub3 := X4.p.cell 3
              have ub4 := X4.p.cell 4
              simp at ub0 ub1 ub2 ub3 ub4
              have ubf0 := X4.p.free 0
              have ubf1 := X4.p.free 1
              have ubf2 := X4.p.free 2
              have ubf3 := X4.p.free 3
              have ubf4 := X4.p.free 4
              rw [← hW4]
              clear hW4 X3 ua0 ua1 ua2 ua3 ua4 e3
              go_wp2
              go_roundw
              case rel => exact ⟨x :: L, some ⟨b, off, none⟩, n, c, T2, no, n2, A2, kc2, _, rfl, rfl, hout2.out, X4, HA.out.1, by have h9 := HA.out.2.1; rw [if_pos HT.out] at h9; rw [if_neg HF.out, if_neg HF.out] at h9; exact h9⟩
              case measure => clear s13; simp only [slen]; have := Hn.out; omega
            · have tb : ((fst : Int) == 2047) = false := by simp; omega
              have tb' : (fst == 2047) = false := by simp; omega
              have HT : Hid (¬ (Tk = 0 ∧ fst = 2047)) := Lib.hid (fun k => hfs k.2)
              clear hTk hfs hF
              have s13 := H13.out
              go_wp2_with fail
              go_quiet (fail)
              obtain ⟨W0, hW0⟩ : ∃ W0, W0 = wr.drewN nq := ⟨_, rfl⟩
              have Y := X.draws nq
              have rdw := rd2.later (drewN_below wr nq)
              have e2 : (wr.drewN nq).cell? ⟨b, off, none⟩ = some (.slice a nx kx) := e1'
              rw [← hW0] at Y rdw e2
              have y0 := Y.p.cell 0
              have y1 := Y.p.cell 1
              have y2 := Y.p.cell 2
              have y3 := Y.p.cell 3
              have y4 := Y.p.cell 4
              simp at y0 y1 y2 y3 y4
              rw [← hW0]
              clear hW0 c0 c1 c2 c3 c4 e1 e1' X hA4 hnb hk4 s1 s2 s3 tz tz' tn tn' ta ta'
              go_wp2_with (at_builtin; refine wpList_appAt _ is_bytes rfl (.tmp 81) (.tmp 84) rfl (m := out) rfl Y.ow (l := (x.drop Tk).take k) (by rw [hlt2.out]; rfl) rdw.bs rdw.nil hbound Y.b.size ?_; intro v2 w2' o2 g2 hv2; have X2 := Y.app g2 o2; obtain ⟨A2, kc2, rfl, _⟩ := o2.reads_len hout2.out; have z4 := X2.p.cell 4; have zf4 := X2.p.free 4; simp at z4; have X3 := X2.setTk T2; clear o2 g2 hv2)
              obtain ⟨W3, hW3⟩ : ∃ W3, W3 = w2'.setCell ⟨w.heap.size, 4, none⟩ (.int .i64 (T2 : Int)) := ⟨_, rfl⟩
              rw [← hW3] at X3
              have ua0 := X3.p.cell 0
              have ua1 := X3.p.cell 1
              have ua2 := X3.p.cell 2
              have ua3 := X3.p.cell 3
              have ua4 := X3.p.cell 4
              simp at ua0 ua1 ua2 ua3 ua4
              have e3 : W3.cell? ⟨b, off, none⟩ = some (.slice a nx kx) := (X3.b.cell (p := ⟨b, off + 0, none⟩) HA.out.2.2.2).trans HA.out.2.2.1
              rw [← hW3]
              clear hW3 X2 z4 zf4 s4 s9 s10 s11 s12 y0 y1 y2 y3 y4 e2 Y rdw
              go_quiet (fail)
              obtain ⟨W4, hW4⟩ : ∃ W4, W4 = W3.drewN nq := ⟨_, rfl⟩
              have X4 := X3.draws nq
              rw [← hW4] at X4
              have ub0 := X4.p.cell 0
              have ub1 := X4.p.cell 1
              have ub2 := X4.p.cell 2
              have ub3 := X4.p.cell 3
              have ub4 := X4.p.cell 4
              simp at ub0 ub1 ub2 ub3 ub4
              have ubf0 := X4.p.free 0
              have ubf1 := X4.p.free 1
              have ubf2 := X4.p.free 2
              have ubf3 := X4.p.free 3
              have ubf4 := X4.p.free 4
              rw [← hW4]
              clear hW4 X3 ua0 ua1 ua2 ua3 ua4 e3
              go_wp2
              go_roundw
              case rel => exact ⟨x :: L, some ⟨b, off, none⟩, n, c, T2, fst, n2, A2, kc2, _, rfl, rfl, hout2.out, X4, HA.out.1, by have h9 := HA.out.2.1; rw [if_neg HT.out] at h9; rw [if_neg HF.out, if_neg HF.out] at h9; exact h9⟩
              case measure => clear s13; simp only [slen]; have := Hn.out; omega
          · have ta : ((Tk : Int) == 0) = false := by simp; omega
            have ta' : (Tk == 0) = false := by simp; omega
            have HT : Hid (¬ (Tk = 0 ∧ fst = 2047)) := Lib.hid (fun k => hTk k.1)
            clear hTk hF
            have s13 := H13.out
            go_wp2_with fail
            go_quiet (fail)
            obtain ⟨W0, hW0⟩ : ∃ W0, W0 = wr.drewN nq := ⟨_, rfl⟩
            have Y := X.draws nq
            have rdw := rd2.later (drewN_below wr nq)
            have e2 : (wr.drewN nq).cell? ⟨b, off, none⟩ = some (.slice a nx kx) := e1'
            rw [← hW0] at Y rdw e2
            have y0 := Y.p.cell 0
            have y1 := Y.p.cell 1
            have y2 := Y.p.cell 2
            have y3 := Y.p.cell 3
            have y4 := Y.p.cell 4
            simp at y0 y1 y2 y3 y4
            rw [← hW0]
            clear hW0 c0 c1 c2 c3 c4 e1 e1' X hA4 hnb hk4 s1 s2 s3 tz tz' tn tn' ta ta'
            go_wp2_with (at_builtin; refine wpList_appAt _ is_bytes rfl (.tmp 81) (.tmp 84) rfl (m := out) rfl Y.ow (l := (x.drop Tk).take k) (by rw [hlt2.out]; rfl) rdw.bs rdw.nil hbound Y.b.size ?_; intro v2 w2' o2 g2 hv2; have X2 := Y.app g2 o2; obtain ⟨A2, kc2, rfl, _⟩ := o2.reads_len hout2.out; have z4 := X2.p.cell 4; have zf4 := X2.p.free 4; simp at z4; have X3 := X2.setTk T2; clear o2 g2 hv2)
            obtain ⟨W3, hW3⟩ : ∃ W3, W3 = w2'.setCell ⟨w.heap.size, 4, none⟩ (.int .i64 (T2 : Int)) := ⟨_, rfl⟩
            rw [← hW3] at X3
            have ua0 := X3.p.cell 0
            have ua1 := X3.p.cell 1
            have ua2 := X3.p.cell 2
            have ua3 := X3.p.cell 3
            have ua4 := X3.p.cell 4
            simp at ua0 ua1 ua2 ua3 ua4
            have e3 : W3.cell? ⟨b, off, none⟩ = some (.slice a nx kx) := (X3.b.cell (p := ⟨b, off + 0, none⟩) HA.out.2.2.2).trans HA.out.2.2.1
            rw [← hW3]
            clear hW3 X2 z4 zf4 s4 s9 s10 s11 s12 y0 y1 y2 y3 y4 e2 Y rdw
            go_quiet (fail)
            obtain ⟨W4, hW4⟩ : ∃ W4, W4 = W3.drewN nq := ⟨_, rfl⟩
            have X4 := X3.draws nq
            rw [← hW4] at X4
            have ub0 := X4.p.cell 0
            have ub1 := X4.p.cell 1
            have ub2 := X4.p.cell 2
            have ub3 := X4.p.cell 3
            have ub4 := X4.p.cell 4
            simp at ub0 ub1 ub2 ub3 ub4
            have ubf0 := X4.p.free 0
            have ubf1 := X4.p.free 1
            have ubf2 := X4.p.free 2
            have ubf3 := X4.p.free 3
            have ubf4 := X4.p.free 4
            rw [← hW4]
            clear hW4 X3 ua0 ua1 ua2 ua3 ua4 e3
            go_wp2
            go_roundw
            case rel => exact ⟨x :: L, some ⟨b, off, none⟩, n, c, T2, fst, n2, A2, kc2, _, rfl, rfl, hout2.out, X4, HA.out.1, by have h9 := HA.out.2.1; rw [if_neg HT.out] at h9; rw [if_neg HF.out, if_neg HF.out] at h9; exact h9⟩
            case measure => clear s13; simp only [slen]; have := Hn.out; omega
    · by_cases hz : no = Z
      · obtain ⟨h, hRR⟩ := HR.out
        obtain ⟨hF, hP, hRR'⟩ := hrl.full hRR (hno.trans hz)
        have t1 : decide ((no : Int) < (Z : Int)) = false := by simp; omega
        have t1' : decide (no < Z) = false := by simp; omega
        have t2 : ((no : Int) == (Z : Int)) = true := by simp; omega
        have t2' : (no == Z) = true := by simp; omega
        have q5 := put5_cel X.z (.int .i64 (Z : Int)) (.int .i64 (R : Int)) (.int .i64 (R1 : Int)) (.slice A n c) (.int .i64 (Tk : Int))
        have k5' := put5_only wr (w.heap.size + 1) (.int .i64 (Z : Int)) (.int .i64 (R : Int)) (.int .i64 (R1 : Int)) (.slice A n c) (.int .i64 (Tk : Int))
        have b5 := X.b.trans (k5'.below X.b.size (by simp))
        have o5 := X.ow.only k5' (fun i hi hm => X.ow.apart X.z (by decide) (by rw [hi, List.mem_singleton.1 hm]))
        have y0 := X.z.cell 0
        have y1 := X.z.cell 1
        have y2 := X.z.cell 2
        have y3 := X.z.cell 3
        have y4 := X.z.cell 4
        simp at y0 y1 y2 y3 y4
        have yf0 := X.z.free 0
        have yf1 := X.z.free 1
        have yf2 := X.z.free 2
        have yf3 := X.z.free 3
        have yf4 := X.z.free 4
        have rv : RV wr D R R1 A n c Tk (nxS Z s) := ⟨⟨Lr, hLD.below X.b, by rw [HN.out.2, HN.out.1]; exact hRR'⟩, h.ok.next hZ, h.r⟩
        have rv5 : RV (put5 wr (w.heap.size + 1) (.int .i64 (Z : Int)) (.int .i64 (R : Int)) (.int .i64 (R1 : Int)) (.slice A n c) (.int .i64 (Tk : Int))) D R R1 A n c Tk (nxS Z s) := ⟨⟨Lr, hLD.below b5, by rw [HN.out.2, HN.out.1]; exact hRR'⟩, h.ok.next hZ, h.r⟩
        unfold put5 at q5 b5 o5 rv5
        have HX := Lib.hid (And.intro hF (And.intro hP (And.intro q5 (And.intro b5 (And.intro o5 rv5)))))
        clear h hRR hF hP hRR' q5 k5' b5 o5 rv rv5 X hLD hrl hgo hno hz
        go_wp2
        obtain ⟨h1, h2, h3, h4, h5, h6⟩ := HX.out
        exact bodyPost_ret (xnx_results rfl rfl rfl rfl h3) rfl ⟨⟨R1, A, n, c, Tk, .slice Ao no ko, by rw [h2]; rfl, h6, by rw [h1]; exact h5⟩, h4⟩
      · have hlt : no < Z := by omega
        have hn0 : n = 0 := by omega
        subst hn0
        obtain rfl : Lr = [] := List.eq_nil_of_length_eq_zero hLD.len
        have hout := hrl.idle hZ HR.out.2 (by rw [hno]; exact hlt)
        rw [hno] at hout
        obtain ⟨q, hq⟩ : ∃ q, Z - no = q := ⟨_, rfl⟩
        rw [hq] at hout
        obtain ⟨hF, hP, hRR', hT0⟩ := hout
        clear hT0
        have hq0 : 0 < q := by omega
        have hqZ : q ≤ 1012 := by omega
        obtain ⟨M, hM⟩ : ∃ M, max q 7 = M := ⟨_, rfl⟩
        obtain ⟨r2, hr2⟩ : ∃ r2, M - q = r2 := ⟨_, rfl⟩
        have hqM : q ≤ M := by omega
        rw [show 7 - q = r2 by omega] at hRR'
        have hfl : Hid ((fil q).length = M) := Lib.hid (by rw [fil_len (by omega), hM])
        have hql : Hid (((fil q).take q).length = q) := Lib.hid (by rw [List.length_take, hfl.out]; omega)
        have ho9 : Hid ((out ++ (fil q).take q).length = Z) := Lib.hid (by rw [List.length_append, hno, hql.out]; omega)
        have hb47 : no + q ≤ 140737488355328 := Nat.le_trans (by omega : no + q ≤ Z) (Nat.le_trans hZ (by decide))
        have hid := fun W => xidle_any (M : Int) W (by omega)
        have hfil : Pac.idV (M : Int) = fil q := by rw [← hM]; rfl
        have hie : Pac.idE (M : Int) = 0 := by unfold Pac.idE; rw [if_pos (by omega)]
        rw [hfil, hie] at hid
        have t1 : decide ((no : Int) < (Z : Int)) = true := decide_eq_true (Int.ofNat_lt.2 hlt)
        have t1' : decide (no < Z) = true := decide_eq_true hlt
        have t3 : ((no : Int) == (Z : Int)) = false := by simp; omega
        have t3' : (no == Z) = false := by simp; omega
        have s1 : (Z : Int) - (no : Int) = (q : Int) := by omega
        have s2 : max (q : Int) 7 = (M : Int) := by omega
        have s3 : (if (q : Int) < 7 then (7 : Int) else (q : Int)) = (M : Int) := by split <;> omega
        have s4 : (if q < 7 then (7 : Int) else (q : Int)) = (M : Int) := by split <;> omega
        have s5 : (M : Int) - (q : Int) = (r2 : Int) := by omega
        have hno := Lib.hid hno
        clear hz hlt hgo hrl hfil hie hM hr2 hq
        by_cases hfs : fst = 2047
        · have ta : ((fst : Int) == 2047) = true := by simp; omega
          have ta' : (fst == 2047) = true := by simp; omega
          rw [if_pos hfs] at hP
          clear hfs
          have HX := Lib.hid (And.intro X (And.intro hF (And.intro hP hRR')))
          clear X hF hP hRR' c1 c2 c4
          go_wp2_with fail
          refine (hid _).mono ?_
          clear hid
          rintro e w7 ⟨v7, rfl, o7, b7⟩
          obtain ⟨A7, k7, rfl, _⟩ := o7.reads_len hfl.out
          have r7 := Rd.head (Md.rd (Md.of o7 hfl.out)) q hqM
          have X7 := HX.out.1.below b7
          have X8 := X7.setRe r2
          obtain ⟨w8, hw8⟩ : ∃ w8, w8 = w7.setCell ⟨w.heap.size, 2, none⟩ (.int .i64 (r2 : Int)) := ⟨_, rfl⟩
          have k78 : Only [w.heap.size] w7 w8 := by rw [hw8]; exact set_only _ _ 2 _
          have r8 : Rd w8 A7 ((fil q).take q) q k7 := Rd.put r7 k78 (fun x hx hm => by have h1 := ((Md.of o7 hfl.out).lt x hx).1; have h2 := List.mem_singleton.1 hm; have h3 := HX.out.1.p.lt; omega)
          rw [← hw8] at X8
          have pa0 := X7.p.cell 0
          have pa1 := X7.p.cell 1
          have pa2 := X7.p.cell 2
          have pa3 := X7.p.cell 3
          have pa4 := X7.p.cell 4
          simp at pa0 pa1 pa2 pa3 pa4
          have pf2 := X7.p.free 2
          have ea0 := X8.p.cell 0
          have ea1 := X8.p.cell 1
          have ea2 := X8.p.cell 2
          have ea3 := X8.p.cell 3
          have ea4 := X8.p.cell 4
          simp at ea0 ea1 ea2 ea3 ea4
          have hS : ∀ W, Below w8.heap.size w8 W → W.cell? ⟨w.heap.size, 0, none⟩ = some (.int .i64 (Z : Int)) ∧ W.cell? ⟨w.heap.size, 1, none⟩ = some (.int .i64 (R : Int)) ∧ W.cell? ⟨w.heap.size, 2, none⟩ = some (.int .i64 (r2 : Int)) ∧ W.cell? ⟨w.heap.size, 3, none⟩ = some (.slice A 0 c) ∧ W.cell? ⟨w.heap.size, 4, none⟩ = some (.int .i64 (Tk : Int)) := fun W hW =>
            ⟨(hW.cell (p := ⟨w.heap.size, 0, none⟩) X8.p.lt).trans ea0, (hW.cell (p := ⟨w.heap.size, 1, none⟩) X8.p.lt).trans ea1, (hW.cell (p := ⟨w.heap.size, 2, none⟩) X8.p.lt).trans ea2, (hW.cell (p := ⟨w.heap.size, 3, none⟩) X8.p.lt).trans ea3, (hW.cell (p := ⟨w.heap.size, 4, none⟩) X8.p.lt).trans ea4⟩
          have l1 : (q : Int) ≤ (k7 : Int) := by have := r7.le; omega
          have l2 : q ≤ k7 := r7.le
          have l3 : max (q : Int) 0 = (q : Int) := by omega
          have HH8 := Lib.hid (And.intro X8 (And.intro r8 hS))
          have H9 := Lib.hid hw8
          clear r7 X7 X8 hw8 k78 r8 hS o7 b7
          go_upto_region 25 with fail
          rw [← H9.out]
          clear pa0 pa1 pa2 pa3 pa4 pf2 H9 c0 c3
          obtain ⟨X8, r8, hS⟩ := HH8.out
          refine wp_region_held_drew (S := (fun w' => w'.cell? ⟨w.heap.size, 0, none⟩ = some (.int .i64 (Z : Int)) ∧ w'.cell? ⟨w.heap.size, 1, none⟩ = some (.int .i64 (R : Int)) ∧ w'.cell? ⟨w.heap.size, 2, none⟩ = some (.int .i64 (r2 : Int)) ∧ w'.cell? ⟨w.heap.size, 3, none⟩ = some (.slice A 0 c) ∧ w'.cell? ⟨w.heap.size, 4, none⟩ = some (.int .i64 (Tk : Int)))) (by kernel_rfl) (hS _ (bel_drew w8)) (fun hHeld => ?_)
          refine wpAnyH_here 0 (v := ?_) rfl (by kernel_rfl) (by kernel_rfl) (by kernel_rfl) (fun _ _ _ h => h) (Or.inl ⟨by rfl, ?_⟩) hHeld ?_
          rotate_left
          · intro w hSw; (try dsimp only at hSw); go_simp; all_goals (with_reducible rfl)
          try simp only [Act.put, List.setIfInBounds_toArray, List.set_cons_zero, List.set_cons_succ]
          refine wpAnyH_here 1 (v := ?_) rfl (by kernel_rfl) (by kernel_rfl) (by kernel_rfl) (fun _ _ _ h => h) (Or.inl ⟨by rfl, ?_⟩) hHeld ?_
          rotate_left
          · intro w hSw; (try dsimp only at hSw); go_simp; all_goals (with_reducible rfl)
          try simp only [Act.put, List.setIfInBounds_toArray, List.set_cons_zero, List.set_cons_succ]
          refine wpAnyH_here 2 (v := ?_) rfl (by kernel_rfl) (by kernel_rfl) (by kernel_rfl) (fun _ _ _ h => h) (Or.inl ⟨by rfl, ?_⟩) hHeld ?_
          rotate_left
          · intro w hSw; (try dsimp only at hSw); go_simp; all_goals (with_reducible rfl)
          try simp only [Act.put, List.setIfInBounds_toArray, List.set_cons_zero, List.set_cons_succ]
          refine wpAnyH_here 3 (v := ?_) rfl (by kernel_rfl) (by kernel_rfl) (by kernel_rfl) (fun _ _ _ h => h) (Or.inl ⟨by rfl, ?_⟩) hHeld ?_
          rotate_left
          · intro w hSw; (try dsimp only at hSw); go_simp; all_goals (with_reducible rfl)
          try simp only [Act.put, List.setIfInBounds_toArray, List.set_cons_zero, List.set_cons_succ]
          refine wpAnyH_here 4 (v := ?_) rfl (by kernel_rfl) (by kernel_rfl) (by kernel_rfl) (fun _ _ _ h => h) (Or.inl ⟨by rfl, ?_⟩) hHeld ?_
          rotate_left
          · intro w hSw; (try dsimp only at hSw); go_simp; all_goals (with_reducible rfl)
          try simp only [Act.put, List.setIfInBounds_toArray, List.set_cons_zero, List.set_cons_succ]
          refine wpAnyH_here 6 (v := ?_) rfl (by kernel_rfl) (by kernel_rfl) (by kernel_rfl) (fun _ _ _ h => h) (Or.inl ⟨by rfl, ?_⟩) hHeld ?_
          rotate_left
          · intro w hSw; (try dsimp only at hSw); go_simp; all_goals (with_reducible rfl)
          try simp only [Act.put, List.setIfInBounds_toArray, List.set_cons_zero, List.set_cons_succ]
          refine wpAnyH_alone 5 rfl (by kernel_rfl) (fun K hK => ?_)
          have X8d := X8.below (bel_drew w8)
          have r8d := r8.later (bel_drew w8)
          refine step_app _ is_bytes rfl (.tmp 133) (.tmp 136) rfl (m := out) rfl X8d.ow (l := (fil q).take q) (A := A7) (c := k7) (by rw [hql.out]; rfl) r8d.bs r8d.nil (by rw [hql.out, hno.out]; exact hb47) X8d.b.size ?_
          intro v9 w9 o9 g9
          have X9 := X8d.app g9 o9
          have hS9 : w9.cell? ⟨w.heap.size, 0, none⟩ = some (.int .i64 (Z : Int)) ∧ w9.cell? ⟨w.heap.size, 1, none⟩ = some (.int .i64 (R : Int)) ∧ w9.cell? ⟨w.heap.size, 2, none⟩ = some (.int .i64 (r2 : Int)) ∧ w9.cell? ⟨w.heap.size, 3, none⟩ = some (.slice A 0 c) ∧ w9.cell? ⟨w.heap.size, 4, none⟩ = some (.int .i64 (Tk : Int)) :=
            ⟨X9.p.cell 0, X9.p.cell 1, X9.p.cell 2, X9.p.cell 3, X9.p.cell 4⟩
          obtain ⟨A9, k9, rfl, _⟩ := o9.reads_len ho9.out
          refine hK.out _ _ hS9 (fun hHeld => ?_)
          clear hK K
          try simp only [Act.put, List.setIfInBounds_toArray, List.set_cons_zero, List.set_cons_succ]
          have y0 := X9.z.cell 0
          have y1 := X9.z.cell 1
          have y2 := X9.z.cell 2
          have y3 := X9.z.cell 3
          have y4 := X9.z.cell 4
          simp at y0 y1 y2 y3 y4
          have yf0 := X9.z.free 0
          have yf1 := X9.z.free 1
          have yf2 := X9.z.free 2
          have yf3 := X9.z.free 3
          have yf4 := X9.z.free 4
          have q9 := put5_cel X9.z (.int .i64 (Z : Int)) (.int .i64 (R : Int)) (.int .i64 (r2 : Int)) (.slice A 0 c) (.int .i64 (Tk : Int))
          have kk9 := put5_only w9 (w.heap.size + 1) (.int .i64 (Z : Int)) (.int .i64 (R : Int)) (.int .i64 (r2 : Int)) (.slice A 0 c) (.int .i64 (Tk : Int))
          have o10 := X9.ow.only kk9 (fun i hi hm => X9.ow.apart X9.z (by decide) (by rw [hi, List.mem_singleton.1 hm]))
          have hS10 : ∀ i, i < 5 → (put5 w9 (w.heap.size + 1) (.int .i64 (Z : Int)) (.int .i64 (R : Int)) (.int .i64 (r2 : Int)) (.slice A 0 c) (.int .i64 (Tk : Int))).cell? ⟨w.heap.size, i, none⟩ = w9.cell? ⟨w.heap.size, i, none⟩ := fun i _ => by
            have := kk9.block w.heap.size X9.p.lt (by simp)
            unfold World.cell?
            simp only [this]
          have b10 := X9.b.trans (kk9.below X9.b.size (by simp))
          have hSt := And.intro ((hS10 0 (by decide)).trans hS9.1) (And.intro ((hS10 1 (by decide)).trans hS9.2.1) (And.intro ((hS10 2 (by decide)).trans hS9.2.2.1) (And.intro ((hS10 3 (by decide)).trans hS9.2.2.2.1) ((hS10 4 (by decide)).trans hS9.2.2.2.2))))
          unfold put5 at q9 o10 b10 hSt
          have HF := Lib.hid (And.intro q9 (And.intro o10 b10))
          refine wpAnyH_alone 7 rfl (by kernel_rfl) (fun K hK => ?_)
          clear hS10 kk9 q9 o10 b10 X8 X8d r8 r8d o9 g9 X9 hS9 hS
          go_simp
          refine hK.out _ _ hSt (fun hHeld => ?_)
          clear hK K
          try simp only [Act.put, List.setIfInBounds_toArray, List.set_cons_zero, List.set_cons_succ]
          refine wpAnyH_here 8 (v := ?_) rfl (by kernel_rfl) (by kernel_rfl) (by kernel_rfl) (fun _ _ _ h => h) (Or.inl ⟨by rfl, ?_⟩) hHeld ?_
          rotate_left
          · intro w hSw; (try dsimp only at hSw); go_simp; all_goals (with_reducible rfl)
          try simp only [Act.put, List.setIfInBounds_toArray, List.set_cons_zero, List.set_cons_succ]
          refine wpAnyH_here 9 (v := ?_) rfl (by kernel_rfl) (by kernel_rfl) (by kernel_rfl) (fun _ _ _ h => h) (Or.inl ⟨by rfl, ?_⟩) hHeld ?_
          rotate_left
          · intro w hSw; (try dsimp only at hSw); go_simp; all_goals (with_reducible rfl)
          try simp only [Act.put, List.setIfInBounds_toArray, List.set_cons_zero, List.set_cons_succ]
          refine wpAnyH_here 10 (v := ?_) rfl (by kernel_rfl) (by kernel_rfl) (by kernel_rfl) (fun _ _ _ h => h) (Or.inl ⟨by rfl, ?_⟩) hHeld ?_
          rotate_left
          · intro w hSw; (try dsimp only at hSw); go_simp; all_goals (with_reducible rfl)
          try simp only [Act.put, List.setIfInBounds_toArray, List.set_cons_zero, List.set_cons_succ]
          refine wpAnyH_done (by kernel_rfl) ?_ _
          clear hSt y0 y1 y2 y3 y4 yf0 yf1 yf2 yf3 yf4 ea0 ea1 ea2 ea3 ea4
          go_wp2
          obtain ⟨h, hRR⟩ := HR.out
          obtain ⟨f1, f2, f3⟩ := HF.out
          refine bodyPost_ret (xnx_results rfl rfl rfl rfl f1) rfl ⟨⟨r2, A, 0, c, Tk, .slice A9 Z k9, by rw [HX.out.2.2.1]; rfl, ⟨⟨[], hLD.below f3, HX.out.2.2.2⟩, h.ok.next hZ, h.r⟩, by rw [HX.out.2.1]; exact f2⟩, f3⟩
        · have ta : ((fst : Int) == 2047) = false := by simp; omega
          have ta' : (fst == 2047) = false := by simp; omega
          rw [if_neg hfs] at hP
          clear hfs
          have HX := Lib.hid (And.intro X (And.intro hF (And.intro hP hRR')))
          clear X hF hP hRR' c1 c2 c4
          go_wp2_with fail
          refine (hid _).mono ?_
          clear hid
          rintro e w7 ⟨v7, rfl, o7, b7⟩
          obtain ⟨A7, k7, rfl, _⟩ := o7.reads_len hfl.out
          have r7 := Rd.head (Md.rd (Md.of o7 hfl.out)) q hqM
          have X7 := HX.out.1.below b7
          have X8 := X7.setRe r2
          obtain ⟨w8, hw8⟩ : ∃ w8, w8 = w7.setCell ⟨w.heap.size, 2, none⟩ (.int .i64 (r2 : Int)) := ⟨_, rfl⟩
          have k78 : Only [w.heap.size] w7 w8 := by rw [hw8]; exact set_only _ _ 2 _
          have r8 : Rd w8 A7 ((fil q).take q) q k7 := Rd.put r7 k78 (fun x hx hm => by have h1 := ((Md.of o7 hfl.out).lt x hx).1; have h2 := List.mem_singleton.1 hm; have h3 := HX.out.1.p.lt; omega)
          rw [← hw8] at X8
          have pa0 := X7.p.cell 0
          have pa1 := X7.p.cell 1
          have pa2 := X7.p.cell 2
          have pa3 := X7.p.cell 3
          have pa4 := X7.p.cell 4
          simp at pa0 pa1 pa2 pa3 pa4
          have pf2 := X7.p.free 2
          have ea0 := X8.p.cell 0
          have ea1 := X8.p.cell 1
          have ea2 := X8.p.cell 2
          have ea3 := X8.p.cell 3
          have ea4 := X8.p.cell 4
          simp at ea0 ea1 ea2 ea3 ea4
          have hS : ∀ W, Below w8.heap.size w8 W → W.cell? ⟨w.heap.size, 0, none⟩ = some (.int .i64 (Z : Int)) ∧ W.cell? ⟨w.heap.size, 1, none⟩ = some (.int .i64 (R : Int)) ∧ W.cell? ⟨w.heap.size, 2, none⟩ = some (.int .i64 (r2 : Int)) ∧ W.cell? ⟨w.heap.size, 3, none⟩ = some (.slice A 0 c) ∧ W.cell? ⟨w.heap.size, 4, none⟩ = some (.int .i64 (Tk : Int)) := fun W hW =>
            ⟨(hW.cell (p := ⟨w.heap.size, 0, none⟩) X8.p.lt).trans ea0, (hW.cell (p := ⟨w.heap.size, 1, none⟩) X8.p.lt).trans ea1, (hW.cell (p := ⟨w.heap.size, 2, none⟩) X8.p.lt).trans ea2, (hW.cell (p := ⟨w.heap.size, 3, none⟩) X8.p.lt).trans ea3, (hW.cell (p := ⟨w.heap.size, 4, none⟩) X8.p.lt).trans ea4⟩
          have l1 : (q : Int) ≤ (k7 : Int) := by have := r7.le; omega
          have l2 : q ≤ k7 := r7.le
          have l3 : max (q : Int) 0 = (q : Int) := by omega
          have HH8 := Lib.hid (And.intro X8 (And.intro r8 hS))
          have H9 := Lib.hid hw8
          clear r7 X7 X8 hw8 k78 r8 hS o7 b7
          go_upto_region 25 with fail
          rw [← H9.out]
          clear pa0 pa1 pa2 pa3 pa4 pf2 H9 c0 c3
          obtain ⟨X8, r8, hS⟩ := HH8.out
          refine wp_region_held_drew (S := (fun w' => w'.cell? ⟨w.heap.size, 0, none⟩ = some (.int .i64 (Z : Int)) ∧ w'.cell? ⟨w.heap.size, 1, none⟩ = some (.int .i64 (R : Int)) ∧ w'.cell? ⟨w.heap.size, 2, none⟩ = some (.int .i64 (r2 : Int)) ∧ w'.cell? ⟨w.heap.size, 3, none⟩ = some (.slice A 0 c) ∧ w'.cell? ⟨w.heap.size, 4, none⟩ = some (.int .i64 (Tk : Int)))) (by kernel_rfl) (hS _ (bel_drew w8)) (fun hHeld => ?_)
          refine wpAnyH_here 0 (v := ?_) rfl (by kernel_rfl) (by kernel_rfl) (by kernel_rfl) (fun _ _ _ h => h) (Or.inl ⟨by rfl, ?_⟩) hHeld ?_
          rotate_left
          · intro w hSw; (try dsimp only at hSw); go_simp; all_goals (with_reducible rfl)
          try simp only [Act.put, List.setIfInBounds_toArray, List.set_cons_zero, List.set_cons_succ]
          refine wpAnyH_here 1 (v := ?_) rfl (by kernel_rfl) (by kernel_rfl) (by kernel_rfl) (fun _ _ _ h => h) (Or.inl ⟨by rfl, ?_⟩) hHeld ?_
          rotate_left
          · intro w hSw; (try dsimp only at hSw); go_simp; all_goals (with_reducible rfl)
          try simp only [Act.put, List.setIfInBounds_toArray, List.set_cons_zero, List.set_cons_succ]
          refine wpAnyH_here 2 (v := ?_) rfl (by kernel_rfl) (by kernel_rfl) (by kernel_rfl) (fun _ _ _ h => h) (Or.inl ⟨by rfl, ?_⟩) hHeld ?_
          rotate_left
          · intro w hSw; (try dsimp only at hSw); go_simp; all_goals (with_reducible rfl)
          try simp only [Act.put, List.setIfInBounds_toArray, List.set_cons_zero, List.set_cons_succ]
          refine wpAnyH_here 3 (v := ?_) rfl (by kernel_rfl) (by kernel_rfl) (by kernel_rfl) (fun _ _ _ h => h) (Or.inl ⟨by rfl, ?_⟩) hHeld ?_
          rotate_left
          · intro w hSw; (try dsimp only at hSw); go_simp; all_goals (with_reducible rfl)
          try simp only [Act.put, List.setIfInBounds_toArray, List.set_cons_zero, List.set_cons_succ]
          refine wpAnyH_here 4 (v := ?_) rfl (by kernel_rfl) (by kernel_rfl) (by kernel_rfl) (fun _ _ _ h => h) (Or.inl ⟨by rfl, ?_⟩) hHeld ?_
          rotate_left
          · intro w hSw; (try dsimp only at hSw); go_simp; all_goals (with_reducible rfl)
          try simp only [Act.put, List.setIfInBounds_toArray, List.set_cons_zero, List.set_cons_succ]
          refine wpAnyH_here 6 (v := ?_) rfl (by kernel_rfl) (by kernel_rfl) (by kernel_rfl) (fun _ _ _ h => h) (Or.inl ⟨by rfl, ?_⟩) hHeld ?_
          rotate_left
          · intro w hSw; (try dsimp only at hSw); go_simp; all_goals (with_reducible rfl)
          try simp only [Act.put, List.setIfInBounds_toArray, List.set_cons_zero, List.set_cons_succ]
          refine wpAnyH_alone 5 rfl (by kernel_rfl) (fun K hK => ?_)
          have X8d := X8.below (bel_drew w8)
          have r8d := r8.later (bel_drew w8)
          refine step_app _ is_bytes rfl (.tmp 133) (.tmp 136) rfl (m := out) rfl X8d.ow (l := (fil q).take q) (A := A7) (c := k7) (by rw [hql.out]; rfl) r8d.bs r8d.nil (by rw [hql.out, hno.out]; exact hb47) X8d.b.size ?_
          intro v9 w9 o9 g9
          have X9 := X8d.app g9 o9
          have hS9 : w9.cell? ⟨w.heap.size, 0, none⟩ = some (.int .i64 (Z : Int)) ∧ w9.cell? ⟨w.heap.size, 1, none⟩ = some (.int .i64 (R : Int)) ∧ w9.cell? ⟨w.heap.size, 2, none⟩ = some (.int .i64 (r2 : Int)) ∧ w9.cell? ⟨w.heap.size, 3, none⟩ = some (.slice A 0 c) ∧ w9.cell? ⟨w.heap.size, 4, none⟩ = some (.int .i64 (Tk : Int)) :=
            ⟨X9.p.cell 0, X9.p.cell 1, X9.p.cell 2, X9.p.cell 3, X9.p.cell 4⟩
          obtain ⟨A9, k9, rfl, _⟩ := o9.reads_len ho9.out
          refine hK.out _ _ hS9 (fun hHeld => ?_)
          clear hK K
          try simp only [Act.put, List.setIfInBounds_toArray, List.set_cons_zero, List.set_cons_succ]
          have y0 := X9.z.cell 0
          have y1 := X9.z.cell 1
          have y2 := X9.z.cell 2
          have y3 := X9.z.cell 3
          have y4 := X9.z.cell 4
          simp at y0 y1 y2 y3 y4
          have yf0 := X9.z.free 0
          have yf1 := X9.z.free 1
          have yf2 := X9.z.free 2
          have yf3 := X9.z.free 3
          have yf4 := X9.z.free 4
          have q9 := put5_cel X9.z (.int .i64 (Z : Int)) (.int .i64 (R : Int)) (.int .i64 (r2 : Int)) (.slice A 0 c) (.int .i64 (Tk : Int))
          have kk9 := put5_only w9 (w.heap.size + 1) (.int .i64 (Z : Int)) (.int .i64 (R : Int)) (.int .i64 (r2 : Int)) (.slice A 0 c) (.int .i64 (Tk : Int))
          have o10 := X9.ow.only kk9 (fun i hi hm => X9.ow.apart X9.z (by decide) (by rw [hi, List.mem_singleton.1 hm]))
          have hS10 : ∀ i, i < 5 → (put5 w9 (w.heap.size + 1) (.int .i64 (Z : Int)) (.int .i64 (R : Int)) (.int .i64 (r2 : Int)) (.slice A 0 c) (.int .i64 (Tk : Int))).cell? ⟨w.heap.size, i, none⟩ = w9.cell? ⟨w.heap.size, i, none⟩ := fun i _ => by
            have := kk9.block w.heap.size X9.p.lt (by simp)
            unfold World.cell?
            simp only [this]
          have b10 := X9.b.trans (kk9.below X9.b.size (by simp))
          have hSt := And.intro ((hS10 0 (by decide)).trans hS9.1) (And.intro ((hS10 1 (by decide)).trans hS9.2.1) (And.intro ((hS10 2 (by decide)).trans hS9.2.2.1) (And.intro ((hS10 3 (by decide)).trans hS9.2.2.2.1) ((hS10 4 (by decide)).trans hS9.2.2.2.2))))
          unfold put5 at q9 o10 b10 hSt
          have HF := Lib.hid (And.intro q9 (And.intro o10 b10))
          refine wpAnyH_alone 7 rfl (by kernel_rfl) (fun K hK => ?_)
          clear hS10 kk9 q9 o10 b10 X8 X8d r8 r8d o9 g9 X9 hS9 hS
          go_simp
          refine hK.out _ _ hSt (fun hHeld => ?_)
          clear hK K
          try simp only [Act.put, List.setIfInBounds_toArray, List.set_cons_zero, List.set_cons_succ]
          refine wpAnyH_here 8 (v := ?_) rfl (by kernel_rfl) (by kernel_rfl) (by kernel_rfl) (fun _ _ _ h => h) (Or.inl ⟨by rfl, ?_⟩) hHeld ?_
          rotate_left
          · intro w hSw; (try dsimp only at hSw); go_simp; all_goals (with_reducible rfl)
          try simp only [Act.put, List.setIfInBounds_toArray, List.set_cons_zero, List.set_cons_succ]
          refine wpAnyH_here 9 (v := ?_) rfl (by kernel_rfl) (by kernel_rfl) (by kernel_rfl) (fun _ _ _ h => h) (Or.inl ⟨by rfl, ?_⟩) hHeld ?_
          rotate_left
          · intro w hSw; (try dsimp only at hSw); go_simp; all_goals (with_reducible rfl)
          try simp only [Act.put, List.setIfInBounds_toArray, List.set_cons_zero, List.set_cons_succ]
          refine wpAnyH_here 10 (v := ?_) rfl (by kernel_rfl) (by kernel_rfl) (by kernel_rfl) (fun _ _ _ h => h) (Or.inl ⟨by rfl, ?_⟩) hHeld ?_
          rotate_left
          · intro w hSw; (try dsimp only at hSw); go_simp; all_goals (with_reducible rfl)
          try simp only [Act.put, List.setIfInBounds_toArray, List.set_cons_zero, List.set_cons_succ]
          refine wpAnyH_done (by kernel_rfl) ?_ _
          clear hSt y0 y1 y2 y3 y4 yf0 yf1 yf2 yf3 yf4 ea0 ea1 ea2 ea3 ea4
          go_wp2
          obtain ⟨h, hRR⟩ := HR.out
          obtain ⟨f1, f2, f3⟩ := HF.out
          refine bodyPost_ret (xnx_results rfl rfl rfl rfl f1) rfl ⟨⟨r2, A, 0, c, Tk, .slice A9 Z k9, by rw [HX.out.2.2.1]; rfl, ⟨⟨[], hLD.below f3, HX.out.2.2.2⟩, h.ok.next hZ, h.r⟩, by rw [HX.out.2.1]; exact f2⟩, f3⟩
end
end Go.Proofs.Ytjjjlgaidklokaa.Pkr
