/-
  The walk of the law UnpackerPlays.
-/
import Derived.Test.YtcmonalnhdodmaaLaw20d
import Derived.Deep.CutRange
import Derived.Deep.CutBlock
namespace Go.Proofs.Ytcmonalnhdodmaa.Unp
open Go.RowKit Go.Proofs.Ytcmonalnhdodmaa.Row Lst
open Pac (bel_new Cel.later)

theorem fld_no (p q : Int) (A : Option Addr) (n c : Nat) : ∀ (i : Nat) (x : Byte), (#[.int .i64 p, .int .i64 q, .slice A n c] : Array Value)[i]? ≠ some (B8 x)
  | 0, _ => by simp
  | 1, _ => by simp
  | 2, _ => by simp
  | i + 3, _ => by simp

set_option maxRecDepth 100000 in
set_option maxHeartbeats 16000000 in
theorem unpackerPlays_few (A : Option Addr) (N cap : Nat) (l : List O20) (cp : Bool) (w : World) (hN : Hid (l.length = N)) (hm : N ≤ 60) (hps : Ops20 w A l) :
    Calls Try.prog 3 #[.slice A N cap, .bool cp] w fun e w' => e = .returned (.bool true) ∧ Below w.heap.size w w' := by
  have t1 : decide ((60 : Int) < (N : Int)) = false := by simp; omega
  have t1' : decide (60 < N) = false := by simp; omega
  have x1 := UL.new (w0 := w) (w := w) (Below.refl _ _)
  have HM := Lib.hid hm
  clear hm
  go_enter Try.func3, Try.ntmps3
  go_wp2_with fail
  refine x1.mono ?_
  rintro e w4 ⟨g, F1, rfl, U1, b4, n4⟩
  clear x1
  obtain ⟨w5, hw5⟩ : ∃ w5, w5 = w4.alloc (.cells #[.bool false, .int .i64 0, .int .i64 0, .bool false, .slice none 0 0] 28) := ⟨_, rfl⟩
  have b5 : Below w4.heap.size w4 w5 := by rw [hw5]; exact bel_new _ _
  have y5 : Cel w5 w4.heap.size 28 #[.bool false, .int .i64 0, .int .i64 0, .bool false, .slice none 0 0] := by rw [hw5]; exact Cel.new _ _ _
  obtain ⟨X, hX⟩ : ∃ X, X = w4.heap.size := ⟨_, rfl⟩
  have hXB : w.heap.size ≤ X := by rw [hX]; exact U1.b.size
  have hXF : X ∉ F1 := fun hm => by have := U1.p.lt X hm; omega
  rw [← hX] at y5
  have P0 : PV w w5 g F1 X ⟨false, 0, 0, false, []⟩ none 0 0 US0 := ⟨U1.below b5, y5, ⟨rfl, Bs.nil_, fun _ => rfl, Nat.le_refl _, by decide⟩, (fun x hx => nomatch hx), rfl, ⟨.nil_, by decide⟩, hXB, hXF⟩
  clear U1 b4 b5 y5 hXB hXF n4
  go_upto_region 5 with fail
  rw [← hw5, ← hX]
  clear hw5 hX
  go_wp2_with fail
  go_loopw [5, 7] (fun u i wr => ∃ (k g : Nat) (F : List Nat) (r : RU) (Ar : Option Addr) (nr cr : Nat) (s : US), k ≤ N ∧ u = .pointer (some ⟨g, 0, none⟩) ∧ i = .int .i64 (k : Int) ∧ s.lo ≤ 255 * k ∧ PV w wr g F X r Ar nr cr s) (fun _ i _ => N - (intOf i).toNat)
  case atStart => exact ⟨0, _, _, _, _, _, _, _, Nat.zero_le _, rfl, rfl, Nat.le_refl _, P0⟩
  case round =>
    clear P0
    obtain ⟨k, g, F, r, Ar, nr, cr, s, hk, rfl, rfl, hlo, P0⟩ := hrel
    by_cases hkN : k < N
    · obtain ⟨o, ho⟩ : ∃ o, l[k]? = some o := ⟨_, List.getElem?_eq_getElem (by have := hN.out; omega)⟩
      obtain ⟨b, off, rfl, hbB, c0, c1, c2, rd⟩ := hps k o ho
      clear ho
      obtain ⟨ct, f, a, c, D⟩ := o
      obtain ⟨M, hM⟩ : ∃ M, D.length = M := ⟨_, rfl⟩
      dsimp only at c0 c1 c2 rd
      rw [hM] at c2 rd
      have i0 : (0 : Int) ≤ (k : Int) := Int.natCast_nonneg _
      have i1 : (k : Int) < (N : Int) := by omega
      have q0 := (P0.u.b.cell (p := ⟨b, off + k * 3, none⟩) hbB).trans c0
      have q1 := (P0.u.b.cell (p := ⟨b, off + k * 3 + 1, none⟩) hbB).trans c1
      have q2 := (P0.u.b.cell (p := ⟨b, off + k * 3 + 2, none⟩) hbB).trans c2
      obtain ⟨W1, hW1⟩ : ∃ W1, W1 = wr.alloc (.cells #[.int .i64 ct, .int .i64 f, .slice a M c] 30) := ⟨_, rfl⟩
      have bW1 : Below wr.heap.size wr W1 := by rw [hW1]; exact bel_new _ _
      have yW : Cel W1 wr.heap.size 30 #[.int .i64 ct, .int .i64 f, .slice a M c] := by rw [hW1]; exact Cel.new _ _ _
      obtain ⟨Y, hY⟩ : ∃ Y, Y = wr.heap.size := ⟨_, rfl⟩
      rw [← hY] at yW
      have hYF : ∀ x ∈ F, x ≠ Y := fun x hx => by have := P0.u.p.lt x hx; omega
      have hYX : X ≠ Y := by have := P0.x.lt; omega
      have P1 := P0.below bW1
      clear hM c0 c1 c2 P0 bW1
      go_upto_region 9 with fail
      rw [← hW1, ← hY]
      clear hW1 hY q0 q1 q2
      have z2 := yW.cell 2
      simp at z2
      by_cases hb : 1100 < M
      · have t2 : decide ((1100 : Int) < (M : Int)) = true := by simp; omega
        have t2' : decide (1100 < M) = true := by simpa using hb
        have HP := Lib.hid P1
        clear P1 hb hYX hYF yW
        go_wp2_with fail
        refine (alive20_any _).mono ?_
        rintro e w2 ⟨rfl, b2⟩
        go_wp2
        go_ret
        exact ⟨rfl, (HP.out.below b2).u.b⟩
      · have t2 : decide ((1100 : Int) < (M : Int)) = false := by simp; omega
        have t2' : decide (1100 < M) = false := by simpa using hb
        have hMb : Hid (M ≤ 1100) := Lib.hid (by omega)
        have hlo2 : Hid (s.lo ≤ 255 * k ∧ k < 60) := Lib.hid ⟨hlo, by have := HM.out; omega⟩
        have HP1 := Lib.hid (And.intro P1 (And.intro yW (And.intro hYF hYX)))
        clear P1 yW hYF hYX hb hlo
        go_upto_if 33 with fail
        clear z2
        go_cut [5, 9] from 18 to 74 (fun u _ wx => ∃ (g : Nat) (F : List Nat), u = .pointer (some ⟨g, 0, none⟩) ∧ PV w wx g F X r Ar nr cr s ∧ Cel wx Y 30 #[.int .i64 ct, .int .i64 f, .slice a M c] ∧ ∀ x ∈ F, x ≠ Y)
        case first =>
          cases cp with
          | false =>
            go_wp2
            go_meet
            case rel => exact ⟨_, _, rfl, HP1.out.1, HP1.out.2.1, HP1.out.2.2.1⟩
          | true =>
            have xc := HP1.out.1.clone1
            go_wp2_with fail
            refine xc.mono ?_
            clear xc
            rintro e w2 ⟨q, G, rfl, P2, U2, hGn, hGF, hAF, hXF, b2⟩
            have yW2 := Cel.later HP1.out.2.1 b2
            have z0 := yW2.cell 0
            simp at z0
            obtain ⟨W3, hW3⟩ : ∃ W3, W3 = w2.alloc (.cells #[.int .u8 1, .int .u8 2, .int .u8 3] 5) := ⟨_, rfl⟩
            have b3 : Below w2.heap.size w2 W3 := by rw [hW3]; exact bel_new _ _
            have o3 : Ow W3 w2.heap.size 5 (.slice (some ⟨w2.heap.size, 0, none⟩) 3 3) [1#8, 2#8, 3#8] := by rw [hW3]; exact Ow_new w2 _ _ [1#8, 2#8, 3#8] 3 _ rfl rfl (Nat.le_refl _) (by decide) _ rfl
            obtain ⟨_, _, he3, r3⟩ := Rd.of (n := 3) o3 rfl
            cases he3
            have hl2 : w2.heap.size < W3.heap.size := by rw [hW3]; simp
            have hUl := U2.p.lt
            have xt := fun ct' => (U2.below b3).take (ct := ct') (f := 0) (by have := hlo2.out; omega) r3 (by decide) (fun _ => Of_at (F := F) (fun hm => by have := hUl _ hm; omega) hl2) rfl rfl rfl
            have HQ := Lib.hid (And.intro (P2.below b3) (And.intro (Cel.later yW2 b3) (And.intro hGn (And.intro hGF (And.intro hAF (And.intro hXF U2.lo))))))
            clear P2 U2 yW2 hGn hGF hAF hXF b2 b3 o3 r3 hl2 hUl
            go_wp2_with fail
            rw [← hW3]
            clear hW3
            refine (xt _).mono ?_
            clear xt
            rintro e w5 ⟨_, _, F5, rfl, _, _, k5, _⟩
            have HP5 := Lib.hid (HQ.out.1.off k5 HQ.out.2.2.2.1 HQ.out.2.2.2.2.1 HQ.out.2.2.2.2.2.1 HQ.out.2.2.2.2.2.2)
            have HY5 := Lib.hid (HQ.out.2.1.only k5 (fun hm => HP1.out.2.2.1 _ hm rfl))
            clear k5 z0
            go_wp2
            go_meet
            case rel => exact ⟨_, _, rfl, HP5.out, HY5.out, fun x hx => by have := HQ.out.2.2.1 x hx; have := HP1.out.2.1.lt; omega⟩
        case rest =>
          obtain ⟨g2, F2, rfl, P2, yW, hYF⟩ := hcut
          have hXY := HP1.out.2.2.2
          obtain ⟨O, hO⟩ : ∃ O, tkO s ct f D = O := ⟨_, rfl⟩
          obtain ⟨S2, hS2⟩ : ∃ S2, tkS s ct f D = S2 := ⟨_, rfl⟩
          obtain ⟨K, hK⟩ : ∃ K, O.length = K := ⟨_, rfl⟩
          have hKb : K ≤ 10000000 := by
            have h1 := tkO_len s ct f D
            have h2 := P2.u.p.ok.r.len
            have h3 := hMb.out
            have h4 := rd.len
            rw [hO, hK] at h1
            omega
          have hlo3 : Hid (S2.lo ≤ 255 * (k + 1)) := Lib.hid (by have h1 := tkS_lo s ct f D; have h2 := hlo2.out; rw [hS2] at h1; omega)
          have hus := P2.us
          have xt := P2.take1 (ct := ct) (f := f) (by have := hlo2.out; omega) (rd.later P2.u.b) (by have := hMb.out; omega) (Of_arg rd P2.u.b.size P2.u.lo) hO hK
          rw [hS2] at xt
          have z0 := yW.cell 0
          have z1 := yW.cell 1
          have z2 := yW.cell 2
          simp at z0 z1 z2
          have hok := P2.ok
          have hXlo := P2.lo
          have HQ := Lib.hid (And.intro yW (And.intro hYF (And.intro hXY (And.intro hok (And.intro hXlo hus)))))
          have HS := Lib.hid (And.intro hO (And.intro hS2 hK))
          have HKb := Lib.hid hKb
          clear HP1 P2 yW hYF hXY hok hXlo hus hO hS2 hK hKb
          go_wp2_with fail
          refine xt.mono ?_
          clear xt
          rintro e w6 ⟨A1, c1, F6, rfl, K1, U6, x6, rd6, af6, xf6, k6⟩
          have y6 := HQ.out.1.only k6 (fun hm => HQ.out.2.1 _ hm rfl)
          clear z0 z1 z2
          have z0 := y6.cell 0
          have z1 := y6.cell 1
          have z2 := y6.cell 2
          simp at z0 z1 z2
          have v0 := x6.cell 0
          have v1 := x6.cell 1
          have v2 := x6.cell 2
          have v3 := x6.cell 3
          have v4 := x6.cell 4
          simp [RU.cs] at v0 v1 v2 v3 v4
          have xr := xtake_any HQ.out.2.2.2.1 (by
            have h := HQ.out.2.2.2.2.2
            have := hlo2.out
            have e : r.lo = s.lo := by rw [← h]; first | done | rfl
            omega) rd6 (rd.later U6.b) (by have := hMb.out; omega) ct f
          rw [HQ.out.2.2.2.2.2, HS.out.1, HS.out.2.1] at xr
          have HU := Lib.hid (And.intro K1 (And.intro U6 (And.intro x6 (And.intro rd6 (And.intro af6 xf6)))))
          clear K1 U6 x6 rd6 af6 xf6 k6 y6
          go_wp2_with fail
          refine xr.mono ?_
          clear xr
          rintro e w7 ⟨r', A', n', c', R2, rfl, XO⟩
          obtain ⟨E2, lo2⟩ := XO.lo
          obtain ⟨A2, c2, rfl, _⟩ := lo2.len HS.out.2.2
          clear lo2
          obtain ⟨w8, hw8⟩ : ∃ w8, w8 = w7.alloc (.cells #[.bool r'.st, .int .i64 (r'.nx : Int), .int .i64 (r'.lo : Int), .bool r'.sp, .slice A' n' c'] 28) := ⟨_, rfl⟩
          have b8 : Below w7.heap.size w7 w8 := by rw [hw8]; exact bel_new _ _
          have p8 : Cel w8 w7.heap.size 28 #[.bool r'.st, .int .i64 (r'.nx : Int), .int .i64 (r'.lo : Int), .bool r'.sp, .slice A' n' c'] := by rw [hw8]; exact Cel.new _ _ _
          have hus := HQ.out.2.2.2.2.2
          have XO' : XtOut w6 Ar (tkS s ct f D) O r' A' n' c' (.slice A2 K c2) w7 := by rw [HS.out.2.1]; exact XO
          obtain ⟨P9, K9⟩ := PV.store (w0 := w) (X := X) (g := g2) (F := F6) (r := r) (n := nr) (c := cr) (s := s) (ct := ct) (f := f) (d := D) (by rw [HS.out.2.1]; exact HU.out.2.1) HU.out.2.2.1 HU.out.2.2.2.2.1 HQ.out.2.2.2.2.1 HU.out.2.2.2.2.2 XO' b8
          have K8 := (HU.out.1.below XO.b).below b8
          have k5 := put5_only w8 X (.bool r'.st) (.int .i64 (r'.nx : Int)) (.int .i64 (r'.lo : Int)) (.bool r'.sp) (.slice A' n' c')
          obtain ⟨w9, hw9⟩ : ∃ w9, w9 = put5 w8 X (.bool r'.st) (.int .i64 (r'.nx : Int)) (.int .i64 (r'.lo : Int)) (.bool r'.sp) (.slice A' n' c') := ⟨_, rfl⟩
          rw [← hw9] at P9 K9 k5
          have K89 := K8.next k5 (fun x hx => .inl (by rw [List.mem_singleton.1 hx]; simp)) (fun x hx => .inl hx)
          rw [HS.out.2.1] at P9
          have x8 := Cel.later (Cel.later HU.out.2.2.1 XO.b) b8
          have v0 := x8.cell 0
          have v1 := x8.cell 1
          have v2 := x8.cell 2
          have v3 := x8.cell 3
          have v4 := x8.cell 4
          simp [RU.cs] at v0 v1 v2 v3 v4
          have f0 := x8.free 0
          have f1 := x8.free 1
          have f2 := x8.free 2
          have f3 := x8.free 3
          have f4 := x8.free 4
          have z0 := p8.cell 0
          have z1 := p8.cell 1
          have z2 := p8.cell 2
          have z3 := p8.cell 3
          have z4 := p8.cell 4
          simp at z0 z1 z2 z3 z4
          have HE := Lib.hid (And.intro P9 (And.intro K9 K89))
          unfold put5 at hw9
          clear P9 K9 K8 K89 k5 XO XO' x8 p8 b8 hus
          go_upto_region 17 with fail
          rw [← hw8]
          clear hw8
          go_upto_region 18 with fail
          rw [← hw9]
          clear hw9 v0 v1 v2 v3 v4 f0 f1 f2 f3 f4 z0 z1 z2 z3 z4
          have hlo9 : r'.lo = S2.lo := by have := HE.out.1.us; rw [← this]; first | done | rfl
          have hl1 := fun p : Later w9 => Same_of (c1 := c1) (c2 := c2) p.W ((HE.out.2.2.below p.h).reads HS.out.2.2) ((HE.out.2.1.below p.h).reads HS.out.2.2) HS.out.2.2 HKb.out
          have hl2 : ∀ p : Later w9, Calls Try.prog 14 #[.pointer (some ⟨g2, 0, none⟩)] p.W fun e w' => e = .returned (.int .i64 (S2.lo : Int)) ∧ Below p.W.heap.size p.W w' := fun p => ((HE.out.1.below p.h).u.lost).mono (fun _ _ ⟨h1, h2⟩ => ⟨h1, h2 ▸ Below.refl _ _⟩)
          have cX := HE.out.1.x.cell 2
          simp [RU.cs] at cX
          rw [hlo9] at cX
          have dX := fun p : Later w9 => later_cell cX HE.out.1.x.lt p
          have t9 : ((S2.lo : Int) != (S2.lo : Int)) = false := by simp
          clear cX hlo9
          refine wp_region_later (by kernel_rfl) (by kernel_rfl) ?_
          repeat (go_big_quiet_step ((first | (go_at_call 13; exact later_of (hl1 _)) | (go_at_call 14; exact later_of (hl2 _)))))
          refine wpQuiet_nil ?_
          rintro _ ⟨⟨w10, b10⟩, rfl⟩
          have HP10 := Lib.hid (HE.out.1.below b10)
          have hk60 : k < 60 := hlo2.out.2
          clear hl1 hl2 dX
          go_wp2
          go_roundw
          case rel => exact ⟨k + 1, _, _, _, _, _, _, _, hkN, rfl, by go_num, hlo3.out, HP10.out⟩
          case measure => simp [intOf]; omega
    · have t2 : decide ((k : Int) < (N : Int)) = false := by simp; omega
      have t2' : decide (k < N) = false := by simpa using hkN
      have HP := Lib.hid P0
      clear P0 hkN hps
      go_wp2_with fail
      refine (alive20_any _).mono ?_
      rintro e w2 ⟨rfl, b2⟩
      go_wp2
      go_ret
      exact ⟨rfl, (HP.out.below b2).u.b⟩

theorem unpackerPlays_walk (A : Option Addr) (N cap : Nat) (l : List O20) (cp : Bool) (w : World) (hN : l.length = N) (hps : Ops20 w A l) :
    Calls Try.prog 3 #[.slice A N cap, .bool cp] w fun e w' => e = .returned (.bool true) ∧ Below w.heap.size w w' := by
  by_cases h : 60 < N
  · have t1 : decide ((60 : Int) < (N : Int)) = true := by simp; omega
    have t1' : decide (60 < N) = true := by simpa using h
    clear h hN hps
    go_enter Try.func3, Try.ntmps3
    go_wp2_with fail
    refine (alive20_any _).mono ?_
    rintro e w1 ⟨rfl, b1⟩
    go_wp2
    go_ret
    exact ⟨rfl, b1⟩
  · exact unpackerPlays_few A N cap l cp w (Lib.hid hN) (by omega) hps
end Go.Proofs.Ytcmonalnhdodmaa.Unp
