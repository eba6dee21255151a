/-
  The walk of the law PackerPlays.
-/
import Derived.Test.YtjjjlgaidklokaaLaw19i
namespace Go.Proofs.Ytjjjlgaidklokaa.Pkr
open Go.RowKit
open Pac (bel_new Cel.later)

theorem RV.put_ {w w' : World} {F : List Nat} {X Y R Re n c Tk : Nat} {A : Option Addr} {s : PS} (h : RV w (fun b => Dn F [] X b ∧ b ≠ Y) R Re A n c Tk s) (k : Only [Y] w w') : RV w' (Dn F [] X) R Re A n c Tk s :=
  (h.keep (Lst.Kd.of_only k fun _i _ hd hm => hd.2 (List.mem_singleton.1 hm))).imp fun _ _ hd => hd.1
theorem RV.way1 {w : World} {F : List Nat} {X Y B R Re n c Tk : Nat} {A : Option Addr} {s : PS} (h : RV w (fun b => Dn F [] X b ∨ B ≤ b) R Re A n c Tk s) (hF : ∀ x ∈ F, x < B) (hX : X < B) (hY : w.heap.size ≤ Y) : RV w (fun b => Dn F [] X b ∧ b ≠ Y) R Re A n c Tk s :=
  h.imp fun b hb hd => ⟨hd.elim id (fun h1 => ⟨fun hm => by have := hF b hm; omega, (fun hm => nomatch hm), by omega⟩), by omega⟩
theorem RV.way2a {w : World} {F : List Nat} {X Y R Re n c Tk : Nat} {A : Option Addr} {s : PS} (h : RV w (Dn F [] X) R Re A n c Tk s) (hY : w.heap.size ≤ Y) : RV w (fun b => Dn F [] X b ∧ b ≠ Y) R Re A n c Tk s :=
  h.imp fun b hb hd => ⟨hd, by omega⟩
theorem RV.way2b {w : World} {F : List Nat} {X Y B R Re n c Tk : Nat} {A : Option Addr} {s : PS} (h : RV w (fun b => (Dn F [] X b ∧ b ≠ Y) ∨ B ≤ b) R Re A n c Tk s) (hF : ∀ x ∈ F, x < B) (hX : X < B) (hY : Y < B) : RV w (fun b => Dn F [] X b ∧ b ≠ Y) R Re A n c Tk s :=
  h.imp fun b hb hd => hd.elim id (fun h1 => ⟨⟨fun hm => by have := hF b hm; omega, (fun hm => nomatch hm), by omega⟩, by omega⟩)

set_option maxHeartbeats 4000000 in
theorem packerPlays_bad (z r : Int) (A : Option Addr) (N cap : Nat) (w : World) (hz : ¬ (1 ≤ z ∧ z ≤ 1012)) :
    Calls Try.prog 3 #[.int .i64 z, .int .i64 r, .slice A N cap] w fun e w' => e = .returned (.bool true) ∧ Below w.heap.size w w' := by
  have x0 := xright_any z w
  rw [decide_eq_false hz] at x0
  have x1 := pnew_no z hz r w
  have x2 := fun W => lbytes_any 1 1#8 (by decide) (by decide) W
  rw [show (((1#8 : Byte).toNat : Nat) : Int) = 1 from rfl, show ((1 : Nat) : Int) = 1 from rfl] at x2
  go_enter Try.func3, Try.ntmps3
  go_wp2_with fail
  refine x1.mono ?_
  rintro e w1 ⟨rfl, rfl⟩
  go_wp2_with fail
  refine x0.mono ?_
  rintro e w1 ⟨rfl, rfl⟩
  clear x0 x1
  go_wp2_with fail
  refine (x2 _).mono ?_
  rintro e w2 ⟨v2, rfl, o2, b2⟩
  obtain ⟨Ax, cx, rfl, rx2⟩ := Rd.of o2 (pkE_len (by decide) (by decide))
  clear x2 o2
  go_wp2_with fail
  refine (ppush_nil _ _ _ _).mono ?_
  rintro e w3 ⟨rfl, rfl⟩
  go_wp2_with fail
  refine (pleft_nil _).mono ?_
  rintro e w3 ⟨rfl, rfl⟩
  go_wp2_with fail
  refine (pready_nil _).mono ?_
  rintro e w3 ⟨rfl, b3⟩
  go_wp2_with fail
  refine (pclone_nil _).mono ?_
  rintro e w4 ⟨rfl, rfl⟩
  go_wp2_with fail
  refine (alive19_any _).mono ?_
  rintro e w4 ⟨rfl, b4⟩
  go_wp2
  go_ret
  have b5 := b2.trans (b3.mono b2.size)
  exact ⟨rfl, b5.trans (b4.mono b5.size)⟩

set_option maxRecDepth 100000 in
set_option maxHeartbeats 16000000 in
theorem packerPlays_good (Z : Nat) (hZ1 : 1 ≤ Z) (hZ2 : Z ≤ 1012) (r : Int) (A : Option Addr) (N cap : Nat) (l : List O19) (w : World) (hN : Hid (l.length = N)) (hm : N ≤ maxLen) (hps : Ops19 w A l) :
    Calls Try.prog 3 #[.int .i64 (Z : Int), .int .i64 r, .slice A N cap] w fun e w' => e = .returned (.bool true) ∧ Below w.heap.size w w' := by
  have x0 := fun W => xright_any (Z : Int) W
  simp only [decide_eq_true (show 1 ≤ (Z : Int) ∧ (Z : Int) ≤ 1012 by omega)] at x0
  have x1 := PL.new (r := r) hZ1 hZ2 w
  have x2 := fun W => xnew19_any (Z : Int) r W
  have x3 := fun W (hW : Below w.heap.size w W) => few19_any A l N cap W hN hm (hps.below hW)
  have x4 := fun W => lbytes_any 3 3#8 (by decide) (by decide) W
  rw [show (((3#8 : Byte).toNat : Nat) : Int) = 3 from rfl, show ((3 : Nat) : Int) = 3 from rfl] at x4
  obtain ⟨R, hR⟩ : ∃ R, rm r = R := ⟨_, rfl⟩
  have hR1 := rm_le r
  rw [hR] at x1 hR1
  simp only [hR] at x2
  have HZ : Hid (Z ≤ 1012) := Lib.hid hZ2
  have HR1 := Lib.hid hR1
  have hNm : N ≤ 9223372036854775807 := hm
  clear hR hm hZ1 hZ2 hR1
  go_enter Try.func3, Try.ntmps3
  go_wp2_with fail
  refine x1.mono ?_
  rintro e w1 ⟨g, F1, rfl, P1⟩
  clear x1
  go_wp2_with fail
  refine (x0 _).mono ?_
  rintro e w2 ⟨rfl, rfl⟩
  clear x0
  go_wp2_with fail
  refine (x3 _ P1.b).mono ?_
  rintro e w2 ⟨⟨bf, rfl⟩, rfl⟩
  clear x3
  cases bf with
  | false =>
    have HP := Lib.hid P1
    clear P1 hps
    go_wp2_with fail
    refine (alive19_any _).mono ?_
    rintro e w2 ⟨rfl, b2⟩
    go_wp2
    go_ret
    exact ⟨rfl, (HP.out.below b2).b⟩
  | true =>
  go_wp2_with fail
  refine (x2 _).mono ?_
  rintro e w4 ⟨rfl, b4⟩
  clear x2
  have p4 := P1.below b4
  obtain ⟨w5, hw5⟩ : ∃ w5, w5 = w4.alloc (.cells #[.int .i64 (Z : Int), .int .i64 (R : Int), .int .i64 0, .slice none 0 0, .int .i64 0] 36) := ⟨_, rfl⟩
  have b5 : Below w4.heap.size w4 w5 := by rw [hw5]; exact bel_new _ _
  have y5 : Cel w5 w4.heap.size 36 #[.int .i64 (Z : Int), .int .i64 (R : Int), .int .i64 0, .slice none 0 0, .int .i64 0] := by rw [hw5]; exact Cel.new _ _ _
  obtain ⟨X, hX⟩ : ∃ X, X = w4.heap.size := ⟨_, rfl⟩
  have hXB : w.heap.size ≤ X := by rw [hX]; exact p4.b.size
  have hXF : X ∉ F1 := fun hm => by have := p4.p.lt X hm; omega
  rw [← hX] at y5
  have P0 : PR w w5 g F1 Z R X 0 none 0 0 0 [] ⟨[], [], []⟩ ⟨[], [], []⟩ := ⟨p4.below b5, y5, ⟨⟨[], Lst.LD.nil_ _ _, RR.start⟩, ⟨(fun x hx => nomatch hx), by simp, by simp [PS.wt]⟩, HR1.out⟩, hXB, hXF, fun hm => nomatch hm⟩
  clear P1 p4 b4 b5 y5 hXB hXF
  go_upto_region 7 with fail
  rw [← hw5, ← hX]
  clear hw5 hX
  go_wp2
  go_loopw [7, 9] (fun f i wr => ∃ (k g : Nat) (F : List Nat) (Re : Nat) (Ar : Option Addr) (nr cr Tk : Nat) (s : PS), k ≤ N ∧ f = .pointer (some ⟨g, 0, none⟩) ∧ i = .int .i64 (k : Int) ∧ PR w wr g F Z R X Re Ar nr cr Tk [] s s) (fun _ i _ => N - (intOf i).toNat)
  case atStart => exact ⟨0, _, _, _, _, _, _, _, _, Nat.zero_le _, rfl, rfl, P0⟩
  case round =>
    clear P0
    obtain ⟨k, g, F, Re, Ar, nr, cr, Tk, s, hk, rfl, rfl, P0⟩ := hrel
    by_cases hkN : k < N
    · obtain ⟨o, ho⟩ : ∃ o, l[k]? = some o := ⟨_, List.getElem?_eq_getElem (by have := hN.out; omega)⟩
      obtain ⟨b, off, rfl, hbB, c0, c1, c2, rd⟩ := hps k o ho
      clear ho
      obtain ⟨psh, a, c, B, cpy⟩ := o
      obtain ⟨M, hM⟩ : ∃ M, B.length = M := ⟨_, rfl⟩
      dsimp only at c0 c1 c2 rd
      rw [hM] at c1 rd
      have i0 : (0 : Int) ≤ (k : Int) := Int.natCast_nonneg _
      have i1 : (k : Int) < (N : Int) := by omega
      have kc := fun W (hW : Below w.heap.size w W) => (hW.cell (p := ⟨b, off + k * 3 + 2, none⟩) hbB).trans c2
      have t0 := (P0.pl.b.cell (p := ⟨b, off + k * 3, none⟩) hbB).trans c0
      have t1 := (P0.pl.b.cell (p := ⟨b, off + k * 3 + 1, none⟩) hbB).trans c1

      have HK := Lib.hid kc
      have HC := Lib.hid c1
      clear hM c0 c1 c2 kc
      cases psh with
      | true =>
        obtain ⟨E, hE⟩ : ∃ E, psE R B s = E := ⟨_, rfl⟩
        obtain ⟨s2, hs2⟩ : ∃ s2, psS R B s = s2 := ⟨_, rfl⟩
        have hp := P0.push1 (rd.later P0.pl.b) hE hs2
        have HE := Lib.hid (And.intro hE (And.intro hs2 P0.v))
        clear hE hs2 P0
        go_wp2_with fail
        refine hp.mono ?_
        rintro e w6 ⟨rfl, F6, P6⟩
        clear hp t0 t1
        have rd6 := rd.later P6.pl.b
        have hxt := fun W (hW : Below w6.heap.size w6 W) D (hv : RV W D R Re Ar nr cr Tk s) => xpush_any (Z : Int) hv (rd6.later hW)
        simp only [HE.out.1, HE.out.2.1] at hxt
        have c61 := (P6.pl.b.cell (p := ⟨b, off + k * 3 + 1, none⟩) hbB).trans HC.out
        have hX0 := P6.x.cell 0
        have hX1 := P6.x.cell 1
        have hX2 := P6.x.cell 2
        have hX3 := P6.x.cell 3
        have hX4 := P6.x.cell 4
        simp at hX0 hX1 hX2 hX3 hX4
        have hXl : X < w6.heap.size := P6.x.lt
        have hbl : b < w6.heap.size := Nat.lt_of_lt_of_le hbB P6.pl.b.size
        have hS6 : ∀ W, Below w6.heap.size w6 W → (fun W => W.cell? ⟨b, off + k * 3 + 1, none⟩ = some (.slice a M c) ∧ W.cell? ⟨X, 0, none⟩ = some (.int .i64 (Z : Int)) ∧ W.cell? ⟨X, 1, none⟩ = some (.int .i64 (R : Int)) ∧ W.cell? ⟨X, 2, none⟩ = some (.int .i64 (Re : Int)) ∧ W.cell? ⟨X, 3, none⟩ = some (.slice Ar nr cr) ∧ W.cell? ⟨X, 4, none⟩ = some (.int .i64 (Tk : Int))) W := fun W kb => ⟨(kb.cell (p := ⟨b, off + k * 3 + 1, none⟩) hbl).trans c61,
          (kb.cell (p := ⟨X, 0, none⟩) hXl).trans hX0, (kb.cell (p := ⟨X, 1, none⟩) hXl).trans hX1, (kb.cell (p := ⟨X, 2, none⟩) hXl).trans hX2, (kb.cell (p := ⟨X, 3, none⟩) hXl).trans hX3, (kb.cell (p := ⟨X, 4, none⟩) hXl).trans hX4⟩
        have hFl := P6.pl.p.lt
        have HF := Lib.hid hFl
        have HP6 := Lib.hid P6
        clear P6 c61 hFl
        go_upto_region 12 with fail
        go_cut [11, 12] from 78 to 87 (fun y v wx => ∃ (Y : Nat) (Ap : Option Addr) (np cp : Nat), y = .pointer (some ⟨Y, 0, none⟩) ∧ v = .int .i64 E ∧ Below w6.heap.size w6 wx ∧ w6.heap.size ≤ Y ∧ Cel wx Y 36 #[.int .i64 (Z : Int), .int .i64 (R : Int), .int .i64 (Re : Int), .slice Ap np cp, .int .i64 (Tk : Int)] ∧ RV wx (Dn F6 [] X) R Re Ap np cp Tk s2)
        case first =>
          clear hX0 hX1 hX2 hX3 hX4
          have hbA : Below w6.heap.size w6 w6.drew := ⟨rfl, rfl, rfl, Nat.le_refl _, fun _ _ => rfl⟩
          refine wp_region_held_drew (S := fun W => W.cell? ⟨b, off + k * 3 + 1, none⟩ = some (.slice a M c) ∧ W.cell? ⟨X, 0, none⟩ = some (.int .i64 (Z : Int)) ∧ W.cell? ⟨X, 1, none⟩ = some (.int .i64 (R : Int)) ∧ W.cell? ⟨X, 2, none⟩ = some (.int .i64 (Re : Int)) ∧ W.cell? ⟨X, 3, none⟩ = some (.slice Ar nr cr) ∧ W.cell? ⟨X, 4, none⟩ = some (.int .i64 (Tk : Int))) (by kernel_rfl) (hS6 _ hbA) (fun hHeld => ?_)
          refine wpAnyH_here 0 (v := ?_) rfl (by kernel_rfl) (by kernel_rfl) (by kernel_rfl) (fun _ _ _ h => h) (Or.inl ⟨by rfl, ?_⟩) hHeld ?_
          rotate_left
          · intro w hSw; (try dsimp only at hSw); go_simp; all_goals (with_reducible rfl)
          try simp only [Act.put, List.setIfInBounds_toArray, List.set_cons_zero, List.set_cons_succ]
          refine wpAnyH_here 1 (v := ?_) rfl (by kernel_rfl) (by kernel_rfl) (by kernel_rfl) (fun _ _ _ h => h) (Or.inl ⟨by rfl, ?_⟩) hHeld ?_
          rotate_left
          · intro w hSw; (try dsimp only at hSw); go_simp; all_goals (with_reducible rfl)
          try simp only [Act.put, List.setIfInBounds_toArray, List.set_cons_zero, List.set_cons_succ]
          refine wpAnyH_here 2 (v := ?_) rfl (by kernel_rfl) (by kernel_rfl) (by kernel_rfl) (fun _ _ _ h => h) (Or.inl ⟨by rfl, ?_⟩) hHeld ?_
          rotate_left
          · intro w hSw; (try dsimp only at hSw); go_simp; all_goals (with_reducible rfl)
          try simp only [Act.put, List.setIfInBounds_toArray, List.set_cons_zero, List.set_cons_succ]
          refine wpAnyH_here 3 (v := ?_) rfl (by kernel_rfl) (by kernel_rfl) (by kernel_rfl) (fun _ _ _ h => h) (Or.inl ⟨by rfl, ?_⟩) hHeld ?_
          rotate_left
          · intro w hSw; (try dsimp only at hSw); go_simp; all_goals (with_reducible rfl)
          try simp only [Act.put, List.setIfInBounds_toArray, List.set_cons_zero, List.set_cons_succ]
          refine wpAnyH_here 4 (v := ?_) rfl (by kernel_rfl) (by kernel_rfl) (by kernel_rfl) (fun _ _ _ h => h) (Or.inl ⟨by rfl, ?_⟩) hHeld ?_
          rotate_left
          · intro w hSw; (try dsimp only at hSw); go_simp; all_goals (with_reducible rfl)
          try simp only [Act.put, List.setIfInBounds_toArray, List.set_cons_zero, List.set_cons_succ]
          refine wpAnyH_here 5 (v := ?_) rfl (by kernel_rfl) (by kernel_rfl) (by kernel_rfl) (fun _ _ _ h => h) (Or.inl ⟨by rfl, ?_⟩) hHeld ?_
          rotate_left
          · intro w hSw; (try dsimp only at hSw); go_simp; all_goals (with_reducible rfl)
          try simp only [Act.put, List.setIfInBounds_toArray, List.set_cons_zero, List.set_cons_succ]
          obtain ⟨W6, hW6⟩ : ∃ W6, W6 = w6.drew := ⟨_, rfl⟩
          rw [← hW6] at hbA hHeld ⊢
          clear hW6
          refine wpAnyH_both 6 10 rfl rfl (by kernel_rfl) (fun K_ hK => ?_) (fun K_ hK => ?_)
          · go_simp
            refine (hxt _ hbA _ (HP6.out.below hbA).v).mono ?_
            rintro e w7 ⟨⟨Ap, np, cp, rfl, rv7⟩, b7⟩
            have bb7 := hbA.trans (b7.mono hbA.size)
            refine hK.out _ _ (hS6 _ bb7) (fun hHeld => ?_)
            clear hK K_
            try simp only [Act.put, List.setIfInBounds_toArray, List.set_cons_zero, List.set_cons_succ]
            refine wpAnyH_here 7 (v := ?_) rfl (by kernel_rfl) (by kernel_rfl) (by kernel_rfl) (fun _ _ _ h => h) (Or.inl ⟨by rfl, ?_⟩) hHeld ?_
            rotate_left
            · intro w hSw; (try dsimp only at hSw); go_simp; all_goals (with_reducible rfl)
            try simp only [Act.put, List.setIfInBounds_toArray, List.set_cons_zero, List.set_cons_succ]
            refine wpAnyH_here 8 (v := ?_) rfl (by kernel_rfl) (by kernel_rfl) (by kernel_rfl) (fun _ _ _ h => h) (Or.inl ⟨by rfl, ?_⟩) hHeld ?_
            rotate_left
            · intro w hSw; (try dsimp only at hSw); go_simp; all_goals (with_reducible rfl)
            try simp only [Act.put, List.setIfInBounds_toArray, List.set_cons_zero, List.set_cons_succ]
            refine wpAnyH_here 9 (v := ?_) rfl (by kernel_rfl) (by kernel_rfl) (by kernel_rfl) (fun _ _ _ h => h) (Or.inl ⟨by rfl, ?_⟩) hHeld ?_
            rotate_left
            · intro w hSw; (try dsimp only at hSw); go_simp; all_goals (with_reducible rfl)
            try simp only [Act.put, List.setIfInBounds_toArray, List.set_cons_zero, List.set_cons_succ]
            refine wpAnyH_alone 10 rfl (by kernel_rfl) (fun K_ hK => ?_)
            go_simp
            obtain ⟨Y, hYe⟩ : ∃ Y, Y = w7.heap.size := ⟨_, rfl⟩
            have y8 := Cel.new w7 36 #[.int .i64 0, .int .i64 0, .int .i64 0, .slice none 0 0, .int .i64 0]
            have b8 := bel_new w7 (.cells #[.int .i64 0, .int .i64 0, .int .i64 0, .slice none 0 0, .int .i64 0] 36)
            have bb8 := bb7.trans (b8.mono bb7.size)
            have hY : w6.heap.size ≤ Y := by rw [hYe]; exact bb7.size
            have hY8 : Y < (w7.alloc (.cells #[.int .i64 0, .int .i64 0, .int .i64 0, .slice none 0 0, .int .i64 0] 36)).heap.size := by rw [hYe]; simp
            have rv8a := rv7.way1 (Y := Y) (fun x hx => Nat.lt_of_lt_of_le (HF.out x hx) hbA.size) (Nat.lt_of_lt_of_le hXl hbA.size) (by omega)
            have rv8 := rv8a.below b8
            obtain ⟨W8, hW8⟩ : ∃ W8, W8 = w7.alloc (.cells #[.int .i64 0, .int .i64 0, .int .i64 0, .slice none 0 0, .int .i64 0] 36) := ⟨_, rfl⟩
            rw [← hW8] at y8 b8 bb8 hY8 rv8 ⊢
            rw [← hYe] at y8 ⊢
            clear hW8 hYe b8 rv8a
            refine hK.out _ _ (hS6 _ bb8) (fun hHeld => ?_)
            clear hK K_
            try simp only [Act.put, List.setIfInBounds_toArray, List.set_cons_zero, List.set_cons_succ]
            refine wpAnyH_alone 11 rfl (by kernel_rfl) (fun K_ hK => ?_)
            have fc0 := y8.cell 0
            have fc1 := y8.cell 1
            have fc2 := y8.cell 2
            have fc3 := y8.cell 3
            have fc4 := y8.cell 4
            have ff0 := y8.free 0
            have ff1 := y8.free 1
            have ff2 := y8.free 2
            have ff3 := y8.free 3
            have ff4 := y8.free 4
            simp at fc0 fc1 fc2 fc3 fc4
            have p9 := put5_only W8 Y (.int .i64 (Z : Int)) (.int .i64 (R : Int)) (.int .i64 (Re : Int)) (.slice Ap np cp) (.int .i64 (Tk : Int))
            have y9 := put5_cel y8 (.int .i64 (Z : Int)) (.int .i64 (R : Int)) (.int .i64 (Re : Int)) (.slice Ap np cp) (.int .i64 (Tk : Int))
            have bb9 := bb8.trans (p9.below bb8.size (fun x hx => by obtain rfl := List.mem_singleton.1 hx; exact hY))
            have rv9 := rv8.put_ p9
            go_simp
            refine hK.out _ _ (hS6 _ bb9) (fun hHeld => ?_)
            clear hK K_
            try simp only [Act.put, List.setIfInBounds_toArray, List.set_cons_zero, List.set_cons_succ]
            refine wpAnyH_here 12 (v := ?_) rfl (by kernel_rfl) (by kernel_rfl) (by kernel_rfl) (fun _ _ _ h => h) (Or.inl ⟨by rfl, ?_⟩) hHeld ?_
            rotate_left
            · intro w hSw; (try dsimp only at hSw); go_simp; all_goals (with_reducible rfl)
            try simp only [Act.put, List.setIfInBounds_toArray, List.set_cons_zero, List.set_cons_succ]
            refine wpAnyH_done (by kernel_rfl) ?_ _
            clear hHeld ff0 ff1 ff2 ff3 ff4 fc0 fc1 fc2 fc3 fc4 hS6 hxt p9
            go_wp2
            go_meet
            case rel => exact ⟨_, _, _, _, rfl, rfl, bb9, hY, y9, rv9⟩
          · go_simp
            obtain ⟨Y, hYe⟩ : ∃ Y, Y = W6.heap.size := ⟨_, rfl⟩
            have y8 := Cel.new W6 36 #[.int .i64 0, .int .i64 0, .int .i64 0, .slice none 0 0, .int .i64 0]
            have b8 := bel_new W6 (.cells #[.int .i64 0, .int .i64 0, .int .i64 0, .slice none 0 0, .int .i64 0] 36)
            have bb8 := hbA.trans (b8.mono hbA.size)
            have hY : w6.heap.size ≤ Y := by rw [hYe]; exact hbA.size
            have hY8 : Y < (W6.alloc (.cells #[.int .i64 0, .int .i64 0, .int .i64 0, .slice none 0 0, .int .i64 0] 36)).heap.size := by rw [hYe]; simp
            have rv8a := (HP6.out.below hbA).v.way2a (Y := Y) (by omega)
            have rv8 := rv8a.below b8
            obtain ⟨W8, hW8⟩ : ∃ W8, W8 = W6.alloc (.cells #[.int .i64 0, .int .i64 0, .int .i64 0, .slice none 0 0, .int .i64 0] 36) := ⟨_, rfl⟩
            rw [← hW8] at y8 b8 bb8 hY8 rv8 ⊢
            rw [← hYe] at y8 ⊢
            clear hW8 hYe b8 rv8a
            refine hK.out _ _ (hS6 _ bb8) (fun hHeld => ?_)
            clear hK K_
            try simp only [Act.put, List.setIfInBounds_toArray, List.set_cons_zero, List.set_cons_succ]
            refine wpAnyH_alone 6 rfl (by kernel_rfl) (fun K_ hK => ?_)
            go_simp
            refine (hxt _ bb8 _ rv8).mono ?_
            rintro e w7 ⟨⟨Ap, np, cp, rfl, rv7⟩, b7⟩
            have bb7 := bb8.trans (b7.mono bb8.size)
            refine hK.out _ _ (hS6 _ bb7) (fun hHeld => ?_)
            clear hK K_
            try simp only [Act.put, List.setIfInBounds_toArray, List.set_cons_zero, List.set_cons_succ]
            have y8x := Cel.later y8 b7
            have rv7b := rv7.way2b (fun x hx => Nat.lt_of_lt_of_le (HF.out x hx) bb8.size) (Nat.lt_of_lt_of_le hXl bb8.size) hY8
            refine wpAnyH_here 7 (v := ?_) rfl (by kernel_rfl) (by kernel_rfl) (by kernel_rfl) (fun _ _ _ h => h) (Or.inl ⟨by rfl, ?_⟩) hHeld ?_
            rotate_left
            · intro w hSw; (try dsimp only at hSw); go_simp; all_goals (with_reducible rfl)
            try simp only [Act.put, List.setIfInBounds_toArray, List.set_cons_zero, List.set_cons_succ]
            refine wpAnyH_here 8 (v := ?_) rfl (by kernel_rfl) (by kernel_rfl) (by kernel_rfl) (fun _ _ _ h => h) (Or.inl ⟨by rfl, ?_⟩) hHeld ?_
            rotate_left
            · intro w hSw; (try dsimp only at hSw); go_simp; all_goals (with_reducible rfl)
            try simp only [Act.put, List.setIfInBounds_toArray, List.set_cons_zero, List.set_cons_succ]
            refine wpAnyH_here 9 (v := ?_) rfl (by kernel_rfl) (by kernel_rfl) (by kernel_rfl) (fun _ _ _ h => h) (Or.inl ⟨by rfl, ?_⟩) hHeld ?_
            rotate_left
            · intro w hSw; (try dsimp only at hSw); go_simp; all_goals (with_reducible rfl)
            try simp only [Act.put, List.setIfInBounds_toArray, List.set_cons_zero, List.set_cons_succ]
            refine wpAnyH_alone 11 rfl (by kernel_rfl) (fun K_ hK => ?_)
            have fc0 := y8x.cell 0
            have fc1 := y8x.cell 1
            have fc2 := y8x.cell 2
            have fc3 := y8x.cell 3
            have fc4 := y8x.cell 4
            have ff0 := y8x.free 0
            have ff1 := y8x.free 1
            have ff2 := y8x.free 2
            have ff3 := y8x.free 3
            have ff4 := y8x.free 4
            simp at fc0 fc1 fc2 fc3 fc4
            have p9 := put5_only w7 Y (.int .i64 (Z : Int)) (.int .i64 (R : Int)) (.int .i64 (Re : Int)) (.slice Ap np cp) (.int .i64 (Tk : Int))
            have y9 := put5_cel y8x (.int .i64 (Z : Int)) (.int .i64 (R : Int)) (.int .i64 (Re : Int)) (.slice Ap np cp) (.int .i64 (Tk : Int))
            have bb9 := bb7.trans (p9.below bb7.size (fun x hx => by obtain rfl := List.mem_singleton.1 hx; exact hY))
            have rv9 := rv7b.put_ p9
            go_simp
            refine hK.out _ _ (hS6 _ bb9) (fun hHeld => ?_)
            clear hK K_
            try simp only [Act.put, List.setIfInBounds_toArray, List.set_cons_zero, List.set_cons_succ]
            refine wpAnyH_here 12 (v := ?_) rfl (by kernel_rfl) (by kernel_rfl) (by kernel_rfl) (fun _ _ _ h => h) (Or.inl ⟨by rfl, ?_⟩) hHeld ?_
            rotate_left
            · intro w hSw; (try dsimp only at hSw); go_simp; all_goals (with_reducible rfl)
            try simp only [Act.put, List.setIfInBounds_toArray, List.set_cons_zero, List.set_cons_succ]
            refine wpAnyH_done (by kernel_rfl) ?_ _
            clear hHeld ff0 ff1 ff2 ff3 ff4 fc0 fc1 fc2 fc3 fc4 hS6 hxt p9
            go_wp2
            go_meet
            case rel => exact ⟨_, _, _, _, rfl, rfl, bb9, hY, y9, rv9⟩
        case rest =>
          obtain ⟨Y, Ap, np, cp, rfl, rfl, bx, hY, yc, rvx⟩ := hcut
          clear hX0 hX1 hX2 hX3 hX4 hS6 hxt rd6 hXl hbl HF HE HC
          have j6 : (E != E) = false := by simp
          have Px := HP6.out.below bx
          clear HP6 bx
          have x0 := Px.x

          have fc0 := x0.cell 0
          have ff0 := x0.free 0
          have yy0 := yc.cell 0
          have fc1 := x0.cell 1
          have ff1 := x0.free 1
          have yy1 := yc.cell 1
          have fc2 := x0.cell 2
          have ff2 := x0.free 2
          have yy2 := yc.cell 2
          have fc3 := x0.cell 3
          have ff3 := x0.free 3
          have yy3 := yc.cell 3
          have fc4 := x0.cell 4
          have ff4 := x0.free 4
          have yy4 := yc.cell 4
          simp at fc0 fc1 fc2 fc3 fc4 yy0 yy1 yy2 yy3 yy4
          have k9 := put5_only wc X (.int .i64 (Z : Int)) (.int .i64 (R : Int)) (.int .i64 (Re : Int)) (.slice Ap np cp) (.int .i64 (Tk : Int))
          have Pn := Px.store rvx
          obtain ⟨wn, hwn⟩ : ∃ wn, wn = (((((wc.setCell ⟨X, 0, none⟩ (.int .i64 (Z : Int))).setCell ⟨X, 1, none⟩ (.int .i64 (R : Int))).setCell ⟨X, 2, none⟩ (.int .i64 (Re : Int))).setCell ⟨X, 3, none⟩ (.slice Ap np cp)).setCell ⟨X, 4, none⟩ (.int .i64 (Tk : Int))) := ⟨_, rfl⟩
          have hwn' : (put5 wc X (.int .i64 (Z : Int)) (.int .i64 (R : Int)) (.int .i64 (Re : Int)) (.slice Ap np cp) (.int .i64 (Tk : Int))) = wn := by rw [hwn]; rfl
          rw [hwn'] at Pn
          clear hwn' k9 rvx
          have HPn := Lib.hid Pn
          clear Pn Px
          go_upto_region 14 with fail
          rw [← hwn]
          clear hwn fc0 fc1 fc2 fc3 fc4 ff0 ff1 ff2 ff3 ff4 yy0 yy1 yy2 yy3 yy4 x0 yc
          clear hY
          go_upto_region 21 with fail
          have Pn := HPn.out
          have e0 := Pn.x.cell 0
          have e1 := Pn.x.cell 1
          have e2 := Pn.x.cell 2
          have e3 := Pn.x.cell 3
          have e4 := Pn.x.cell 4
          simp at e0 e1 e2 e3 e4
          have hXn := Pn.x.lt
          have d0 : ∀ q : Later wn, q.W.cell? ⟨X, 0, none⟩ = some (.int .i64 (Z : Int)) := later_cell e0 hXn
          have d1 : ∀ q : Later wn, q.W.cell? ⟨X, 1, none⟩ = some (.int .i64 (R : Int)) := later_cell e1 hXn
          have d2 : ∀ q : Later wn, q.W.cell? ⟨X, 2, none⟩ = some (.int .i64 (Re : Int)) := later_cell e2 hXn
          have d3 : ∀ q : Later wn, q.W.cell? ⟨X, 3, none⟩ = some (.slice Ap np cp) := later_cell e3 hXn
          have d4 : ∀ q : Later wn, q.W.cell? ⟨X, 4, none⟩ = some (.int .i64 (Tk : Int)) := later_cell e4 hXn
          obtain ⟨m, hm⟩ : ∃ m, s2.wt.length = m := ⟨_, rfl⟩
          obtain ⟨br, hbr⟩ : ∃ br, rdy Z s2 = br := ⟨_, rfl⟩
          have v1 : ∀ q : Later wn, Calls Try.prog 11 #[.pointer (some ⟨g, 0, none⟩)] q.W fun e w' => e = .returned (.int .i64 (m : Int)) ∧ q.W = w' := fun q => (HPn.out.below q.h).pl.left hm
          have v2 : ∀ q : Later wn, Calls Try.prog 20 #[.agg #[.int .i64 (Z : Int), .int .i64 (R : Int), .int .i64 (Re : Int), .slice Ap np cp, .int .i64 (Tk : Int)]] q.W fun e w' => e = .returned (.int .i64 (m : Int)) ∧ Below q.W.heap.size q.W w' := fun q => (HPn.out.below q.h).v.xleft (Z : Int) hm
          have v3 : ∀ q : Later wn, Calls Try.prog 12 #[.pointer (some ⟨g, 0, none⟩)] q.W fun e w' => e = .returned (.bool br) ∧ Below q.W.heap.size q.W w' := fun q => (HPn.out.below q.h).pl.ready hbr
          have v4 : ∀ q : Later wn, Calls Try.prog 21 #[.agg #[.int .i64 (Z : Int), .int .i64 (R : Int), .int .i64 (Re : Int), .slice Ap np cp, .int .i64 (Tk : Int)]] q.W fun e w' => e = .returned (.bool br) ∧ Below q.W.heap.size q.W w' := fun q => by
            have x := (HPn.out.below q.h).v.xready Z
            rw [hbr] at x
            exact x
          have j1 : ((m : Int) != (m : Int)) = false := by simp
          have j2 : (br != br) = false := by simp
          clear hm hbr Pn e0 e1 e2 e3 e4 hXn
          refine wp_region_later (by kernel_rfl) (by kernel_rfl) ?_
          repeat (go_big_quiet_step ((first
            | (go_at_call 11; exact later_same (v1 _))
            | (go_at_call 20; exact later_of (v2 _))
            | (go_at_call 12; exact later_of (v3 _))
            | (go_at_call 21; exact later_of (v4 _)))))
          refine wpQuiet_nil ?_
          rintro _ ⟨⟨w10, b10⟩, rfl⟩
          have P10 := HPn.out.below b10
          have t2 := HK.out _ P10.pl.b

          clear v1 v2 v3 v4 d0 d1 d2 d3 d4 j1 j2 HPn
          cases cpy with
          | false =>
            have HP := Lib.hid P10
            clear P10
            go_wp2
            go_roundw
            case rel => exact ⟨k + 1, g, _, _, _, _, _, _, _, hkN, rfl, by go_num, HP.out⟩
            case measure => simp [intOf]; omega
          | true =>
            have hcl := P10.clone1
            clear P10
            go_wp2_with fail
            refine hcl.mono ?_
            rintro e w11 ⟨q, Fq, rfl, Q11⟩
            clear hcl t2
            go_wp2_with fail
            refine (x4 _).mono ?_
            rintro e w12 ⟨v12, rfl, o12, b12⟩
            obtain ⟨Ax, cx, rfl, rx12⟩ := Rd.of o12 (pkE_len (by decide) (by decide))
            have hpu := (Q11.below b12).push rx12
            clear Q11 o12 b12 rx12
            go_wp2_with fail
            refine hpu.mono ?_
            rintro e w13 ⟨E13, G13, t13, rfl, Q13⟩
            have hne := Q13.next
            clear hpu Q13
            go_wp2_with fail
            refine hne.mono ?_
            rintro e w14 ⟨Au, Nu, cu, Pu, bu, G14, t14, rfl, Q14⟩
            have HP := Lib.hid Q14.drop
            clear hne Q14
            go_wp2
            go_roundw
            case rel => exact ⟨k + 1, q, _, _, _, _, _, _, _, hkN, rfl, by go_num, HP.out⟩
            case measure => simp [intOf]; omega
      | false =>
        obtain ⟨Q, hQ⟩ : ∃ Q, nq Z s = Q := ⟨_, rfl⟩
        obtain ⟨P, fl, ok, s2⟩ := Q
        obtain ⟨L, hL⟩ : ∃ L, fl.length = L := ⟨_, rfl⟩
        have hp := P0.next1 hQ hL
        have HQ := Lib.hid (And.intro hQ hL)
        clear hQ hL P0 t1
        go_wp2_with fail
        refine hp.mono ?_
        rintro e w6 ⟨Au, cu, F6, rfl, rb6, P6⟩
        clear hp t0
        have hX0 := P6.x.cell 0
        have hX1 := P6.x.cell 1
        have hX2 := P6.x.cell 2
        have hX3 := P6.x.cell 3
        have hX4 := P6.x.cell 4
        simp at hX0 hX1 hX2 hX3 hX4
        have hn := P6.v.nextq HZ.out HQ.out.1 HQ.out.2
        have HP6 := Lib.hid P6
        clear P6
        go_wp2_with fail
        refine hn.mono ?_
        rintro e w7 ⟨Re2, Ap, np, cp, Tk2, Av, cv, rfl, rv7, rc7, b7⟩
        have P7 := HP6.out.below b7
        have rb7 := rb6.later b7
        clear hn HP6 hX0 hX1 hX2 hX3 hX4 rb6
        obtain ⟨Y, hYe⟩ : ∃ Y, Y = w7.heap.size := ⟨_, rfl⟩
        obtain ⟨w8, hw8⟩ : ∃ w8, w8 = w7.alloc (.cells #[.int .i64 (Z : Int), .int .i64 (R : Int), .int .i64 (Re2 : Int), .slice Ap np cp, .int .i64 (Tk2 : Int)] 36) := ⟨_, rfl⟩
        have y8 : Cel w8 Y 36 #[.int .i64 (Z : Int), .int .i64 (R : Int), .int .i64 (Re2 : Int), .slice Ap np cp, .int .i64 (Tk2 : Int)] := by rw [hw8, hYe]; exact Cel.new _ _ _
        have b8 : Below w7.heap.size w7 w8 := by rw [hw8]; exact bel_new _ _
        have P8 := P7.below b8
        have rvx := rv7.below b8
        have rb8 := rb7.later b8
        have rc8 := rc7.later b8
        clear P7 rv7 rb7 rc7 b7 b8
        go_upto_region 18 with fail
        rw [← hw8, ← hYe]
        clear hw8 hYe
        have x0 := P8.x

        have fc0 := x0.cell 0
        have ff0 := x0.free 0
        have yy0 := y8.cell 0
        have fc1 := x0.cell 1
        have ff1 := x0.free 1
        have yy1 := y8.cell 1
        have fc2 := x0.cell 2
        have ff2 := x0.free 2
        have yy2 := y8.cell 2
        have fc3 := x0.cell 3
        have ff3 := x0.free 3
        have yy3 := y8.cell 3
        have fc4 := x0.cell 4
        have ff4 := x0.free 4
        have yy4 := y8.cell 4
        simp at fc0 fc1 fc2 fc3 fc4 yy0 yy1 yy2 yy3 yy4
        have k9 := put5_only w8 X (.int .i64 (Z : Int)) (.int .i64 (R : Int)) (.int .i64 (Re2 : Int)) (.slice Ap np cp) (.int .i64 (Tk2 : Int))
        have Pn := P8.store rvx
        have r9 := Rd.offc x0 (pk_no _ _ _ _ _ _ _) rb8 k9
        have r9x := Rd.offc x0 (pk_no _ _ _ _ _ _ _) rc8 k9
        obtain ⟨wn, hwn⟩ : ∃ wn, wn = (((((w8.setCell ⟨X, 0, none⟩ (.int .i64 (Z : Int))).setCell ⟨X, 1, none⟩ (.int .i64 (R : Int))).setCell ⟨X, 2, none⟩ (.int .i64 (Re2 : Int))).setCell ⟨X, 3, none⟩ (.slice Ap np cp)).setCell ⟨X, 4, none⟩ (.int .i64 (Tk2 : Int))) := ⟨_, rfl⟩
        have hwn' : (put5 w8 X (.int .i64 (Z : Int)) (.int .i64 (R : Int)) (.int .i64 (Re2 : Int)) (.slice Ap np cp) (.int .i64 (Tk2 : Int))) = wn := by rw [hwn]; rfl
        rw [hwn'] at Pn r9 r9x
        clear hwn' k9 rvx
        have HPn := Lib.hid Pn
        clear Pn P8
        go_upto_region 19 with fail
        rw [← hwn]
        clear hwn fc0 fc1 fc2 fc3 fc4 ff0 ff1 ff2 ff3 ff4 yy0 yy1 yy2 yy3 yy4 x0 y8
        have z1 := Rd.conv r9 (Below.refl _ _)
        have z2 := Rd.conv r9x (Below.refl _ _)
        have e1 : ((str fl).toList != (str fl).toList) = false := by simp
        have e2 : ((P : Int) != (P : Int)) = false := by simp
        have e3 : (ok != ok) = false := by simp
        clear r9 r9x rb8 rc8
        go_upto_region 21 with fail
        clear z1 z2 e1 e2 e3
        have Pn := HPn.out
        have e0 := Pn.x.cell 0
        have e1 := Pn.x.cell 1
        have e2 := Pn.x.cell 2
        have e3 := Pn.x.cell 3
        have e4 := Pn.x.cell 4
        simp at e0 e1 e2 e3 e4
        have hXn := Pn.x.lt
        have d0 : ∀ q : Later wn, q.W.cell? ⟨X, 0, none⟩ = some (.int .i64 (Z : Int)) := later_cell e0 hXn
        have d1 : ∀ q : Later wn, q.W.cell? ⟨X, 1, none⟩ = some (.int .i64 (R : Int)) := later_cell e1 hXn
        have d2 : ∀ q : Later wn, q.W.cell? ⟨X, 2, none⟩ = some (.int .i64 (Re2 : Int)) := later_cell e2 hXn
        have d3 : ∀ q : Later wn, q.W.cell? ⟨X, 3, none⟩ = some (.slice Ap np cp) := later_cell e3 hXn
        have d4 : ∀ q : Later wn, q.W.cell? ⟨X, 4, none⟩ = some (.int .i64 (Tk2 : Int)) := later_cell e4 hXn
        obtain ⟨m, hm⟩ : ∃ m, s2.wt.length = m := ⟨_, rfl⟩
        obtain ⟨br, hbr⟩ : ∃ br, rdy Z s2 = br := ⟨_, rfl⟩
        have v1 : ∀ q : Later wn, Calls Try.prog 11 #[.pointer (some ⟨g, 0, none⟩)] q.W fun e w' => e = .returned (.int .i64 (m : Int)) ∧ q.W = w' := fun q => (HPn.out.below q.h).pl.left hm
        have v2 : ∀ q : Later wn, Calls Try.prog 20 #[.agg #[.int .i64 (Z : Int), .int .i64 (R : Int), .int .i64 (Re2 : Int), .slice Ap np cp, .int .i64 (Tk2 : Int)]] q.W fun e w' => e = .returned (.int .i64 (m : Int)) ∧ Below q.W.heap.size q.W w' := fun q => (HPn.out.below q.h).v.xleft (Z : Int) hm
        have v3 : ∀ q : Later wn, Calls Try.prog 12 #[.pointer (some ⟨g, 0, none⟩)] q.W fun e w' => e = .returned (.bool br) ∧ Below q.W.heap.size q.W w' := fun q => (HPn.out.below q.h).pl.ready hbr
        have v4 : ∀ q : Later wn, Calls Try.prog 21 #[.agg #[.int .i64 (Z : Int), .int .i64 (R : Int), .int .i64 (Re2 : Int), .slice Ap np cp, .int .i64 (Tk2 : Int)]] q.W fun e w' => e = .returned (.bool br) ∧ Below q.W.heap.size q.W w' := fun q => by
          have x := (HPn.out.below q.h).v.xready Z
          rw [hbr] at x
          exact x
        have j1 : ((m : Int) != (m : Int)) = false := by simp
        have j2 : (br != br) = false := by simp
        clear hm hbr Pn e0 e1 e2 e3 e4 hXn
        refine wp_region_later (by kernel_rfl) (by kernel_rfl) ?_
        repeat (go_big_quiet_step ((first
          | (go_at_call 11; exact later_same (v1 _))
          | (go_at_call 20; exact later_of (v2 _))
          | (go_at_call 12; exact later_of (v3 _))
          | (go_at_call 21; exact later_of (v4 _)))))
        refine wpQuiet_nil ?_
        rintro _ ⟨⟨w10, b10⟩, rfl⟩
        have P10 := HPn.out.below b10
        have t2 := HK.out _ P10.pl.b

        clear v1 v2 v3 v4 d0 d1 d2 d3 d4 j1 j2 HPn
        cases cpy with
        | false =>
          have HP := Lib.hid P10
          clear P10
          go_wp2
          go_roundw
          case rel => exact ⟨k + 1, g, _, _, _, _, _, _, _, hkN, rfl, by go_num, HP.out⟩
          case measure => simp [intOf]; omega
        | true =>
          have hcl := P10.clone1
          clear P10
          go_wp2_with fail
          refine hcl.mono ?_
          rintro e w11 ⟨q, Fq, rfl, Q11⟩
          clear hcl t2
          go_wp2_with fail
          refine (x4 _).mono ?_
          rintro e w12 ⟨v12, rfl, o12, b12⟩
          obtain ⟨Ax, cx, rfl, rx12⟩ := Rd.of o12 (pkE_len (by decide) (by decide))
          have hpu := (Q11.below b12).push rx12
          clear Q11 o12 b12 rx12
          go_wp2_with fail
          refine hpu.mono ?_
          rintro e w13 ⟨E13, G13, t13, rfl, Q13⟩
          have hne := Q13.next
          clear hpu Q13
          go_wp2_with fail
          refine hne.mono ?_
          rintro e w14 ⟨Au, Nu, cu, Pu, bu, G14, t14, rfl, Q14⟩
          have HP := Lib.hid Q14.drop
          clear hne Q14
          go_wp2
          go_roundw
          case rel => exact ⟨k + 1, q, _, _, _, _, _, _, _, hkN, rfl, by go_num, HP.out⟩
          case measure => simp [intOf]; omega
    · obtain rfl : k = N := by omega
      have HP := Lib.hid P0
      clear P0 hkN
      go_wp2_with fail
      refine (alive19_any wr).mono ?_
      rintro e w6 ⟨rfl, b6⟩
      go_wp2
      go_ret
      exact ⟨rfl, (HP.out.below b6).pl.b⟩

theorem packerPlays_walk (z r : Int) (A : Option Addr) (N cap : Nat) (l : List O19) (w : World) (hN : l.length = N) (hm : N ≤ maxLen) (hps : Ops19 w A l) :
    Calls Try.prog 3 #[.int .i64 z, .int .i64 r, .slice A N cap] w fun e w' => e = .returned (.bool true) ∧ Below w.heap.size w w' := by
  by_cases hz : 1 ≤ z ∧ z ≤ 1012
  · obtain ⟨Z, rfl⟩ : ∃ Z : Nat, z = (Z : Int) := ⟨z.toNat, by omega⟩
    exact packerPlays_good Z (by omega) (by omega) r A N cap l w (Lib.hid hN) hm hps
  · exact packerPlays_bad z r A N cap w hz
end Go.Proofs.Ytjjjlgaidklokaa.Pkr
