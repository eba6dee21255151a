/-
  Package source: takeAckEof, takeNak, takeFinished.
-/
import Derived.Test.YtaaikmncdgfkmaaSrcW3
import Derived.Test.YtaaikmncdgfkmaaRngW6
namespace Go.Proofs.Ytaaikmncdgfkmaa.Src
open Go.RowKit
open Go.Proofs.Ytaaikmncdgfkmaa.Pdu (Pd Gx Bx Px)
open Go.Proofs.Ytaaikmncdgfkmaa.Rng (R)
open Go.Proofs.Ytaaikmncdgfkmaa.Fsm (ps)
section
variable {K : Kc} {s : SS} {A : Option Addr} {n c : Nat} {g : Nat} {w : World}
set_option maxHeartbeats 2000000 in
theorem sackeof_any (h : FX w g K s A n c) :
    Calls Try.prog 35 #[.pointer (some ⟨g, 0, none⟩)] w fun e w' => e = .returned (.int .i64 (aeO s)) ∧ FX w' g K (aeS s) A n c ∧ Only [g] w w' := by
  have c8 := h.cel.c8
  unfold aeO aeS
  by_cases h1 : s.ph = 1
  · rw [if_pos h1, if_neg (by omega)]
    have HE := Lib.hid (And.intro h (Only.refl [g] w))
    rw [h1] at c8
    clear h1 h
    go_enter Try.func35, Try.ntmps35
    go_wp2
    go_ret
    exact ⟨rfl, HE.out⟩
  rw [if_neg h1]
  by_cases h2 : s.ph = 2
  · rw [if_pos h2]
    have c15 := h.cel.c15
    have f15 := h.cel.free 15
    have HE := Lib.hid (And.intro (FX.mk (h.cel.ea true) (h.q.keep (h.cel.kr_put 15 _))) (put_only w g 15 (.bool true)))
    rw [h2] at c8
    clear h1 h2 h
    go_enter Try.func35, Try.ntmps35
    go_wp2
    go_ret
    exact ⟨rfl, HE.out⟩
  · rw [if_neg h2]
    have HE := Lib.hid (And.intro h (Only.refl [g] w))
    obtain ⟨ph, hph⟩ : ∃ ph, ph = s.ph := ⟨_, rfl⟩
    rw [← hph] at c8 h1 h2
    have z1 : (ph == 1) = false := by simpa using h1
    have z2 : (ph == 2) = false := by simpa using h2
    clear h1 h2 hph h
    go_enter Try.func35, Try.ntmps35
    go_wp2
    go_ret
    exact ⟨rfl, HE.out⟩
set_option maxHeartbeats 2000000 in
theorem sfin_any (h : FX w g K s A n c) (x : Int) :
    Calls Try.prog 37 #[.pointer (some ⟨g, 0, none⟩), .int .i64 x] w fun e w' => e = .returned (.tuple #[]) ∧ FW w' g K (fiS x s) ∧ Only [g] w w' := by
  have c8 := h.cel.c8
  unfold fiS
  by_cases h1 : s.ph = 3
  · rw [if_pos h1]
    have HE := Lib.hid (And.intro h (Only.refl [g] w))
    rw [h1] at c8
    clear h1 h
    go_enter Try.func37, Try.ntmps37
    go_wp2
    refine bodyPost_ret (results_none rfl _ _ _) rfl ?_
    exact ⟨rfl, ⟨_, _, _, HE.out.1⟩, HE.out.2⟩
  rw [if_neg h1]
  have c16 := h.cel.c16
  have f16 := h.cel.free 16
  have x1 := FX.mk (h.cel.ad true) (h.q.keep (h.cel.kr_put 16 _))
  have o1 := put_only w g 16 (.bool true)
  obtain ⟨ph, hph⟩ : ∃ ph, ph = s.ph := ⟨_, rfl⟩
  rw [← hph] at c8 h1
  have z1 : (ph == 3) = false := by simpa using h1
  obtain ⟨W1, hW1⟩ : ∃ W1, W1 = w.setCell ⟨g, 16, none⟩ (.bool true) := ⟨_, rfl⟩
  rw [← hW1] at x1 o1
  have hop := sopen_any x1.cel
  have eop : SS.opn { s with ad := true } = s.opn := rfl
  rw [eop] at hop
  by_cases h2 : s.opn = true
  · rw [if_pos h2]
    rw [h2] at hop
    have d8 := x1.cel.c8
    have g8 := x1.cel.free 8
    have x2 := FX.mk (x1.cel.ph 3) (x1.q.keep (x1.cel.kr_put 8 _))
    have o2 := only_then o1 (put_only W1 g 8 (.int .i64 3))
    obtain ⟨W2, hW2⟩ : ∃ W2, W2 = W1.setCell ⟨g, 8, none⟩ (.int .i64 3) := ⟨_, rfl⟩
    rw [← hW2] at x2 o2
    have d10 := x2.cel.c10
    have g10 := x2.cel.free 10
    have x3 := FX.mk (x2.cel.co x) (x2.q.keep (x2.cel.kr_put 10 _))
    have o3 := only_then o2 (put_only W2 g 10 (.int .i64 x))
    obtain ⟨W3, hW3⟩ : ∃ W3, W3 = W2.setCell ⟨g, 10, none⟩ (.int .i64 x) := ⟨_, rfl⟩
    rw [← hW3] at x3 o3
    have hfo := sforget_any x3
    dsimp only at d8 d10
    clear h h1 h2 x1 x2 o1 o2 eop hph
    go_enter Try.func37, Try.ntmps37
    go_upto_region 2 with fail
    rw [← hW1]
    clear hW1 c8 c16 f16
    go_wp2_with fail
    refine hop.mono ?_
    rintro e w1 ⟨rfl, rfl⟩
    clear hop
    go_upto_region 4 with fail
    rw [← hW2]
    clear hW2 d8 g8
    go_upto_region 5 with fail
    rw [← hW3]
    clear hW3 d10 g10
    go_wp2_with fail
    refine hfo.mono ?_
    rintro e w4 ⟨rfl, x4, k4⟩
    have HE := Lib.hid (And.intro x4 (only_then o3 k4))
    clear x4 k4 o3 x3 hfo
    go_wp2
    go_end0
    exact ⟨rfl, ⟨_, _, _, HE.out.1⟩, HE.out.2⟩
  · rw [if_neg h2]
    have h2 : s.opn = false := by simpa using h2
    rw [h2] at hop
    have HE := Lib.hid (And.intro x1 o1)
    clear h h1 h2 x1 o1 eop hph
    go_enter Try.func37, Try.ntmps37
    go_upto_region 2 with fail
    rw [← hW1]
    clear hW1 c8 c16 f16
    go_wp2_with fail
    refine hop.mono ?_
    rintro e w1 ⟨rfl, rfl⟩
    clear hop
    go_wp2
    go_end0
    exact ⟨rfl, ⟨_, _, _, HE.out.1⟩, HE.out.2⟩

/-! ### takeNak -/
theorem add_at {V W : World} {l : List R} {A : Option Addr} {n c : Nat} (x y : Int) (h : Gq W l A n c) (q : Below W.heap.size W V) (hl : l.length ≤ 100000) :
    Calls Try.prog 52 #[.slice A n c, .agg #[.int .i64 x, .int .i64 y]] V fun e w' => ∃ v, e = .returned v ∧ Rng.Os w' V.heap.size 62 v (Rng.add l (x, y)) ∧ Below V.heap.size V w' := by
  have e := h.len
  subst e
  exact Rng.add_any l x y V A c ((h.below q).rs) h.nil (by omega)
/-- the address leads into another block than g -/
def Off (A : Option Addr) (g : Nat) : Prop := ∀ b off, A = some ⟨b, off, none⟩ → b ≠ g
theorem Gx.at2 {w w' : World} {G : Option Addr} {l : List R} {n c g : Nat} (h : Gx w G l n c) (ho : Off G g) (k : Only [g] w w') {i : Nat} {x : R} (hx : l[i]? = some x) : ∃ b off, G = some ⟨b, off, none⟩ ∧ w'.cell? ⟨b, off + i * 2, none⟩ = some (.int .i64 x.1) ∧ w'.cell? ⟨b, off + i * 2 + 1, none⟩ = some (.int .i64 x.2) := by
  obtain ⟨b, off, e, hb, h1, h2⟩ := h.at_ hx
  exact ⟨b, off, e, cell_only k hb (ho b off e) h1, cell_only k hb (ho b off e) h2⟩
def nkF (ga : List R) (s : SS) (k : Nat) : SS := { s with mr := ((ga.take k).foldl nk1 (s.mr, s.rq)).1, rq := ((ga.take k).foldl nk1 (s.mr, s.rq)).2 }
theorem nkF_next {ga : List R} {s : SS} {k : Nat} {x : R} (hx : ga[k]? = some x) : nkF ga s (k + 1) = { nkF ga s k with mr := (nk1 ((nkF ga s k).mr, (nkF ga s k).rq) x).1, rq := (nk1 ((nkF ga s k).mr, (nkF ga s k).rq) x).2 } := by
  unfold nkF
  rw [List.take_add_one, hx, List.foldl_append]
  rfl
theorem nk_len (ga : List R) (p : Bool × List R) : (ga.foldl nk1 p).2.length ≤ p.2.length + ga.length := by
  induction ga generalizing p with
  | nil => simp
  | cons x ga ih =>
    rw [List.foldl_cons]
    have h1 := ih (nk1 p x)
    have h2 : (nk1 p x).2.length ≤ p.2.length + 1 := by
      unfold nk1
      split
      · simp
      · exact Rng.add_length _ _
    simp only [List.length_cons]
    omega
theorem nkF_len (ga : List R) (s : SS) (k : Nat) : (nkF ga s k).rq.length ≤ s.rq.length + ga.length := by
  have h1 := nk_len (ga.take k) (s.mr, s.rq)
  dsimp only at h1
  have h3 : (ga.take k).length ≤ ga.length := by rw [List.length_take]; omega
  show ((ga.take k).foldl nk1 (s.mr, s.rq)).2.length ≤ _
  omega
theorem lst_get {ga : List R} {m : Nat} (h : ga.length = m + 1) : ∃ x, ga[m]? = some x ∧ lstTo ga = x.2 := by
  obtain ⟨x, hx⟩ : ∃ x, ga[m]? = some x := ⟨_, List.getElem?_eq_getElem (by omega)⟩
  refine ⟨x, hx, ?_⟩
  unfold lstTo
  rw [List.getLast?_eq_getElem?, h, Nat.add_sub_cancel, hx]
theorem small_wrap {m : Nat} (h : m ≤ 1000) : wrap64 (m : Int) = (m : Int) ∧ IntKind.i64.wrap (m : Int) = (m : Int) ∧ (m : Int) < (m : Int) + 1 := ⟨wr64 (by omega) (by omega), i64_in (by omega) (by omega), by omega⟩
set_option maxRecDepth 100000 in
set_option maxHeartbeats 4000000 in
theorem snak_any (h : FX w g K s A n c) (hK0 : K.Ok) (ok : s.Ok K) (ga : List R) (G : Option Addr) (m a : Nat) (hg : Gx w G ga (m + 1) a) (ho : Off G g) (hv : Pdu.vga ga = true) :
    Calls Try.prog 36 #[.pointer (some ⟨g, 0, none⟩), .slice G (m + 1) a] w fun e w' => e = .returned (.int .i64 (naO K ga)) ∧ FW w' g K (naS K ga s) ∧ Only [g] w w' := by
  have hz := str_len K.da
  have c4 := h.cel.c4
  obtain ⟨x, hx, hl⟩ := lst_get hg.len
  obtain ⟨b, off, rfl, _, _, r1⟩ := hg.at_ hx
  have hd := hK0.d
  have hm := hg.len
  have hv1 : ga.length ≤ 16 := by
    unfold Pdu.vga at hv
    rw [Bool.and_eq_true] at hv
    exact (of_decide_eq_true hv.1).2
  obtain ⟨D, hD⟩ : ∃ D, D = K.da.length := ⟨_, rfl⟩
  obtain ⟨L, hL⟩ : ∃ L, L = x.2 := ⟨_, rfl⟩
  have HM := Lib.hid (show m ≤ 1000 by omega)
  unfold naO naS
  rw [← hD] at hz
  rw [hl, ← hL, ← hD]
  rw [← hL] at r1
  by_cases h1 : (D : Int) < L
  · rw [if_pos h1, if_pos (.inl h1)]
    have HE := Lib.hid h
    have z1 : decide ((D : Int) < L) = true := decide_eq_true h1
    clear h hg ho hv hD hL hl hx hd hm hv1 h1
    obtain ⟨y1, y2, y3⟩ := small_wrap HM.out
    go_enter Try.func36, Try.ntmps36
    go_upto_region 1 with fail
    go_region
    clear y1 y2 y3 z1 r1 c4
    go_wp2
    go_ret
    exact ⟨rfl, ⟨_, _, _, HE.out.below ⟨rfl, rfl, rfl, Nat.le_refl _, fun _ _ => rfl⟩⟩, Only.of_below ⟨rfl, rfl, rfl, Nat.le_refl _, fun _ _ => rfl⟩⟩
  rw [if_neg h1]
  have z1 : decide ((D : Int) < L) = false := decide_eq_false h1
  have hd1 : Below w.heap.size w w.drew := ⟨rfl, rfl, rfl, Nat.le_refl _, fun _ _ => rfl⟩
  have x1 := h.below hd1
  have o1 : Only [g] w w.drew := Only.of_below hd1
  obtain ⟨W1, hW1⟩ : ∃ W1, W1 = w.drew := ⟨_, rfl⟩
  rw [← hW1] at x1 o1
  have hop := sopen_any x1.cel
  by_cases h2 : s.opn = false
  · rw [if_pos (.inr h2)]
    rw [h2] at hop
    have HE := Lib.hid (And.intro x1 o1)
    clear h hg ho hv hD hL hl hx hd hm hv1 h1 h2 x1 o1 hd1
    obtain ⟨y1, y2, y3⟩ := small_wrap HM.out
    go_enter Try.func36, Try.ntmps36
    go_upto_region 1 with fail
    go_region
    go_upto_region 3 with fail
    rw [← hW1]
    clear hW1 r1 c4 y1 y2 y3 z1
    go_wp2_with fail
    refine hop.mono ?_
    rintro e w2 ⟨rfl, rfl⟩
    go_wp2
    go_ret
    exact ⟨rfl, ⟨_, _, _, HE.out.1⟩, HE.out.2⟩
  rw [if_neg (by simp only [h1, h2]; simp)]
  have h2 : s.opn = true := by simpa using h2
  rw [h2] at hop
  have hgin : Gin K.da.length ga := vga_gin hv (by rw [hl, ← hL, ← hD]; exact h1)
  have hnl0 := Win.len ok.can ok.win
  have HK := Lib.hid (And.intro hg (And.intro ho (And.intro hm (And.intro hv1 (And.intro hgin (And.intro hd (And.intro hD hnl0)))))))
  have HX := Lib.hid (And.intro x1 o1)
  have HN := Lib.hid ok
  clear h hg ho hv hD hL hl hx hd hm hv1 h1 h2 x1 o1 hd1 hgin hnl0 ok
  obtain ⟨y1, y2, y3⟩ := small_wrap HM.out
  go_enter Try.func36, Try.ntmps36
  go_upto_region 1 with fail
  go_region
  go_upto_region 3 with fail
  rw [← hW1]
  clear hW1 r1 c4 y1 y2 y3 z1
  go_wp2_with fail
  refine hop.mono ?_
  rintro e w2 ⟨rfl, rfl⟩
  clear hop hz
  go_wp2_with fail
  go_loopw [25] (fun i wr => ∃ k : Nat, k ≤ m + 1 ∧ i = .int .i64 k ∧ ∃ A' n' c', FX wr g K (nkF ga s k) A' n' c' ∧ Only [g] w wr)
    (fun i _ => m + 1 - (intOf i).toNat)
  case atStart => exact ⟨0, Nat.zero_le _, rfl, _, _, _, HX.out.1, HX.out.2⟩
  case round =>
    obtain ⟨k, hk, rfl, A', n', c', x3, o3⟩ := hrel
    by_cases hlt : k < m + 1
    · obtain ⟨hg, ho, hm, hv1, hgin, hd, hD, hnl0⟩ := HK.out
      obtain ⟨⟨p1, p2⟩, hp⟩ : ∃ z, ga[k]? = some z := ⟨_, List.getElem?_eq_getElem (by omega)⟩
      obtain ⟨b', off', hb', r0, r1⟩ := Gx.at2 hg ho o3 hp
      injection hb' with hb'
      injection hb' with hb1 hb2
      subst hb1 hb2
      have hin := hgin _ (List.mem_of_getElem? hp)
      have hnx := nkF_next (s := s) hp
      have hq := Cel.new wr 62 #[.int .i64 p1, .int .i64 p2]
      have hbx := bel_new wr (.cells #[.int .i64 p1, .int .i64 p2] 62)
      have x7 := x3.below hbx
      have o7 := o3.trans (Only.of_below (S := []) hbx) (by simp)
      have hqg : wr.heap.size ≠ g := by have := x3.cel.lt; omega
      have hm9 := HM.out
      have hlt' : (k : Int) < (m : Int) + 1 := by omega
      obtain ⟨q, hqe⟩ : ∃ q, q = wr.heap.size := ⟨_, rfl⟩
      obtain ⟨Wb, hWb⟩ : ∃ Wb, Wb = wr.alloc (.cells #[.int .i64 p1, .int .i64 p2] 62) := ⟨_, rfl⟩
      rw [← hWb] at x7 o7 hq
      dsimp only at r0 r1 hin
      have hqW := hq
      rw [← hqe] at hq hqg
      by_cases h0 : p1 = 0 ∧ p2 = 0
      · obtain ⟨rfl, rfl⟩ := h0
        have en : nkF ga s (k + 1) = { nkF ga s k with mr := true } := by rw [hnx]; rfl
        have q0 : Wb.cell? ⟨wr.heap.size, 0, none⟩ = some (.int .i64 0) := hqW.cell 0
        have q1 : Wb.cell? ⟨wr.heap.size, 1, none⟩ = some (.int .i64 0) := hqW.cell 1
        have c13 := x7.cel.c13
        have f13 := x7.cel.free 13
        have HE := Lib.hid (And.intro (FX.mk (x7.cel.mr true) (x7.q.keep (x7.cel.kr_put 13 _))) (And.intro (only_then o7 (put_only Wb g 13 (.bool true))) en))
        have HO := Lib.hid hlt
        clear x3 o3 hg ho hm hv1 hgin hd hD hnl0 hp hin hnx hq hbx x7 o7 hqg hqe hqW en
        go_upto_region 8 with fail
        rw [← hWb]
        clear hWb r0 r1
        go_wp2
        go_roundw
        case rel => exact ⟨k + 1, HO.out, by go_num, _, _, _, by rw [HE.out.2.2]; exact HE.out.1, HE.out.2.1⟩
        case measure => simp [intOf]; omega
      · have h9 : 0 ≤ p1 ∧ p1 < p2 ∧ p2 ≤ (K.da.length : Int) := by
          rcases hin with h | h
          · exact (h0 h).elim
          · exact h
        have en : nkF ga s (k + 1) = { nkF ga s k with rq := Rng.add (nkF ga s k).rq (p1, p2) } := by
          rw [hnx]
          unfold nk1
          rw [if_neg h0]
        have q0 : Wb.cell? ⟨q, 0, none⟩ = some (.int .i64 p1) := hq.cell 0
        have q1 : Wb.cell? ⟨q, 1, none⟩ = some (.int .i64 p2) := hq.cell 1
        have z2 : (p2 == 0) = false := by simp; omega
        obtain ⟨z1, hz1⟩ : ∃ z1, (p1 == 0) = z1 := ⟨_, rfl⟩
        have k14' := x7.cel.c14
        have hql := nkF_len ga s k
        have hrm := add_at (V := Wb.drew) p1 p2 x7.q ⟨rfl, rfl, rfl, Nat.le_refl _, fun _ _ => rfl⟩ (by omega)
        obtain ⟨m8, hnl⟩ : ∃ m8, (Rng.add (nkF ga s k).rq (p1, p2)).length = m8 := ⟨_, rfl⟩
        have HE := Lib.hid (And.intro o7 en)
        have HO := Lib.hid hlt
        clear x3 o3 hg ho hm hv1 hgin hd hD hnl0 hp hin hnx hbx o7 hqW en h9 h0 hql
        go_upto_region 8 with fail
        rw [← hWb, ← hqe]
        clear hWb r0 r1 hqe
        cases z1 <;> go_upto_region 10 with fail
        all_goals
          refine wp_region_held_drew (S := fun V => V.cell? ⟨q, 0, none⟩ = some (.int .i64 p1) ∧ V.cell? ⟨q, 1, none⟩ = some (.int .i64 p2)) (by kernel_rfl) (⟨q0, q1⟩) (fun hHeld => ?_)
          refine wpAnyH_here 0 (v := ?_) rfl (by kernel_rfl) (by kernel_rfl) (by kernel_rfl) (fun _ _ _ h => h) (Or.inl ⟨by rfl, ?_⟩) hHeld ?_
          rotate_left
          · intro w hSw; (try dsimp only at hSw); go_simp; all_goals (with_reducible rfl)
          try simp only [Act.put, List.setIfInBounds_toArray, List.set_cons_zero, List.set_cons_succ]
          refine wpAnyH_here 1 (v := ?_) rfl (by kernel_rfl) (by kernel_rfl) (by kernel_rfl) (fun _ _ _ h => h) (Or.inl ⟨by rfl, ?_⟩) hHeld ?_
          rotate_left
          · intro w hSw; (try dsimp only at hSw); go_simp; all_goals (with_reducible rfl)
          try simp only [Act.put, List.setIfInBounds_toArray, List.set_cons_zero, List.set_cons_succ]
          refine wpAnyH_here 2 (v := ?_) rfl (by kernel_rfl) (by kernel_rfl) (by kernel_rfl) (fun _ _ _ h => h) (Or.inl ⟨by rfl, ?_⟩) hHeld ?_
          rotate_left
          · intro w hSw; (try dsimp only at hSw); go_simp; all_goals (with_reducible rfl)
          try simp only [Act.put, List.setIfInBounds_toArray, List.set_cons_zero, List.set_cons_succ]
          refine wpAnyH_here 3 (v := ?_) rfl (by kernel_rfl) (by kernel_rfl) (by kernel_rfl) (fun _ _ _ h => h) (Or.inl ⟨by rfl, ?_⟩) hHeld ?_
          rotate_left
          · intro w hSw; (try dsimp only at hSw); go_simp; all_goals (with_reducible rfl)
          try simp only [Act.put, List.setIfInBounds_toArray, List.set_cons_zero, List.set_cons_succ]
          refine wpAnyH_here 5 (v := ?_) rfl (by kernel_rfl) (by kernel_rfl) (by kernel_rfl) (fun _ _ _ h => h) (Or.inl ⟨by rfl, ?_⟩) hHeld ?_
          rotate_left
          · intro w hSw; (try dsimp only at hSw); go_simp; all_goals (with_reducible rfl)
          try simp only [Act.put, List.setIfInBounds_toArray, List.set_cons_zero, List.set_cons_succ]
          refine wpAnyH_alone 4 rfl (by kernel_rfl) (fun K hK => ?_)
          go_simp
          skip
          refine hK.out _ _ (⟨q0, q1⟩) (fun hHeld => ?_)
          clear hK K
          try simp only [Act.put, List.setIfInBounds_toArray, List.set_cons_zero, List.set_cons_succ]
          refine wpAnyH_alone 6 rfl (by kernel_rfl) (fun K_ hK => ?_)
          go_simp
          refine hrm.mono ?_
          rintro e w8 ⟨v8, rfl, o8, hb8⟩
          obtain ⟨A8, c8, rfl, g8⟩ := Gq.own o8 hnl
          have X8 := x7.below ⟨hb8.os, hb8.tape, hb8.output, hb8.size, hb8.block⟩
          have hq8 := Cel.on hq ⟨hb8.os, hb8.tape, hb8.output, hb8.size, hb8.block⟩
          have l14 := X8.cel.c14
          have m14 := X8.cel.free 14
          refine hK.out _ _ ⟨hq8.cell 0, hq8.cell 1⟩ (fun hHeld => ?_)
          clear hK K_
          try simp only [Act.put, List.setIfInBounds_toArray, List.set_cons_zero, List.set_cons_succ]
          refine wpAnyH_here 7 (v := ?_) rfl (by kernel_rfl) (by kernel_rfl) (by kernel_rfl) (fun _ _ _ h => h) (Or.inl ⟨by rfl, ?_⟩) hHeld ?_
          rotate_left
          · intro w hSw; (try dsimp only at hSw); go_simp; all_goals (with_reducible rfl)
          try simp only [Act.put, List.setIfInBounds_toArray, List.set_cons_zero, List.set_cons_succ]
          refine wpAnyH_here 8 (v := ?_) rfl (by kernel_rfl) (by kernel_rfl) (by kernel_rfl) (fun _ _ _ h => h) (Or.inl ⟨by rfl, ?_⟩) hHeld ?_
          rotate_left
          · intro w hSw; (try dsimp only at hSw); go_simp; all_goals (with_reducible rfl)
          try simp only [Act.put, List.setIfInBounds_toArray, List.set_cons_zero, List.set_cons_succ]
          have k9 := put_only w8 g 14 (.slice A8 m8 c8)
          have hq9 := hq8.only k9 (by simpa using hqg)
          refine wpAnyH_alone 9 rfl (by kernel_rfl) (fun K_ hK => ?_)
          go_simp
          refine hK.out _ _ ⟨hq9.cell 0, hq9.cell 1⟩ (fun hHeld => ?_)
          clear hK K_
          try simp only [Act.put, List.setIfInBounds_toArray, List.set_cons_zero, List.set_cons_succ]
          refine wpAnyH_done (by kernel_rfl) ?_ _
          have HZ := Lib.hid (And.intro (FX.mk (X8.cel.rq _ A8 m8 c8) (g8.keep (X8.cel.kr_put 14 _))) (only_then (only_then HE.out.1 (Only.of_below ⟨hb8.os, hb8.tape, hb8.output, hb8.size, hb8.block⟩)) k9))
          clear X8 hq8 l14 m14 k9 hq9 hHeld hb8 o8 g8
          go_wp2
          go_roundw
          case rel => exact ⟨k + 1, HO.out, by go_num, _, _, _, by rw [HE.out.2]; exact HZ.out.1, HZ.out.2⟩
          case measure => simp [intOf]; have := HO.out; omega
    · have hke : k = m + 1 := by omega
      subst hke
      obtain ⟨hg, ho, hm, hv1, hgin, hd, hD, hnl0⟩ := HK.out
      have ef : nkF ga s (m + 1) = { s with mr := (ga.foldl nk1 (s.mr, s.rq)).1, rq := (ga.foldl nk1 (s.mr, s.rq)).2 } := by unfold nkF; rw [List.take_of_length_le (by omega)]
      rw [ef] at x3
      have hr := srestart_any x3
      have hlt' : ¬ (m : Int) + 1 < (m : Int) + 1 := by omega
      clear hg ho hm hv1 hgin hd hD hnl0 ef x3 hk hlt
      go_wp2_with fail
      refine hr.mono ?_
      rintro e w4 ⟨rfl, x4, k4⟩
      have HZ := Lib.hid (And.intro x4 (only_then o3 k4))
      clear x4 k4 o3 hr
      go_wp2
      go_ret
      exact ⟨rfl, ⟨_, _, _, HZ.out.1⟩, HZ.out.2⟩
end
end Go.Proofs.Ytaaikmncdgfkmaa.Src
