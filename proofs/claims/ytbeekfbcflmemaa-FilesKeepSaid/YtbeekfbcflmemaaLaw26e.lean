/-
  The walk of the law FilesKeep.
-/
import Derived.Test.YtbeekfbcflmemaaLaw26a
import Derived.Test.YtbeekfbcflmemaaFilKp
import Derived.Test.YtbeekfbcflmemaaHand
import Derived.Deep.Cut
import Derived.Deep.CutBlock
namespace Go.Proofs.Ytbeekfbcflmemaa.Fil
open Go.RowKit Go.Proofs.Ytbeekfbcflmemaa.Row
open Lst (Qb Dt LS)

theorem Dt_conv {w W : World} {l : List Byte} {a : Option Addr} {n c : Nat} (h : Dt w w.heap.size l a c) (hl : l.length = n) (hb : Below w.heap.size w W) : (convert 30 9 (.slice a n c)).run Try.prog W = .ok (.string (str l)) W := by
  subst hl
  exact run_str W is_bytes Try.underlying9 (h.b.below hb) h.n

set_option maxHeartbeats 8000000 in
set_option maxRecDepth 100000 in
theorem keep_walk (a : Option Addr) (l : List (List Byte)) (n k0 : Nat) (o : Nat) (DA : Option Addr) (data : List Byte) (q dc : Nat) (w : World) (hl : Hid (l.length = n)) (ho : LS w w.heap.size a l) (hnm : n ≤ maxLen) (hob8 : o ≤ 255) (hdl : Hid (data.length = q)) (hdd : Dt w w.heap.size data DA dc) :
    Calls Try.prog 4 #[.slice a n k0, .int .u8 (o : Int), .slice DA q dc] w fun e w' => e = .returned (.bool true) ∧ Below w.heap.size w w' := by
  have hal := fun W => alive_any W
  unfold maxLen at hnm
  have hqm : q ≤ 9223372036854775807 := by have := hdl.out; have := hdd.l; have := hdd.m; unfold maxLen at this; omega
  by_cases h80 : 40 < n
  · have t1 : decide ((40 : Int) < (n : Int)) = true := decide_eq_true (by omega)
    have t2 : decide (40 < n) = true := decide_eq_true h80
    clear h80
    go_enter Try.func4, Try.ntmps4
    go_wp2_with (go_at_call 7; refine (hal _).mono ?_; rintro e w1 ⟨rfl, b1⟩)
    go_ret
    exact ⟨rfl, b1⟩
  have t1 : decide ((40 : Int) < (n : Int)) = false := decide_eq_false (by omega)
  have t2 : decide (40 < n) = false := decide_eq_false h80
  have hn40 : n ≤ 40 := by omega
  by_cases h81 : 100 < q
  · have t3 : decide ((100 : Int) < (q : Int)) = true := decide_eq_true (by omega)
    have t4 : decide (100 < q) = true := decide_eq_true h81
    clear h80 h81
    go_enter Try.func4, Try.ntmps4
    go_wp2_with (go_at_call 7; refine (hal _).mono ?_; rintro e w1 ⟨rfl, b1⟩)
    go_ret
    exact ⟨rfl, b1⟩
  have t3 : decide ((100 : Int) < (q : Int)) = false := decide_eq_false (by omega)
  have t4 : decide (100 < q) = false := decide_eq_false h81
  have hq100 : q ≤ 100 := by omega
  have HO := Lib.hid ho
  have HDD := Lib.hid hdd
  have hnew := PF.new (w0 := w) (Below.refl w.heap.size w) 64 10000
  clear h80 h81 ho hdd
  go_enter Try.func4, Try.ntmps4
  go_wp2_with fail
  refine hnew.mono ?_
  rintro e w3 ⟨g, b, rfl, p3, b3⟩
  have HP3 := Lib.hid p3
  clear hnew p3 b3
  go_wp2
  go_loopw [8] (fun iv wr => ∃ (k : Nat) (s : St), k ≤ n ∧ iv = .int .i64 (k : Int) ∧ Hid (PF w wr g b s ∧ K1 s l k ∧ ∀ j, j < k → ∀ d, l[j]? = some d → d.length ≤ 100)) (fun iv _ => n - (intOf iv).toNat)
  case atStart => exact ⟨0, s0 64 10000, Nat.zero_le _, rfl, Lib.hid ⟨HP3.out, K1.new l, fun j hj => by omega⟩⟩
  case round =>
    clear HP3
    obtain ⟨k, s, hk, rfl, HH⟩ := hrel
    by_cases hkn : k < n
    · obtain ⟨d, hdk⟩ : ∃ d, l[k]? = some d := ⟨_, List.getElem?_eq_getElem (by rw [hl.out]; exact hkn)⟩
      obtain ⟨ob, oo, A, c, rfl, hob, e00, hdt⟩ := HO.out.at_ hdk
      obtain ⟨m, hm⟩ : ∃ m, d.length = m := ⟨_, rfl⟩
      rw [hm] at e00
      have HMD := Lib.hid hm
      have hmm : m ≤ 9223372036854775807 := by have := hdt.l; have := hdt.m; unfold maxLen at this; omega
      have HDT := Lib.hid hdt
      have HDK := Lib.hid hdk
      have i1 : (k : Int) < (n : Int) := by omega
      have e00r := (HH.out.1.bel.cell (p := ⟨ob, oo + k, none⟩) hob).trans e00
      have HK := Lib.hid hkn
      clear hm hdt hdk
      by_cases h3 : 100 < m
      · have t5 : decide ((100 : Int) < (m : Int)) = true := decide_eq_true (by omega)
        have t6 : decide (100 < m) = true := decide_eq_true h3
        have B := Lib.hid HH.out.1.bel
        clear h3 HH
        go_wp2_with fail
        refine (hal _).mono ?_
        rintro e wz ⟨rfl, bz⟩
        go_wp2
        go_ret
        exact ⟨rfl, B.out.trans (bz.mono B.out.size)⟩
      have t5 : decide ((100 : Int) < (m : Int)) = false := decide_eq_false (by omega)
      have t6 : decide (100 < m) = false := decide_eq_false h3
      have hm3 : m ≤ 100 := by omega
      clear h3
      go_upto_region 9 with fail
      have hk60 : k ≤ 60 := by omega
      have e0 : wr.drew.cell? ⟨ob, oo + k, none⟩ = some (.slice A m c) := e00r
      have hbz : Below wr.heap.size wr (wr.alloc (.cells #[.int .u8 (33 + (k : Int))] 5)).drew := (bel_new wr _).drew
      have hce : Cel (wr.alloc (.cells #[.int .u8 (33 + (k : Int))] 5)).drew wr.heap.size 5 #[.int .u8 (33 + (k : Int))] := Cel.new wr _ _
      have p5 := HH.out.1.later hbz
      have e1 := (p5.bel.cell (p := ⟨ob, oo + k, none⟩) hob).trans e00
      have e2 := e00
      have hcv := conv_ch _ _ hk60 hce
      have hcat : ({ data := #[102] } : ByteArray) ++ nm [ch k] = nm (nn 102 k) := nm_cat [102] [ch k]
      obtain ⟨S', hS⟩ : ∃ S', puS s (nn 102 k) d = S' := ⟨_, rfl⟩
      have hst := HH.out.2.1.step (by omega) HDK.out (by rw [HMD.out]; exact hm3)
      rw [hS] at hst
      have hput := p5.put (nn 102 k) d m A c 0 S' hst.1 hS HMD (HDT.out.later p5.bel) (by omega)
      have hz1 : IntKind.i64.wrap (33 + (k : Int)) = 33 + (k : Int) := by rw [IntKind.wrap_i64]; omega
      have hz2 : IntKind.u8.wrap (33 + (k : Int)) = 33 + (k : Int) := by show (33 + (k : Int)) % 256 = _; omega
      have hall : ∀ j, j < k + 1 → ∀ d, l[j]? = some d → d.length ≤ 100 := fun j hj d2 hd2 => by
        by_cases e : j = k
        · subst e
          rw [HDK.out] at hd2
          injection hd2 with hd2
          rw [← hd2, HMD.out]; exact hm3
        · exact HH.out.2.2 j (by omega) d2 hd2
      have HST := Lib.hid (And.intro hst.2 hall)
      clear hS p5 hst hall
      refine wp_region_held_drew (S := (fun W => W.cell? ⟨ob, oo + k, none⟩ = some (.slice A m c))) (by kernel_rfl) (e0) (fun hHeld => ?_)
      refine wpAnyH_here 0 (v := ?_) rfl (by kernel_rfl) (by kernel_rfl) (by kernel_rfl) (fun _ _ _ h => h) (Or.inl ⟨by rfl, ?_⟩) hHeld ?_
      rotate_left
      · intro w hSw; (try dsimp only at hSw); go_simp; all_goals (with_reducible rfl)
      try simp only [Act.put, List.setIfInBounds_toArray, List.set_cons_zero, List.set_cons_succ]
      refine wpAnyH_here 1 (v := ?_) rfl (by kernel_rfl) (by kernel_rfl) (by kernel_rfl) (fun _ _ _ h => h) (Or.inl ⟨by rfl, ?_⟩) hHeld ?_
      rotate_left
      · intro w hSw; (try dsimp only at hSw); go_simp; all_goals (with_reducible rfl)
      try simp only [Act.put, List.setIfInBounds_toArray, List.set_cons_zero, List.set_cons_succ]
      refine wpAnyH_here 2 (v := ?_) rfl (by kernel_rfl) (by kernel_rfl) (by kernel_rfl) (fun _ _ _ h => h) (Or.inl ⟨by rfl, ?_⟩) hHeld ?_
      rotate_left
      · intro w hSw; (try dsimp only at hSw); go_simp; all_goals (with_reducible rfl)
      try simp only [Act.put, List.setIfInBounds_toArray, List.set_cons_zero, List.set_cons_succ]
      refine wpAnyH_here 3 (v := ?_) rfl (by kernel_rfl) (by kernel_rfl) (by kernel_rfl) (fun _ _ _ h => h) (Or.inl ⟨by rfl, ?_⟩) hHeld ?_
      rotate_left
      · intro w hSw; (try dsimp only at hSw); go_simp; all_goals (with_reducible rfl)
      try simp only [Act.put, List.setIfInBounds_toArray, List.set_cons_zero, List.set_cons_succ]
      refine wpAnyH_here 7 (v := ?_) rfl (by kernel_rfl) (by kernel_rfl) (by kernel_rfl) (fun _ _ _ h => h) (Or.inl ⟨by rfl, ?_⟩) hHeld ?_
      rotate_left
      · intro w hSw; (try dsimp only at hSw); go_simp; all_goals (with_reducible rfl)
      try simp only [Act.put, List.setIfInBounds_toArray, List.set_cons_zero, List.set_cons_succ]
      refine wpAnyH_here 8 (v := ?_) rfl (by kernel_rfl) (by kernel_rfl) (by kernel_rfl) (fun _ _ _ h => h) (Or.inl ⟨by rfl, ?_⟩) hHeld ?_
      rotate_left
      · intro w hSw; (try dsimp only at hSw); go_simp; all_goals (with_reducible rfl)
      try simp only [Act.put, List.setIfInBounds_toArray, List.set_cons_zero, List.set_cons_succ]
      refine wpAnyH_here 9 (v := ?_) rfl (by kernel_rfl) (by kernel_rfl) (by kernel_rfl) (fun _ _ _ h => h) (Or.inl ⟨by rfl, ?_⟩) hHeld ?_
      rotate_left
      · intro w hSw; (try dsimp only at hSw); go_simp; all_goals (with_reducible rfl)
      try simp only [Act.put, List.setIfInBounds_toArray, List.set_cons_zero, List.set_cons_succ]
      refine wpAnyH_here 10 (v := ?_) rfl (by kernel_rfl) (by kernel_rfl) (by kernel_rfl) (fun _ _ _ h => h) (Or.inl ⟨by rfl, ?_⟩) hHeld ?_
      rotate_left
      · intro w hSw; (try dsimp only at hSw); go_simp; all_goals (with_reducible rfl)
      try simp only [Act.put, List.setIfInBounds_toArray, List.set_cons_zero, List.set_cons_succ]
      refine wpAnyH_alone 4 rfl (by kernel_rfl) (fun K hK => ?_)
      go_simp
      skip
      refine hK.out _ _ (e1) (fun hHeld => ?_)
      clear hK K
      try simp only [Act.put, List.setIfInBounds_toArray, List.set_cons_zero, List.set_cons_succ]
      refine wpAnyH_alone 5 rfl (by kernel_rfl) (fun K hK => ?_)
      go_simp
      skip
      refine hK.out _ _ (e1) (fun hHeld => ?_)
      clear hK K
      try simp only [Act.put, List.setIfInBounds_toArray, List.set_cons_zero, List.set_cons_succ]
      refine wpAnyH_alone 6 rfl (by kernel_rfl) (fun K hK => ?_)
      go_simp
      skip
      refine hK.out _ _ (e1) (fun hHeld => ?_)
      clear hK K
      try simp only [Act.put, List.setIfInBounds_toArray, List.set_cons_zero, List.set_cons_succ]
      refine wpAnyH_alone 11 rfl (by kernel_rfl) (fun K hK => ?_)
      go_simp
      (go_at_call 10; refine hput.mono ?_; rintro e w6 ⟨rfl, p6, o6, q6⟩; have e6 := (p6.bel.cell (p := ⟨ob, oo + k, none⟩) hob).trans e2)
      refine hK.out _ _ (e6) (fun hHeld => ?_)
      clear hK K
      try simp only [Act.put, List.setIfInBounds_toArray, List.set_cons_zero, List.set_cons_succ]
      refine wpAnyH_here 12 (v := ?_) rfl (by kernel_rfl) (by kernel_rfl) (by kernel_rfl) (fun _ _ _ h => h) (Or.inl ⟨by rfl, ?_⟩) hHeld ?_
      rotate_left
      · intro w hSw; (try dsimp only at hSw); go_simp; all_goals (with_reducible rfl)
      try simp only [Act.put, List.setIfInBounds_toArray, List.set_cons_zero, List.set_cons_succ]
      refine wpAnyH_done (by kernel_rfl) ?_ _
      have HH6 := Lib.hid (And.intro p6 HST.out)
      clear hcv hcat hput e0 e1 e2 e00 e00r hbz hce o6 q6 hHeld hz1 hz2 p6 e6
      go_wp2
      go_roundw
      case rel => exact ⟨k + 1, S', HK.out, by go_num, HH6⟩
      case measure => have := HK.out; simp [intOf]; omega
    · obtain rfl : k = n := by omega
      have HH0 := HH
      clear hkn
      obtain ⟨kk, hkk⟩ : ∃ kk, kk = o % 41 := ⟨_, rfl⟩
      have hkk40 : kk ≤ 40 := by omega
      have r1 : (o : Int).tmod 41 = (kk : Int) := by rw [Int.tmod_eq_emod_of_nonneg (by omega), hkk]; omega
      have hkk60 : kk ≤ 60 := by omega
      have hz1 : IntKind.i64.wrap (33 + (kk : Int)) = 33 + (kk : Int) := by rw [IntKind.wrap_i64]; omega
      have hz2 : IntKind.u8.wrap (33 + (kk : Int)) = 33 + (kk : Int) := by show (33 + (kk : Int)) % 256 = _; omega
      have hce : Cel (wr.alloc (.cells #[.int .u8 (33 + (kk : Int))] 5)) wr.heap.size 5 #[.int .u8 (33 + (kk : Int))] := Cel.new wr _ _
      have hcv := conv_ch _ _ hkk60 hce
      have hcat : ({ data := #[102] } : ByteArray) ++ nm [ch kk] = nm (nn 102 kk) := nm_cat [102] [ch kk]
      have p5 := HH.out.1.later (bel_new wr (.cells #[.int .u8 (33 + (kk : Int))] 5))
      clear hkk
      by_cases ho8 : 128 ≤ o
      · have v1 : decide ((128 : Int) ≤ (o : Int)) = true := decide_eq_true (by omega)
        have v2 : decide (128 ≤ o) = true := decide_eq_true ho8
        obtain ⟨E, hE⟩ : ∃ E, geE s (nn 102 kk) = E := ⟨_, rfl⟩
        obtain ⟨s2, hS⟩ : ∃ s2, deS s (nn 102 kk) = s2 := ⟨_, rfl⟩
        have hk2 := HH.out.2.1.dele hn40 hkk40 ho8 data
        rw [hS] at hk2
        have hdel := p5.dele (nn 102 kk) E s2 hE hS
        have HK2 := Lib.hid hk2
        clear hE hS hk2 p5 hce HH HH0
        go_wp2_with fail
        refine hdel.mono ?_
        rintro e w6 ⟨rfl, p6, _, _⟩
        have HP6 := Lib.hid p6
        clear hdel hcv hcat hz1 hz2 p6 r1
        go_wp2
        go_loopw [11, 12] (fun uv iv wx => ∃ (j U : Nat), j ≤ k ∧ uv = .int .i64 (U : Int) ∧ iv = .int .i64 (j : Int) ∧ U ≤ 10000 ∧ Hid (PF w wx g b s2 ∧ U = sm s2 j)) (fun _ iv _ => k - (intOf iv).toNat)
        case atStart => exact ⟨0, 0, Nat.zero_le _, rfl, rfl, Nat.zero_le _, Lib.hid ⟨HP6.out, rfl⟩⟩
        case round =>
          clear HP6
          obtain ⟨j, U, hj, rfl, rfl, hU, HH2⟩ := hrel
          by_cases hjn : j < k
          · obtain ⟨d, hdk⟩ : ∃ d, l[j]? = some d := ⟨_, List.getElem?_eq_getElem (by rw [hl.out]; exact hjn)⟩
            obtain ⟨ob, oo, A, c, rfl, hob, e00, hdt⟩ := HO.out.at_ hdk
            have hj60 : j ≤ 60 := by omega
            have hz1 : IntKind.i64.wrap (33 + (j : Int)) = 33 + (j : Int) := by rw [IntKind.wrap_i64]; omega
            have hz2 : IntKind.u8.wrap (33 + (j : Int)) = 33 + (j : Int) := by show (33 + (j : Int)) % 256 = _; omega
            have hce : Cel (wr.alloc (.cells #[.int .u8 (33 + (j : Int))] 5)) wr.heap.size 5 #[.int .u8 (33 + (j : Int))] := Cel.new wr _ _
            have hcv := conv_ch _ _ hj60 hce
            have hcat : ({ data := #[102] } : ByteArray) ++ nm [ch j] = nm (nn 102 j) := nm_cat [102] [ch j]
            have p5 := HH2.out.1.later (bel_new wr (.cells #[.int .u8 (33 + (j : Int))] 5))
            obtain ⟨E, hE⟩ : ∃ E, geE s2 (nn 102 j) = E := ⟨_, rfl⟩
            obtain ⟨D, hD⟩ : ∃ D, geD s2 (nn 102 j) = D := ⟨_, rfl⟩
            obtain ⟨N, hN⟩ : ∃ N, D.length = N := ⟨_, rfl⟩
            have hget := p5.get (nn 102 j) E D N hE hD (Lib.hid hN)
            have hsm := sm_succ s2 j
            rw [hD, hN] at hsm
            have hsx := HK2.out.sm_max hn40 hkk40 (j := j + 1) (by omega)
            obtain ⟨U2, hU2⟩ : ∃ U2, U2 = U + N := ⟨_, rfl⟩
            have hU2s : U2 = sm s2 (j + 1) := by rw [hU2, HH2.out.2, hsm]
            have hU2m : U2 ≤ 10000 := by rw [hU2s]; exact hsx
            have x1 : (U : Int) + (N : Int) = (U2 : Int) := by omega
            have HU2 := Lib.hid hU2s
            have HKJ := Lib.hid hjn
            have HN := Lib.hid hN
            have HED := Lib.hid (And.intro hE hD)
            have i2 : (j : Int) < (k : Int) := by omega
            have hNm : N ≤ 10000 := by omega
            have HOB := Lib.hid hob
            clear hE hD hN hsm hsx hU2 hU2s p5 hce
            go_wp2_with fail
            refine hget.mono ?_
            rintro e w6 ⟨A6, c6, rfl, p6, d6, b6⟩
            have e6 := (p6.bel.cell (p := ⟨ob, oo + j, none⟩) HOB.out).trans e00
            have HP6 := Lib.hid (And.intro p6 HU2.out)
            clear hget hcv hcat hz1 hz2 b6
            by_cases hjk : j = kk
            · have y1 : ((j : Int) != (kk : Int)) = false := by rw [hjk]; simp
              clear hjk e6 d6 p6 e00 hdt hdk
              go_wp2
              go_quiet (fail)
              go_wp2
              have HP7 : Hid (PF w (w6.drewN nq) g b s2 ∧ U2 = sm s2 (j + 1)) := Lib.hid ⟨HP6.out.1.later (drewN_below _ _), HP6.out.2⟩
              exact ⟨⟨j + 1, U2, HKJ.out, rfl, by go_num, hU2m, HP7⟩, by have := HKJ.out; simp [intOf]; omega⟩
            · have hoth := HK2.out.other hn40 hjn hjk hdk
              rw [HED.out.1, HED.out.2] at hoth
              obtain ⟨hE0, hD0⟩ := hoth
              have hDN := HN.out
              subst hE0 hD0
              rw [hDN] at e6
              have y1 : ((j : Int) != (kk : Int)) = true := by simp only [bne_iff_ne, ne_eq]; omega
              have hcv1 := fun q => d6.conv hDN (drewN_below (B := w6.heap.size) w6 q)
              have hcv2 := fun q => Dt_conv hdt hDN (p6.bel.trans (drewN_below (B := w.heap.size) w6 q))
              have j4 : ((str D).toList == (str D).toList) = true := by simp
              clear hjk d6 p6 e00 hdt hdk hDN
              go_wp2
              go_quiet (fail)
              go_wp2
              have HP7 : Hid (PF w (w6.drewN nq) g b s2 ∧ U2 = sm s2 (j + 1)) := Lib.hid ⟨HP6.out.1.later (drewN_below _ _), HP6.out.2⟩
              exact ⟨⟨j + 1, U2, HKJ.out, rfl, by go_num, hU2m, HP7⟩, by have := HKJ.out; simp [intOf]; omega⟩
          · obtain rfl : k = j := by omega
            clear hjn
            by_cases hkk : kk < k
            · skip
              have hgk := HK2.out.gone hkk40 ho8
              obtain ⟨N3, hN3⟩ : ∃ N3, N3 = (geD s2 (nn 102 kk)).length := ⟨_, rfl⟩
              have htot := HK2.out.total hn40 hkk40
              rw [← hN3] at htot
              have hroom := HK2.out.r
              have hget := HH2.out.1.get (nn 102 kk) 8 [] N3 hgk.1 hgk.2 (Lib.hid (by rw [hN3, hgk.2]))
              have hsmx := HK2.out.ok.sum
              rw [hroom] at hsmx
              rw [if_pos hkk] at htot
              have x1 : decide ((k : Int) ≤ (kk : Int)) = false := decide_eq_false (by omega)
              have x2 : decide (k ≤ kk) = false := decide_eq_false (by omega)
              obtain ⟨R2, hR2⟩ : ∃ R2, R2 = 10000 - U := ⟨_, rfl⟩
              have x3 : (10000 : Int) - (U : Int) = (R2 : Int) := by have := HH2.out.2; omega
              have hzR : (s2.room : Int) - (sz s2.l : Int) = (R2 : Int) := by have := HH2.out.2; rw [hroom]; omega
              have x4 : ((R2 : Int) == (R2 : Int)) = true := by simp
              have HT := Lib.hid hzR
              have hN3b : N3 ≤ 10000 := by rw [hN3, hgk.2]; exact Nat.zero_le _
              clear htot hroom hN3 hsmx hR2 hzR hgk
              go_wp2_with fail
              refine hget.mono ?_
              rintro e w8 ⟨A8, c8, rfl, p8, d8, b8⟩
              have hfr := p8.free (R2 : Int) HT.out
              clear hget d8 b8
              go_wp2_with fail
              refine hfr.mono ?_
              rintro e w9 ⟨rfl, p9, _⟩
              clear hfr
              go_wp2_with fail
              refine (hal _).mono ?_
              rintro e wz ⟨rfl, bz⟩
              go_wp2
              go_ret
              exact ⟨rfl, p9.bel.trans (bz.mono p9.bel.size)⟩
            · skip
              have hgk := HK2.out.gone hkk40 ho8
              obtain ⟨N3, hN3⟩ : ∃ N3, N3 = (geD s2 (nn 102 kk)).length := ⟨_, rfl⟩
              have htot := HK2.out.total hn40 hkk40
              rw [← hN3] at htot
              have hroom := HK2.out.r
              have hget := HH2.out.1.get (nn 102 kk) 8 [] N3 hgk.1 hgk.2 (Lib.hid (by rw [hN3, hgk.2]))
              have hsmx := HK2.out.ok.sum
              rw [hroom] at hsmx
              rw [if_neg hkk] at htot
              have x1 : decide ((k : Int) ≤ (kk : Int)) = true := decide_eq_true (by omega)
              have x2 : decide (k ≤ kk) = true := decide_eq_true (by omega)
              obtain ⟨U3, hU3⟩ : ∃ U3, U3 = U + N3 := ⟨_, rfl⟩
              have x5 : (U : Int) + (N3 : Int) = (U3 : Int) := by omega
              have x6 : U3 ≤ 10000 := by have := HH2.out.2; omega
              obtain ⟨R2, hR2⟩ : ∃ R2, R2 = 10000 - U3 := ⟨_, rfl⟩
              have x3 : (10000 : Int) - (U3 : Int) = (R2 : Int) := by omega
              have hzR : (s2.room : Int) - (sz s2.l : Int) = (R2 : Int) := by have := HH2.out.2; rw [hroom]; omega
              have x4 : ((R2 : Int) == (R2 : Int)) = true := by simp
              have HT := Lib.hid hzR
              have hN3b : N3 ≤ 10000 := by rw [hN3, hgk.2]; exact Nat.zero_le _
              clear htot hroom hN3 hsmx hR2 hzR hgk hU3
              go_wp2_with fail
              refine hget.mono ?_
              rintro e w8 ⟨A8, c8, rfl, p8, d8, b8⟩
              have hfr := p8.free (R2 : Int) HT.out
              clear hget d8 b8
              go_wp2_with fail
              refine hfr.mono ?_
              rintro e w9 ⟨rfl, p9, _⟩
              clear hfr
              go_wp2_with fail
              refine (hal _).mono ?_
              rintro e wz ⟨rfl, bz⟩
              go_wp2
              go_ret
              exact ⟨rfl, p9.bel.trans (bz.mono p9.bel.size)⟩
      · have v1 : decide ((128 : Int) ≤ (o : Int)) = false := decide_eq_false (by omega)
        have v2 : decide (128 ≤ o) = false := decide_eq_false ho8
        have v3 : decide ((o : Int) < 128) = true := decide_eq_true (by omega)
        have v4 : decide (o < 128) = true := decide_eq_true (by omega)
        obtain ⟨E, hE⟩ : ∃ E, puE s (nn 102 kk) data = E := ⟨_, rfl⟩
        obtain ⟨s2, hS⟩ : ∃ s2, puS s (nn 102 kk) data = s2 := ⟨_, rfl⟩
        have hk2 := HH.out.2.1.puts hn40 hkk40 ho8 (data := data) (by rw [hdl.out]; exact hq100)
        rw [hS] at hk2
        have hput := p5.put (nn 102 kk) data q DA dc E s2 hE hS hdl (HDD.out.later p5.bel) (by omega)
        have HK2 := Lib.hid hk2
        clear hE hS hk2 p5 hce HH HH0
        go_wp2_with fail
        refine hput.mono ?_
        rintro e w6 ⟨rfl, p6, _, _⟩
        have HP6 := Lib.hid p6
        clear hput hcv hcat hz1 hz2 p6 r1
        go_wp2
        go_loopw [11, 12] (fun uv iv wx => ∃ (j U : Nat), j ≤ k ∧ uv = .int .i64 (U : Int) ∧ iv = .int .i64 (j : Int) ∧ U ≤ 10000 ∧ Hid (PF w wx g b s2 ∧ U = sm s2 j)) (fun _ iv _ => k - (intOf iv).toNat)
        case atStart => exact ⟨0, 0, Nat.zero_le _, rfl, rfl, Nat.zero_le _, Lib.hid ⟨HP6.out, rfl⟩⟩
        case round =>
          clear HP6
          obtain ⟨j, U, hj, rfl, rfl, hU, HH2⟩ := hrel
          by_cases hjn : j < k
          · obtain ⟨d, hdk⟩ : ∃ d, l[j]? = some d := ⟨_, List.getElem?_eq_getElem (by rw [hl.out]; exact hjn)⟩
            obtain ⟨ob, oo, A, c, rfl, hob, e00, hdt⟩ := HO.out.at_ hdk
            have hj60 : j ≤ 60 := by omega
            have hz1 : IntKind.i64.wrap (33 + (j : Int)) = 33 + (j : Int) := by rw [IntKind.wrap_i64]; omega
            have hz2 : IntKind.u8.wrap (33 + (j : Int)) = 33 + (j : Int) := by show (33 + (j : Int)) % 256 = _; omega
            have hce : Cel (wr.alloc (.cells #[.int .u8 (33 + (j : Int))] 5)) wr.heap.size 5 #[.int .u8 (33 + (j : Int))] := Cel.new wr _ _
            have hcv := conv_ch _ _ hj60 hce
            have hcat : ({ data := #[102] } : ByteArray) ++ nm [ch j] = nm (nn 102 j) := nm_cat [102] [ch j]
            have p5 := HH2.out.1.later (bel_new wr (.cells #[.int .u8 (33 + (j : Int))] 5))
            obtain ⟨E, hE⟩ : ∃ E, geE s2 (nn 102 j) = E := ⟨_, rfl⟩
            obtain ⟨D, hD⟩ : ∃ D, geD s2 (nn 102 j) = D := ⟨_, rfl⟩
            obtain ⟨N, hN⟩ : ∃ N, D.length = N := ⟨_, rfl⟩
            have hget := p5.get (nn 102 j) E D N hE hD (Lib.hid hN)
            have hsm := sm_succ s2 j
            rw [hD, hN] at hsm
            have hsx := HK2.out.sm_max hn40 hkk40 (j := j + 1) (by omega)
            obtain ⟨U2, hU2⟩ : ∃ U2, U2 = U + N := ⟨_, rfl⟩
            have hU2s : U2 = sm s2 (j + 1) := by rw [hU2, HH2.out.2, hsm]
            have hU2m : U2 ≤ 10000 := by rw [hU2s]; exact hsx
            have x1 : (U : Int) + (N : Int) = (U2 : Int) := by omega
            have HU2 := Lib.hid hU2s
            have HKJ := Lib.hid hjn
            have HN := Lib.hid hN
            have HED := Lib.hid (And.intro hE hD)
            have i2 : (j : Int) < (k : Int) := by omega
            have hNm : N ≤ 10000 := by omega
            have HOB := Lib.hid hob
            clear hE hD hN hsm hsx hU2 hU2s p5 hce
            go_wp2_with fail
            refine hget.mono ?_
            rintro e w6 ⟨A6, c6, rfl, p6, d6, b6⟩
            have e6 := (p6.bel.cell (p := ⟨ob, oo + j, none⟩) HOB.out).trans e00
            have HP6 := Lib.hid (And.intro p6 HU2.out)
            clear hget hcv hcat hz1 hz2 b6
            by_cases hjk : j = kk
            · have y1 : ((j : Int) != (kk : Int)) = false := by rw [hjk]; simp
              clear hjk e6 d6 p6 e00 hdt hdk
              go_wp2
              go_quiet (fail)
              go_wp2
              have HP7 : Hid (PF w (w6.drewN nq) g b s2 ∧ U2 = sm s2 (j + 1)) := Lib.hid ⟨HP6.out.1.later (drewN_below _ _), HP6.out.2⟩
              exact ⟨⟨j + 1, U2, HKJ.out, rfl, by go_num, hU2m, HP7⟩, by have := HKJ.out; simp [intOf]; omega⟩
            · have hoth := HK2.out.other hn40 hjn hjk hdk
              rw [HED.out.1, HED.out.2] at hoth
              obtain ⟨hE0, hD0⟩ := hoth
              have hDN := HN.out
              subst hE0 hD0
              rw [hDN] at e6
              have y1 : ((j : Int) != (kk : Int)) = true := by simp only [bne_iff_ne, ne_eq]; omega
              have hcv1 := fun q => d6.conv hDN (drewN_below (B := w6.heap.size) w6 q)
              have hcv2 := fun q => Dt_conv hdt hDN (p6.bel.trans (drewN_below (B := w.heap.size) w6 q))
              have j4 : ((str D).toList == (str D).toList) = true := by simp
              clear hjk d6 p6 e00 hdt hdk hDN
              go_wp2
              go_quiet (fail)
              go_wp2
              have HP7 : Hid (PF w (w6.drewN nq) g b s2 ∧ U2 = sm s2 (j + 1)) := Lib.hid ⟨HP6.out.1.later (drewN_below _ _), HP6.out.2⟩
              exact ⟨⟨j + 1, U2, HKJ.out, rfl, by go_num, hU2m, HP7⟩, by have := HKJ.out; simp [intOf]; omega⟩
          · obtain rfl : k = j := by omega
            clear hjn
            by_cases hkk : kk < k
            · skip
              have hgk := HK2.out.there hkk40 ho8
              obtain ⟨N3, hN3⟩ : ∃ N3, N3 = (geD s2 (nn 102 kk)).length := ⟨_, rfl⟩
              have htot := HK2.out.total hn40 hkk40
              rw [← hN3] at htot
              have hroom := HK2.out.r
              have hget := HH2.out.1.get (nn 102 kk) 0 data N3 hgk.1 hgk.2 (Lib.hid (by rw [hN3, hgk.2]))
              have hsmx := HK2.out.ok.sum
              rw [hroom] at hsmx
              rw [if_pos hkk] at htot
              have x1 : decide ((k : Int) ≤ (kk : Int)) = false := decide_eq_false (by omega)
              have x2 : decide (k ≤ kk) = false := decide_eq_false (by omega)
              obtain ⟨R2, hR2⟩ : ∃ R2, R2 = 10000 - U := ⟨_, rfl⟩
              have x3 : (10000 : Int) - (U : Int) = (R2 : Int) := by have := HH2.out.2; omega
              have hzR : (s2.room : Int) - (sz s2.l : Int) = (R2 : Int) := by have := HH2.out.2; rw [hroom]; omega
              have x4 : ((R2 : Int) == (R2 : Int)) = true := by simp
              have HT := Lib.hid hzR
              have hN3b : N3 ≤ 10000 := by rw [hN3, hgk.2]; rw [hdl.out]; omega
              have HN3 : Hid (N3 = data.length) := Lib.hid (by rw [hN3, hgk.2])
              clear htot hroom hN3 hsmx hR2 hzR hgk
              go_wp2_with fail
              refine hget.mono ?_
              rintro e w8 ⟨A8, c8, rfl, p8, d8, b8⟩
              have hlN3 : data.length = N3 := HN3.out.symm
              have hcv1 := d8.conv hlN3 (Below.refl _ _)
              have hcv2 := Dt_conv HDD.out hdl.out p8.bel
              have j4 : ((str data).toList == (str data).toList) = true := by simp
              clear hlN3
              have hfr := p8.free (R2 : Int) HT.out
              clear hget d8 b8
              go_wp2_with fail
              refine hfr.mono ?_
              rintro e w9 ⟨rfl, p9, _⟩
              clear hfr
              go_wp2_with fail
              refine (hal _).mono ?_
              rintro e wz ⟨rfl, bz⟩
              go_wp2
              go_ret
              exact ⟨rfl, p9.bel.trans (bz.mono p9.bel.size)⟩
            · skip
              have hgk := HK2.out.there hkk40 ho8
              obtain ⟨N3, hN3⟩ : ∃ N3, N3 = (geD s2 (nn 102 kk)).length := ⟨_, rfl⟩
              have htot := HK2.out.total hn40 hkk40
              rw [← hN3] at htot
              have hroom := HK2.out.r
              have hget := HH2.out.1.get (nn 102 kk) 0 data N3 hgk.1 hgk.2 (Lib.hid (by rw [hN3, hgk.2]))
              have hsmx := HK2.out.ok.sum
              rw [hroom] at hsmx
              rw [if_neg hkk] at htot
              have x1 : decide ((k : Int) ≤ (kk : Int)) = true := decide_eq_true (by omega)
              have x2 : decide (k ≤ kk) = true := decide_eq_true (by omega)
              obtain ⟨U3, hU3⟩ : ∃ U3, U3 = U + N3 := ⟨_, rfl⟩
              have x5 : (U : Int) + (N3 : Int) = (U3 : Int) := by omega
              have x6 : U3 ≤ 10000 := by have := HH2.out.2; omega
              obtain ⟨R2, hR2⟩ : ∃ R2, R2 = 10000 - U3 := ⟨_, rfl⟩
              have x3 : (10000 : Int) - (U3 : Int) = (R2 : Int) := by omega
              have hzR : (s2.room : Int) - (sz s2.l : Int) = (R2 : Int) := by have := HH2.out.2; rw [hroom]; omega
              have x4 : ((R2 : Int) == (R2 : Int)) = true := by simp
              have HT := Lib.hid hzR
              have hN3b : N3 ≤ 10000 := by rw [hN3, hgk.2]; rw [hdl.out]; omega
              have HN3 : Hid (N3 = data.length) := Lib.hid (by rw [hN3, hgk.2])
              clear htot hroom hN3 hsmx hR2 hzR hgk hU3
              go_wp2_with fail
              refine hget.mono ?_
              rintro e w8 ⟨A8, c8, rfl, p8, d8, b8⟩
              have hlN3 : data.length = N3 := HN3.out.symm
              have hcv1 := d8.conv hlN3 (Below.refl _ _)
              have hcv2 := Dt_conv HDD.out hdl.out p8.bel
              have j4 : ((str data).toList == (str data).toList) = true := by simp
              clear hlN3
              have hfr := p8.free (R2 : Int) HT.out
              clear hget d8 b8
              go_wp2_with fail
              refine hfr.mono ?_
              rintro e w9 ⟨rfl, p9, _⟩
              clear hfr
              go_wp2_with fail
              refine (hal _).mono ?_
              rintro e wz ⟨rfl, bz⟩
              go_wp2
              go_ret
              exact ⟨rfl, p9.bel.trans (bz.mono p9.bel.size)⟩
end Go.Proofs.Ytbeekfbcflmemaa.Fil
