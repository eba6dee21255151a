/-
  The laws of layer 21: BucketBounds.
-/
import Derived.Test.YtdccfiobcejngaaLaw21c
import Derived.Test.YtdccfiobcejngaaIntS
import Derived.Deep.CutRange
namespace Go.Proofs.Ytdccfiobcejngaa.Buc
open Go.RowKit Ints

/-- the bucket at block g, the times and the numbers that were taken as slices of ints -/
structure TB (w0 w : World) (B g : Nat) (s : BS) (vT vN : Value) (T N : List Int) : Prop where
  f : BW w g s
  t : On w B 3 vT T
  n : On w B 3 vN N
  d : ∀ i, vT.ownBlock = some i → vN.ownBlock ≠ some i
  b : Below B w0 w
  s : B ≤ w.heap.size
  g : B ≤ g
section
variable {w0 w w' : World} {B g : Nat} {s : BS} {vT vN v2 : Value} {T N : List Int} {x n m : Int} {E : Bool} {s' : BS}
theorem on_ng {v : Value} {l : List Int} (h : On w B 3 v l) (k : BW w g s) : ∀ i, v.ownBlock = some i → i ∉ [g] := fun i hi hm => by
  rw [List.mem_singleton.1 hm] at hi
  exact own_apart (t := 47) h k.cel (by decide) hi
theorem TB.below (h : TB w0 w B g s vT vN T N) (k : Below w.heap.size w w') : TB w0 w' B g s vT vN T N := ⟨h.f.below k, h.t.below k, h.n.below k, h.d, h.b.trans (k.mono h.s), Nat.le_trans h.s k.size, h.g⟩
theorem TB.take (h : TB w0 w B g s vT vN T N) (n m : Int) (hE : tkB (adv s m) n = E) (hS : tkS (adv s m) n = s') :
    Calls Try.prog 14 #[.pointer (some ⟨g, 0, none⟩), .int .i64 n, .int .i64 m] w fun e w' => e = .returned (.bool E) ∧ TB w0 w' B g s' vT vN T N := by
  have q := btake_any n m w g s h.f
  rw [hE, hS] at q
  refine q.mono ?_
  rintro e w' ⟨rfl, f, k⟩
  exact ⟨rfl, f, h.t.only k (on_ng h.t h.f), h.n.only k (on_ng h.n h.f), h.d, h.b.trans (k.below h.s (by simpa using h.g)), Nat.le_trans h.s k.size, h.g⟩
theorem TB.appT (h : TB w0 w B g s vT vN T N) (ho : On w' B 3 v2 (T ++ [x])) (hg : (w.alloc (.cells #[I x] 3)).grownBy w' vT.ownBlock) (hv : v2.ownBlock = vT.ownBlock ∨ v2.ownBlock = some (w.alloc (.cells #[I x] 3)).heap.size) :
    TB w0 w' B g s v2 vN (T ++ [x]) N := by
  have b1 := bel_new w (.cells #[I x] 3)
  have q := h.below b1
  have hO : Only vT.ownBlock.toList (w.alloc (.cells #[I x] 3)) w' := Only.of_grown hg
  have hm : ∀ i, i ∈ vT.ownBlock.toList → vT.ownBlock = some i := fun i hi => by simpa using hi
  refine ⟨q.f.only hO (fun hi => on_ng q.t q.f g (hm g hi) (by simp)), ho, q.n.only hO (fun i hi hj => q.d i (hm i hj) hi), fun i hi hj => ?_, q.b.trans (hO.below q.s (fun i hi => (q.t.lt i (hm i hi)).1)), Nat.le_trans q.s hO.size, q.g⟩
  rcases hv with hv | hv
  · exact h.d i (hv ▸ hi) hj
  · rw [hv] at hi
    injection hi with hi
    have := (q.n.lt i hj).2
    omega
theorem TB.appN (h : TB w0 w B g s vT vN T N) (ho : On w' B 3 v2 (N ++ [x])) (hg : (w.alloc (.cells #[I x] 3)).grownBy w' vN.ownBlock) (hv : v2.ownBlock = vN.ownBlock ∨ v2.ownBlock = some (w.alloc (.cells #[I x] 3)).heap.size) :
    TB w0 w' B g s vT v2 T (N ++ [x]) := by
  have b1 := bel_new w (.cells #[I x] 3)
  have q := h.below b1
  have hO : Only vN.ownBlock.toList (w.alloc (.cells #[I x] 3)) w' := Only.of_grown hg
  have hm : ∀ i, i ∈ vN.ownBlock.toList → vN.ownBlock = some i := fun i hi => by simpa using hi
  refine ⟨q.f.only hO (fun hi => on_ng q.n q.f g (hm g hi) (by simp)), q.t.only hO (fun i hi hj => q.d i hi (hm i hj)), ho, fun i hi hj => ?_, q.b.trans (hO.below q.s (fun i hi => (q.n.lt i (hm i hi)).1)), Nat.le_trans q.s hO.size, q.g⟩
  rcases hv with hv | hv
  · exact h.d i hi (hv ▸ hj)
  · rw [hv] at hj
    injection hj with hj
    have := (q.t.lt i hi).2
    omega
end
theorem adv_t {s : BS} {n : Int} (h : s.t ≤ n) (h2 : n ≤ 1099511627776) : (adv s n).t = n ∧ (adv s n).r = s.r ∧ (adv s n).z = s.z := by
  by_cases he : n ≤ s.t
  · rw [adv_no (.inl he)]
    exact ⟨by omega, rfl, rfl⟩
  · rw [adv_yes (by omega) h2]
    exact ⟨rfl, rfl, rfl⟩
theorem mul_in {R G C : Int} (h0 : 0 ≤ R) (h1 : R ≤ 99999) (h2 : -C ≤ G) (h3 : G ≤ C) (hC : 0 ≤ C) : -(99999 * C) ≤ R * G ∧ R * G ≤ 99999 * C := by
  have a1 := Int.mul_le_mul_of_nonneg_left h3 h0
  have a2 := Int.mul_le_mul_of_nonneg_left h2 h0
  have a3 := Int.mul_le_mul_of_nonneg_right h1 hC
  rw [Int.mul_neg] at a2
  omega

set_option maxRecDepth 100000 in
set_option maxHeartbeats 8000000 in
theorem bucketBounds_walk (a z : Int) (l : List (Int × Int × Int)) (w : World) (A : Option Addr) (c : Nat) (hl : Sp w w.heap.size A l) (a0 : 0 ≤ a) (z0 : 0 ≤ z) :
    Calls Try.prog 4 #[.int .u32 a, .int .u32 z, .slice A l.length c] w fun e w' => e = .returned (.bool true) ∧ Below w.heap.size w w' := by
  obtain ⟨n, hn⟩ : ∃ n, n = l.length := ⟨_, rfl⟩
  rw [← hn]
  obtain ⟨R, hR⟩ : ∃ R, R = a % 100000 := ⟨_, rfl⟩
  obtain ⟨Z, hZ⟩ : ∃ Z, Z = z % 1000000 := ⟨_, rfl⟩
  have r0 : 0 ≤ R := by omega
  have r1 : R ≤ 99999 := by omega
  have v0 : 0 ≤ Z := by omega
  have v1 : Z ≤ 999999 := by omega
  have m1 : a.tmod 100000 = R := by rw [Int.tmod_eq_emod_of_nonneg a0, hR]
  have m2 : z.tmod 1000000 = Z := by rw [Int.tmod_eq_emod_of_nonneg z0, hZ]
  have m3 : a % 100000 = R := hR.symm
  have m4 : z % 1000000 = Z := hZ.symm
  have hnew := bnew_any R Z w
  have hs0 : (bs0 R Z).r = R ∧ (bs0 R Z).z = Z ∧ (bs0 R Z).t = 0 := ⟨cl_of r0 (by omega), cl_of v0 (by omega), rfl⟩
  have hk0 := Tk.start R Z
  obtain ⟨s0, hse⟩ : ∃ s0, s0 = bs0 R Z := ⟨_, rfl⟩
  rw [← hse] at hnew hs0 hk0
  obtain ⟨g, hg⟩ : ∃ g, g = w.heap.size := ⟨_, rfl⟩
  have HN := Lib.hid hn
  have HS := Lib.hid hs0
  have HK := Lib.hid hk0
  rw [← hg] at hnew hl ⊢
  have HG := Lib.hid hg
  clear hg hn hse hR hZ hs0 hk0
  go_enter Try.func4, Try.ntmps4
  go_wp2_with fail
  refine hnew.mono ?_
  rintro e w1 ⟨rfl, h1, bw1⟩
  have s1 : g ≤ w1.heap.size := by have := bw1.size; rw [← HG.out] at this; exact this
  clear hnew
  by_cases hbig : 60 < n
  · have t1 : decide ((60 : Int) < (n : Int)) = true := by simp; omega
    have t2 : decide (60 < n) = true := by simpa using hbig
    clear hl hbig
    go_wp2_with fail
    refine (lives_any _).mono ?_
    rintro e w4 ⟨rfl, b4⟩
    go_wp2_with fail
    go_ret
    exact ⟨rfl, bw1.trans (b4.mono s1)⟩
  · have t1 : decide ((60 : Int) < (n : Int)) = false := by simp; omega
    have t2 : decide (60 < n) = false := by simpa using hbig
    have hn1 : n ≤ 60 := by omega
    have hmk := run_make_ints is_ints n (by omega)
    have hmo := fun (W : World) (hW : g ≤ W.heap.size) => On_made W 3 g n hW (by omega)
    obtain ⟨MC, hMC⟩ : ∃ MC, MC = madeCells #[I 0] n := ⟨_, rfl⟩
    rw [← hMC] at hmk hmo
    clear hbig hMC
    go_upto_region 4 with fail
    go_cut [8, 9] from 35 to 40 (fun u v wx => TB w wx g g s0 u v [] [])
    case first =>
      have ba := bel_new w1 (.cells MC 3)
      have bb := bel_new (w1.alloc (.cells MC 3)) (.cells MC 3)
      have bd : Below ((w1.alloc (.cells MC 3)).alloc (.cells MC 3)).heap.size ((w1.alloc (.cells MC 3)).alloc (.cells MC 3)) ((w1.alloc (.cells MC 3)).alloc (.cells MC 3)).drew := ⟨rfl, rfl, rfl, Nat.le_refl _, fun _ _ => rfl⟩
      have o1 := (hmo w1 s1).below bb
      have o2 := hmo (w1.alloc (.cells MC 3)) (Nat.le_trans s1 ba.size)
      have e2 : (w1.alloc (.cells MC 3)).heap.size = w1.heap.size + 1 := by simp
      rw [e2] at o2
      have f2 := (h1.below ba).below bb
      have b2 := (bw1.trans (ba.mono s1)).trans (bb.mono (Nat.le_trans s1 ba.size))
      have s2 := Nat.le_trans s1 (Nat.le_trans ba.size bb.size)
      have Q1 : Hid (TB w ((w1.alloc (.cells MC 3)).alloc (.cells MC 3)).drew g g s0 (.slice (some ⟨w1.heap.size, 0, none⟩) 0 n) (.slice (some ⟨w1.heap.size + 1, 0, none⟩) 0 n) [] []) :=
        Lib.hid (TB.below ⟨f2, o1, o2, fun i hi hj => by simp [Value.ownBlock] at hi hj; omega, b2, s2, Nat.le_refl _⟩ bd)
      have Q2 : Hid (TB w ((w1.alloc (.cells MC 3)).alloc (.cells MC 3)).drew g g s0 (.slice (some ⟨w1.heap.size + 1, 0, none⟩) 0 n) (.slice (some ⟨w1.heap.size, 0, none⟩) 0 n) [] []) :=
        Lib.hid (TB.below ⟨f2, o2, o1, fun i hi hj => by simp [Value.ownBlock] at hi hj; omega, b2, s2, Nat.le_refl _⟩ bd)
      clear ba bb bd o1 o2 e2 f2 b2 s2 hmo
      go_region
      · go_wp2
        go_meet
        case rel => exact Q1.out
      · go_wp2
        go_meet
        case rel => exact Q2.out
    case rest =>
      have Q0 := hcut
      clear hmk hmo h1 bw1 s1
      go_wp2_with fail
      go_loopw [8, 9, 10, 11, 12] (fun u v t i _ wr => ∃ k : Nat, k ≤ n ∧ i = .int .i64 k ∧ ∃ (s : BS) (T N : List Int), t = .int .i64 s.t ∧ TB w wr g g s u v T N ∧ Tk s T N ∧ s.r = R ∧ s.z = Z ∧ s.t ≤ 65535 * (k : Int) ∧ T.length ≤ k) (fun _ _ _ i _ _ => n - (intOf i).toNat)
      case atStart => exact ⟨0, Nat.zero_le _, rfl, s0, [], [], by rw [HS.out.2.2], Q0, HK.out, HS.out.1, HS.out.2.1, by rw [HS.out.2.2]; simp, Nat.le_refl _⟩
      case round =>
        obtain ⟨k, hk, rfl, s, T, N, rfl, q, tk, hr, hz, ht, hlen⟩ := hrel
        clear Q0
        by_cases hlt : k < n
        · obtain ⟨b, off, kd, nn, mm, rfl, hbw, p0, p1, p2, k0⟩ := hl.at_ (k := k) (by rw [← HN.out]; exact hlt)
          have c1 := (q.b.cell (p := ⟨b, off + k * 3 + 1, none⟩) hbw).trans p1
          have c2 := (q.b.cell (p := ⟨b, off + k * 3 + 2, none⟩) hbw).trans p2
          obtain ⟨D, hD⟩ : ∃ D, D = mm % 65536 := ⟨_, rfl⟩
          obtain ⟨E0, hE0⟩ : ∃ E0, E0 = nn % 4294967296 := ⟨_, rfl⟩
          obtain ⟨F, hF⟩ : ∃ F, F = E0 % 1000001 := ⟨_, rfl⟩
          have w1 : IntKind.u16.wrap mm = D := by rw [hD]; rfl
          have w2 : mm % 65536 = D := hD.symm
          have w3 : IntKind.u32.wrap nn = E0 := by rw [hE0]; rfl
          have w4 : nn % 4294967296 = E0 := hE0.symm
          have w5 : E0.tmod 1000001 = F := by rw [Int.tmod_eq_emod_of_nonneg (by omega), hF]
          have w6 : E0 % 1000001 = F := hF.symm
          have d0 : 0 ≤ D := by omega
          have d1 : D ≤ 65535 := by omega
          have f0 : 0 ≤ F := by omega
          have f1 : F ≤ 1000000 := by omega
          have ok := tk.ok
          obtain ⟨t, hte⟩ : ∃ t, t = s.t := ⟨_, rfl⟩
          obtain ⟨X, hX⟩ : ∃ X, X = t + D := ⟨_, rfl⟩
          have x1 : t + D = X := hX.symm
          have x2 : wrap64 X = X := wr64 (by have := ok.t0; omega) (by omega)
          have hadv := adv_t (s := s) (n := X) (by omega) (by omega)
          have tk1 := tk.adv X
          have hS : tkS (adv s X) F = if F ≤ (adv s X).v then ⟨(adv s X).r, (adv s X).z, (adv s X).v - F, (adv s X).t⟩ else adv s X := by
            unfold tkS
            by_cases h : F ≤ (adv s X).v
            · rw [if_pos h, if_pos ⟨f0, h⟩]
            · rw [if_neg h, if_neg (fun q => h q.2)]
          have hB : tkB (adv s X) F = decide (F ≤ (adv s X).v) := by unfold tkB; exact decide_eq_decide.2 (by omega)
          have hXk : X ≤ 65535 * ((k + 1 : Nat) : Int) := by omega
          rw [← hte]
          have HD := Lib.hid (And.intro d0 (And.intro d1 (And.intro f0 (And.intro f1 hXk))))
          have HR := Lib.hid (And.intro hr hz)
          have HH := Lib.hid hlen
          by_cases htk : F ≤ (adv s X).v
          · have y1 := q.take F X (E := true) (by rw [hB]; exact decide_eq_true htk) (by rw [hS, if_pos htk])
            have tk2 := tk1.take f0 htk f1
            rw [hadv.1] at tk2 y1
            have HT := Lib.hid tk2
            have HA := Lib.hid hadv
            clear hD hE0 hF ok hte hX tk tk1 tk2 hadv hS hB hXk d0 f0 f1 p0 p1 p2 hl k0 q htk hr hz ht hlen
            go_wp2_with fail
            refine y1.mono ?_
            rintro e w9 ⟨rfl, q9⟩
            clear y1 c1 c2
            go_wp2_with (first
              | (at_builtin; refine wpList_iapp _ is_ints rfl (.tmp 68) (.tmp 70) rfl rfl (q9.t.alloc _) (l := [X]) (n := 1) rfl rfl (Ns_new1 _ _ X) (by simp) (by have := HH.out; simp; omega) (by simp; have := q9.s; omega) ?_; intro v2 wA hown2 hg2 hv2; have qA := q9.appT hown2 hg2 hv2; clear hown2 hg2 hv2)
              | (at_builtin; refine wpList_iapp _ is_ints rfl (.tmp 72) (.tmp 74) rfl rfl (qA.n.alloc _) (l := [F]) (n := 1) rfl rfl (Ns_new1 _ _ F) (by simp) (by have := HH.out; have := HT.out.len; simp at this; simp; omega) (by simp; have := qA.s; omega) ?_; intro v3 wB hown3 hg3 hv3; have qB := qA.appN hown3 hg3 hv3; clear hown3 hg3 hv3))
            go_roundw
            case rel => exact ⟨k + 1, hlt, by simp, _, _, _, rfl, qB, HT.out, by rw [← HR.out.1]; exact HA.out.2.1, by rw [← HR.out.2]; exact HA.out.2.2, HD.out.2.2.2.2, by have := HH.out; simp; omega⟩
            case measure => simp [intOf]; omega
          · have y1 := q.take F X (E := false) (by rw [hB]; exact decide_eq_false htk) (by rw [hS, if_neg htk])
            have HT := Lib.hid tk1
            have HA := Lib.hid hadv
            clear hD hE0 hF ok hte hX tk tk1 hadv hS hB hXk d0 f0 f1 p0 p1 p2 hl k0 q htk hr hz ht hlen
            go_wp2_with fail
            refine y1.mono ?_
            rintro e w9 ⟨rfl, q9⟩
            clear y1 c1 c2
            go_wp2_with fail
            go_roundw
            case rel => exact ⟨k + 1, hlt, by simp, _, _, _, by rw [HA.out.1], q9, HT.out, by rw [← HR.out.1]; exact HA.out.2.1, by rw [← HR.out.2]; exact HA.out.2.2, by rw [HA.out.1]; exact HD.out.2.2.2.2, by have := HH.out; omega⟩
            case measure => simp [intOf]; omega
        · obtain rfl : k = n := by omega
          obtain ⟨V, hV⟩ : ∃ V, V = wr := ⟨_, rfl⟩
          subst hV
          obtain ⟨M, hM⟩ : ∃ M, M = N.length := ⟨_, rfl⟩
          have hTM : T.length = M := by rw [hM]; exact tk.len
          obtain ⟨A1, c1, rfl, ra, _, _, _⟩ := q.t.reads_len hTM
          obtain ⟨A2, c2, rfl, rb, _, _, _⟩ := q.n.reads_len hM.symm
          have HQ := Lib.hid q
          have HT := Lib.hid tk
          have HR := Lib.hid (And.intro hr (And.intro hz (And.intro hM hTM)))
          have hM60 : M ≤ 60 := by omega
          have ht6 : s.t ≤ 3932100 := by omega
          have HT6 := Lib.hid ht6
          clear q tk hr hz hM hTM ht hlen hl hlt hk ht6
          go_wp2_with fail
          go_loopw [13, 14, 15] (fun i _ _ wx => ∃ j : Nat, j ≤ M ∧ i = .int .i64 j ∧ Below V.heap.size V wx) (fun i _ _ _ => M - (intOf i).toNat)
          case atStart => exact ⟨0, Nat.zero_le _, rfl, Below.refl _ _⟩
          case round =>
            obtain ⟨j, hj, rfl, bj⟩ := hrel
            by_cases hjl : j < M
            · obtain ⟨b1, o1, rfl, hb1, hc1⟩ := ra (by have := HR.out.2.2.2; omega)
              obtain ⟨b2, o2, rfl, hb2, hc2⟩ := rb (by have := HR.out.2.2.1; omega)
              have hs0 : pre N j - pre N j = 0 := Int.sub_self _
              clear ra rb
              go_wp2_with fail
              go_loopw [14, 15] (fun S q wy => ∃ p : Nat, j ≤ p ∧ p ≤ M ∧ q = .int .i64 p ∧ S = .int .i64 (pre N p - pre N j) ∧ Below V.heap.size V wy) (fun _ q _ => M - (intOf q).toNat)
              case atStart => exact ⟨j, Nat.le_refl _, hj, rfl, by rw [hs0], bj⟩
              case round =>
                obtain ⟨p, hjp, hpM, rfl, rfl, bp⟩ := hrel
                clear hs0
                by_cases hpl : p < M
                · have hMT : T.length = M := HR.out.2.2.2
                  have hMN : M = N.length := HR.out.2.2.1
                  obtain ⟨Y1, hY1⟩ : ∃ Y1, Y1 = T.getD p 0 := ⟨_, rfl⟩
                  obtain ⟨Y0, hY0⟩ : ∃ Y0, Y0 = T.getD j 0 := ⟨_, rfl⟩
                  obtain ⟨X, hX⟩ : ∃ X, X = N.getD p 0 := ⟨_, rfl⟩
                  have gD : ∀ (l : List Int) (i : Nat), i < l.length → l[i]? = some (l.getD i 0) := fun l i hi => by rw [List.getD_eq_getElem?_getD, List.getElem?_eq_getElem hi]; rfl
                  have e1 := (bp.cell (p := ⟨b1, o1 + p, none⟩) hb1).trans (hc1 p Y1 (by rw [hY1]; exact gD T p (by omega)))
                  have e0 := (bp.cell (p := ⟨b1, o1 + j, none⟩) hb1).trans (hc1 j Y0 (by rw [hY0]; exact gD T j (by omega)))
                  have ex := (bp.cell (p := ⟨b2, o2 + p, none⟩) hb2).trans (hc2 p X (by rw [hX]; exact gD N p (by omega)))
                  have in1 := HT.out.tm p (by omega)
                  have in0 := HT.out.tm j (by omega)
                  have inx := pre_in HT.out.nm p j hjp (by omega)
                  have iny := pre_in HT.out.nm (p + 1) j (by omega) (by omega)
                  have hdn := HT.out.done j p hjp (by omega)
                  have hpn : pre N (p + 1) = pre N p + X := by rw [hX]; rfl
                  have h6 := HT6.out
                  rw [← hY1] at in1 hdn
                  rw [← hY0] at in0 hdn
                  rw [HR.out.1, HR.out.2.1] at hdn
                  obtain ⟨S, hS⟩ : ∃ S, S = pre N p - pre N j := ⟨_, rfl⟩
                  obtain ⟨S2, hS2⟩ : ∃ S2, S2 = pre N (p + 1) - pre N j := ⟨_, rfl⟩
                  obtain ⟨G, hG⟩ : ∃ G, G = Y1 - Y0 := ⟨_, rfl⟩
                  have hmul := mul_in (R := R) (G := G) (C := 3932100) r0 r1 (by omega) (by omega) (by omega)
                  obtain ⟨P, hP⟩ : ∃ P, P = R * G := ⟨_, rfl⟩
                  obtain ⟨Q, hQ⟩ : ∃ Q, Q = Z + P := ⟨_, rfl⟩
                  rw [← hG, ← hS2] at hdn
                  rw [← hP] at hdn hmul
                  have u1 : S + X = S2 := by omega
                  have u2 : Y1 - Y0 = G := hG.symm
                  have u3 : R * G = P := hP.symm
                  have u4 : Z + P = Q := hQ.symm
                  have b0 : wrap64 S2 = S2 := wr64 (by omega) (by omega)
                  have b3 : wrap64 G = G := wr64 (by omega) (by omega)
                  have b4 : wrap64 P = P := wr64 (by omega) (by omega)
                  have b5 : wrap64 Q = Q := wr64 (by omega) (by omega)
                  have tst : decide (Q < S2) = false := by simp; omega
                  rw [← hS]
                  have HS2 := Lib.hid hS2
                  have HP := Lib.hid hjp
                  clear hY1 hY0 hX gD in1 in0 inx iny hdn hpn h6 hS hS2 hG hmul hP hQ hMT hMN
                  go_wp2_with fail
                  go_quiet (fail)
                  go_wp2_with fail
                  go_roundw
                  case rel => exact ⟨p + 1, by have := HP.out; omega, hpl, by simp, by show Value.int .i64 (wrap64 S2) = _; rw [b0, HS2.out], ⟨bp.os, bp.tape, bp.output, bp.size, bp.block⟩⟩
                  case measure => simp [intOf]; omega
                · obtain rfl : p = M := by omega
                  go_wp2_with fail
                  go_roundw
                  case rel => exact ⟨j + 1, hjl, by simp, bp⟩
                  case measure => simp [intOf]; omega
            · obtain rfl : j = M := by omega
              go_wp2_with fail
              refine (lives_any _).mono ?_
              rintro e w9 ⟨rfl, b9⟩
              go_wp2_with fail
              go_ret
              exact ⟨rfl, HQ.out.b.trans ((bj.trans (b9.mono bj.size)).mono HQ.out.s)⟩
end Go.Proofs.Ytdccfiobcejngaa.Buc
