/-
  Package parts' Split, where the arguments are taken.
-/
import Derived.Test.YtfjmlgclgmcjcaaParSr
namespace Go.Proofs.Ytfjmlgclgmcjcaa.Par
open Go.RowKit Go.Proofs.Ytfjmlgclgmcjcaa.Row
open Pac (Pk bel_new Cel.later Cel.within)

attribute [local go_sem] Oper.semAt_some

set_option maxRecDepth 100000 in
set_option maxHeartbeats 4000000 in
theorem split_in (F : Fence) (n : Nat) (hF : ∀ k, F.fn k) (hro : F.round = none) (hn : 3 ≤ n) (hW : ∀ {f : FuncId} {args : Array Value} {w : World} {R : Ending → World → Prop} (n : Nat), Calls Try.prog f args w R → CallsIn F n Try.prog f args w R)
    (p : Pk) (a0 : Option Addr) (n0 c0 : Nat) (d : List Byte) (b off L cap m N : Nat) (w : World) (hL : Hid (d.length = L)) (hN : Hid (N = num L m)) (h0 : 0 < L) (h1 : 0 < m) (h2 : m ≤ 4090) (h3 : L ≤ 1000000) (hcap : L ≤ cap)
    (hr : rng p.ap 0 p.ct = true) (hd : Bs w w.heap.size (some ⟨b, off, none⟩) d) :
    CallsIn F n Try.prog 10 #[.agg #[.bool p.com, .bool p.sec, .int .i64 p.ap, .int .i64 p.fl, .int .i64 p.ct, .slice a0 n0 c0], .slice (some ⟨b, off, none⟩) L cap, .int .i64 (m : Int)] w fun e w' =>
      ∃ A c, e = .returned (.tuple #[.slice A N c, .int .i64 0]) ∧ PS w' w'.heap.size A (spl p d m) ∧ Below w.heap.size w w' := by
  have k1 := Cel.new w 24 #[.bool p.com, .bool p.sec, .int .i64 p.ap, .int .i64 0, .int .i64 p.ct, .slice a0 n0 c0]
  have b1 := bel_new w (.cells #[.bool p.com, .bool p.sec, .int .i64 p.ap, .int .i64 0, .int .i64 p.ct, .slice a0 n0 c0] 24)
  have hrg := inRange_any p.com p.sec p.ap 0 p.ct a0 n0 c0 (w.alloc (.cells #[.bool p.com, .bool p.sec, .int .i64 p.ap, .int .i64 0, .int .i64 p.ct, .slice a0 n0 c0] 24))
  rw [hr] at hrg
  have hrg := hW (n - 1) hrg
  have t1 : decide ((m : Int) < 1) = false := by simp; omega
  have t2 : decide ((4090 : Int) < (m : Int)) = false := by simp; omega
  have t2' : decide (4090 < m) = false := by simp; omega
  have t3 : ((L : Int) == 0) = false := by simp; omega
  have t3' : (L == 0) = false := by simp; omega

  refine callsIn_of_wp_marks Try.func10 rfl (hF _) ?_ hro
  simp only [Try.ntmps10, List.size_toArray, List.length_cons, List.length_nil, Nat.reduceAdd, Nat.reduceSub, Array.replicate_succ, Array.replicate_zero, List.push_toArray, List.append_toArray, List.nil_append, List.cons_append]
  gi_wp2_with fail
  refine ⟨fun _ => by omega, hrg.mono ?_⟩
  rintro e w2 ⟨rfl, b2⟩
  have k2 := Cel.later k1 b2
  have b3 := b1.trans (b2.mono b1.size)
  clear k1 b1 b2 hrg
  gi_wp2_with fail
  refine ⟨fun _ => by omega, (hW (n - 1) (chunk_any _ _ _ _ t1 _)).mono ?_⟩
  rintro e w3 ⟨rfl, hw3⟩
  gi_wp2_with fail
  rw [← hw3]
  have hz2 : w.heap.size < w2.heap.size := by have := k2.lt; omega
  have hs3 : w3.heap.size = w2.heap.size + 3 := by rw [hw3]; simp
  have e8 : Cel w3 w2.heap.size 26 #[.slice none 0 0] := by
    rw [hw3]
    exact ((Cel.new w2 _ _).only (Only.of_below (S := []) (bel_new _ _)) (by simp)).only (Only.of_below (S := []) (bel_new _ _)) (by simp)
  have es : w3.cell? ⟨w2.heap.size + 1, 0, none⟩ = some (.slice (some ⟨b, off, none⟩) L cap) := by
    rw [hw3]
    have := ((Cel.new (w2.alloc (.cells #[.slice none 0 0] 26)) 22 #[.slice (some ⟨b, off, none⟩) L cap]).only (Only.of_below (S := []) (bel_new _ (.cells #[.int .i64 (m : Int)] 3))) (by simp)).cell 0
    simpa using this
  have en : w3.cell? ⟨w2.heap.size + 1 + 1, 0, none⟩ = some (.int .i64 (m : Int)) := by
    rw [hw3]
    have := (Cel.new ((w2.alloc (.cells #[.slice none 0 0] 26)).alloc (.cells #[.slice (some ⟨b, off, none⟩) L cap] 22)) 3 #[.int .i64 (m : Int)]).cell 0
    simpa using this
  have b23 : Below w2.heap.size w2 w3 := by
    rw [hw3]
    exact (((Below.refl _ w2).alloc (Nat.le_refl _) _).alloc (by simp) _).alloc (by simp; omega) _
  have e3 : Cel w3 w.heap.size 24 (pkc p.com p.sec p.ap 0 ((p.ct + (([] : List Nat).length : Int)) % 16384) (.slice a0 n0 c0)) := by
    have hct := rng_iff.1 hr
    have : (p.ct + (([] : List Nat).length : Int)) % 16384 = p.ct := by simp only [List.length_nil]; omega
    rw [this]
    exact Cel.later k2 b23
  have b03 : Below w.heap.size w w3 := b3.trans (b23.mono b3.size)
  clear hw3 k2 b23 b3
  obtain ⟨hNm, hLm⟩ := And.intro hN.out hL.out
  have hNL : N ≤ L := by rw [hNm]; exact num_le h1
  have HLm := Lib.hid hLm
  clear hLm hNm
  refine wpIn_rangeFunc_ownH hro (by omega) (gf := 27) (lb := #[.pointer (some ⟨w2.heap.size + 1, 0, none⟩), .pointer (some ⟨w2.heap.size + 1 + 1, 0, none⟩)]) rfl (hF _) (enters_of Try.func27 (by kernel_rfl) rfl)
    (chunk_stops F (n - 1) (hF _) hro (by omega) (w2.heap.size + 1) (w2.heap.size + 1 + 1) b off L cap m N hN.out h1 (by omega) (by omega) hcap w3 (by omega) (by omega) es en) Kb.trans (Kb_b (by omega) (by omega)) (Below.refl _ _) (fun _ => rfl)
    (fun pre W => SI w w.heap.size w2.heap.size w3.heap.size p d m (pre.map Fin.val) W ∧ Below w.heap.size w W ∧ w3.heap.size ≤ W.heap.size)
    (fun _ _ _ => False)
    (OwnFrom.and (SI.own w w.heap.size w2.heap.size w3.heap.size N p d m w3.heap.size (by omega)) (OwnFrom.and (ownFrom_below (Nat.le_refl _) (by omega)) (fun _ _ _ _ hs hg _ => Nat.le_trans hs hg.size)))
    (fun _ _ _ _ _ hs _ _ => hs)
    ⟨⟨⟨_, e3⟩, ⟨_, [], e8, Row.Os.nil_ _ _ _, rfl, fun q hq => by cases hq⟩, b03⟩, b03, Nat.le_refl _⟩
    (fun x a' W => a' = { tmps := #[.agg #[.bool p.com, .bool p.sec, .int .i64 p.ap, .int .i64 p.fl, .int .i64 p.ct, .slice a0 n0 c0], .slice (some ⟨b, off, none⟩) L cap, .int .i64 (m : Int), .pointer (some ⟨w.heap.size, 0, none⟩), undef, undef, .slice none 0 0, .int .i64 0, .pointer (some ⟨w2.heap.size, 0, none⟩), pv b off L m x.val, .pointer (some ⟨w.heap.size, 3, none⟩), .agg #[.bool p.com, .bool p.sec, .int .i64 p.ap, .int .i64 0, .int .i64 p.ct, .slice a0 n0 c0], .bool true, .bool false, .bool false, .int .i64 (m : Int), .bool false, .bool false, .bool false, .int .i64 (m : Int), .bool false, .bool false, .bool false, .slice (some ⟨b, off, none⟩) L cap, .int .i64 (L : Int), .bool false, .bool false, .slice (some ⟨b, off, none⟩) L cap, .int .i64 (m : Int), .func (.func 27) #[] #[.pointer (some ⟨w2.heap.size + 1, 0, none⟩), .pointer (some ⟨w2.heap.size + 1 + 1, 0, none⟩)], pv b off L m x.val, undef, undef, undef, undef, undef, undef, undef, undef, undef, undef, undef, undef, undef, undef, undef, undef, undef, undef, undef, undef, undef, undef, undef, undef, undef, undef, undef, undef, undef], defers := [] })
    (fun x a' _ X Y row hs hg hr => hs)
    ?assign ?body ?done ?stop
  case assign =>
    rintro l pre x W K ⟨hI, hB, hz⟩ hK
    gi_wp2
    exact hK _ _ ((KeepsOthers.refl W).from _) Kb.refl ⟨hI, hB, hz⟩ rfl
  case body =>
    rintro l pre x a' W hl' _ ⟨⟨⟨dv, hc⟩, ⟨v, qs, hb, hrow, he, ho⟩, hk⟩, hB, hz⟩ rfl hlt
    obtain ⟨ks, hks⟩ : ∃ ks, ks = pre.map Fin.val := ⟨_, rfl⟩
    have hkl : ks.length < N := by rw [hks, List.length_map]; exact hlt
    rw [← hks] at hc he
    have hqs : qs.length = ks.length := by have := congrArg List.length he; simpa [mids_len] using this
    obtain ⟨E, hE⟩ : ∃ E, E = min m (L - x.val * m) := ⟨_, rfl⟩
    have hpl : (piece d m x.val).length = E := by rw [piece_len, HLm.out, hE]
    have hE3 : E ≤ 1000000 := by omega
    have hcl := hW (n - 1 - 1 - 1) (clone_any (some ⟨b, off + x.val * m, none⟩) (piece d m x.val) E E W (Lib.hid hpl) (Bs_cut ((hd.below hk).more hk.size) x.val) (fun e => by cases e) (by omega))
    obtain ⟨ct, hct⟩ : ∃ ct, (p.ct + (ks.length : Int)) % 16384 = ct := ⟨_, rfl⟩
    have hnx : sadd ct 1 14 = (p.ct + ((ks.length + 1 : Nat) : Int)) % 16384 := by rw [← hct]; exact mid_next p ks.length
    obtain ⟨nx, hnx'⟩ : ∃ nx, sadd ct 1 14 = nx := ⟨_, rfl⟩
    have had := fun W => hW (n - 1 - 1 - 1) (add_any ct 1 14 W)
    simp only [hnx'] at had
    have hst := fun W2 W4 v' A3 c3 o (b2 : Below W.heap.size W W2) => SI_step (W4 := W4) (v' := v') (A3 := A3) (c3 := c3) (o := o) (m := m) (x := x.val) (g3 := w.heap.size) (by omega) (by omega) (by omega) hz (Nat.le_refl _) (Nat.le_of_lt hz2) hb hrow he ho hk hc b2 hpl
    rw [hnx'.symm.trans hnx |>.symm] at hst
    have hen : ∀ A3 c3, enc ⟨mid p d m ks.length x.val, A3, c3⟩ = [.bool p.com, .bool p.sec, .int .i64 p.ap, .int .i64 0, .int .i64 ct, .slice A3 E c3] := fun A3 c3 => by unfold enc mid; rw [hct, hpl]
    simp only [hct] at hc hst
    simp only [hen] at hst
    have HST := Lib.hid hst
    unfold pv
    rw [← hE]
    have HPL := Lib.hid hpl
    have hq9 : qs.length + 1 ≤ 1000000 := by omega
    have HQ := Lib.hid (And.intro hqs hks)
    clear hct hnx hnx' hE hpl hst hen hqs hks he hkl
    gi_wp2_with fail
    refine ⟨fun _ => by omega, (CallsIn.inRound l hcl).mono ?_⟩
    rintro e W2 ⟨dv2, rfl, o2, b2⟩
    obtain ⟨A3, c3, rfl, _⟩ := o2.reads_len HPL.out
    have hne : w.heap.size ≠ w2.heap.size := by omega
    have x2 := hc.only (Only.of_below (S := []) b2) (by simp)
    have x3 := x2.put 5 (.slice A3 E c3)
    have y3 := (hb.only (Only.of_below (S := []) b2) (by simp)).only (put_only W2 w.heap.size 5 (.slice A3 E c3)) (by simp; omega)
    have hl3 := hrow.lt
    have r3 : (W2.setCell ⟨w.heap.size, 5, none⟩ (.slice A3 E c3)).ownsRow w3.heap.size 24 6 v qs.length (flat enc qs) :=
      (hrow.only (Only.of_below (S := []) b2) (by simp)).only (put_only W2 w.heap.size 5 (.slice A3 E c3)) (fun i hi => by have := (hl3 i hi).1; simp; omega)
    have c5 := x2.cell 5
    have f5 := x2.free 5
    have g0 := x3.cell 0
    have g1 := x3.cell 1
    have g2 := x3.cell 2
    have g3 := x3.cell 3
    have g4 := x3.cell 4
    have g5 := x3.cell 5
    have j0 := y3.cell 0
    simp [pkc] at c5 g0 g1 g2 g3 g4 g5 j0
    have hsz : (W2.setCell ⟨w.heap.size, 5, none⟩ (.slice A3 E c3)).heap.size = W2.heap.size := by simp [World.setCell]
    have hb2s := b2.size
    obtain ⟨_, hzc, i0, hi, hz0, hz1, hz2'⟩ := is_packets
    have hd1 : 1 ≤ n - 1 - 1 := by omega
    clear x2 x3 y3 hl3 hcl
    gi_wp2_with (first
      | (gi_at_builtin; refine wpListIn_append_own _ rfl _ _ 26 rfl w3.heap.size 24 i0 _ 6 56 Try.underlying26 hi hz0 hz1 hz2' hzc (by decide) v qs.length (flat enc qs) rfl (World.ownsRow.alloc r3 _) ⟨W2.heap.size, 0, none⟩ 1 1 [.bool p.com, .bool p.sec, .int .i64 p.ap, .int .i64 0, .int .i64 ct, .slice A3 E c3] rfl rfl (cell_new6 _ _ hsz _ _ _ _ _ _ _) (by simp [Value.oneCell']) (by unfold maxLen; omega) (by omega) (by simp; omega) ?_; intro v' W4 hown' hgrow _; obtain ⟨y4, x4, hSI, hO⟩ := HST.out _ _ _ _ _ _ b2 o2 hown' hgrow; obtain ⟨g', cap', rfl⟩ := ownsRow_succ hown'; have k0 := y4.cell 0; have k1 := y4.free 0; have x5 := x4.only (put_only W4 w2.heap.size 0 (.slice (some ⟨g', 0, none⟩) (qs.length + 1) cap')) (by simpa using hne); have k4 := x5.cell 4; have k5 := x5.free 4; simp [pkc] at k0 k4)
      | (gi_at_call 22; refine (CallsIn.inRound l (had _)).mono ?_; rintro e W5 ⟨rfl, rfl⟩))
    have hw8 := hO.size
    have hl3 := hrow.lt
    refine ⟨(keeps_only hO fun i hi o ho => ?_).from _, Kb.only hO (by omega) (by omega) (fun hm => ?_) (fun hm => ?_), by rw [List.map_append, List.map_cons, List.map_nil, ← HQ.out.2]; exact hSI, hB.trans (hO.below hB.size fun i hi => ?_), by omega⟩
    · rcases List.mem_cons.1 hi with rfl | hi
      · rw [show W.heap[w.heap.size]? = _ from hc] at ho; cases ho; rfl
      · rcases List.mem_cons.1 hi with rfl | hi
        · rw [show W.heap[w2.heap.size]? = _ from hb] at ho; cases ho; rfl
        · obtain ⟨cs, hcs⟩ := own_cel hrow (i := i) (by simpa using hi)
          rw [show W.heap[i]? = _ from hcs] at ho; cases ho; rfl
    · rcases List.mem_cons.1 hm with e | hm
      · omega
      · rcases List.mem_cons.1 hm with e | hm
        · omega
        · have := (hl3 _ (by simpa using hm)).1; omega
    · rcases List.mem_cons.1 hm with e | hm
      · omega
      · rcases List.mem_cons.1 hm with e | hm
        · omega
        · have := (hl3 _ (by simpa using hm)).1; omega
    · rcases List.mem_cons.1 hi with e | hm
      · omega
      · rcases List.mem_cons.1 hm with e | hm
        · omega
        · have := (hl3 _ (by simpa using hm)).1; omega
  case done =>
    rintro D ys W hD rfl ⟨⟨⟨dv, hc⟩, ⟨v, qs, hb, hrow, he, ho⟩, hk⟩, hB, hz⟩ hK
    rw [finRange_val] at he
    have hqs : qs.length = N := by have := congrArg List.length he; simpa [mids_len] using this
    have hN0 : 0 < N := by rw [hN.out]; exact num_pos h1 h0
    obtain ⟨g, c, rfl, hg, hNc, _⟩ := hrow.row (by omega)
    obtain ⟨⟨u0, hfz⟩, u1, qs', he', hr', ho'⟩ := SI_end hrow rfl he ho (by rw [HLm.out]; exact hN.out) hN0
    have j0 := hb.cell 0
    rw [hqs] at j0
    simp at j0
    have hfa := fun j => (hfz (.int .i64 1) 3 j).1
    have hfb := fun j => (hfz (.int .i64 1) 3 j).2
    obtain ⟨cg, hcg⟩ := own_cel hrow (i := g) rfl
    have hDg : D ≠ g := fun e => by rw [e, show W.heap[g]? = _ from hcg] at hK; cases hK
    have hOf := fun (i j : Nat) (u u' : Value) => (((Only.refl [g] W).put (p := ⟨g, i, none⟩) (.inl (by simp)) u).put (p := ⟨g, j, none⟩) (.inl (by simp)) u')
    have hKf := fun i j u u' => ((hOf i j u u').block D (lt_of_block hK) (by simpa using hDg)).trans hK
    have hBf := fun i j u u' => hB.trans ((hOf i j u u').below hB.size (fun x hx => by obtain rfl := List.mem_singleton.1 hx; omega))
    rw [hqs] at hr'
    have HR := And.intro he' (And.intro hr' ho')
    have o1 : bits .or .i64 0 1 = 1 := by kernel_rfl
    have o2 : bits .or .i64 1 2 = 3 := by kernel_rfl
    have o3 : bits .or .i64 0 2 = 2 := by kernel_rfl
    clear hqs he' hr' ho' hfz he hb hrow ho hc hcg hOf
    by_cases e1 : N = 1
    · subst e1
      rw [if_pos rfl] at u1 HR
      have HR := Lib.hid HR
      have n1 : (((1 : Nat) : Int)) - 1 = 0 := rfl
      have HK := Lib.hid hKf
      have HB := Lib.hid hBf
      clear hKf hBf
      gi_wp2
      have hKf := HK.out
      have hBf := HB.out
      refine ⟨by simp, .inl ⟨_, _, rfl, run_takeDeferred (hKf _ _ _ _), ?_⟩⟩
      exact ⟨_, results_tmp2 rfl _ _ _, some ⟨g, 0, none⟩, ⟨c, rfl⟩, PS_put _ HR.out.2.1 HR.out.1 HR.out.2.2 (hKf _ _ _ _) rfl, (hBf _ _ _ _).trans (belowK_b (w := w) (Nat.le_refl _) _ D _ _ (by omega) (hKf _ _ _ _) rfl rfl)⟩
    · rw [if_neg e1] at u1 HR
      obtain ⟨I, hI⟩ : ∃ I, I = N - 1 := ⟨_, rfl⟩
      rw [← hI] at u1 HR
      have HR := Lib.hid HR
      have n1 : (N : Int) - 1 = (I : Int) := by omega
      have n2 : I < N := by omega
      have HI := Lib.hid hI
      have HK := Lib.hid hKf
      have HB := Lib.hid hBf
      clear hKf hBf hI e1
      gi_wp2
      have hKf := HK.out
      have hBf := HB.out
      refine ⟨by simp, .inl ⟨_, _, rfl, run_takeDeferred (hKf _ _ _ _), ?_⟩⟩
      exact ⟨_, results_tmp2 rfl _ _ _, some ⟨g, 0, none⟩, ⟨c, rfl⟩, PS_put _ HR.out.2.1 HR.out.1 HR.out.2.2 (hKf _ _ _ _) rfl, (hBf _ _ _ _).trans (belowK_b (w := w) (Nat.le_refl _) _ D _ _ (by omega) (hKf _ _ _ _) rfl rfl)⟩
  case stop =>
    rintro D c pre W _ _ h _
    exact h.elim
theorem split_any (p : Pk) (a0 : Option Addr) (n0 c0 : Nat) (d : List Byte) (A : Option Addr) (cap : Nat) (most : Int) (w : World) (hd : Dt w w.heap.size d A cap) (h3 : d.length ≤ 1000000) :
    Calls Try.prog 10 #[.agg #[.bool p.com, .bool p.sec, .int .i64 p.ap, .int .i64 p.fl, .int .i64 p.ct, .slice a0 n0 c0], .slice A d.length cap, .int .i64 most] w fun e w' =>
      ∃ A' c, e = .returned (.tuple #[.slice A' (spP p d most).length c, .int .i64 (spE p d.length most)]) ∧ PS w' w'.heap.size A' (spP p d most) ∧ Below w.heap.size w w' := by
  unfold spP spE
  cases h : spOk p d.length most with
  | false =>
    refine (split_no p.com p.sec p.ap p.fl p.ct a0 n0 c0 A d.length cap most w h).mono ?_
    rintro e w' ⟨rfl, hb⟩
    exact ⟨none, 0, rfl, PS.nil_, hb⟩
  | true =>
    obtain ⟨hp, hm1, hm2, h0⟩ := spOk_iff.1 h
    obtain ⟨m, rfl⟩ : ∃ m : Nat, most = (m : Int) := ⟨most.toNat, by omega⟩
    obtain ⟨b, off, rfl, _, _⟩ := hd.b h0
    rw [if_pos rfl, if_pos rfl, spl_len]
    refine (callsIn_wide.1 (split_in Fence.wide 3 (fun _ => trivial) rfl (by omega) (fun _ h => callsIn_wide.2 h) p a0 n0 c0 d b off d.length cap m _ w (Lib.hid rfl) (Lib.hid rfl) h0 (by omega) (by omega) h3 hd.l (rng_iff.2 (by omega)) hd.b)).mono ?_
    rintro e w' ⟨A', c, rfl, hps, hb⟩
    exact ⟨A', c, rfl, hps, hb⟩
end Go.Proofs.Ytfjmlgclgmcjcaa.Par
