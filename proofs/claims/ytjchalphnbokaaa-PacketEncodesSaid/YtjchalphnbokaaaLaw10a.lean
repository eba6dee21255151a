/-
  The walks of 'alive' of layer 10, and of the laws PacketIdles and PacketDecodes.
-/
import Derived.Test.YtjchalphnbokaaaRef10d
import Derived.Test.YtjchalphnbokaaaPacW5
import Derived.Test.YtjchalphnbokaaaLater
namespace Go.Proofs.Ytjchalphnbokaaa.Pac
open Go.RowKit

set_option maxHeartbeats 4000000 in
theorem alive10_any (w : World) : Calls Try.prog 11 #[] w fun e w' => e = .returned (.bool true) ∧ Below w.heap.size w w' := by
  have a1 : Pk.err ⟨true, false, 10, 3, 1, [170#8, 187#8]⟩ = 0 := by decide +kernel
  have a2 : Pk.enc ⟨true, false, 10, 3, 1, [170#8, 187#8]⟩ = [16#8, 10#8, 192#8, 1#8, 0#8, 1#8, 170#8, 187#8] := by decide +kernel
  have a3 : idE 7 = 0 := by decide +kernel
  have a4 : idV 7 = [7#8, 255#8, 192#8, 0#8, 0#8, 0#8, 0#8] := by decide +kernel
  have a5 : siE [0#8, 0#8, 0#8, 0#8, 15#8, 250#8] = 6 := by decide +kernel
  have a6 : siN [0#8, 0#8, 0#8, 0#8, 15#8, 250#8] = 0 := by decide +kernel
  have b1 := bel_new w (.cells #[.int .u8 170, .int .u8 187] 5)
  have x1 := encode_any true false 10 3 1 (some ⟨w.heap.size, 0, none⟩) [170#8, 187#8] 2 2 (w.alloc (.cells #[.int .u8 170, .int .u8 187] 5)) (Lib.hid rfl) (Bs_new _ _ _ _ (by simp) _ (by simp)) (fun h => nomatch h) (by decide)
  have x2 := fun W : World => idle_any 7 W (by decide)
  have x3 := fun W : World => size_any (some ⟨W.heap.size, 0, none⟩) [0#8, 0#8, 0#8, 0#8, 15#8, 250#8] 6 6 (W.alloc (.cells #[.int .u8 0, .int .u8 0, .int .u8 0, .int .u8 0, .int .u8 15, .int .u8 250] 5)) (Lib.hid rfl) (Bs_new _ _ _ _ (by simp) _ (by simp)) (fun h => nomatch h) (by decide) (by decide)
  simp only [a1, a2] at x1
  simp only [a3, a4] at x2
  simp only [a5, a6] at x3
  clear a1 a2 a3 a4 a5 a6
  go_enter Try.func11, Try.ntmps11
  go_wp2_with fail
  refine x1.mono ?_
  rintro e w1 ⟨v1, rfl, o1, h1⟩
  obtain ⟨A1, c1, rfl, hA1, hn1, _, _⟩ := o1.reads_len (n := 8) rfl
  have bel1 := b1.trans (h1.mono b1.size)
  clear x1 h1 b1
  go_wp2_with fail
  refine (x2 _).mono ?_
  rintro e w2 ⟨v2, rfl, o2, h2⟩
  obtain ⟨A2, c2, rfl, hA2, hn2, _, _⟩ := o2.reads_len (n := 7) rfl
  have bel2 := bel1.trans (h2.mono bel1.size)
  have b3 := bel_new w2 (.cells #[.int .u8 0, .int .u8 0, .int .u8 0, .int .u8 0, .int .u8 15, .int .u8 250] 5)
  clear x2
  go_wp2_with fail
  refine (x3 _).mono ?_
  rintro e w3 ⟨rfl, h3⟩
  have k3 := b3.trans (h3.mono b3.size)
  have k2 := h2.trans (k3.mono h2.size)
  have bel3 := bel2.trans (k3.mono bel2.size)
  have s1 := run_str (P := Try.prog) w3 is_bytes Try.underlying9 (hA1.below k2) hn1
  have s2 := run_str (P := Try.prog) w3 is_bytes Try.underlying9 (hA2.below k3) hn2
  simp only [List.length_cons, List.length_nil, Nat.zero_add, Nat.reduceAdd] at s1 s2
  have e1 : ((str [16#8, 10#8, 192#8, 1#8, 0#8, 1#8, 170#8, 187#8]).toList == [16, 10, 192, 1, 0, 1, 170, 187]) = true := by decide +kernel
  have e2 : ((str [7#8, 255#8, 192#8, 0#8, 0#8, 0#8, 0#8]).toList == [7, 255, 192, 0, 0, 0, 0]) = true := by decide +kernel
  clear x3 h3 b3 k2 k3 h2 o1 o2 hA1 hA2 bel1 bel2
  go_wp2
  go_ret
  exact ⟨rfl, bel3⟩

set_option maxHeartbeats 2000000 in
theorem packetIdles_walk (s : Int) (w : World) (hs : -9223372036854775808 ≤ s ∧ s ≤ 9223372036854775807) :
    Calls Try.prog 5 #[.int .i64 s] w fun e w' => e = .returned (.bool true) ∧ Below w.heap.size w w' := by
  have x1 := fun W => idle_any s W hs
  have x2 := fun W => xidle_any s W hs
  obtain ⟨E, hE⟩ : ∃ E, E = idV s := ⟨_, rfl⟩
  obtain ⟨q, hq⟩ : ∃ q, q = idE s := ⟨_, rfl⟩
  simp only [← hE, ← hq] at x1 x2
  have e1 : ((str E).toList == (str E).toList) = true := by simp
  have e2 : (q == q) = true := by simp
  clear hE hq hs
  go_enter Try.func5, Try.ntmps5
  go_wp2_with fail
  refine (x1 _).mono ?_
  rintro e w1 ⟨v1, rfl, o1, h1⟩
  obtain ⟨A1, c1, rfl, hA1, hn1, _, _⟩ := o1.reads
  clear x1
  go_wp2_with fail
  refine (x2 _).mono ?_
  rintro e w2 ⟨v2, rfl, o2, h2⟩
  obtain ⟨A2, c2, rfl, hA2, hn2, _, _⟩ := o2.reads
  have bel2 := h1.trans (h2.mono h1.size)
  have s1 := run_str (P := Try.prog) w2 is_bytes Try.underlying9 (hA1.below h2) hn1
  have s2 := run_str (P := Try.prog) w2 is_bytes Try.underlying9 hA2 hn2
  clear x2 h1 h2 o1 o2 hA1 hA2
  go_wp2_with fail
  refine (alive10_any _).mono ?_
  rintro e w3 ⟨rfl, h3⟩
  go_wp2
  go_ret
  exact ⟨rfl, bel2.trans (h3.mono bel2.size)⟩

set_option maxHeartbeats 4000000 in
theorem packetDecodes_walk (a : Option Addr) (l : List Byte) (n c : Nat) (w : World) (hl : Hid (l.length = n)) (hb : Bs w w.heap.size a l) (hn : a = none → c = 0) (hnc : n ≤ c) (hcm : c ≤ maxLen) :
    Calls Try.prog 4 #[.slice a n c] w fun e w' => e = .returned (.bool true) ∧ Below w.heap.size w w' := by
  have x1 := fun W hB => size_any a l n c W hl hB hn hnc hcm
  have x2 := fun W hB => xsize_any a l n c W hl hB hn hnc hcm
  have x3 := fun W hB => decode_any a l n c W hl hB hn hnc hcm
  have x4 := fun W hB => xdecode_any a l n c W hl hB hn hnc hcm
  obtain ⟨P, hP⟩ : ∃ P, P = deP l := ⟨_, rfl⟩
  obtain ⟨com, sec, ap, fl, ct, d⟩ := P
  obtain ⟨N, hN⟩ : ∃ N, N = siN l := ⟨_, rfl⟩
  obtain ⟨E, hE⟩ : ∃ E, E = siE l := ⟨_, rfl⟩
  obtain ⟨M, hM⟩ : ∃ M, M = deN l := ⟨_, rfl⟩
  obtain ⟨G, hG⟩ : ∃ G, G = deE l := ⟨_, rfl⟩
  simp only [← hN, ← hE] at x1 x2
  simp only [← hP, ← hM, ← hG] at x3 x4
  have e1 : (E == E) = true := by simp
  have e2 : (G == G) = true := by simp
  have e3 : ((N : Int) == (N : Int)) = true := by simp
  have e4 : ((M : Int) == (M : Int)) = true := by simp
  clear hP hN hE hM hG hl hn hnc hcm
  go_enter Try.func4, Try.ntmps4
  go_wp2_with fail
  refine (x1 _ hb).mono ?_
  rintro e w1 ⟨rfl, h1⟩
  have hb1 := (hb.below h1).more h1.size
  have bel1 := h1
  clear x1 h1
  go_wp2_with fail
  refine (x2 _ hb1).mono ?_
  rintro e w2 ⟨rfl, h2⟩
  have bel2 := bel1.trans (h2.mono bel1.size)
  have hb2 := (hb.below bel2).more bel2.size
  clear x2 h2 hb1 bel1
  go_wp2_with fail
  refine (x3 _ hb2).mono ?_
  rintro e w3 ⟨v3, rfl, o3, h3⟩
  obtain ⟨A3, c3, rfl, hA3, hn3, _, _⟩ := o3.reads
  have bel3 := bel2.trans (h3.mono bel2.size)
  have k3 := bel_new w3 (.cells #[.bool com, .bool sec, .int .i64 ap, .int .i64 fl, .int .i64 ct, .slice A3 d.length c3] 24)
  have p3 := Cel.new w3 24 #[.bool com, .bool sec, .int .i64 ap, .int .i64 fl, .int .i64 ct, .slice A3 d.length c3]
  have bel3' := bel3.trans (k3.mono bel3.size)
  have hb3 := (hb.below bel3').more bel3'.size
  have hA3' := (hA3.below k3).more k3.size
  clear x3 h3 hb2 bel2 bel3 k3 hA3 o3
  go_wp2_with fail
  refine (x4 _ hb3).mono ?_
  rintro e w4 ⟨v4, rfl, o4, h4⟩
  obtain ⟨A4, c4, rfl, hA4, hn4, _, _⟩ := o4.reads
  have bel4 := bel3'.trans (h4.mono bel3'.size)
  have p4 := Cel.later p3 h4
  have k4 := bel_new w4 (.cells #[.bool com, .bool sec, .int .i64 ap, .int .i64 fl, .int .i64 ct, .slice A4 d.length c4] 24)
  have p4' := Cel.later p4 k4
  have bel4' := bel4.trans (k4.mono bel4.size)
  have hA34 := ((hA3'.below h4).more h4.size)
  have hA34' := ((hA34.below k4).more k4.size)
  have hA44 := ((hA4.below k4).more k4.size)
  have m0 := p4'.cell 0
  have m1 := p4'.cell 1
  have m2 := p4'.cell 2
  have m3 := p4'.cell 3
  have m4 := p4'.cell 4
  have m5 := p4'.cell 5
  simp at m0 m1 m2 m3 m4 m5
  have x5 := fun W hB hB' => xsame_any com sec ap fl ct A3 A4 d d.length c3 c4 W (Lib.hid rfl) hB hB' hn3 hn4
  have x5' := x5 _ hA34' hA44
  clear x4 h4 hb3 bel3' bel4 k4 hA34 hA3' hA4 o4 x5 p3 p4 p4' hA34' hA44
  go_wp2_with fail
  refine x5'.mono ?_
  rintro e w5 ⟨rfl, h5⟩
  have bel5 := bel4'.trans (h5.mono bel4'.size)
  clear x5' h5 bel4' m0 m1 m2 m3 m4 m5
  go_wp2_with fail
  refine (alive10_any _).mono ?_
  rintro e w6 ⟨rfl, h6⟩
  go_wp2
  go_ret
  exact ⟨rfl, bel5.trans (h6.mono bel5.size)⟩
end Go.Proofs.Ytjchalphnbokaaa.Pac
