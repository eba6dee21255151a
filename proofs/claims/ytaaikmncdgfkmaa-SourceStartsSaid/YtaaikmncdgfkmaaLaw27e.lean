/-
  Package source, the laws: SourceStarts.
-/
import Derived.Test.YtaaikmncdgfkmaaLaw27c
import Derived.Test.YtaaikmncdgfkmaaRef27b
namespace Go.Proofs.Ytaaikmncdgfkmaa.Src
open Go.RowKit
open Go.Proofs.Ytaaikmncdgfkmaa.Pdu (Pd Gx Bx Px)

theorem Sts.later' {w : World} {B B' : Nat} {A : Option Addr} {l : List St27} (h : Sts w B A l) (hB : B ≤ B') : Sts w B' A l := fun k o ho => by
  obtain ⟨b, off, aA, nA, cA, aG, nG, cG, q⟩ := h k o ho
  exact ⟨b, off, aA, nA, cA, aG, nG, cG, ⟨q.e, Nat.lt_of_lt_of_le q.hb hB, q.c0, q.c1, q.c2, q.c3, q.c4, q.c5, q.c6, q.c7, q.c8, q.c9, q.c10, q.c11, q.c12, q.kb, q.sb, q.lA, q.rA.more hB, q.zA, q.mA, q.xA, q.lG, q.rG.more hB, q.zG, q.mG, q.xG⟩⟩
def KZ : Kc := ⟨0, 0, 0, [], [], 0, 0, 0⟩
def sZ : SS := ⟨0, false, 0, false, 0, false, [], false, false, 0, 0, 0⟩
set_option maxRecDepth 100000 in
set_option maxHeartbeats 8000000 in
theorem starts_walk (sr nm cl : Int) (na da : List Byte) (ch tt rt : Int) (l : List St27) (A : Option Addr) (n a : Nat) (Sp : Option Addr) (L c : Nat) (w : World) (hd : Bx w A da n a) (hl : l.length = L) (hs : Sts w w.heap.size Sp l) :
    Calls Try.prog 3 #[.agg #[.int .i64 sr, .int .i64 nm, .int .i64 cl, .string (str na), .slice A n a, .int .i64 ch, .int .i64 tt, .int .i64 rt, .slice Sp L c]] w fun e w' => e = .returned (.bool true) ∧ Below w.heap.size w w' := by
  obtain ⟨W, hW, hq, hb, hsz⟩ := askbox w sr nm cl na A n a ch tt rt Sp L c
  have c0 := hq.c0
  have c1 := hq.c1
  have c2 := hq.c2
  have c3 := hq.c3
  have c4 := hq.c4
  have c5 := hq.c5
  have c6 := hq.c6
  have c7 := hq.c7
  have c8 := hq.c8
  have hsm := small_any sr nm cl na ch tt rt l A n a Sp L c W hl ((hs.below hb).later' hb.size)
  have HH := Lib.hid (And.intro hd (And.intro hb (And.intro hq hsz)))
  clear hd hl hs hq hb hsz
  go_enter Try.func3, Try.ntmps3
  go_upto_region 1 with fail
  rw [← hW]
  clear hW
  go_wp2_with fail
  refine hsm.mono ?_
  rintro e w1 ⟨⟨b, rfl⟩, b1⟩
  clear hsm c0 c1 c2 c3 c4 c5 c6 c7 c8
  obtain ⟨hd, hb, hq, hsz⟩ := HH.out
  have B1 := hb.trans (b1.mono hb.size)
  have q1 := hq.below b1
  have d1 := hd.later B1
  have HD := Lib.hid hd
  clear HH hd hb hq b1
  cases b with
  | false =>
    have HB := Lib.hid B1
    clear B1 q1 d1
    go_wp2_with fail
    refine (lives_any _).mono ?_
    rintro e w2 ⟨rfl, b2⟩
    have HE := Lib.hid (HB.out.trans (b2.mono HB.out.size))
    clear b2
    go_wp2
    go_ret
    exact ⟨rfl, HE.out⟩
  | true =>
    have c0 := q1.c0
    have c1 := q1.c1
    have c2 := q1.c2
    have c3 := q1.c3
    have c4 := q1.c4
    have c5 := q1.c5
    have c6 := q1.c6
    have c7 := q1.c7
    cases hacc : Kc.acc (⟨sr, nm, cl, na, da, ch, tt, rt⟩ : Kc) with
    | false =>
      have hnw := snew_no sr nm cl na da ch tt rt A n a w1 d1 hacc
      have HB := Lib.hid (And.intro B1 (And.intro q1 hacc))
      clear B1 q1 d1 hacc
      go_wp2_with fail
      refine hnw.mono ?_
      rintro e w2 ⟨rfl, b2⟩
      clear hnw c0 c1 c2 c3 c4 c5 c6 c7
      obtain ⟨B1, q1, hacc⟩ := HB.out
      have B2 := B1.trans (b2.mono B1.size)
      have q2 := q1.below b2
      have hxn := xnew_no sr nm cl na da ch tt rt A n a w2 (HD.out.later B2) hacc
      have c0 := q2.c0
      have c1 := q2.c1
      have c2 := q2.c2
      have c3 := q2.c3
      have c4 := q2.c4
      have c5 := q2.c5
      have c6 := q2.c6
      have c7 := q2.c7
      have HC := Lib.hid B2
      clear B1 q1 hacc b2 B2 q2 HB HD
      go_wp2_with fail
      refine hxn.mono ?_
      rintro e w3 ⟨rfl, b3⟩
      clear hxn c0 c1 c2 c3 c4 c5 c6 c7
      obtain ⟨W4, hW4⟩ : ∃ W4, W4 = w3.alloc (.cells #[.int .i64 0, .int .i64 0, .int .i64 0, .string ⟨#[]⟩, .slice none 0 0, .int .i64 0, .int .i64 0, .int .i64 0, .int .i64 0, .int .i64 0, .int .i64 0, .int .i64 0, .int .i64 0, .bool false, .bool false, .bool false, .bool false, .bool false, .slice none 0 0, .int .i64 0] TX) := ⟨_, rfl⟩
      have B3 := HC.out.trans (b3.mono HC.out.size)
      have b4 : Below w3.heap.size w3 W4 := by rw [hW4]; exact bel_new _ _
      have x4 : XC W4 w3.heap.size KZ sZ none 0 0 none 0 0 := by rw [hW4]; exact Cel.new _ _ _
      have hst : Calls Try.prog 10 #[.pointer none] W4 fun e w' => e = .returned (.int .i64 0) ∧ W4 = w' := sstate_idle _ _ (.inl rfl)
      have hco : Calls Try.prog 12 #[.pointer none] W4 fun e w' => e = .returned (.int .i64 0) ∧ W4 = w' := scode_idle _ _ (.inl rfl)
      have hxs : Calls Try.prog 11 #[.pointer (some ⟨w3.heap.size, 0, none⟩)] W4 fun e w' => e = .returned (.int .i64 0) ∧ W4 = w' := xst_0 x4 rfl
      have HE := Lib.hid (B3.trans (b4.mono B3.size))
      clear x4 b3 b4 B3 HC
      go_upto_region 5 with (first
        | (refine wpList_big_alloc rfl rfl al_x ?_; rintro W' rfl)
        | (refine wpList_big_new rfl TX (.tmp 5) (.tmp 37) rfl rfl rfl (by kernel_rfl) rfl (by simp [Value.oneCell']) ?_))
      rw [← hW4]
      clear hW4
      go_wp2_with fail
      refine hst.mono ?_
      rintro e w5 ⟨rfl, rfl⟩
      clear hst
      go_wp2_with fail
      refine hxs.mono ?_
      rintro e w6 ⟨rfl, rfl⟩
      clear hxs
      go_wp2_with fail
      refine hco.mono ?_
      rintro e w7 ⟨rfl, rfl⟩
      clear hco
      go_wp2_with fail
      refine (lives_any _).mono ?_
      rintro e wz ⟨rfl, bz⟩
      have HY := Lib.hid (HE.out.trans (bz.mono HE.out.size))
      clear bz
      go_wp2
      go_ret
      exact ⟨rfl, HY.out⟩
    | true =>
      have hnw := snew_ok sr nm cl na da ch tt rt A n a w1 d1 hacc
      have HB := Lib.hid (And.intro B1 (And.intro q1 hacc))
      clear B1 q1 d1 hacc
      go_wp2_with fail
      refine hnw.mono ?_
      rintro e w2 ⟨⟨g, rfl, hg, f2⟩, b2⟩
      clear hnw c0 c1 c2 c3 c4 c5 c6 c7
      obtain ⟨B1, q1, hacc⟩ := HB.out
      have B2 := B1.trans (b2.mono B1.size)
      have q2 := q1.below b2
      have hxn := xnew_ok sr nm cl na da ch tt rt A n a w2 (HD.out.later B2) hacc
      have c0 := q2.c0
      have c1 := q2.c1
      have c2 := q2.c2
      have c3 := q2.c3
      have c4 := q2.c4
      have c5 := q2.c5
      have c6 := q2.c6
      have c7 := q2.c7
      have HC := Lib.hid (And.intro B2 f2)
      clear B1 q1 hacc b2 B2 q2 HB HD hg f2
      go_wp2_with fail
      refine hxn.mono ?_
      rintro e w3 ⟨rfl, b3⟩
      clear hxn c0 c1 c2 c3 c4 c5 c6 c7
      obtain ⟨W4, hW4⟩ : ∃ W4, W4 = w3.alloc (.cells #[.int .i64 sr, .int .i64 nm, .int .i64 cl, .string (str na), .slice A n a, .int .i64 ch, .int .i64 tt, .int .i64 rt, .int .i64 1, .int .i64 0, .int .i64 0, .int .i64 0, .int .i64 0, .bool false, .bool false, .bool false, .bool false, .bool false, .slice none 0 0, .int .i64 0] TX) := ⟨_, rfl⟩
      obtain ⟨B2, f2⟩ := HC.out
      have B3 := B2.trans (b3.mono B2.size)
      have b4 : Below w3.heap.size w3 W4 := by rw [hW4]; exact bel_new _ _
      have x4 : XC W4 w3.heap.size (⟨sr, nm, cl, na, da, ch, tt, rt⟩ : Kc) ss0 A n a none 0 0 := by rw [hW4]; exact Cel.new _ _ _
      have f4 := (f2.below b3).below b4
      obtain ⟨V, hV⟩ : ∃ V, sta ss0 = V := ⟨_, rfl⟩
      have hst : Calls Try.prog 10 #[.pointer (some ⟨g, 0, none⟩)] W4 fun e w' => e = .returned (.int .i64 V) ∧ W4 = w' := by
        rw [← hV]
        exact sstate_any (f4) (by decide)
      have hco : Calls Try.prog 12 #[.pointer (some ⟨g, 0, none⟩)] W4 fun e w' => e = .returned (.int .i64 0) ∧ W4 = w' := scode_any (f4) (by decide)
      have hxs : Calls Try.prog 11 #[.pointer (some ⟨w3.heap.size, 0, none⟩)] W4 fun e w' => e = .returned (.int .i64 V) ∧ W4 = w' := by
        rw [← hV]
        exact xstate_any (x4) (by decide)
      have t1 : (V == V) = true := by simp
      have HE := Lib.hid (B3.trans (b4.mono B3.size))
      clear x4 b3 b4 B3 HC B2 f2 f4 hV
      go_upto_region 5 with (first
        | (refine wpList_big_alloc rfl rfl al_x ?_; rintro W' rfl)
        | (refine wpList_big_new rfl TX (.tmp 5) (.tmp 37) rfl rfl rfl (by kernel_rfl) rfl (by simp [Value.oneCell']) ?_))
      rw [← hW4]
      clear hW4
      go_wp2_with fail
      refine hst.mono ?_
      rintro e w5 ⟨rfl, rfl⟩
      clear hst
      go_wp2_with fail
      refine hxs.mono ?_
      rintro e w6 ⟨rfl, rfl⟩
      clear hxs
      go_wp2_with fail
      refine hco.mono ?_
      rintro e w7 ⟨rfl, rfl⟩
      clear hco
      go_wp2_with fail
      refine (lives_any _).mono ?_
      rintro e wz ⟨rfl, bz⟩
      have HY := Lib.hid (HE.out.trans (bz.mono HE.out.size))
      clear bz t1
      go_wp2
      go_ret
      exact ⟨rfl, HY.out⟩
end Go.Proofs.Ytaaikmncdgfkmaa.Src
