/-
  Package source: New, State, Code.
-/
import Derived.Test.YtaaikmncdgfkmaaSrcW1
import Derived.Deep.CutRange
import Derived.Test.YtaaikmncdgfkmaaPduW4
namespace Go.Proofs.Ytaaikmncdgfkmaa.Src
open Go.RowKit
open Go.Proofs.Ytaaikmncdgfkmaa.Pdu (Pd Gx Bx Px)
open Go.Proofs.Ytaaikmncdgfkmaa.Rng (R)
set_option maxRecDepth 100000 in
set_option maxHeartbeats 4000000 in
theorem snew_pdu (sr nm cl : Int) (na da : List Byte) (ch tt rt : Int) (A : Option Addr) (n a : Nat) (w : World) (hd : Bx w A da n a) (h1 : Pdu.ok (Kc.mta ⟨sr, nm, cl, na, da, ch, tt, rt⟩) = false) :
    Calls Try.prog 8 #[.agg #[.int .i64 sr, .int .i64 nm], .int .i64 cl, .string (str na), .slice A n a, .agg #[.int .i64 ch, .int .i64 tt, .int .i64 rt]] w fun e w' => e = .returned (.tuple #[.pointer none, .int .i64 1]) ∧ Below w.heap.size w w' := by
  obtain ⟨W, hW⟩ : ∃ W, W = (w.alloc (.cells #[.int .i64 sr, .int .i64 nm] 23)).alloc (.cells #[.int .i64 ch, .int .i64 tt, .int .i64 rt] 26) := ⟨_, rfl⟩
  have hb : Below w.heap.size w W := by rw [hW]; exact (bel_new _ _).alloc (bel_new _ _).size _
  have i0 : Cel W w.heap.size 23 #[.int .i64 sr, .int .i64 nm] := by rw [hW]; exact Cel.on (Cel.new w _ _) (bel_new _ _)
  have i1 : Cel W (w.heap.size + 1) 26 #[.int .i64 ch, .int .i64 tt, .int .i64 rt] := by
    rw [hW]
    have := Cel.new (w.alloc (.cells #[.int .i64 sr, .int .i64 nm] 23)) 26 #[.int .i64 ch, .int .i64 tt, .int .i64 rt]
    simpa using this
  have hs : W.heap.size = w.heap.size + 2 := by rw [hW]; simp
  have hcv := hd.conv hb
  obtain ⟨W3, hW3⟩ : ∃ W3, W3 = W.alloc (.cells #[.int .i64 sr, .int .i64 nm, .int .i64 cl, .string (str na), .string (str da), .int .i64 ch, .int .i64 tt, .int .i64 rt, .int .i64 1, .bool false, .int .i64 0, .bool false, .int .i64 0, .bool false, .slice none 0 0, .bool false, .bool false, .int .i64 0, .int .i64 0, .int .i64 0] 64) := ⟨_, rfl⟩
  have hf : FC W3 W.heap.size ⟨sr, nm, cl, na, da, ch, tt, rt⟩ ss0 none 0 0 := by rw [hW3]; exact Cel.new W _ _
  have hb3 : Below W.heap.size W W3 := by rw [hW3]; exact bel_new _ _
  have j1 := Cel.on i1 hb3
  obtain ⟨q, hq⟩ : ∃ q, q = W.heap.size := ⟨_, rfl⟩
  have hme := smeta_any hf
  dsimp only at hme
  rw [← hq] at hf hme
  have hqw : w.heap.size ≤ q := by omega
  have b3 := hb.trans (hb3.mono hb.size)
  have c0 := i0.cell 0
  have c1 := i0.cell 1
  have d0 := i1.cell 0
  have d1 := i1.cell 1
  have d2 := i1.cell 2
  have HH := Lib.hid (And.intro hf (And.intro b3 (And.intro hqw j1)))
  clear hd hb i0 i1 hb3 j1 hf b3 hqw hs
  go_enter Try.func8, Try.ntmps8
  go_upto_region 1 with fail
  rw [← hW]
  clear hW
  go_upto_region 2 with fail
  rw [← hW3, ← hq]
  clear hW3 hq c0 c1 d0 d1 d2 hcv
  go_wp2_with fail
  refine hme.mono ?_
  rintro e w4 ⟨rfl, hb4⟩
  clear hme
  have hv := Pdu.pvalid_any 1 sr nm cl na (da.length : Int) 0 [] 0 0 [] none 0 0 none 0 0 w4 ⟨Bx.zero _, Gx.zero _, (show 0 < 4294967296 by decide)⟩
  have h1' : Pdu.ok ⟨1, sr, nm, cl, na, (da.length : Int), 0, [], 0, 0, []⟩ = false := h1
  rw [h1'] at hv
  clear h1 h1'
  go_wp2_with fail
  refine hv.mono ?_
  rintro e w5 ⟨rfl, hb5⟩
  clear hv
  obtain ⟨hf, b3, hqw, j1⟩ := HH.out
  have b5 := hb4.trans (hb5.mono hb4.size)
  have f5 := hf.below b5
  have e5 := b3.trans (b5.mono b3.size)
  have HZ := Lib.hid e5
  clear hf b3 hqw j1 b5 f5 e5 HH hb4 hb5
  go_wp2
  go_ret2
  exact ⟨rfl, HZ.out⟩
set_option maxRecDepth 100000 in
set_option maxHeartbeats 4000000 in
theorem snew_cfg (sr nm cl : Int) (na da : List Byte) (ch tt rt : Int) (A : Option Addr) (n a : Nat) (w : World) (hd : Bx w A da n a) (h1 : Pdu.ok (Kc.mta ⟨sr, nm, cl, na, da, ch, tt, rt⟩) = true) (h2 : cfg ch tt rt = false) :
    Calls Try.prog 8 #[.agg #[.int .i64 sr, .int .i64 nm], .int .i64 cl, .string (str na), .slice A n a, .agg #[.int .i64 ch, .int .i64 tt, .int .i64 rt]] w fun e w' => e = .returned (.tuple #[.pointer none, .int .i64 1]) ∧ Below w.heap.size w w' := by
  obtain ⟨W, hW⟩ : ∃ W, W = (w.alloc (.cells #[.int .i64 sr, .int .i64 nm] 23)).alloc (.cells #[.int .i64 ch, .int .i64 tt, .int .i64 rt] 26) := ⟨_, rfl⟩
  have hb : Below w.heap.size w W := by rw [hW]; exact (bel_new _ _).alloc (bel_new _ _).size _
  have i0 : Cel W w.heap.size 23 #[.int .i64 sr, .int .i64 nm] := by rw [hW]; exact Cel.on (Cel.new w _ _) (bel_new _ _)
  have i1 : Cel W (w.heap.size + 1) 26 #[.int .i64 ch, .int .i64 tt, .int .i64 rt] := by
    rw [hW]
    have := Cel.new (w.alloc (.cells #[.int .i64 sr, .int .i64 nm] 23)) 26 #[.int .i64 ch, .int .i64 tt, .int .i64 rt]
    simpa using this
  have hs : W.heap.size = w.heap.size + 2 := by rw [hW]; simp
  have hcv := hd.conv hb
  obtain ⟨W3, hW3⟩ : ∃ W3, W3 = W.alloc (.cells #[.int .i64 sr, .int .i64 nm, .int .i64 cl, .string (str na), .string (str da), .int .i64 ch, .int .i64 tt, .int .i64 rt, .int .i64 1, .bool false, .int .i64 0, .bool false, .int .i64 0, .bool false, .slice none 0 0, .bool false, .bool false, .int .i64 0, .int .i64 0, .int .i64 0] 64) := ⟨_, rfl⟩
  have hf : FC W3 W.heap.size ⟨sr, nm, cl, na, da, ch, tt, rt⟩ ss0 none 0 0 := by rw [hW3]; exact Cel.new W _ _
  have hb3 : Below W.heap.size W W3 := by rw [hW3]; exact bel_new _ _
  have j1 := Cel.on i1 hb3
  obtain ⟨q, hq⟩ : ∃ q, q = W.heap.size := ⟨_, rfl⟩
  have hme := smeta_any hf
  dsimp only at hme
  rw [← hq] at hf hme
  have hqw : w.heap.size ≤ q := by omega
  have b3 := hb.trans (hb3.mono hb.size)
  have c0 := i0.cell 0
  have c1 := i0.cell 1
  have d0 := i1.cell 0
  have d1 := i1.cell 1
  have d2 := i1.cell 2
  have HH := Lib.hid (And.intro hf (And.intro b3 (And.intro hqw j1)))
  clear hd hb i0 i1 hb3 j1 hf b3 hqw hs
  go_enter Try.func8, Try.ntmps8
  go_upto_region 1 with fail
  rw [← hW]
  clear hW
  go_upto_region 2 with fail
  rw [← hW3, ← hq]
  clear hW3 hq c0 c1 d0 d1 d2 hcv
  go_wp2_with fail
  refine hme.mono ?_
  rintro e w4 ⟨rfl, hb4⟩
  clear hme
  have hv := Pdu.pvalid_any 1 sr nm cl na (da.length : Int) 0 [] 0 0 [] none 0 0 none 0 0 w4 ⟨Bx.zero _, Gx.zero _, (show 0 < 4294967296 by decide)⟩
  have h1' : Pdu.ok ⟨1, sr, nm, cl, na, (da.length : Int), 0, [], 0, 0, []⟩ = true := h1
  rw [h1'] at hv
  clear h1 h1'
  go_wp2_with fail
  refine hv.mono ?_
  rintro e w5 ⟨rfl, hb5⟩
  clear hv
  obtain ⟨hf, b3, hqw, j1⟩ := HH.out
  have b5 := hb4.trans (hb5.mono hb4.size)
  have f5 := hf.below b5
  have e5 := b3.trans (b5.mono b3.size)
  have k5 := Cel.on j1 b5
  have l0 := k5.cell 0
  have l1 := k5.cell 1
  have l2 := k5.cell 2
  have hc := sconfig_any ch tt rt w5
  rw [h2] at hc
  have HZ := Lib.hid (And.intro f5 (And.intro e5 hqw))
  clear hf b3 hqw j1 b5 f5 e5 HH hb4 hb5 k5 h2
  go_wp2_with fail
  refine hc.mono ?_
  rintro e w6 ⟨rfl, hb6⟩
  obtain ⟨f5, e5, hqw⟩ := HZ.out
  have HE := Lib.hid (And.intro (FX.mk (f5.below hb6) (Gq.zero w6)) (And.intro (e5.trans (hb6.mono e5.size)) hqw))
  clear f5 e5 hqw hb6 hc HZ l0 l1 l2
  go_wp2
  go_ret2
  exact ⟨rfl, HE.out.2.1⟩
set_option maxRecDepth 100000 in
set_option maxHeartbeats 4000000 in
theorem snew_yes (sr nm cl : Int) (na da : List Byte) (ch tt rt : Int) (A : Option Addr) (n a : Nat) (w : World) (hd : Bx w A da n a) (h1 : Pdu.ok (Kc.mta ⟨sr, nm, cl, na, da, ch, tt, rt⟩) = true) (h2 : cfg ch tt rt = true) :
    Calls Try.prog 8 #[.agg #[.int .i64 sr, .int .i64 nm], .int .i64 cl, .string (str na), .slice A n a, .agg #[.int .i64 ch, .int .i64 tt, .int .i64 rt]] w fun e w' => (∃ q, e = .returned (.tuple #[.pointer (some ⟨q, 0, none⟩), .int .i64 0]) ∧ w.heap.size ≤ q ∧ FW w' q ⟨sr, nm, cl, na, da, ch, tt, rt⟩ ss0) ∧ Below w.heap.size w w' := by
  obtain ⟨W, hW⟩ : ∃ W, W = (w.alloc (.cells #[.int .i64 sr, .int .i64 nm] 23)).alloc (.cells #[.int .i64 ch, .int .i64 tt, .int .i64 rt] 26) := ⟨_, rfl⟩
  have hb : Below w.heap.size w W := by rw [hW]; exact (bel_new _ _).alloc (bel_new _ _).size _
  have i0 : Cel W w.heap.size 23 #[.int .i64 sr, .int .i64 nm] := by rw [hW]; exact Cel.on (Cel.new w _ _) (bel_new _ _)
  have i1 : Cel W (w.heap.size + 1) 26 #[.int .i64 ch, .int .i64 tt, .int .i64 rt] := by
    rw [hW]
    have := Cel.new (w.alloc (.cells #[.int .i64 sr, .int .i64 nm] 23)) 26 #[.int .i64 ch, .int .i64 tt, .int .i64 rt]
    simpa using this
  have hs : W.heap.size = w.heap.size + 2 := by rw [hW]; simp
  have hcv := hd.conv hb
  obtain ⟨W3, hW3⟩ : ∃ W3, W3 = W.alloc (.cells #[.int .i64 sr, .int .i64 nm, .int .i64 cl, .string (str na), .string (str da), .int .i64 ch, .int .i64 tt, .int .i64 rt, .int .i64 1, .bool false, .int .i64 0, .bool false, .int .i64 0, .bool false, .slice none 0 0, .bool false, .bool false, .int .i64 0, .int .i64 0, .int .i64 0] 64) := ⟨_, rfl⟩
  have hf : FC W3 W.heap.size ⟨sr, nm, cl, na, da, ch, tt, rt⟩ ss0 none 0 0 := by rw [hW3]; exact Cel.new W _ _
  have hb3 : Below W.heap.size W W3 := by rw [hW3]; exact bel_new _ _
  have j1 := Cel.on i1 hb3
  obtain ⟨q, hq⟩ : ∃ q, q = W.heap.size := ⟨_, rfl⟩
  have hme := smeta_any hf
  dsimp only at hme
  rw [← hq] at hf hme
  have hqw : w.heap.size ≤ q := by omega
  have b3 := hb.trans (hb3.mono hb.size)
  have c0 := i0.cell 0
  have c1 := i0.cell 1
  have d0 := i1.cell 0
  have d1 := i1.cell 1
  have d2 := i1.cell 2
  have HH := Lib.hid (And.intro hf (And.intro b3 (And.intro hqw j1)))
  clear hd hb i0 i1 hb3 j1 hf b3 hqw hs
  go_enter Try.func8, Try.ntmps8
  go_upto_region 1 with fail
  rw [← hW]
  clear hW
  go_upto_region 2 with fail
  rw [← hW3, ← hq]
  clear hW3 hq c0 c1 d0 d1 d2 hcv
  go_wp2_with fail
  refine hme.mono ?_
  rintro e w4 ⟨rfl, hb4⟩
  clear hme
  have hv := Pdu.pvalid_any 1 sr nm cl na (da.length : Int) 0 [] 0 0 [] none 0 0 none 0 0 w4 ⟨Bx.zero _, Gx.zero _, (show 0 < 4294967296 by decide)⟩
  have h1' : Pdu.ok ⟨1, sr, nm, cl, na, (da.length : Int), 0, [], 0, 0, []⟩ = true := h1
  rw [h1'] at hv
  clear h1 h1'
  go_wp2_with fail
  refine hv.mono ?_
  rintro e w5 ⟨rfl, hb5⟩
  clear hv
  obtain ⟨hf, b3, hqw, j1⟩ := HH.out
  have b5 := hb4.trans (hb5.mono hb4.size)
  have f5 := hf.below b5
  have e5 := b3.trans (b5.mono b3.size)
  have k5 := Cel.on j1 b5
  have l0 := k5.cell 0
  have l1 := k5.cell 1
  have l2 := k5.cell 2
  have hc := sconfig_any ch tt rt w5
  rw [h2] at hc
  have HZ := Lib.hid (And.intro f5 (And.intro e5 hqw))
  clear hf b3 hqw j1 b5 f5 e5 HH hb4 hb5 k5 h2
  go_wp2_with fail
  refine hc.mono ?_
  rintro e w6 ⟨rfl, hb6⟩
  obtain ⟨f5, e5, hqw⟩ := HZ.out
  have HE := Lib.hid (And.intro (FX.mk (f5.below hb6) (Gq.zero w6)) (And.intro (e5.trans (hb6.mono e5.size)) hqw))
  clear f5 e5 hqw hb6 hc HZ l0 l1 l2
  go_wp2
  go_ret2
  exact ⟨⟨q, rfl, HE.out.2.2, _, _, _, HE.out.1⟩, HE.out.2.1⟩
theorem snew_no (sr nm cl : Int) (na da : List Byte) (ch tt rt : Int) (A : Option Addr) (n a : Nat) (w : World) (hd : Bx w A da n a) (h : Kc.acc ⟨sr, nm, cl, na, da, ch, tt, rt⟩ = false) :
    Calls Try.prog 8 #[.agg #[.int .i64 sr, .int .i64 nm], .int .i64 cl, .string (str na), .slice A n a, .agg #[.int .i64 ch, .int .i64 tt, .int .i64 rt]] w fun e w' => e = .returned (.tuple #[.pointer none, .int .i64 1]) ∧ Below w.heap.size w w' := by
  cases h1 : Pdu.ok (Kc.mta ⟨sr, nm, cl, na, da, ch, tt, rt⟩) with
  | false => exact snew_pdu sr nm cl na da ch tt rt A n a w hd h1
  | true =>
    unfold Kc.acc at h
    rw [h1, Bool.true_and] at h
    exact snew_cfg sr nm cl na da ch tt rt A n a w hd h1 h
theorem snew_ok (sr nm cl : Int) (na da : List Byte) (ch tt rt : Int) (A : Option Addr) (n a : Nat) (w : World) (hd : Bx w A da n a) (h : Kc.acc ⟨sr, nm, cl, na, da, ch, tt, rt⟩ = true) :
    Calls Try.prog 8 #[.agg #[.int .i64 sr, .int .i64 nm], .int .i64 cl, .string (str na), .slice A n a, .agg #[.int .i64 ch, .int .i64 tt, .int .i64 rt]] w fun e w' => (∃ q, e = .returned (.tuple #[.pointer (some ⟨q, 0, none⟩), .int .i64 0]) ∧ w.heap.size ≤ q ∧ FW w' q ⟨sr, nm, cl, na, da, ch, tt, rt⟩ ss0) ∧ Below w.heap.size w w' := by
  unfold Kc.acc at h
  rw [Bool.and_eq_true] at h
  exact snew_yes sr nm cl na da ch tt rt A n a w hd h.1 h.2

/-! ### State, Code -/
section
variable {K : Kc} {s : SS} {g : Nat} {w : World}
set_option maxHeartbeats 2000000 in
theorem sst_su {A : Option Addr} {n c : Nat} (h : FC w g K s A n c) (h1 : 1 ≤ s.ph) (e1 : s.su = true) :
    Calls Try.prog 10 #[.pointer (some ⟨g, 0, none⟩)] w fun e w' => e = .returned (.int .i64 3) ∧ w = w' := by
  have hw := sworks_any h h1
  have c8 := h.c8
  have c9 := h.c9
  rw [e1] at c9
  clear e1
  clear h h1
  go_enter Try.func10, Try.ntmps10
  go_wp2_with fail
  refine hw.mono ?_
  rintro e w1 ⟨rfl, rfl⟩
  clear hw
  go_wp2
  go_ret
  exact ⟨rfl, rfl⟩
set_option maxHeartbeats 2000000 in
theorem sst_1 {A : Option Addr} {n c : Nat} (h : FC w g K s A n c) (h1 : 1 ≤ s.ph) (e1 : s.su = false) (e2 : s.ph = 1) :
    Calls Try.prog 10 #[.pointer (some ⟨g, 0, none⟩)] w fun e w' => e = .returned (.int .i64 1) ∧ w = w' := by
  have hw := sworks_any h h1
  have c8 := h.c8
  have c9 := h.c9
  rw [e1] at c9
  rw [e2] at c8
  clear e1 e2
  clear h h1
  go_enter Try.func10, Try.ntmps10
  go_wp2_with fail
  refine hw.mono ?_
  rintro e w1 ⟨rfl, rfl⟩
  clear hw
  go_wp2
  go_ret
  exact ⟨rfl, rfl⟩
set_option maxHeartbeats 2000000 in
theorem sst_5 {A : Option Addr} {n c : Nat} (h : FC w g K s A n c) (h1 : 1 ≤ s.ph) (e1 : s.su = false) (e2 : s.ph = 5) :
    Calls Try.prog 10 #[.pointer (some ⟨g, 0, none⟩)] w fun e w' => e = .returned (.int .i64 4) ∧ w = w' := by
  have hw := sworks_any h h1
  have c8 := h.c8
  have c9 := h.c9
  rw [e1] at c9
  rw [e2] at c8
  clear e1 e2
  clear h h1
  go_enter Try.func10, Try.ntmps10
  go_wp2_with fail
  refine hw.mono ?_
  rintro e w1 ⟨rfl, rfl⟩
  clear hw
  go_wp2
  go_ret
  exact ⟨rfl, rfl⟩
set_option maxHeartbeats 2000000 in
theorem sst_6 {A : Option Addr} {n c : Nat} (h : FC w g K s A n c) (h1 : 1 ≤ s.ph) (e1 : s.su = false) (e2 : s.ph = 6) :
    Calls Try.prog 10 #[.pointer (some ⟨g, 0, none⟩)] w fun e w' => e = .returned (.int .i64 5) ∧ w = w' := by
  have hw := sworks_any h h1
  have c8 := h.c8
  have c9 := h.c9
  rw [e1] at c9
  rw [e2] at c8
  clear e1 e2
  clear h h1
  go_enter Try.func10, Try.ntmps10
  go_wp2_with fail
  refine hw.mono ?_
  rintro e w1 ⟨rfl, rfl⟩
  clear hw
  go_wp2
  go_ret
  exact ⟨rfl, rfl⟩
set_option maxHeartbeats 2000000 in
theorem sst_7 {A : Option Addr} {n c : Nat} (h : FC w g K s A n c) (h1 : 1 ≤ s.ph) (e1 : s.su = false) (e2 : s.ph = 7) :
    Calls Try.prog 10 #[.pointer (some ⟨g, 0, none⟩)] w fun e w' => e = .returned (.int .i64 6) ∧ w = w' := by
  have hw := sworks_any h h1
  have c8 := h.c8
  have c9 := h.c9
  rw [e1] at c9
  rw [e2] at c8
  clear e1 e2
  clear h h1
  go_enter Try.func10, Try.ntmps10
  go_wp2_with fail
  refine hw.mono ?_
  rintro e w1 ⟨rfl, rfl⟩
  clear hw
  go_wp2
  go_ret
  exact ⟨rfl, rfl⟩
set_option maxHeartbeats 2000000 in
theorem sst_w {A : Option Addr} {n c : Nat} (h : FC w g K s A n c) (h1 : 1 ≤ s.ph) (e1 : s.su = false) (e2 : ¬ s.ph = 1) (e3 : ¬ s.ph = 5) (e4 : ¬ s.ph = 6) (e5 : ¬ s.ph = 7) :
    Calls Try.prog 10 #[.pointer (some ⟨g, 0, none⟩)] w fun e w' => e = .returned (.int .i64 2) ∧ w = w' := by
  have hw := sworks_any h h1
  have c8 := h.c8
  have c9 := h.c9
  rw [e1] at c9
  obtain ⟨ph, hph⟩ : ∃ ph, ph = s.ph := ⟨_, rfl⟩
  rw [← hph] at c8 e2 e3 e4 e5
  have z1 : (ph == 1) = false := by simpa using e2
  have z2 : (ph == 5) = false := by simpa using e3
  have z3 : (ph == 6) = false := by simpa using e4
  have z4 : (ph == 7) = false := by simpa using e5
  clear e1 e2 e3 e4 e5 hph
  clear h h1
  go_enter Try.func10, Try.ntmps10
  go_wp2_with fail
  refine hw.mono ?_
  rintro e w1 ⟨rfl, rfl⟩
  clear hw
  go_wp2
  go_ret
  exact ⟨rfl, rfl⟩
theorem sstate_any (h : FW w g K s) (h1 : 1 ≤ s.ph) :
    Calls Try.prog 10 #[.pointer (some ⟨g, 0, none⟩)] w fun e w' => e = .returned (.int .i64 (sta s)) ∧ w = w' := by
  obtain ⟨A, n, c, h⟩ := h
  unfold sta
  by_cases e1 : s.su = true
  · rw [if_pos e1]; exact sst_su h.cel h1 e1
  rw [if_neg e1]
  have e1 : s.su = false := by simpa using e1
  by_cases e2 : s.ph = 1
  · rw [if_pos e2]; exact sst_1 h.cel h1 e1 e2
  rw [if_neg e2]
  by_cases e3 : s.ph = 5
  · rw [if_pos e3]; exact sst_5 h.cel h1 e1 e3
  rw [if_neg e3]
  by_cases e4 : s.ph = 6
  · rw [if_pos e4]; exact sst_6 h.cel h1 e1 e4
  rw [if_neg e4]
  by_cases e5 : s.ph = 7
  · rw [if_pos e5]; exact sst_7 h.cel h1 e1 e5
  rw [if_neg e5]
  exact sst_w h.cel h1 e1 e2 e3 e4 e5
set_option maxHeartbeats 2000000 in
theorem scode_any (h : FW w g K s) (h1 : 1 ≤ s.ph) :
    Calls Try.prog 12 #[.pointer (some ⟨g, 0, none⟩)] w fun e w' => e = .returned (.int .i64 s.co) ∧ w = w' := by
  obtain ⟨A, n, c, h⟩ := h
  have hw := sworks_any h.cel h1
  have c10 := h.cel.c10
  clear h h1
  go_enter Try.func12, Try.ntmps12
  go_wp2_with fail
  refine hw.mono ?_
  rintro e w1 ⟨rfl, rfl⟩
  clear hw
  go_wp2
  go_ret
  exact ⟨rfl, rfl⟩
set_option maxHeartbeats 2000000 in
theorem sstate_idle (p : Value) (w : World) (h : Idle w p)  :
    Calls Try.prog 10 #[p] w fun e w' => e = .returned (.int .i64 0) ∧ w = w' := by
  have hw := sworks_idle w p h
  clear h
  go_enter Try.func10, Try.ntmps10
  go_wp2_with fail
  refine hw.mono ?_
  rintro e w1 ⟨rfl, rfl⟩
  clear hw
  go_wp2
  go_ret
  exact ⟨rfl, rfl⟩
set_option maxHeartbeats 2000000 in
theorem scode_idle (p : Value) (w : World) (h : Idle w p)  :
    Calls Try.prog 12 #[p] w fun e w' => e = .returned (.int .i64 0) ∧ w = w' := by
  have hw := sworks_idle w p h
  clear h
  go_enter Try.func12, Try.ntmps12
  go_wp2_with fail
  refine hw.mono ?_
  rintro e w1 ⟨rfl, rfl⟩
  clear hw
  go_wp2
  go_ret
  exact ⟨rfl, rfl⟩
end
end Go.Proofs.Ytaaikmncdgfkmaa.Src
