/-
  The reference of layer 27: New, State.
-/
import Derived.Test.YtaaikmncdgfkmaaRef27a
import Derived.Deep.CutRange
namespace Go.Proofs.Ytaaikmncdgfkmaa.Src
open Go.RowKit
open Go.Proofs.Ytaaikmncdgfkmaa.Pdu (Pd Gx Bx Px)

theorem xnew_results {tmps : Array Value} {W : World} {g : Nat} {cs : Array Value} {y : Int} (h2 : tmps.getD 10 undef = .pointer (some ⟨g, 0, none⟩)) (h3 : tmps.getD 11 undef = .int .i64 y) (hC : Cel W g TX cs) (hs : (Try.prog.info? TX).map (·.size) = some cs.size) :
    (results Try.f9 tmps).run Try.prog W = .ok (.tuple #[.agg cs, .int .i64 y]) W := by
  have hl := run_loadVar_row (P := Try.prog) W g TX TX cs (0, 0) _ hC Try.underlying38 rfl hs
  have h2' : tmps[10]?.getD undef = .pointer (some ⟨g, 0, none⟩) := by simpa using h2
  have h3' : tmps[11]?.getD undef = .int .i64 y := by simpa using h3
  simp [results, h2', h3', asAddr, hl]
theorem al_x : ∀ w, (Instr.alloc TX true (.tuple #[])).run Try.prog w = .ok (.pointer (some ⟨w.heap.size, 0, none⟩)) (w.alloc (.cells #[.int .i64 0, .int .i64 0, .int .i64 0, .string ⟨#[]⟩, .slice none 0 0, .int .i64 0, .int .i64 0, .int .i64 0, .int .i64 0, .int .i64 0, .int .i64 0, .int .i64 0, .int .i64 0, .bool false, .bool false, .bool false, .bool false, .bool false, .slice none 0 0, .int .i64 0] TX)) := by
  intro w
  kernel_rfl
set_option maxRecDepth 100000 in
set_option maxHeartbeats 4000000 in
theorem xnew_pdu (sr nm cl : Int) (na da : List Byte) (ch tt rt : Int) (A : Option Addr) (n a : Nat) (w : World) (hd : Bx w A da n a) (h1 : Pdu.ok (Kc.mta ⟨sr, nm, cl, na, da, ch, tt, rt⟩) = false) :
    Calls Try.prog 9 #[.agg #[.int .i64 sr, .int .i64 nm], .int .i64 cl, .string (str na), .slice A n a, .agg #[.int .i64 ch, .int .i64 tt, .int .i64 rt]] w fun e w' => e = .returned (.tuple #[.agg #[.int .i64 0, .int .i64 0, .int .i64 0, .string ⟨#[]⟩, .slice none 0 0, .int .i64 0, .int .i64 0, .int .i64 0, .int .i64 0, .int .i64 0, .int .i64 0, .int .i64 0, .int .i64 0, .bool false, .bool false, .bool false, .bool false, .bool false, .slice none 0 0, .int .i64 0], .int .i64 1]) ∧ Below w.heap.size w w' := by
  obtain ⟨W, hW⟩ : ∃ W, W = ((w.alloc (.cells #[.int .i64 sr, .int .i64 nm] 23)).alloc (.cells #[.int .i64 ch, .int .i64 tt, .int .i64 rt] 26)).alloc (.cells #[.int .i64 0, .int .i64 0, .int .i64 0, .string ⟨#[]⟩, .slice none 0 0, .int .i64 0, .int .i64 0, .int .i64 0, .int .i64 0, .int .i64 0, .int .i64 0, .int .i64 0, .int .i64 0, .bool false, .bool false, .bool false, .bool false, .bool false, .slice none 0 0, .int .i64 0] TX) := ⟨_, rfl⟩
  have hb : Below w.heap.size w W := by rw [hW]; exact ((bel_new _ _).alloc (bel_new _ _).size _).alloc ((bel_new _ _).alloc (bel_new _ _).size _).size _
  have i0 : Cel W w.heap.size 23 #[.int .i64 sr, .int .i64 nm] := by rw [hW]; exact Cel.on (Cel.on (Cel.new w _ _) (bel_new _ _)) (bel_new _ _)
  have i1 : Cel W (w.heap.size + 1) 26 #[.int .i64 ch, .int .i64 tt, .int .i64 rt] := by
    rw [hW]
    have := Cel.new (w.alloc (.cells #[.int .i64 sr, .int .i64 nm] 23)) 26 #[.int .i64 ch, .int .i64 tt, .int .i64 rt]
    exact Cel.on (by simpa using this) (bel_new _ _)
  have i2 : Cel W (w.heap.size + 2) TX #[.int .i64 0, .int .i64 0, .int .i64 0, .string ⟨#[]⟩, .slice none 0 0, .int .i64 0, .int .i64 0, .int .i64 0, .int .i64 0, .int .i64 0, .int .i64 0, .int .i64 0, .int .i64 0, .bool false, .bool false, .bool false, .bool false, .bool false, .slice none 0 0, .int .i64 0] := by
    rw [hW]
    have := Cel.new ((w.alloc (.cells #[.int .i64 sr, .int .i64 nm] 23)).alloc (.cells #[.int .i64 ch, .int .i64 tt, .int .i64 rt] 26)) TX #[.int .i64 0, .int .i64 0, .int .i64 0, .string ⟨#[]⟩, .slice none 0 0, .int .i64 0, .int .i64 0, .int .i64 0, .int .i64 0, .int .i64 0, .int .i64 0, .int .i64 0, .int .i64 0, .bool false, .bool false, .bool false, .bool false, .bool false, .slice none 0 0, .int .i64 0]
    simpa using this
  have hs : W.heap.size = w.heap.size + 3 := by rw [hW]; simp
  obtain ⟨W3, hW3⟩ : ∃ W3, W3 = W.alloc (.cells #[.int .i64 1, .int .i64 sr, .int .i64 nm, .int .i64 cl, .string (str na), .int .i64 (n : Int), .int .i64 0, .slice none 0 0, .int .u32 0, .int .i64 0, .slice none 0 0] 45) := ⟨_, rfl⟩
  have hb3 : Below W.heap.size W W3 := by rw [hW3]; exact bel_new _ _
  have u3 : Cel W3 W.heap.size 45 #[.int .i64 1, .int .i64 sr, .int .i64 nm, .int .i64 cl, .string (str na), .int .i64 (n : Int), .int .i64 0, .slice none 0 0, .int .u32 0, .int .i64 0, .slice none 0 0] := by rw [hW3]; exact Cel.new _ _ _
  have j0 := Cel.on i0 hb3
  have j1 := Cel.on i1 hb3
  have j2 := Cel.on i2 hb3
  have b3 := hb.trans (hb3.mono hb.size)
  obtain ⟨q, hq⟩ : ∃ q, q = W.heap.size := ⟨_, rfl⟩
  rw [← hq] at u3
  have hln := hd.len
  have h1' : Pdu.ok ⟨1, sr, nm, cl, na, (n : Int), 0, [], 0, 0, []⟩ = false := by rw [← hln]; exact h1
  have hv := Pdu.rvalid_any 1 sr nm cl na (n : Int) 0 [] 0 0 [] none 0 0 none 0 0 W3 ⟨Bx.zero _, Gx.zero _, (show 0 < 4294967296 by decide)⟩
  rw [h1'] at hv
  have c0 := i0.cell 0
  have c1 := i0.cell 1
  have e0 := u3.cell 0
  have e1 := u3.cell 1
  have e2 := u3.cell 2
  have e3 := u3.cell 3
  have e4 := u3.cell 4
  have e5 := u3.cell 5
  have e6 := u3.cell 6
  have e7 := u3.cell 7
  have e8 := u3.cell 8
  have e9 := u3.cell 9
  have e10 := u3.cell 10
  have HH := Lib.hid (And.intro b3 (And.intro j0 (And.intro j1 j2)))
  clear hd hb i0 i1 i2 hb3 u3 j0 j1 j2 b3 hs h1 h1' hln
  go_enter Try.func9, Try.ntmps9
  go_upto_region 1 with (refine wpList_big_alloc rfl rfl al_x ?_; rintro W' rfl)
  rw [← hW]
  clear hW
  go_upto_region 2 with fail
  rw [← hW3, ← hq]
  clear hW3 hq c0 c1
  go_wp2_with fail
  refine hv.mono ?_
  rintro e w5 ⟨rfl, hb5⟩
  clear hv e0 e1 e2 e3 e4 e5 e6 e7 e8 e9 e10
  obtain ⟨b3, j0, j1, j2⟩ := HH.out
  have k0 := Cel.on j0 hb5
  have k1 := Cel.on j1 hb5
  have k2 := Cel.on j2 hb5
  have b5 := b3.trans (hb5.mono b3.size)
  clear HH b3 j0 j1 j2 hb5
  have HC := Lib.hid k2
  have HB := Lib.hid (And.intro k2 b5)
  clear k0 k1 k2 b5
  go_wp2_with (refine wpList_big_store rfl TX (.tmp 10) (.tmp 27) rfl rfl rfl HC.out (by kernel_rfl) rfl (by simp [Value.oneCell']) ?_; intro W9 c9 o9)
  obtain ⟨_, b6⟩ := HB.out
  exact bodyPost_ret (xnew_results rfl rfl c9 (by kernel_rfl)) rfl ⟨rfl, only_bel b6 o9 (by omega)⟩
set_option maxRecDepth 100000 in
set_option maxHeartbeats 4000000 in
theorem xnew_cfg (sr nm cl : Int) (na da : List Byte) (ch tt rt : Int) (A : Option Addr) (n a : Nat) (w : World) (hd : Bx w A da n a) (h1 : Pdu.ok (Kc.mta ⟨sr, nm, cl, na, da, ch, tt, rt⟩) = true) (h2 : cfg ch tt rt = false) :
    Calls Try.prog 9 #[.agg #[.int .i64 sr, .int .i64 nm], .int .i64 cl, .string (str na), .slice A n a, .agg #[.int .i64 ch, .int .i64 tt, .int .i64 rt]] w fun e w' => e = .returned (.tuple #[.agg #[.int .i64 0, .int .i64 0, .int .i64 0, .string ⟨#[]⟩, .slice none 0 0, .int .i64 0, .int .i64 0, .int .i64 0, .int .i64 0, .int .i64 0, .int .i64 0, .int .i64 0, .int .i64 0, .bool false, .bool false, .bool false, .bool false, .bool false, .slice none 0 0, .int .i64 0], .int .i64 1]) ∧ Below w.heap.size w w' := by
  obtain ⟨W, hW⟩ : ∃ W, W = ((w.alloc (.cells #[.int .i64 sr, .int .i64 nm] 23)).alloc (.cells #[.int .i64 ch, .int .i64 tt, .int .i64 rt] 26)).alloc (.cells #[.int .i64 0, .int .i64 0, .int .i64 0, .string ⟨#[]⟩, .slice none 0 0, .int .i64 0, .int .i64 0, .int .i64 0, .int .i64 0, .int .i64 0, .int .i64 0, .int .i64 0, .int .i64 0, .bool false, .bool false, .bool false, .bool false, .bool false, .slice none 0 0, .int .i64 0] TX) := ⟨_, rfl⟩
  have hb : Below w.heap.size w W := by rw [hW]; exact ((bel_new _ _).alloc (bel_new _ _).size _).alloc ((bel_new _ _).alloc (bel_new _ _).size _).size _
  have i0 : Cel W w.heap.size 23 #[.int .i64 sr, .int .i64 nm] := by rw [hW]; exact Cel.on (Cel.on (Cel.new w _ _) (bel_new _ _)) (bel_new _ _)
  have i1 : Cel W (w.heap.size + 1) 26 #[.int .i64 ch, .int .i64 tt, .int .i64 rt] := by
    rw [hW]
    have := Cel.new (w.alloc (.cells #[.int .i64 sr, .int .i64 nm] 23)) 26 #[.int .i64 ch, .int .i64 tt, .int .i64 rt]
    exact Cel.on (by simpa using this) (bel_new _ _)
  have i2 : Cel W (w.heap.size + 2) TX #[.int .i64 0, .int .i64 0, .int .i64 0, .string ⟨#[]⟩, .slice none 0 0, .int .i64 0, .int .i64 0, .int .i64 0, .int .i64 0, .int .i64 0, .int .i64 0, .int .i64 0, .int .i64 0, .bool false, .bool false, .bool false, .bool false, .bool false, .slice none 0 0, .int .i64 0] := by
    rw [hW]
    have := Cel.new ((w.alloc (.cells #[.int .i64 sr, .int .i64 nm] 23)).alloc (.cells #[.int .i64 ch, .int .i64 tt, .int .i64 rt] 26)) TX #[.int .i64 0, .int .i64 0, .int .i64 0, .string ⟨#[]⟩, .slice none 0 0, .int .i64 0, .int .i64 0, .int .i64 0, .int .i64 0, .int .i64 0, .int .i64 0, .int .i64 0, .int .i64 0, .bool false, .bool false, .bool false, .bool false, .bool false, .slice none 0 0, .int .i64 0]
    simpa using this
  have hs : W.heap.size = w.heap.size + 3 := by rw [hW]; simp
  obtain ⟨W3, hW3⟩ : ∃ W3, W3 = W.alloc (.cells #[.int .i64 1, .int .i64 sr, .int .i64 nm, .int .i64 cl, .string (str na), .int .i64 (n : Int), .int .i64 0, .slice none 0 0, .int .u32 0, .int .i64 0, .slice none 0 0] 45) := ⟨_, rfl⟩
  have hb3 : Below W.heap.size W W3 := by rw [hW3]; exact bel_new _ _
  have u3 : Cel W3 W.heap.size 45 #[.int .i64 1, .int .i64 sr, .int .i64 nm, .int .i64 cl, .string (str na), .int .i64 (n : Int), .int .i64 0, .slice none 0 0, .int .u32 0, .int .i64 0, .slice none 0 0] := by rw [hW3]; exact Cel.new _ _ _
  have j0 := Cel.on i0 hb3
  have j1 := Cel.on i1 hb3
  have j2 := Cel.on i2 hb3
  have b3 := hb.trans (hb3.mono hb.size)
  obtain ⟨q, hq⟩ : ∃ q, q = W.heap.size := ⟨_, rfl⟩
  rw [← hq] at u3
  have hln := hd.len
  have h1' : Pdu.ok ⟨1, sr, nm, cl, na, (n : Int), 0, [], 0, 0, []⟩ = true := by rw [← hln]; exact h1
  have hv := Pdu.rvalid_any 1 sr nm cl na (n : Int) 0 [] 0 0 [] none 0 0 none 0 0 W3 ⟨Bx.zero _, Gx.zero _, (show 0 < 4294967296 by decide)⟩
  rw [h1'] at hv
  have c0 := i0.cell 0
  have c1 := i0.cell 1
  have e0 := u3.cell 0
  have e1 := u3.cell 1
  have e2 := u3.cell 2
  have e3 := u3.cell 3
  have e4 := u3.cell 4
  have e5 := u3.cell 5
  have e6 := u3.cell 6
  have e7 := u3.cell 7
  have e8 := u3.cell 8
  have e9 := u3.cell 9
  have e10 := u3.cell 10
  have HH := Lib.hid (And.intro b3 (And.intro j0 (And.intro j1 j2)))
  clear hd hb i0 i1 i2 hb3 u3 j0 j1 j2 b3 hs h1 h1' hln
  go_enter Try.func9, Try.ntmps9
  go_upto_region 1 with (refine wpList_big_alloc rfl rfl al_x ?_; rintro W' rfl)
  rw [← hW]
  clear hW
  go_upto_region 2 with fail
  rw [← hW3, ← hq]
  clear hW3 hq c0 c1
  go_wp2_with fail
  refine hv.mono ?_
  rintro e w5 ⟨rfl, hb5⟩
  clear hv e0 e1 e2 e3 e4 e5 e6 e7 e8 e9 e10
  obtain ⟨b3, j0, j1, j2⟩ := HH.out
  have k0 := Cel.on j0 hb5
  have k1 := Cel.on j1 hb5
  have k2 := Cel.on j2 hb5
  have b5 := b3.trans (hb5.mono b3.size)
  clear HH b3 j0 j1 j2 hb5
  have l0 := k1.cell 0
  have l1 := k1.cell 1
  have l2 := k1.cell 2
  have hc := xconfig_any ch tt rt w5
  rw [h2] at hc
  have HZ := Lib.hid (And.intro k0 (And.intro k1 (And.intro k2 b5)))
  clear k0 k1 k2 b5 h2
  go_wp2_with fail
  refine hc.mono ?_
  rintro e w6 ⟨rfl, hb6⟩
  obtain ⟨k0, k1, k2, b5⟩ := HZ.out
  have HC := Lib.hid (Cel.on k2 hb6)
  have HB := Lib.hid (And.intro hb6 (b5.trans (hb6.mono b5.size)))
  have m0 := (Cel.on k0 hb6).cell 0
  have m1 := (Cel.on k0 hb6).cell 1
  have n0 := (Cel.on k1 hb6).cell 0
  have n1 := (Cel.on k1 hb6).cell 1
  have n2 := (Cel.on k1 hb6).cell 2
  clear HZ k0 k1 k2 b5 hb6 hc l0 l1 l2
  go_wp2_with (refine wpList_big_store rfl TX (.tmp 10) (.tmp 27) rfl rfl rfl HC.out (by kernel_rfl) rfl (by simp [Value.oneCell']) ?_; intro W9 c9 o9)
  obtain ⟨_, b6⟩ := HB.out
  exact bodyPost_ret (xnew_results rfl rfl c9 (by kernel_rfl)) rfl ⟨rfl, only_bel b6 o9 (by omega)⟩
set_option maxRecDepth 100000 in
set_option maxHeartbeats 4000000 in
theorem xnew_yes (sr nm cl : Int) (na da : List Byte) (ch tt rt : Int) (A : Option Addr) (n a : Nat) (w : World) (hd : Bx w A da n a) (h1 : Pdu.ok (Kc.mta ⟨sr, nm, cl, na, da, ch, tt, rt⟩) = true) (h2 : cfg ch tt rt = true) :
    Calls Try.prog 9 #[.agg #[.int .i64 sr, .int .i64 nm], .int .i64 cl, .string (str na), .slice A n a, .agg #[.int .i64 ch, .int .i64 tt, .int .i64 rt]] w fun e w' => e = .returned (.tuple #[.agg #[.int .i64 sr, .int .i64 nm, .int .i64 cl, .string (str na), .slice A n a, .int .i64 ch, .int .i64 tt, .int .i64 rt, .int .i64 1, .int .i64 0, .int .i64 0, .int .i64 0, .int .i64 0, .bool false, .bool false, .bool false, .bool false, .bool false, .slice none 0 0, .int .i64 0], .int .i64 0]) ∧ Below w.heap.size w w' := by
  obtain ⟨W, hW⟩ : ∃ W, W = ((w.alloc (.cells #[.int .i64 sr, .int .i64 nm] 23)).alloc (.cells #[.int .i64 ch, .int .i64 tt, .int .i64 rt] 26)).alloc (.cells #[.int .i64 0, .int .i64 0, .int .i64 0, .string ⟨#[]⟩, .slice none 0 0, .int .i64 0, .int .i64 0, .int .i64 0, .int .i64 0, .int .i64 0, .int .i64 0, .int .i64 0, .int .i64 0, .bool false, .bool false, .bool false, .bool false, .bool false, .slice none 0 0, .int .i64 0] TX) := ⟨_, rfl⟩
  have hb : Below w.heap.size w W := by rw [hW]; exact ((bel_new _ _).alloc (bel_new _ _).size _).alloc ((bel_new _ _).alloc (bel_new _ _).size _).size _
  have i0 : Cel W w.heap.size 23 #[.int .i64 sr, .int .i64 nm] := by rw [hW]; exact Cel.on (Cel.on (Cel.new w _ _) (bel_new _ _)) (bel_new _ _)
  have i1 : Cel W (w.heap.size + 1) 26 #[.int .i64 ch, .int .i64 tt, .int .i64 rt] := by
    rw [hW]
    have := Cel.new (w.alloc (.cells #[.int .i64 sr, .int .i64 nm] 23)) 26 #[.int .i64 ch, .int .i64 tt, .int .i64 rt]
    exact Cel.on (by simpa using this) (bel_new _ _)
  have i2 : Cel W (w.heap.size + 2) TX #[.int .i64 0, .int .i64 0, .int .i64 0, .string ⟨#[]⟩, .slice none 0 0, .int .i64 0, .int .i64 0, .int .i64 0, .int .i64 0, .int .i64 0, .int .i64 0, .int .i64 0, .int .i64 0, .bool false, .bool false, .bool false, .bool false, .bool false, .slice none 0 0, .int .i64 0] := by
    rw [hW]
    have := Cel.new ((w.alloc (.cells #[.int .i64 sr, .int .i64 nm] 23)).alloc (.cells #[.int .i64 ch, .int .i64 tt, .int .i64 rt] 26)) TX #[.int .i64 0, .int .i64 0, .int .i64 0, .string ⟨#[]⟩, .slice none 0 0, .int .i64 0, .int .i64 0, .int .i64 0, .int .i64 0, .int .i64 0, .int .i64 0, .int .i64 0, .int .i64 0, .bool false, .bool false, .bool false, .bool false, .bool false, .slice none 0 0, .int .i64 0]
    simpa using this
  have hs : W.heap.size = w.heap.size + 3 := by rw [hW]; simp
  obtain ⟨W3, hW3⟩ : ∃ W3, W3 = W.alloc (.cells #[.int .i64 1, .int .i64 sr, .int .i64 nm, .int .i64 cl, .string (str na), .int .i64 (n : Int), .int .i64 0, .slice none 0 0, .int .u32 0, .int .i64 0, .slice none 0 0] 45) := ⟨_, rfl⟩
  have hb3 : Below W.heap.size W W3 := by rw [hW3]; exact bel_new _ _
  have u3 : Cel W3 W.heap.size 45 #[.int .i64 1, .int .i64 sr, .int .i64 nm, .int .i64 cl, .string (str na), .int .i64 (n : Int), .int .i64 0, .slice none 0 0, .int .u32 0, .int .i64 0, .slice none 0 0] := by rw [hW3]; exact Cel.new _ _ _
  have j0 := Cel.on i0 hb3
  have j1 := Cel.on i1 hb3
  have j2 := Cel.on i2 hb3
  have b3 := hb.trans (hb3.mono hb.size)
  obtain ⟨q, hq⟩ : ∃ q, q = W.heap.size := ⟨_, rfl⟩
  rw [← hq] at u3
  have hln := hd.len
  have h1' : Pdu.ok ⟨1, sr, nm, cl, na, (n : Int), 0, [], 0, 0, []⟩ = true := by rw [← hln]; exact h1
  have hv := Pdu.rvalid_any 1 sr nm cl na (n : Int) 0 [] 0 0 [] none 0 0 none 0 0 W3 ⟨Bx.zero _, Gx.zero _, (show 0 < 4294967296 by decide)⟩
  rw [h1'] at hv
  have c0 := i0.cell 0
  have c1 := i0.cell 1
  have e0 := u3.cell 0
  have e1 := u3.cell 1
  have e2 := u3.cell 2
  have e3 := u3.cell 3
  have e4 := u3.cell 4
  have e5 := u3.cell 5
  have e6 := u3.cell 6
  have e7 := u3.cell 7
  have e8 := u3.cell 8
  have e9 := u3.cell 9
  have e10 := u3.cell 10
  have HH := Lib.hid (And.intro b3 (And.intro j0 (And.intro j1 j2)))
  clear hd hb i0 i1 i2 hb3 u3 j0 j1 j2 b3 hs h1 h1' hln
  go_enter Try.func9, Try.ntmps9
  go_upto_region 1 with (refine wpList_big_alloc rfl rfl al_x ?_; rintro W' rfl)
  rw [← hW]
  clear hW
  go_upto_region 2 with fail
  rw [← hW3, ← hq]
  clear hW3 hq c0 c1
  go_wp2_with fail
  refine hv.mono ?_
  rintro e w5 ⟨rfl, hb5⟩
  clear hv e0 e1 e2 e3 e4 e5 e6 e7 e8 e9 e10
  obtain ⟨b3, j0, j1, j2⟩ := HH.out
  have k0 := Cel.on j0 hb5
  have k1 := Cel.on j1 hb5
  have k2 := Cel.on j2 hb5
  have b5 := b3.trans (hb5.mono b3.size)
  clear HH b3 j0 j1 j2 hb5
  have l0 := k1.cell 0
  have l1 := k1.cell 1
  have l2 := k1.cell 2
  have hc := xconfig_any ch tt rt w5
  rw [h2] at hc
  have HZ := Lib.hid (And.intro k0 (And.intro k1 (And.intro k2 b5)))
  clear k0 k1 k2 b5 h2
  go_wp2_with fail
  refine hc.mono ?_
  rintro e w6 ⟨rfl, hb6⟩
  obtain ⟨k0, k1, k2, b5⟩ := HZ.out
  have HC := Lib.hid (Cel.on k2 hb6)
  have HB := Lib.hid (And.intro hb6 (b5.trans (hb6.mono b5.size)))
  have m0 := (Cel.on k0 hb6).cell 0
  have m1 := (Cel.on k0 hb6).cell 1
  have n0 := (Cel.on k1 hb6).cell 0
  have n1 := (Cel.on k1 hb6).cell 1
  have n2 := (Cel.on k1 hb6).cell 2
  clear HZ k0 k1 k2 b5 hb6 hc l0 l1 l2
  go_wp2_with (refine wpList_big_store rfl TX (.tmp 10) (.tmp 33) rfl rfl rfl HC.out (by kernel_rfl) rfl (by simp [Value.oneCell']) ?_; intro W9 c9 o9)
  obtain ⟨_, b6⟩ := HB.out
  exact bodyPost_ret (xnew_results rfl rfl c9 (by kernel_rfl)) rfl ⟨rfl, only_bel b6 o9 (by omega)⟩
theorem xnew_no (sr nm cl : Int) (na da : List Byte) (ch tt rt : Int) (A : Option Addr) (n a : Nat) (w : World) (hd : Bx w A da n a) (h : Kc.acc ⟨sr, nm, cl, na, da, ch, tt, rt⟩ = false) :
    Calls Try.prog 9 #[.agg #[.int .i64 sr, .int .i64 nm], .int .i64 cl, .string (str na), .slice A n a, .agg #[.int .i64 ch, .int .i64 tt, .int .i64 rt]] w fun e w' => e = .returned (.tuple #[.agg #[.int .i64 0, .int .i64 0, .int .i64 0, .string ⟨#[]⟩, .slice none 0 0, .int .i64 0, .int .i64 0, .int .i64 0, .int .i64 0, .int .i64 0, .int .i64 0, .int .i64 0, .int .i64 0, .bool false, .bool false, .bool false, .bool false, .bool false, .slice none 0 0, .int .i64 0], .int .i64 1]) ∧ Below w.heap.size w w' := by
  cases h1 : Pdu.ok (Kc.mta ⟨sr, nm, cl, na, da, ch, tt, rt⟩) with
  | false => exact xnew_pdu sr nm cl na da ch tt rt A n a w hd h1
  | true =>
    unfold Kc.acc at h
    rw [h1, Bool.true_and] at h
    exact xnew_cfg sr nm cl na da ch tt rt A n a w hd h1 h
theorem xnew_ok (sr nm cl : Int) (na da : List Byte) (ch tt rt : Int) (A : Option Addr) (n a : Nat) (w : World) (hd : Bx w A da n a) (h : Kc.acc ⟨sr, nm, cl, na, da, ch, tt, rt⟩ = true) :
    Calls Try.prog 9 #[.agg #[.int .i64 sr, .int .i64 nm], .int .i64 cl, .string (str na), .slice A n a, .agg #[.int .i64 ch, .int .i64 tt, .int .i64 rt]] w fun e w' => e = .returned (.tuple #[.agg #[.int .i64 sr, .int .i64 nm, .int .i64 cl, .string (str na), .slice A n a, .int .i64 ch, .int .i64 tt, .int .i64 rt, .int .i64 1, .int .i64 0, .int .i64 0, .int .i64 0, .int .i64 0, .bool false, .bool false, .bool false, .bool false, .bool false, .slice none 0 0, .int .i64 0], .int .i64 0]) ∧ Below w.heap.size w w' := by
  unfold Kc.acc at h
  rw [Bool.and_eq_true] at h
  exact xnew_yes sr nm cl na da ch tt rt A n a w hd h.1 h.2
set_option maxHeartbeats 2000000 in
theorem xst_0 {w : World} {g : Nat} {K : Kc} {s : SS} {D : Option Addr} {d e : Nat} {A : Option Addr} {n c : Nat} (h : XC w g K s D d e A n c) (e0 : s.ph = 0) :
    Calls Try.prog 11 #[.pointer (some ⟨g, 0, none⟩)] w fun e w' => e = .returned (.int .i64 0) ∧ w = w' := by
  have c8 := h.c8
  have c13 := h.c13
  rw [e0] at c8
  clear e0
  clear h
  go_enter Try.func11, Try.ntmps11
  go_wp2
  go_ret
  exact ⟨rfl, rfl⟩
set_option maxHeartbeats 2000000 in
theorem xst_su {w : World} {g : Nat} {K : Kc} {s : SS} {D : Option Addr} {d e : Nat} {A : Option Addr} {n c : Nat} (h : XC w g K s D d e A n c) (e0 : 1 ≤ s.ph) (e1 : s.su = true) :
    Calls Try.prog 11 #[.pointer (some ⟨g, 0, none⟩)] w fun e w' => e = .returned (.int .i64 3) ∧ w = w' := by
  have c8 := h.c8
  have c13 := h.c13
  rw [e1] at c13
  clear e1
  obtain ⟨ph, hph⟩ : ∃ ph, ph = s.ph := ⟨_, rfl⟩
  rw [← hph] at c8 e0
  have z0 : (ph == 0) = false := by simp; omega
  clear e0 hph
  clear h
  go_enter Try.func11, Try.ntmps11
  go_wp2
  go_ret
  exact ⟨rfl, rfl⟩
set_option maxHeartbeats 2000000 in
theorem xst_1 {w : World} {g : Nat} {K : Kc} {s : SS} {D : Option Addr} {d e : Nat} {A : Option Addr} {n c : Nat} (h : XC w g K s D d e A n c) (e1 : s.su = false) (e2 : s.ph = 1) :
    Calls Try.prog 11 #[.pointer (some ⟨g, 0, none⟩)] w fun e w' => e = .returned (.int .i64 1) ∧ w = w' := by
  have c8 := h.c8
  have c13 := h.c13
  rw [e1] at c13
  rw [e2] at c8
  clear e1 e2
  clear h
  go_enter Try.func11, Try.ntmps11
  go_wp2
  go_ret
  exact ⟨rfl, rfl⟩
set_option maxHeartbeats 2000000 in
theorem xst_5 {w : World} {g : Nat} {K : Kc} {s : SS} {D : Option Addr} {d e : Nat} {A : Option Addr} {n c : Nat} (h : XC w g K s D d e A n c) (e1 : s.su = false) (e2 : s.ph = 5) :
    Calls Try.prog 11 #[.pointer (some ⟨g, 0, none⟩)] w fun e w' => e = .returned (.int .i64 4) ∧ w = w' := by
  have c8 := h.c8
  have c13 := h.c13
  rw [e1] at c13
  rw [e2] at c8
  clear e1 e2
  clear h
  go_enter Try.func11, Try.ntmps11
  go_wp2
  go_ret
  exact ⟨rfl, rfl⟩
set_option maxHeartbeats 2000000 in
theorem xst_6 {w : World} {g : Nat} {K : Kc} {s : SS} {D : Option Addr} {d e : Nat} {A : Option Addr} {n c : Nat} (h : XC w g K s D d e A n c) (e1 : s.su = false) (e2 : s.ph = 6) :
    Calls Try.prog 11 #[.pointer (some ⟨g, 0, none⟩)] w fun e w' => e = .returned (.int .i64 5) ∧ w = w' := by
  have c8 := h.c8
  have c13 := h.c13
  rw [e1] at c13
  rw [e2] at c8
  clear e1 e2
  clear h
  go_enter Try.func11, Try.ntmps11
  go_wp2
  go_ret
  exact ⟨rfl, rfl⟩
set_option maxHeartbeats 2000000 in
theorem xst_7 {w : World} {g : Nat} {K : Kc} {s : SS} {D : Option Addr} {d e : Nat} {A : Option Addr} {n c : Nat} (h : XC w g K s D d e A n c) (e1 : s.su = false) (e2 : s.ph = 7) :
    Calls Try.prog 11 #[.pointer (some ⟨g, 0, none⟩)] w fun e w' => e = .returned (.int .i64 6) ∧ w = w' := by
  have c8 := h.c8
  have c13 := h.c13
  rw [e1] at c13
  rw [e2] at c8
  clear e1 e2
  clear h
  go_enter Try.func11, Try.ntmps11
  go_wp2
  go_ret
  exact ⟨rfl, rfl⟩
set_option maxHeartbeats 2000000 in
theorem xst_w {w : World} {g : Nat} {K : Kc} {s : SS} {D : Option Addr} {d e : Nat} {A : Option Addr} {n c : Nat} (h : XC w g K s D d e A n c) (e0 : 1 ≤ s.ph) (e1 : s.su = false) (e2 : ¬ s.ph = 1) (e3 : ¬ s.ph = 5) (e4 : ¬ s.ph = 6) (e5 : ¬ s.ph = 7) :
    Calls Try.prog 11 #[.pointer (some ⟨g, 0, none⟩)] w fun e w' => e = .returned (.int .i64 2) ∧ w = w' := by
  have c8 := h.c8
  have c13 := h.c13
  rw [e1] at c13
  obtain ⟨ph, hph⟩ : ∃ ph, ph = s.ph := ⟨_, rfl⟩
  rw [← hph] at c8 e0 e2 e3 e4 e5
  have z0 : (ph == 0) = false := by simp; omega
  have z1 : (ph == 1) = false := by simpa using e2
  have z2 : (ph == 5) = false := by simpa using e3
  have z3 : (ph == 6) = false := by simpa using e4
  have z4 : (ph == 7) = false := by simpa using e5
  clear e0 e1 e2 e3 e4 e5 hph
  clear h
  go_enter Try.func11, Try.ntmps11
  go_wp2
  go_ret
  exact ⟨rfl, rfl⟩
theorem xstate_any {w : World} {g : Nat} {K : Kc} {s : SS} {D : Option Addr} {d e : Nat} {A : Option Addr} {n c : Nat} (h : XC w g K s D d e A n c) (h1 : 1 ≤ s.ph) :
    Calls Try.prog 11 #[.pointer (some ⟨g, 0, none⟩)] w fun e w' => e = .returned (.int .i64 (sta s)) ∧ w = w' := by
  unfold sta
  by_cases e1 : s.su = true
  · rw [if_pos e1]; exact xst_su h h1 e1
  rw [if_neg e1]
  have e1 : s.su = false := by simpa using e1
  by_cases e2 : s.ph = 1
  · rw [if_pos e2]; exact xst_1 h e1 e2
  rw [if_neg e2]
  by_cases e3 : s.ph = 5
  · rw [if_pos e3]; exact xst_5 h e1 e3
  rw [if_neg e3]
  by_cases e4 : s.ph = 6
  · rw [if_pos e4]; exact xst_6 h e1 e4
  rw [if_neg e4]
  by_cases e5 : s.ph = 7
  · rw [if_pos e5]; exact xst_7 h e1 e5
  rw [if_neg e5]
  exact xst_w h h1 e1 e2 e3 e4 e5
end Go.Proofs.Ytaaikmncdgfkmaa.Src
