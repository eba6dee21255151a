/-
  The walks of package octets' Writer: Int, Blob, Uint.
-/
import Derived.Test.YtjjfamkljcipgaaOctW0
import Derived.Deep.RegionLaw
namespace Go.Proofs.Ytjjfamkljcipgaa
open Go.RowKit

theorem or_more (N : Nat) : bits .or .u8 ((N : Int) % 256) 128 = ((BitVec.ofNat 8 (N % 128 + 128)).toNat : Int) := by
  have e : bits .or .u8 ((N % 256 : Nat) : Int) ((128 : Nat) : Int) = ((N % 256 ||| 128 : Nat) : Int) := u8_or_nat _ _ (by omega) (by decide)
  have h : ∀ m : Fin 256, (m.val ||| 128) = m.val % 128 + 128 := by decide +kernel
  have h2 := h ⟨N % 256, by omega⟩
  simp only at h2
  rw [toNat8 _ (by omega)]
  rw [show ((N : Int) % 256) = ((N % 256 : Nat) : Int) by omega]
  refine e.trans ?_
  rw [h2]
  omega

set_option maxHeartbeats 1000000 in
theorem oint_any (w : World) (base g : Nat) (r : Option Nat) (L : List Byte) (n : Int) (h : OW w base g r L) (hn : -9223372036854775808 ≤ n ∧ n ≤ 9223372036854775807) (hL : L.length < 1000000) (hbase : base ≤ w.heap.size) :
    Calls Try.prog 21 #[.pointer (some ⟨g, 0, none⟩), .int .i64 n] w fun e w' => e = .returned (.pointer (some ⟨g, 0, none⟩)) ∧ OPut w base g r (L ++ encI n) w' := by
  have hw := owOk w base g r L h
  have hz := zig_lt hn
  obtain ⟨E, hE⟩ : ∃ E, E = encI n := ⟨_, rfl⟩
  have HE : Hid (encZ (zig n) = E) := hE.symm
  rw [← hE]
  have hEl : E.length ≤ 10 := by rw [hE]; exact (encI_len hn).2
  have hf := fun W => fold_any n W hn
  obtain ⟨Z, hZ⟩ : ∃ Z, Z = zig n := ⟨_, rfl⟩
  rw [← hZ] at hz
  simp only [← hZ] at hf
  have HE : Hid (encZ Z = E) := by rw [hZ]; exact HE
  clear hE hn hZ
  go_enter Try.func21, Try.ntmps21
  go_wp2_with (first
    | (go_at_call 45; refine hw.mono ?_; rintro e w1 ⟨rfl, rfl⟩)
    | (go_at_call 47; refine (hf _).mono ?_; rintro e w1 ⟨rfl, rfl⟩))
  clear hf hw
  go_loopg [5] 9 (fun f i wr => ∃ (N : Nat) (done : List Byte), i = .int .u64 (N : Int) ∧ N < 128 ^ (f + 1) ∧ N < 18446744073709551616 ∧ Hid (done ++ encF f N = E) ∧ OPut w base g r (L ++ done) wr)
  case atStart => exact ⟨Z, [], rfl, by omega, hz, HE, by rw [List.append_nil]; exact OPut.refl h⟩
  case round =>
    obtain ⟨N, done, rfl, hN, hN64, hd, r', ⟨v, hc, ho, rfl⟩, hr', hO⟩ := hrel
    obtain ⟨M, hM⟩ : ∃ M, M = L ++ done := ⟨_, rfl⟩
    rw [← hM] at ho
    obtain ⟨A, c, rfl, _⟩ := ho.reads
    have hne := ho.apart hc (by decide)
    have c1 := hc.cell 1
    simp at c1
    have hbs : base ≤ wr.heap.size := Nat.le_trans hbase hO.size
    have hdl : M.length < 2000000 := by
      have := congrArg List.length hd.out
      rw [hM]
      rw [List.length_append] at this ⊢
      omega
    have HM := Lib.hid hM
    clear hM
    by_cases hbig : N < 128
    · have hfin : done ++ [BitVec.ofNat 8 N] = E := by have := hd.out; rwa [encF_small _ _ hbig] at this
      have HF := Lib.hid hfin
      have hm : Hid ((N : Int) % 256 = ((BitVec.ofNat 8 N).toNat : Int)) := Lib.hid (by rw [toNat8 _ (by omega)]; omega)
      have t0 : decide (128 ≤ (N : Int)) = false := by simp; omega
      have HB := Lib.hid hbig
      clear hfin h hN hbig
      go_wp2_with (first
        | (at_builtin; refine wpList_appAt _ is_bytes rfl (.tmp 31) (.tmp 34) rfl (v := Value.slice A M.length c) (m := M) rfl (ho.alloc _) (l := [BitVec.ofNat 8 N]) rfl (Bs_new1 _ _ _ _ hm.out) (by simp) (by simp; omega) (by simp; omega) ?_; intro v2 w2 hown2 hgrow2 hat2; obtain ⟨A2, c2', rfl, _⟩ := hown2.reads_len (n := M.length + 1) (by simp); have hcw := hc.grown hgrow2 hne; have e1 := hcw.cell 1; have e3 := hcw.free 1; simp at e1))
      go_ret
      obtain ⟨hk, hv2⟩ := app_new hgrow2 hat2
      have hl2 : M ++ [BitVec.ofNat 8 N] = L ++ E := by rw [HM.out, List.append_assoc, HF.out]
      rw [hl2] at hown2
      exact ⟨rfl, app_close hc ho hr' hO hown2 hk hv2⟩
    · obtain ⟨f, rfl⟩ : ∃ f, gk = f + 1 := ⟨gk - 1, by cases gk with
        | zero => simp at hN; omega
        | succ k => rfl⟩
      have hfin : (done ++ [BitVec.ofNat 8 (N % 128 + 128)]) ++ encF f (N / 128) = E := by have := hd.out; rw [encF_big _ _ hbig] at this; rw [List.append_assoc]; exact this
      have HF := Lib.hid hfin
      have hNb : 128 ≤ (N : Int) := by omega
      have hq : N / 128 < 128 ^ (f + 1) := by rw [Nat.pow_succ] at hN; omega
      have HQ := Lib.hid hq
      clear hfin h hN hq
      go_wp2_with (first
        | (at_builtin; refine wpList_appAt _ is_bytes rfl (.tmp 17) (.tmp 21) rfl (v := Value.slice A M.length c) (m := M) rfl (ho.alloc _) (l := [BitVec.ofNat 8 (N % 128 + 128)]) rfl (Bs_new1 _ _ _ _ (or_more N)) (by simp) (by simp; omega) (by simp; omega) ?_; intro v2 w2 hown2 hgrow2 hat2; obtain ⟨A2, c2', rfl, _⟩ := hown2.reads_len (n := M.length + 1) (by simp); have hcw := hc.grown hgrow2 hne; have e1 := hcw.cell 1; have e3 := hcw.free 1; simp at e1))
      go_roundg f
      case measure => omega
      case rel =>
        obtain ⟨hk, hv2⟩ := app_new hgrow2 hat2
        have hl2 : M ++ [BitVec.ofNat 8 (N % 128 + 128)] = L ++ (done ++ [BitVec.ofNat 8 (N % 128 + 128)]) := by rw [HM.out, List.append_assoc]
        rw [hl2] at hown2
        exact ⟨N / 128, done ++ [BitVec.ofNat 8 (N % 128 + 128)], val_int (by omega), HQ.out, by omega, HF, app_close hc ho hr' hO hown2 hk hv2⟩

set_option maxHeartbeats 1000000 in
theorem oblob_at (w : World) (base g : Nat) (r : Option Nat) (L : List Byte) (B : Nat) (A : Option Addr) (l : List Byte) (n c : Nat) (h : OW w base g r L) (hl : Hid (l.length = n)) (hb : ∀ w', Only (g :: r.toList) w w' → Bs w' B A l) (hn : A = none → c = 0) (hL : L.length + n < 900000) (hbase : base ≤ w.heap.size) :
    Calls Try.prog 22 #[.pointer (some ⟨g, 0, none⟩), .slice A n c] w fun e w' => e = .returned (.pointer (some ⟨g, 0, none⟩)) ∧ OPut w base g r (L ++ encB l) w' := by
  have hl2 : l.length = n := hl
  subst hl2
  have hw := owOk w base g r L h
  have hi := oint_any w base g r L (l.length : Int) h ⟨by omega, by omega⟩ (by omega) hbase
  have hE : encB l = encI (l.length : Int) ++ l := rfl
  have hEl := (encI_len (n := (l.length : Int)) ⟨by omega, by omega⟩).2
  obtain ⟨I, hI⟩ : ∃ I, I = encI (l.length : Int) := ⟨_, rfl⟩
  rw [← hI] at hi hE hEl
  rw [hE, ← List.append_assoc]
  clear hI hE
  go_enter Try.func22, Try.ntmps22
  go_wp2_with fail
  refine hw.mono ?_
  rintro e w1 ⟨rfl, rfl⟩
  go_wp2_with fail
  refine hi.mono ?_
  rintro e w1 ⟨rfl, hP⟩
  obtain ⟨r', ⟨v, hc, ho, rfl⟩, hr', hO⟩ := hP
  have hb1 : Bs w1 B A l := hb w1 hO
  obtain ⟨M, hM⟩ : ∃ M, M = L ++ I := ⟨_, rfl⟩
  rw [← hM] at ho
  have hml : M.length < 910000 := by rw [hM, List.length_append]; omega
  obtain ⟨A1, c1', rfl, _⟩ := ho.reads
  have hne := ho.apart hc (by decide)
  have c1 := hc.cell 1
  simp at c1
  have hbs : base ≤ w1.heap.size := Nat.le_trans hbase hO.size
  have HM := Lib.hid hM
  clear hM hi hw hb h
  go_wp2_with (first
    | (at_builtin; refine wpList_appAt _ is_bytes rfl (.tmp 16) (.tmp 17) rfl (v := Value.slice A1 M.length c1') (m := M) rfl ho (l := l) rfl hb1 hn (by omega) hbs ?_; intro v2 w2 hown2 hgrow2 hat2; obtain ⟨A2, c2', rfl, _⟩ := hown2.reads_len (n := M.length + l.length) (by simp); have hk2 := (app_old hgrow2 hat2).1; have hcw := hc.only hk2 (by simpa using hne); have e1 := hcw.cell 1; have e3 := hcw.free 1; simp at e1))
  go_ret
  rw [← HM.out]
  exact ⟨rfl, app_close hc ho hr' hO hown2 hk2 (app_old hgrow2 hat2).2⟩

theorem oblob_any (w : World) (base g : Nat) (r : Option Nat) (L : List Byte) (B : Nat) (A : Option Addr) (l : List Byte) (n c : Nat) (h : OW w base g r L) (hl : Hid (l.length = n)) (hb : Bs w B A l) (hn : A = none → c = 0) (hB : B ≤ base) (hBg : B ≤ g) (hL : L.length + n < 900000) (hbase : base ≤ w.heap.size) :
    Calls Try.prog 22 #[.pointer (some ⟨g, 0, none⟩), .slice A n c] w fun e w' => e = .returned (.pointer (some ⟨g, 0, none⟩)) ∧ OPut w base g r (L ++ encB l) w' :=
  oblob_at w base g r L B A l n c h hl (fun w' hO => hb.only hO (by have := h.lt; omega) fun x hx => by
    rcases List.mem_cons.1 hx with rfl | hx
    · exact hBg
    · have := h.row x (by simpa using hx)
      omega) hn hL hbase
theorem Bs.apart_only {w w' : World} {B q off : Nat} {l : List Byte} {S : List Nat} (h : Bs w B (some ⟨q, off, none⟩) l) (k : Only S w w') (hq : q < w.heap.size) (hS : q ∉ S) : Bs w' B (some ⟨q, off, none⟩) l := fun hl => by
  obtain ⟨b, o, he, hb, hc⟩ := h hl
  injection he with he
  injection he with h1 h2
  subst h1 h2
  exact ⟨q, off, rfl, hb, fun i x hx => (World.cell?_of_block (k.block q hq hS)).trans (hc i x hx)⟩

theorem byte_at (N j : Nat) : ((N / 2 ^ (8 * j) : Nat) : Int) % 256 = ((BitVec.ofNat 8 (N / 256 ^ j)).toNat : Int) := by
  rw [BitVec.toNat_ofNat, Nat.pow_mul, show (2 ^ 8 : Nat) = 256 from rfl]
  omega

set_option maxHeartbeats 1000000 in
theorem ouint_ok (w : World) (base g : Nat) (r : Option Nat) (L : List Byte) (N K : Nat) (h : OW w base g r L) (hK1 : 1 ≤ K) (hK8 : K ≤ 8) (hL : L.length < 1000000) (hbase : base ≤ w.heap.size) :
    Calls Try.prog 20 #[.pointer (some ⟨g, 0, none⟩), .int .u64 (N : Int), .int .i64 (K : Int)] w fun e w' => e = .returned (.pointer (some ⟨g, 0, none⟩)) ∧ OPut w base g r (L ++ be N K) w' := by
  have hw := owOk w base g r L h
  have hv := fun W => osize_any (K : Int) W
  have hd : decide (1 ≤ (K : Int) ∧ (K : Int) ≤ 8) = true := by simp; omega
  rw [hd] at hv
  obtain ⟨E, hE⟩ : ∃ E, E = be N K := ⟨_, rfl⟩
  have HE : Hid (be N K = E) := hE.symm
  have hEl : E.length ≤ 8 := by rw [hE, be_len]; omega
  rw [← hE]
  clear hd hE
  go_enter Try.func20, Try.ntmps20
  go_wp2_with (first
    | (go_at_call 45; refine hw.mono ?_; rintro e w1 ⟨rfl, rfl⟩)
    | (go_at_call 46; refine (hv _).mono ?_; rintro e w1 ⟨rfl, rfl⟩))
  clear hv hw
  go_loopg [7] K (fun k i wr => ∃ (done : List Byte), i = .int .i64 ((k : Int) - 1) ∧ k ≤ K ∧ Hid (done ++ be N k = E) ∧ OPut w base g r (L ++ done) wr)
  case atStart => exact ⟨[], rfl, Nat.le_refl _, HE, by rw [List.append_nil]; exact OPut.refl h⟩
  case round =>
    obtain ⟨done, rfl, hk, hd, hP⟩ := hrel
    by_cases hk0 : gk = 0
    · subst hk0
      have hde : done = E := by have := hd.out; simpa [be] using this
      rw [hde] at hP
      clear hde hd h
      go_wp2
      go_ret
      exact ⟨rfl, hP⟩
    · obtain ⟨j, rfl⟩ : ∃ j, gk = j + 1 := ⟨gk - 1, by omega⟩
      obtain ⟨r', ⟨v, hc, ho, rfl⟩, hr', hO⟩ := hP
      obtain ⟨M, hM⟩ : ∃ M, M = L ++ done := ⟨_, rfl⟩
      rw [← hM] at ho
      obtain ⟨A, c, rfl, _⟩ := ho.reads
      have hne := ho.apart hc (by decide)
      have c1 := hc.cell 1
      have f1 := hc.free 1
      simp at c1
      have hbs : base ≤ wr.heap.size := Nat.le_trans hbase hO.size
      have hdl : M.length < 2000000 := by
        have := congrArg List.length hd.out
        rw [hM]
        rw [List.length_append] at this ⊢
        omega
      have HM := Lib.hid hM
      have hfin : (done ++ [BitVec.ofNat 8 (N / 256 ^ j)]) ++ be N j = E := by have := hd.out; rw [List.append_assoc]; exact this
      have HF := Lib.hid hfin
      have hj0 : (0 : Int) ≤ (j : Int) := Int.natCast_nonneg _
      have hj8 : (j : Int) ≤ 7 := by omega
      have ej : (((j + 1 : Nat) : Int) - 1) = (j : Int) := by omega
      rw [ej]
      obtain ⟨q, hq⟩ : ∃ q, q = 8 * j := ⟨_, rfl⟩
      have hq2 : IntKind.i64.wrap (8 * (j : Int)) = (q : Int) := by rw [IntKind.wrap_i64]; omega
      have HBt : Hid (IntKind.u8.wrap ((N : Int) / 2 ^ q) = ((BitVec.ofNat 8 (N / 256 ^ j)).toNat : Int)) := Lib.hid (by rw [IntKind.wrap_u8, hq, ← byte_at, Int.natCast_ediv, Int.natCast_pow]; rfl)
      have HQ := Lib.hid hq
      have hca : ∀ o, (wr.alloc o).cell? ⟨g, 1, none⟩ = some (.slice A M.length c) := fun o => by
        have := (hc.only ((Only.refl [] wr).alloc o) (by simp)).cell 1
        simpa using this
      have hq3 : q ≤ 56 := by omega
      clear hfin h hM hk0 ej hq
      go_wp2_with fail
      go_region_law (first | (refine step_appAt _ is_bytes rfl (.tmp 25) (.tmp 31) rfl (v := Value.slice A M.length c) (m := M) rfl (ho.alloc _).drew (l := [BitVec.ofNat 8 (N / 256 ^ j)]) rfl (Bs_new1 wr 5 _ _ HBt.out).drew (by simp) (by simp; omega) (by simp; omega) ?_; intro v2 w2 hown2 hgrow2 hat2; obtain ⟨A2, c2', rfl, _⟩ := hown2.reads_len (n := M.length + 1) (by simp); have hk2 := (app_newd hgrow2 hat2).1; have hcw := hc.only hk2 (by simpa using hne); have e1 := hcw.cell 1; have e3 := hcw.free 1; simp at e1))
      all_goals (try go_wp2_with fail)
      all_goals (
        have hl2 : M ++ [BitVec.ofNat 8 (N / 256 ^ j)] = L ++ (done ++ [BitVec.ofNat 8 (N / 256 ^ j)]) := by rw [HM.out, List.append_assoc]
        rw [hl2] at hown2
        have hfinal := app_close hc ho hr' hO hown2 hk2 (app_newd hgrow2 hat2).2
        go_roundg j
        case measure => omega
        case rel => exact ⟨done ++ [BitVec.ofNat 8 (N / 256 ^ j)], rfl, by omega, HF, hfinal⟩)

set_option maxHeartbeats 400000 in
theorem ouint_bad (w : World) (base g : Nat) (r : Option Nat) (L : List Byte) (m size : Int) (h : OW w base g r L) (hs : decide (1 ≤ size ∧ size ≤ 8) = false) :
    Calls Try.prog 20 #[.pointer (some ⟨g, 0, none⟩), .int .u64 m, .int .i64 size] w fun e w' => e = .returned (.pointer (some ⟨g, 0, none⟩)) ∧ w = w' := by
  have hw := owOk w base g r L h
  have hv := fun W => osize_any size W
  rw [hs] at hv
  clear hs h
  go_enter Try.func20, Try.ntmps20
  go_wp2_with (first
    | (go_at_call 45; refine hw.mono ?_; rintro e w1 ⟨rfl, rfl⟩)
    | (go_at_call 46; refine (hv _).mono ?_; rintro e w1 ⟨rfl, rfl⟩))
  go_ret
  exact ⟨rfl, rfl⟩
theorem ouint_any (w : World) (base g : Nat) (r : Option Nat) (L : List Byte) (m size : Int) (N : Nat) (hm : m = (N : Int)) (h : OW w base g r L) (hL : L.length < 1000000) (hbase : base ≤ w.heap.size) :
    Calls Try.prog 20 #[.pointer (some ⟨g, 0, none⟩), .int .u64 m, .int .i64 size] w fun e w' => e = .returned (.pointer (some ⟨g, 0, none⟩)) ∧ OPut w base g r (L ++ encU N size) w' := by
  subst hm
  by_cases hs : 1 ≤ size ∧ size ≤ 8
  · obtain ⟨K, rfl⟩ := Int.eq_ofNat_of_zero_le (show 0 ≤ size by omega)
    have he : encU N (K : Int) = be N K := by unfold encU; rw [if_pos hs, Int.toNat_natCast]
    rw [he]
    exact ouint_ok w base g r L N K h (by omega) (by omega) hL hbase
  · have he : encU N size = [] := by unfold encU; rw [if_neg hs]
    rw [he, List.append_nil]
    refine (ouint_bad w base g r L (N : Int) size h (decide_eq_false hs)).mono fun e w' ⟨h1, h2⟩ => ⟨h1, ?_⟩
    rw [← h2]
    exact OPut.refl h
set_option maxHeartbeats 400000 in
theorem oint_nil (n : Int) (w : World) : Calls Try.prog 21 #[.pointer none, .int .i64 n] w fun e w' => e = .returned (.pointer none) ∧ w = w' := by
  go_enter Try.func21, Try.ntmps21
  go_wp2_with (go_at_call 45; refine (ow_works_nil _).mono ?_; rintro e w1 ⟨rfl, rfl⟩)
  go_ret
  exact ⟨rfl, rfl⟩
end Go.Proofs.Ytjjfamkljcipgaa
