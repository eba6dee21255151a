/-
  The walks of package octets' Writer: Int, Blob, Uint.
-/
import Derived.Test.YtboapfkgkehfcaaOctW0
import Derived.Deep.RegionLaw
namespace Go.Proofs.Ytboapfkgkehfcaa
open Go.RowKit

theorem or_more (N : Nat) : bits .or .u8 ((N : Int) % 256) 128 = ((BitVec.ofNat 8 (N % 128 + 128)).toNat : Int) := by
  have e : bits .or .u8 ((N % 256 : Nat) : Int) ((128 : Nat) : Int) = ((N % 256 ||| 128 : Nat) : Int) := u8_or_nat _ _ (by omega) (by decide)
  have h : ∀ m : Fin 256, (m.val ||| 128) = m.val % 128 + 128 := by decide +kernel
  have h2 := h ⟨N % 256, by omega⟩
  simp only at h2
  rw [toNat8 _ (by omega)]
  rw [show ((N : Int) % 256) = ((N % 256 : Nat) : Int) by omega]
  refine e.trans ?_
  rw [h2]
  omega

theorem Bs.apart_only {w w' : World} {B q off : Nat} {l : List Byte} {S : List Nat} (h : Bs w B (some ⟨q, off, none⟩) l) (k : Only S w w') (hq : q < w.heap.size) (hS : q ∉ S) : Bs w' B (some ⟨q, off, none⟩) l := fun hl => by
  obtain ⟨b, o, he, hb, hc⟩ := h hl
  injection he with he
  injection he with h1 h2
  subst h1 h2
  exact ⟨q, off, rfl, hb, fun i x hx => (World.cell?_of_block (k.block q hq hS)).trans (hc i x hx)⟩

theorem byte_at (N j : Nat) : ((N / 2 ^ (8 * j) : Nat) : Int) % 256 = ((BitVec.ofNat 8 (N / 256 ^ j)).toNat : Int) := by
  rw [BitVec.toNat_ofNat, Nat.pow_mul, show (2 ^ 8 : Nat) = 256 from rfl]
  omega

set_option maxHeartbeats 1000000 in
theorem ouint_ok (w : World) (base g : Nat) (r : Option Nat) (L : List Byte) (N K : Nat) (h : OW w base g r L) (hK1 : 1 ≤ K) (hK8 : K ≤ 8) (hL : L.length < 1000000) (hbase : base ≤ w.heap.size) :
    Calls Try.prog 22 #[.pointer (some ⟨g, 0, none⟩), .int .u64 (N : Int), .int .i64 (K : Int)] w fun e w' => e = .returned (.pointer (some ⟨g, 0, none⟩)) ∧ OPut w base g r (L ++ be N K) w' := by
  have hw := owOk w base g r L h
  have hv := fun W => osize_any (K : Int) W
  have hd : decide (1 ≤ (K : Int) ∧ (K : Int) ≤ 8) = true := by simp; omega
  rw [hd] at hv
  obtain ⟨E, hE⟩ : ∃ E, E = be N K := ⟨_, rfl⟩
  have HE : Hid (be N K = E) := hE.symm
  have hEl : E.length ≤ 8 := by rw [hE, be_len]; omega
  rw [← hE]
  clear hd hE
  go_enter Try.func22, Try.ntmps22
  go_wp2_with (first
    | (go_at_call 30; refine hw.mono ?_; rintro e w1 ⟨rfl, rfl⟩)
    | (go_at_call 31; refine (hv _).mono ?_; rintro e w1 ⟨rfl, rfl⟩))
  clear hv hw
  go_loopg [7] K (fun k i wr => ∃ (done : List Byte), i = .int .i64 ((k : Int) - 1) ∧ k ≤ K ∧ Hid (done ++ be N k = E) ∧ OPut w base g r (L ++ done) wr)
  case atStart => exact ⟨[], rfl, Nat.le_refl _, HE, by rw [List.append_nil]; exact OPut.refl h⟩
  case round =>
    obtain ⟨done, rfl, hk, hd, hP⟩ := hrel
    by_cases hk0 : gk = 0
    · subst hk0
      have hde : done = E := by have := hd.out; simpa [be] using this
      rw [hde] at hP
      clear hde hd h
      go_wp2
      go_ret
      exact ⟨rfl, hP⟩
    · obtain ⟨j, rfl⟩ : ∃ j, gk = j + 1 := ⟨gk - 1, by omega⟩
      obtain ⟨r', ⟨v, hc, ho, rfl⟩, hr', hO⟩ := hP
      obtain ⟨M, hM⟩ : ∃ M, M = L ++ done := ⟨_, rfl⟩
      rw [← hM] at ho
      obtain ⟨A, c, rfl, _⟩ := ho.reads
      have hne := ho.apart hc (by decide)
      have c1 := hc.cell 1
      have f1 := hc.free 1
      simp at c1
      have hbs : base ≤ wr.heap.size := Nat.le_trans hbase hO.size
      have hdl : M.length < 2000000 := by
        have := congrArg List.length hd.out
        rw [hM]
        rw [List.length_append] at this ⊢
        omega
      have HM := Lib.hid hM
      have hfin : (done ++ [BitVec.ofNat 8 (N / 256 ^ j)]) ++ be N j = E := by have := hd.out; rw [List.append_assoc]; exact this
      have HF := Lib.hid hfin
      have hj0 : (0 : Int) ≤ (j : Int) := Int.natCast_nonneg _
      have hj8 : (j : Int) ≤ 7 := by omega
      have ej : (((j + 1 : Nat) : Int) - 1) = (j : Int) := by omega
      rw [ej]
      obtain ⟨q, hq⟩ : ∃ q, q = 8 * j := ⟨_, rfl⟩
      have hq2 : IntKind.i64.wrap (8 * (j : Int)) = (q : Int) := by rw [IntKind.wrap_i64]; omega
      have HBt : Hid (IntKind.u8.wrap ((N : Int) / 2 ^ q) = ((BitVec.ofNat 8 (N / 256 ^ j)).toNat : Int)) := Lib.hid (by rw [IntKind.wrap_u8, hq, ← byte_at, Int.natCast_ediv, Int.natCast_pow]; rfl)
      have HQ := Lib.hid hq
      have hca : ∀ o, (wr.alloc o).cell? ⟨g, 1, none⟩ = some (.slice A M.length c) := fun o => by
        have := (hc.only ((Only.refl [] wr).alloc o) (by simp)).cell 1
        simpa using this
      have hq3 : q ≤ 56 := by omega
      clear hfin h hM hk0 ej hq
      go_wp2_with fail
      go_region_law (first | (refine step_appAt _ is_bytes rfl (.tmp 25) (.tmp 31) rfl (v := Value.slice A M.length c) (m := M) rfl (ho.alloc _).drew (l := [BitVec.ofNat 8 (N / 256 ^ j)]) rfl (Bs_new1 wr 5 _ _ HBt.out).drew (by simp) (by simp; omega) (by simp; omega) ?_; intro v2 w2 hown2 hgrow2 hat2; obtain ⟨A2, c2', rfl, _⟩ := hown2.reads_len (n := M.length + 1) (by simp); have hk2 := (app_newd hgrow2 hat2).1; have hcw := hc.only hk2 (by simpa using hne); have e1 := hcw.cell 1; have e3 := hcw.free 1; simp at e1))
      all_goals (try go_wp2_with fail)
      all_goals (
        have hl2 : M ++ [BitVec.ofNat 8 (N / 256 ^ j)] = L ++ (done ++ [BitVec.ofNat 8 (N / 256 ^ j)]) := by rw [HM.out, List.append_assoc]
        rw [hl2] at hown2
        have hfinal := app_close hc ho hr' hO hown2 hk2 (app_newd hgrow2 hat2).2
        go_roundg j
        case measure => omega
        case rel => exact ⟨done ++ [BitVec.ofNat 8 (N / 256 ^ j)], rfl, by omega, HF, hfinal⟩)

set_option maxHeartbeats 400000 in
theorem ouint_bad (w : World) (base g : Nat) (r : Option Nat) (L : List Byte) (m size : Int) (h : OW w base g r L) (hs : decide (1 ≤ size ∧ size ≤ 8) = false) :
    Calls Try.prog 22 #[.pointer (some ⟨g, 0, none⟩), .int .u64 m, .int .i64 size] w fun e w' => e = .returned (.pointer (some ⟨g, 0, none⟩)) ∧ w = w' := by
  have hw := owOk w base g r L h
  have hv := fun W => osize_any size W
  rw [hs] at hv
  clear hs h
  go_enter Try.func22, Try.ntmps22
  go_wp2_with (first
    | (go_at_call 30; refine hw.mono ?_; rintro e w1 ⟨rfl, rfl⟩)
    | (go_at_call 31; refine (hv _).mono ?_; rintro e w1 ⟨rfl, rfl⟩))
  go_ret
  exact ⟨rfl, rfl⟩
theorem ouint_any (w : World) (base g : Nat) (r : Option Nat) (L : List Byte) (m size : Int) (N : Nat) (hm : m = (N : Int)) (h : OW w base g r L) (hL : L.length < 1000000) (hbase : base ≤ w.heap.size) :
    Calls Try.prog 22 #[.pointer (some ⟨g, 0, none⟩), .int .u64 m, .int .i64 size] w fun e w' => e = .returned (.pointer (some ⟨g, 0, none⟩)) ∧ OPut w base g r (L ++ encU N size) w' := by
  subst hm
  by_cases hs : 1 ≤ size ∧ size ≤ 8
  · obtain ⟨K, rfl⟩ := Int.eq_ofNat_of_zero_le (show 0 ≤ size by omega)
    have he : encU N (K : Int) = be N K := by unfold encU; rw [if_pos hs, Int.toNat_natCast]
    rw [he]
    exact ouint_ok w base g r L N K h (by omega) (by omega) hL hbase
  · have he : encU N size = [] := by unfold encU; rw [if_neg hs]
    rw [he, List.append_nil]
    refine (ouint_bad w base g r L (N : Int) size h (decide_eq_false hs)).mono fun e w' ⟨h1, h2⟩ => ⟨h1, ?_⟩
    rw [← h2]
    exact OPut.refl h
end Go.Proofs.Ytboapfkgkehfcaa
