/-
  The walk of the reference's Decode of layer 5.
-/
import Derived.Test.YtboapfkgkehfcaaRef05
import Derived.Test.YtboapfkgkehfcaaCucD
namespace Go.Proofs.Ytboapfkgkehfcaa
open Go.RowKit

theorem xdec_results {tmps : Array Value} {W : World} {g : Nat} {t c f n e : Int} (h2 : tmps.getD 2 undef = .int .i64 t) (h3 : tmps.getD 3 undef = .pointer (some ⟨g, 0, none⟩)) (h4 : tmps.getD 4 undef = .int .i64 n) (h5 : tmps.getD 5 undef = .int .i64 e) (hF : Fm W g c f) :
    (results Try.f18 tmps).run Try.prog W = .ok (dOut t c f n e) W := by
  obtain ⟨_, c0, c1⟩ := hF
  simp only [Array.getD_eq_getD_getElem?] at h2 h3 h4 h5
  simp [results, Try.results18, go_sem, dOut, h2, h3, h4, h5, c0, c1]

set_option maxHeartbeats 1000000 in
theorem xdecode_empty (A : Option Addr) (c : Nat) (w : World) :
    Calls Try.prog 18 #[.slice A 0 c] w fun e w' => e = .returned (dOut 0 0 0 0 3) ∧ Below w.heap.size w w' := by
  go_enter Try.func18, Try.ntmps18
  go_wp2
  exact bodyPost_ret (xdec_results rfl rfl rfl rfl (Fm_new _ _ _ _)) rfl ⟨rfl, bel_new _ _⟩

set_option maxHeartbeats 1000000 in
theorem xdecode_form (A : Option Addr) (p : Byte) (r : List Byte) (c : Nat) (w : World) (hb : Bs w w.heap.size A (p :: r)) (hp : p.toNat < 16 ∨ 31 < p.toNat) (hL : r.length < 1000000) :
    Calls Try.prog 18 #[.slice A (r.length + 1) c] w fun e w' => e = .returned (dOut 0 0 0 0 4) ∧ Below w.heap.size w w' := by
  obtain ⟨b, off, rfl, hbl, hcc⟩ := hb.at_ (k := 0) (by simp)
  have hb0 := bel_new w (.cells #[.int .i64 0, .int .i64 0] 24)
  have hr0 := Cel.new w 24 #[.int .i64 0, .int .i64 0]
  have hc0 := (hb0.cell (p := ⟨b, off + 0, none⟩) hbl).trans hcc
  simp at hc0
  have h8 := p.isLt
  clear hb hcc
  by_cases h16 : p.toNat < 16
  · have hI : decide ((p.toNat : Int) < 16) = true := by simp; omega
    have hN : decide (p.toNat < 16) = true := by simp; omega
    clear hp
    go_enter Try.func18, Try.ntmps18
    go_wp2
    exact bodyPost_ret (xdec_results rfl rfl rfl rfl (Fm_new _ _ _ _)) rfl ⟨rfl, bel_new _ _⟩
  · have hI : decide ((p.toNat : Int) < 16) = false := by simp; omega
    have hN : decide (p.toNat < 16) = false := by simp; omega
    have hI2 : decide (31 < (p.toNat : Int)) = true := by simp; omega
    have hN2 : decide (31 < p.toNat) = true := by simp; omega
    clear hp h16
    go_enter Try.func18, Try.ntmps18
    go_wp2
    exact bodyPost_ret (xdec_results rfl rfl rfl rfl (Fm_new _ _ _ _)) rfl ⟨rfl, bel_new _ _⟩

set_option maxHeartbeats 2000000 in
theorem xdecode_short (A : Option Addr) (p : Byte) (r : List Byte) (c C F : Nat) (w : World) (hb : Bs w w.heap.size A (p :: r)) (hp : ¬ (p.toNat < 16 ∨ 31 < p.toNat)) (hC : C = (p.toNat - 16) / 4 + 1) (hF : F = p.toNat % 4) (hr : r.length < C + F) :
    Calls Try.prog 18 #[.slice A (r.length + 1) c] w fun e w' => e = .returned (dOut 0 0 0 0 3) ∧ Below w.heap.size w w' := by
  obtain ⟨b, off, rfl, hbl, hcc⟩ := hb.at_ (k := 0) (by simp)
  have hval : cvl (C : Int) (F : Int) = true := cvl_iff.2 (by omega)
  have hs := fun W => xfsize_any (C : Int) (F : Int) W
  have hcs : csz (C : Int) (F : Int) = 1 + (C : Int) + (F : Int) := by unfold csz; rw [if_pos hval]
  rw [hcs] at hs
  have hb0 := bel_new w (.cells #[.int .i64 0, .int .i64 0] 24)
  have hc0 := (hb0.cell (p := ⟨b, off + 0, none⟩) hbl).trans hcc
  simp at hc0
  have hI : decide ((p.toNat : Int) < 16) = false := by simp; omega
  have hN : decide (p.toNat < 16) = false := by simp; omega
  have hI2 : decide (31 < (p.toNat : Int)) = false := by simp; omega
  have hN2 : decide (31 < p.toNat) = false := by simp; omega
  have hC8 : (C : Int) ≤ 4 := by omega
  have hF8 : (F : Int) ≤ 3 := by omega
  have hlss : (r.length : Int) + 1 < 1 + (C : Int) + (F : Int) := by omega
  have hp1 : (16 : Int) ≤ (p.toNat : Int) := by omega
  have hp2 : (p.toNat : Int) ≤ 31 := by omega
  have eC : ((p.toNat : Int) - 16) / 4 + 1 = (C : Int) := by omega
  have eF : (p.toNat : Int) % 4 = (F : Int) := by omega
  have hW := bel_new w (.cells #[.int .i64 0, .int .i64 0] 24)
  have hsz : (w.alloc (.cells #[.int .i64 0, .int .i64 0] 24)).heap.size = w.heap.size + 1 := by simp
  obtain ⟨W1, hW1⟩ : ∃ W1, W1 = ((w.alloc (.cells #[.int .i64 0, .int .i64 0] 24)).alloc (.cells #[.int .i64 (C : Int), .int .i64 (F : Int)] 24)).drew := ⟨_, rfl⟩
  have hb1 : Below w.heap.size w W1 := by rw [hW1]; exact (hW.alloc hW.size _).drew
  have hm1 : Fm W1 (w.heap.size + 1) (C : Int) (F : Int) := by
    have := Fm_new (w.alloc (.cells #[.int .i64 0, .int .i64 0] 24)) 24 (C : Int) (F : Int)
    rw [hsz] at this
    rw [hW1]
    exact this.drew
  have hr1 : Cel W1 w.heap.size 24 #[.int .i64 0, .int .i64 0] := by
    rw [hW1]
    exact (Cel.new w 24 #[.int .i64 0, .int .i64 0]).later (bel_new _ _).drew
  have HW1 := Lib.hid hW1
  clear hW1 hW hsz hb0
  clear hval hb hcc hr hcs hp hC hF
  go_enter Try.func18, Try.ntmps18
  go_wp2_with fail
  go_region
  rw [← HW1.out]
  obtain ⟨_, m0, m1⟩ := hm1
  go_wp2_with fail
  refine (hs _).mono ?_
  rintro e w3 ⟨rfl, hb⟩
  have hb3 := hb1.trans (hb.mono hb1.size)
  have hr3 := hr1.later hb
  have c0 := hr3.cell 0
  have c1 := hr3.cell 1
  have f0 := hr3.free 0
  have f1 := hr3.free 1
  simp at c0 c1
  clear hb hr1 hb1 hs m0 m1
  go_wp2
  exact bodyPost_ret (xdec_results rfl rfl rfl rfl (Fm_store hr3 0 0)) rfl ⟨rfl, store_below hb3 (Nat.le_refl _) _ _⟩
set_option maxHeartbeats 2000000 in
theorem xdecode_rest (A : Option Addr) (p : Byte) (r : List Byte) (c C F : Nat) (w : World) (hb : Bs w w.heap.size A (p :: r)) (hp : ¬ (p.toNat < 16 ∨ 31 < p.toNat)) (hC : C = (p.toNat - 16) / 4 + 1) (hF : F = p.toNat % 4) (hr : C + F ≤ r.length) (hL : r.length < 1000000) :
    Calls Try.prog 18 #[.slice A (r.length + 1) c] w fun e w' => e = .returned (dOut (dcd (p :: r)).2.1 (dcd (p :: r)).2.2.1 (dcd (p :: r)).2.2.2 (dsz (p :: r)) (dcd (p :: r)).1) ∧ Below w.heap.size w w' := by
  obtain ⟨b, off, rfl, hbl, hcc⟩ := hb.at_ (k := 0) (by simp)
  have hval : cvl (C : Int) (F : Int) = true := cvl_iff.2 (by omega)
  have hs := fun W => xfsize_any (C : Int) (F : Int) W
  have hcs : csz (C : Int) (F : Int) = 1 + (C : Int) + (F : Int) := by unfold csz; rw [if_pos hval]
  rw [hcs] at hs
  have hb0 := bel_new w (.cells #[.int .i64 0, .int .i64 0] 24)
  have hc0 := (hb0.cell (p := ⟨b, off + 0, none⟩) hbl).trans hcc
  simp at hc0
  have hI : decide ((p.toNat : Int) < 16) = false := by simp; omega
  have hN : decide (p.toNat < 16) = false := by simp; omega
  have hI2 : decide (31 < (p.toNat : Int)) = false := by simp; omega
  have hN2 : decide (31 < p.toNat) = false := by simp; omega
  have hC8 : (C : Int) ≤ 4 := by omega
  have hF8 : (F : Int) ≤ 3 := by omega
  have hlss : decide ((r.length : Int) + 1 < 1 + (C : Int) + (F : Int)) = false := by simp; omega
  have hC1 : (1 : Int) ≤ (C : Int) := by omega
  have hF0 : (0 : Int) ≤ (F : Int) := by omega
  have hdc := dcd_rest (r := r) hp hC hF (by omega)
  obtain ⟨T, hT⟩ : ∃ T, T = (r.drop C).take F := ⟨_, rfl⟩
  have hTl : T.length = F := by rw [hT, List.length_take, List.length_drop]; omega
  have hTat : ∀ k (hk : k < F), r[C + k]? = some (T[k]'(by omega)) := fun k hk => by
    have h1 : T[k]? = r[C + k]? := by rw [hT, List.getElem?_take, if_pos hk, List.getElem?_drop]
    rw [← h1, List.getElem?_eq_getElem]
  rw [← hT] at hdc
  obtain ⟨V, hV⟩ : ∃ V, V = beV (r.take C) := ⟨_, rfl⟩
  rw [← hV] at hdc
  have HV := Lib.hid hV
  have HD := Lib.hid hdc
  have hV4 : V < 4294967296 := by
    have h1 := beV_lt (r.take C)
    have h2 : (r.take C).length ≤ 4 := by rw [List.length_take]; omega
    have h3 : 256 ^ (r.take C).length ≤ 256 ^ 4 := Nat.pow_le_pow_right (by decide) h2
    omega
  have hp1 : (16 : Int) ≤ (p.toNat : Int) := by omega
  have hp2 : (p.toNat : Int) ≤ 31 := by omega
  have eC : ((p.toNat : Int) - 16) / 4 + 1 = (C : Int) := by omega
  have eF : (p.toNat : Int) % 4 = (F : Int) := by omega
  have hW := bel_new w (.cells #[.int .i64 0, .int .i64 0] 24)
  have hsz : (w.alloc (.cells #[.int .i64 0, .int .i64 0] 24)).heap.size = w.heap.size + 1 := by simp
  obtain ⟨W1, hW1⟩ : ∃ W1, W1 = ((w.alloc (.cells #[.int .i64 0, .int .i64 0] 24)).alloc (.cells #[.int .i64 (C : Int), .int .i64 (F : Int)] 24)).drew := ⟨_, rfl⟩
  have hb1 : Below w.heap.size w W1 := by rw [hW1]; exact (hW.alloc hW.size _).drew
  have hm1 : Fm W1 (w.heap.size + 1) (C : Int) (F : Int) := by
    have := Fm_new (w.alloc (.cells #[.int .i64 0, .int .i64 0] 24)) 24 (C : Int) (F : Int)
    rw [hsz] at this
    rw [hW1]
    exact this.drew
  have hr1 : Cel W1 w.heap.size 24 #[.int .i64 0, .int .i64 0] := by
    rw [hW1]
    exact (Cel.new w 24 #[.int .i64 0, .int .i64 0]).later (bel_new _ _).drew
  have HW1 := Lib.hid hW1
  clear hW1 hW hsz hb0
  have hb8 := hb
  clear hval hb hcc hcs hp hC hF hV hT hdc
  go_enter Try.func18, Try.ntmps18
  go_wp2_with fail
  go_region
  rw [← HW1.out]
  obtain ⟨hlt1, m0, m1⟩ := hm1
  go_wp2_with fail
  refine (hs _).mono ?_
  rintro e w3 ⟨rfl, hb⟩
  have hb3 := hb1.trans (hb.mono hb1.size)
  have hr3 := hr1.later hb
  have hm3 := (show Fm W1 (w.heap.size + 1) (C : Int) (F : Int) from ⟨hlt1, m0, m1⟩).keep hb
  clear hb hr1 hb1 m0 m1 hlt1 HW1 hc0
  obtain ⟨_, m0, m1⟩ := id hm3
  have hbs3 := hb8.below hb3
  go_wp2_with fail
  go_loop [7, 8] (fun t i => ∃ j : Nat, j ≤ C ∧ i = .int .i64 j ∧ t = .int .i64 (beV (r.take j) : Int)) (fun _ i => C - (intOf i).toNat)
  case atStart => exact ⟨0, Nat.zero_le _, rfl, rfl⟩
  case round =>
    obtain ⟨j, hj, rfl, rfl⟩ := hrel
    by_cases hlt : j < C
    · obtain ⟨b', off', he, _, hcc⟩ := hbs3.at_ (k := 1 + j) (by simp; omega)
      injection he with he
      injection he with he1 he2
      subst he1 he2
      have hjr : j < r.length := by omega
      have hx : (p :: r)[1 + j]'(by simp; omega) = r[j] := by simp [Nat.add_comm 1 j]
      rw [hx] at hcc
      have HS : Hid (beV (r.take (j + 1)) = beV (r.take j) * 256 + r[j].toNat) := beV_take r j _ (List.getElem?_eq_getElem hjr)
      have hv : beV (r.take j) < 4294967296 := by
        have h1 := beV_lt (r.take j)
        have h2 : (r.take j).length ≤ 4 := by rw [List.length_take]; omega
        have h3 : 256 ^ (r.take j).length ≤ 256 ^ 4 := Nat.pow_le_pow_right (by decide) h2
        omega
      obtain ⟨y, hy⟩ : ∃ y, y = r[j] := ⟨_, rfl⟩
      rw [← hy] at hcc HS
      have hy8 := y.isLt
      obtain ⟨v, hvv⟩ : ∃ v, v = beV (r.take j) := ⟨_, rfl⟩
      simp only [← hvv] at hv HS ⊢
      have hjI : (j : Int) < (C : Int) := by omega
      have hj5 : (1 : Int) + (j : Int) < (r.length : Int) + 1 := by omega
      clear hvv hx hy
      go_wp2
      go_round
      case rel => exact ⟨j + 1, by omega, by go_num, val_int (by rw [HS.out]; omega)⟩
      case measure => simp [intOf]; omega
    · have hjC : j = C := by omega
      subst hjC
      rw [← HV.out]
      obtain ⟨H, hH⟩ : ∃ H, H = (T.headD 0#8).toNat := ⟨_, rfl⟩
      have hH8 : H < 256 := by rw [hH]; exact (T.headD 0#8).isLt
      have HD2 := HD.out
      rw [← hH] at HD2
      have HD3 := Lib.hid HD2
      have HH := Lib.hid hH
      clear hH HD2 HD
      go_wp2_with fail
      go_loop [7, 9] (fun t i => ∃ k S : Nat, k ≤ F ∧ i = .int .i64 k ∧ t = .int .i64 (S : Int) ∧ Hid (S = V * 256 + (if k = 0 then 0 else H)) ∧ Hid ((T.take k).tail.all (fun x => decide (x = 0#8)) = true)) (fun _ i => F - (intOf i).toNat)
      case atStart => exact ⟨0, V * 256, Nat.zero_le _, rfl, val_int (by omega), Lib.hid (by simp), Lib.hid (by simp)⟩
      case round =>
        obtain ⟨k, S, hk, rfl, rfl, hS, hz⟩ := hrel
        have hS8 : S < 1099511627776 := by rw [hS.out]; split <;> omega
        by_cases hlt2 : k < F
        · obtain ⟨b', off', he, _, hcc⟩ := hbs3.at_ (k := 1 + j + k) (by simp; omega)
          injection he with he
          injection he with he1 he2
          subst he1 he2
          have hx : (p :: r)[1 + j + k]'(by simp; omega) = T[k]'(by omega) := by
            have h1 := hTat k hlt2
            have h2 : (p :: r)[1 + j + k]? = r[j + k]? := by rw [show 1 + j + k = (j + k) + 1 by omega, List.getElem?_cons_succ]
            rw [h1, List.getElem?_eq_getElem (by simp; omega)] at h2
            injection h2
          rw [hx] at hcc
          obtain ⟨y, hy⟩ : ∃ y, y = T[k]'(by omega) := ⟨_, rfl⟩
          rw [← hy] at hcc
          have hy8 := y.isLt
          have HY := Lib.hid hy
          have hkI : (k : Int) < (F : Int) := by omega
          have hk5 : (1 : Int) + (j : Int) + (k : Int) < (r.length : Int) + 1 := by omega
          clear hx hy
          by_cases hk0 : k = 0
          · subst hk0
            have hSV : S = V * 256 := by rw [hS.out]; simp
            simp only [Nat.add_zero] at hcc
            have hyH : y.toNat = H := by
              rw [HY.out, HH.out]
              cases T with
              | nil => simp at hTl; omega
              | cons x t => rfl
            have HN : Hid (S + y.toNat = V * 256 + H) := Lib.hid (by omega)
            clear hSV hyH
            go_wp2
            go_round
            case rel => exact ⟨0 + 1, S + y.toNat, by omega, by go_num, val_int (by omega), Lib.hid (by rw [HN.out, if_neg (by omega)]), Lib.hid (by cases T <;> simp)⟩
            case measure => simp [intOf]; omega
          · have k1 : ((k : Int) == 0) = false := by rw [beq_eq_false_iff_ne]; omega
            have k2 : (k == 0) = false := by rw [beq_eq_false_iff_ne]; exact hk0
            have hnext : (T.take (k + 1)).tail = (T.take k).tail ++ [y] := by
              have h1 : T[k]? = some y := by rw [HY.out]; exact List.getElem?_eq_getElem (by omega)
              rw [List.take_add_one, h1]
              have : (T.take k) ≠ [] := by
                intro h
                have h9 := congrArg List.length h
                rw [List.length_take, List.length_nil] at h9
                omega
              rw [List.tail_append_of_ne_nil this]
              rfl
            have HNX := Lib.hid hnext
            clear hnext
            by_cases hy0 : y = 0#8
            · have HZ : Hid ((T.take (k + 1)).tail.all (fun x => decide (x = 0#8)) = true) := Lib.hid (by rw [HNX.out, List.all_append, hz.out, hy0]; rfl)
              subst hy0
              go_wp2
              go_round
              case rel => exact ⟨k + 1, S, by omega, by go_num, rfl, Lib.hid (by rw [hS.out, if_neg hk0, if_neg (by omega)]), HZ⟩
              case measure => simp [intOf]; omega
            · have hyn : y.toNat ≠ 0 := fun h => hy0 (BitVec.eq_of_toNat_eq (by simpa using h))
              have y1 : ((y.toNat : Int) != 0) = true := by rw [bne_iff_ne]; omega
              have y2 : (y.toNat != 0) = true := by rw [bne_iff_ne]; exact hyn
              have hbad : ¬ T.tail.all (fun x => decide (x = 0#8)) = true := by
                intro h
                have hm : y ∈ T.tail := by
                  have h1 : y ∈ (T.take (k + 1)).tail := by rw [HNX.out]; simp
                  have h2 : (T.take (k + 1)).tail = T.tail.take k := by cases T <;> simp
                  rw [h2] at h1
                  exact List.mem_of_mem_take h1
                have := List.all_eq_true.1 h y hm
                exact hy0 (by simpa using this)
              have hdc := HD3.out
              rw [if_neg hbad] at hdc
              have hdz : dsz (p :: r) = 0 := by unfold dsz; rw [hdc]; rfl
              have HE1 := Lib.hid hdc
              have HE2 := Lib.hid hdz
              have c0 := hr3.cell 0
              have c1 := hr3.cell 1
              have f0 := hr3.free 0
              have f1 := hr3.free 1
              simp at c0 c1
              clear hdc hdz hbad hyn hy0
              go_wp2
              exact bodyPost_ret (xdec_results rfl rfl rfl rfl (Fm_store hr3 0 0)) rfl ⟨dOut_fin HE1.out HE2.out rfl rfl rfl rfl rfl, store_below hb3 (Nat.le_refl _) _ _⟩
        · have hkF : k = F := by omega
          subst hkF
          have hz2 := hz.out
          rw [List.take_of_length_le (by omega)] at hz2
          have hdc := HD3.out
          rw [if_pos hz2] at hdc
          have hSH : S = V * 256 + H := by
            rw [hS.out]
            by_cases hk0 : k = 0
            · have : T = [] := List.eq_nil_of_length_eq_zero (by omega)
              have hH0 := HH.out
              rw [this] at hH0
              simp at hH0
              rw [if_pos hk0, hH0]
            · rw [if_neg hk0]
          rw [← hSH] at hdc
          have hdz : dsz (p :: r) = 1 + j + k := by unfold dsz; rw [hdc]; rfl
          have HE1 := Lib.hid hdc
          have HE2 := Lib.hid hdz
          clear hdc hdz hSH hz2
          have hne : w.heap.size + 1 ≠ w.heap.size := by omega
          have hmE := hm3
          have hrE := hr3
          have hbE := hb3
          have hs2 := hs
          go_wp2_with fail
          refine wp_region_held_drew (S := (fun w' => w'.cell? ⟨w.heap.size + 1, 0, none⟩ = some (.int .i64 (j : Int)) ∧ w'.cell? ⟨w.heap.size + 1, 1, none⟩ = some (.int .i64 (k : Int)))) (by kernel_rfl) (⟨m0, m1⟩) (fun hHeld => ?_)
          refine wpAnyH_here 0 (v := ?_) rfl (by kernel_rfl) (by kernel_rfl) (by kernel_rfl) (fun _ _ _ h => h) (Or.inl ⟨by rfl, ?_⟩) hHeld ?_
          rotate_left
          · intro w hSw; (try dsimp only at hSw); go_simp; all_goals (with_reducible rfl)
          try simp only [Act.put, List.setIfInBounds_toArray, List.set_cons_zero, List.set_cons_succ]
          refine wpAnyH_here 2 (v := ?_) rfl (by kernel_rfl) (by kernel_rfl) (by kernel_rfl) (fun _ _ _ h => h) (Or.inl ⟨by rfl, ?_⟩) hHeld ?_
          rotate_left
          · intro w hSw; (try dsimp only at hSw); go_simp; all_goals (with_reducible rfl)
          try simp only [Act.put, List.setIfInBounds_toArray, List.set_cons_zero, List.set_cons_succ]
          refine wpAnyH_here 1 (v := ?_) rfl (by kernel_rfl) (by kernel_rfl) (by kernel_rfl) (fun _ _ _ h => h) (Or.inl ⟨by rfl, ?_⟩) hHeld ?_
          rotate_left
          · intro w hSw; (try dsimp only at hSw); go_simp; all_goals (with_reducible rfl)
          try simp only [Act.put, List.setIfInBounds_toArray, List.set_cons_zero, List.set_cons_succ]
          refine wpAnyH_alone 3 rfl (by kernel_rfl) (fun K hK => ?_)
          go_simp
          (go_at_call 15; refine (hs2 _).mono ?_; rintro e W7 ⟨rfl, hb⟩; have hm7 := hmE.drew.keep hb; have hr7 := (show Cel w3.drew w.heap.size 24 #[.int .i64 0, .int .i64 0] from hrE).later hb; have hB7 := hbE.drew.trans (hb.mono hbE.drew.size); have q0 := hr7.cell 0; have q1 := hr7.cell 1; have z0 := hr7.free 0; have z1 := hr7.free 1; simp at q0 q1; clear hb)
          refine hK.out _ _ (hm7.2) (fun hHeld => ?_)
          clear hK K
          try simp only [Act.put, List.setIfInBounds_toArray, List.set_cons_zero, List.set_cons_succ]
          refine wpAnyH_here 4 (v := ?_) rfl (by kernel_rfl) (by kernel_rfl) (by kernel_rfl) (fun _ _ _ h => h) (Or.inl ⟨by rfl, ?_⟩) hHeld ?_
          rotate_left
          · intro w hSw; (try dsimp only at hSw); go_simp; all_goals (with_reducible rfl)
          try simp only [Act.put, List.setIfInBounds_toArray, List.set_cons_zero, List.set_cons_succ]
          refine wpAnyH_alone 5 rfl (by kernel_rfl) (fun K hK => ?_)
          go_simp
          skip
          refine hK.out _ _ ((Fm_apart hm7 hne _ _).2) (fun hHeld => ?_)
          clear hK K
          try simp only [Act.put, List.setIfInBounds_toArray, List.set_cons_zero, List.set_cons_succ]
          refine wpAnyH_here 6 (v := ?_) rfl (by kernel_rfl) (by kernel_rfl) (by kernel_rfl) (fun _ _ _ h => h) (Or.inl ⟨by rfl, ?_⟩) hHeld ?_
          rotate_left
          · intro w hSw; (try dsimp only at hSw); go_simp; all_goals (with_reducible rfl)
          try simp only [Act.put, List.setIfInBounds_toArray, List.set_cons_zero, List.set_cons_succ]
          refine wpAnyH_here 7 (v := ?_) rfl (by kernel_rfl) (by kernel_rfl) (by kernel_rfl) (fun _ _ _ h => h) (Or.inl ⟨by rfl, ?_⟩) hHeld ?_
          rotate_left
          · intro w hSw; (try dsimp only at hSw); go_simp; all_goals (with_reducible rfl)
          try simp only [Act.put, List.setIfInBounds_toArray, List.set_cons_zero, List.set_cons_succ]
          refine wpAnyH_done (by kernel_rfl) ?_ _
          go_wp2
          exact bodyPost_ret (xdec_results rfl rfl rfl rfl (Fm_store hr7 (j : Int) (k : Int))) rfl ⟨dOut_fin HE1.out HE2.out rfl rfl rfl (by simp) rfl, store_below hB7 (Nat.le_refl _) _ _⟩

theorem xdecode_any (A : Option Addr) (l : List Byte) (n c : Nat) (w : World) (hn : Hid (l.length = n)) (hb : Bs w w.heap.size A l) (hL : n < 1000000) :
    Calls Try.prog 18 #[.slice A n c] w fun e w' => e = .returned (dOut (dcd l).2.1 (dcd l).2.2.1 (dcd l).2.2.2 (dsz l) (dcd l).1) ∧ Below w.heap.size w w' := by
  have hn2 : l.length = n := hn
  subst hn2
  cases l with
  | nil => exact xdecode_empty A c w
  | cons p r =>
    by_cases hp : p.toNat < 16 ∨ 31 < p.toNat
    · have hd := dcd_form (r := r) hp
      have hz : dsz (p :: r) = 0 := by unfold dsz; rw [hd]; rfl
      rw [hd, hz]
      exact xdecode_form A p r c w hb hp (by simp at hL; omega)
    · obtain ⟨C, hC⟩ : ∃ C, C = (p.toNat - 16) / 4 + 1 := ⟨_, rfl⟩
      obtain ⟨F, hF⟩ : ∃ F, F = p.toNat % 4 := ⟨_, rfl⟩
      by_cases hr : r.length < C + F
      · have hd := dcd_short (r := r) hp hC hF hr
        have hz : dsz (p :: r) = 0 := by unfold dsz; rw [hd]; rfl
        rw [hd, hz]
        exact xdecode_short A p r c C F w hb hp hC hF hr
      · exact xdecode_rest A p r c C F w hb hp hC hF (by omega) (by simp at hL; omega)
end Go.Proofs.Ytboapfkgkehfcaa
