/-
  Law20u IntArg Law20v, one after another.
-/
import Derived.Test.YtcmonalnhdodmaaTopp3

/-
  The walk of the law TopPackets.
-/
namespace Go.Proofs.Ytcmonalnhdodmaa.Unp
open Go.RowKit Go.Proofs.Ytcmonalnhdodmaa.Row Lst Ints Bools
open Pac (bel_new Pk encode_any made_zero)
open Pkr (PL PS psE psS nxF nxP nxS Pkt ps_yes rm)

/-- the packets of the law -/
def tal (l : List Int) : List (List Byte) := l.mapIdx fun i n => (tpk i n.toNat).enc
theorem tal_at {l : List Int} {i : Nat} {n : Int} (h : l[i]? = some n) : (tal l)[i]? = some (tpk i n.toNat).enc := by
  unfold tal
  rw [List.getElem?_mapIdx, h]
  rfl
theorem tal_len {l : List Int} : (tal l).length = l.length := by unfold tal; rw [List.length_mapIdx]
def Ok300 (l : List Int) (k : Nat) : Prop := ∀ j n, j < k → l[j]? = some n → 1 ≤ n ∧ n ≤ 300
theorem Ok300.next {l : List Int} {k : Nat} {n : Int} (h : Ok300 l k) (hx : l[k]? = some n) (h1 : 1 ≤ n) (h2 : n ≤ 300) : Ok300 l (k + 1) := fun j y hj hy => by
  by_cases hjk : j = k
  · subst hjk
    rw [hx] at hy
    injection hy with hy
    subst hy
    exact ⟨h1, h2⟩
  · exact h j y (by omega) hy
theorem tal_flat {l : List Int} {k : Nat} (h : Ok300 l k) (hk : k ≤ 256) : ((tal l).take k).flatten.length ≤ 306 * k := by
  induction k with
  | zero => simp
  | succ k ih =>
    have ih := ih (fun j x hj hx => h j x (by omega) hx) (by omega)
    rw [List.take_add_one, List.flatten_append, List.length_append]
    by_cases hkl : k < l.length
    · obtain ⟨x, hx⟩ : ∃ x, l[k]? = some x := ⟨_, List.getElem?_eq_getElem hkl⟩
      rw [tal_at hx]
      obtain ⟨h1, h2⟩ := h k x (by omega) hx
      have := tpk_len (i := k) (n := x.toNat) (by omega) (by omega) (by omega)
      simp only [Option.toList_some, List.flatten_cons, List.flatten_nil, List.append_nil]
      omega
    · have : (tal l)[k]? = none := List.getElem?_eq_none (by rw [tal_len]; omega)
      rw [this]
      simp only [Option.toList_none, List.flatten_nil, List.length_nil]
      omega
theorem tal_pkt {l : List Int} (h : Ok300 l l.length) (hl : l.length ≤ 20) : ∀ p ∈ tal l, Pkt p := fun p hp => by
  obtain ⟨i, hi⟩ := List.getElem?_of_mem hp
  have hil := (List.getElem?_eq_some_iff.1 hi).1
  rw [tal_len] at hil
  obtain ⟨x, hx⟩ : ∃ x, l[i]? = some x := ⟨_, List.getElem?_eq_getElem hil⟩
  rw [tal_at hx] at hi
  injection hi with hi
  subst hi
  obtain ⟨h1, h2⟩ := h i x hil hx
  exact tpk_pkt (by omega) (by omega) (by omega)
/-- where they end -/
def eds (ps : List (List Byte)) (k : Nat) : List Int := (List.range k).map fun i => ((bnd ps (i + 1) : Nat) : Int)
theorem eds_succ (ps : List (List Byte)) (k : Nat) : eds ps (k + 1) = eds ps k ++ [((bnd ps (k + 1) : Nat) : Int)] := by unfold eds; rw [List.range_succ, List.map_append]; rfl
theorem eds_len (ps : List (List Byte)) (k : Nat) : (eds ps k).length = k := by simp [eds]
theorem eds_at {ps : List (List Byte)} {k i : Nat} (h : i < k) : (eds ps k)[i]? = some ((bnd ps (i + 1) : Nat) : Int) := by
  unfold eds
  rw [List.getElem?_map, List.getElem?_range h]
  rfl

set_option maxRecDepth 100000 in
set_option maxHeartbeats 16000000 in
theorem topPackets_ok (Z : Nat) (An Al : Option Addr) (ln : List Int) (lb : List Bool) (n c m cl : Nat) (w : World) (hZ1 : 20 ≤ Z) (hZ2 : Z ≤ 200) (hl : Hid (ln.length = n)) (hns : Ns w w.heap.size An ln) (hbl : Hid (lb.length = m)) (hbs : Nb w w.heap.size Al lb) (hn : n ≤ 20) (hm : m ≤ 255) :
    Calls Try.prog 7 #[.int .i64 (Z : Int), .slice An n c, .slice Al m cl] w fun e w' => e = .returned (.bool true) ∧ Below w.heap.size w w' := by
  obtain ⟨hu, _, i0, hi, hz, hz1, hz2⟩ := is_bytes
  have t1 : decide ((Z : Int) < 20) = false := by simp; omega
  have t1' : decide (Z < 20) = false := by simp; omega
  have t2 : decide ((200 : Int) < (Z : Int)) = false := by simp; omega
  have t2' : decide (200 < Z) = false := by simp; omega
  have t3 : decide ((20 : Int) < (n : Int)) = false := by simp; omega
  have t3' : decide (20 < n) = false := by simp; omega
  have t4 : decide ((255 : Int) < (m : Int)) = false := by simp; omega
  have t4' : decide (255 < m) = false := by simp; omega
  have x1 := PL.new (r := 8192) (Z := Z) (by omega) (by omega) w
  rw [show rm 8192 = 8192 by decide] at x1
  obtain ⟨al, hal⟩ : ∃ al, tal ln = al := ⟨_, rfl⟩
  have hall : al.length = n := by rw [← hal, tal_len, hl.out]
  have HP := Lib.hid (And.intro hal (And.intro hn (And.intro hm (And.intro hall (And.intro hZ1 hZ2)))))
  clear hn hm hal hall hZ1 hZ2
  go_enter Try.func7, Try.ntmps7
  go_wp2_with fail
  refine x1.mono ?_
  clear x1
  rintro e w1 ⟨gp, Fp0, rfl, P0⟩
  have P0lt := P0.p.lt
  go_wp2_with fail
  refine (UL.new P0.b).mono ?_
  rintro e w2 ⟨gu, Fu0, rfl, U0, b2, n2⟩
  have T0 : T1 w w2 Z gp Fp0 ⟨[], [], []⟩ gu Fu0 US0 (.slice none 0 0) [] (.slice none 0 0) [] := ⟨P0.below b2, U0, fun x hx hm => by have := P0lt x hx; have := n2 x hm; omega, ⟨[], LO.nil_ _ _ _ _, (fun _ hx => nomatch hx), (fun _ hx => nomatch hx)⟩, On.nil_ _ _ _⟩
  have HT0 := Lib.hid T0
  clear P0 U0 b2 n2 T0 P0lt
  go_wp2_with fail
  go_loopw [9, 10, 11, 12] (fun R B tv iv wr => ∃ (k : Nat) (Fp : List Nat), iv = .int .i64 (k : Int) ∧ tv = .int .i64 ((bnd al k : Nat) : Int) ∧ k ≤ n ∧ Ok300 ln k ∧ T1 w wr Z gp Fp ⟨[], [], al.take k⟩ gu Fu0 US0 R (al.take k) B (eds al k)) (fun _ _ _ iv _ => n - (intOf iv).toNat)
  case atStart => exact ⟨0, Fp0, rfl, rfl, Nat.zero_le _, fun j x hj => by omega, by simpa [eds] using HT0.out⟩
  case round =>
    obtain ⟨k, Fp, rfl, rfl, hk, hok, hT⟩ := hrel
    clear HT0
    by_cases hkn : k < n
    · obtain ⟨b, off, rfl, hb, hcell⟩ := hns.at_ (k := k) (by rw [hl.out]; exact hkn)
      obtain ⟨L, hL⟩ : ∃ L, ln[k]'(by rw [hl.out]; exact hkn) = L := ⟨_, rfl⟩
      have hx : ln[k]? = some L := by rw [← hL]; exact List.getElem?_eq_getElem _
      rw [hL] at hcell
      have c0 : wr.cell? ⟨b, off + k, none⟩ = some (.int .i64 L) := (hT.p.b.cell (p := ⟨b, off + k, none⟩) hb).trans hcell
      have j0 : (0 : Int) ≤ (k : Int) := Int.natCast_nonneg _
      have j1 : (k : Int) < (n : Int) := by omega
      by_cases h1 : L < 1
      · have u1 : decide (L < 1) = true := by simpa using h1
        have HZ := Lib.hid hT
        clear hT h1 hx hL
        go_wp2
        go_ret
        exact ⟨rfl, HZ.out.p.b⟩
      · have u1 : decide (L < 1) = false := by simpa using h1
        by_cases h2 : 300 < L
        · have u2 : decide (300 < L) = true := by simpa using h2
          have HZ := Lib.hid hT
          clear hT h1 h2 hx hL
          go_wp2
          go_ret
          exact ⟨rfl, HZ.out.p.b⟩
        · have u2 : decide (300 < L) = false := by simpa using h2
          have hok2 := hok.next hx (by omega) (by omega)
          obtain ⟨N, rfl⟩ : ∃ N : Nat, L = (N : Int) := ⟨L.toNat, by omega⟩
          have hk20 : k < 20 := by have := HP.out.2.1; omega
          have hN1 : 1 ≤ N := by omega
          have hN2 : N ≤ 300 := by omega
          have hpk : al[k]? = some (tpk k N).enc := by rw [← HP.out.1]; exact tal_at hx
          have hS := tal_flat hok (by omega)
          rw [HP.out.1] at hS
          have HY := Lib.hid (And.intro hok2 (And.intro hpk (And.intro (show (al.take k).flatten.length ≤ 5814 by omega) (And.intro hk20 (And.intro hN1 hN2)))))
          have HT := Lib.hid hT
          have k255 : (k : Int) ≤ 255 := by omega
          have k255' : k ≤ 255 := by omega
          have hB := HT.out.p.b.size
          have hFl := HT.out.p.p.lt
          have hUl := HT.out.u.p.lt
          obtain ⟨Y, hY⟩ : ∃ Y, (tpk k N).enc = Y := ⟨_, rfl⟩
          have hYp : Pkt Y := by rw [← hY]; exact tpk_pkt (by omega) hN1 hN2
          have hYl : Y.length = N + 6 := by rw [← hY]; exact tpk_len (by omega) hN1 hN2
          obtain ⟨NY, hNY⟩ : ∃ NY, N + 6 = NY := ⟨_, rfl⟩
          rw [hNY] at hYl
          rw [hY] at hpk
          have xe : ∀ W, Bs W W.heap.size (some ⟨wr.heap.size, 0, none⟩) ((List.replicate N 0#8).set 0 (BitVec.ofNat 8 k)) → Calls Try.prog 19 #[.agg #[.bool false, .bool false, .int .i64 7, .int .i64 3, .int .i64 (k : Int), .slice (some ⟨wr.heap.size, 0, none⟩) N N]] W fun e w' => ∃ v, e = .returned (.tuple #[v, .int .i64 0]) ∧ Ow w' W.heap.size 5 v Y ∧ Below W.heap.size W w' := fun W hW => by
            have h := encode_any false false 7 3 (k : Int) (some ⟨wr.heap.size, 0, none⟩) ((List.replicate N 0#8).set 0 (BitVec.ofNat 8 k)) N N W (Lib.hid (by simp)) hW (fun e => nomatch e) (by unfold maxLen; omega)
            have e1 : Pk.err ⟨false, false, 7, 3, (k : Int), (List.replicate N 0#8).set 0 (BitVec.ofNat 8 k)⟩ = 0 := Pk.err_yes (tpk_ok (by omega) hN1 hN2)
            have e2 : Pk.enc ⟨false, false, 7, 3, (k : Int), (List.replicate N 0#8).set 0 (BitVec.ofNat 8 k)⟩ = Y := hY
            rw [e1, e2] at h
            exact h
          have hSk : (al.take k).flatten.length ≤ 5814 := by omega
          obtain ⟨p1, p2⟩ := ps_yes (R := 8192) (l := Y) (s := ⟨[], [], al.take k⟩) hYp (by show ¬ 8192 < ([] ++ (al.take k).flatten).length + Y.length; rw [List.nil_append]; omega)
          have hb1 : bnd al k + NY = bnd al (k + 1) := by rw [bnd_next hpk, hYl]
          have hb2 : bnd al (k + 1) ≤ 6200 := by rw [← hb1]; unfold bnd; omega
          obtain ⟨BK, hBK⟩ : ∃ BK, bnd al k = BK := ⟨_, rfl⟩
          obtain ⟨BK1, hBK1⟩ : ∃ BK1, bnd al (k + 1) = BK1 := ⟨_, rfl⟩
          rw [hBK, hBK1] at hb1
          rw [hBK1] at hb2
          have hb3 : (BK : Int) + (NY : Int) = (BK1 : Int) := by omega
          have hlen : (al.take k ++ [Y]).length = k + 1 := by rw [List.length_append, List.length_take, HP.out.2.2.2.1, Nat.min_eq_left (by omega)]; rfl
          have hlenk : (al.take k).length = k := by rw [List.length_take, HP.out.2.2.2.1, Nat.min_eq_left (by omega)]
          have e1t : al.take (k + 1) = al.take k ++ [Y] := by rw [List.take_add_one, hpk]; rfl
          have HE := Lib.hid (And.intro xe (And.intro hYl (And.intro p1 (And.intro p2 (And.intro hFl (And.intro hUl (And.intro hlen (And.intro hlenk (And.intro e1t (And.intro hBK (And.intro hBK1 hb2)))))))))))
          rw [hBK]
          clear hT hok hok2 hpk hS hx hL h1 h2 hFl hUl hY hYp hYl hNY xe hSk p1 p2 hb1 hlen hlenk e1t hBK hBK1
          have hrl : (List.replicate N (0#8 : Byte)).length = (N - 1) + 1 := by rw [List.length_replicate]; omega
          have hx0 : (List.replicate N (0#8 : Byte))[0]? = some 0#8 := by rw [List.getElem?_replicate, if_pos (by omega)]
          go_wp2_with (first
            | (at_make; refine wpList_make_full _ rfl _ _ 26 rfl wr.heap.size 5 i0 _ 1 hu hi hz hz1 .i64 .i64 _ _ N rfl rfl (by omega) (by omega) (by rw [hz2]; omega) (by unfold maxLen; omega) (Nat.le_refl _) ?_; intro w4 hown4 hgrow4; have b4 := (Below.refl wr.heap.size wr).grown hgrow4 (Nat.le_refl _) (by simp); have o4 : Ow w4 wr.heap.size 5 (.slice (some ⟨wr.heap.size, 0, none⟩) N N) (List.replicate N 0#8) := (by unfold Ow; rw [List.length_replicate, ← made_zero]; exact hown4); clear hown4 hgrow4; obtain ⟨gr, cp, he, _, _, _, _, hcells, hfree⟩ := o4.form_len hrl; have hgr : gr = wr.heap.size := (by injection he with q1 _ _; injection q1 with q1; injection q1 with q1 _ _; exact q1.symm); subst hgr; have e1 := hcells 0 _ hx0; have e2 := hfree 0; have o5 := o4.set_ (gr := wr.heap.size) (i := 0) rfl (BitVec.ofNat 8 k); rw [b8_of (show k < 256 by omega)] at o5; have b5 : Below wr.heap.size wr (w4.setCell ⟨wr.heap.size, 0, none⟩ (.int .u8 (k : Int))) := b4.trans ((set_only w4 wr.heap.size 0 (.int .u8 (k : Int))).below b4.size (by simp)); have HO5 := Lib.hid (And.intro o5 b5); clear o4 b4 o5 b5 hcells hfree he))
          obtain ⟨w5, hw5⟩ : ∃ w5, w5 = w4.setCell ⟨wr.heap.size, 0, none⟩ (.int .u8 (k : Int)) := ⟨_, rfl⟩
          rw [← hw5] at HO5 ⊢
          clear e1 e2 hw5
          refine (HE.out.1 w5 (Pac.Ow_bs HO5.out.1)).mono ?_
          rintro e w6 ⟨v6, rfl, o6, b6⟩
          obtain ⟨A6, k6, rfl, r6⟩ := Rd.of (n := NY) o6 HE.out.2.1
          have b56 := HO5.out.2.trans (b6.mono HO5.out.2.size)
          have xp := (HT.out.below b56).push r6 HE.out.2.2.1 HE.out.2.2.2.1
          have HO6 := Lib.hid (And.intro o6 b56)
          have hsz5 : wr.heap.size ≤ w5.heap.size := HO5.out.2.size
          clear o6 b6 b56 r6 HO5
          go_wp2_with fail
          refine xp.mono ?_
          clear xp
          rintro e w7 ⟨rfl, Fp7, T7, k7, hF7⟩
          have o7 := HO6.out.1.only k7 (fun i hi hm => by have h1 := (HO6.out.1.lt i hi).1; have h2 := HE.out.2.2.2.2.1 i hm; have h3 := hsz5; omega)
          have oo1 : ∀ i, (Value.slice A6 NY k6).ownBlock = some i → i ∉ Fp7 := fun i hi hm => by
            have h1 := HO6.out.1.lt i hi
            rcases hF7 i hm with q | q
            · have h2 := HE.out.2.2.2.2.1 i q; omega
            · omega
          have oo2 : ∀ i, (Value.slice A6 NY k6).ownBlock = some i → i ∉ Fu0 := fun i hi hm => by
            have h1 := HO6.out.1.lt i hi
            have h2 := HE.out.2.2.2.2.2.1 i hm
            omega
          have hT7b := T7.p.b.size
          obtain ⟨p7, u7, d7, ⟨E7, l7, h71, h72⟩, e7⟩ := T7
          obtain ⟨qs, AR, kR, rfl, hqn, hqe, hqo, hqr, hqz, hq3⟩ := l7.parts (n := k) HE.out.2.2.2.2.2.2.2.1
          obtain ⟨AB, cB, rfl, _⟩ := e7.reads_len (eds_len al k)
          have hk20 := HY.out.2.2.2.1
          have hb2 := HE.out.2.2.2.2.2.2.2.2.2.2.2
          have o7' := o7.more (b' := w.heap.size) (by omega)
          clear hF7 k7 o7
          go_wp2_with (first
            | (at_builtin; refine wpList_row _ enc_ok is_lists (by decide) rfl (.tmp 92) (.tmp 94) rfl rfl (hqo.alloc _) (l := [⟨Y, A6, k6⟩]) (n := 1) rfl rfl (Rs_new1 enc_ok w7 _ _ _ (by simp only [enc, HE.out.2.1])) (by simp) (by rw [hqn]; simp; omega) (by simp; omega) ?_; intro R2 w8 ho8 hg8 hr8; have T8 := T1.addp p7 u7 d7 e7 l7 h71 h72 o7' HE.out.2.1 oo1 oo2 hqe (fun q hq => ⟨(hq3 q hq).1.alloc _, (hq3 q hq).2⟩) rfl hg8 ho8; clear hr8 ho8 hg8 hqo hqr hqz hq3 hqe hqn p7 u7 d7 e7 l7 h71 h72 o7' oo1 oo2)
            | (at_builtin; refine wpList_iapp _ is_ints rfl (.tmp 100) (.tmp 102) rfl rfl (T8.e.alloc _) (l := [((BK1 : Nat) : Int)]) rfl rfl (Ns_new1 w8 _ _) (by simp) (by rw [eds_len]; simp; omega) (by have := T8.p.b.size; simp; omega) ?_; intro B2 w9 ho9 hg9 hb9; have T9 := T8.adde rfl hg9 ho9; have HT9 := Lib.hid T9; clear T9 T8 ho9 hg9 hb9))
          go_roundw
          case rel =>
            refine ⟨k + 1, Fp7, by go_num, by rw [HE.out.2.2.2.2.2.2.2.2.2.2.1], hkn, HY.out.1, ?_⟩
            rw [HE.out.2.2.2.2.2.2.2.2.1, eds_succ, HE.out.2.2.2.2.2.2.2.2.2.2.1]
            exact HT9.out
          case measure => simp [intOf]; omega
    · obtain rfl : k = n := by omega
      rename World => w9
      obtain ⟨hal, hn, hm, hall, hZ1, hZ2⟩ := HP.out
      have hpk : ∀ p ∈ al, Pkt p := by rw [← hal]; exact tal_pkt (by rw [hl.out]; exact hok) (by rw [hl.out]; exact hn)
      have hS := tal_flat hok (by omega)
      rw [hal, List.take_of_length_le (by omega)] at hS
      rw [List.take_of_length_le (by omega)] at hT
      obtain ⟨ps, hps⟩ : ∃ ps, alp al Z = ps := ⟨_, rfl⟩
      obtain ⟨arr, harr⟩ : ∃ arr : Nat → Bool, (fun q => !(lb.getD q false)) = arr := ⟨_, rfl⟩
      have hwp : ∀ p ∈ ps, Wp p := by rw [← hps]; exact alp_wp (by omega) hpk
      obtain ⟨SL, hSL⟩ : ∃ SL, al.flatten.length = SL := ⟨_, rfl⟩
      have hSLb : SL ≤ 6120 := by omega
      obtain ⟨⟨AR, kR, rfl⟩, AB, kB, rfl⟩ : (∃ AR kR, u9 = .slice AR k kR) ∧ ∃ AB kB, u10 = .slice AB k kB := by
        obtain ⟨E, lo, _⟩ := hT.a
        obtain ⟨AR, kR, h1, _⟩ := lo.len hall
        obtain ⟨AB, kB, h2, _⟩ := hT.e.reads_len (eds_len al k)
        exact ⟨⟨AR, kR, h1⟩, AB, kB, h2⟩
      have hT2 : T2 w w9 Z gp Fp (tps al 0) gu Fu0 US0 (.slice AR k kR) al (.slice AB k kB) (eds al k) (.slice none 0 0) [] := ⟨by rw [tps_zero]; exact hT, ⟨[], LO.nil_ _ _ _ _, (fun _ hx => nomatch hx), (fun _ hx => nomatch hx)⟩, fun i hi hc => nomatch hc⟩
      have HW := Lib.hid (And.intro hpk (And.intro hps (And.intro harr (And.intro hwp (And.intro hSL (And.intro hSLb (And.intro hall (And.intro hn (And.intro hm (And.intro hZ1 hZ2))))))))))
      have HT2 := Lib.hid hT2
      clear hok hT hal hn hm hall hpk hS hps harr hwp hSL hSLb hT2 hkn hk hZ1 hZ2
      go_wp2_with fail
      go_loopw [16, 17] (fun gv kv wr => ∃ (q i : Nat) (x : List Byte) (gd : Bool) (Fp Fu : List Nat) (s : PS) (su : US) (o : Option Nat), kv = .int .i64 (q : Int) ∧ q ≤ 400 ∧ (q * Z < SL → s = tps al (q * Z)) ∧ s.wt.length = SL - q * Z ∧ (q = 0 ∨ (q - 1) * Z < SL) ∧ Rn ps Z arr q i x gd ∧ Vw su 0 q (kp gd x) o ∧ su.lo ≤ 255 * q ∧ T2 w wr Z gp Fp s gu Fu su (.slice AR k kR) al (.slice AB k kB) (eds al k) gv (sel ps (Wt ps Z arr) i)) (fun _ kv _ => 400 - (intOf kv).toNat)
      case atStart => exact ⟨0, 0, [], true, Fp, Fu0, tps al 0, US0, none, rfl, by omega, fun _ => by rw [Nat.zero_mul], by rw [tps_zero, Nat.zero_mul]; show ([] ++ al.flatten).length = _; rw [List.nil_append, HW.out.2.2.2.2.1, Nat.sub_zero], .inl rfl, Rn.start, .none_ rfl rfl, Nat.zero_le _, HT2.out⟩
      case round =>
        obtain ⟨q, i, x, gd, Fq, Fv, sq, su, o, rfl, hq4, hsq, hwt, hq1, hR, hV, hlo, hT⟩ := hrel
        clear HT2
        obtain ⟨hpk, hps, harr, hwp, hSL, hSLb, hall, hn, hm, hZ1, hZ2⟩ := HW.out
        have hq307 : q ≤ 307 := by
          rcases hq1 with h | h
          · omega
          · have := Nat.mul_le_mul_left (q - 1) hZ1
            omega
        have t5 : decide ((q : Int) < 400) = true := by simp; omega
        have t5' : decide (q < 400) = true := by simp; omega
        by_cases hqS : q * Z < SL
        · have hz0 : 0 < Z := by omega
          have hqS' : q * Z < al.flatten.length := by rw [hSL]; exact hqS
          obtain rfl := hsq hqS
          obtain ⟨e1, e2⟩ := alp_in (k := q) hz0 (by omega) hqS'
          rw [hps] at e1
          have hFst := pointer (k := q) hz0 hqS'
          have hfld := field (k := q) hz0 (by omega) hqS'
          rw [hps] at hFst hfld
          obtain ⟨P, hP⟩ : ∃ P, nxP Z (tps al (q * Z)) = P := ⟨_, rfl⟩
          obtain ⟨D, hD⟩ : ∃ D, nxF Z (tps al (q * Z)) = D := ⟨_, rfl⟩
          rw [hP] at hFst
          rw [hD] at hfld
          have hDl : D.length = Z := by rw [← hD]; exact Pkr.nxF_len (by omega)
          obtain ⟨s2, hs2⟩ : ∃ s2, nxS Z (tps al (q * Z)) = s2 := ⟨_, rfl⟩
          obtain ⟨n1, n2⟩ := next_tps (k := q) hz0 hqS'
          rw [hs2] at n1 n2
          have hqz : (q + 1) * Z = q * Z + Z := Nat.succ_mul q Z
          have hs2a : (q + 1) * Z < SL → s2 = tps al ((q + 1) * Z) := fun h => n1 (by omega)
          have hs2b : s2.wt.length = SL - (q + 1) * Z := by rw [n2, List.length_drop, hSL]
          obtain ⟨hfl, hf46⟩ := hFst.lt (by omega)
          obtain ⟨i', x', hQ, hii, hY, hNo⟩ := hR.step hz0 hwp (by have h := alp_flat (al := al) (Z := Z); rw [hps] at h; rw [h, List.length_append]; omega)
          have hP0 := hR.p
          rw [Nat.min_eq_left (by omega)] at hP0
          have hQ0 := hQ
          rw [Nat.min_eq_left e1] at hQ0
          have xn := hT.next (by rw [hwt]; omega) hP hD hs2 hDl
          have xh := fun W (hW : Below w.heap.size w W) => has20_any lb m q Al cl W hbl (show Nb W W.heap.size Al lb from fun h0 => by
            obtain ⟨b, off, e, hb, hc⟩ := hbs h0
            exact ⟨b, off, e, Nat.lt_of_lt_of_le hb hW.size, fun i y hy => (hW.cell (p := ⟨b, off + i, none⟩) hb).trans (hc i y hy)⟩)
          have t6 : ((Z : Int) != (Z : Int)) = false := by simp
          cases hb : lb.getD q false with
          | true =>
            have hqm : q < 255 := by
              apply Classical.byContradiction
              intro c
              rw [List.getD_eq_getElem?_getD, List.getElem?_eq_none (by have := hbl.out; omega)] at hb
              cases hb
            have har : arr q = false := by rw [← harr]; simp only; rw [hb]; rfl
            obtain ⟨hR', hsel⟩ := hNo har
            have hV' : Vw su 0 (q + 1) (kp false x') o := hV.skip (by omega)
            rw [hb] at xh
            have HN := Lib.hid (And.intro hR' (And.intro hV' (And.intro hsel (And.intro hs2a (And.intro hs2b (And.intro hlo hqS))))))
            clear hR hV hR' hV' hsel hs2a hs2b hlo hpk hps harr hwp hSL hSLb hall hn hm hZ1 hZ2 hQ hQ0 hP0 hii hY hNo hfl hf46 n1 n2 hs2 hDl hD hP hFst hfld e1 e2 hT hqz hqS hqS' hsq hwt hq1 har hb hq4 hqm hz0
            go_wp2_with fail
            refine xn.mono ?_
            clear xn
            rintro e w4 ⟨A4, k4, F4, rfl, _, _, T4⟩
            go_wp2_with fail
            refine (xh _ T4.t.p.b).mono ?_
            clear xh
            rintro e w5 ⟨rfl, rfl⟩
            have HT4 := Lib.hid T4
            clear T4
            go_wp2
            go_roundw
            case rel => exact ⟨q + 1, i', x', false, F4, Fv, s2, su, o, by go_num, by omega, HN.out.2.2.2.1, HN.out.2.2.2.2.1, .inr (by rw [Nat.add_sub_cancel]; exact HN.out.2.2.2.2.2.2), HN.out.1, HN.out.2.1, by have := HN.out.2.2.2.2.2.1; omega, by rw [HN.out.2.2.1]; exact HT4.out⟩
            case measure => simp [intOf]; omega
          | false =>
            have har : arr q = true := by rw [← harr]; simp only; rw [hb]; rfl
            obtain ⟨hR', hsel⟩ := hY har
            have hst := step hwp hP0 hQ0 (by omega) e1 hFst (by omega) gd
            rw [← hfld] at hst
            obtain ⟨v1, v2, v3⟩ := hV.take (f := P) (d := D) (by rw [hDl]; omega) hf46
            rw [Nat.zero_add, hst] at v1 v3
            rw [Nat.zero_add] at v2
            obtain ⟨O, hO⟩ : ∃ O, ((ps.take i').drop (fro gd i x)).filter ni = O := ⟨_, rfl⟩
            rw [hO] at v3 hsel
            obtain ⟨K, hK⟩ : ∃ K, O.length = K := ⟨_, rfl⟩
            obtain ⟨C, hC⟩ : ∃ C, q % 256 = C := ⟨_, rfl⟩
            rw [hC] at v1 v2 v3
            have hlo2 : (tkS su ((C : Nat) : Int) (P : Int) D).lo ≤ 255 * (q + 1) := by have := tkS_lo su ((C : Nat) : Int) (P : Int) D; omega
            have k3 : (q : Int).tmod 256 = (C : Int) := by rw [Int.tmod_eq_emod_of_nonneg (by omega), ← hC]; exact (Int.natCast_emod q 256).symm
            have k4 : (q : Int) % 256 = (C : Int) := by rw [← hC]; exact (Int.natCast_emod q 256).symm
            have hKb : K ≤ 21 := by
              have h1 := List.length_filter_le ni ((ps.take i').drop (fro gd i x))
              have h2 : ps.length = k + 1 := by rw [← hps, alp_len, hall]
              rw [hO, hK, List.length_drop, List.length_take] at h1
              omega
            have hgb : (sel ps (Wt ps Z arr) i).length ≤ 21 := by
              have h1 : ∀ j, (sel ps (Wt ps Z arr) j).length ≤ j := fun j => by
                induction j with
                | zero => simp [sel]
                | succ j ih =>
                  rw [sel_succ, List.length_append]
                  split <;> simp <;> omega
              have h2 : ps.length = k + 1 := by rw [← hps, alp_len, hall]
              have h3 := hR.p.le
              have := h1 i
              omega
            rw [hb] at xh
            have xt := fun W A c F (hd : Rd W A D Z c) (hof : ∀ y ∈ blkA A, y < W.heap.size ∧ y ∉ F ∧ y ∉ Fv) (h : T2 w W Z gp F s2 gu Fv su (.slice AR k kR) al (.slice AB k kB) (eds al k) u16 (sel ps (Wt ps Z arr) i)) => h.take (by omega) hd (by omega) hof rfl v3 hK
            have HN := Lib.hid (And.intro hR' (And.intro v1 (And.intro hsel (And.intro hs2a (And.intro hs2b (And.intro hlo2 (And.intro hqS (And.intro hK (And.intro hKb hgb)))))))))
            clear hR hV hR' v1 v2 v3 hsel hs2a hs2b hlo hlo2 hpk hps harr hwp hSL hSLb hall hn hm hZ1 hZ2 hQ hQ0 hP0 hii hY hNo hfl hf46 n1 n2 hs2 hDl hD hP hFst hfld e1 e2 hT hqz hqS hqS' hsq hwt hq1 har hb hq4 hz0 hst hO hK hC hKb hgb
            go_wp2_with fail
            refine xn.mono ?_
            clear xn
            rintro e w4 ⟨A4, k4', F4, rfl, r4, hof4, T4⟩
            go_wp2_with fail
            refine (xh _ T4.t.p.b).mono ?_
            clear xh
            rintro e w5 ⟨rfl, rfl⟩
            have xt4 := xt _ _ _ _ r4 hof4 T4
            clear xt T4 r4 hof4
            go_wp2_with fail
            refine xt4.mono ?_
            clear xt4
            rintro e w6 ⟨A6, k6, F6, rfl, ⟨T6, ⟨E6, l6, h61, h62⟩, hr6⟩, E5, l5, h51, h52⟩
            obtain ⟨qs, AG, kG, rfl, hqn, hqe, hqo, hqr, hqz, hq3⟩ := l6.parts (n := (sel ps (Wt ps Z arr) i).length) rfl
            obtain ⟨qs2, A5, k5, he5, hqn2, hqe2, hqo2, hqr2, hqz2, hq32⟩ := l5.parts (n := K) HN.out.2.2.2.2.2.2.2.1
            cases he5
            go_wp2_with (first
              | (at_builtin; refine wpList_row _ enc_ok is_lists (by decide) rfl (.tmp 124) (.tmp 130) rfl rfl hqo (l := qs2) (n := K) hqn2 rfl hqr2 hqz2 (by rw [hqn, hqn2]; have := HN.out.2.2.2.2.2.2.2.2; omega) T6.p.b.size ?_; intro gv7 w7 ho7 hg7 hr7; have T7 := T2.app T6 l6 h61 h62 l5 h51 h52 hqe hq3 hqe2 hq32 hr6 hr7 rfl hg7 ho7; rw [← HN.out.2.2.1] at T7; have HT7 := Lib.hid T7; clear T7 ho7 hg7 hr7 T6 l6 h61 h62 hr6 l5 h51 h52 hqe hq3 hqe2 hq32 hqo hqr hqz hqo2 hqr2 hqz2))
            go_roundw
            case rel => exact ⟨q + 1, i', x', gdn gd i i' x, F4, F6, s2, _, some q, by go_num, by omega, HN.out.2.2.2.1, HN.out.2.2.2.2.1, .inr (by rw [Nat.add_sub_cancel]; exact HN.out.2.2.2.2.2.2.1), HN.out.1, HN.out.2.1, HN.out.2.2.2.2.2.1, HT7.out⟩
            case measure => simp [intOf]; omega
        · rename World => w10
          have hw0 : sq.wt.length = 0 := by omega
          obtain ⟨W, hWd⟩ : ∃ W, Wt ps Z arr = W := ⟨_, rfl⟩
          have hend : sel ps W i = sel ps W k := by
            have h := hR
            rw [← hps] at h ⊢
            rw [← hall]
            exact Rn.end_ (by omega) hpk h (by omega) W
          rw [hWd, hend] at hT
          obtain ⟨NG, hNG⟩ : ∃ NG, (sel ps W k).length = NG := ⟨_, rfl⟩
          obtain ⟨⟨P10, U10, D10, ⟨E1, lo1, _⟩, e10⟩, ⟨E2, lo2, _⟩, _⟩ := hT
          obtain ⟨AR', kR', he1, lsR, _⟩ := lo1.len hall
          cases he1
          obtain ⟨AB', kB', he2, nsB, _⟩ := e10.reads_len (eds_len al k)
          cases he2
          obtain ⟨AG, cG, rfl, lsG, _⟩ := lo2.len hNG
          have xn := P10.next0 hw0
          have xL := fun W' (hW : Below w10.heap.size w10 W') => (P10.below hW).left hw0
          have hNGb : ∀ j, (sel ps W j).length ≤ j := fun j => by
            induction j with
            | zero => simp [sel]
            | succ j ih =>
              rw [sel_succ, List.length_append]
              split <;> simp <;> omega
          have hgt : ∀ j, j < k → ps.getD j [] = al.getD j [] := fun j hj => by rw [← hps]; exact alp_getD (by omega)
          have hbd : ∀ j, j ≤ k → bnd ps j = bnd al j := fun j hj => by rw [← hps]; exact alp_bnd (by omega)
          have hbt : ∀ j, bnd al j ≤ 6120 := fun j => by have := bnd_top (ps := al) j; omega
          have HX := Lib.hid (And.intro hpk (And.intro harr (And.intro hWd (And.intro hNG (And.intro lsR (And.intro nsB (And.intro lsG (And.intro hNGb (And.intro hgt (And.intro hbd (And.intro hbt (And.intro hall (And.intro P10.b (And.intro hn hZ1))))))))))))))
          clear hsq hwt hq1 hR hV hlo hpk hps harr hwp hSL hSLb hall hn hm hZ1 hZ2 hend hWd hNG P10 U10 D10 lo1 e10 lo2 lsR nsB lsG hNGb hgt hbd hbt HW hw0 hqS hq4
          go_wp2_with fail
          refine xn.mono ?_
          clear xn
          rintro e w4 ⟨rfl, rfl⟩
          go_wp2_with fail
          go_loopw [21, 22] (fun nv iv wr => ∃ j : Nat, iv = .int .i64 (j : Int) ∧ j ≤ k ∧ nv = .int .i64 (((sel ps W j).length : Nat) : Int) ∧ Below w10.heap.size w10 wr) (fun _ iv _ => k - (intOf iv).toNat)
          case atStart => exact ⟨0, rfl, Nat.zero_le _, rfl, Below.refl _ _⟩
          case round =>
            obtain ⟨j, rfl, hj, rfl, hB⟩ := hrel
            obtain ⟨hpk, harr, hWd, hNG, lsR, nsB, lsG, hNGb, hgt, hbd, hbt, hall, hb10, hn, hZ1⟩ := HX.out
            by_cases hjk : j < k
            · obtain ⟨pj, hpj⟩ : ∃ pj, al[j]? = some pj := ⟨_, List.getElem?_eq_getElem (by omega)⟩
              have hpp := hpk pj (List.mem_of_getElem? hpj)
              have h7 := hpp.seven
              obtain ⟨bR, oR, aj, cj, rfl, hbR, hcR, hdR⟩ := lsR.at_ hpj
              obtain ⟨bB, oB, rfl, hbB, hcB⟩ := nsB.at_ (k := j) (by rw [eds_len]; exact hjk)
              have hev : (eds al k)[j]'(by rw [eds_len]; exact hjk) = ((bnd al (j + 1) : Nat) : Int) := by
                have h := eds_at (ps := al) (k := k) (i := j) hjk
                rw [List.getElem?_eq_getElem (by rw [eds_len]; exact hjk)] at h
                injection h
              rw [hev] at hcB
              have hbn := bnd_next hpj
              have hb1 := hbt (j + 1)
              obtain ⟨NL, hNL⟩ : ∃ NL, pj.length = NL := ⟨_, rfl⟩
              obtain ⟨Y0, hY0⟩ : ∃ Y0, bnd al j = Y0 := ⟨_, rfl⟩
              obtain ⟨Y1, hY1⟩ : ∃ Y1, bnd al (j + 1) = Y1 := ⟨_, rfl⟩
              rw [hNL] at hcR h7
              rw [hY1] at hcB hb1
              rw [hY0, hY1, hNL] at hbn
              obtain ⟨K0, hK0⟩ : ∃ K0, Y0 / Z = K0 := ⟨_, rfl⟩
              obtain ⟨K1, hK1⟩ : ∃ K1, (Y1 - 1) / Z = K1 := ⟨_, rfl⟩
              have hK01 : K0 ≤ K1 := by rw [← hK0, ← hK1]; exact Nat.div_le_div_right (by omega)
              have hK1b : K1 ≤ 6120 := by rw [← hK1]; have := Nat.div_le_self (Y1 - 1) Z; omega
              have d1 : (Y1 : Int) - (NL : Int) = (Y0 : Int) := by omega
              have d2 : (Y0 : Int).tdiv (Z : Int) = (K0 : Int) := by rw [Int.tdiv_eq_ediv_of_nonneg (by omega), ← hK0]; exact (Int.natCast_ediv Y0 Z).symm
              have d2' : (Y0 : Int) / (Z : Int) = (K0 : Int) := by rw [← hK0]; exact (Int.natCast_ediv Y0 Z).symm
              obtain ⟨Y2, hY2⟩ : ∃ Y2, Y1 - 1 = Y2 := ⟨_, rfl⟩
              have d3 : (Y1 : Int) - 1 = (Y2 : Int) := by omega
              rw [hY2] at hK1
              have d4 : (Y2 : Int).tdiv (Z : Int) = (K1 : Int) := by rw [Int.tdiv_eq_ediv_of_nonneg (by omega), ← hK1]; exact (Int.natCast_ediv Y2 Z).symm
              have d4' : (Y2 : Int) / (Z : Int) = (K1 : Int) := by rw [← hK1]; exact (Int.natCast_ediv Y2 Z).symm
              have z0 : ((Z : Int) == 0) = false := by simp; omega
              have c1 : wr.cell? ⟨bR, oR + j, none⟩ = some (.slice aj NL cj) := (hB.cell (p := ⟨bR, oR + j, none⟩) hbR).trans hcR
              have c2 : wr.cell? ⟨bB, oB + j, none⟩ = some (.int .i64 (Y1 : Int)) := (hB.cell (p := ⟨bB, oB + j, none⟩) hbB).trans hcB
              have j0 : (0 : Int) ≤ (j : Int) := by omega
              have j1 : (j : Int) < (k : Int) := by omega
              have hWj : W j = alls arr K0 (K1 + 1 - K0) := by
                rw [← hWd]
                unfold Wt
                rw [hbd j (by omega), hbd (j + 1) (by omega), hY0, hY1, hY2, hK0, hK1]
              have hsj : sel ps W (j + 1) = sel ps W j ++ (if W j then [pj] else []) := by
                have h1 : al.getD j [] = pj := by rw [List.getD_eq_getElem?_getD, hpj]; rfl
                rw [sel_succ, hgt j hjk, h1, ni_pkt hpp, Bool.true_and]
              have HJ := Lib.hid (And.intro hWj (And.intro hsj (And.intro hpj (And.intro hdR (And.intro hNL (And.intro hcR hcB))))))
              have hj20 : j < 20 := by omega
              have hZ20 : 20 ≤ Z := hZ1
              have hsl := hNGb j
              have HB := Lib.hid hB
              clear hpk harr hWd hNG lsR nsB lsG hNGb hgt hbd hbt hall hb10 hn hZ1 hWj hsj hpj hdR hNL hcR hcB hev hbn hpp h7 hY0 hY1 hK0 hK1 hY2 hB hj
              go_wp2
              go_quiet (fail)
              obtain ⟨w11, hw11⟩ : ∃ w11, w11 = wr.drewN nq := ⟨_, rfl⟩
              have HB1 : Hid (Below w10.heap.size w10 w11) := Lib.hid (by rw [hw11]; exact HB.out.trans ((drewN_below wr nq).mono HB.out.size))
              have c1' : w11.cell? ⟨bR, oR + j, none⟩ = some (.slice aj NL cj) := by rw [hw11]; exact c1
              have c2' : w11.cell? ⟨bB, oB + j, none⟩ = some (.int .i64 (Y1 : Int)) := by rw [hw11]; exact c2
              rw [← hw11]
              clear hw11 HB c1 c2
              go_wp2_with fail
              go_loop [23, 24] (fun bv kv => ∃ t : Nat, kv = .int .i64 ((K0 + t : Nat) : Int) ∧ t ≤ K1 + 1 - K0 ∧ bv = .bool (alls arr K0 t)) (fun _ kv => K1 + 1 - (intOf kv).toNat)
              case atStart => exact ⟨0, by rw [Nat.add_zero], Nat.zero_le _, rfl⟩
              case round =>
                obtain ⟨t, rfl, ht, rfl⟩ := hrel
                by_cases hlt : K0 + t ≤ K1
                · obtain ⟨Tt, hTt⟩ : ∃ Tt, K0 + t = Tt := ⟨_, rfl⟩
                  rw [hTt] at hlt ⊢
                  have u1 : decide ((Tt : Int) ≤ (K1 : Int)) = true := by simpa using hlt
                  have u1' : decide (Tt ≤ K1) = true := by simpa using hlt
                  have hst : alls arr K0 (t + 1) = (alls arr K0 t && arr Tt) := by rw [← hTt]; rfl
                  cases hb : alls arr K0 t with
                  | true =>
                    obtain ⟨b2, hb2⟩ : ∃ b2, lb.getD Tt false = b2 := ⟨_, rfl⟩
                    have hnb : Nb w11 w11.heap.size Al lb := fun h0 => by
                      obtain ⟨b, off, e, hb, hc⟩ := hbs h0
                      have hW := HX.out.2.2.2.2.2.2.2.2.2.2.2.2.1.trans (HB1.out.mono HX.out.2.2.2.2.2.2.2.2.2.2.2.2.1.size)
                      exact ⟨b, off, e, Nat.lt_of_lt_of_le hb hW.size, fun i y hy => (hW.cell (p := ⟨b, off + i, none⟩) hb).trans (hc i y hy)⟩
                    have xh := has20_any lb m Tt Al cl w11 hbl hnb
                    rw [hb2] at xh
                    have hst2 : Hid (alls arr K0 (t + 1) = !b2) := Lib.hid (by rw [hst, hb, ← HX.out.2.1]; simp only; rw [hb2]; rfl)
                    have ht1 : Hid (K0 + (t + 1) = Tt + 1 ∧ t + 1 ≤ K1 + 1 - K0) := Lib.hid ⟨by omega, by omega⟩
                    clear hst hb hb2 hnb ht hTt
                    go_wp2_with fail
                    refine xh.mono ?_
                    clear xh
                    rintro e w12 ⟨rfl, rfl⟩
                    go_wp2
                    go_round
                    case rel => exact ⟨t + 1, by rw [ht1.out.1]; go_num, ht1.out.2, by rw [hst2.out]⟩
                    case measure => simp [intOf]; omega
                  | false =>
                    have hst2 : Hid (alls arr K0 (t + 1) = false) := Lib.hid (by rw [hst, hb]; rfl)
                    have ht1 : Hid (K0 + (t + 1) = Tt + 1 ∧ t + 1 ≤ K1 + 1 - K0) := Lib.hid ⟨by omega, by omega⟩
                    clear hst hb ht hTt
                    go_wp2
                    go_round
                    case rel => exact ⟨t + 1, by rw [ht1.out.1]; go_num, ht1.out.2, by rw [hst2.out]⟩
                    case measure => simp [intOf]; omega
                · obtain ⟨Tt, hTt⟩ : ∃ Tt, K0 + t = Tt := ⟨_, rfl⟩
                  rw [hTt] at hlt ⊢
                  have u1 : decide ((Tt : Int) ≤ (K1 : Int)) = false := by simpa using hlt
                  have u1' : decide (Tt ≤ K1) = false := by simpa using hlt
                  obtain rfl : t = K1 + 1 - K0 := by omega
                  have hw1 := HJ.out.1
                  rw [← hw1]
                  cases hWv : W j with
                  | false =>
                    have hs2 : Hid (sel ps W (j + 1) = sel ps W j) := Lib.hid (by rw [HJ.out.2.1, hWv]; simp)
                    clear hWv hw1 ht hTt hlt
                    go_wp2
                    go_roundw
                    case rel => exact ⟨j + 1, by go_num, hjk, by rw [hs2.out], HB1.out⟩
                    case measure => simp [intOf]; omega
                  | true =>
                    have hs1 : sel ps W (j + 1) = sel ps W j ++ [pj] := by rw [HJ.out.2.1, hWv]; simp
                    obtain ⟨tl, htl⟩ := sel_len ps W (i := j + 1) (j := k) hjk
                    obtain ⟨NJ, hNJ⟩ : ∃ NJ, (sel ps W j).length = NJ := ⟨_, rfl⟩
                    have hNG2 := HX.out.2.2.2.1
                    have hge : (sel ps W k)[NJ]? = some pj := by
                      rw [← htl, hs1, List.append_assoc, List.getElem?_append_right (by omega), hNJ, Nat.sub_self]
                      rfl
                    have hNJG : NJ < NG := by
                      rw [← hNG2]
                      exact (List.getElem?_eq_some_iff.1 hge).1
                    have hs1l : (sel ps W (j + 1)).length = NJ + 1 := by rw [hs1, List.length_append, hNJ]; rfl
                    obtain ⟨bG, oG, ag, cg, rfl, hbG, hcG, hdG⟩ := HX.out.2.2.2.2.2.2.1.at_ hge
                    rw [HJ.out.2.2.2.2.1] at hcG
                    have c3' : w11.cell? ⟨bG, oG + NJ, none⟩ = some (.slice ag NL cg) := (HB1.out.cell (p := ⟨bG, oG + NJ, none⟩) hbG).trans hcG
                    have hdG11 := (hdG.below HB1.out).more HB1.out.size
                    have hdR11 := (HJ.out.2.2.2.1.below HB1.out).more HB1.out.size
                    have hNL := HJ.out.2.2.2.2.1
                    have g1 : decide ((NG : Int) ≤ (NJ : Int)) = false := by simp; omega
                    have g1' : decide (NG ≤ NJ) = false := by simp; omega
                    have g2 : (0 : Int) ≤ (NJ : Int) := by omega
                    have g3 : (NJ : Int) < (NG : Int) := by omega
                    have e1 : ((str pj).toList != (str pj).toList) = false := by simp
                    have hbG' : bG < w11.heap.size := Nat.lt_of_lt_of_le hbG HB1.out.size
                    have hbR' : bR < w11.heap.size := Nat.lt_of_lt_of_le hbR HB1.out.size
                    have hNJb : NJ ≤ 20 := by have := HX.out.2.2.2.2.2.2.2.1 j; omega
                    have HS := Lib.hid hs1l
                    rw [hNJ]
                    clear hWv hw1 ht hTt hlt hs1 htl hge hs1l hNJ hNG2 hcG hNJG
                    go_upto_region 43 with fail
                    refine wp_region_later (by kernel_rfl) (by kernel_rfl) ?_
                    have r1 : ∀ p : Later w11, p.W.cell? ⟨bG, oG + NJ, none⟩ = some (.slice ag NL cg) := later_cell c3' hbG'
                    have r2 : ∀ p : Later w11, p.W.cell? ⟨bR, oR + j, none⟩ = some (.slice aj NL cj) := later_cell c1' hbR'
                    have q1 : ∀ p : Later w11, (convert 26 9 (.slice ag NL cg)).run Try.prog p.W = .ok (.string (str pj)) p.W := fun p => by
                      have := run_str p.W is_bytes Try.underlying9 (hdG11.b.below p.h) hdG11.n
                      rwa [hNL] at this
                    have q2 : ∀ p : Later w11, (convert 26 9 (.slice aj NL cj)).run Try.prog p.W = .ok (.string (str pj)) p.W := fun p => by
                      have := run_str p.W is_bytes Try.underlying9 (hdR11.b.below p.h) hdR11.n
                      rwa [hNL] at this
                    clear c3' c1' hdG11 hdR11 hNL hdG
                    repeat (go_big_quiet_step (fail))
                    refine wpQuiet_nil ?_
                    rintro _ ⟨⟨w13, b13⟩, rfl⟩
                    have HB3 := Lib.hid (HB1.out.trans (b13.mono HB1.out.size))
                    go_wp2
                    go_roundw
                    case rel => exact ⟨j + 1, by go_num, hjk, by rw [HS.out]; go_num, HB3.out⟩
                    case measure => simp [intOf]; omega
            · obtain rfl : j = k := by omega
              rw [hNG]
              have xLf := xL wr hB
              have g1 : ((NG : Int) == (NG : Int)) = true := by simp
              have HE := Lib.hid (hb10.trans (hB.mono hb10.size))
              clear hpk harr hWd hNG lsR nsB lsG hNGb hgt hbd hbt hall hb10 hn hZ1 hB hjk hj xL
              go_wp2_with fail
              refine xLf.mono ?_
              rintro e w14 ⟨rfl, rfl⟩
              go_wp2
              go_ret
              exact ⟨rfl, HE.out⟩

set_option maxRecDepth 100000 in
set_option maxHeartbeats 2000000 in
theorem topPackets_walk (z : Int) (An Al : Option Addr) (ln : List Int) (lb : List Bool) (n c m cl : Nat) (w : World) (hl : ln.length = n) (hns : Ns w w.heap.size An ln) (hbl : lb.length = m) (hbs : Nb w w.heap.size Al lb) :
    Calls Try.prog 7 #[.int .i64 z, .slice An n c, .slice Al m cl] w fun e w' => e = .returned (.bool true) ∧ Below w.heap.size w w' := by
  by_cases h1 : z < 20
  · have t1 : decide (z < 20) = true := by simpa using h1
    clear h1 hl hns hbl hbs
    go_enter Try.func7, Try.ntmps7
    go_wp2
    go_ret
    exact ⟨rfl, Below.refl _ _⟩
  · have t1 : decide (z < 20) = false := by simpa using h1
    by_cases h2 : 200 < z
    · have t2 : decide (200 < z) = true := by simpa using h2
      clear h1 h2 hl hns hbl hbs
      go_enter Try.func7, Try.ntmps7
      go_wp2
      go_ret
      exact ⟨rfl, Below.refl _ _⟩
    · have t2 : decide (200 < z) = false := by simpa using h2
      by_cases h3 : 20 < n
      · have t3 : decide ((20 : Int) < (n : Int)) = true := by simp; omega
        have t3' : decide (20 < n) = true := by simpa using h3
        clear h1 h2 h3 hl hns hbl hbs
        go_enter Try.func7, Try.ntmps7
        go_wp2
        go_ret
        exact ⟨rfl, Below.refl _ _⟩
      · have t3 : decide ((20 : Int) < (n : Int)) = false := by simp; omega
        have t3' : decide (20 < n) = false := by simpa using h3
        by_cases h4 : 255 < m
        · have t4 : decide ((255 : Int) < (m : Int)) = true := by simp; omega
          have t4' : decide (255 < m) = true := by simpa using h4
          clear h1 h2 h3 h4 hl hns hbl hbs
          go_enter Try.func7, Try.ntmps7
          go_wp2
          go_ret
          exact ⟨rfl, Below.refl _ _⟩
        · obtain ⟨Z, rfl⟩ : ∃ Z : Nat, z = (Z : Int) := ⟨z.toNat, by omega⟩
          exact topPackets_ok Z An Al ln lb n c m cl w (by omega) (by omega) (Lib.hid hl) hns (Lib.hid hbl) hbs (by omega) (by omega)
end Go.Proofs.Ytcmonalnhdodmaa.Unp

/-
  An argument: a slice of ints that came in, as a list. No dump is imported.
-/
namespace Go.Proofs.Ytcmonalnhdodmaa.Ints
open Go.RowKit

theorem IsRow.ints {w : World} {a : Option Addr} {len cap : Nat} {zs : List Int} (h : IsRow .i64 w a len cap zs) :
    ∃ l : List Int, len = l.length ∧ Ns w w.heap.size a l ∧ (a = none → cap = 0) ∧ l.length ≤ cap ∧ cap ≤ maxLen := by
  rcases h with ⟨rfl, rfl, rfl, rfl⟩ | ⟨x, rfl, hl, hm, hz, hc, hw⟩
  · exact ⟨[], rfl, Ns.nil_, fun _ => rfl, by simp, by simp⟩
  · refine ⟨zs.take len, by simp; omega, fun hpos => ?_, by simp, by simp; omega, hm⟩
    have h0 := hc 0 (by simp at hpos; omega)
    obtain ⟨b, off, spot⟩ := x
    have hs : spot = none := by simpa [Addr.add] using World.cell?_spot h0
    subst hs
    refine ⟨b, off, rfl, lt_of_cell h0, fun i y hy => ?_⟩
    rw [List.getElem?_take] at hy
    split at hy
    · rename_i hi
      have hzi : i < zs.length := (List.getElem?_eq_some_iff.1 hy).1
      have := hc i hzi
      rw [List.getD_eq_getElem?_getD, hy] at this
      by_cases hi0 : i = 0
      · subst hi0; simpa [Addr.add] using this
      · simpa [Addr.add, hi0] using this
    · cases hy
end Go.Proofs.Ytcmonalnhdodmaa.Ints

/-
  The law TopPackets over its arguments as they come in.
-/
namespace Go.Proofs.Ytcmonalnhdodmaa.Unp
open Go.RowKit Ints Bools

theorem topPackets_row (z : Int) {w : World} {a1 a2 : Option Addr} {n c1 c2 : Nat} {zs : List Int} {lb : List Bool} (h1 : IsRow .i64 w a1 n c1 zs) (h2 : Nb w w.heap.size a2 lb) :
    Calls Try.prog 7 #[.int .i64 z, .slice a1 n c1, .slice a2 lb.length c2] w fun e w' => e = .returned (.bool true) ∧ Below w.heap.size w w' := by
  obtain ⟨l1, rfl, hp1, _⟩ := IsRow.ints h1
  exact topPackets_walk z a1 a2 l1 lb l1.length c1 lb.length c2 w rfl hp1 rfl h2
end Go.Proofs.Ytcmonalnhdodmaa.Unp
