/-
  Package mux: foremost; slices.MaxFunc at the pointers to channels.
-/
import Derived.Test.YtpfhbojodapomaaMuxW1
import Derived.Test.YtpfhbojodapomaaMuxMath2
namespace Go.Proofs.Ytpfhbojodapomaa.Mux
open Go.RowKit Go.Shelf Go.Proofs.Ytpfhbojodapomaa.Row Ints

/-- a pointer to the channel with the index i of the row in block gr -/
def encP (gr i : Nat) : List Value := [.pointer (some ⟨gr, i * 5, none⟩)]
theorem encP_ok (gr : Nat) : Enc (encP gr) 1 := ⟨fun _ => rfl, fun x u hu => by simp [encP] at hu; rw [hu]; rfl, by decide⟩
theorem is_ptrs : IsRows Try.prog 58 60 (.pointer none) 1 8 := IsRows.of Try.underlying58 rfl (by kernel_rfl)
theorem p_at {gr : Nat} {w : World} {B : Nat} {A : Option Addr} {l : List Nat} {i : Nat} (h : Rs (encP gr) 1 w B A l) (hi : i < l.length) : ∃ b off, A = some ⟨b, off, none⟩ ∧ b < B ∧ w.cell? ⟨b, off + i, none⟩ = some (.pointer (some ⟨gr, l[i] * 5, none⟩)) := by
  obtain ⟨b, off, e, hb, hc⟩ := h.at_ hi
  refine ⟨b, off, e, hb, ?_⟩
  have := hc 0 _ rfl
  rwa [Nat.mul_one, Nat.add_zero] at this
theorem c_row {w : World} {B gr : Nat} {l : List Ch} {i : Nat} (h : Rs encC 5 w B (some ⟨gr, 0, none⟩) l) (hi : i < l.length) : gr < B ∧ w.cell? ⟨gr, i * 5, none⟩ = some (I l[i].id) ∧ w.cell? ⟨gr, i * 5 + 1, none⟩ = some (I l[i].pr) ∧
    w.cell? ⟨gr, i * 5 + 2, none⟩ = some (I l[i].wt) ∧ w.cell? ⟨gr, i * 5 + 3, none⟩ = some (I l[i].cr) ∧ w.cell? ⟨gr, i * 5 + 4, none⟩ = some (I l[i].sn) := by
  obtain ⟨b, off, e, hb, hc⟩ := c_at h hi
  cases e
  simp only [Nat.zero_add] at hc
  exact ⟨hb, hc⟩

theorem bel_dr {B : Nat} {w w' : World} (h : Below B w w') (n : Nat) : Below B w (w'.drewN n) := ⟨h.1, h.2, h.3, h.4, h.5⟩

set_option maxHeartbeats 4000000 in
set_option maxRecDepth 100000 in
theorem foremost_any (w : World) (g gr c : Nat) (A A2 : Option Addr) (n2 c2 : Nat) (L : List Ch) (rd : List Int) (hg : g < w.heap.size) (k1 : w.cell? ⟨g, 1, none⟩ = some (.slice A L.length c)) (hA : L ≠ [] → A = some ⟨gr, 0, none⟩)
    (hr : Rs encC 5 w w.heap.size A L) (hl : L.length ≤ 1000) (hs : Hid (Srt L)) (hn2 : rd.length = n2) (hrd : Ns w w.heap.size A2 rd) (hr2 : n2 ≤ 1000000) :
    Calls Try.prog 23 #[.pointer (some ⟨g, 0, none⟩), .slice A2 n2 c2] w fun e w' => ∃ v acc, e = .returned v ∧ Row.Os (encP gr) 1 w' w.heap.size 60 v acc ∧ Below w.heap.size w w' ∧ Hid (Fm rd L acc) := by
  subst hn2
  have hcon := fun (x : Int) (W : World) (hb : Below w.heap.size w W) => icontains_any x rd W A2 c2 ((hrd.below hb).more hb.size) (by omega)
  clear hrd
  go_enter Try.func23, Try.ntmps23
  go_wp2
  go_loopw [5, 6, 7, 13] (fun v _ _ i wr => ∃ (k : Nat) (acc : List Nat), k ≤ L.length ∧ i = .int .i64 k ∧ Row.Os (encP gr) 1 wr w.heap.size 60 v acc ∧ Below w.heap.size w wr ∧ Hid (FI rd L k acc)) (fun _ _ _ i _ => L.length - (intOf i).toNat)
  case atStart => exact ⟨0, [], Nat.zero_le _, rfl, Row.Os.nil_ _ _ _, Below.refl _ _, Lib.hid (FI.zero rd L)⟩
  case round =>
    obtain ⟨k, acc, hk, rfl, ho, hbel, hfi⟩ := hrel
    have hsz := hbel.size
    have k2 : wr.cell? ⟨g, 1, none⟩ = some (.slice A L.length c) := (hbel.cell (p := ⟨g, 1, none⟩) hg).trans k1
    obtain ⟨A5, c5, rfl, hr5, hn5, h5, h6⟩ := ho.reads (encP_ok gr)
    by_cases hlt : k < L.length
    · have hA' := hA (by intro e; rw [e] at hlt; simp at hlt)
      subst hA'
      have hrw := hr.below hbel
      obtain ⟨hgr, d0, d1, _, _, _⟩ := c_row hrw hlt
      have hnew := fun n => Rs_new1 (encP_ok gr) (wr.drewN n) 60 k #[.pointer (some ⟨gr, k * 5, none⟩)] rfl
      have ho1 := fun n => (ho.draws n).alloc (.cells #[.pointer (some ⟨gr, k * 5, none⟩)] 60)
      have hb1 := fun n => (bel_dr hbel n).alloc (by exact hsz) (.cells #[.pointer (some ⟨gr, k * 5, none⟩)] 60)
      have hm8 : acc.length + 1 ≤ 34359738368 := by have := hfi.out.len; omega
      have hcd : ∀ n : Nat, Calls Try.prog 33 #[.slice A2 rd.length c2, I L[k].id] (wr.drewN n) fun e w' => e = .returned (.bool (decide (L[k].id ∈ rd))) ∧ wr.drewN n = w' := fun n => hcon L[k].id (wr.drewN n) (bel_dr hbel n)
      cases acc with
      | nil =>
        by_cases hin : L[k].id ∈ rd
        · have hfi2 := Lib.hid (hfi.out.take0 hlt hin)
          have hdec : decide (L[k].id ∈ rd) = true := decide_eq_true hin
          rw [hdec] at hcd
          clear hin hdec hfi hcon hr hrw k1
          generalize L[k].id = X0 at d0 hcd
          generalize L[k].pr = X1 at d1
          go_wp2_with fail
          go_quiet (fail)
          go_wp2_with (first | (go_at_call 33; refine (hcd _).mono ?_; rintro e w1 ⟨rfl, rfl⟩) | (at_builtin; refine wpList_row _ (encP_ok gr) is_ptrs (by decide) rfl (.tmp 47) (.tmp 49) rfl rfl (ho1 _) (l := [k]) (n := 1) rfl rfl (hnew _) (by simp) hm8 (by simp; omega) ?_; intro v2 w2 hown2 hg2 hv2))
          go_roundw
          case rel => exact ⟨k + 1, [k], hlt, by simp, hown2, (hb1 _).grown hg2 (by simp; omega) (fun i hi => (ho1 0).base_le i hi), hfi2⟩
          case measure => simp [intOf]; omega
        · have hfi2 := Lib.hid (hfi.out.skip0 hlt hin)
          have hdec : decide (L[k].id ∈ rd) = false := decide_eq_false hin
          rw [hdec] at hcd
          clear hin hdec hfi hcon hr hrw k1
          generalize L[k].id = X0 at d0 hcd
          generalize L[k].pr = X1 at d1
          go_wp2_with fail
          go_quiet (fail)
          go_wp2_with (go_at_call 33; refine (hcd _).mono ?_; rintro e w1 ⟨rfl, rfl⟩)
          go_roundw
          case rel => exact ⟨k + 1, [], hlt, by simp, ho.draws _, bel_dr hbel _, hfi2⟩
          case measure => simp [intOf]; omega
      | cons i0 t =>
        obtain ⟨i1, t1, e1, hi0, hi0L⟩ : ∃ i1 t1, i0 :: t = i1 :: t1 ∧ i1 < k ∧ i1 < L.length := (hfi.out.head).resolve_left (by simp)
        cases e1
        obtain ⟨b5, off5, rfl, hb5, q0⟩ := p_at hr5 (i := 0) (by simp)
        simp only [List.getElem_cons_zero, Nat.add_zero] at q0
        obtain ⟨_, _, f1, _, _, _⟩ := c_row hrw hi0L
        by_cases heq : L[k].pr = L[i0].pr
        · have hne : (L[k].pr != L[i0].pr) = false := by simpa using heq
          by_cases hin : L[k].id ∈ rd
          · have hfi2 := Lib.hid (hfi.out.take1 hi0L hlt heq hin)
            have hdec : decide (L[k].id ∈ rd) = true := decide_eq_true hin
            rw [hdec] at hcd
            clear hin hdec hfi hcon hr hrw k1 heq
            generalize L[k].id = X0 at d0 hcd
            generalize L[k].pr = X1 at d1 hne
            generalize L[i0].pr = X2 at f1 hne
            go_wp2_with fail
            go_quiet (fail)
            go_wp2_with (first | (go_at_call 33; refine (hcd _).mono ?_; rintro e w1 ⟨rfl, rfl⟩) | (at_builtin; refine wpList_row _ (encP_ok gr) is_ptrs (by decide) rfl (.tmp 47) (.tmp 49) rfl rfl (ho1 _) (l := [k]) (n := 1) rfl rfl (hnew _) (by simp) hm8 (by simp; omega) ?_; intro v2 w2 hown2 hg2 hv2))
            go_roundw
            case rel => exact ⟨k + 1, i0 :: t ++ [k], hlt, by simp, hown2, (hb1 _).grown hg2 (by simp; omega) (fun i hi => (ho1 0).base_le i hi), hfi2⟩
            case measure => simp [intOf]; omega
          · have hfi2 := Lib.hid (hfi.out.skip1 hi0L hlt heq hin)
            have hdec : decide (L[k].id ∈ rd) = false := decide_eq_false hin
            rw [hdec] at hcd
            clear hin hdec hfi hcon hr hrw k1 heq
            generalize L[k].id = X0 at d0 hcd
            generalize L[k].pr = X1 at d1 hne
            generalize L[i0].pr = X2 at f1 hne
            go_wp2_with fail
            go_quiet (fail)
            go_wp2_with (go_at_call 33; refine (hcd _).mono ?_; rintro e w1 ⟨rfl, rfl⟩)
            go_roundw
            case rel => exact ⟨k + 1, i0 :: t, hlt, by simp, ho.draws _, bel_dr hbel _, hfi2⟩
            case measure => simp [intOf]; omega
        · have hne : (L[k].pr != L[i0].pr) = true := by simpa using heq
          have hfm := Lib.hid (hfi.out.stop hs.out hi0L hlt heq)
          clear heq hfi hcon hr hrw k1 hcd
          generalize L[k].pr = X1 at d1 hne
          generalize L[i0].pr = X2 at f1 hne
          go_wp2_with fail
          go_quiet (fail)
          go_wp2_with fail
          go_ret
          exact ⟨_, i0 :: t, rfl, ho.draws _, bel_dr hbel _, hfm⟩
    · obtain rfl : k = L.length := by omega
      go_wp2
      go_ret
      exact ⟨_, acc, rfl, ho, hbel, Lib.hid hfi.out.all⟩
end Go.Proofs.Ytpfhbojodapomaa.Mux
