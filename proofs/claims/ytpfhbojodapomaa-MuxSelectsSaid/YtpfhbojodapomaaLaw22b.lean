/-
  The laws of layer 22: MuxMakes, MuxPrefers.
-/
import Derived.Test.YtpfhbojodapomaaLaw22a
import Derived.Test.YtpfhbojodapomaaRef22b
namespace Go.Proofs.Ytpfhbojodapomaa.Mux
open Go.RowKit Go.Proofs.Ytpfhbojodapomaa.Row Ints

theorem RZ.forms {w : World} {base n : Nat} {v1 v2 v3 : Value} {F : List Nat} {L : List Ch} (h : RZ w base v1 v2 v3 F L) (hn : L.length = n) : ∃ A1 c1 A2 c2 A3 c3, v1 = .slice A1 n c1 ∧ v2 = .slice A2 n c2 ∧ v3 = .slice A3 n c3 := by
  obtain ⟨o1, o2, o3, _⟩ := h
  obtain ⟨A1, c1, e1, _⟩ := o1.reads_len encA_ok hn
  obtain ⟨A2, c2, e2, _⟩ := o2.reads_len encI_ok (n := n) (by simp [hn])
  obtain ⟨A3, c3, e3, _⟩ := o3.reads_len encI_ok (n := n) (by simp [hn])
  exact ⟨A1, c1, A2, c2, A3, c3, e1, e2, e3⟩
theorem xnew_ok (l : List Ch) (w : World) (A : Option Addr) (n c : Nat) (hln : l.length = n) (hr : Rs encA 3 w w.heap.size A l) (hnn : A = none → c = 0) (hl : n ≤ 1000000) (hz : Hid (∀ x ∈ l, x.cr = 0 ∧ x.sn = 0)) (h0 : chk [] l = 0) :
    Calls Try.prog 9 #[.slice A n c] w fun e w' => ∃ A1 c1 A2 c2 A3 c3 F, e = .returned (.tuple #[.agg #[.slice A1 n c1, .slice A2 n c2, .slice A3 n c3], .int .i64 0]) ∧ RZ w' w.heap.size (.slice A1 n c1) (.slice A2 n c2) (.slice A3 n c3) F l ∧ Below w.heap.size w w' := by
  refine (xnew_any l w A n c hln hr hnn hl hz).mono ?_
  rintro e w' ⟨hb, ⟨h1, _⟩ | ⟨_, v1, v2, v3, F, rfl, hz⟩⟩
  · exact absurd h0 h1
  · obtain ⟨A1, c1, A2, c2, A3, c3, rfl, rfl, rfl⟩ := hz.forms hln
    exact ⟨A1, c1, A2, c2, A3, c3, F, rfl, hz, hb⟩
theorem xnew_bad (l : List Ch) (w : World) (A : Option Addr) (n c : Nat) (hln : l.length = n) (hr : Rs encA 3 w w.heap.size A l) (hnn : A = none → c = 0) (hl : n ≤ 1000000) (hz : Hid (∀ x ∈ l, x.cr = 0 ∧ x.sn = 0)) (h0 : chk [] l ≠ 0) :
    Calls Try.prog 9 #[.slice A n c] w fun e w' => e = .returned (.tuple #[.agg #[.slice none 0 0, .slice none 0 0, .slice none 0 0], .int .i64 (chk [] l)]) ∧ Below w.heap.size w w' := by
  refine (xnew_any l w A n c hln hr hnn hl hz).mono ?_
  rintro e w' ⟨hb, ⟨_, rfl⟩ | ⟨h1, _⟩⟩
  · exact ⟨rfl, hb⟩
  · exact absurd h1 h0

set_option maxRecDepth 100000 in
set_option maxHeartbeats 4000000 in
theorem muxMakes_walk (l : List Ch) (w : World) (A : Option Addr) (n c : Nat) (hln : l.length = n) (hr : Rs encA 3 w w.heap.size A l) (hnn : A = none → c = 0) (hl : n ≤ maxLen) (hz : Hid (∀ x ∈ l, x.cr = 0 ∧ x.sn = 0)) :
    Calls Try.prog 3 #[.slice A n c] w fun e w' => e = .returned (.bool true) ∧ Below w.heap.size w w' := by
  have hlv := fun W => alive_any W
  have hmx : n ≤ 9223372036854775807 := by unfold maxLen at hl; omega
  by_cases h30 : 30 < n
  · have t0 : decide ((30 : Int) < (n : Int)) = true := decide_eq_true (by omega)
    have t1 : decide (30 < n) = true := decide_eq_true h30
    clear hr hln hz
    go_enter Try.func3, Try.ntmps3
    go_wp2_with (go_at_call 7; refine (hlv _).mono ?_; rintro e w1 ⟨rfl, hb1⟩)
    go_ret
    exact ⟨rfl, hb1⟩
  · have t0 : decide ((30 : Int) < (n : Int)) = false := decide_eq_false (by omega)
    have t1 : decide (30 < n) = false := decide_eq_false h30
    have h31 : n ≤ 1000000 := by omega
    by_cases h0 : chk [] l = 0
    · have x1 := new_ok l w A n c hln hr h31 hz h0
      have x2 := fun W (hb : Below w.heap.size w W) => xnew_ok l W A n c hln ((hr.below hb).more hb.size) hnn h31 hz h0
      clear hr hln hz h0
      go_enter Try.func3, Try.ntmps3
      go_wp2_with fail
      refine x1.mono ?_
      rintro e w1 ⟨g, r, rfl, p1⟩
      have b1 := p1.b
      clear x1
      go_wp2_with fail
      refine (x2 w1 b1).mono ?_
      rintro e w2 ⟨A1, c1, A2, c2, A3, c3, F, rfl, hz2, b2⟩
      have b3 := b1.trans (b2.mono b1.size)
      clear x2 hz2 p1
      go_wp2_with fail
      refine (hlv _).mono ?_
      rintro e w3 ⟨rfl, hb3⟩
      go_wp2_with fail
      go_ret
      exact ⟨rfl, (b3.alloc b3.size _).trans (hb3.mono (by have := b3.size; simp; omega))⟩
    · have x1 := new_bad l w A n c hln hr h31 hz h0
      have x2 := fun W (hb : Below w.heap.size w W) => xnew_bad l W A n c hln ((hr.below hb).more hb.size) hnn h31 hz h0
      obtain ⟨E, hE⟩ : ∃ E, E = chk [] l := ⟨_, rfl⟩
      rw [← hE] at x1 x2 h0
      have t2 : (E != 0) = true := by simpa using h0
      have t3 : (E == E) = true := by simp
      clear hr hln hz h0 hE
      go_enter Try.func3, Try.ntmps3
      go_wp2_with fail
      refine x1.mono ?_
      rintro e w1 ⟨rfl, b1⟩
      clear x1
      go_wp2_with fail
      refine (x2 w1 b1).mono ?_
      rintro e w2 ⟨rfl, b2⟩
      have b3 := b1.trans (b2.mono b1.size)
      clear x2
      go_wp2_with fail
      refine (hlv _).mono ?_
      rintro e w3 ⟨rfl, hb3⟩
      go_wp2_with fail
      go_ret
      exact ⟨rfl, (b3.alloc b3.size _).trans (hb3.mono (by have := b3.size; simp; omega))⟩

/-! ### MuxPrefers -/
theorem pref {rd : List Int} {l R' : List Ch} {X : Int} (g : Good l) (h : nxf rd l = (some X, R')) : X ∈ rd ∧ ∀ x ∈ l, x.id = X → ∀ y ∈ l, y.pr < x.pr → y.id ∉ rd := by
  have k := nxf_ok (rd := rd) g
  rw [h] at k
  rcases k with ⟨e, _⟩ | ⟨p, b, hb, hel, hmin, _, e, _⟩
  · cases e
  · have e2 : X = b.id := Option.some.inj e
    subst e2
    obtain ⟨h1, h2⟩ := el_iff.1 hel
    refine ⟨h1, fun x hx hxi y hy hlt hin => ?_⟩
    have e3 := g.same hx hb hxi
    subst e3
    have := hmin y hy hin
    omega
set_option maxRecDepth 100000 in
set_option maxHeartbeats 8000000 in
theorem muxPrefers_walk (l : List Ch) (rd : List Int) (w : World) (A : Option Addr) (n c : Nat) (hln : l.length = n) (hr : Rs encA 3 w w.heap.size A l) (hl : n ≤ maxLen) (hz : Hid (∀ x ∈ l, x.cr = 0 ∧ x.sn = 0))
    (A2 : Option Addr) (n2 c2 : Nat) (hn2 : rd.length = n2) (hrd : Ns w w.heap.size A2 rd) (hl2 : n2 ≤ maxLen) :
    Calls Try.prog 6 #[.slice A n c, .slice A2 n2 c2] w fun e w' => e = .returned (.bool true) ∧ Below w.heap.size w w' := by
  have hlv := fun W => alive_any W
  have hmx : n ≤ 9223372036854775807 := by unfold maxLen at hl; omega
  have hmx2 : n2 ≤ 9223372036854775807 := by unfold maxLen at hl2; omega
  by_cases h30 : 30 < n
  · have t0 : decide ((30 : Int) < (n : Int)) = true := decide_eq_true (by omega)
    have t1 : decide (30 < n) = true := decide_eq_true h30
    clear hr hln hz hrd
    go_enter Try.func6, Try.ntmps6
    go_wp2_with (go_at_call 7; refine (hlv _).mono ?_; rintro e w1 ⟨rfl, hb1⟩)
    go_ret
    exact ⟨rfl, hb1⟩
  have t0 : decide ((30 : Int) < (n : Int)) = false := decide_eq_false (by omega)
  have t1 : decide (30 < n) = false := decide_eq_false h30
  by_cases h50 : 50 < n2
  · have t2 : decide ((50 : Int) < (n2 : Int)) = true := decide_eq_true (by omega)
    have t3 : decide (50 < n2) = true := decide_eq_true h50
    clear hr hln hz hrd
    go_enter Try.func6, Try.ntmps6
    go_wp2_with (go_at_call 7; refine (hlv _).mono ?_; rintro e w1 ⟨rfl, hb1⟩)
    go_ret
    exact ⟨rfl, hb1⟩
  have t2 : decide ((50 : Int) < (n2 : Int)) = false := decide_eq_false (by omega)
  have t3 : decide (50 < n2) = false := decide_eq_false h50
  have h31 : n ≤ 1000000 := by omega
  by_cases h0 : chk [] l = 0
  · have hG : Good l := by have := chk_good (l := l) (s := []) ⟨by simp, by simp [ids]⟩ h0; simpa using this
    have HG := Lib.hid hG
    have x1 := new_ok l w A n c hln hr h31 hz h0
    have HL := Lib.hid hln
    have HN2 := Lib.hid hn2
    have n50 : n2 ≤ 50 := by omega
    have n30 : n ≤ 30 := by omega
    clear hln hz h0 hG hn2 h30 h50 hl hl2
    go_enter Try.func6, Try.ntmps6
    go_wp2_with fail
    refine x1.mono ?_
    rintro e w1 ⟨g, r, rfl, p1⟩
    have b1 := p1.b
    have s1 := b1.size
    clear x1
    rcases hX : nxf rd l with ⟨res, R'⟩
    have x2 := p1.next rd A2 n2 c2 HN2.out ((hrd.below b1).more s1) (by omega) (by omega) hX
    go_wp2_with fail
    refine x2.mono ?_
    rintro e w2 ⟨rfl, p2, _⟩
    have b2 := p2.b
    have s2 := b2.size
    clear x2 p1
    cases res with
    | none =>
      clear hr hrd hX
      go_wp2_with fail
      go_loop [9, 10] (fun i _ => ∃ k : Nat, i = .int .i64 k ∧ k = 0) (fun _ _ => 0)
      case atStart => exact ⟨0, rfl, rfl⟩
      case round =>
        obtain ⟨k, rfl, rfl⟩ := hrel
        by_cases hn0 : 0 < n
        · have t5 : decide ((0 : Int) < (n : Int)) = true := decide_eq_true (by omega)
          go_wp2_with fail
          refine (hlv _).mono ?_
          rintro e w3 ⟨rfl, hb3⟩
          go_wp2_with fail
          go_ret
          exact ⟨rfl, b2.trans (hb3.mono s2)⟩
        · have t5 : decide ((0 : Int) < (n : Int)) = false := decide_eq_false (by omega)
          go_wp2_with fail
          refine (hlv _).mono ?_
          rintro e w3 ⟨rfl, hb3⟩
          go_wp2_with fail
          go_ret
          exact ⟨rfl, b2.trans (hb3.mono s2)⟩
    | some X =>
      have HP := Lib.hid (pref HG.out hX)
      have hr2 := hr.below b2
      have his := fun x W (hb : Below w.heap.size w W) => is_any x rd W A2 n2 c2 HN2.out ((hrd.below hb).more hb.size) (by omega)
      clear hr hrd hX
      go_wp2_with fail
      go_loopw [9, 10] (fun i _ wr => ∃ k : Nat, i = .int .i64 k ∧ k ≤ n ∧ Below w2.heap.size w2 wr) (fun i _ _ => n - (intOf i).toNat)
      case atStart => exact ⟨0, rfl, Nat.zero_le _, Below.refl _ _⟩
      case round =>
        obtain ⟨k, rfl, hk, hq⟩ := hrel
        obtain ⟨V, hV⟩ : ∃ V, V = wr := ⟨_, rfl⟩
        subst hV
        by_cases hlt : k < n
        · have hkl : k < l.length := by rw [HL.out]; exact hlt
          obtain ⟨b, off, rfl, _, _, _, _⟩ := a_at hr2 hkl
          have hPk : Hid (l[k].id = X → ∀ y ∈ l, y.pr < l[k].pr → y.id ∉ rd) := Lib.hid (HP.out.2 l[k] (List.getElem_mem hkl))
          go_wp2_with fail
          go_loopw [10] (fun j wr => ∃ k2 : Nat, j = .int .i64 k2 ∧ k2 ≤ n ∧ Below w2.heap.size w2 wr) (fun j _ => n - (intOf j).toNat)
          case atStart => exact ⟨0, rfl, Nat.zero_le _, hq⟩
          case round =>
            obtain ⟨j, rfl, hj, hq2⟩ := hrel
            by_cases hjn : j < n
            · have hjl : j < l.length := by rw [HL.out]; exact hjn
              have hr3 := hr2.below (hq2.mono s2)
              obtain ⟨_, _, e5, _, f0, f1, _⟩ := a_at hr3 hjl
              cases e5
              obtain ⟨_, _, e5, _, d0, d1, _⟩ := a_at hr3 hkl
              cases e5
              have hPj : Hid (l[k].id = X → l[j].pr < l[k].pr → l[j].id ∉ rd) := Lib.hid (fun e => hPk.out e l[j] (List.getElem_mem hjl))
              have hI := fun m => his l[j].id (wr.drewN m) (bel_dr (b2.trans (hq2.mono s2)) m)
              clear hPk hr2 hr3
              by_cases c1 : l[k].id = X
              · have u1 : (l[k].id == X) = true := by simpa using c1
                by_cases c2' : l[j].pr < l[k].pr
                · have u2 : decide (l[j].pr < l[k].pr) = true := decide_eq_true c2'
                  have u3 := hPj.out c1 c2'
                  rw [decide_eq_false u3] at hI
                  clear hPj c1 c2' u3 his
                  generalize l[k].id = x0 at d0 u1
                  generalize l[k].pr = x1 at d1 u2
                  generalize l[j].id = y0 at f0 hI
                  generalize l[j].pr = y1 at f1 u2
                  go_wp2_with fail
                  go_quiet ((go_at_call 15; exact Calls.quiet_of_same ((hI _).mono fun _ _ h => ⟨h.1, h.2.symm⟩)))
                  go_wp2_with fail
                  go_roundw
                  case rel => exact ⟨j + 1, by simp, hjn, bel_dr hq2 _⟩
                  case measure => simp [intOf]; omega
                · have u2 : decide (l[j].pr < l[k].pr) = false := decide_eq_false c2'
                  clear hPj c1 c2' his hI
                  generalize l[k].id = x0 at d0 u1
                  generalize l[k].pr = x1 at d1 u2
                  generalize l[j].id = y0 at f0
                  generalize l[j].pr = y1 at f1 u2
                  go_wp2_with fail
                  go_quiet (fail)
                  go_wp2_with fail
                  go_roundw
                  case rel => exact ⟨j + 1, by simp, hjn, bel_dr hq2 _⟩
                  case measure => simp [intOf]; omega
              · have u1 : (l[k].id == X) = false := by simpa using c1
                clear hPj c1 his hI
                generalize l[k].id = x0 at d0 u1
                go_wp2_with fail
                go_quiet (fail)
                go_wp2_with fail
                go_roundw
                case rel => exact ⟨j + 1, by simp, hjn, bel_dr hq2 _⟩
                case measure => simp [intOf]; omega
            · obtain rfl : j = n := by omega
              go_wp2_with fail
              go_roundw
              case rel => exact ⟨k + 1, by simp, hlt, hq2⟩
              case measure => simp [intOf]; omega
        · obtain rfl : k = n := by omega
          have hin := his X V (b2.trans (hq.mono s2))
          rw [decide_eq_true HP.out.1] at hin
          clear his
          go_wp2_with fail
          refine hin.mono ?_
          rintro e w4 ⟨rfl, rfl⟩
          go_wp2_with fail
          refine (hlv _).mono ?_
          rintro e w3 ⟨rfl, hb3⟩
          go_wp2_with fail
          go_ret
          exact ⟨rfl, (b2.trans (hq.mono s2)).trans (hb3.mono (Nat.le_trans s2 hq.size))⟩
  · have x1 := new_bad l w A n c hln hr h31 hz h0
    obtain ⟨E, hE⟩ : ∃ E, E = chk [] l := ⟨_, rfl⟩
    rw [← hE] at x1 h0
    have t4 : (E != 0) = true := by simpa using h0
    clear hr hrd hln hz h0 hE
    go_enter Try.func6, Try.ntmps6
    go_wp2_with fail
    refine x1.mono ?_
    rintro e w1 ⟨rfl, b1⟩
    clear x1
    go_wp2_with fail
    refine (hlv _).mono ?_
    rintro e w3 ⟨rfl, hb3⟩
    go_wp2_with fail
    go_ret
    exact ⟨rfl, b1.trans (hb3.mono b1.size)⟩
end Go.Proofs.Ytpfhbojodapomaa.Mux
