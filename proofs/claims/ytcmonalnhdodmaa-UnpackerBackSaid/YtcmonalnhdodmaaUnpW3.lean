/-
  Package unpacker: Take, Clone.
-/
import Derived.Test.YtcmonalnhdodmaaUnpW2
namespace Go.Proofs.Ytcmonalnhdodmaa.Unp
open Go.RowKit Go.Proofs.Ytcmonalnhdodmaa.Row Lst
open Pac (bel_new)

/-- what Take leaves -/
structure TkOut (w : World) (g : Nat) (F : List Nat) (s s' : US) (O : List (List Byte)) (R : Value) (w' : World) : Prop where
  ex : ∃ E F', LO w' w.heap.size 26 5 R O E ∧ UW w' g F' s' ∧ (∀ x ∈ F', x ∈ F ∨ w.heap.size ≤ x) ∧ ∀ x ∈ E, x ∉ F'
  on : Only F w w'

section
variable {w w1 w3 w' : World} {g n c n3 c3 m cd ct : Nat} {s s1 s' : US} {A A1 A3 a : Option Addr} {F : List Nat} {L d : List Byte} {O : List (List Byte)} {R : Value} {f : Int}
theorem TkOut.none_ (h : UW w' g (fam g A1) s') (k : Only [g] w w') (ha : ∀ x ∈ blkA A1, x ∈ blkA A) : TkOut w g (fam g A) s s' [] (.slice none 0 0) w' :=
  ⟨⟨[], _, LO.nil_ _ _ _ _, h, fun x hx => .inl (by
    rcases List.mem_cons.1 hx with rfl | hx
    · simp [fam]
    · simp [fam, ha x hx]), fun x hx => nomatch hx⟩, k.more (fun x hx => .inl (by rw [List.mem_singleton.1 hx]; simp [fam]))⟩
/-- behind complete -/
theorem TkOut.done (k : Only (fam g A) w w3) (ha : ∀ x ∈ blkA A3, x ∈ blkA A ∨ w.heap.size ≤ x) (hu : UC w3 g { s1 with rs := L } A3 n3 c3) (hC : CmOut w3 g s1 A3 L R w') (hs : s' = { s1 with rs := (prs L).2 }) (hO : O = (prs L).1) (he : s1.ex < 256) : TkOut w g (fam g A) s s' O R w' := by
  subst hs hO
  obtain ⟨⟨E, A', n', c', hlo, hu', hA⟩, hon⟩ := hC
  refine ⟨⟨E, fam g A', hlo.more k.size, ⟨⟨_, _, _, hu', rfl⟩, prs_ok L, he⟩, fun x hx => ?_, fun x hx hm => ?_⟩, k.trans hon (fun x hx => .inl (by rw [List.mem_singleton.1 hx]; simp [fam]))⟩
  · rcases List.mem_cons.1 hx with rfl | hx
    · exact .inl (by simp [fam])
    · rcases ha x (hA x hx) with h | h
      · exact .inl (by simp [fam, h])
      · exact .inr h
  · rcases List.mem_cons.1 hm with rfl | hm
    · exact hlo.el_apart hu'.u (by decide) hx
    · have h1 := (hlo.lt x hx).1
      have h2 := hu.lt x (by simp [fam, hA x hm])
      omega
theorem Ptr_arg {ct : Int} (hl : d.length = m) : Arg ct f d ↔ ((0 ≤ ct ∧ ct ≤ 255) ∧ Ptr f m) := by
  unfold Arg Ptr
  rw [hl]
  omega

theorem flw_ex (s : US) (c : Nat) : (flw s c).ex < 256 := by unfold flw; simp only; omega

set_option maxHeartbeats 1000000 in
theorem utake_bad (h : UC w g s A n c) (hok : s.Ok) {ct : Int} (hl : d.length = m) (hA : ¬ Arg ct f d) :
    Calls Try.prog 11 #[.pointer (some ⟨g, 0, none⟩), .int .i64 ct, .int .i64 f, .slice a m cd] w fun e w' => ∃ R, e = .returned R ∧ TkOut w g (fam g A) s s [] R w' := by
  have xv := fun W => valid_any ct 8 W
  have HU := Lib.hid h
  have HK := Lib.hid hok
  have hp : pw 8 = 256 := rfl
  by_cases hc : 0 ≤ ct ∧ ct ≤ 255
  · have e1 : vl ct 8 = true := vl_iff.2 ⟨by omega, by omega, by omega, by rw [hp]; omega⟩
    rw [e1] at xv
    have xp := fun W => uperm_any f a m cd W
    have e2 : decide (Ptr f m) = false := decide_eq_false (fun k => hA ((Ptr_arg hl).2 ⟨hc, k⟩))
    rw [e2] at xp
    clear e1 e2 h hok hA hl hp hc

    go_enter Try.func11, Try.ntmps11
    go_wp2_with fail
    refine (uworks_uc HU.out).mono ?_
    rintro e w1 ⟨rfl, rfl⟩
    go_wp2_with fail
    refine (xv _).mono ?_
    rintro e w1 ⟨rfl, rfl⟩

    go_wp2_with fail
    refine (xp _).mono ?_
    rintro e w1 ⟨rfl, rfl⟩
    go_wp2
    go_ret
    exact ⟨_, rfl, TkOut.none_ ⟨⟨_, _, _, HU.out, rfl⟩, HK.out⟩ (Only.refl _ _) (fun _ hx => hx)⟩
  · have e1 : vl ct 8 = false := by
      cases e : vl ct 8 with
      | false => rfl
      | true =>
        obtain ⟨_, _, q1, q2⟩ := vl_iff.1 e
        rw [hp] at q2
        omega
    rw [e1] at xv
    clear e1 h hok hA hl hp hc

    go_enter Try.func11, Try.ntmps11
    go_wp2_with fail
    refine (uworks_uc HU.out).mono ?_
    rintro e w1 ⟨rfl, rfl⟩
    go_wp2_with fail
    refine (xv _).mono ?_
    rintro e w1 ⟨rfl, rfl⟩

    go_wp2
    go_ret
    exact ⟨_, rfl, TkOut.none_ ⟨⟨_, _, _, HU.out, rfl⟩, HK.out⟩ (Only.refl _ _) (fun _ hx => hx)⟩

set_option maxHeartbeats 2000000 in
theorem utake_idle (h : UC w g s A n c) (hok : s.Ok) (hlo : s.lo ≤ 1000000000000) (hct : ct < 256) (hd : Rd w a d m cd) (_hm : m ≤ 1000000) (hof : 0 < m → Of w a (fam g A)) (hpt : Ptr f m) (h46 : f = 2046) :
    Calls Try.prog 11 #[.pointer (some ⟨g, 0, none⟩), .int .i64 (ct : Int), .int .i64 f, .slice a m cd] w fun e w' => ∃ R, e = .returned R ∧ TkOut w g (fam g A) s (flw s ct) [] R w' := by
  have xv := fun W => valid_any (ct : Int) 8 W
  have hp : pw 8 = 256 := rfl
  have e1 : vl (ct : Int) 8 = true := vl_iff.2 ⟨by omega, by omega, by omega, by rw [hp]; omega⟩
  rw [e1] at xv
  have xp := fun W => uperm_any f a m cd W
  rw [decide_eq_true hpt] at xp
  have xf := ufollow_uc h hok.e hlo ct hct
  have HU := Lib.hid h
  have HK := Lib.hid (And.intro hok (And.intro hd (And.intro hof hpt)))
  have hs1 := flw_ok hok ct
  obtain ⟨s1, hS1⟩ : ∃ s1, flw s ct = s1 := ⟨_, rfl⟩
  rw [hS1] at xf hs1

  rw [hS1]
  have t46 : (f == 2046) = true := by simpa using h46
  have HS := Lib.hid hs1
  clear e1 h hok hp hlo hct hd hof hpt hS1 hs1 h46

  go_enter Try.func11, Try.ntmps11
  go_wp2_with fail
  refine (uworks_uc HU.out).mono ?_
  rintro e w1 ⟨rfl, rfl⟩
  go_wp2_with fail
  refine (xv _).mono ?_
  rintro e w1 ⟨rfl, rfl⟩
  go_wp2_with fail
  refine (xp _).mono ?_
  rintro e w1 ⟨rfl, rfl⟩
  go_wp2_with fail
  refine xf.mono ?_
  rintro e w1 ⟨rfl, ⟨A1, n1, c1, u1, a1⟩, k1⟩

  have HF := Lib.hid (And.intro u1 (And.intro a1 k1))
  clear u1 a1 k1 xf xp xv
  go_wp2
  go_ret
  exact ⟨_, rfl, TkOut.none_ ⟨⟨_, _, _, HF.out.1, rfl⟩, HS.out⟩ HF.out.2.2 HF.out.2.1⟩

/-- the first bytes of a later world -/
theorem data_on (hd : Rd w a d m cd) (hof : 0 < m → Of w a (fam g A)) (k : Only [g] w w1) : Rd w1 a d m cd := by
  rcases Nat.eq_zero_or_pos m with h0 | h0
  · exact ⟨hd.len, fun hl => by have := hd.len; omega, hd.nil, hd.le, hd.max⟩
  · exact Rd.put hd k (fun x hx hm => (hof h0 x hx).1 (by rw [List.mem_singleton.1 hm]; simp [fam]))
theorem only_fam (k : Only [g] w w1) : Only (fam g A) w w1 := k.more (fun x hx => .inl (by rw [List.mem_singleton.1 hx]; simp [fam]))

set_option maxHeartbeats 2000000 in
theorem utake_grow (h : UC w g s A n c) (hok : s.Ok) (hlo : s.lo ≤ 1000000000000) (hct : ct < 256) (hd : Rd w a d m cd) (hm : m ≤ 1000000) (hof : 0 < m → Of w a (fam g A)) (hpt : Ptr f m) (h46 : f ≠ 2046) (hne : Hid ((flw s ct).rs ≠ [])) (hft : Hid (fts (flw s ct).rs f d = true)) :
    Calls Try.prog 11 #[.pointer (some ⟨g, 0, none⟩), .int .i64 (ct : Int), .int .i64 f, .slice a m cd] w fun e w' => ∃ R, e = .returned R ∧ TkOut w g (fam g A) s { flw s ct with rs := (prs ((flw s ct).rs ++ d)).2 } (prs ((flw s ct).rs ++ d)).1 R w' := by
  have xv := fun W => valid_any (ct : Int) 8 W
  have hp : pw 8 = 256 := rfl
  have e1 : vl (ct : Int) 8 = true := vl_iff.2 ⟨by omega, by omega, by omega, by rw [hp]; omega⟩
  rw [e1] at xv
  have xp := fun W => uperm_any f a m cd W
  rw [decide_eq_true hpt] at xp
  have xf := ufollow_uc h hok.e hlo ct hct
  have HU := Lib.hid h
  have HK := Lib.hid (And.intro hok (And.intro hd (And.intro hof hpt)))
  have hs1 := flw_ok hok ct
  obtain ⟨s1, hS1⟩ : ∃ s1, flw s ct = s1 := ⟨_, rfl⟩
  rw [hS1] at xf hs1

  rw [hS1] at hne hft
  have t46 : (f == 2046) = false := by simpa using h46

  rw [hS1]
  have HS := Lib.hid hs1
  clear e1 h hok hp hlo hct hd hof hpt hs1 h46

  go_enter Try.func11, Try.ntmps11
  go_wp2_with fail
  refine (uworks_uc HU.out).mono ?_
  rintro e w1 ⟨rfl, rfl⟩
  go_wp2_with fail
  refine (xv _).mono ?_
  rintro e w1 ⟨rfl, rfl⟩
  go_wp2_with fail
  refine (xp _).mono ?_
  rintro e w1 ⟨rfl, rfl⟩
  go_wp2_with fail
  refine xf.mono ?_
  rintro e w1 ⟨rfl, ⟨A1, n1, c1, u1, a1⟩, k1⟩
  have c4 := u1.u.cell 4
  have f4 := u1.u.free 4
  simp at c4
  have hgl := u1.u.lt
  have hd1 := data_on (A := A) HK.out.2.1 HK.out.2.2.1 k1
  have hn1 := u1.m.1

  have h0 : 0 < n1 := by
    rcases Nat.eq_zero_or_pos n1 with q | q
    · exact absurd (List.eq_nil_of_length_eq_zero (by omega)) hne.out
    · exact q
  have t0 : decide ((0 : Int) < (n1 : Int)) = true := by simp; omega
  have t0' : decide (0 < n1) = true := by simpa using h0
  have xx := ufits_uc u1 HS.out.r h0 f hd1 hm
  rw [hft.out] at xx
  have hrl := HS.out.r.len
  have HF := Lib.hid (And.intro u1 (And.intro a1 k1))
  have HD := Lib.hid (And.intro hd1 hn1)
  have HH := Lib.hid (And.intro hne hft)
  clear u1 a1 k1 xf xp xv hd1 hne hft hn1
  go_wp2_with fail
  refine xx.mono ?_
  rintro e w2 ⟨rfl, b2⟩
  have u2 := HF.out.1.below b2
  have d2 := HD.out.1.later b2
  have e4 := u2.u.cell 4
  have g4 := u2.u.free 4
  simp at e4
  have hdl := HD.out.1.len
  have hs2 := HF.out.2.2.size
  clear c4 f4 xx
  by_cases hm0 : m = 0
  · subst hm0
    have hrun := run_mid0 (P := Try.prog) (ty := 26) is_bytes u2.m a cd
    have hd0 : d = [] := List.eq_nil_of_length_eq_zero hdl
    have u4 := u2.setr (r := s1.rs ++ d) (by rw [hd0, List.append_nil]; exact u2.m)
    have k4 : Only (fam g A) w _ := only_fam ((HF.out.2.2.trans (Only.of_below (S := []) b2) (by simp)).trans (set_only w2 g 4 (.slice A1 n1 c1)) (fun x hx => .inl hx))
    have hLl : (s1.rs ++ d).length ≤ 10000000 := by rw [List.length_append]; omega
    have HB := Lib.hid (And.intro u4 (And.intro k4 hLl))
    clear u2 d2 b2 u4 k4 hLl hd0 hdl hs2 hrl
    go_wp2_with (at_builtin; refine Row.wpList_appendK _ rfl (.tmp 53) (.tmp 54) 26 26 rfl (.slice A1 n1 c1) (.slice a 0 cd) rfl rfl hrun ?_)
    obtain ⟨u4, k4, hLl⟩ := HB.out
    go_wp2_with fail
    refine (ucomplete_uc u4 hLl).mono ?_
    rintro e w5 ⟨R, rfl, o5⟩
    have HO := Lib.hid (And.intro u4 (And.intro o5 k4))
    clear u4 o5 k4
    go_wp2
    go_ret
    exact ⟨_, rfl, TkOut.done HO.out.2.2 (fun x hx => .inl (HF.out.2.1 x hx)) HO.out.1 HO.out.2.1 rfl rfl HS.out.e⟩
  · obtain ⟨A3, c3, w3, hrun, hmd, hon, hnew⟩ := run_mid (P := Try.prog) (ty := 26) (c2 := cd) w2 is_bytes u2.m d2.len d2.bs (by omega) (by have := HD.out.2; omega) (Nat.zero_le _)
    have q3 : Cel w3 g _ _ := u2.u.only hon u2.gr
    have i4 := q3.cell 4
    have j4 := q3.free 4
    simp at i4
    have u4 : UC (w3.setCell ⟨g, 4, none⟩ (.slice A3 (n1 + m) c3)) g { s1 with rs := s1.rs ++ d } A3 (n1 + m) c3 := by
      have k := set_only w3 g 4 (.slice A3 (n1 + m) c3)
      have hg := Md.off hmd q3 (by decide)
      exact ⟨q3.put 4 _, hmd.only k (fun x hx hm => hg (List.mem_singleton.1 hm ▸ hx))⟩
    have k4 : Only (fam g A) w (w3.setCell ⟨g, 4, none⟩ (.slice A3 (n1 + m) c3)) := by
      refine ((only_fam (HF.out.2.2.trans (Only.of_below (S := []) b2) (by simp))).trans (hon.more (T := fam g A) (fun x hx => .inl (by simp [fam, HF.out.2.1 x hx]))) (fun x hx => .inl hx)).put (p := ⟨g, 4, none⟩) (.inl (by simp [fam])) _
    have ha4 : ∀ x ∈ blkA A3, x ∈ blkA A ∨ w.heap.size ≤ x := fun x hx => by
      rcases hnew x hx with q | q
      · exact .inl (HF.out.2.1 x q)
      · exact .inr (by have := b2.size; omega)
    have hLl : (s1.rs ++ d).length ≤ 10000000 := by rw [List.length_append]; omega
    obtain ⟨M, hM⟩ : ∃ M, n1 + m = M := ⟨_, rfl⟩
    rw [hM] at u4 k4 hrun
    have HB := Lib.hid (And.intro u4 (And.intro k4 (And.intro hLl ha4)))
    clear u2 d2 b2 u4 k4 hLl hdl hs2 hrl hmd hon hnew q3 ha4 hM
    go_wp2_with (at_builtin; refine Row.wpList_appendK _ rfl (.tmp 53) (.tmp 54) 26 26 rfl (.slice A1 n1 c1) (.slice a m cd) rfl rfl hrun ?_)
    obtain ⟨u4, k4, hLl, ha4⟩ := HB.out
    go_wp2_with fail
    refine (ucomplete_uc u4 hLl).mono ?_
    rintro e w5 ⟨R, rfl, o5⟩
    have HO := Lib.hid (And.intro u4 (And.intro o5 k4))
    clear u4 o5 k4
    go_wp2
    go_ret
    exact ⟨_, rfl, TkOut.done HO.out.2.2 ha4 HO.out.1 HO.out.2.1 rfl rfl HS.out.e⟩

set_option maxHeartbeats 2000000 in
theorem utake_none (h : UC w g s A n c) (hok : s.Ok) (hlo : s.lo ≤ 1000000000000) (hct : ct < 256) (hd : Rd w a d m cd) (hm : m ≤ 1000000) (hof : 0 < m → Of w a (fam g A)) (hpt : Ptr f m) (h46 : f = 2047) (hft : Hid ((flw s ct).rs ≠ [] → fts (flw s ct).rs f d = false)) :
    Calls Try.prog 11 #[.pointer (some ⟨g, 0, none⟩), .int .i64 (ct : Int), .int .i64 f, .slice a m cd] w fun e w' => ∃ R, e = .returned R ∧ TkOut w g (fam g A) s { flw s ct with rs := (prs []).2 } (prs []).1 R w' := by
  have xv := fun W => valid_any (ct : Int) 8 W
  have hp : pw 8 = 256 := rfl
  have e1 : vl (ct : Int) 8 = true := vl_iff.2 ⟨by omega, by omega, by omega, by rw [hp]; omega⟩
  rw [e1] at xv
  have xp := fun W => uperm_any f a m cd W
  rw [decide_eq_true hpt] at xp
  have xf := ufollow_uc h hok.e hlo ct hct
  have HU := Lib.hid h
  have HK := Lib.hid (And.intro hok (And.intro hd (And.intro hof hpt)))
  have hs1 := flw_ok hok ct
  obtain ⟨s1, hS1⟩ : ∃ s1, flw s ct = s1 := ⟨_, rfl⟩
  rw [hS1] at xf hs1

  rw [hS1] at hft
  have t46 : (f == 2046) = false := by simp; omega
  have t47 : (f == 2047) = true := by simpa using h46

  rw [hS1]
  have HS := Lib.hid hs1
  clear e1 h hok hp hlo hct hd hof hpt hs1 h46

  go_enter Try.func11, Try.ntmps11
  go_wp2_with fail
  refine (uworks_uc HU.out).mono ?_
  rintro e w1 ⟨rfl, rfl⟩
  go_wp2_with fail
  refine (xv _).mono ?_
  rintro e w1 ⟨rfl, rfl⟩
  go_wp2_with fail
  refine (xp _).mono ?_
  rintro e w1 ⟨rfl, rfl⟩
  go_wp2_with fail
  refine xf.mono ?_
  rintro e w1 ⟨rfl, ⟨A1, n1, c1, u1, a1⟩, k1⟩
  have c4 := u1.u.cell 4
  have f4 := u1.u.free 4
  simp at c4
  have hgl := u1.u.lt
  have hd1 := data_on (A := A) HK.out.2.1 HK.out.2.2.1 k1
  have hn1 := u1.m.1

  rcases Nat.eq_zero_or_pos n1 with q | q
  · have t0 : decide ((0 : Int) < (n1 : Int)) = false := by simp; omega
    have t0' : decide (0 < n1) = false := by simp; omega
    have HF := Lib.hid (And.intro u1 (And.intro a1 k1))
    have HD := Lib.hid hd1
    clear u1 a1 k1 xf xp xv hd1 hft hn1 q
    have u2 := HF.out.1.below (Below.refl w1.heap.size w1)
    have e4 := u2.u.cell 4
    have g4 := u2.u.free 4
    simp at e4
    have u4 := u2.setr (r := []) (Md.nil_ w1 0 5)
    have k4 : Only (fam g A) w _ := only_fam ((HF.out.2.2.trans (Only.of_below (S := []) (Below.refl w1.heap.size w1)) (by simp)).trans (set_only w1 g 4 (.slice none 0 0)) (fun x hx => .inl hx))
    have HB := Lib.hid (And.intro u4 k4)
    clear u2 u4 k4
    have hLl : ([] : List Byte).length ≤ 10000000 := by simp
    have x4 := ucomplete_uc HB.out.1 hLl
    go_wp2_with fail
    refine x4.mono ?_
    clear x4
    rintro e w5 ⟨R, rfl, o5⟩
    have HO := Lib.hid o5
    clear o5
    go_wp2
    go_ret
    exact ⟨_, rfl, TkOut.done (A3 := none) HB.out.2 (fun x hx => nomatch hx) HB.out.1 HO.out rfl rfl HS.out.e⟩
  · have t0 : decide ((0 : Int) < (n1 : Int)) = true := by simp; omega
    have t0' : decide (0 < n1) = true := by simpa using q
    have hne : s1.rs ≠ [] := fun k => by rw [k] at hn1; simp at hn1; omega
    have xx := ufits_uc u1 HS.out.r q f hd1 hm
    rw [hft.out hne] at xx
    have HF := Lib.hid (And.intro u1 (And.intro a1 k1))
    have HD := Lib.hid hd1
    clear u1 a1 k1 xf xp xv hd1 hft hn1 q hne
    go_wp2_with fail
    refine xx.mono ?_
    rintro e w2 ⟨rfl, b2⟩
    have HB2 := Lib.hid b2
    clear b2 c4 f4 xx
    have u2 := HF.out.1.below HB2.out
    have e4 := u2.u.cell 4
    have g4 := u2.u.free 4
    simp at e4
    have u4 := u2.setr (r := []) (Md.nil_ w2 0 5)
    have k4 : Only (fam g A) w _ := only_fam ((HF.out.2.2.trans (Only.of_below (S := []) HB2.out) (by simp)).trans (set_only w2 g 4 (.slice none 0 0)) (fun x hx => .inl hx))
    have HB := Lib.hid (And.intro u4 k4)
    clear u2 u4 k4
    have hLl : ([] : List Byte).length ≤ 10000000 := by simp
    have x4 := ucomplete_uc HB.out.1 hLl
    go_wp2_with fail
    refine x4.mono ?_
    clear x4
    rintro e w5 ⟨R, rfl, o5⟩
    have HO := Lib.hid o5
    clear o5
    go_wp2
    go_ret
    exact ⟨_, rfl, TkOut.done (A3 := none) HB.out.2 (fun x hx => nomatch hx) HB.out.1 HO.out rfl rfl HS.out.e⟩

set_option maxHeartbeats 2000000 in
theorem utake_begin {fn : Nat} (h : UC w g s A n c) (hok : s.Ok) (hlo : s.lo ≤ 1000000000000) (hct : ct < 256) (hd : Rd w a d m cd) (hm : m ≤ 1000000) (hof : 0 < m → Of w a (fam g A)) (hpt : Ptr f m) (h46 : f = (fn : Int) ∧ fn < m ∧ fn ≠ 2046 ∧ fn ≠ 2047) (hft : Hid ((flw s ct).rs ≠ [] → fts (flw s ct).rs f d = false)) :
    Calls Try.prog 11 #[.pointer (some ⟨g, 0, none⟩), .int .i64 (ct : Int), .int .i64 f, .slice a m cd] w fun e w' => ∃ R, e = .returned R ∧ TkOut w g (fam g A) s { flw s ct with rs := (prs (d.drop fn)).2 } (prs (d.drop fn)).1 R w' := by
  have xv := fun W => valid_any (ct : Int) 8 W
  have hp : pw 8 = 256 := rfl
  have e1 : vl (ct : Int) 8 = true := vl_iff.2 ⟨by omega, by omega, by omega, by rw [hp]; omega⟩
  rw [e1] at xv
  have xp := fun W => uperm_any f a m cd W
  rw [decide_eq_true hpt] at xp
  have xf := ufollow_uc h hok.e hlo ct hct
  have HU := Lib.hid h
  have HK := Lib.hid (And.intro hok (And.intro hd (And.intro hof hpt)))
  have hs1 := flw_ok hok ct
  obtain ⟨s1, hS1⟩ : ∃ s1, flw s ct = s1 := ⟨_, rfl⟩
  rw [hS1] at xf hs1

  rw [hS1] at hft
  obtain ⟨rfl, hfm, h6, h7⟩ := h46
  have t46 : ((fn : Int) == 2046) = false := by simp; omega
  have t47 : ((fn : Int) == 2047) = false := by simp; omega

  rw [hS1]
  have HS := Lib.hid hs1
  clear e1 h hok hp hlo hct hd hof hpt hs1 h6 h7

  go_enter Try.func11, Try.ntmps11
  go_wp2_with fail
  refine (uworks_uc HU.out).mono ?_
  rintro e w1 ⟨rfl, rfl⟩
  go_wp2_with fail
  refine (xv _).mono ?_
  rintro e w1 ⟨rfl, rfl⟩
  go_wp2_with fail
  refine (xp _).mono ?_
  rintro e w1 ⟨rfl, rfl⟩
  go_wp2_with fail
  refine xf.mono ?_
  rintro e w1 ⟨rfl, ⟨A1, n1, c1, u1, a1⟩, k1⟩
  have c4 := u1.u.cell 4
  have f4 := u1.u.free 4
  simp at c4
  have hgl := u1.u.lt
  have hd1 := data_on (A := A) HK.out.2.1 HK.out.2.2.1 k1
  have hn1 := u1.m.1

  rcases Nat.eq_zero_or_pos n1 with q | q
  · have t0 : decide ((0 : Int) < (n1 : Int)) = false := by simp; omega
    have t0' : decide (0 < n1) = false := by simp; omega
    have HF := Lib.hid (And.intro u1 (And.intro a1 k1))
    have HD := Lib.hid hd1
    clear u1 a1 k1 xf xp xv hd1 hft hn1 q
    have d2 := HD.out.later (Below.refl w1.heap.size w1)
    have dd := d2.drop (k := fn) (by omega)
    obtain ⟨ad, had⟩ : ∃ ad, (if cd = fn then a else Option.map (fun x => x.add fn) a) = ad := ⟨_, rfl⟩
    obtain ⟨md, hmd⟩ : ∃ md, m - fn = md := ⟨_, rfl⟩
    obtain ⟨ed, hed⟩ : ∃ ed, cd - fn = ed := ⟨_, rfl⟩
    rw [had, hmd, hed] at dd
    have hcd := d2.le
    have xc := clone_any ad (d.drop fn) md ed w1 (Lib.hid dd.len) dd.bs dd.nil (by omega)
    have hLd : (d.drop fn).length = md := dd.len
    have s1_ : (fn : Int) ≤ (cd : Int) := by omega
    have s2_ : fn ≤ cd := by omega
    have s3_ : (fn : Int) ≤ (m : Int) := by omega
    have s4_ : fn ≤ m := by omega
    have HL := Lib.hid (And.intro hLd hm)
    have HE := Lib.hid hmd
    clear d2 dd hcd hLd
    go_wp2_with fail
    refine xc.mono ?_
    rintro e w3 ⟨v3, rfl, o3, b3⟩
    obtain ⟨A3, c3, rfl, _⟩ := o3.reads_len HL.out.1
    have b13 := ((Below.refl w1.heap.size w1)).trans (b3.mono ((Below.refl w1.heap.size w1)).size)
    have u3 := HF.out.1.below b13
    have e4 := u3.u.cell 4
    have g4 := u3.u.free 4
    simp at e4
    have hm3 := (Md.of o3 HL.out.1).more (Nat.zero_le _)
    have u4 := u3.setr hm3
    have k4 : Only (fam g A) w _ := only_fam ((HF.out.2.2.trans (Only.of_below (S := []) b13) (by simp)).trans (set_only w3 g 4 (.slice A3 md c3)) (fun x hx => .inl hx))
    have ha4 : ∀ x ∈ blkA A3, x ∈ blkA A ∨ w.heap.size ≤ x := fun x hx => .inr (by
      rw [blkA_own A3 md c3] at hx
      have h1 := (o3.lt x (by simpa using hx)).1
      have h2 := HF.out.2.2.size
      have h3 := ((Below.refl w1.heap.size w1)).size
      omega)
    have HB := Lib.hid (And.intro u4 (And.intro k4 ha4))
    clear u3 u4 k4 ha4 hm3 b3 b13 o3 xc
    have hLl : (d.drop fn).length ≤ 10000000 := by have := HL.out.1; have := HL.out.2; have := HE.out; omega
    have x4 := ucomplete_uc HB.out.1 hLl
    clear hLl
    go_wp2_with fail
    refine x4.mono ?_
    clear x4
    rintro e w5 ⟨R, rfl, o5⟩
    have HO := Lib.hid o5
    clear o5
    go_wp2
    go_ret
    exact ⟨_, rfl, TkOut.done HB.out.2.1 HB.out.2.2 HB.out.1 HO.out rfl rfl HS.out.e⟩
  · have t0 : decide ((0 : Int) < (n1 : Int)) = true := by simp; omega
    have t0' : decide (0 < n1) = true := by simpa using q
    have hne : s1.rs ≠ [] := fun k => by rw [k] at hn1; simp at hn1; omega
    have xx := ufits_uc u1 HS.out.r q (fn : Int) hd1 hm
    rw [hft.out hne] at xx
    have HF := Lib.hid (And.intro u1 (And.intro a1 k1))
    have HD := Lib.hid hd1
    clear u1 a1 k1 xf xp xv hd1 hft hn1 q hne
    go_wp2_with fail
    refine xx.mono ?_
    rintro e w2 ⟨rfl, b2⟩
    have HB2 := Lib.hid b2
    clear b2 c4 f4 xx
    have d2 := HD.out.later HB2.out
    have dd := d2.drop (k := fn) (by omega)
    obtain ⟨ad, had⟩ : ∃ ad, (if cd = fn then a else Option.map (fun x => x.add fn) a) = ad := ⟨_, rfl⟩
    obtain ⟨md, hmd⟩ : ∃ md, m - fn = md := ⟨_, rfl⟩
    obtain ⟨ed, hed⟩ : ∃ ed, cd - fn = ed := ⟨_, rfl⟩
    rw [had, hmd, hed] at dd
    have hcd := d2.le
    have xc := clone_any ad (d.drop fn) md ed w2 (Lib.hid dd.len) dd.bs dd.nil (by omega)
    have hLd : (d.drop fn).length = md := dd.len
    have s1_ : (fn : Int) ≤ (cd : Int) := by omega
    have s2_ : fn ≤ cd := by omega
    have s3_ : (fn : Int) ≤ (m : Int) := by omega
    have s4_ : fn ≤ m := by omega
    have HL := Lib.hid (And.intro hLd hm)
    have HE := Lib.hid hmd
    clear d2 dd hcd hLd
    go_wp2_with fail
    refine xc.mono ?_
    rintro e w3 ⟨v3, rfl, o3, b3⟩
    obtain ⟨A3, c3, rfl, _⟩ := o3.reads_len HL.out.1
    have b13 := (HB2.out).trans (b3.mono (HB2.out).size)
    have u3 := HF.out.1.below b13
    have e4 := u3.u.cell 4
    have g4 := u3.u.free 4
    simp at e4
    have hm3 := (Md.of o3 HL.out.1).more (Nat.zero_le _)
    have u4 := u3.setr hm3
    have k4 : Only (fam g A) w _ := only_fam ((HF.out.2.2.trans (Only.of_below (S := []) b13) (by simp)).trans (set_only w3 g 4 (.slice A3 md c3)) (fun x hx => .inl hx))
    have ha4 : ∀ x ∈ blkA A3, x ∈ blkA A ∨ w.heap.size ≤ x := fun x hx => .inr (by
      rw [blkA_own A3 md c3] at hx
      have h1 := (o3.lt x (by simpa using hx)).1
      have h2 := HF.out.2.2.size
      have h3 := (HB2.out).size
      omega)
    have HB := Lib.hid (And.intro u4 (And.intro k4 ha4))
    clear u3 u4 k4 ha4 hm3 b3 b13 o3 xc
    have hLl : (d.drop fn).length ≤ 10000000 := by have := HL.out.1; have := HL.out.2; have := HE.out; omega
    have x4 := ucomplete_uc HB.out.1 hLl
    clear hLl
    go_wp2_with fail
    refine x4.mono ?_
    clear x4
    rintro e w5 ⟨R, rfl, o5⟩
    have HO := Lib.hid o5
    clear o5
    go_wp2
    go_ret
    exact ⟨_, rfl, TkOut.done HB.out.2.1 HB.out.2.2 HB.out.1 HO.out rfl rfl HS.out.e⟩


theorem stm_grow {r : List Byte} (h : r ≠ []) (h2 : fts r f d = true) : stm r f d = r ++ d := by unfold stm; rw [if_pos ⟨h, h2⟩]
theorem stm_none {r : List Byte} (h : ¬ (r ≠ [] ∧ fts r f d = true)) (h2 : f = 2047) : stm r f d = [] := by unfold stm; rw [if_neg h, if_pos h2]
theorem stm_begin {r : List Byte} (h : ¬ (r ≠ [] ∧ fts r f d = true)) (h2 : f ≠ 2047) : stm r f d = d.drop f.toNat := by unfold stm; rw [if_neg h, if_neg h2]
/-- Take -/
theorem utake_any (h : UW w g F s) (hlo : s.lo ≤ 1000000000000) (hd : Rd w a d m cd) (hm : m ≤ 1000000) (hof : 0 < m → Of w a F) (ct f : Int) :
    Calls Try.prog 11 #[.pointer (some ⟨g, 0, none⟩), .int .i64 ct, .int .i64 f, .slice a m cd] w fun e w' => ∃ R, e = .returned R ∧ TkOut w g F s (tkS s ct f d) (tkO s ct f d) R w' := by
  obtain ⟨⟨A, n, c, hc, rfl⟩, hok⟩ := h
  by_cases hA : Arg ct f d
  · obtain ⟨⟨q1, q2⟩, q3⟩ := (Ptr_arg hd.len).1 hA
    obtain ⟨C, rfl⟩ : ∃ C : Nat, ct = (C : Int) := ⟨ct.toNat, by omega⟩
    have e1 : tkS s (C : Int) f d = if f = 2046 then flw s C else { flw s C with rs := (prs (stm (flw s C).rs f d)).2 } := by unfold tkS; rw [if_pos hA]; rfl
    have e2 : tkO s (C : Int) f d = if f = 2046 then [] else (prs (stm (flw s C).rs f d)).1 := by unfold tkO; rw [if_pos hA]; rfl
    rw [e1, e2]
    by_cases h46 : f = 2046
    · rw [if_pos h46, if_pos h46]
      exact utake_idle hc hok hlo (by omega) hd hm hof q3 h46
    · rw [if_neg h46, if_neg h46]
      by_cases hg : (flw s C).rs ≠ [] ∧ fts (flw s C).rs f d = true
      · rw [stm_grow hg.1 hg.2]
        exact utake_grow hc hok hlo (by omega) hd hm hof q3 h46 (Lib.hid hg.1) (Lib.hid hg.2)
      · have hg2 : (flw s C).rs ≠ [] → fts (flw s C).rs f d = false := fun k => by
          cases e : fts (flw s C).rs f d with
          | false => rfl
          | true => exact absurd ⟨k, e⟩ hg
        by_cases h47 : f = 2047
        · rw [stm_none hg h47]
          exact utake_none hc hok hlo (by omega) hd hm hof q3 h47 (Lib.hid hg2)
        · rw [stm_begin hg h47]
          have q4 : 0 ≤ f ∧ f < (m : Int) := by unfold Ptr at q3; omega
          obtain ⟨fn, rfl⟩ : ∃ fn : Nat, f = (fn : Int) := ⟨f.toNat, by omega⟩
          exact utake_begin hc hok hlo (by omega) hd hm hof q3 ⟨rfl, by omega, by omega, by omega⟩ (Lib.hid hg2)
  · have e1 : tkS s ct f d = s := by unfold tkS; rw [if_neg hA]
    have e2 : tkO s ct f d = [] := by unfold tkO; rw [if_neg hA]
    rw [e1, e2]
    exact utake_bad hc hok hd.len hA
set_option maxHeartbeats 400000 in
theorem utake_dead (w : World) (p : Option Addr) (h : Dead w p) (ct f : Int) (a : Option Addr) (m cd : Nat) : Calls Try.prog 11 #[.pointer p, .int .i64 ct, .int .i64 f, .slice a m cd] w fun e w' => e = .returned (.slice none 0 0) ∧ w = w' := by
  go_enter Try.func11, Try.ntmps11
  go_wp2_with fail
  refine (uworks_dead _ _ h).mono ?_
  rintro e w1 ⟨rfl, rfl⟩
  go_wp2
  go_ret
  exact ⟨rfl, rfl⟩
end
end Go.Proofs.Ytcmonalnhdodmaa.Unp
