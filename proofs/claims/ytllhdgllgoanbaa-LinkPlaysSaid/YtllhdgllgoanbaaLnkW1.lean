/-
  Package link: valid, New, works, advance, Sent, Pending; what is nil or a zero value.
-/
import Derived.Deep.QuietTactic
import Derived.BigQuiet
import Derived.BigRegion
import Derived.Test.YtllhdgllgoanbaaLnkW0
namespace Go.Proofs.Ytllhdgllgoanbaa.Lnk
open Go.RowKit Go.Proofs.Ytllhdgllgoanbaa.Row
open Rng (R)

section
variable {c : Cf} {Ao Al Af : Option Addr} {no co nl cl nf cf : Nat} {w : World}
set_option maxHeartbeats 2000000 in
theorem valid_any (h : Cg w c Ao no co Al nl cl Af nf cf) (m2 : nl ≤ 1000000) (m3 : nf ≤ 1000000) :
    Calls Try.prog 19 #[.agg #[I c.dl, .slice Ao no co, .slice Al nl cl, .slice Af nf cf]] w fun e w' => e = .returned (.bool c.ok) ∧ Below w.heap.size w w' := by
  obtain ⟨dl, ot, lo, fl⟩ := c
  have b1 := bel_new w (.cells #[I dl, .slice Ao no co, .slice Al nl cl, .slice Af nf cf] 26)
  have g1 := h.below b1
  have k1 := icon_any lo nl _ Al cl (Lib.hid g1.l.len) g1.l.r m2
  have k2 := fun W (hb : Below w.heap.size w W) => fcon_any fl nf W Af cf (Lib.hid (h.below hb).f.len) (h.below hb).f.r m3
  obtain ⟨E, hE⟩ : ∃ E, Cf.ok ⟨dl, ot, lo, fl⟩ = E := ⟨_, rfl⟩
  rw [hE]
  unfold Cf.ok at hE
  simp only at hE k1 k2
  clear h g1
  by_cases h1 : 0 ≤ dl
  · have t1 := decide_eq_true h1
    rw [t1, Bool.true_and] at hE
    by_cases h2 : dl ≤ 1099511627776
    · have t2 := decide_eq_true h2
      rw [t2, Bool.true_and] at hE
      cases hlo : loN lo with
      | true =>
        rw [hlo] at hE k1
        simp only [Bool.not_true, Bool.false_and] at hE
        subst hE
        clear h1 h2 hlo k2
        go_enter Try.func19, Try.ntmps19
        go_wp2_with (first
          | (go_at_call 34; refine k1.mono ?_; rintro e w2 ⟨rfl, b2⟩; have b2' := b1.trans (b2.mono b1.size)))
        go_ret
        exact ⟨rfl, b2'⟩
      | false =>
        rw [hlo] at hE k1
        simp only [Bool.not_false, Bool.true_and] at hE
        cases hfl : flN fl with
        | true =>
          rw [hfl] at hE k2
          simp only [Bool.not_true] at hE
          subst hE
          clear h1 h2 hlo hfl
          have C0 := Cel.new w 26 #[I dl, .slice Ao no co, .slice Al nl cl, .slice Af nf cf]
          go_enter Try.func19, Try.ntmps19
          go_wp2_with (first
            | (go_at_call 34; refine k1.mono ?_; rintro e w2 ⟨rfl, b2⟩; have b2' := b1.trans (b2.mono b1.size); have c3 := (Cel.on C0 b2).cell 3; simp at c3)
            | (go_at_call 36; refine (k2 _ b2').mono ?_; rintro e w3 ⟨rfl, b3⟩; have b3' := b2'.trans (b3.mono b2'.size)))
          go_ret
          exact ⟨rfl, b3'⟩
        | false =>
          rw [hfl] at hE k2
          simp only [Bool.not_false] at hE
          subst hE
          clear h1 h2 hlo hfl
          have C0 := Cel.new w 26 #[I dl, .slice Ao no co, .slice Al nl cl, .slice Af nf cf]
          go_enter Try.func19, Try.ntmps19
          go_wp2_with (first
            | (go_at_call 34; refine k1.mono ?_; rintro e w2 ⟨rfl, b2⟩; have b2' := b1.trans (b2.mono b1.size); have c3 := (Cel.on C0 b2).cell 3; simp at c3)
            | (go_at_call 36; refine (k2 _ b2').mono ?_; rintro e w3 ⟨rfl, b3⟩; have b3' := b2'.trans (b3.mono b2'.size)))
          go_ret
          exact ⟨rfl, b3'⟩
    · have t2 := decide_eq_false h2
      rw [t2, Bool.false_and, Bool.false_and] at hE
      subst hE
      clear h1 h2 k1 k2
      go_enter Try.func19, Try.ntmps19
      go_wp2
      go_ret
      exact ⟨rfl, b1⟩
  · have t1 := decide_eq_false h1
    rw [t1, Bool.false_and, Bool.false_and, Bool.false_and] at hE
    subst hE
    clear h1 k1 k2
    go_enter Try.func19, Try.ntmps19
    go_wp2
    go_ret
    exact ⟨rfl, b1⟩

set_option maxHeartbeats 2000000 in
theorem new_bad (h : Cg w c Ao no co Al nl cl Af nf cf) (m2 : nl ≤ 1000000) (m3 : nf ≤ 1000000) (hk : c.ok = false) :
    Calls Try.prog 9 #[.agg #[I c.dl, .slice Ao no co, .slice Al nl cl, .slice Af nf cf]] w fun e w' => e = .returned (.tuple #[.pointer none, .int .i64 1]) ∧ Below w.heap.size w w' := by
  have b1 := bel_new w (.cells #[I c.dl, .slice Ao no co, .slice Al nl cl, .slice Af nf cf] 26)
  have k1 := valid_any (h.below b1) m2 m3
  rw [hk] at k1
  clear h hk
  obtain ⟨dl, ot, lo, fl⟩ := c
  simp only at b1 k1 ⊢
  go_enter Try.func9, Try.ntmps9
  go_wp2_with fail
  refine k1.mono ?_
  rintro e w2 ⟨rfl, b2⟩
  go_wp2
  go_ret2
  exact ⟨rfl, b1.trans (b2.mono b1.size)⟩

set_option maxHeartbeats 4000000 in
theorem new_ok (h : Cg w c Ao no co Al nl cl Af nf cf) (m1 : no ≤ 1000000) (m2 : nl ≤ 1000000) (m3 : nf ≤ 1000000) (hk : c.ok = true) :
    Calls Try.prog 9 #[.agg #[I c.dl, .slice Ao no co, .slice Al nl cl, .slice Af nf cf]] w fun e w' => ∃ g, e = .returned (.tuple #[.pointer (some ⟨g, 0, none⟩), .int .i64 0]) ∧ w.heap.size ≤ g ∧ LW w' w.heap.size g none c s0 ∧ Below w.heap.size w w' := by
  have b1 := bel_new w (.cells #[I c.dl, .slice Ao no co, .slice Al nl cl, .slice Af nf cf] 26)
  have C1 := Cel.new w 26 #[I c.dl, .slice Ao no co, .slice Al nl cl, .slice Af nf cf]
  have k1 := valid_any (h.below b1) m2 m3
  rw [hk] at k1
  have HK := Lib.hid hk
  have H0 := Lib.hid h
  clear hk h
  obtain ⟨dl, ot, lo, fl⟩ := c
  simp only at b1 C1 k1 HK H0 ⊢
  obtain ⟨w1, hw1⟩ : ∃ w1, w1 = w.alloc (.cells #[I dl, .slice Ao no co, .slice Al nl cl, .slice Af nf cf] 26) := ⟨_, rfl⟩
  rw [← hw1] at b1 C1 k1
  go_enter Try.func9, Try.ntmps9
  go_wp2_with fail
  rw [← hw1]
  clear hw1
  refine k1.mono ?_
  rintro e w2 ⟨rfl, b2⟩
  have b2' := b1.trans (b2.mono b1.size)
  have C2 := Cel.on C1 b2
  have d1 := C2.cell 1
  simp at d1
  clear k1 b1 C1 b2
  go_wp2_with fail
  refine (rclone_any ot no w2 Ao co (H0.out.below b2').o m1).mono ?_
  rintro e w3 ⟨v3, rfl, o3, b3⟩
  obtain ⟨A3, p3, rfl, q3⟩ := Sq.own encR_ok o3 (by decide) (H0.out.below b2').o.len
  have b3' := b2'.trans (b3.mono b2'.size)
  have X3 := Cel.on C2 b3
  have f3 := X3.free 1
  have e3 := X3.cell 1
  simp at e3
  have u3 : Only [w.heap.size] w3 (w3.setCell ⟨w.heap.size, 1, none⟩ (.slice A3 no p3)) := (Only.refl _ _).put (.inl (by simp)) _
  have Q3 := Lib.hid (q3.keep (.of_only u3 (fun x hx => by rw [List.mem_singleton.1 hx]; exact not_fx X3 (by decide))))
  have B3 := b3'.trans (u3.below b3'.size (by simp))
  have C3 := X3.put 1 (.slice A3 no p3)
  have d2 := C3.cell 2
  simp at d2
  obtain ⟨w4, hw4⟩ : ∃ w4, w4 = w3.setCell ⟨w.heap.size, 1, none⟩ (.slice A3 no p3) := ⟨_, rfl⟩
  rw [← hw4] at B3 C3 Q3
  clear d1 C2 b2' o3 b3 q3 b3' u3 X3
  go_wp2_with fail
  rw [← hw4]
  clear hw4 f3 e3
  refine (iclone_any lo nl w4 Al cl (H0.out.below B3).l m2).mono ?_
  rintro e w5 ⟨v5, rfl, o5, b5⟩
  obtain ⟨A5, p5, rfl, q5⟩ := Sq.own encI_ok o5 (by decide) (H0.out.below B3).l.len
  have b5' := B3.trans (b5.mono B3.size)
  have X5 := Cel.on C3 b5
  have f5 := X5.free 2
  have e5 := X5.cell 2
  simp at e5
  have u5 : Only [w.heap.size] w5 (w5.setCell ⟨w.heap.size, 2, none⟩ (.slice A5 nl p5)) := (Only.refl _ _).put (.inl (by simp)) _
  have K5 : Kq w5 (w5.setCell ⟨w.heap.size, 2, none⟩ (.slice A5 nl p5)) := .of_only u5 (fun x hx => by rw [List.mem_singleton.1 hx]; exact not_fx X5 (by decide))
  have Q5 := Lib.hid (And.intro (Q3.out.keep ((Kq.of_below b5).trans K5)) (q5.keep K5))
  have B5 := b5'.trans (u5.below b5'.size (by simp))
  have C5 := X5.put 2 (.slice A5 nl p5)
  have d3 := C5.cell 3
  simp at d3
  obtain ⟨w6, hw6⟩ : ∃ w6, w6 = w5.setCell ⟨w.heap.size, 2, none⟩ (.slice A5 nl p5) := ⟨_, rfl⟩
  rw [← hw6] at B5 C5 Q5
  clear d2 C3 Q3 B3 o5 b5 q5 b5' u5 X5 K5
  go_wp2_with fail
  rw [← hw6]
  clear hw6 f5 e5
  refine (fclone_any fl nf w6 Af cf (H0.out.below B5).f m3).mono ?_
  rintro e w7 ⟨v7, rfl, o7, b7⟩
  obtain ⟨A7, p7, rfl, q7⟩ := Sq.own encR_ok o7 (by decide) (H0.out.below B5).f.len
  have b7' := B5.trans (b7.mono B5.size)
  have X7 := Cel.on C5 b7
  have f7 := X7.free 3
  have e7 := X7.cell 3
  simp at e7
  have u7 : Only [w.heap.size] w7 (w7.setCell ⟨w.heap.size, 3, none⟩ (.slice A7 nf p7)) := (Only.refl _ _).put (.inl (by simp)) _
  have K7 : Kq w7 (w7.setCell ⟨w.heap.size, 3, none⟩ (.slice A7 nf p7)) := .of_only u7 (fun x hx => by rw [List.mem_singleton.1 hx]; exact not_fx X7 (by decide))
  have Q7 := Lib.hid (And.intro (Q5.out.1.keep ((Kq.of_below b7).trans K7)) (And.intro (Q5.out.2.keep ((Kq.of_below b7).trans K7)) (q7.keep K7)))
  have B7 := b7'.trans (u7.below b7'.size (by simp))
  have C7 := X7.put 3 (.slice A7 nf p7)
  have g0 := X7.cell 0
  have g1 := X7.cell 1
  have g2 := X7.cell 2
  simp at g0 g1 g2
  obtain ⟨w8, hw8⟩ : ∃ w8, w8 = w7.setCell ⟨w.heap.size, 3, none⟩ (.slice A7 nf p7) := ⟨_, rfl⟩
  rw [← hw8] at B7 C7 Q7
  have HB := Lib.hid B7
  have K9 := Kq.of_below (bel_new w8 (.cells #[.bool true, I dl, .slice A3 no p3, .slice A5 nl p5, .slice A7 nf p7, I 0, I 0, .slice none 0 0] 61))
  have HL := Lib.hid (show LW (w8.alloc (.cells #[.bool true, I dl, .slice A3 no p3, .slice A5 nl p5, .slice A7 nf p7, I 0, I 0, .slice none 0 0] 61)) w.heap.size w8.heap.size none ⟨dl, ot, lo, fl⟩ s0 from
    ⟨_, [], A3, no, p3, A5, nl, p5, A7, nf, p7, ⟨Cel.new _ _ _, ⟨Q7.out.1.keep K9, Q7.out.2.1.keep K9, Q7.out.2.2.keep K9⟩, Row.Os.nil_ _ _ _, rfl, (fun t ht => nomatch ht), HK.out⟩, rfl⟩)
  have hsz : w8.heap.size = w7.heap.size := by rw [hw8]; simp
  have HW := Lib.hid hw8
  have HS := Lib.hid hsz
  clear d3 C5 Q5 B5 o7 b7 q7 b7' u7 X7 K7 B7 C7 Q7 K9 hw8 hsz
  go_wp2_with fail
  go_ret2
  refine ⟨_, rfl, ?_, ?_, ?_⟩
  · rw [← HS.out]; exact HB.out.size
  · rw [← HW.out, ← HS.out]; exact HL.out
  · rw [← HW.out]; exact HB.out.trans ((bel_new _ _).mono HB.out.size)
end
end Go.Proofs.Ytllhdgllgoanbaa.Lnk
