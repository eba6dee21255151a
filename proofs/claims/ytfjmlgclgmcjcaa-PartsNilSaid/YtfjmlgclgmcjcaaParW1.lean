/-
  The walk of package parts' join.
-/
import Derived.Test.YtfjmlgclgmcjcaaParW0
namespace Go.Proofs.Ytfjmlgclgmcjcaa.Par
open Go.RowKit Go.Proofs.Ytfjmlgclgmcjcaa.Row
open Pac (Pk bel_new Cel.later Cel.within)

theorem Ow_nil (w : World) (base : Nat) (e : TypeId) : Ow w base e (.slice none 0 0) [] := World.ownsRow_nil _ _ _ _

section
variable {s : JS} {p : Pk}
theorem jn_form (h : cnt p = true) (h2 : awt s p = false) : jnE s p = 4 ∧ jnM s p = [] := by
  have : jnE s p = 4 := by unfold jnE; rw [h, h2]; rfl
  exact ⟨this, by unfold jnM; rw [this]; rfl⟩
theorem jn_cont_long (h : cnt p = true) (h2 : awt s p = true) (h3 : s.most - (s.msg.length : Int) < (p.d.length : Int)) : jnE s p = 6 ∧ jnM s p = [] := by
  have : jnE s p = 6 := by unfold jnE bef; rw [h, h2, if_neg (by simp), if_pos rfl, if_pos h3]
  exact ⟨this, by unfold jnM; rw [this]; rfl⟩
theorem jn_cont (h : cnt p = true) (h2 : awt s p = true) (h3 : ¬ s.most - (s.msg.length : Int) < (p.d.length : Int)) : jnE s p = 0 ∧ jnM s p = s.msg ++ p.d := by
  have : jnE s p = 0 := by unfold jnE bef; rw [h, h2, if_neg (by simp), if_pos rfl, if_neg h3]
  exact ⟨this, by unfold jnM bef; rw [this, if_pos rfl, if_pos h]⟩
theorem jn_new_long (h : cnt p = false) (h3 : s.most < (p.d.length : Int)) : jnE s p = 6 ∧ jnM s p = [] := by
  have : jnE s p = 6 := by
    unfold jnE bef
    rw [h]
    simp only [Bool.false_and, Bool.false_eq_true, if_false, List.length_nil, Int.natCast_zero, Int.sub_zero]
    rw [if_pos h3]
  exact ⟨this, by unfold jnM; rw [this]; rfl⟩
theorem jn_new (h : cnt p = false) (h3 : ¬ s.most < (p.d.length : Int)) : jnE s p = 0 ∧ jnM s p = p.d := by
  have : jnE s p = 0 := by
    unfold jnE bef
    rw [h]
    simp only [Bool.false_and, Bool.false_eq_true, if_false, List.length_nil, Int.natCast_zero, Int.sub_zero]
    rw [if_neg h3]
  exact ⟨this, by unfold jnM bef; rw [this, h]; simp⟩
end

set_option maxHeartbeats 2000000 in
theorem join_form (w : World) (g : Nat) (v : Value) (s : JS) (com sec : Bool) (ap fl ct : Int) (d : List Byte) (a : Option Addr) (n c : Nat) (h : Jo w g v s) (hf : fl = 0 ∨ fl = 2) (h2 : awt s ⟨com, sec, ap, fl, ct, d⟩ = false) :
    Calls Try.prog 25 #[.pointer (some ⟨g, 0, none⟩), .agg #[.bool com, .bool sec, .int .i64 ap, .int .i64 fl, .int .i64 ct, .slice a n c]] w fun e w' => e = .returned (.tuple #[.slice none 0 0, .int .i64 4]) ∧ Below w.heap.size w w' := by
  have b1 := bel_new w (.cells #[.bool com, .bool sec, .int .i64 ap, .int .i64 fl, .int .i64 ct, .slice a n c] 24)
  have ha := awaits_any _ g v s ⟨com, sec, ap, fl, ct, d⟩ a n c (h.below b1)
  rw [h2] at ha
  simp only at ha
  clear h2 h
  rcases hf with rfl | rfl
  · go_enter Try.func25, Try.ntmps25
    go_wp2_with fail
    refine ha.mono ?_
    rintro e w2 ⟨rfl, b2⟩
    go_wp2
    go_ret2
    exact ⟨rfl, b1.trans (b2.mono b1.size)⟩
  · go_enter Try.func25, Try.ntmps25
    go_wp2_with fail
    refine ha.mono ?_
    rintro e w2 ⟨rfl, b2⟩
    go_wp2
    go_ret2
    exact ⟨rfl, b1.trans (b2.mono b1.size)⟩

set_option maxHeartbeats 2000000 in
theorem join_new_long (w : World) (g : Nat) (v : Value) (s : JS) (com sec : Bool) (ap fl ct : Int) (a : Option Addr) (n c : Nat) (h : Jo w g v s) (hf : fl = 1 ∨ fl = 3) (h2 : s.most < (n : Int)) :
    Calls Try.prog 25 #[.pointer (some ⟨g, 0, none⟩), .agg #[.bool com, .bool sec, .int .i64 ap, .int .i64 fl, .int .i64 ct, .slice a n c]] w fun e w' => e = .returned (.tuple #[.slice none 0 0, .int .i64 6]) ∧ Below w.heap.size w w' := by
  have b1 := bel_new w (.cells #[.bool com, .bool sec, .int .i64 ap, .int .i64 fl, .int .i64 ct, .slice a n c] 24)
  have h1 := h.below b1
  have c1 := h1.c.cell 1
  simp [Jv] at c1
  obtain ⟨m0, m1⟩ := h.m
  obtain ⟨M, hM⟩ : ∃ M, M = s.most := ⟨_, rfl⟩
  rw [← hM] at c1 h2 m0 m1
  have g1 : decide (M < (n : Int)) = true := by simpa using h2
  clear h h1 h2 hM
  rcases hf with rfl | rfl
  · go_enter Try.func25, Try.ntmps25
    go_wp2_with fail
    go_quiet (fail)
    go_wp2
    go_ret2
    exact ⟨rfl, b1.trans ((drewN_below _ _).mono b1.size)⟩
  · go_enter Try.func25, Try.ntmps25
    go_wp2_with fail
    go_quiet (fail)
    go_wp2
    go_ret2
    exact ⟨rfl, b1.trans ((drewN_below _ _).mono b1.size)⟩

set_option maxHeartbeats 2000000 in
theorem join_new (w : World) (g : Nat) (v : Value) (s : JS) (com sec : Bool) (ap fl ct : Int) (d : List Byte) (a : Option Addr) (n c : Nat) (h : Jo w g v s) (hf : fl = 1 ∨ fl = 3) (h2 : ¬ s.most < (n : Int)) (hl : Hid (d.length = n)) (hd : Dt w w.heap.size d a c) (h47 : n ≤ 1000000) :
    Calls Try.prog 25 #[.pointer (some ⟨g, 0, none⟩), .agg #[.bool com, .bool sec, .int .i64 ap, .int .i64 fl, .int .i64 ct, .slice a n c]] w fun e w' => ∃ v', e = .returned (.tuple #[v', .int .i64 0]) ∧ Ow w' 0 5 v' d ∧ Below w.heap.size w w' ∧ (∀ i, v'.ownBlock = some i → w.heap.size ≤ i) := by
  have b1 := bel_new w (.cells #[.bool com, .bool sec, .int .i64 ap, .int .i64 fl, .int .i64 ct, .slice a n c] 24)
  have h1 := h.below b1
  have c1 := h1.c.cell 1
  simp [Jv] at c1
  obtain ⟨m0, m1⟩ := h.m
  obtain ⟨M, hM⟩ : ∃ M, M = s.most := ⟨_, rfl⟩
  rw [← hM] at c1 h2 m0 m1
  have g1 : decide (M < (n : Int)) = false := by simpa using h2
  have hdn := hd.n
  have hdb := hd.b
  clear h h1 h2 hM hd
  rcases hf with rfl | rfl
  · go_enter Try.func25, Try.ntmps25
    go_wp2_with fail
    go_quiet (fail)
    have b2 := b1.trans ((drewN_below _ nq).mono b1.size)
    go_wp2_with (first
      | (at_builtin; refine wpList_appAt _ is_bytes rfl (.tmp 34) (.tmp 36) rfl (m := []) rfl (Ow_nil _ w.heap.size _) (l := d) (by rw [hl.out]; rfl) (hdb.below b2) hdn (by rw [hl.out]; simp; omega) b2.size ?_; intro v2 w2 o2 g2 at2; have b3 := b2.grown g2 b2.size (fun k hk => nomatch hk)))
    go_ret2
    exact ⟨v2, rfl, o2.more (Nat.zero_le _), b3, o2.base_le⟩
  · go_enter Try.func25, Try.ntmps25
    go_wp2_with fail
    go_quiet (fail)
    have b2 := b1.trans ((drewN_below _ nq).mono b1.size)
    go_wp2_with (first
      | (at_builtin; refine wpList_appAt _ is_bytes rfl (.tmp 34) (.tmp 36) rfl (m := []) rfl (Ow_nil _ w.heap.size _) (l := d) (by rw [hl.out]; rfl) (hdb.below b2) hdn (by rw [hl.out]; simp; omega) b2.size ?_; intro v2 w2 o2 g2 at2; have b3 := b2.grown g2 b2.size (fun k hk => nomatch hk)))
    go_ret2
    exact ⟨v2, rfl, o2.more (Nat.zero_le _), b3, o2.base_le⟩

set_option maxHeartbeats 2000000 in
theorem join_cont_long (w : World) (g : Nat) (v : Value) (s : JS) (com sec : Bool) (ap fl ct : Int) (d : List Byte) (a : Option Addr) (n c : Nat) (h : Jo w g v s) (hf : fl = 0 ∨ fl = 2) (ht : awt s ⟨com, sec, ap, fl, ct, d⟩ = true) (h2 : s.most - (s.msg.length : Int) < (n : Int)) (h47 : s.msg.length ≤ 1000000) :
    Calls Try.prog 25 #[.pointer (some ⟨g, 0, none⟩), .agg #[.bool com, .bool sec, .int .i64 ap, .int .i64 fl, .int .i64 ct, .slice a n c]] w fun e w' =>  e = .returned (.tuple #[.slice none 0 0, .int .i64 6]) ∧ Below w.heap.size w w' := by
  have b1 := bel_new w (.cells #[.bool com, .bool sec, .int .i64 ap, .int .i64 fl, .int .i64 ct, .slice a n c] 24)
  have hk1 := Cel.new w 24 #[.bool com, .bool sec, .int .i64 ap, .int .i64 fl, .int .i64 ct, .slice a n c]
  have h1 := h.below b1
  have ha := awaits_any _ g v s ⟨com, sec, ap, fl, ct, d⟩ a n c h1
  rw [ht] at ha
  simp only at ha
  obtain ⟨m0, m1⟩ := h.m
  obtain ⟨A, cv, rfl, hA, hAn, _⟩ := h.o.reads
  obtain ⟨M, hM⟩ : ∃ M, M = s.most := ⟨_, rfl⟩
  obtain ⟨K, hK⟩ : ∃ K, K = s.msg.length := ⟨_, rfl⟩
  rw [← hM] at h2 m0 m1
  rw [← hK] at h2 h47
  have g1 : decide (M - (K : Int) < (n : Int)) = true := by simpa using h2
  have HK := Lib.hid hK
  have HM := Lib.hid hM
  clear h h2 ht hA hAn hK hM
  rcases hf with rfl | rfl
  · go_enter Try.func25, Try.ntmps25
    go_wp2_with fail
    refine ha.mono ?_
    rintro e w2 ⟨rfl, b2⟩
    have b3 := b1.trans (b2.mono b1.size)
    have h2' := h1.below b2
    have c1 := h2'.c.cell 1
    have c2 := h2'.c.cell 2
    simp [Jv] at c1 c2
    rw [← HM.out] at c1
    rw [← HK.out] at c2
    have k5 := (Cel.later hk1 b2).cell 5
    simp at k5
    clear ha
    go_wp2_with fail
    go_quiet (fail)
    go_wp2
    go_ret2
    exact ⟨rfl, b3.trans ((drewN_below _ _).mono b3.size)⟩
  · go_enter Try.func25, Try.ntmps25
    go_wp2_with fail
    refine ha.mono ?_
    rintro e w2 ⟨rfl, b2⟩
    have b3 := b1.trans (b2.mono b1.size)
    have h2' := h1.below b2
    have c1 := h2'.c.cell 1
    have c2 := h2'.c.cell 2
    simp [Jv] at c1 c2
    rw [← HM.out] at c1
    rw [← HK.out] at c2
    have k5 := (Cel.later hk1 b2).cell 5
    simp at k5
    clear ha
    go_wp2_with fail
    go_quiet (fail)
    go_wp2
    go_ret2
    exact ⟨rfl, b3.trans ((drewN_below _ _).mono b3.size)⟩

set_option maxHeartbeats 2000000 in
theorem join_cont (w : World) (g : Nat) (v : Value) (s : JS) (com sec : Bool) (ap fl ct : Int) (d : List Byte) (a : Option Addr) (n c : Nat) (h : Jo w g v s) (hf : fl = 0 ∨ fl = 2) (ht : awt s ⟨com, sec, ap, fl, ct, d⟩ = true) (h2 : ¬ s.most - (s.msg.length : Int) < (n : Int)) (hl : Hid (d.length = n)) (hd : Dt w w.heap.size d a c) (h47 : s.msg.length + n ≤ 1000000) :
    Calls Try.prog 25 #[.pointer (some ⟨g, 0, none⟩), .agg #[.bool com, .bool sec, .int .i64 ap, .int .i64 fl, .int .i64 ct, .slice a n c]] w fun e w' =>  ∃ v', e = .returned (.tuple #[v', .int .i64 0]) ∧ Ow w' 0 5 v' (s.msg ++ d) ∧ Only v.ownBlock.toList w w' ∧ (∀ i, v'.ownBlock = some i → v.ownBlock = some i ∨ w.heap.size ≤ i) := by
  have b1 := bel_new w (.cells #[.bool com, .bool sec, .int .i64 ap, .int .i64 fl, .int .i64 ct, .slice a n c] 24)
  have hk1 := Cel.new w 24 #[.bool com, .bool sec, .int .i64 ap, .int .i64 fl, .int .i64 ct, .slice a n c]
  have h1 := h.below b1
  have ha := awaits_any _ g v s ⟨com, sec, ap, fl, ct, d⟩ a n c h1
  rw [ht] at ha
  simp only at ha
  obtain ⟨m0, m1⟩ := h.m
  obtain ⟨A, cv, rfl, hA, hAn, _⟩ := h.o.reads
  obtain ⟨M, hM⟩ : ∃ M, M = s.most := ⟨_, rfl⟩
  obtain ⟨K, hK⟩ : ∃ K, K = s.msg.length := ⟨_, rfl⟩
  rw [← hM] at h2 m0 m1
  rw [← hK] at h2 h47
  have g1 : decide (M - (K : Int) < (n : Int)) = false := by simpa using h2
  have HK := Lib.hid hK
  have HM := Lib.hid hM
  have hdn := hd.n
  have hdb := hd.b
  have ho := h.o
  clear h h2 ht hd hK hM
  rcases hf with rfl | rfl
  · go_enter Try.func25, Try.ntmps25
    go_wp2_with fail
    refine ha.mono ?_
    rintro e w2 ⟨rfl, b2⟩
    have b3 := b1.trans (b2.mono b1.size)
    have h2' := h1.below b2
    have c1 := h2'.c.cell 1
    have c2 := h2'.c.cell 2
    simp [Jv] at c1 c2
    rw [← HM.out] at c1
    rw [← HK.out] at c2
    have k5 := (Cel.later hk1 b2).cell 5
    simp at k5
    clear ha
    go_wp2_with fail
    go_quiet (fail)
    have b4 := b3.trans ((drewN_below w2 nq).mono b3.size)
    have o4 := Only.of_below (S := (Value.slice A s.msg.length cv).ownBlock.toList) b4
    go_wp2_with (first
      | (at_builtin; refine wpList_appAt _ is_bytes rfl (.tmp 34) (.tmp 36) rfl (v := .slice A s.msg.length cv) (m := s.msg) (by rw [← HK.out]; rfl) (ho.below b4) (l := d) (by rw [hl.out]; rfl) (hdb.below b4) hdn (by rw [hl.out]; rw [← HK.out]; omega) (Nat.zero_le _) ?_; intro v2 w5 o5 g5 at5; have k5 := o4.trans (Only.of_grown g5) (T := (Value.slice A s.msg.length cv).ownBlock.toList) (fun x hx => .inl hx)))
    go_ret2
    refine ⟨v2, rfl, o5, k5, fun i hi => ?_⟩
    rcases at5 with e | e
    · exact .inl (by rw [← e]; exact hi)
    · rw [hi] at e
      injection e with e
      exact .inr (by have := b4.size; omega)
  · go_enter Try.func25, Try.ntmps25
    go_wp2_with fail
    refine ha.mono ?_
    rintro e w2 ⟨rfl, b2⟩
    have b3 := b1.trans (b2.mono b1.size)
    have h2' := h1.below b2
    have c1 := h2'.c.cell 1
    have c2 := h2'.c.cell 2
    simp [Jv] at c1 c2
    rw [← HM.out] at c1
    rw [← HK.out] at c2
    have k5 := (Cel.later hk1 b2).cell 5
    simp at k5
    clear ha
    go_wp2_with fail
    go_quiet (fail)
    have b4 := b3.trans ((drewN_below w2 nq).mono b3.size)
    have o4 := Only.of_below (S := (Value.slice A s.msg.length cv).ownBlock.toList) b4
    go_wp2_with (first
      | (at_builtin; refine wpList_appAt _ is_bytes rfl (.tmp 34) (.tmp 36) rfl (v := .slice A s.msg.length cv) (m := s.msg) (by rw [← HK.out]; rfl) (ho.below b4) (l := d) (by rw [hl.out]; rfl) (hdb.below b4) hdn (by rw [hl.out]; rw [← HK.out]; omega) (Nat.zero_le _) ?_; intro v2 w5 o5 g5 at5; have k5 := o4.trans (Only.of_grown g5) (T := (Value.slice A s.msg.length cv).ownBlock.toList) (fun x hx => .inl hx)))
    go_ret2
    refine ⟨v2, rfl, o5, k5, fun i hi => ?_⟩
    rcases at5 with e | e
    · exact .inl (by rw [← e]; exact hi)
    · rw [hi] at e
      injection e with e
      exact .inr (by have := b4.size; omega)
end Go.Proofs.Ytfjmlgclgmcjcaa.Par
