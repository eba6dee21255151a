/-
  The reference's Take (layer 11) as one contract.
-/
import Derived.Test.YtfjmlgclgmcjcaaRef11d
import Derived.Test.YtfjmlgclgmcjcaaParW1
namespace Go.Proofs.Ytfjmlgclgmcjcaa.Par
open Go.RowKit Go.Proofs.Ytfjmlgclgmcjcaa.Row
open Pac (Pk bel_new Cel.later Cel.within)

/-- v is the reference's Joiner in state s -/
def RV (w : World) (B : Nat) (v : Value) (s : JS) (A : Option Addr) : Prop :=
  ∃ ap ct c, v = .agg (jv s.most (decide (0 < s.msg.length)) ap ct (.slice A s.msg.length c)) ∧ (0 < s.msg.length → ap = s.ap ∧ ct = s.ct) ∧ (0 ≤ ct ∧ ct ≤ 16383) ∧ Dt w B s.msg A c
theorem Dt_nil (w : World) (B : Nat) : Dt w B [] none 0 := ⟨Bs.nil_, fun _ => rfl, Nat.le_refl _, Nat.zero_le _⟩
theorem RV_idle (w : World) (B : Nat) (M : Int) (ap ct : Int) : RV w B (.agg (jv M false 0 0 (.slice none 0 0))) ⟨M, [], ap, ct⟩ none :=
  ⟨0, 0, 0, rfl, fun h => absurd h (by simp), by decide, Dt_nil _ _⟩
/-- A' is nil, A, or new -/
def Fr (n m : Nat) (A A' : Option Addr) : Prop := A' = A ∨ ∀ b o x, A' = some ⟨b, o, x⟩ → n ≤ b ∧ b < m
theorem Fr.nil_ (n m : Nat) (A : Option Addr) : Fr n m A none := .inr fun _ _ _ h => nomatch h
theorem Fr.own {w : World} {base n c : Nat} {e : TypeId} {A A' : Option Addr} {l : List Byte} (h : Ow w base e (.slice A' n c) l) : Fr base w.heap.size A A' := .inr fun b o x hb => by
  subst hb
  exact h.lt b rfl
section
variable {w w' : World} {B B' : Nat} {v : Value} {s : JS} {S : List Nat} {A : Option Addr}
theorem RV.below (h : RV w B v s A) (k : Below B w w') : RV w' B v s A := by
  obtain ⟨ap, ct, c, h1, h2, h3, h4⟩ := h
  exact ⟨ap, ct, c, h1, h2, h3, h4.below k⟩
theorem RV.more (h : RV w B v s A) (k : B ≤ B') : RV w B' v s A := by
  obtain ⟨ap, ct, c, h1, h2, h3, h4⟩ := h
  exact ⟨ap, ct, c, h1, h2, h3, h4.more k⟩
theorem RV.only (h : RV w B v s A) (k : Only S w w') (hB : B ≤ w.heap.size) (hS : ∀ x ∈ S, B ≤ x) : RV w' B v s A := h.below (k.below hB hS)
theorem RV.drew (h : RV w B v s A) : RV w.drew B v s A := h.below ⟨rfl, rfl, rfl, Nat.le_refl _, fun _ _ => rfl⟩
end

theorem xtake_any (w : World) (v : Value) (s : JS) (p : Pk) (a : Option Addr) (k : Nat) (A : Option Addr) (h : RV w w.heap.size v s A) (hd : Dt w w.heap.size p.d a k) (h1 : s.msg.length ≤ 1000000) (h2 : p.d.length ≤ 1000000) :
    Calls Try.prog 17 #[v, .agg #[.bool p.com, .bool p.sec, .int .i64 p.ap, .int .i64 p.fl, .int .i64 p.ct, .slice a p.d.length k]] w fun e w' => ∃ v' m A', e = .returned (.tuple #[v', m, .bool (tkB s p), .int .i64 (tkE s p)]) ∧ RV w' w'.heap.size v' (tkS s p) A' ∧ Fr w.heap.size w'.heap.size A A' ∧ Ow w' w.heap.size 5 m (tkM s p) ∧ Below w.heap.size w w' := by
  obtain ⟨com, sec, ap, fl, ct, d⟩ := p
  obtain ⟨M, msg, sap, sct⟩ := s
  obtain ⟨jap, jct, c, rfl, hj1, hj2, hA⟩ := h
  simp only at hj1 hA h1 h2 hd ⊢
  have idle : ∀ w' : World, RV w' w'.heap.size (.agg (jv M false 0 0 (.slice none 0 0))) { JS.mk M msg sap sct with msg := [] } none := fun w' => RV_idle _ _ _ _ _
  cases ht : tok ⟨com, sec, ap, fl, ct, d⟩ with
  | false =>
    obtain ⟨e1, e2, e3, e4⟩ := tk_bad (s := ⟨M, msg, sap, sct⟩) ht
    have hbad : rng ap 0 ct = false ∨ (rng ap 0 ct = true ∧ ((fl < 0 ∨ 3 < fl) ∨ d.length = 0)) := by
      cases hr : rng ap 0 ct with
      | false => exact .inl rfl
      | true =>
        refine .inr ⟨rfl, ?_⟩
        have := (rng_iff.1 hr)
        have h9 : ¬ (tok ⟨com, sec, ap, fl, ct, d⟩ = true) := by rw [ht]; decide
        rw [tok_iff] at h9
        simp only at h9
        omega
    have fin : ∀ (e : Ending) (w' : World), (e = .returned (.tuple #[.agg (jv M (decide (0 < msg.length)) jap jct (.slice A msg.length c)), .slice none 0 0, .bool false, .int .i64 1]) ∧ Below w.heap.size w w') → ∃ v' m A', e = .returned (.tuple #[v', m, .bool (tkB ⟨M, msg, sap, sct⟩ ⟨com, sec, ap, fl, ct, d⟩), .int .i64 (tkE ⟨M, msg, sap, sct⟩ ⟨com, sec, ap, fl, ct, d⟩)]) ∧ RV w' w'.heap.size v' (tkS ⟨M, msg, sap, sct⟩ ⟨com, sec, ap, fl, ct, d⟩) A' ∧ Fr w.heap.size w'.heap.size A A' ∧ Ow w' w.heap.size 5 m (tkM ⟨M, msg, sap, sct⟩ ⟨com, sec, ap, fl, ct, d⟩) ∧ Below w.heap.size w w' := by
      rintro e w' ⟨rfl, hb⟩
      rw [e1, e2, e3, e4]
      exact ⟨_, _, _, rfl, ⟨jap, jct, c, rfl, hj1, hj2, hA.later hb⟩, .inl rfl, Ow_nil _ _ _, hb⟩
    rcases hbad with hr | ⟨hr, hf⟩
    · exact (xtake_rng M _ jap jct A msg.length c com sec ap fl ct a d.length k w hr).mono fin
    · exact (xtake_flag M _ jap jct A msg.length c com sec ap fl ct a d.length k w hr hf).mono fin
  | true =>
    obtain ⟨hrg, hdl⟩ := tok_iff.1 ht
    simp only at hrg hdl
    have hr : rng ap 0 ct = true := rng_iff.2 (by omega)
    by_cases hc : cnt ⟨com, sec, ap, fl, ct, d⟩ = true
    · have hf : fl = 0 ∨ fl = 2 := by simpa [cnt] using hc
      cases ha : awt ⟨M, msg, sap, sct⟩ ⟨com, sec, ap, fl, ct, d⟩ with
      | false =>
        obtain ⟨j1, j2⟩ := jn_form hc ha
        obtain ⟨e1, e2, e3, e4⟩ := tk_err ht (s := ⟨M, msg, sap, sct⟩) (by rw [j1]; decide)
        rw [e1, e2, e3, e4, j1]
        refine (xtake_form M _ jap jct A msg.length c com sec ap fl ct a d.length k w hr hf hdl hj2 ?_).mono ?_
        · by_cases h0 : 0 < msg.length
          · obtain ⟨rfl, rfl⟩ := hj1 h0
            refine .inr ?_
            unfold awt at ha
            rw [decide_eq_false_iff_not] at ha
            simp only at ha
            by_cases he : ap = jap
            · exact .inr fun e => ha ⟨h0, he, e⟩
            · exact .inl he
          · exact .inl (by simpa using h0)
        · rintro e w' ⟨rfl, hb⟩
          exact ⟨_, _, _, rfl, idle w', Fr.nil_ _ _ _, Ow_nil _ _ _, hb⟩
      | true =>
        have ha' := ha
        unfold awt at ha'
        rw [decide_eq_true_iff] at ha'
        simp only at ha'
        obtain ⟨h0, a1, a2⟩ := ha'
        obtain ⟨rfl, rfl⟩ := hj1 h0
        by_cases hl : M - (msg.length : Int) < (d.length : Int)
        · obtain ⟨j1, j2⟩ := jn_cont_long (s := ⟨M, msg, jap, jct⟩) hc ha hl
          obtain ⟨e1, e2, e3, e4⟩ := tk_err ht (s := ⟨M, msg, jap, jct⟩) (by rw [j1]; decide)
          rw [e1, e2, e3, e4, j1]
          refine (xtake_cont_long M _ jap jct A msg.length c com sec ap fl ct a d.length k w hr hf hdl hj2 (by simpa using h0) a1 a2 h1 h2 (by omega)).mono ?_
          rintro e w' ⟨rfl, hb⟩
          exact ⟨_, _, _, rfl, idle w', Fr.nil_ _ _ _, Ow_nil _ _ _, hb⟩
        · obtain ⟨j1, j2⟩ := jn_cont (s := ⟨M, msg, jap, jct⟩) hc ha hl
          have hb : bef ⟨M, msg, jap, jct⟩ ⟨com, sec, ap, fl, ct, d⟩ = msg := by unfold bef; rw [if_pos hc]
          rcases hf with rfl | rfl
          · obtain ⟨e1, e2, e3, e4⟩ := tk_more ht j1 (by simp [lst])
            rw [e1, e2, e3, e4, hb]
            refine (xtake_cont_more M _ jap jct A msg.length c com sec ap ct a d.length k w msg d (Lib.hid rfl) (Lib.hid rfl) hA.b hA.n hd.b hd.n h1 h2 hr hdl hj2 (by simpa using h0) a1 a2 (by omega)).mono ?_
            rintro e w' ⟨q1, q2, rfl, ho, hb⟩
            rw [← List.length_append] at ho ⊢
            obtain ⟨q1', q2', he, hD⟩ := Dt_own (ho.more (Nat.zero_le _))
            injection he with he1 he2 he3
            subst he1 he3
            exact ⟨_, _, _, rfl, ⟨ap, ct, q2, by rw [decide_eq_true (by rw [List.length_append]; omega)], fun _ => ⟨rfl, rfl⟩, by omega, hD⟩, Fr.own ho, Ow_nil _ _ _, hb⟩
          · obtain ⟨e1, e2, e3, e4⟩ := tk_done ht j1 (by simp [lst])
            rw [e1, e2, e3, e4, hb]
            refine (xtake_cont_done M _ jap jct A msg.length c com sec ap ct a d.length k w msg d (Lib.hid rfl) (Lib.hid rfl) hA.b hA.n hd.b hd.n h1 h2 hr hdl hj2 (by simpa using h0) a1 a2 (by omega)).mono ?_
            rintro e w' ⟨v, rfl, ho, hb⟩
            exact ⟨_, _, _, rfl, idle w', Fr.nil_ _ _ _, ho, hb⟩
    · have hf : fl = 1 ∨ fl = 3 := by simp [cnt] at hc; omega
      have hc' : cnt ⟨com, sec, ap, fl, ct, d⟩ = false := by simpa using hc
      by_cases hl : M < (d.length : Int)
      · obtain ⟨j1, j2⟩ := jn_new_long (s := ⟨M, msg, sap, sct⟩) hc' hl
        obtain ⟨e1, e2, e3, e4⟩ := tk_err ht (s := ⟨M, msg, sap, sct⟩) (by rw [j1]; decide)
        rw [e1, e2, e3, e4, j1]
        refine (xtake_new_long M _ jap jct A msg.length c com sec ap fl ct a d.length k w hr hf hdl h2 hl).mono ?_
        rintro e w' ⟨rfl, hb⟩
        exact ⟨_, _, _, rfl, idle w', Fr.nil_ _ _ _, Ow_nil _ _ _, hb⟩
      · obtain ⟨j1, j2⟩ := jn_new (s := ⟨M, msg, sap, sct⟩) hc' hl
        have hb : bef ⟨M, msg, sap, sct⟩ ⟨com, sec, ap, fl, ct, d⟩ = [] := by unfold bef; rw [hc']; rfl
        rcases hf with rfl | rfl
        · obtain ⟨e1, e2, e3, e4⟩ := tk_more ht j1 (by simp [lst])
          rw [e1, e2, e3, e4, hb]
          refine (xtake_new_more M _ jap jct A msg.length c com sec ap ct a d.length k w d (Lib.hid rfl) hd.b hd.n h2 hr hdl (by omega)).mono ?_
          rintro e w' ⟨q1, q2, rfl, ho, hb⟩
          obtain ⟨q1', q2', he, hD⟩ := Dt_own (ho.more (Nat.zero_le _))
          injection he with he1 he2 he3
          subst he1 he3
          exact ⟨_, _, _, rfl, ⟨ap, ct, q2, by rw [decide_eq_true (by simpa using hdl)]; rfl, fun _ => ⟨rfl, rfl⟩, by omega, hD⟩, Fr.own ho, Ow_nil _ _ _, hb⟩
        · obtain ⟨e1, e2, e3, e4⟩ := tk_done ht j1 (by simp [lst])
          rw [e1, e2, e3, e4, hb]
          refine (xtake_new_done M _ jap jct A msg.length c com sec ap ct a d.length k w d (Lib.hid rfl) hd.b hd.n h2 hr hdl (by omega)).mono ?_
          rintro e w' ⟨v, rfl, ho, hb⟩
          exact ⟨_, _, _, rfl, idle w', Fr.nil_ _ _ _, ho, hb⟩
end Go.Proofs.Ytfjmlgclgmcjcaa.Par
