/-
  Package source, the laws: small.
-/
import Derived.Test.YtaaikmncdgfkmaaLaw27b
import Derived.Test.YtaaikmncdgfkmaaVals27
namespace Go.Proofs.Ytaaikmncdgfkmaa.Src
open Go.RowKit
open Go.Proofs.Ytaaikmncdgfkmaa.Pdu (Pd Gx Bx Px)

/-- the cells of a question in its box -/
structure QB (w : World) (g : Nat) (sr nm cl : Int) (na : List Byte) (A : Option Addr) (n a : Nat) (ch tt rt : Int) (Sp : Option Addr) (L c : Nat) : Prop where
  cel : Cel w g 29 #[.int .i64 sr, .int .i64 nm, .int .i64 cl, .string (str na), .slice A n a, .int .i64 ch, .int .i64 tt, .int .i64 rt, .slice Sp L c]
section
variable {w w' : World} {g : Nat} {sr nm cl : Int} {na : List Byte} {A : Option Addr} {n a : Nat} {ch tt rt : Int} {Sp : Option Addr} {L c : Nat}
theorem QB.c0 (h : QB w g sr nm cl na A n a ch tt rt Sp L c) : w.cell? ⟨g, 0, none⟩ = some (.int .i64 sr) := h.cel.cell 0
theorem QB.c1 (h : QB w g sr nm cl na A n a ch tt rt Sp L c) : w.cell? ⟨g, 1, none⟩ = some (.int .i64 nm) := h.cel.cell 1
theorem QB.c2 (h : QB w g sr nm cl na A n a ch tt rt Sp L c) : w.cell? ⟨g, 2, none⟩ = some (.int .i64 cl) := h.cel.cell 2
theorem QB.c3 (h : QB w g sr nm cl na A n a ch tt rt Sp L c) : w.cell? ⟨g, 3, none⟩ = some (.string (str na)) := h.cel.cell 3
theorem QB.c4 (h : QB w g sr nm cl na A n a ch tt rt Sp L c) : w.cell? ⟨g, 4, none⟩ = some (.slice A n a) := h.cel.cell 4
theorem QB.c5 (h : QB w g sr nm cl na A n a ch tt rt Sp L c) : w.cell? ⟨g, 5, none⟩ = some (.int .i64 ch) := h.cel.cell 5
theorem QB.c6 (h : QB w g sr nm cl na A n a ch tt rt Sp L c) : w.cell? ⟨g, 6, none⟩ = some (.int .i64 tt) := h.cel.cell 6
theorem QB.c7 (h : QB w g sr nm cl na A n a ch tt rt Sp L c) : w.cell? ⟨g, 7, none⟩ = some (.int .i64 rt) := h.cel.cell 7
theorem QB.c8 (h : QB w g sr nm cl na A n a ch tt rt Sp L c) : w.cell? ⟨g, 8, none⟩ = some (.slice Sp L c) := h.cel.cell 8
theorem QB.below (h : QB w g sr nm cl na A n a ch tt rt Sp L c) (k : Below w.heap.size w w') : QB w' g sr nm cl na A n a ch tt rt Sp L c := ⟨Cel.on h.cel k⟩
end
theorem askbox (w : World) (sr nm cl : Int) (na : List Byte) (A : Option Addr) (n a : Nat) (ch tt rt : Int) (Sp : Option Addr) (L c : Nat) : ∃ W, W = w.alloc (.cells #[.int .i64 sr, .int .i64 nm, .int .i64 cl, .string (str na), .slice A n a, .int .i64 ch, .int .i64 tt, .int .i64 rt, .slice Sp L c] 29) ∧ QB W w.heap.size sr nm cl na A n a ch tt rt Sp L c ∧ Below w.heap.size w W ∧ W.heap.size = w.heap.size + 1 :=
  ⟨_, rfl, ⟨Cel.new w _ _⟩, bel_new w _, by simp⟩
set_option maxRecDepth 100000 in
set_option maxHeartbeats 4000000 in
theorem small_1 (sr nm cl : Int) (na : List Byte) (ch tt rt : Int) (l : List St27) (A : Option Addr) (n a : Nat) (Sp : Option Addr) (L c : Nat) (w : World) (_hl : l.length = L) (_hs : Sts w w.heap.size Sp l) (h1 : 300 < na.length) :
    Calls Try.prog 6 #[.agg #[.int .i64 sr, .int .i64 nm, .int .i64 cl, .string (str na), .slice A n a, .int .i64 ch, .int .i64 tt, .int .i64 rt, .slice Sp L c]] w fun e w' => (∃ b, e = .returned (.bool b)) ∧ Below w.heap.size w w' := by
  obtain ⟨W, hW, hq, hb, hsz⟩ := askbox w sr nm cl na A n a ch tt rt Sp L c
  have c3 := hq.c3
  have c4 := hq.c4
  have c8 := hq.c8
  have hz := str_len na
  obtain ⟨N, hN⟩ : ∃ N, N = na.length := ⟨_, rfl⟩
  rw [← hN] at hz h1
  have HB := Lib.hid hb
  clear _hl _hs hq hb hsz hN
  rw [hW] at c3 c4 c8 HB
  clear hW
  go_enter Try.func6, Try.ntmps6
  go_wp2
  go_ret
  exact ⟨by first | exact .inl rfl | exact .inr rfl | exact ⟨_, rfl⟩, HB.out⟩
set_option maxRecDepth 100000 in
set_option maxHeartbeats 4000000 in
theorem small_2 (sr nm cl : Int) (na : List Byte) (ch tt rt : Int) (l : List St27) (A : Option Addr) (n a : Nat) (Sp : Option Addr) (L c : Nat) (w : World) (_hl : l.length = L) (_hs : Sts w w.heap.size Sp l) (h1 : ¬ 300 < na.length) (_h2 : 3000 < n) (_h3 : n ≤ 65536) :
    Calls Try.prog 6 #[.agg #[.int .i64 sr, .int .i64 nm, .int .i64 cl, .string (str na), .slice A n a, .int .i64 ch, .int .i64 tt, .int .i64 rt, .slice Sp L c]] w fun e w' => (∃ b, e = .returned (.bool b)) ∧ Below w.heap.size w w' := by
  obtain ⟨W, hW, hq, hb, hsz⟩ := askbox w sr nm cl na A n a ch tt rt Sp L c
  have c3 := hq.c3
  have c4 := hq.c4
  have c8 := hq.c8
  have hz := str_len na
  obtain ⟨N, hN⟩ : ∃ N, N = na.length := ⟨_, rfl⟩
  rw [← hN] at hz h1
  have HB := Lib.hid hb
  clear _hl _hs hq hb hsz hN
  rw [hW] at c3 c4 c8 HB
  clear hW
  go_enter Try.func6, Try.ntmps6
  go_wp2
  go_ret
  exact ⟨by first | exact .inl rfl | exact .inr rfl | exact ⟨_, rfl⟩, HB.out⟩
set_option maxRecDepth 100000 in
set_option maxHeartbeats 4000000 in
theorem small_3 (sr nm cl : Int) (na : List Byte) (ch tt rt : Int) (l : List St27) (A : Option Addr) (n a : Nat) (Sp : Option Addr) (L c : Nat) (w : World) (_hl : l.length = L) (_hs : Sts w w.heap.size Sp l) (h1 : ¬ 300 < na.length) (_h2 : 3000 < n) (_h3 : ¬ n ≤ 65536) (_h4 : 65546 < n) :
    Calls Try.prog 6 #[.agg #[.int .i64 sr, .int .i64 nm, .int .i64 cl, .string (str na), .slice A n a, .int .i64 ch, .int .i64 tt, .int .i64 rt, .slice Sp L c]] w fun e w' => (∃ b, e = .returned (.bool b)) ∧ Below w.heap.size w w' := by
  obtain ⟨W, hW, hq, hb, hsz⟩ := askbox w sr nm cl na A n a ch tt rt Sp L c
  have c3 := hq.c3
  have c4 := hq.c4
  have c8 := hq.c8
  have hz := str_len na
  obtain ⟨N, hN⟩ : ∃ N, N = na.length := ⟨_, rfl⟩
  rw [← hN] at hz h1
  have HB := Lib.hid hb
  clear _hl _hs hq hb hsz hN
  rw [hW] at c3 c4 c8 HB
  clear hW
  go_enter Try.func6, Try.ntmps6
  go_wp2
  go_ret
  exact ⟨by first | exact .inl rfl | exact .inr rfl | exact ⟨_, rfl⟩, HB.out⟩
set_option maxRecDepth 100000 in
set_option maxHeartbeats 4000000 in
theorem small_4a (sr nm cl : Int) (na : List Byte) (ch tt rt : Int) (l : List St27) (A : Option Addr) (n a : Nat) (Sp : Option Addr) (L c : Nat) (w : World) (_hl : l.length = L) (_hs : Sts w w.heap.size Sp l) (h1 : ¬ 300 < na.length) (_h2 : ¬ 3000 < n) (_h4 : ¬ 65546 < n) (_h5 : 80 < L) :
    Calls Try.prog 6 #[.agg #[.int .i64 sr, .int .i64 nm, .int .i64 cl, .string (str na), .slice A n a, .int .i64 ch, .int .i64 tt, .int .i64 rt, .slice Sp L c]] w fun e w' => (∃ b, e = .returned (.bool b)) ∧ Below w.heap.size w w' := by
  obtain ⟨W, hW, hq, hb, hsz⟩ := askbox w sr nm cl na A n a ch tt rt Sp L c
  have c3 := hq.c3
  have c4 := hq.c4
  have c8 := hq.c8
  have hz := str_len na
  obtain ⟨N, hN⟩ : ∃ N, N = na.length := ⟨_, rfl⟩
  rw [← hN] at hz h1
  have HB := Lib.hid hb
  clear _hl _hs hq hb hsz hN
  rw [hW] at c3 c4 c8 HB
  clear hW
  go_enter Try.func6, Try.ntmps6
  go_wp2
  go_ret
  exact ⟨by first | exact .inl rfl | exact .inr rfl | exact ⟨_, rfl⟩, HB.out⟩
set_option maxRecDepth 100000 in
set_option maxHeartbeats 4000000 in
theorem small_4b (sr nm cl : Int) (na : List Byte) (ch tt rt : Int) (l : List St27) (A : Option Addr) (n a : Nat) (Sp : Option Addr) (L c : Nat) (w : World) (_hl : l.length = L) (_hs : Sts w w.heap.size Sp l) (h1 : ¬ 300 < na.length) (_h2 : 3000 < n) (_h3 : ¬ n ≤ 65536) (_h4 : ¬ 65546 < n) (_h5 : 80 < L) :
    Calls Try.prog 6 #[.agg #[.int .i64 sr, .int .i64 nm, .int .i64 cl, .string (str na), .slice A n a, .int .i64 ch, .int .i64 tt, .int .i64 rt, .slice Sp L c]] w fun e w' => (∃ b, e = .returned (.bool b)) ∧ Below w.heap.size w w' := by
  obtain ⟨W, hW, hq, hb, hsz⟩ := askbox w sr nm cl na A n a ch tt rt Sp L c
  have c3 := hq.c3
  have c4 := hq.c4
  have c8 := hq.c8
  have hz := str_len na
  obtain ⟨N, hN⟩ : ∃ N, N = na.length := ⟨_, rfl⟩
  rw [← hN] at hz h1
  have HB := Lib.hid hb
  clear _hl _hs hq hb hsz hN
  rw [hW] at c3 c4 c8 HB
  clear hW
  go_enter Try.func6, Try.ntmps6
  go_wp2
  go_ret
  exact ⟨by first | exact .inl rfl | exact .inr rfl | exact ⟨_, rfl⟩, HB.out⟩
set_option maxRecDepth 100000 in
set_option maxHeartbeats 4000000 in
theorem small_5a (sr nm cl : Int) (na : List Byte) (ch tt rt : Int) (l : List St27) (A : Option Addr) (n a : Nat) (Sp : Option Addr) (L c : Nat) (w : World) (hl : l.length = L) (hs : Sts w w.heap.size Sp l) (h1 : ¬ 300 < na.length) (_h2 : ¬ 3000 < n) (_h4 : ¬ 65546 < n) (h5 : ¬ 80 < L) :
    Calls Try.prog 6 #[.agg #[.int .i64 sr, .int .i64 nm, .int .i64 cl, .string (str na), .slice A n a, .int .i64 ch, .int .i64 tt, .int .i64 rt, .slice Sp L c]] w fun e w' => (∃ b, e = .returned (.bool b)) ∧ Below w.heap.size w w' := by
  obtain ⟨W, hW, hq, hb, hsz⟩ := askbox w sr nm cl na A n a ch tt rt Sp L c
  have c3 := hq.c3
  have c4 := hq.c4
  have c8 := hq.c8
  have hz := str_len na
  obtain ⟨N, hN⟩ : ∃ N, N = na.length := ⟨_, rfl⟩
  rw [← hN] at hz h1
  have hsW := hs.below hb
  have HB := Lib.hid (And.intro hb (And.intro hsW (And.intro hsz hl)))
  have HC := Lib.hid (And.intro c8 hq)
  rw [hW] at c3 c4 c8
  have HW := Lib.hid hW
  clear hl hs hq hb hsz hN hsW hW
  go_enter Try.func6, Try.ntmps6
  go_upto_region 3 with fail
  rw [← HW.out]
  have hl5 := Lib.hid h5
  clear c3 c4 c8 hz h1 HW
  go_wp2_with fail
  go_loop [3] (fun i => ∃ k : Nat, k ≤ L ∧ i = .int .i64 k) (fun i => L - (intOf i).toNat)
  case atStart => exact ⟨0, Nat.zero_le _, rfl⟩
  case round =>
    obtain ⟨k, hk, rfl⟩ := hrel
    obtain ⟨hb, hsW, hsz, hl⟩ := HB.out
    have c8 := HC.out.1
    by_cases hlt : k < L
    · obtain ⟨o, ho⟩ : ∃ o, l[k]? = some o := ⟨_, List.getElem?_eq_getElem (by omega)⟩
      obtain ⟨b, off, aA, nA, cA, aG, nG, cG, q⟩ := hsW k o ho
      have e1 := q.e
      subst e1
      have q5 := q.c5
      have q8 := q.c8
      have q11 := q.c11
      have hz := str_len o.p.na
      obtain ⟨M, hM⟩ : ∃ M, M = o.p.na.length := ⟨_, rfl⟩
      rw [← hM] at hz
      have h80 := hl5.out
      clear q hl hb hsW hsz ho hM
      by_cases k1 : 300 < M
      · go_wp2
        go_ret
        exact ⟨by first | exact .inl rfl | exact .inr rfl | exact ⟨_, rfl⟩, HB.out.1⟩
      by_cases k2 : 1000 < nA
      · go_wp2
        go_ret
        exact ⟨by first | exact .inl rfl | exact .inr rfl | exact ⟨_, rfl⟩, HB.out.1⟩
      by_cases k3 : 40 < nG
      · go_wp2
        go_ret
        exact ⟨by first | exact .inl rfl | exact .inr rfl | exact ⟨_, rfl⟩, HB.out.1⟩
      go_wp2
      go_round
      case rel => exact ⟨k + 1, by omega, by go_num⟩
      case measure => simp [intOf]; omega
    · have hkL : k = L := by omega
      subst hkL
      clear hl hb hsW hsz hk hlt
      go_wp2
      go_ret
      exact ⟨by first | exact .inl rfl | exact .inr rfl | exact ⟨_, rfl⟩, HB.out.1⟩
set_option maxRecDepth 100000 in
set_option maxHeartbeats 4000000 in
theorem small_5b (sr nm cl : Int) (na : List Byte) (ch tt rt : Int) (l : List St27) (A : Option Addr) (n a : Nat) (Sp : Option Addr) (L c : Nat) (w : World) (hl : l.length = L) (hs : Sts w w.heap.size Sp l) (h1 : ¬ 300 < na.length) (_h2 : 3000 < n) (_h3 : ¬ n ≤ 65536) (_h4 : ¬ 65546 < n) (h5 : ¬ 80 < L) :
    Calls Try.prog 6 #[.agg #[.int .i64 sr, .int .i64 nm, .int .i64 cl, .string (str na), .slice A n a, .int .i64 ch, .int .i64 tt, .int .i64 rt, .slice Sp L c]] w fun e w' => (∃ b, e = .returned (.bool b)) ∧ Below w.heap.size w w' := by
  obtain ⟨W, hW, hq, hb, hsz⟩ := askbox w sr nm cl na A n a ch tt rt Sp L c
  have c3 := hq.c3
  have c4 := hq.c4
  have c8 := hq.c8
  have hz := str_len na
  obtain ⟨N, hN⟩ : ∃ N, N = na.length := ⟨_, rfl⟩
  rw [← hN] at hz h1
  have hsW := hs.below hb
  have HB := Lib.hid (And.intro hb (And.intro hsW (And.intro hsz hl)))
  have HC := Lib.hid (And.intro c8 hq)
  rw [hW] at c3 c4 c8
  have HW := Lib.hid hW
  clear hl hs hq hb hsz hN hsW hW
  go_enter Try.func6, Try.ntmps6
  go_upto_region 3 with fail
  rw [← HW.out]
  have hl5 := Lib.hid h5
  clear c3 c4 c8 hz h1 HW
  go_wp2_with fail
  go_loop [3] (fun i => ∃ k : Nat, k ≤ L ∧ i = .int .i64 k) (fun i => L - (intOf i).toNat)
  case atStart => exact ⟨0, Nat.zero_le _, rfl⟩
  case round =>
    obtain ⟨k, hk, rfl⟩ := hrel
    obtain ⟨hb, hsW, hsz, hl⟩ := HB.out
    have c8 := HC.out.1
    by_cases hlt : k < L
    · obtain ⟨o, ho⟩ : ∃ o, l[k]? = some o := ⟨_, List.getElem?_eq_getElem (by omega)⟩
      obtain ⟨b, off, aA, nA, cA, aG, nG, cG, q⟩ := hsW k o ho
      have e1 := q.e
      subst e1
      have q5 := q.c5
      have q8 := q.c8
      have q11 := q.c11
      have hz := str_len o.p.na
      obtain ⟨M, hM⟩ : ∃ M, M = o.p.na.length := ⟨_, rfl⟩
      rw [← hM] at hz
      have h80 := hl5.out
      clear q hl hb hsW hsz ho hM
      by_cases k1 : 300 < M
      · go_wp2
        go_ret
        exact ⟨by first | exact .inl rfl | exact .inr rfl | exact ⟨_, rfl⟩, HB.out.1⟩
      by_cases k2 : 1000 < nA
      · go_wp2
        go_ret
        exact ⟨by first | exact .inl rfl | exact .inr rfl | exact ⟨_, rfl⟩, HB.out.1⟩
      by_cases k3 : 40 < nG
      · go_wp2
        go_ret
        exact ⟨by first | exact .inl rfl | exact .inr rfl | exact ⟨_, rfl⟩, HB.out.1⟩
      go_wp2
      go_round
      case rel => exact ⟨k + 1, by omega, by go_num⟩
      case measure => simp [intOf]; omega
    · have hkL : k = L := by omega
      subst hkL
      clear hl hb hsW hsz hk hlt
      go_wp2
      go_ret
      exact ⟨by first | exact .inl rfl | exact .inr rfl | exact ⟨_, rfl⟩, HB.out.1⟩
theorem small_any (sr nm cl : Int) (na : List Byte) (ch tt rt : Int) (l : List St27) (A : Option Addr) (n a : Nat) (Sp : Option Addr) (L c : Nat) (w : World) (hl : l.length = L) (hs : Sts w w.heap.size Sp l) :
    Calls Try.prog 6 #[.agg #[.int .i64 sr, .int .i64 nm, .int .i64 cl, .string (str na), .slice A n a, .int .i64 ch, .int .i64 tt, .int .i64 rt, .slice Sp L c]] w fun e w' => (∃ b, e = .returned (.bool b)) ∧ Below w.heap.size w w' := by
  by_cases h1 : 300 < na.length
  · exact small_1 sr nm cl na ch tt rt l A n a Sp L c w hl hs h1
  by_cases h2 : 3000 < n
  · by_cases h3 : n ≤ 65536
    · exact small_2 sr nm cl na ch tt rt l A n a Sp L c w hl hs h1 h2 h3
    by_cases h4 : 65546 < n
    · exact small_3 sr nm cl na ch tt rt l A n a Sp L c w hl hs h1 h2 h3 h4
    by_cases h5 : 80 < L
    · exact small_4b sr nm cl na ch tt rt l A n a Sp L c w hl hs h1 h2 h3 h4 h5
    · exact small_5b sr nm cl na ch tt rt l A n a Sp L c w hl hs h1 h2 h3 h4 h5
  · have h4 : ¬ 65546 < n := by omega
    by_cases h5 : 80 < L
    · exact small_4a sr nm cl na ch tt rt l A n a Sp L c w hl hs h1 h2 h4 h5
    · exact small_5a sr nm cl na ch tt rt l A n a Sp L c w hl hs h1 h2 h4 h5
end Go.Proofs.Ytaaikmncdgfkmaa.Src
