/-
  The reference of layer 22: a multiplexer by value: has, Sent, New; is of the law.
-/
import Derived.Test.YtpfhbojodapomaaMuxW5
namespace Go.Proofs.Ytpfhbojodapomaa.Mux
open Go.RowKit Go.Shelf Go.Proofs.Ytpfhbojodapomaa.Row Ints

def encI (x : Int) : List Value := [.int .i64 x]
theorem encI_ok : Enc encI 1 := ⟨fun _ => rfl, fun x u hu => by simp [encI] at hu; rw [hu]; rfl, by decide⟩
theorem is_ints1 : IsRows Try.prog 28 3 (.int .i64 0) 1 8 := IsRows.of Try.underlying28 rfl (by kernel_rfl)
theorem i_at {w : World} {B : Nat} {A : Option Addr} {l : List Int} {i : Nat} (h : Rs encI 1 w B A l) (hi : i < l.length) : ∃ b off, A = some ⟨b, off, none⟩ ∧ b < B ∧ w.cell? ⟨b, off + i, none⟩ = some (.int .i64 l[i]) := by
  obtain ⟨b, off, e, hb, hc⟩ := h.at_ hi
  refine ⟨b, off, e, hb, ?_⟩
  have := hc 0 _ rfl
  rwa [Nat.mul_one, Nat.add_zero] at this

/-- the slices v1, v2, v3 are a multiplexer of the reference's with the channels L; F: the blocks of its credits and counts -/
def RZ (w : World) (base : Nat) (v1 v2 v3 : Value) (F : List Nat) (L : List Ch) : Prop :=
  Row.Os encA 3 w base 42 v1 L ∧ Row.Os encI 1 w base 3 v2 (L.map Ch.cr) ∧ Row.Os encI 1 w base 3 v3 (L.map Ch.sn) ∧ F = v2.ownBlock.toList ++ v3.ownBlock.toList ∧ F.Nodup
/-- block g holds one -/
def RX (w : World) (base g : Nat) (F : List Nat) (L : List Ch) : Prop :=
  ∃ v1 v2 v3, Cel w g 30 #[v1, v2, v3] ∧ RZ w base v1 v2 v3 F L
section
variable {w w' : World} {base g : Nat} {v1 v2 v3 : Value} {F : List Nat} {L : List Ch} {S : List Nat}
theorem RZ.ints (h : RZ w base v1 v2 v3 F L) : ∀ i ∈ F, base ≤ i ∧ i < w.heap.size := by
  obtain ⟨_, h2, h3, rfl, _⟩ := h
  intro i hi
  rcases List.mem_append.1 hi with hi | hi
  · exact h2.lt i (by simpa using hi)
  · exact h3.lt i (by simpa using hi)
theorem RZ.notint {t : TypeId} {cs : Array Value} (h : RZ w base v1 v2 v3 F L) (q : Cel w g t cs) (ht : 3 ≠ t) : g ∉ F := by
  obtain ⟨_, h2, h3, rfl, _⟩ := h
  intro hi
  rcases List.mem_append.1 hi with hi | hi
  · exact Row.Os.apart h2 q ht (by simpa using hi)
  · exact Row.Os.apart h3 q ht (by simpa using hi)
/-- a writing call that turns none of its blocks -/
theorem RZ.only (h : RZ w base v1 v2 v3 F L) (k : Only S w w') (h1 : ∀ i, v1.ownBlock = some i → i ∉ S) (hF : ∀ i ∈ F, i ∉ S) : RZ w' base v1 v2 v3 F L := by
  obtain ⟨a1, a2, a3, rfl, a5⟩ := h
  exact ⟨a1.only k h1, a2.only k fun i hi => hF i (by simp [hi]), a3.only k fun i hi => hF i (by simp [hi]), rfl, a5⟩
theorem RZ.below (h : RZ w base v1 v2 v3 F L) (k : Below w.heap.size w w') : RZ w' base v1 v2 v3 F L := h.only (Only.of_below (S := []) k) (by simp) (by simp)
theorem RZ.more (h : RZ w base v1 v2 v3 F L) {b' : Nat} (hb : b' ≤ base) : RZ w b' v1 v2 v3 F L := ⟨h.1.more hb, h.2.1.more hb, h.2.2.1.more hb, h.2.2.2⟩
theorem RX.lt (h : RX w base g F L) : g < w.heap.size := by
  obtain ⟨v1, v2, v3, hc, _⟩ := h
  exact hc.lt
theorem RX.below (h : RX w base g F L) (k : Below w.heap.size w w') : RX w' base g F L := by
  obtain ⟨v1, v2, v3, hc, h1⟩ := h
  exact ⟨v1, v2, v3, hc.only (Only.of_below (S := []) k) (by simp), h1.below k⟩
end

set_option maxHeartbeats 1000000 in
theorem has_any (x : Int) (l : List Int) (w : World) (A : Option Addr) (n c : Nat) (hn : l.length = n) (hr : Ns w w.heap.size A l) (hm : n ≤ 1000000) :
    Calls Try.prog 27 #[.slice A n c, .int .i64 x] w fun e w' => e = .returned (.bool (decide (x ∈ l))) ∧ w = w' := by
  obtain ⟨V, hV⟩ : ∃ V, V = decide (x ∈ l) := ⟨_, rfl⟩
  rw [← hV]
  have HV := Lib.hid hV
  have HN := Lib.hid hn
  clear hV hn
  go_enter Try.func27, Try.ntmps27
  go_wp2
  go_loop [5] (fun i => ∃ k : Nat, i = .int .i64 k ∧ k ≤ n ∧ Hid (∀ y ∈ l.take k, y ≠ x)) (fun i => n - (intOf i).toNat)
  case atStart => exact ⟨0, rfl, Nat.zero_le _, Lib.hid (by simp)⟩
  case round =>
    obtain ⟨k, rfl, hk, hno⟩ := hrel
    by_cases hlt : k < n
    · have hkl : k < l.length := by rw [HN.out]; exact hlt
      obtain ⟨b, off, rfl, _, hc⟩ := hr.at_ hkl
      have htk : Hid (l.take (k + 1) = l.take k ++ [l[k]]) := Lib.hid (by rw [List.take_add_one, List.getElem?_eq_getElem hkl]; rfl)
      have hmem : Hid (l[k] ∈ l) := Lib.hid (List.getElem_mem hkl)
      clear hr
      generalize l[k] = y at hc htk hmem
      by_cases he : y = x
      · have t1 : (y == x) = true := by simpa using he
        have hV2 : V = true := by rw [HV.out, ← he]; exact decide_eq_true hmem.out
        subst hV2
        clear he
        go_wp2
        go_ret
        exact ⟨rfl, rfl⟩
      · have t1 : (y == x) = false := by simpa using he
        have HE := Lib.hid he
        clear he
        go_wp2
        go_round
        case rel =>
          refine ⟨k + 1, by simp, hlt, Lib.hid ?_⟩
          intro z hz
          rw [htk.out] at hz
          rcases List.mem_append.1 hz with hz | hz
          · exact hno.out z hz
          · rw [List.mem_singleton.1 hz]; exact HE.out
        case measure => simp [intOf]; omega
    · obtain rfl : k = n := by omega
      have hV2 : V = false := by
        rw [HV.out]
        refine decide_eq_false fun hx => ?_
        have := hno.out
        rw [← HN.out, List.take_length] at this
        exact this x hx rfl
      subst hV2
      go_wp2
      go_ret
      exact ⟨rfl, rfl⟩
set_option maxHeartbeats 1000000 in
theorem is_any (x : Int) (l : List Int) (w : World) (A : Option Addr) (n c : Nat) (hn : l.length = n) (hr : Ns w w.heap.size A l) (hm : n ≤ 1000000) :
    Calls Try.prog 15 #[.slice A n c, .int .i64 x] w fun e w' => e = .returned (.bool (decide (x ∈ l))) ∧ w = w' := by
  obtain ⟨V, hV⟩ : ∃ V, V = decide (x ∈ l) := ⟨_, rfl⟩
  rw [← hV]
  have HV := Lib.hid hV
  have HN := Lib.hid hn
  clear hV hn
  go_enter Try.func15, Try.ntmps15
  go_wp2
  go_loop [5] (fun i => ∃ k : Nat, i = .int .i64 k ∧ k ≤ n ∧ Hid (∀ y ∈ l.take k, y ≠ x)) (fun i => n - (intOf i).toNat)
  case atStart => exact ⟨0, rfl, Nat.zero_le _, Lib.hid (by simp)⟩
  case round =>
    obtain ⟨k, rfl, hk, hno⟩ := hrel
    by_cases hlt : k < n
    · have hkl : k < l.length := by rw [HN.out]; exact hlt
      obtain ⟨b, off, rfl, _, hc⟩ := hr.at_ hkl
      have htk : Hid (l.take (k + 1) = l.take k ++ [l[k]]) := Lib.hid (by rw [List.take_add_one, List.getElem?_eq_getElem hkl]; rfl)
      have hmem : Hid (l[k] ∈ l) := Lib.hid (List.getElem_mem hkl)
      clear hr
      generalize l[k] = y at hc htk hmem
      by_cases he : y = x
      · have t1 : (y == x) = true := by simpa using he
        have hV2 : V = true := by rw [HV.out, ← he]; exact decide_eq_true hmem.out
        subst hV2
        clear he
        go_wp2
        go_ret
        exact ⟨rfl, rfl⟩
      · have t1 : (y == x) = false := by simpa using he
        have HE := Lib.hid he
        clear he
        go_wp2
        go_round
        case rel =>
          refine ⟨k + 1, by simp, hlt, Lib.hid ?_⟩
          intro z hz
          rw [htk.out] at hz
          rcases List.mem_append.1 hz with hz | hz
          · exact hno.out z hz
          · rw [List.mem_singleton.1 hz]; exact HE.out
        case measure => simp [intOf]; omega
    · obtain rfl : k = n := by omega
      have hV2 : V = false := by
        rw [HV.out]
        refine decide_eq_false fun hx => ?_
        have := hno.out
        rw [← HN.out, List.take_length] at this
        exact this x hx rfl
      subst hV2
      go_wp2
      go_ret
      exact ⟨rfl, rfl⟩

/-! ### Sent -/
set_option maxHeartbeats 2000000 in
theorem xsent_any (w : World) (base : Nat) (v1 v2 v3 : Value) (F : List Nat) (L : List Ch) (i : Int) (h : RZ w base v1 v2 v3 F L) (hG : Good L) :
    Calls Try.prog 14 #[.agg #[v1, v2, v3], .int .i64 i] w fun e w' => e = .returned (.int .i64 (snt L i)) ∧ Below w.heap.size w w' := by
  obtain ⟨V, hV⟩ : ∃ V, V = snt L i := ⟨_, rfl⟩
  rw [← hV]
  have HV := Lib.hid hV
  have hlen := hG.len
  have HG := Lib.hid hG
  obtain ⟨n, hn⟩ : ∃ n, n = L.length := ⟨_, rfl⟩
  have HN := Lib.hid hn
  have hn8 : n ≤ 8 := by omega
  obtain ⟨o1, _, o3, _, _⟩ := h
  obtain ⟨A1, c1, rfl, r1, _, _, _⟩ := o1.reads_len encA_ok (n := n) hn.symm
  obtain ⟨A2, c2, rfl⟩ : ∃ A c, v2 = .slice A n c := by
    obtain ⟨A, c, e, _⟩ := (by assumption : Row.Os encI 1 w base 3 v2 (L.map Ch.cr)).reads_len encI_ok (n := n) (by simp [hn])
    exact ⟨A, c, e⟩
  obtain ⟨A3, c3, rfl, r3, _, _, _⟩ := o3.reads_len encI_ok (n := n) (by simp [hn])
  obtain ⟨W, hW⟩ : ∃ W, W = w.alloc (.cells #[.slice A1 n c1, .slice A2 n c2, .slice A3 n c3] 30) := ⟨_, rfl⟩
  have e0 : W.cell? ⟨w.heap.size, 0, none⟩ = some (.slice A1 n c1) := by rw [hW]; simp
  have e2 : W.cell? ⟨w.heap.size, 2, none⟩ = some (.slice A3 n c3) := by rw [hW]; simp
  have hb : Below w.heap.size w W := by rw [hW]; exact bel_new _ _
  have r1 := (r1.below hb)
  have r3 := (r3.below hb)
  clear hV hG o1 o3 hlen hn
  go_enter Try.func14, Try.ntmps14
  go_wp2
  rw [← hW]
  clear hW
  go_loop [5] (fun i' => ∃ k : Nat, i' = .int .i64 k ∧ k ≤ n ∧ Hid (∀ y ∈ L.take k, y.id ≠ i)) (fun i' => n - (intOf i').toNat)
  case atStart => exact ⟨0, rfl, Nat.zero_le _, Lib.hid (by simp)⟩
  case round =>
    obtain ⟨k, rfl, hk, hno⟩ := hrel
    by_cases hlt : k < n
    · have hkl : k < L.length := by rw [← HN.out]; exact hlt
      obtain ⟨b, off, rfl, _, d0, _, _⟩ := a_at r1 hkl
      obtain ⟨b3, off3, rfl, _, d3⟩ := i_at r3 (i := k) (by simpa using hkl)
      rw [List.getElem_map] at d3
      have htk : Hid (L.take (k + 1) = L.take k ++ [L[k]]) := Lib.hid (by rw [List.take_add_one, List.getElem?_eq_getElem hkl]; rfl)
      have hsn : Hid (snt L L[k].id = L[k].sn) := Lib.hid (snt_of HG.out (List.getElem_mem hkl))
      clear r1 r3
      generalize L[k] = y at d0 d3 htk hsn
      obtain ⟨x0, x1, x2, x3, x4⟩ := y
      dsimp only at d0 d3
      by_cases he : x0 = i
      · have t1 : (x0 == i) = true := by simpa using he
        have hV2 : V = x4 := by rw [HV.out, ← he]; exact hsn.out
        subst hV2
        clear he
        go_wp2
        go_ret
        exact ⟨rfl, hb⟩
      · have t1 : (x0 == i) = false := by simpa using he
        have HE := Lib.hid he
        clear he
        go_wp2
        go_round
        case rel =>
          refine ⟨k + 1, by simp, hlt, Lib.hid ?_⟩
          intro z hz
          rw [htk.out] at hz
          rcases List.mem_append.1 hz with hz | hz
          · exact hno.out z hz
          · rw [List.mem_singleton.1 hz]; exact HE.out
        case measure => simp [intOf]; omega
    · obtain rfl : k = n := by omega
      have hV2 : V = 0 := by
        rw [HV.out]
        refine snt_no fun hx => ?_
        obtain ⟨y, hy, e⟩ := List.mem_map.1 hx
        have := hno.out
        rw [HN.out, List.take_length] at this
        exact this y hy e
      subst hV2
      go_wp2
      go_ret
      exact ⟨rfl, hb⟩
end Go.Proofs.Ytpfhbojodapomaa.Mux
