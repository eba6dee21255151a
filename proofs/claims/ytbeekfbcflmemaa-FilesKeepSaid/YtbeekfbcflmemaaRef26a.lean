/-
  The reference of layer 26: its store by value (RX: what its slice leads to); find, Texts, Free, Names, Get.
-/
import Derived.Test.YtbeekfbcflmemaaFilW1
import Derived.Test.YtbeekfbcflmemaaFilW2
namespace Go.Proofs.Ytbeekfbcflmemaa.Fil
open Go.RowKit Go.Proofs.Ytbeekfbcflmemaa.Row
open Lst (Qb Dt)

/-! ### slices of elements of whatever size in blocks that no call writes -/
section
variable {α : Type} {enc : α → List Value} {k : Nat} {L : List α} {w w' : World} {A : Option Addr} {n c : Nat}
def Qr (enc : α → List Value) (k : Nat) (w : World) (A : Option Addr) (L : List α) : Prop :=
  0 < L.length → ∃ b off, A = some ⟨b, off, none⟩ ∧ Bt w b ∧ ∀ i x, L[i]? = some x → ∀ j u, (enc x)[j]? = some u → w.cell? ⟨b, off + i * k + j, none⟩ = some u
theorem Qr.keep (h : Qr enc k w A L) (q : Kq w w') : Qr enc k w' A L := fun hl => by
  obtain ⟨b, off, e, hb, hc⟩ := h hl
  exact ⟨b, off, e, hb.keep q, fun i x hx j u hu => (hb.cell q _).trans (hc i x hx j u hu)⟩
theorem Qr.rs (h : Qr enc k w A L) : Row.Rs enc k w w.heap.size A L := fun hl => by
  obtain ⟨b, off, e, hb, hc⟩ := h hl
  exact ⟨b, off, e, hb.lt, hc⟩
theorem Qr.own (hE : Enc enc k) {base : Nat} {e : TypeId} (h : Row.Os enc k w base e (.slice A n c) L) (he : Fx e) : Qr enc k w A L := fun hl => by
  obtain ⟨b, off, rfl, _, hc⟩ := (h.rs hE) hl
  obtain ⟨cs, hcel⟩ := Lst.own_cel h (i := b) rfl
  exact ⟨b, off, rfl, ⟨_, cs, hcel, he⟩, hc⟩
structure Sq (enc : α → List Value) (k : Nat) (w : World) (A : Option Addr) (n c : Nat) (L : List α) : Prop where
  r : Qr enc k w A L
  len : L.length = n
  nil : A = none → c = 0
  le : n ≤ c
  max : c ≤ maxLen
theorem Sq.keep (h : Sq enc k w A n c L) (q : Kq w w') : Sq enc k w' A n c L := ⟨h.r.keep q, h.len, h.nil, h.le, h.max⟩
theorem Sq.own (hE : Enc enc k) {base : Nat} {e : TypeId} {v : Value} (h : Row.Os enc k w base e v L) (he : Fx e) (hl : L.length = n) : ∃ A c, v = .slice A n c ∧ Sq enc k w A n c L := by
  obtain ⟨A, c, rfl, _, hn, hle, hm⟩ := h.reads_len hE hl
  exact ⟨A, c, rfl, Qr.own hE h he, hl, hn, hle, hm⟩
theorem Sq.zero (w : World) : Sq enc k w none 0 0 [] := ⟨fun h => absurd h (by simp), rfl, fun _ => rfl, Nat.le_refl _, Nat.zero_le _⟩
end

/-- a file's two cells -/
def enF (p : T) : List Value := [.string (nm p.1), .slice p.2.a p.2.l.length p.2.c]
theorem enF_ok : Enc enF 2 := ⟨fun _ => rfl, fun x u hu => by simp [enF] at hu; rcases hu with rfl | rfl <;> rfl, by decide⟩
theorem is_files : IsRows Try.prog 26 63 (.agg #[.string ⟨#[]⟩, .slice none 0 0]) 2 40 := IsRows.of Try.underlying26 rfl (by kernel_rfl)
theorem f_at {w : World} {B : Nat} {A : Option Addr} {l : List T} {i : Nat} {p : T} (h : Row.Rs enF 2 w B A l) (hp : l[i]? = some p) : ∃ b off, A = some ⟨b, off, none⟩ ∧ b < B ∧ w.cell? ⟨b, off + i * 2, none⟩ = some (.string (nm p.1)) ∧ w.cell? ⟨b, off + i * 2 + 1, none⟩ = some (.slice p.2.a p.2.l.length p.2.c) := by
  obtain ⟨hi, hx⟩ := List.getElem?_eq_some_iff.1 hp
  obtain ⟨b, off, e, hb, hc⟩ := h.at_ hi
  rw [hx] at hc
  exact ⟨b, off, e, hb, hc 0 _ rfl, hc 1 _ rfl⟩
/-- A leads to the files L -/
def RX (w : World) (A : Option Addr) (n c : Nat) (L : List F) : Prop := ∃ Q : List T, lst Q = L ∧ Sq enF 2 w A n c Q ∧ ∀ p ∈ Q, Dq w p.2.l p.2.a p.2.c
section
variable {w w' : World} {A : Option Addr} {n c : Nat} {L : List F}
theorem RX.keep (h : RX w A n c L) (q : Kq w w') : RX w' A n c L := by
  obtain ⟨Q, h1, h2, h3⟩ := h
  exact ⟨Q, h1, h2.keep q, fun p hp => (h3 p hp).keep q⟩
theorem RX.later (h : RX w A n c L) (q : Below w.heap.size w w') : RX w' A n c L := h.keep (.of_below q)
theorem RX.len (h : RX w A n c L) : L.length = n := by
  obtain ⟨Q, h1, h2, h3⟩ := h
  rw [← h1, ← h2.len]; simp [lst]
theorem RX.zero (w : World) : RX w none 0 0 [] := ⟨[], rfl, Sq.zero w, by simp⟩
end
theorem lst_at {Q : List T} {i : Nat} {p : T} (h : Q[i]? = some p) : (lst Q)[i]? = some (p.1, p.2.l) := by
  unfold lst
  rw [List.getElem?_map, h]; rfl

theorem less_eq : ∀ a b : Nm, Op.bytesLess a b = lt a b
  | [], [] => rfl
  | _ :: _, [] => rfl
  | [], _ :: _ => rfl
  | x :: r, y :: s => by
    have ih := less_eq r s
    unfold lt at ih ⊢
    unfold Op.bytesLess bytesBefore
    rw [ih]
theorem nm_toList (a : Nm) : (nm a).toList = a := ByteArray.toList_mk a
theorem less_nm {a b : Nm} {v : Bool} (h : lt a b = v) : Op.bytesLess (nm a).toList (nm b).toList = v := by rw [nm_toList, nm_toList, less_eq, h]
theorem eq_nm {a b : Nm} {v : Bool} (h : (a == b) = v) : ((nm a).toList == (nm b).toList) = v := by rw [nm_toList, nm_toList, h]
/-- what find hands back -/
def fdB (x : Nm) (L : List F) : Bool := (get x L).isSome
theorem find_end {x : Nm} {L : List F} (hs : Srt L) {k : Nat} (hk : k ≤ L.length) (h : ∀ i < k, ∀ p, L[i]? = some p → lt p.1 x = true) (he : ∀ p, L[k]? = some p → lt p.1 x = false) : fnd x L = k ∧ fdB x L = (match L[k]? with | some p => p.1 == x | none => false) := by
  have hf := fnd_lt h hk he
  refine ⟨hf, ?_⟩
  have ha := hs.at_ (n := x)
  rw [hf] at ha
  unfold fdB
  cases hl : L[k]? with
  | none =>
    cases hg : get x L with
    | none => rfl
    | some d => rw [(ha d).1 hg] at hl; cases hl
  | some p =>
    by_cases e : p.1 = x
    · have : L[k]? = some (x, p.2) := by rw [hl, ← e]
      rw [(ha p.2).2 this]
      simp [e]
    · cases hg : get x L with
      | none => simp [e]
      | some d =>
        have := (ha d).1 hg
        rw [hl] at this
        injection this with this
        rw [this] at e
        exact absurd rfl e

set_option maxHeartbeats 1000000 in
theorem find_any (w : World) (M rm : Int) (A : Option Addr) (n c : Nat) (L : List F) (h : RX w A n c L) (hs : Srt L) (x : Nm) (hm : n ≤ 1000000) :
    Calls Try.prog 27 #[.agg #[I M, I rm, .slice A n c], .string (nm x)] w fun e w' => e = .returned (.tuple #[I (fnd x L : Int), .bool (fdB x L)]) ∧ Below w.heap.size w w' := by
  obtain ⟨Q, h1, h2, h3⟩ := h
  have hlen : L.length = n := by rw [← h1, ← h2.len]; simp [lst]
  obtain ⟨K, hK⟩ : ∃ K, K = fnd x L := ⟨_, rfl⟩
  obtain ⟨V, hV⟩ : ∃ V, V = fdB x L := ⟨_, rfl⟩
  rw [← hK, ← hV]
  have HK := Lib.hid hK
  have HV := Lib.hid hV
  have HL := Lib.hid hlen
  have hb1 := bel_new w (.cells #[I M, I rm, .slice A n c] 28)
  have hrs := h2.r.rs.below hb1
  have HQ := Lib.hid h1
  have HQn := Lib.hid h2.len
  clear hK hV hlen h3 h1 h2
  go_enter Try.func27, Try.ntmps27
  go_wp2
  go_loop [6] (fun i => ∃ k : Nat, k ≤ n ∧ i = .int .i64 k ∧ Hid (∀ i < k, ∀ p, L[i]? = some p → lt p.1 x = true)) (fun i => n - (intOf i).toNat)
  case atStart => exact ⟨0, Nat.zero_le _, rfl, Lib.hid (fun i hi => by omega)⟩
  case round =>
    obtain ⟨k, hk, rfl, hz⟩ := hrel
    by_cases hlt : k < n
    · obtain ⟨p, hp⟩ : ∃ p, Q[k]? = some p := ⟨_, List.getElem?_eq_getElem (by rw [HQn.out]; exact hlt)⟩
      have hpl : L[k]? = some (p.1, p.2.l) := by rw [← HQ.out]; exact lst_at hp
      obtain ⟨qb, qo, rfl, hqb, q0, q1⟩ := f_at hrs hp
      have t1 : decide ((k : Int) < (n : Int)) = true := decide_eq_true (by omega)
      have t2 : decide (k < n) = true := decide_eq_true hlt
      cases hl : lt p.1 x with
      | true =>
        have hz2 := Lib.hid (show ∀ i < k + 1, ∀ p, L[i]? = some p → lt p.1 x = true from fun i hi p2 hp2 => by
          rcases Nat.lt_or_ge i k with h5 | h5
          · exact hz.out i h5 p2 hp2
          · have : i = k := by omega
            subst this
            rw [hpl] at hp2
            injection hp2 with hp2
            rw [← hp2]; exact hl)
        have r1 := less_nm hl
        clear hz hl hpl hp
        go_wp2
        go_round
        case rel => exact ⟨k + 1, by omega, by go_num, hz2⟩
        case measure => simp [intOf]; omega
      | false =>
        have hfe := find_end hs (k := k) (by rw [HL.out]; exact hk) hz.out (fun p2 hp2 => by rw [hpl] at hp2; injection hp2 with hp2; rw [← hp2]; exact hl)
        rw [hpl] at hfe
        have r1 := less_nm hl
        obtain ⟨E, hE⟩ : ∃ E, (p.1 == x) = E := ⟨_, rfl⟩
        have r2 := eq_nm hE
        have hr1 : K = k := by rw [HK.out, hfe.1]
        have hr2 : V = E := by rw [HV.out, hfe.2, ← hE]
        subst hr1 hr2
        clear hz hl hpl hp hfe hE
        go_wp2
        go_quiet (fail)
        go_wp2
        go_ret2
        exact ⟨rfl, hb1.trans (drewN_below _ _)⟩
    · obtain rfl : k = n := by omega
      have hno : L[k]? = none := List.getElem?_eq_none (by rw [HL.out]; omega)
      have hfe := find_end hs (k := k) (by rw [HL.out]; omega) hz.out (fun p2 hp2 => by rw [hno] at hp2; cases hp2)
      rw [hno] at hfe
      have hr1 : K = k := by rw [HK.out, hfe.1]
      have hr2 : V = false := by rw [HV.out, hfe.2]
      have t1 : decide ((k : Int) < (k : Int)) = false := decide_eq_false (by omega)
      have t2 : decide (k < k) = false := decide_eq_false (by omega)
      subst hr1 hr2
      clear hz hno hfe hlt
      go_wp2
      go_quiet (fail)
      go_wp2
      go_ret2
      exact ⟨rfl, hb1.trans (drewN_below _ _)⟩

set_option maxHeartbeats 1000000 in
theorem rfree_any (w : World) (M : Int) (rm : Nat) (A : Option Addr) (n c : Nat) (L : List F) (h : RX w A n c L) (hm : n ≤ 1000000) (hr : rm ≤ 2147483648) (hz : sz L ≤ rm) :
    Calls Try.prog 20 #[.agg #[I M, I (rm : Int), .slice A n c]] w fun e w' => e = .returned (I ((rm : Int) - (sz L : Int))) ∧ Below w.heap.size w w' := by
  obtain ⟨Q, h1, h2, h3⟩ := h
  have hlen : L.length = n := by rw [← h1, ← h2.len]; simp [lst]
  obtain ⟨E, hE⟩ : ∃ E : Int, E = (rm : Int) - (sz L : Int) := ⟨_, rfl⟩
  rw [← hE]
  have HE := Lib.hid hE
  have HL := Lib.hid hlen
  have HZ := Lib.hid hz
  have hb1 := bel_new w (.cells #[I M, I (rm : Int), .slice A n c] 28)
  have hrs := h2.r.rs.below hb1
  have HQ := Lib.hid h1
  have HQn := Lib.hid h2.len
  clear hE hlen h3 h1 h2 hz
  go_enter Try.func20, Try.ntmps20
  go_wp2
  go_loop [4, 3] (fun i v => ∃ (k : Nat) (G : Nat), k ≤ n ∧ i = .int .i64 k ∧ v = .int .i64 G ∧ G ≤ rm ∧ Hid (G + sz (L.take k) = rm)) (fun i _ => n - (intOf i).toNat)
  case atStart => exact ⟨0, rm, Nat.zero_le _, rfl, rfl, Nat.le_refl _, Lib.hid (by simp [sz])⟩
  case round =>
    obtain ⟨k, G, hk, rfl, rfl, hG, hz⟩ := hrel
    by_cases hlt : k < n
    · obtain ⟨p, hp⟩ : ∃ p, Q[k]? = some p := ⟨_, List.getElem?_eq_getElem (by rw [HQn.out]; exact hlt)⟩
      have hpl : L[k]? = some (p.1, p.2.l) := by rw [← HQ.out]; exact lst_at hp
      obtain ⟨qb, qo, rfl, hqb, q0, q1⟩ := f_at hrs hp
      obtain ⟨m, hmm⟩ : ∃ m, m = p.2.l.length := ⟨_, rfl⟩
      rw [← hmm] at q1
      have hst : sz (L.take (k + 1)) = sz (L.take k) + m := by
        rw [List.take_add_one, hpl, hmm]; simp [sz]
      have hle : sz (L.take (k + 1)) ≤ sz L := by
        have := congrArg sz (List.take_append_drop (k + 1) L)
        simp only [sz, List.map_append, List.sum_append] at this ⊢
        omega
      have hFm : m ≤ G := by have h1 := hz.out; have h2 := HZ.out; omega
      obtain ⟨G2, hG2⟩ : ∃ G2, G = G2 + m := ⟨G - m, by omega⟩
      have HF2 : Hid (G2 + sz (L.take (k + 1)) = rm) := Lib.hid (by have h1 := hz.out; omega)
      have u1 : (G : Int) - (m : Int) = (G2 : Int) := by omega
      have u2 : (0 : Int) ≤ (G : Int) - (m : Int) := by omega
      have u3 : (G : Int) - (m : Int) ≤ 2147483648 := by omega
      have t1 : decide ((k : Int) < (n : Int)) = true := decide_eq_true (by omega)
      clear hst hle hmm hp hpl hz
      go_wp2
      go_round
      case rel => exact ⟨k + 1, G2, by omega, by go_num, rfl, by omega, HF2⟩
      case measure => simp [intOf]; omega
    · have hr : (G : Int) = E := by
        have h1 := hz.out
        rw [List.take_of_length_le (by rw [HL.out]; omega)] at h1
        rw [HE.out]; omega
      have t1 : decide ((k : Int) < (n : Int)) = false := decide_eq_false (by omega)
      clear hz
      go_wp2
      go_ret
      exact ⟨rfl, hb1⟩

set_option maxHeartbeats 1000000 in
theorem rnames_any (w : World) (M rm : Int) (A : Option Addr) (n c : Nat) (L : List F) (h : RX w A n c L) (hm : n ≤ 1000000) :
    Calls Try.prog 23 #[.agg #[I M, I rm, .slice A n c]] w fun e w' => ∃ v, e = .returned v ∧ Row.Os sen 1 w' w.heap.size 9 v (L.map (·.1)) ∧ Below w.heap.size w w' := by
  obtain ⟨Q, h1, h2, h3⟩ := h
  have hlen : L.length = n := by rw [← h1, ← h2.len]; simp [lst]
  obtain ⟨E, hE⟩ : ∃ E, E = L.map (·.1) := ⟨_, rfl⟩
  rw [← hE]
  have HE := Lib.hid hE
  have HL := Lib.hid hlen
  have hb1 := bel_new w (.cells #[I M, I rm, .slice A n c] 28)
  have hc1 : Cel (w.alloc (.cells #[I M, I rm, .slice A n c] 28)) w.heap.size 28 #[I M, I rm, .slice A n c] := Cel.new _ _ _
  have hrs := h2.r.rs
  have HQ := Lib.hid h1
  have HQn := Lib.hid h2.len
  clear hE hlen h3 h1 h2
  go_enter Try.func23, Try.ntmps23
  go_wp2
  go_loopw [4, 3] (fun i v wr => ∃ k : Nat, k ≤ n ∧ i = .int .i64 k ∧ Row.Os sen 1 wr (w.heap.size + 1) 9 v ((L.take k).map (·.1)) ∧ Hid (Cel wr w.heap.size 28 #[I M, I rm, .slice A n c]) ∧ Below w.heap.size w wr) (fun i _ _ => n - (intOf i).toNat)
  case atStart => exact ⟨0, Nat.zero_le _, rfl, by simpa using Row.Os.nil_ _ _ _, Lib.hid hc1, hb1⟩
  case round =>
    obtain ⟨k, hk, rfl, hos, hce, hbel⟩ := hrel
    have c2 := hce.out.cell 2; simp at c2
    by_cases hlt : k < n
    · obtain ⟨p, hp⟩ : ∃ p, Q[k]? = some p := ⟨_, List.getElem?_eq_getElem (by rw [HQn.out]; exact hlt)⟩
      have hpl : L[k]? = some (p.1, p.2.l) := by rw [← HQ.out]; exact lst_at hp
      obtain ⟨qb, qo, rfl, hqb, q0, q1⟩ := f_at (hrs.below hbel) hp
      have hr1 := Row.Rs_new1 sen_ok wr 9 p.1 #[.string (nm p.1)] rfl
      have hst : (L.take (k + 1)).map (·.1) = (L.take k).map (·.1) ++ [p.1] := by rw [List.take_add_one, hpl]; simp
      have hln : ((L.take k).map (·.1)).length ≤ 1000000 := by simp; omega
      have t1 : decide ((k : Int) < (n : Int)) = true := decide_eq_true (by omega)
      have hsz := hce.out.lt
      clear hp hpl q1 hc1 hb1
      go_wp2_with (at_builtin; refine wpList_row _ sen_ok is_strs (by decide) rfl (.tmp 12) (.tmp 19) rfl rfl (hos.alloc _) (l := [p.1]) rfl rfl hr1 (by simp) (by simp at hln ⊢; omega) (by simp; omega) ?_; intro v2 w2 hos2 hg2 hv2)
      have hg3 : (wr.alloc (.cells #[.string (nm p.1)] 9)).grownBy w2 u3.ownBlock := hg2
      have ho3 : Only u3.ownBlock.toList wr w2 := (Only.of_below (S := u3.ownBlock.toList) (bel_new wr _)).trans (Only.of_grown hg3) (fun _ h => .inl h)
      have hlow : ∀ i ∈ u3.ownBlock.toList, w.heap.size + 1 ≤ i := fun i hi => (hos.lt i (by simpa using hi)).1
      have hce2 := Lib.hid (hce.out.only ho3 (fun hm => by have := hlow _ hm; omega))
      have hbel2 := hbel.trans (ho3.below hbel.size (fun i hi => by have := hlow _ hi; omega))
      rw [← hst] at hos2
      exact ⟨⟨k + 1, by omega, by go_num, hos2, hce2, hbel2⟩, by simp [intOf]; omega⟩
    · obtain rfl : k = n := by omega
      have hE : (L.take k).map (·.1) = E := by rw [List.take_of_length_le (by rw [HL.out]; omega), HE.out]
      rw [hE] at hos
      have t1 : decide ((k : Int) < (k : Int)) = false := decide_eq_false (by omega)
      have hos3 := hos.more (b' := w.heap.size) (by omega)
      clear hE hlt hc1 hb1
      go_wp2
      go_ret
      exact ⟨_, rfl, hos3, hbel⟩

theorem n_at {w : World} {B : Nat} {A : Option Addr} {l : List Nm} {i : Nat} {p : Nm} (h : Row.Rs sen 1 w B A l) (hp : l[i]? = some p) : ∃ b off, A = some ⟨b, off, none⟩ ∧ b < B ∧ w.cell? ⟨b, off + i, none⟩ = some (.string (nm p)) := by
  obtain ⟨hi, hx⟩ := List.getElem?_eq_some_iff.1 hp
  obtain ⟨b, off, e, hb, hc⟩ := h.at_ hi
  rw [hx] at hc
  have := hc 0 _ rfl
  rw [Nat.mul_one, Nat.add_zero] at this
  exact ⟨b, off, e, hb, this⟩

set_option maxHeartbeats 1000000 in
/-- two lists alike -/
theorem texts_any (w : World) (A A2 : Option Addr) (n c c2 : Nat) (l : List Nm) (hn : l.length = n) (h : Row.Rs sen 1 w w.heap.size A l) (k2 : Row.Rs sen 1 w w.heap.size A2 l) (hm : n ≤ 1000000) :
    Calls Try.prog 21 #[.slice A n c, .slice A2 n c2] w fun e w' => e = .returned (.bool true) ∧ Below w.heap.size w w' := by
  have HL := Lib.hid hn
  clear hn
  go_enter Try.func21, Try.ntmps21
  go_wp2
  go_loopw [5] (fun i wr => ∃ k : Nat, k ≤ n ∧ i = .int .i64 k ∧ Below w.heap.size w wr) (fun i _ => n - (intOf i).toNat)
  case atStart => exact ⟨0, Nat.zero_le _, rfl, Below.refl _ _⟩
  case round =>
    obtain ⟨k, hk, rfl, hbel⟩ := hrel
    by_cases hlt : k < n
    · obtain ⟨p, hp⟩ : ∃ p, l[k]? = some p := ⟨_, List.getElem?_eq_getElem (by rw [HL.out]; exact hlt)⟩
      obtain ⟨b1, o1, rfl, hb1, q1⟩ := n_at (h.below hbel) hp
      obtain ⟨b2, o2, rfl, hb2, q2⟩ := n_at (k2.below hbel) hp
      have t1 : decide ((k : Int) < (n : Int)) = true := decide_eq_true (by omega)
      have r1 := eq_nm (a := p) (b := p) (v := true) (by simp)
      clear hp
      go_wp2
      go_quiet (fail)
      go_wp2
      exact ⟨⟨k + 1, by omega, by go_num, hbel.trans (drewN_below _ _)⟩, by simp [intOf]; omega⟩
    · obtain rfl : k = n := by omega
      have t1 : decide ((k : Int) < (k : Int)) = false := decide_eq_false (by omega)
      clear hlt
      go_wp2
      go_ret
      exact ⟨rfl, hbel⟩

set_option maxHeartbeats 1000000 in
theorem rget_any (w : World) (M rm : Int) (A : Option Addr) (n c : Nat) (s : St) (h : RX w A n c s.l) (hs : Srt s.l) (x : Nm) (hm : n ≤ 1000000) :
    Calls Try.prog 16 #[.agg #[I M, I rm, .slice A n c], .string (nm x)] w fun e w' => ∃ A2 c2, e = .returned (.tuple #[.slice A2 (geD s x).length c2, I (geE s x : Int)]) ∧ Dq w' (geD s x) A2 c2 ∧ Below w.heap.size w w' := by
  have hna := fun W => rname_any x x.length W (Lib.hid rfl)
  have hb1 := bel_new w (.cells #[I M, I rm, .slice A n c] 28)
  cases h0 : okN x with
  | false =>
    have k0 : geE s x = 1 := by unfold geE; rw [h0]; rfl
    have k1 : geD s x = [] := by unfold geD; rw [h0]; rfl
    rw [k0, k1]
    rw [h0] at hna
    clear h0 k0 k1 h hs
    go_enter Try.func16, Try.ntmps16
    go_wp2_with (go_at_call 18; refine (hna _).mono ?_; rintro e w' ⟨rfl, rfl⟩)
    go_ret2
    exact ⟨none, 0, rfl, Dq.nil_ _, hb1⟩
  | true =>
  rw [h0] at hna
  have hfd := fun W (hb : Below w.heap.size w W) => find_any W M rm A n c s.l (h.later hb) hs x hm
  cases hg : get x s.l with
  | none =>
    have k0 : geE s x = 8 := by unfold geE; rw [h0, hg]; rfl
    have k1 : geD s x = [] := by unfold geD; rw [h0, hg]; rfl
    have k2 : fdB x s.l = false := by unfold fdB; rw [hg]; rfl
    rw [k0, k1]
    rw [k2] at hfd
    obtain ⟨K, hK⟩ : ∃ K, K = fnd x s.l := ⟨_, rfl⟩
    rw [← hK] at hfd
    clear h0 k0 k1 k2 h hs hg hK
    go_enter Try.func16, Try.ntmps16
    go_wp2_with (first
      | (go_at_call 18; refine (hna _).mono ?_; rintro e w' ⟨rfl, rfl⟩)
      | (go_at_call 27; refine (hfd _ hb1).mono ?_; rintro e w2 ⟨rfl, hb2⟩))
    go_ret2
    exact ⟨none, 0, rfl, Dq.nil_ _, hb1.trans (hb2.mono hb1.size)⟩
  | some d =>
    have k0 : geE s x = 0 := by unfold geE; rw [h0, hg]; rfl
    have k1 : geD s x = d := by unfold geD; rw [h0, hg]; rfl
    have k2 : fdB x s.l = true := by unfold fdB; rw [hg]; rfl
    have k3 := (hs.at_ (n := x) d).1 hg
    rw [k0, k1]
    rw [k2] at hfd
    obtain ⟨K, hK⟩ : ∃ K, K = fnd x s.l := ⟨_, rfl⟩
    rw [← hK] at hfd k3
    have hKn : K < n := by rw [← h.len]; exact (List.getElem?_eq_some_iff.1 k3).1
    obtain ⟨Q, h1, h2, h3⟩ := h
    obtain ⟨p, hp⟩ : ∃ p, Q[K]? = some p := ⟨_, List.getElem?_eq_getElem (by rw [h2.len]; exact hKn)⟩
    have hpd : p.2.l = d := by
      have := lst_at hp
      rw [h1, k3] at this
      injection this with this
      exact (congrArg Prod.snd this).symm
    have hdq := h3 p (List.mem_of_getElem? hp)
    obtain ⟨m, hmm⟩ : ∃ m, m = d.length := ⟨_, rfl⟩
    rw [← hmm]
    rw [hpd] at hdq
    have hrs := h2.r.rs
    obtain ⟨qb, qo, rfl, hqb, q0, q1⟩ := f_at hrs hp
    rw [hpd, ← hmm] at q1
    have hc1 : Cel (w.alloc (.cells #[I M, I rm, .slice (some ⟨qb, qo, none⟩) n c] 28)) w.heap.size 28 #[I M, I rm, .slice (some ⟨qb, qo, none⟩) n c] := Cel.new _ _ _
    have HM := Lib.hid hmm
    clear h0 k0 k1 k2 k3 hs hg hK h1 h2 h3 hp hpd hmm hrs q0
    go_enter Try.func16, Try.ntmps16
    go_wp2_with (first
      | (go_at_call 18; refine (hna _).mono ?_; rintro e w' ⟨rfl, rfl⟩)
      | (go_at_call 27; refine (hfd _ hb1).mono ?_; rintro e w2 ⟨rfl, hb2⟩; have hb3 := hb1.trans (hb2.mono hb1.size); have c2 := (Cel.on hc1 hb2).cell 2; simp at c2; have q2 := (hb3.cell (p := ⟨qb, qo + K * 2 + 1, none⟩) hqb).trans q1))
    go_ret2
    exact ⟨_, _, rfl, hdq.later hb3, hb3⟩
end Go.Proofs.Ytbeekfbcflmemaa.Fil
