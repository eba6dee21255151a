/-
  UnpFld UnpRun PacW5 PkrMath TopMath PkrW0 PkrW1 PkrW2 PkrW3 PkrW4 Ref10a Ref10b LstD Ref19a Law19a Recs ArgAgg BoolArg Law20t Law20h, one after another.
-/
import Derived.Test.YtcmonalnhdodmaaTopp2
import Derived.Deep.QuietTactic
import Derived.BigQuiet
import Derived.BigRegion
import Derived.OpenShut
import Derived.Deep.Slices
import Derived.Deep.Fields
import Derived.WideShapes
import Derived.ChangeSlices
import Derived.Test.YtcmonalnhdodmaaRows
import Derived.Deep.CutRange
import Derived.Deep.CutBlock

/-
  Plain mathematics: the pointer as it is looked for from the last boundary on; packets that are wrapped; what is kept of packets; frames that arrive.
-/
namespace Go.Proofs.Ytcmonalnhdodmaa.Unp
open Pac

section
variable {ps : List (List Byte)} {a e f j : Nat}
/-- the pointer, as far as the boundaries from j on are seen -/
def FstJ (ps : List (List Byte)) (a e f j : Nat) : Prop :=
  (f = 2047 ∧ ∀ q, j ≤ q → q < ps.length → ¬ (a ≤ bnd ps q ∧ bnd ps q < e)) ∨
  (∃ q, j ≤ q ∧ q < ps.length ∧ f = bnd ps q - a ∧ a ≤ bnd ps q ∧ bnd ps q < e ∧ ∀ q', j ≤ q' → q' < q → ¬ (a ≤ bnd ps q' ∧ bnd ps q' < e))
theorem FstJ.start : FstJ ps a e 2047 ps.length := .inl ⟨rfl, fun q h1 h2 => by omega⟩
theorem FstJ.yes (hj : j < ps.length) (h1 : a ≤ bnd ps j) (h2 : bnd ps j < e) : FstJ ps a e (bnd ps j - a) j := .inr ⟨j, Nat.le_refl _, hj, rfl, h1, h2, fun q' h3 h4 => by omega⟩
theorem FstJ.no (h : FstJ ps a e f (j + 1)) (hn : ¬ (a ≤ bnd ps j ∧ bnd ps j < e)) : FstJ ps a e f j := by
  rcases h with ⟨rfl, h1⟩ | ⟨q, h1, h2, rfl, h3, h4, h5⟩
  · refine .inl ⟨rfl, fun q h2 h3 => ?_⟩
    by_cases hq : q = j
    · rw [hq]; exact hn
    · exact h1 q (by omega) h3
  · refine .inr ⟨q, by omega, h2, rfl, h3, h4, fun q' h6 h7 => ?_⟩
    by_cases hq : q' = j
    · rw [hq]; exact hn
    · exact h5 q' (by omega) h7
theorem FstJ.done (h : FstJ ps a e f 0) : Fst ps a e f := by
  rcases h with ⟨rfl, h1⟩ | ⟨q, h1, h2, rfl, h3, h4, h5⟩
  · exact .inl ⟨rfl, fun q h2 => h1 q (Nat.zero_le _) h2⟩
  · exact .inr ⟨q, h2, rfl, h3, h4, fun q' h6 => h5 q' (Nat.zero_le _) h6⟩
theorem FstJ.le (h : FstJ ps a e f j) (hsz : e - a ≤ 2046) : f ≤ 2047 := by
  rcases h with ⟨rfl, _⟩ | ⟨q, _, _, rfl, h3, h4, _⟩ <;> omega
end

/-! ### the end of the stream -/
section
variable {ps : List (List Byte)} {i : Nat} {x : List Byte}
theorem Pos.last (hw : ∀ p ∈ ps, Wp p) (P : Pos ps ps.flatten.length i x) : i = ps.length ∧ x = [] := by
  have hal := P.al
  have hx : x = [] := by
    rcases P.x with h | ⟨p, t, hp, hpx, ht⟩
    · exact h
    · have h1 := bnd_next hp
      have h2 := bnd_top (ps := ps) (i + 1)
      have : 0 < t.length := List.length_pos_iff.2 ht
      rw [hpx, List.length_append] at h1
      omega
  subst hx
  refine ⟨?_, rfl⟩
  apply Classical.byContradiction
  intro c
  have hlt : i < ps.length := by have := P.le; omega
  have h1 := bnd_lt hw hlt
  have h2 := bnd_top (ps := ps) (i + 1)
  simp only [List.length_nil] at hal
  omega
end

section
variable {ps : List (List Byte)} {a e i i' f : Nat} {x x' : List Byte}
/-- a field that arrives in step -/
theorem step_in (hw : ∀ p ∈ ps, Wp p) (P : Pos ps a i x) (Q : Pos ps e i' x') (hae : a < e) (he : e ≤ ps.flatten.length) (F : Fst ps a e f) (hsz : e - a ≤ 2046) :
    prs (stm x (f : Int) ((ps.flatten.drop a).take (e - a))) = (((ps.take i').drop i).filter ni, x') ∧ (ps.take i').filter ni = (ps.take i).filter ni ++ ((ps.take i').drop i).filter ni := by
  have h := step hw P Q hae he F hsz true
  have e1 : kp true x = x := rfl
  have e2 : fro true i x = i := by unfold fro; rw [if_pos (.inl rfl)]
  have e3 : gdn true i i' x = true := by unfold gdn; split <;> rfl
  rw [e1, e2, e3, List.drop_take] at h
  refine ⟨h, ?_⟩
  have hle := (Pos.mid hw P Q (by omega)).2
  rw [← List.filter_append]
  congr 1
  have := List.take_append_drop i (ps.take i')
  rw [List.take_take, Nat.min_eq_left hle] at this
  exact this.symm
theorem Fst.lt (F : Fst ps a e f) (hsz : e - a ≤ 2046) : (f < e - a ∨ f = 2047) ∧ f ≠ 2046 := by
  rcases F with ⟨rfl, _⟩ | ⟨q, _, rfl, h3, h4, _⟩ <;> omega
end

/-! ### an unpacker that has got every field so far -/
/-- it expects count k -/
def Exp (s : US) (k : Nat) : Prop := (k = 0 ∧ s = US0) ∨ (s.bg = true ∧ s.ex = k % 256)
theorem Exp.dst {s : US} {k : Nat} (h : Exp s k) : dst s (k % 256) = 0 := by
  unfold Unp.dst
  rcases h with ⟨_, rfl⟩ | ⟨h1, h2⟩
  · rfl
  · rw [if_pos h1, h2]; omega
theorem Exp.take {s : US} {k f : Nat} {d : List Byte} (h : Exp s k) (hA : f < d.length ∨ f = 2047) (hf : f ≠ 2046) (hlo : s.lo = 0) :
    Exp (tkS s ((k % 256 : Nat) : Int) (f : Int) d) (k + 1) ∧ (tkS s ((k % 256 : Nat) : Int) (f : Int) d).lo = 0 ∧ (tkS s ((k % 256 : Nat) : Int) (f : Int) d).rs = (prs (stm s.rs f d)).2 ∧ tkO s ((k % 256 : Nat) : Int) (f : Int) d = (prs (stm s.rs f d)).1 := by
  have hd := h.dst
  have hArg : Arg ((k % 256 : Nat) : Int) (f : Int) d := ⟨by omega, by omega, by omega⟩
  have e1 : flw s (k % 256) = ⟨true, (k + 1) % 256, 0, s.rs⟩ := by
    unfold flw
    rw [hd, if_pos rfl, hlo]
    congr 1
    omega
  have e2 : (((k % 256 : Nat) : Int)).toNat = k % 256 := by omega
  unfold tkS tkO
  rw [if_pos hArg, if_neg (by omega), if_pos hArg, if_neg (by omega), e2, e1]
  exact ⟨.inr ⟨rfl, rfl⟩, rfl, rfl, rfl⟩
end Go.Proofs.Ytcmonalnhdodmaa.Unp

/-
  Plain mathematics of P20.4 with frames that are lost: frames of z bytes, what of a stream of packets is whole, an unpacker that follows.
-/
namespace Go.Proofs.Ytcmonalnhdodmaa.Unp
open Pac

/-- n frames from lo on have arrived -/
def alls (arr : Nat → Bool) (lo : Nat) : Nat → Bool
  | 0 => true
  | n + 1 => alls arr lo n && arr (lo + n)
/-- the packets of the first j that are not idle and of which W holds -/
def sel (ps : List (List Byte)) (W : Nat → Bool) : Nat → List (List Byte)
  | 0 => []
  | j + 1 => sel ps W j ++ (if ni (ps.getD j []) && W j then [ps.getD j []] else [])
/-- all frames of packet j have arrived -/
def Wt (ps : List (List Byte)) (z : Nat) (arr : Nat → Bool) (j : Nat) : Bool := alls arr (bnd ps j / z) ((bnd ps (j + 1) - 1) / z + 1 - bnd ps j / z)

section
variable {ps : List (List Byte)} {W : Nat → Bool} {arr : Nat → Bool} {z k i i' j a e f : Nat} {x x' d : List Byte} {gd : Bool}
theorem sel_succ (j : Nat) : sel ps W (j + 1) = sel ps W j ++ (if ni (ps.getD j []) && W j then [ps.getD j []] else []) := rfl
theorem sel_none (h : ∀ j, i ≤ j → j < i' → W j = false) (hi : i ≤ i') : sel ps W i' = sel ps W i := by
  obtain ⟨n, rfl⟩ := Nat.le.dest hi
  induction n with
  | zero => rfl
  | succ n ih =>
    have h2 := h (i + n) (by omega) (by omega)
    rw [← Nat.add_assoc, sel_succ, h2, Bool.and_false, if_neg (by simp), List.append_nil]
    exact ih (fun j h3 h4 => h j h3 (by omega)) (by omega)
theorem sel_all (h : ∀ j, i ≤ j → j < i' → W j = true) (hi : i ≤ i') (hl : i' ≤ ps.length) : sel ps W i' = sel ps W i ++ ((ps.take i').drop i).filter ni := by
  obtain ⟨n, rfl⟩ := Nat.le.dest hi
  induction n with
  | zero =>
    have : (ps.take i).drop i = [] := List.drop_eq_nil_of_le (by rw [List.length_take]; omega)
    simp [this]
  | succ n ih =>
    have h2 := h (i + n) (by omega) (by omega)
    have ih := ih (fun j h3 h4 => h j h3 (by omega)) (by omega) (by omega)
    have hp : ps[i + n]? = some (ps.getD (i + n) []) := by
      rw [List.getD_eq_getElem?_getD, List.getElem?_eq_getElem (by omega)]
      rfl
    have e1 : (ps.take (i + (n + 1))).drop i = (ps.take (i + n)).drop i ++ [ps.getD (i + n) []] := by
      rw [← Nat.add_assoc, List.take_add_one, hp, List.drop_append_of_le_length (by rw [List.length_take]; omega)]
      rfl
    rw [← Nat.add_assoc, sel_succ, ih, h2, Nat.add_assoc, e1, List.filter_append, List.append_assoc]
    obtain ⟨p0, hp0⟩ : ∃ p0, ps.getD (i + n) [] = p0 := ⟨_, rfl⟩
    rw [hp0]
    congr 1
    cases hn : ni p0 <;> simp [hn]

/-- frame k begins at position k z (or the stream has ended) -/
structure Rn (ps : List (List Byte)) (z : Nat) (arr : Nat → Bool) (k i : Nat) (x : List Byte) (gd : Bool) : Prop where
  p : Pos ps (min (k * z) ps.flatten.length) i x
  g : x ≠ [] → gd = alls arr (bnd ps i / z) (k - bnd ps i / z)
theorem Rn.start : Rn ps z arr 0 0 [] true := ⟨by rw [Nat.zero_mul, Nat.zero_min]; exact Pos.start, fun h => absurd rfl h⟩

theorem Pos.in_ (P : Pos ps a i x) (hx : x ≠ []) : bnd ps i < a ∧ a < bnd ps (i + 1) ∧ i < ps.length := by
  have hal := P.al
  rcases P.x with rfl | ⟨p, t, hp, hpx, ht⟩
  · exact absurd rfl hx
  have h0 : 0 < x.length := List.length_pos_iff.2 hx
  have ht0 : 0 < t.length := List.length_pos_iff.2 ht
  have hn := bnd_next hp
  rw [hpx, List.length_append] at hn
  exact ⟨by omega, by omega, (List.getElem?_eq_some_iff.1 hp).1⟩
theorem Pos.lo (P : Pos ps a i x) : bnd ps i ≤ a := by have := P.al; omega

/-- a frame -/
theorem Rn.step (hz : 0 < z) (hw : ∀ p ∈ ps, Wp p) (h : Rn ps z arr k i x gd) (hk : k * z < ps.flatten.length) :
    ∃ i' x', Pos ps (min ((k + 1) * z) ps.flatten.length) i' x' ∧ i ≤ i' ∧
      (arr k = true → Rn ps z arr (k + 1) i' x' (gdn gd i i' x) ∧ sel ps (Wt ps z arr) i' = sel ps (Wt ps z arr) i ++ ((ps.take i').drop (fro gd i x)).filter ni) ∧
      (arr k = false → Rn ps z arr (k + 1) i' x' false ∧ sel ps (Wt ps z arr) i' = sel ps (Wt ps z arr) i) := by
  obtain ⟨P, hg⟩ := h
  rw [Nat.min_eq_left (by omega)] at P
  obtain ⟨e, he⟩ : ∃ e, min ((k + 1) * z) ps.flatten.length = e := ⟨_, rfl⟩
  have hkz : (k + 1) * z = k * z + z := Nat.succ_mul k z
  obtain ⟨i', x', Q⟩ := Pos.ex (ps := ps) (a := e) (by omega) hw
  have hle := (Pos.mid hw P Q (by omega)).2
  rw [he]
  refine ⟨i', x', Q, hle, ?_⟩
  have hae : k * z < e := by omega
  have hee : e ≤ (k + 1) * z := by omega
  have hPlo := P.lo
  have hQlo := Q.lo
  -- the frames of a packet that begins in frame k and ends in it
  have hF : ∀ q, k * z ≤ q → q < (k + 1) * z → q / z = k := fun q h1 h2 => Nat.div_eq_of_lt_le h1 h2
  have hb7 : ∀ j, j < i' → bnd ps j + 7 ≤ bnd ps (j + 1) ∧ bnd ps (j + 1) ≤ bnd ps i' := fun j hj => ⟨bnd_lt hw (by have := Q.le; omega), bnd_le hj⟩
  have hto : ∀ j, j < i' → k * z < bnd ps (j + 1) → (bnd ps (j + 1) - 1) / z = k := fun j hj h1 => hF _ (by omega) (by have := (hb7 j hj).2; omega)
  have hnew : ∀ j, j < i' → k * z ≤ bnd ps j → Wt ps z arr j = arr k := fun j hj h1 => by
    have h7 := hb7 j hj
    unfold Wt
    rw [hto j hj (by omega), hF _ h1 (by omega), show k + 1 - k = 0 + 1 by omega]
    show (true && arr (k + 0)) = arr k
    simp
  have hbeg : ∀ j, i ≤ j → (x = [] ∨ i < j) → k * z ≤ bnd ps j := fun j h1 h2 => by
    rcases h2 with rfl | h2
    · have := P.al
      have := bnd_le (ps := ps) h1
      simp only [List.length_nil] at *
      omega
    · by_cases hx : x = []
      · subst hx
        have := P.al
        have := bnd_le (ps := ps) h1
        simp only [List.length_nil] at *
        omega
      · have := (P.in_ hx).2.1
        have := bnd_le (ps := ps) (i := i + 1) (j := j) h2
        omega
  have hFi : x ≠ [] → bnd ps i / z ≤ k := fun hx => Nat.div_le_of_le_mul (by have := (P.in_ hx).1; rw [Nat.mul_comm]; omega)
  have hFi' : x' ≠ [] → bnd ps i' / z ≤ k := fun hx => Nat.lt_succ_iff.1 ((Nat.div_lt_iff_lt_mul hz).2 (show bnd ps i' < (k + 1) * z by have := (Q.in_ hx).1; omega))
  have hwi : x ≠ [] → i < i' → Wt ps z arr i = (gd && arr k) := fun hx hi => by
    unfold Wt
    rw [hto i hi (P.in_ hx).2.1, show k + 1 - bnd ps i / z = (k - bnd ps i / z) + 1 by have := hFi hx; omega]
    show (alls arr (bnd ps i / z) (k - bnd ps i / z) && arr (bnd ps i / z + (k - bnd ps i / z))) = _
    rw [← hg hx, show bnd ps i / z + (k - bnd ps i / z) = k by have := hFi hx; omega]
  refine ⟨fun ha => ⟨⟨by rw [he]; exact Q, fun hx' => ?_⟩, ?_⟩, fun ha => ⟨⟨by rw [he]; exact Q, fun hx' => ?_⟩, ?_⟩⟩
  · unfold gdn
    by_cases hc : i' = i ∧ x ≠ []
    · obtain ⟨rfl, hx⟩ := hc
      rw [if_pos ⟨rfl, hx⟩, show k + 1 - bnd ps i' / z = (k - bnd ps i' / z) + 1 by have := hFi hx; omega]
      show gd = (alls arr (bnd ps i' / z) (k - bnd ps i' / z) && arr (bnd ps i' / z + (k - bnd ps i' / z)))
      rw [← hg hx, show bnd ps i' / z + (k - bnd ps i' / z) = k by have := hFi hx; omega, ha, Bool.and_true]
    · rw [if_neg hc]
      have hb : k * z ≤ bnd ps i' := hbeg i' hle (by
        by_cases hx : x = []
        · exact .inl hx
        · exact .inr (by have : i' ≠ i := fun e => hc ⟨e, hx⟩; omega))
      rw [hF _ hb (by have := (Q.in_ hx').1; omega), show k + 1 - k = 0 + 1 by omega]
      show true = (true && arr (k + 0))
      simp [ha]
  · unfold fro
    by_cases hc : gd = true ∨ x = []
    · rw [if_pos hc]
      refine sel_all (fun j h1 h2 => ?_) hle Q.le
      by_cases hj : x = [] ∨ i < j
      · rw [hnew j h2 (hbeg j h1 hj), ha]
      · have hji : j = i := by omega
        have hx : x ≠ [] := fun e => hj (.inl e)
        subst hji
        rw [hwi hx h2, ha]
        rcases hc with hc | hc
        · rw [hc]; rfl
        · exact absurd hc hx
    · rw [if_neg hc]
      have hgf : gd = false := by cases gd with | false => rfl | true => exact absurd (.inl rfl) hc
      have hx : x ≠ [] := fun e => hc (.inr e)
      by_cases hi : i < i'
      · have e1 : sel ps (Wt ps z arr) (i + 1) = sel ps (Wt ps z arr) i := sel_none (fun j h1 h2 => by
          obtain rfl : j = i := by omega
          rw [hwi hx hi, hgf]; rfl) (by omega)
        rw [← e1]
        exact sel_all (fun j h1 h2 => by rw [hnew j h2 (hbeg j (by omega) (.inr (by omega))), ha]) (by omega) Q.le
      · obtain rfl : i' = i := by omega
        have : (ps.take i').drop (i' + 1) = [] := List.drop_eq_nil_of_le (by rw [List.length_take]; omega)
        rw [this]; simp
  · rw [show k + 1 - bnd ps i' / z = (k - bnd ps i' / z) + 1 by have := hFi' hx'; omega]
    show false = (alls arr (bnd ps i' / z) (k - bnd ps i' / z) && arr (bnd ps i' / z + (k - bnd ps i' / z)))
    rw [show bnd ps i' / z + (k - bnd ps i' / z) = k by have := hFi' hx'; omega, ha, Bool.and_false]
  · refine sel_none (fun j h1 h2 => ?_) hle
    by_cases hj : x = [] ∨ i < j
    · rw [hnew j h2 (hbeg j h1 hj), ha]
    · have hji : j = i := by omega
      have hx : x ≠ [] := fun e => hj (.inl e)
      subst hji
      rw [hwi hx h2, ha, Bool.and_false]
end

/-! ### an unpacker that follows -/
/-- behind frame k of a channel that counts from st on; b: the last frame that arrived; what it would go on with is r -/
inductive Vw (s : US) (st k : Nat) (r : List Byte) : Option Nat → Prop
  | none_ (h1 : s = US0) (h2 : r = []) : Vw s st k r none
  | some_ (b : Nat) (h1 : b < k) (h2 : s.bg = true) (h3 : s.ex = (st + b + 1) % 256) (h4 : b + 1 = k → s.rs = r) (h5 : b + 1 < k → r = []) (h6 : k ≤ b + 256) : Vw s st k r (some b)
section
variable {s : US} {st k f : Nat} {r d : List Byte} {o : Option Nat}
theorem Vw.skip (h : Vw s st k r o) (hk : k + 1 ≤ 256) : Vw s st (k + 1) [] o := by
  cases h with
  | none_ h1 h2 => exact .none_ h1 rfl
  | some_ b h1 h2 h3 h4 h5 h6 => exact .some_ b (by omega) h2 h3 (fun e => by omega) (fun _ => rfl) (by omega)
/-- how many frames are missing -/
def msn (o : Option Nat) (k : Nat) : Nat := match o with | none => 0 | some b => k - b - 1
theorem Vw.take (h : Vw s st k r o) (hA : f < d.length ∨ f = 2047) (hf : f ≠ 2046) :
    Vw (tkS s (((st + k) % 256 : Nat) : Int) (f : Int) d) st (k + 1) (prs (stm r f d)).2 (some k) ∧ (tkS s (((st + k) % 256 : Nat) : Int) (f : Int) d).lo = s.lo + msn o k ∧ tkO s (((st + k) % 256 : Nat) : Int) (f : Int) d = (prs (stm r f d)).1 := by
  have hArg : Arg (((st + k) % 256 : Nat) : Int) (f : Int) d := ⟨by omega, by omega, by omega⟩
  have e2 : ((((st + k) % 256 : Nat) : Int)).toNat = (st + k) % 256 := by omega
  have e1 : flw s ((st + k) % 256) = ⟨true, (st + k + 1) % 256, s.lo + msn o k, r⟩ := by
    unfold flw
    cases h with
    | none_ h1 h2 =>
      subst h1 h2
      simp only [dst, US0, msn]
      congr 1
      omega
    | some_ b h1 h2 h3 h4 h5 h6 =>
      have hd : dst s ((st + k) % 256) = k - b - 1 := by
        unfold dst
        rw [if_pos h2, h3]
        omega
      rw [hd]
      simp only [msn]
      have e3 : ((st + k) % 256 + 1) % 256 = (st + k + 1) % 256 := by omega
      have e4 : (if k - b - 1 = 0 then s.rs else []) = r := by
        by_cases hb : b + 1 = k
        · rw [if_pos (by omega), h4 hb]
        · rw [if_neg (by omega), h5 (by omega)]
      rw [e3, e4]
  unfold tkS tkO
  rw [if_pos hArg, if_neg (by omega), if_pos hArg, if_neg (by omega), e2, e1]
  exact ⟨.some_ k (by omega) rfl rfl (fun _ => rfl) (fun h => by omega) (by omega), rfl, rfl⟩
end
end Go.Proofs.Ytcmonalnhdodmaa.Unp

/-
  The walk of package packet's Idle.
-/
namespace Go.Proofs.Ytcmonalnhdodmaa.Pac
open Go.RowKit

/-- the idle packet with n bytes of data -/
def idP (n : Nat) : Pk := ⟨false, false, 2047, 3, 0, List.replicate n 0#8⟩
theorem idP_ok {n : Nat} (h1 : 1 ≤ n) (h2 : n ≤ 4090) : (idP n).ok = true := by
  have hF : (idP n).Fits := by
    unfold Pk.Fits idP
    simp only [List.length_replicate]
    omega
  rw [Pk.ok_idle hF rfl]
  unfold Pk.idle
  simp [idP, zer_rep]
/-- what Idle hands back -/
def idV (s : Int) : List Byte := if 7 ≤ s ∧ s ≤ 4096 then (idP (s - 6).toNat).enc else []
def idE (s : Int) : Int := if 7 ≤ s ∧ s ≤ 4096 then 0 else 1
theorem id_no {s : Int} (h : ¬ (7 ≤ s ∧ s ≤ 4096)) : idV s = [] ∧ idE s = 1 := by unfold idV idE; rw [if_neg h, if_neg h]; exact ⟨rfl, rfl⟩
theorem id_yes {s : Int} (h : 7 ≤ s ∧ s ≤ 4096) : idV s = (idP (s - 6).toNat).enc ∧ idE s = 0 := by unfold idV idE; rw [if_pos h, if_pos h]; exact ⟨rfl, rfl⟩

theorem made_zero (n : Nat) : (madeCells (Value.int .u8 0).cells (n * 1)).toList = (List.replicate n (0#8)).map B8 := by
  have : (Value.int .u8 0).cells = #[.int .u8 0] := rfl
  rw [this, toList_madeCells_one, Nat.mul_one, List.map_replicate]
  rfl
theorem Ow_bs {w : World} {base n c : Nat} {e : TypeId} {A : Option Addr} {l : List Byte} (h : Ow w base e (.slice A n c) l) : Bs w w.heap.size A l := by
  obtain ⟨A', c', heq, hb, _⟩ := h.reads
  injection heq with h1 h2 h3
  subst h1
  exact hb

set_option maxHeartbeats 1000000 in
theorem idle_any (s : Int) (w : World) (hs : -9223372036854775808 ≤ s ∧ s ≤ 9223372036854775807) :
    Calls Try.prog 54 #[.int .i64 s] w fun e w' => ∃ v, e = .returned (.tuple #[v, .int .i64 (idE s)]) ∧ Ow w' w.heap.size 5 v (idV s) ∧ Below w.heap.size w w' := by
  by_cases h1 : s ≤ 6
  · rw [(id_no (s := s) (by omega)).1, (id_no (s := s) (by omega)).2]
    have g1 : decide (s ≤ 6) = true := by simpa using h1
    go_enter Try.func54, Try.ntmps54
    go_wp2
    go_ret2
    exact ⟨_, rfl, Ow_nil _ _, Below.refl _ _⟩
  · have g1 : decide (s ≤ 6) = false := by simpa using h1
    by_cases h2 : 4096 < s
    · rw [(id_no (s := s) (by omega)).1, (id_no (s := s) (by omega)).2]
      have g2 : decide (4096 < s) = true := by simpa using h2
      go_enter Try.func54, Try.ntmps54
      go_wp2
      go_ret2
      exact ⟨_, rfl, Ow_nil _ _, Below.refl _ _⟩
    · have g2 : decide (4096 < s) = false := by simpa using h2
      obtain ⟨e1, e2⟩ := id_yes (s := s) (by omega)
      rw [e1, e2]
      obtain ⟨M, hM⟩ : ∃ M : Nat, s - 6 = (M : Int) := ⟨(s - 6).toNat, by omega⟩
      have hM2 : (s - 6).toNat = M := by omega
      have hM3 : M ≤ 4090 := by omega
      have hM4 : 1 ≤ M := by omega
      have h3 : (6 : Int) < s := by omega
      have h4 : s ≤ 4096 := by omega
      rw [hM2]
      have hen := fun W (hB : Bs W W.heap.size (some ⟨w.heap.size, 0, none⟩) (List.replicate M 0#8)) => encode_any false false 2047 3 0 (some ⟨w.heap.size, 0, none⟩) (List.replicate M 0#8) M M W (Lib.hid (by simp)) hB (fun h => nomatch h) (by unfold maxLen; omega)
      have hie := Pk.err_yes (idP_ok hM4 hM3)
      have hid : idP M = ⟨false, false, 2047, 3, 0, List.replicate M 0#8⟩ := rfl
      rw [← hid, hie] at hen
      obtain ⟨E, hE⟩ : ∃ E, E = (idP M).enc := ⟨_, rfl⟩
      rw [← hE] at hen ⊢
      obtain ⟨hu, _, i0, hi, hz0, hz1, hz2⟩ := is_bytes
      clear hE hid hie hM2 e1 e2 h1 h2
      go_enter Try.func54, Try.ntmps54
      go_wp2_with (first
        | (at_make; refine wpList_make_full _ rfl _ _ 26 rfl w.heap.size 5 i0 _ 1 hu hi hz0 hz1 .i64 .i64 _ _ M rfl rfl (by omega) (by omega) (by rw [hz2]; omega) (by unfold maxLen; omega) (Nat.le_refl _) ?_; intro w1 hown1 hgrow1; have bel1 := (Below.refl w.heap.size w).grown hgrow1 (Nat.le_refl _) (by simp)))
      have ho1 : Ow w1 w.heap.size 5 (.slice (some ⟨w.heap.size, 0, none⟩) M M) (List.replicate M (0#8)) := by
        unfold Ow
        rw [← made_zero, List.length_replicate]
        exact hown1
      refine (hen w1 (Ow_bs ho1)).mono ?_
      rintro e w2 ⟨v, rfl, hown2, hb2⟩
      clear hown1 hgrow1 hu hi hz0 hz1 hz2 ho1 hen
      go_wp2
      go_ret2
      exact ⟨v, rfl, hown2.more bel1.size, bel1.trans (hb2.mono bel1.size)⟩
end Go.Proofs.Ytcmonalnhdodmaa.Pac

/-
  Plain mathematics of the packer: packets that wait, the rest of an idle packet, what Push and Next do; the reference's state beside it.
-/
namespace Go.Proofs.Ytcmonalnhdodmaa.Pkr
open Pac

/-- the encoding of one packet that is not idle -/
structure Pkt (l : List Byte) : Prop where
  e : deE l = 0
  n : deN l = l.length
  a : (deP l).ap ≠ 2047
instance (l : List Byte) : Decidable (Pkt l) := decidable_of_iff (deE l = 0 ∧ deN l = l.length ∧ (deP l).ap ≠ 2047) ⟨fun h => ⟨h.1, h.2.1, h.2.2⟩, fun h => ⟨h.e, h.n, h.a⟩⟩

/-- a whole packet is read whatever follows it -/
theorem whole {p : Pk} (h : p.ok = true) (r : List Byte) : deE (p.enc ++ r) = 0 ∧ deP (p.enc ++ r) = p ∧ deN (p.enc ++ r) = p.enc.length ∧ siE (p.enc ++ r) = 0 ∧ siN (p.enc ++ r) = p.enc.length ∧ 7 ≤ p.enc.length ∧ p.enc.length ≤ 4096 := by
  obtain ⟨h1, h2, h3⟩ := dec_enc h r
  obtain ⟨z1, z2, z3⟩ := de_zero h1
  obtain ⟨_, _, g3⟩ := de_good z1 z2 z3
  obtain ⟨s1, s2, s3⟩ := siE_zero z1
  obtain ⟨_, s5⟩ := siE_good s1 s2 s3
  have ht : p.enc.length = tot (p.enc ++ r) := by rw [← h3, g3]
  refine ⟨h1, h2, h3, z1, by rw [s5, ht], ?_, by omega⟩
  rw [ht]; unfold tot; omega
theorem enc_len {p : Pk} (h : p.ok = true) : p.enc.length = 6 + p.d.length := by
  rw [Pk.enc_yes h, List.length_append]; rfl
theorem Pkt.enc {l : List Byte} (h : Pkt l) : (deP l).ok = true ∧ (deP l).enc = l := by
  obtain ⟨h1, h2, _⟩ := enc_dec h.e
  rw [h.n, List.take_length] at h2
  exact ⟨h1, h2⟩
theorem Pkt.whole {l : List Byte} (h : Pkt l) (r : List Byte) : deE (l ++ r) = 0 ∧ (deP (l ++ r)).ap ≠ 2047 ∧ deN (l ++ r) = l.length ∧ siE (l ++ r) = 0 ∧ siN (l ++ r) = l.length ∧ 7 ≤ l.length ∧ l.length ≤ 4096 := by
  obtain ⟨h1, h2⟩ := h.enc
  have := Pkr.whole h1 r
  rw [h2] at this
  exact ⟨this.1, by rw [this.2.1]; exact h.a, this.2.2⟩
theorem Pkt.seven {l : List Byte} (h : Pkt l) : 7 ≤ l.length := (h.whole []).2.2.2.2.2.1
theorem Pkt.most {l : List Byte} (h : Pkt l) : l.length ≤ 4096 := (h.whole []).2.2.2.2.2.2
theorem Pkt.of {p : Pk} (h : p.ok = true) (ha : p.ap ≠ 2047) : Pkt p.enc := by
  have := Pkr.whole h []
  rw [List.append_nil] at this
  exact ⟨this.1, this.2.2.1, by rw [this.2.1]; exact ha⟩

/-- the idle packet that fills m bytes -/
def fil (m : Nat) : List Byte := idV ((max m 7 : Nat) : Int)
theorem fil_idP {m : Nat} (h : m ≤ 4096) : ∃ k, 1 ≤ k ∧ k ≤ 4090 ∧ fil m = (idP k).enc ∧ (max m 7) = 6 + k := by
  obtain ⟨e1, _⟩ := id_yes (s := ((max m 7 : Nat) : Int)) (by omega)
  refine ⟨(((max m 7 : Nat) : Int) - 6).toNat, by omega, by omega, e1, by omega⟩
theorem fil_len {m : Nat} (h : m ≤ 4096) : (fil m).length = max m 7 := by
  obtain ⟨k, h1, h2, h3, h4⟩ := fil_idP h
  rw [h3, h4, enc_len (idP_ok h1 h2)]
  simp [idP]
theorem fil_whole {m : Nat} (h : m ≤ 4096) (r : List Byte) : deE (fil m ++ r) = 0 ∧ (deP (fil m ++ r)).ap = 2047 ∧ deN (fil m ++ r) = max m 7 := by
  obtain ⟨k, h1, h2, h3, h4⟩ := fil_idP h
  have := Pkr.whole (idP_ok h1 h2) r
  rw [h3]
  refine ⟨this.1, by rw [this.2.1]; rfl, ?_⟩
  rw [this.2.2.1, h4, enc_len (idP_ok h1 h2)]
  simp [idP]
/-- the idle packet of seven bytes -/
def sev : List Byte := fil 0
theorem sev_len : sev.length = 7 := fil_len (by omega)
theorem fil_sev {m : Nat} (h : m ≤ 7) : fil m = sev := by unfold fil sev fil; rw [show max m 7 = max 0 7 by omega]
theorem sev_val : sev = [7#8, 255#8, 192#8, 0#8, 0#8, 0#8, 0#8] := by decide +kernel

/-- a packer's state: what is left of an idle packet, of a packet that has begun; the packets behind it -/
structure PS where
  rs : List Byte
  fb : List Byte
  ls : List (List Byte)
/-- the bytes that wait -/
def PS.wt (s : PS) : List Byte := s.fb ++ s.ls.flatten
structure PS.Ok (R : Nat) (s : PS) : Prop where
  p : ∀ x ∈ s.ls, Pkt x
  r : s.rs.length ≤ 6
  w : s.wt.length ≤ R

/-- n bytes are taken -/
def cut : List Byte → List (List Byte) → Nat → List Byte × List (List Byte)
  | f, [], n => (f.drop n, [])
  | f, x :: ls, n => if n ≤ f.length then (f.drop n, x :: ls) else cut x ls (n - f.length)
theorem cut_le {f : List Byte} {ls : List (List Byte)} {n : Nat} (h : n ≤ f.length) : cut f ls n = (f.drop n, ls) := by
  cases ls with
  | nil => rfl
  | cons x ls => unfold cut; rw [if_pos h]
theorem cut_gt {f x : List Byte} {ls : List (List Byte)} {n : Nat} (h : f.length < n) : cut f (x :: ls) n = cut x ls (n - f.length) := by
  conv => lhs; unfold cut
  rw [if_neg (by omega)]
theorem cut_wt (ls : List (List Byte)) : ∀ (f : List Byte) (n : Nat), (cut f ls n).1 ++ (cut f ls n).2.flatten = (f ++ ls.flatten).drop n := by
  induction ls with
  | nil => intro f n; simp [cut]
  | cons x ls ih =>
    intro f n
    by_cases h : n ≤ f.length
    · rw [cut_le h]
      simp only
      rw [List.drop_append_of_le_length h]
    · rw [cut_gt (by omega), ih, List.flatten_cons, List.drop_append (l₁ := f), List.drop_eq_nil_of_le («as» := f) (by omega), List.nil_append]
theorem cut_mem (ls : List (List Byte)) : ∀ (f : List Byte) (n : Nat), ∀ x ∈ (cut f ls n).2, x ∈ ls := by
  induction ls with
  | nil => intro f n x hx; simp [cut] at hx
  | cons y ls ih =>
    intro f n x hx
    by_cases h : n ≤ f.length
    · rw [cut_le h] at hx; exact hx
    · rw [cut_gt (by omega)] at hx; exact List.mem_cons_of_mem _ (ih _ _ _ hx)
theorem cut_add (ls : List (List Byte)) : ∀ (f : List Byte) (j k : Nat), cut (cut f ls j).1 (cut f ls j).2 k = cut f ls (j + k) := by
  induction ls with
  | nil => intro f j k; simp [cut]
  | cons x ls ih =>
    intro f j k
    by_cases h : j ≤ f.length
    · rw [cut_le h]
      simp only
      by_cases h2 : j + k ≤ f.length
      · rw [cut_le h2, cut_le (by rw [List.length_drop]; omega), List.drop_drop]
      · rw [cut_gt (by rw [List.length_drop]; omega), cut_gt (by omega), List.length_drop]
        congr 1
        omega
    · rw [cut_gt (by omega), ih, cut_gt (by omega)]
      congr 1
      omega
/-- where the cut goes through: the packets before it, the one that it parts last -/
theorem cut_split (ls : List (List Byte)) : ∀ (f : List Byte) (n : Nat), f.length < n → n ≤ (f ++ ls.flatten).length →
    ∃ mid y, ls = (mid ++ [y]) ++ (cut f ls n).2 ∧ (cut f ls n).1.length < y.length ∧ n + (cut f ls n).1.length = f.length + (mid ++ [y]).flatten.length := by
  induction ls with
  | nil => intro f n h1 h2; simp at h2; omega
  | cons x ls ih =>
    intro f n h1 h2
    rw [cut_gt h1]
    rw [List.flatten_cons, List.length_append, List.length_append] at h2
    by_cases h : n - f.length ≤ x.length
    · rw [cut_le h]
      exact ⟨[], x, by simp, by simp only [List.length_drop]; omega, by simp; omega⟩
    · obtain ⟨mid, y, e1, e2, e3⟩ := ih x (n - f.length) (by omega) (by rw [List.length_append]; omega)
      refine ⟨x :: mid, y, ?_, e2, ?_⟩
      · rw [List.cons_append, List.cons_append, ← e1]
      · rw [List.cons_append, List.flatten_cons, List.length_append]; omega

/-- what Push answers and leaves -/
def psE (R : Nat) (l : List Byte) (s : PS) : Int := if Pkt l then (if R < s.wt.length + l.length then 7 else 0) else 1
def psS (R : Nat) (l : List Byte) (s : PS) : PS := if psE R l s = 0 then { s with ls := s.ls ++ [l] } else s
theorem push_wt (s : PS) (l : List Byte) : PS.wt { s with ls := s.ls ++ [l] } = s.wt ++ l := by
  unfold PS.wt
  simp
theorem ps_no {R : Nat} {l : List Byte} {s : PS} (h : ¬ Pkt l) : psE R l s = 1 ∧ psS R l s = s := by
  have e : psE R l s = 1 := by unfold psE; rw [if_neg h]
  exact ⟨e, by unfold psS; rw [e]; rfl⟩
theorem ps_full {R : Nat} {l : List Byte} {s : PS} (h : Pkt l) (h2 : R < s.wt.length + l.length) : psE R l s = 7 ∧ psS R l s = s := by
  have e : psE R l s = 7 := by unfold psE; rw [if_pos h, if_pos h2]
  exact ⟨e, by unfold psS; rw [e]; rfl⟩
theorem ps_yes {R : Nat} {l : List Byte} {s : PS} (h : Pkt l) (h2 : ¬ R < s.wt.length + l.length) : psE R l s = 0 ∧ psS R l s = { s with ls := s.ls ++ [l] } := by
  have e : psE R l s = 0 := by unfold psE; rw [if_pos h, if_neg h2]
  exact ⟨e, by unfold psS; rw [if_pos e]⟩
theorem PS.Ok.push {R : Nat} {s : PS} (h : s.Ok R) {l : List Byte} (hl : Pkt l) (h2 : ¬ R < s.wt.length + l.length) : PS.Ok R { s with ls := s.ls ++ [l] } :=
  ⟨fun x hx => by
    rcases List.mem_append.1 hx with h1 | h1
    · exact h.p x h1
    · rw [List.mem_singleton.1 h1]; exact hl, h.r, by rw [push_wt, List.length_append]; omega⟩

/-- n bytes of the rest are taken; of what waits; an idle packet is begun -/
def PS.rest (s : PS) (n : Nat) : PS := { s with rs := s.rs.drop n }
def PS.take (s : PS) (n : Nat) : PS := { s with fb := (cut s.fb s.ls (min n s.wt.length)).1, ls := (cut s.fb s.ls (min n s.wt.length)).2 }
def PS.idle (s : PS) (m : Nat) : PS := { s with rs := if m = 0 then s.rs else (fil m).drop m }
theorem PS.take_wt (s : PS) (n : Nat) : (s.take n).wt = s.wt.drop n := by
  have h : (s.take n).wt = s.wt.drop (min n s.wt.length) := cut_wt _ _ _
  rw [h]
  by_cases hn : n ≤ s.wt.length
  · rw [Nat.min_eq_left hn]
  · rw [Nat.min_eq_right (by omega), List.drop_eq_nil_of_le (Nat.le_refl _), List.drop_eq_nil_of_le (by omega)]
theorem PS.Ok.rest {R n : Nat} {s : PS} (h : s.Ok R) : (s.rest n).Ok R := ⟨h.p, by show (s.rs.drop n).length ≤ 6; rw [List.length_drop]; have := h.r; omega, h.w⟩
theorem PS.Ok.take {R n : Nat} {s : PS} (h : s.Ok R) : (s.take n).Ok R :=
  ⟨fun x hx => h.p x (cut_mem _ _ _ x hx), h.r, by rw [PS.take_wt, List.length_drop]; have := h.w; omega⟩
theorem fil_drop {m : Nat} (h0 : 0 < m) (h : m ≤ 4096) : ((fil m).drop m).length = 7 - m := by rw [List.length_drop, fil_len h]; omega
theorem PS.Ok.idle {R m : Nat} {s : PS} (h : s.Ok R) (hm : m ≤ 4096) : (s.idle m).Ok R := by
  refine ⟨h.p, ?_, h.w⟩
  show (if m = 0 then s.rs else (fil m).drop m).length ≤ 6
  by_cases h0 : m = 0
  · rw [if_pos h0]; exact h.r
  · rw [if_neg h0, fil_drop (by omega) hm]; omega

/-- what Next leaves, the data field, the pointer -/
def nxA (Z : Nat) (s : PS) : Nat := Z - (s.rs.take Z).length
def nxB (Z : Nat) (s : PS) : Nat := nxA Z s - (s.wt.take (nxA Z s)).length
def nxS (Z : Nat) (s : PS) : PS := ((s.rest Z).take (nxA Z s)).idle (nxB Z s)
def nxF (Z : Nat) (s : PS) : List Byte := s.rs.take Z ++ s.wt.take (nxA Z s) ++ (fil (nxB Z s)).take (nxB Z s)
def nxP (Z : Nat) (s : PS) : Nat := if Z ≤ s.rs.length + s.fb.length then 2047 else s.rs.length + s.fb.length
theorem nxB_le (Z : Nat) (s : PS) : nxB Z s ≤ Z := by unfold nxB nxA; omega
theorem nxF_len {Z : Nat} {s : PS} (h : Z ≤ 1012) : (nxF Z s).length = Z := by
  have h1 := nxB_le Z s
  have h2 : (s.rs.take Z).length ≤ Z := by rw [List.length_take]; omega
  have h3 : (s.wt.take (nxA Z s)).length ≤ nxA Z s := by rw [List.length_take]; omega
  have h4 : ((fil (nxB Z s)).take (nxB Z s)).length = nxB Z s := by rw [List.length_take, fil_len (by omega)]; omega
  unfold nxF
  rw [List.length_append, List.length_append, h4]
  have : nxB Z s = nxA Z s - (s.wt.take (nxA Z s)).length := rfl
  have : nxA Z s = Z - (s.rs.take Z).length := rfl
  omega
theorem PS.Ok.next {R Z : Nat} {s : PS} (h : s.Ok R) (hZ : Z ≤ 1012) : (nxS Z s).Ok R := (h.rest.take).idle (by have := nxB_le Z s; omega)
theorem nx_wt (Z : Nat) (s : PS) : (nxS Z s).wt = s.wt.drop (nxA Z s) := PS.take_wt (s.rest Z) _

/-! ### the loop of takeWaiting -/
/-- end is where the bytes F end, behind which the packets S wait; what is to be taken are n bytes -/
structure Tw (s : PS) (n : Nat) (F : List Byte) (S : List (List Byte)) (e : Nat) : Prop where
  le : F.length ≤ e
  fit : s.wt.drop e = S.flatten
  el : e ≤ s.wt.length
  lo : e - F.length ≤ n
  c : cut s.fb s.ls n = cut F S (n - (e - F.length))
  p : ∀ x ∈ S, Pkt x
theorem Tw.start {R : Nat} {s : PS} (h : s.Ok R) (n : Nat) : Tw s n s.fb s.ls s.fb.length :=
  ⟨Nat.le_refl _, by unfold PS.wt; rw [List.drop_left], by unfold PS.wt; rw [List.length_append]; omega, by omega, by rw [Nat.sub_self, Nat.sub_zero], h.p⟩
theorem Tw.step {s : PS} {n e : Nat} {F : List Byte} {S : List (List Byte)} (h : Tw s n F S e) (hn : n ≤ s.wt.length) (he : e < n) :
    ∃ x S', S = x :: S' ∧ siN (s.wt.drop e) = x.length ∧ siE (s.wt.drop e) = 0 ∧ Tw s n x S' (e + x.length) ∧ 7 ≤ x.length ∧ x.length ≤ 4096 := by
  obtain ⟨h1, h2, h3, h4, h5, h6⟩ := h
  cases S with
  | nil =>
    have := congrArg List.length h2
    rw [List.length_drop] at this
    simp at this
    omega
  | cons x S' =>
    have hx := h6 x (by simp)
    obtain ⟨_, _, _, w4, w5, w6, w7⟩ := hx.whole S'.flatten
    rw [← List.flatten_cons, ← h2] at w4 w5
    have hl : (s.wt.drop e).length = x.length + S'.flatten.length := by rw [h2, List.flatten_cons, List.length_append]
    rw [List.length_drop] at hl
    refine ⟨x, S', rfl, w5, w4, ⟨by omega, ?_, by omega, by omega, ?_, fun y hy => h6 y (List.mem_cons_of_mem _ hy)⟩, w6, w7⟩
    · rw [← List.drop_drop, h2, List.flatten_cons, List.drop_left]
    · rw [h5, cut_gt (by omega)]
      congr 1
      omega
theorem Tw.stop {s : PS} {n e : Nat} {F : List Byte} {S : List (List Byte)} (h : Tw s n F S e) (he : n ≤ e) : (cut s.fb s.ls n).1.length = e - n := by
  rw [h.c, cut_le (by have := h.lo; have := h.le; omega)]
  simp only [List.length_drop]
  have := h.lo
  have := h.le
  omega

/-! ### the reference's state -/
/-- the reference's list and the number of bytes taken of its first packet -/
def RK (Lr : List (List Byte)) (Tk : Nat) (f : List Byte) (ls : List (List Byte)) : Prop :=
  (Tk = 0 ∧ f = [] ∧ ls = Lr) ∨ ∃ x, 0 < Tk ∧ Tk < x.length ∧ Lr = x :: ls ∧ f = x.drop Tk
structure RR (Re : Nat) (Lr : List (List Byte)) (Tk : Nat) (s : PS) : Prop where
  r : Re ≤ 6
  rs : s.rs = sev.drop (7 - Re)
  k : RK Lr Tk s.fb s.ls
  p : ∀ x ∈ Lr, Pkt x
theorem RR.rl {Re Tk : Nat} {Lr : List (List Byte)} {s : PS} (h : RR Re Lr Tk s) : s.rs.length = Re := by
  rw [h.rs, List.length_drop, sev_len]; have := h.r; omega
theorem RK.flat {Lr ls : List (List Byte)} {Tk : Nat} {f : List Byte} (h : RK Lr Tk f ls) : Lr.flatten.drop Tk = f ++ ls.flatten ∧ Tk ≤ Lr.flatten.length := by
  rcases h with ⟨rfl, rfl, rfl⟩ | ⟨x, h1, h2, rfl, rfl⟩
  · exact ⟨by simp, Nat.zero_le _⟩
  · rw [List.flatten_cons, List.drop_append_of_le_length (by omega), List.length_append]
    exact ⟨rfl, by omega⟩
theorem RR.left {Re Tk : Nat} {Lr : List (List Byte)} {s : PS} (h : RR Re Lr Tk s) : Tk + s.wt.length = Lr.flatten.length := by
  obtain ⟨h1, h2⟩ := h.k.flat
  have := congrArg List.length h1
  rw [List.length_drop] at this
  unfold PS.wt
  omega
theorem RR.start : RR 0 [] 0 ⟨[], [], []⟩ := ⟨by omega, by rw [Nat.sub_zero, List.drop_eq_nil_of_le (by rw [sev_len]; omega)], .inl ⟨rfl, rfl, rfl⟩, fun x hx => by cases hx⟩
theorem RR.push {Re Tk : Nat} {Lr : List (List Byte)} {s : PS} (h : RR Re Lr Tk s) {l : List Byte} (hl : Pkt l) : RR Re (Lr ++ [l]) Tk { s with ls := s.ls ++ [l] } := by
  refine ⟨h.r, h.rs, ?_, fun x hx => ?_⟩
  · rcases h.k with ⟨h1, h2, h3⟩ | ⟨x, h1, h2, h3, h4⟩
    · exact .inl ⟨h1, h2, by rw [h3]⟩
    · exact .inr ⟨x, h1, h2, by rw [h3]; rfl, h4⟩
  · rcases List.mem_append.1 hx with h1 | h1
    · exact h.p x h1
    · rw [List.mem_singleton.1 h1]; exact hl

/-- the pointer as the reference has it so far: n bytes are out, f is what is left of the packet that has begun -/
def Pt (Z P n Tk : Nat) (f : List Byte) (fst : Nat) : Prop :=
  (fst = 2047 ∧ n ≤ P ∧ (Tk = 0 → n = Z ∨ n = P) ∧ (Tk ≠ 0 → n = Z ∨ n + f.length = P)) ∨ (fst = P ∧ P < Z)
theorem Pt.step {Z P n Tk fst k xl : Nat} {f f' : List Byte} (h : Pt Z P n Tk f fst) (hZ : Z ≤ 1012) (hn : n < Z) (hk : k = min (xl - Tk) (Z - n)) (hT : Tk < xl) (hf : Tk ≠ 0 → f.length = xl - Tk) (hf' : f'.length = xl - Tk - k) :
    Pt Z P (n + k) (if Tk + k = xl then 0 else Tk + k) f' (if Tk = 0 ∧ fst = 2047 then n else fst) := by
  rcases h with ⟨a1, a2, a3, a4⟩ | ⟨a1, a2⟩
  · by_cases h0 : Tk = 0
    · rw [show (if Tk = 0 ∧ fst = 2047 then n else fst) = n from if_pos (And.intro h0 a1)]
      have := a3 h0
      exact .inr ⟨by omega, by omega⟩
    · rw [show (if Tk = 0 ∧ fst = 2047 then n else fst) = fst from if_neg (fun c => h0 c.1)]
      have := a4 h0
      have := hf h0
      refine .inl ⟨a1, by omega, fun hz => ?_, fun hz => ?_⟩
      · by_cases hq : Tk + k = xl
        · omega
        · rw [if_neg hq] at hz; omega
      · by_cases hq : Tk + k = xl
        · rw [if_pos hq] at hz; exact absurd rfl hz
        · omega
  · rw [show (if Tk = 0 ∧ fst = 2047 then n else fst) = fst from if_neg (fun c => by have := c.2; omega)]
    exact .inr ⟨a1, a2⟩
/-- the reference's loop: j bytes of what waits have been taken -/
structure RL (Z : Nat) (s : PS) (out : List Byte) (Lr : List (List Byte)) (Tk fst : Nat) : Prop where
  ex : ∃ j, out = s.rs.take Z ++ s.wt.take j ∧ j ≤ s.wt.length ∧ RK Lr Tk (cut s.fb s.ls j).1 (cut s.fb s.ls j).2 ∧ Pt Z (s.rs.length + s.fb.length) out.length Tk (cut s.fb s.ls j).1 fst
  z : out.length ≤ Z
  p : ∀ x ∈ Lr, Pkt x
theorem RL.start {Z Re Tk : Nat} {Lr : List (List Byte)} {s : PS} (h : RR Re Lr Tk s) : RL Z s (s.rs.take Z) Lr Tk 2047 := by
  refine ⟨⟨0, by simp, Nat.zero_le _, ?_, .inl ⟨rfl, ?_, fun h0 => ?_, fun h0 => ?_⟩⟩, by rw [List.length_take]; omega, h.p⟩
  · rw [cut_le (Nat.zero_le _)]; exact h.k
  · rw [List.length_take]; omega
  · rcases h.k with ⟨h1, h2, h3⟩ | ⟨x, h1, _⟩
    · rw [h2, List.length_take]; simp only [List.length_nil]; omega
    · omega
  · rw [cut_le (Nat.zero_le _), List.length_take]
    simp only [List.drop_zero]
    omega
theorem RL.step {Z Tk fst : Nat} {s : PS} {out x : List Byte} {L : List (List Byte)} (hZ : Z ≤ 1012) (h : RL Z s out (x :: L) Tk fst) (hn : out.length < Z) {k : Nat} (hk : k = min (x.length - Tk) (Z - out.length)) :
    Tk < x.length ∧ x.length ≤ 4096 ∧ 0 < k ∧ k ≤ x.length - Tk ∧ k + out.length ≤ Z ∧
    RL Z s (out ++ (x.drop Tk).take k) (if Tk + k = x.length then L else x :: L) (if Tk + k = x.length then 0 else Tk + k) (if Tk = 0 ∧ fst = 2047 then out.length else fst) := by
  obtain ⟨⟨j, h1, h2, h3, h4⟩, h5, h6⟩ := h
  have hx := h6 x (by simp)
  have h7 := hx.seven
  have hT : Tk < x.length := by
    rcases h3 with ⟨a, _, _⟩ | ⟨y, _, a, b, _⟩
    · omega
    · cases b; exact a
  have hk0 : 0 < k := by omega
  have hw : (cut s.fb s.ls j).1 ++ (cut s.fb s.ls j).2.flatten = s.wt.drop j := cut_wt _ _ _
  have ha := cut_add s.ls s.fb j k
  obtain ⟨f, hf⟩ : ∃ f, (cut s.fb s.ls j).1 = f := ⟨_, rfl⟩
  obtain ⟨ls, hls⟩ : ∃ ls, (cut s.fb s.ls j).2 = ls := ⟨_, rfl⟩
  rw [hf, hls] at h3 hw ha
  rw [hf] at h4
  have hb : ∃ r, s.wt.drop j = x.drop Tk ++ r := by
    rw [← hw]
    rcases h3 with ⟨rfl, rfl, rfl⟩ | ⟨y, _, _, b, rfl⟩
    · exact ⟨L.flatten, by simp⟩
    · cases b; exact ⟨_, rfl⟩
  have hbl : (x.drop Tk).length = x.length - Tk := List.length_drop
  have hc : cut f ls k = ((x.drop Tk).drop k, L) := by
    rcases h3 with ⟨rfl, rfl, rfl⟩ | ⟨y, _, _, b, rfl⟩
    · rw [cut_gt (by simpa using hk0), List.length_nil, Nat.sub_zero, cut_le (by omega)]; simp
    · cases b; rw [cut_le (by omega)]
  rw [ha] at hc
  have hj : j + k ≤ s.wt.length := by
    obtain ⟨r, hr⟩ := hb
    have := congrArg List.length hr
    rw [List.length_append, List.length_drop, hbl] at this
    omega
  have ht : s.wt.take (j + k) = s.wt.take j ++ (x.drop Tk).take k := by
    obtain ⟨r, hr⟩ := hb
    rw [List.take_add, hr, List.take_append_of_le_length (by omega)]
  have hlen : (out ++ (x.drop Tk).take k).length = out.length + k := by rw [List.length_append, List.length_take, hbl]; omega
  refine ⟨hT, hx.most, hk0, by omega, by omega, ⟨j + k, by rw [ht, h1, List.append_assoc], hj, ?_, ?_⟩, by rw [hlen]; omega, ?_⟩
  · rw [hc]
    by_cases hq : Tk + k = x.length
    · rw [if_pos hq, if_pos hq]
      exact .inl ⟨rfl, by simp only; rw [List.drop_drop, List.drop_eq_nil_of_le (by omega)], rfl⟩
    · rw [if_neg hq, if_neg hq]
      exact .inr ⟨x, by omega, by omega, rfl, by simp only; rw [List.drop_drop]⟩
  · rw [hc, hlen]
    simp only
    have hdl : ((x.drop Tk).drop k).length = x.length - Tk - k := by rw [List.length_drop, hbl]
    have hfl : Tk ≠ 0 → f.length = x.length - Tk := fun h0 => by
      rcases h3 with ⟨a, _, _⟩ | ⟨y, _, _, b, rfl⟩
      · exact absurd a h0
      · cases b; exact hbl
    exact h4.step hZ hn hk hT hfl hdl
  · intro y hy
    by_cases hq : Tk + k = x.length
    · rw [if_pos hq] at hy; exact h6 y (List.mem_cons_of_mem _ hy)
    · rw [if_neg hq] at hy; exact h6 y hy
/-- the loop ends: the data field is full -/
theorem RL.full {Z Re Tk fst : Nat} {s : PS} {out : List Byte} {Lr Lr0 : List (List Byte)} {Tk0 : Nat} (h0 : RR Re Lr0 Tk0 s) (h : RL Z s out Lr Tk fst) (hn : out.length = Z) :
    nxF Z s = out ∧ nxP Z s = fst ∧ RR (Re - min Re Z) Lr Tk (nxS Z s) := by
  obtain ⟨⟨j, h1, h2, h3, h4⟩, h5, h6⟩ := h
  have hr := h0.rl
  have hlt : (s.rs.take Z).length = min Z Re := by rw [List.length_take, hr]
  have hA : nxA Z s = j := by
    have := congrArg List.length h1
    rw [List.length_append, hn, hlt, List.length_take] at this
    unfold nxA
    omega
  have hB : nxB Z s = 0 := by unfold nxB; rw [hA, List.length_take]; omega
  refine ⟨by unfold nxF; rw [hA, hB, List.take_zero, List.append_nil, h1], ?_, ⟨by have := h0.r; omega, ?_, ?_, h6⟩⟩
  · unfold nxP
    rw [hn] at h4
    rcases h4 with ⟨a1, a2, _⟩ | ⟨a1, a2⟩
    · rw [if_pos a2, a1]
    · rw [if_neg (by omega), a1]
  · show (nxS Z s).rs = _
    unfold nxS
    rw [hB]
    show s.rs.drop Z = _
    rw [h0.rs, List.drop_drop]
    have := h0.r
    by_cases hz : Re ≤ Z
    · rw [List.drop_eq_nil_of_le (by rw [sev_len]; omega), List.drop_eq_nil_of_le (by rw [sev_len]; omega)]
    · congr 1; omega
  · show RK Lr Tk (cut s.fb s.ls (min (nxA Z s) s.wt.length)).1 (cut s.fb s.ls (min (nxA Z s) s.wt.length)).2
    rw [hA, Nat.min_eq_left h2]
    exact h3
/-- the loop ends: nothing waits any more -/
theorem RL.idle {Z Re Tk fst : Nat} {s : PS} {out : List Byte} {Lr0 : List (List Byte)} {Tk0 : Nat} (hZ : Z ≤ 1012) (h0 : RR Re Lr0 Tk0 s) (h : RL Z s out [] Tk fst) (hn : out.length < Z) :
    nxF Z s = out ++ (fil (Z - out.length)).take (Z - out.length) ∧ nxP Z s = (if fst = 2047 then out.length else fst) ∧ RR (7 - (Z - out.length)) [] Tk (nxS Z s) ∧ Tk = 0 := by
  obtain ⟨⟨j, h1, h2, h3, h4⟩, h5, h6⟩ := h
  have hr := h0.rl
  have hlt : (s.rs.take Z).length = min Z Re := by rw [List.length_take, hr]
  have hk : Tk = 0 ∧ (cut s.fb s.ls j).1 = [] ∧ (cut s.fb s.ls j).2 = [] := by
    rcases h3 with h3 | ⟨y, _, _, b, _⟩
    · exact h3
    · cases b
  obtain ⟨rfl, k1, k2⟩ := hk
  have hw : (cut s.fb s.ls j).1 ++ (cut s.fb s.ls j).2.flatten = s.wt.drop j := cut_wt _ _ _
  rw [k1, k2] at hw
  have hj : j = s.wt.length := by
    have := congrArg List.length hw
    rw [List.length_drop] at this
    simp at this
    omega
  have hol : out.length = min Z Re + s.wt.length := by rw [h1, List.length_append, hlt, List.length_take]; omega
  have hA : nxA Z s = Z - min Z Re := by unfold nxA; rw [hlt]
  have hB : nxB Z s = Z - out.length := by unfold nxB; rw [hA, List.length_take]; omega
  have ho : s.rs.take Z ++ s.wt.take (nxA Z s) = out := by
    rw [h1, hj, List.take_of_length_le (l := s.wt) (i := s.wt.length) (Nat.le_refl _), List.take_of_length_le (l := s.wt) (i := nxA Z s) (by omega)]
  refine ⟨by unfold nxF; rw [ho, hB], ?_, ⟨by omega, ?_, ?_, fun x hx => by cases hx⟩, rfl⟩
  · unfold nxP
    rcases h4 with ⟨a1, a2, a3, _⟩ | ⟨a1, a2⟩
    · rw [if_neg (by have := a3 rfl; omega), if_pos a1]
      have := a3 rfl
      omega
    · rw [if_neg (by omega), if_neg (by omega), a1]
  · show (if nxB Z s = 0 then s.rs.drop Z else (fil (nxB Z s)).drop (nxB Z s)) = _
    rw [if_neg (by omega), hB]
    by_cases h7 : Z - out.length ≤ 7
    · rw [fil_sev h7]
      congr 1
      omega
    · rw [List.drop_eq_nil_of_le (by rw [fil_len (by omega)]; omega), List.drop_eq_nil_of_le (by rw [sev_len]; omega)]
  · show RK [] 0 (cut s.fb s.ls (min (nxA Z s) s.wt.length)).1 (cut s.fb s.ls (min (nxA Z s) s.wt.length)).2
    rw [hA, Nat.min_eq_right (by omega), ← hj, k1, k2]
    exact .inl ⟨rfl, rfl, rfl⟩
end Go.Proofs.Ytcmonalnhdodmaa.Pkr

/-
  Plain mathematics of TopPackets: the packer's data fields are the stream of its packets, an idle packet behind them; its pointers are the stream's.
-/
namespace Go.Proofs.Ytcmonalnhdodmaa.Unp
open Pac
open Pkr (Pkt PS cut fil nxA nxB nxF nxP nxS cut_le cut_split cut_wt cut_add fil_len fil_whole)

theorem wp_of {l : List Byte} (h : deE l = 0) (h2 : deN l = l.length) : Wp l := by
  obtain ⟨z1, z2, z3⟩ := de_zero h
  obtain ⟨_, _, g3⟩ := de_good z1 z2 z3
  exact ⟨z1, by rw [← h2, g3]⟩
theorem ni_of {l : List Byte} (h : deE l = 0) (h2 : deN l = l.length) : ni l = !decide ((deP l).ap = 2047) := by
  have hw := wp_of h h2
  have := idle_is hw.e (by rw [hw.n]; exact Nat.le_refl _)
  rw [hw.n, List.take_length, h] at this
  unfold ni
  rw [← this]
  simp
theorem wp_pkt {l : List Byte} (h : Pkt l) : Wp l := wp_of h.e h.n
theorem ni_pkt {l : List Byte} (h : Pkt l) : ni l = true := by rw [ni_of h.e h.n]; simp [h.a]
theorem wp_fil {m : Nat} (h : m ≤ 4096) : Wp (fil m) := by
  obtain ⟨h1, _, h3⟩ := fil_whole h []
  rw [List.append_nil] at h1 h3
  exact wp_of h1 (by rw [h3, fil_len h])
theorem ni_fil {m : Nat} (h : m ≤ 4096) : ni (fil m) = false := by
  obtain ⟨h1, h2, h3⟩ := fil_whole h []
  rw [List.append_nil] at h1 h2 h3
  rw [ni_of h1 (by rw [h3, fil_len h]), h2]
  rfl

section
variable {al : List (List Byte)} {a Z k : Nat}
/-- the packer's state behind a bytes -/
def tps (al : List (List Byte)) (a : Nat) : PS := ⟨[], (cut [] al a).1, (cut [] al a).2⟩
theorem tps_wt : (tps al a).wt = al.flatten.drop a := by
  have := cut_wt al [] a
  rw [List.nil_append] at this
  exact this
theorem tps_zero : tps al 0 = ⟨[], [], al⟩ := by unfold tps; rw [cut_le (by simp)]; rfl
/-- where the next packet begins -/
theorem cut_at (ha : a ≤ al.flatten.length) : ∃ q, q ≤ al.length ∧ a + (cut [] al a).1.length = bnd al q ∧ ∀ q', q' < q → bnd al q' < a := by
  rcases Nat.eq_zero_or_pos a with rfl | h0
  · refine ⟨0, Nat.zero_le _, ?_, fun q' h => by omega⟩
    rw [cut_le (by simp), bnd_zero]
    simp
  · obtain ⟨mid, y, e1, e2, e3⟩ := cut_split al [] a (by simpa using h0) (by simpa using ha)
    have e4 : al.take (mid.length + 1) = mid ++ [y] := by
      rw [e1]
      exact List.take_left' (by simp)
    have hq : bnd al (mid.length + 1) = (mid ++ [y]).flatten.length := by unfold bnd; rw [e4]
    have hl : mid.length + 1 ≤ al.length := by rw [e1]; simp
    have hy : al[mid.length]? = some y := by
      rw [e1, List.append_assoc, List.getElem?_append_right (Nat.le_refl _), Nat.sub_self]
      rfl
    have hn := bnd_next hy
    refine ⟨mid.length + 1, hl, by rw [hq]; simpa using e3, fun q' h => ?_⟩
    have h5 := bnd_le (ps := al) (i := q') (j := mid.length) (by omega)
    simp only [List.length_nil, Nat.zero_add] at e3
    omega

/-- how many bytes an idle packet is to fill at the end -/
def pad (al : List (List Byte)) (Z : Nat) : Nat := Z - al.flatten.length % Z
def alp (al : List (List Byte)) (Z : Nat) : List (List Byte) := al ++ [fil (pad al Z)]
theorem alp_flat : (alp al Z).flatten = al.flatten ++ fil (pad al Z) := by unfold alp; simp
theorem alp_bnd {q : Nat} (hq : q ≤ al.length) : bnd (alp al Z) q = bnd al q := by
  unfold bnd alp
  rw [List.take_append_of_le_length hq]
theorem alp_len : (alp al Z).length = al.length + 1 := by unfold alp; simp
theorem pad_le : pad al Z ≤ Z := by unfold pad; omega
theorem alp_wp (hZ : Z ≤ 1012) (h : ∀ p ∈ al, Pkt p) : ∀ p ∈ alp al Z, Wp p := fun p hp => by
  unfold alp at hp
  rcases List.mem_append.1 hp with hp | hp
  · exact wp_pkt (h p hp)
  · rw [List.mem_singleton.1 hp]
    exact wp_fil (by have := pad_le (al := al) (Z := Z); omega)
/-- a frame that is begun ends within the stream with the idle packet -/
theorem alp_in (hz : 0 < Z) (hZ : Z ≤ 1012) (hk : k * Z < al.flatten.length) : (k + 1) * Z ≤ (alp al Z).flatten.length ∧ (al.flatten.length < (k + 1) * Z → pad al Z = (k + 1) * Z - al.flatten.length) := by
  have e := Nat.div_add_mod al.flatten.length Z
  have hr := Nat.mod_lt al.flatten.length hz
  have hl : (alp al Z).flatten.length = al.flatten.length + max (pad al Z) 7 := by rw [alp_flat, List.length_append, fil_len (by have := pad_le (al := al) (Z := Z); omega)]
  have hs : (k + 1) * Z = k * Z + Z := Nat.succ_mul k Z
  obtain ⟨Q, hQ⟩ : ∃ Q, al.flatten.length / Z = Q := ⟨_, rfl⟩
  obtain ⟨r, hrr⟩ : ∃ r, al.flatten.length % Z = r := ⟨_, rfl⟩
  have hp : pad al Z = Z - r := by unfold pad; rw [hrr]
  rw [hQ, hrr, Nat.mul_comm] at e
  rw [hrr] at hr
  have hkQ : k ≤ Q := by
    apply Classical.byContradiction
    intro c
    have := Nat.mul_le_mul_right Z (show Q + 1 ≤ k by omega)
    rw [Nat.succ_mul] at this
    omega
  have hm := Nat.mul_le_mul_right Z hkQ
  rcases Nat.lt_or_ge k Q with h | h
  · have h2 := Nat.mul_le_mul_right Z (show k + 1 ≤ Q from h)
    exact ⟨by omega, fun h3 => by omega⟩
  · obtain rfl : k = Q := by omega
    exact ⟨by omega, fun h3 => by omega⟩

/-- a data field of the packer -/
theorem field (hz : 0 < Z) (hZ : Z ≤ 1012) (hk : k * Z < al.flatten.length) : nxF Z (tps al (k * Z)) = ((alp al Z).flatten.take ((k + 1) * Z)).drop (k * Z) := by
  obtain ⟨h1, h2⟩ := alp_in hz hZ hk
  have hs : (k + 1) * Z = k * Z + Z := Nat.succ_mul k Z
  have e1 : nxA Z (tps al (k * Z)) = Z := by unfold nxA tps; simp
  have e2 : nxF Z (tps al (k * Z)) = (al.flatten.drop (k * Z)).take Z ++ (fil (nxB Z (tps al (k * Z)))).take (nxB Z (tps al (k * Z))) := by
    unfold nxF
    rw [e1, tps_wt]
    show ([] : List Byte).take Z ++ _ ++ _ = _
    rw [List.take_nil, List.nil_append]
  have e3 : nxB Z (tps al (k * Z)) = Z - ((al.flatten.drop (k * Z)).take Z).length := by unfold nxB; rw [e1, tps_wt]
  rw [List.length_take, List.length_drop] at e3
  rw [e2, alp_flat, List.drop_take, show (k + 1) * Z - k * Z = Z by omega]
  by_cases h : (k + 1) * Z ≤ al.flatten.length
  · rw [e3, show Z - min Z (al.flatten.length - k * Z) = 0 by omega, List.take_zero, List.append_nil]
    rw [List.drop_append_of_le_length (by omega), List.take_append_of_le_length (by rw [List.length_drop]; omega)]
  · have hp := h2 (by omega)
    rw [e3, show Z - min Z (al.flatten.length - k * Z) = pad al Z by omega]
    rw [List.drop_append_of_le_length (by omega), List.take_append, List.length_drop, List.take_of_length_le (l := al.flatten.drop (k * Z)) (by rw [List.length_drop]; omega)]
    rw [show Z - (al.flatten.length - k * Z) = pad al Z by omega]
/-- its pointer -/
theorem pointer (_hz : 0 < Z) (hk : k * Z < al.flatten.length) : Fst (alp al Z) (k * Z) ((k + 1) * Z) (nxP Z (tps al (k * Z))) := by
  obtain ⟨q, h1, h2, h3⟩ := cut_at (al := al) (a := k * Z) (by omega)
  have hs : (k + 1) * Z = k * Z + Z := Nat.succ_mul k Z
  have e : nxP Z (tps al (k * Z)) = if Z ≤ (cut [] al (k * Z)).1.length then 2047 else (cut [] al (k * Z)).1.length := by
    unfold nxP tps
    simp
  rw [e]
  obtain ⟨L, hL⟩ : ∃ L, (cut [] al (k * Z)).1.length = L := ⟨_, rfl⟩
  rw [hL] at h2 ⊢
  have hb : ∀ q', q' < q → bnd (alp al Z) q' < k * Z := fun q' h => by rw [alp_bnd (by omega)]; exact h3 q' h
  have hq := alp_bnd (al := al) (Z := Z) h1
  by_cases h : Z ≤ L
  · rw [if_pos h]
    refine .inl ⟨rfl, fun q' hq' hc => ?_⟩
    rcases Nat.lt_or_ge q' q with c | c
    · have := hb q' c; omega
    · have := bnd_le (ps := alp al Z) c; omega
  · rw [if_neg h]
    exact .inr ⟨q, by rw [alp_len]; omega, by omega, by omega, by omega, fun q' hq' hc => by have := hb q' hq'; omega⟩
/-- what Next leaves -/
theorem next_tps (_hz : 0 < Z) (hk : k * Z < al.flatten.length) : ((k + 1) * Z ≤ al.flatten.length → nxS Z (tps al (k * Z)) = tps al ((k + 1) * Z)) ∧ (nxS Z (tps al (k * Z))).wt = al.flatten.drop ((k + 1) * Z) := by
  have hs : (k + 1) * Z = k * Z + Z := Nat.succ_mul k Z
  have e1 : nxA Z (tps al (k * Z)) = Z := by unfold nxA tps; simp
  refine ⟨fun h => ?_, ?_⟩
  · have e3 : nxB Z (tps al (k * Z)) = 0 := by
      unfold nxB
      rw [e1, tps_wt, List.length_take, List.length_drop]
      omega
    unfold nxS
    rw [e1, e3]
    have hw : ((tps al (k * Z)).rest Z).wt.length = al.flatten.length - k * Z := by
      show (tps al (k * Z)).wt.length = _
      rw [tps_wt, List.length_drop]
    unfold PS.idle PS.take
    rw [hw, Nat.min_eq_left (by omega), if_pos rfl]
    show (⟨([] : List Byte).drop Z, (cut (cut [] al (k * Z)).1 (cut [] al (k * Z)).2 Z).1, (cut (cut [] al (k * Z)).1 (cut [] al (k * Z)).2 Z).2⟩ : PS) = _
    rw [cut_add, ← hs, List.drop_nil]
    rfl
  · rw [Pkr.nx_wt, e1, tps_wt, List.drop_drop, hs]
end

/-! ### what is whole -/
section
variable {al : List (List Byte)} {Z k i j : Nat} {x : List Byte} {gd : Bool} {arr : Nat → Bool}
theorem sel_len (ps : List (List Byte)) (W : Nat → Bool) {i j : Nat} (h : i ≤ j) : sel ps W i <+: sel ps W j := by
  obtain ⟨n, rfl⟩ := Nat.le.dest h
  induction n with
  | zero => exact List.prefix_refl _
  | succ n ih => exact (ih (by omega)).trans (List.prefix_append _ _)
theorem alp_getD (hj : j < al.length) : (alp al Z).getD j [] = al.getD j [] := by
  unfold alp
  rw [List.getD_eq_getElem?_getD, List.getD_eq_getElem?_getD, List.getElem?_append_left hj]
/-- at the end all packets of al are behind -/
theorem Rn.end_ (hZ : Z ≤ 1012) (h : ∀ p ∈ al, Pkt p) (R : Rn (alp al Z) Z arr k i x gd) (hk : al.flatten.length ≤ k * Z) (W : Nat → Bool) : sel (alp al Z) W i = sel (alp al Z) W al.length := by
  have hw := alp_wp (Z := Z) hZ h
  have P := R.p
  have hl : al.flatten.length ≤ (alp al Z).flatten.length := by rw [alp_flat, List.length_append]; omega
  have hbn : bnd (alp al Z) al.length = al.flatten.length := by rw [alp_bnd (Nat.le_refl _), bnd_all (Nat.le_refl _)]
  have hi : al.length ≤ i := by
    apply Classical.byContradiction
    intro c
    have hal := P.al
    have h2 := bnd_le (ps := alp al Z) (i := i + 1) (j := al.length) (by omega)
    have h7 := bnd_lt hw (i := i) (by rw [alp_len]; omega)
    by_cases hx : x = []
    · subst hx
      simp only [List.length_nil] at hal
      omega
    · have := (P.in_ hx).2.1
      omega
  have hi2 : i ≤ al.length + 1 := by have := P.le; rwa [alp_len] at this
  rcases Nat.lt_or_ge al.length i with c | c
  · obtain rfl : i = al.length + 1 := by omega
    have e : (alp al Z).getD al.length [] = fil (pad al Z) := by
      unfold alp
      rw [List.getD_eq_getElem?_getD, List.getElem?_append_right (Nat.le_refl _), Nat.sub_self]
      rfl
    rw [sel_succ, e, ni_fil (by have := pad_le (al := al) (Z := Z); omega)]
    simp
  · obtain rfl : i = al.length := by omega
    rfl
end
end Go.Proofs.Ytcmonalnhdodmaa.Unp

/-
  Package packer: what it is to be a Packer; New, works, Left, first, Ready; what is nil.
-/
namespace Go.Proofs.Ytcmonalnhdodmaa.Pkr
open Go.RowKit
open Pac (bel_new)

/-- block g is a Packer of New for data fields of Z bytes and room R in state s; its rest is (Ar, nr, cr), what waits (Aw, nw, cw) -/
structure PC (w : World) (g Z R : Nat) (s : PS) (Ar : Option Addr) (nr cr : Nat) (Aw : Option Addr) (nw cw : Nat) : Prop where
  c : Cel w g 70 #[.int .i64 (Z : Int), .int .i64 (R : Int), .slice Ar nr cr, .slice Aw nw cw, .int .i64 (s.fb.length : Int)]
  mr : Md w 0 5 Ar nr cr s.rs
  mw : Md w 0 5 Aw nw cw s.wt
  ap : ∀ x ∈ blkA Aw, x ∉ blkA Ar
/-- its blocks -/
def fam (g : Nat) (Ar Aw : Option Addr) : List Nat := g :: (blkA Aw ++ blkA Ar)
structure PW (w : World) (g : Nat) (F : List Nat) (Z R : Nat) (s : PS) : Prop where
  ex : ∃ Ar nr cr Aw nw cw, PC w g Z R s Ar nr cr Aw nw cw ∧ F = fam g Ar Aw
  z : 1 ≤ Z
  z2 : Z ≤ 1012
  r : R ≤ 1048576
  ok : s.Ok R

section
variable {w w' : World} {g Z R nr cr nw cw : Nat} {s : PS} {Ar Aw : Option Addr} {F S : List Nat}
theorem PC.only (h : PC w g Z R s Ar nr cr Aw nw cw) (k : Only S w w') (hd : ∀ x ∈ fam g Ar Aw, x ∉ S) : PC w' g Z R s Ar nr cr Aw nw cw :=
  ⟨h.c.only k (hd g (by simp [fam])), h.mr.only k (fun x hx => hd x (by simp [fam, hx])), h.mw.only k (fun x hx => hd x (by simp [fam, hx])), h.ap⟩
theorem PC.lt (h : PC w g Z R s Ar nr cr Aw nw cw) : ∀ x ∈ fam g Ar Aw, x < w.heap.size := fun x hx => by
  rcases List.mem_cons.1 hx with rfl | hx
  · exact h.c.lt
  · rcases List.mem_append.1 hx with hx | hx
    · exact (h.mw.lt x hx).2
    · exact (h.mr.lt x hx).2
theorem PC.draws (h : PC w g Z R s Ar nr cr Aw nw cw) (n : Nat) : PC (w.drewN n) g Z R s Ar nr cr Aw nw cw := ⟨h.c, h.mr, h.mw, h.ap⟩
theorem PC.below (h : PC w g Z R s Ar nr cr Aw nw cw) (k : Below w.heap.size w w') : PC w' g Z R s Ar nr cr Aw nw cw := h.only (S := []) (Only.of_below k) (by simp)
theorem Md.off {base n c : Nat} {e t : TypeId} {cs : Array Value} {l : List Byte} {A : Option Addr} (h : Md w base e A n c l) (k : Cel w g t cs) (ht : e ≠ t) : g ∉ blkA A := fun hm => by
  obtain ⟨cs', hc⟩ := h.cel g hm
  exact hc.apart k ht rfl
theorem PC.gw (h : PC w g Z R s Ar nr cr Aw nw cw) : g ∉ blkA Aw := Md.off h.mw h.c (by decide)
theorem PC.gr (h : PC w g Z R s Ar nr cr Aw nw cw) : g ∉ blkA Ar := Md.off h.mr h.c (by decide)
theorem PW.only (h : PW w g F Z R s) (k : Only S w w') (hd : ∀ x ∈ F, x ∉ S) : PW w' g F Z R s := by
  obtain ⟨⟨Ar, nr, cr, Aw, nw, cw, hc, rfl⟩, h1, h2, h3, h4⟩ := h
  exact ⟨⟨Ar, nr, cr, Aw, nw, cw, hc.only k hd, rfl⟩, h1, h2, h3, h4⟩
theorem PW.below (h : PW w g F Z R s) (k : Below w.heap.size w w') : PW w' g F Z R s := h.only (S := []) (Only.of_below k) (by simp)
theorem PW.lt (h : PW w g F Z R s) : ∀ x ∈ F, x < w.heap.size := by
  obtain ⟨⟨Ar, nr, cr, Aw, nw, cw, hc, rfl⟩, _⟩ := h
  exact hc.lt
theorem PW.mem (h : PW w g F Z R s) : g ∈ F := by
  obtain ⟨⟨Ar, nr, cr, Aw, nw, cw, hc, rfl⟩, _⟩ := h
  simp [fam]
theorem Md.rd {base n c : Nat} {l : List Byte} {A : Option Addr} (h : Md w base 5 A n c l) : Rd w A l n c := by
  obtain ⟨h1, h2, h3, h4⟩ := h.reads
  exact ⟨h.1, h1, h2, h3, h4⟩
end

theorem Pw_new (w : World) (Z R : Nat) (h1 : 1 ≤ Z) (h2 : Z ≤ 1012) (h3 : R ≤ 1048576) :
    PW (w.alloc (.cells #[.int .i64 (Z : Int), .int .i64 (R : Int), .slice none 0 0, .slice none 0 0, .int .i64 0] 70)) w.heap.size [w.heap.size] Z R ⟨[], [], []⟩ :=
  ⟨⟨none, 0, 0, none, 0, 0, ⟨Cel.new _ _ _, Md.nil_ _ _ _, Md.nil_ _ _ _, (fun x hx => nomatch hx)⟩, rfl⟩, h1, h2, h3, ⟨(fun x hx => nomatch hx), by simp, by simp [PS.wt]⟩⟩
/-- what New makes of a room -/
def rm (r : Int) : Nat := (min (max r 0) 1048576).toNat
theorem rm_le (r : Int) : rm r ≤ 1048576 := by unfold rm; omega
theorem rm_eq (r : Int) : min (max r 0) 1048576 = ((rm r : Nat) : Int) := by unfold rm; omega

set_option maxHeartbeats 400000 in
theorem pnew_yes (Z : Nat) (h1 : 1 ≤ Z) (h2 : Z ≤ 1012) (r : Int) (w : World) :
    Calls Try.prog 18 #[.int .i64 (Z : Int), .int .i64 r] w fun e w' => e = .returned (.pointer (some ⟨w.heap.size, 0, none⟩)) ∧ w' = w.alloc (.cells #[.int .i64 (Z : Int), .int .i64 (rm r : Int), .slice none 0 0, .slice none 0 0, .int .i64 0] 70) := by
  have t1 : decide ((Z : Int) < 1) = false := by simp; omega
  have t1' : decide (Z < 1) = false := by simp; omega
  have t2 : decide ((1012 : Int) < (Z : Int)) = false := by simp; omega
  have t2' : decide (1012 < Z) = false := by simp; omega
  have hm := rm_eq r
  obtain ⟨N, hN⟩ : ∃ N, ((rm r : Nat) : Int) = N := ⟨_, rfl⟩
  rw [hN] at hm ⊢
  obtain ⟨M, hM⟩ : ∃ M, M = max r 0 := ⟨_, rfl⟩
  rw [← hM] at hm
  have hm0 : max r 0 = M := hM.symm
  have hm1 : (if r < 0 then (0 : Int) else r) = M := by split <;> omega
  have hm2 : (if M < 1048576 then M else (1048576 : Int)) = N := by split <;> omega
  have hm3 : (if (1048576 : Int) < M then (1048576 : Int) else M) = N := by split <;> omega
  clear h1 h2 hN hM
  go_enter Try.func18, Try.ntmps18
  go_wp2
  go_ret
  exact ⟨rfl, rfl⟩
set_option maxHeartbeats 400000 in
theorem pnew_no (z : Int) (h : ¬ (1 ≤ z ∧ z ≤ 1012)) (r : Int) (w : World) :
    Calls Try.prog 18 #[.int .i64 z, .int .i64 r] w fun e w' => e = .returned (.pointer none) ∧ w = w' := by
  by_cases h1 : z < 1
  · have t1 : decide (z < 1) = true := by simpa using h1
    clear h h1
    go_enter Try.func18, Try.ntmps18
    go_wp2
    go_ret
    exact ⟨rfl, rfl⟩
  · have t1 : decide (z < 1) = false := by simpa using h1
    have t2 : decide (1012 < z) = true := by simp; omega
    clear h h1
    go_enter Try.func18, Try.ntmps18
    go_wp2
    go_ret
    exact ⟨rfl, rfl⟩

section
variable {w : World} {g Z R nr cr nw cw : Nat} {s : PS} {Ar Aw : Option Addr} {F : List Nat}
set_option maxHeartbeats 400000 in
theorem pworks_pc (h : PC w g Z R s Ar nr cr Aw nw cw) (hz : 1 ≤ Z) :
    Calls Try.prog 38 #[.pointer (some ⟨g, 0, none⟩)] w fun e w' => e = .returned (.bool true) ∧ w = w' := by
  have c0 := h.c.cell 0
  simp at c0
  have t1 : decide (0 < (Z : Int)) = true := by simp; omega
  have t1' : decide (0 < Z) = true := by simp; omega
  clear h
  go_enter Try.func38, Try.ntmps38
  go_wp2
  go_ret
  exact ⟨rfl, rfl⟩
set_option maxHeartbeats 400000 in
theorem pworks_nil (w : World) : Calls Try.prog 38 #[.pointer none] w fun e w' => e = .returned (.bool false) ∧ w = w' := by
  go_enter Try.func38, Try.ntmps38
  go_wp2
  go_ret
  exact ⟨rfl, rfl⟩
set_option maxHeartbeats 400000 in
theorem pleft_pc (h : PC w g Z R s Ar nr cr Aw nw cw) (hz : 1 ≤ Z) :
    Calls Try.prog 23 #[.pointer (some ⟨g, 0, none⟩)] w fun e w' => e = .returned (.int .i64 (nw : Int)) ∧ w = w' := by
  have hw := pworks_pc h hz
  have c3 := h.c.cell 3
  simp at c3
  clear h
  go_enter Try.func23, Try.ntmps23
  go_wp2_with fail
  refine hw.mono ?_
  rintro e w1 ⟨rfl, rfl⟩
  go_wp2
  go_ret
  exact ⟨rfl, rfl⟩
theorem pleft_any (h : PW w g F Z R s) {n : Nat} (hn : s.wt.length = n) :
    Calls Try.prog 23 #[.pointer (some ⟨g, 0, none⟩)] w fun e w' => e = .returned (.int .i64 (n : Int)) ∧ w = w' := by
  obtain ⟨⟨Ar, nr, cr, Aw, nw, cw, hc, rfl⟩, h1, h2, h3, h4⟩ := h
  have := hc.mw.1
  obtain rfl : nw = n := by omega
  exact pleft_pc hc h1
set_option maxHeartbeats 400000 in
theorem pleft_nil (w : World) : Calls Try.prog 23 #[.pointer none] w fun e w' => e = .returned (.int .i64 0) ∧ w = w' := by
  go_enter Try.func23, Try.ntmps23
  go_wp2_with fail
  refine (pworks_nil _).mono ?_
  rintro e w1 ⟨rfl, rfl⟩
  go_wp2
  go_ret
  exact ⟨rfl, rfl⟩
set_option maxHeartbeats 400000 in
theorem ppush_nil (w : World) (a : Option Addr) (n c : Nat) : Calls Try.prog 20 #[.pointer none, .slice a n c] w fun e w' => e = .returned (.int .i64 2) ∧ w = w' := by
  go_enter Try.func20, Try.ntmps20
  go_wp2_with fail
  refine (pworks_nil _).mono ?_
  rintro e w1 ⟨rfl, rfl⟩
  go_wp2
  go_ret
  exact ⟨rfl, rfl⟩
theorem quiet_same {P : Program} {f : FuncId} {args : Array Value} {w : World} {n : Nat} {v : Value} (h : Calls P f args (w.drewN n) fun e w' => e = .returned v ∧ w.drewN n = w') :
    Calls P f args (w.drewN n) fun e w'' => e = .returned v ∧ ∃ m, w'' = w.drewN m := h.mono fun _ _ ⟨he, hm⟩ => ⟨he, n, hm.symm⟩
/-- whether a whole data field is there -/
def rdy (Z : Nat) (s : PS) : Bool := decide (0 < s.wt.length) && decide (Z ≤ s.rs.length + s.wt.length)
set_option maxHeartbeats 400000 in
theorem pfirst_pc (h : PC w g Z R s Ar nr cr Aw nw cw) (hs : s.Ok R) (hR : R ≤ 1048576) :
    Calls Try.prog 40 #[.pointer (some ⟨g, 0, none⟩)] w fun e w' => e = .returned (.int .i64 ((nxP Z s : Nat) : Int)) ∧ Below w.heap.size w w' := by
  have c0 := h.c.cell 0
  have c2 := h.c.cell 2
  have c4 := h.c.cell 4
  simp at c0 c2 c4
  have e2 := h.mr.1
  have l1 := hs.w
  have l2 := hs.r
  have l3 : s.fb.length ≤ s.wt.length := by unfold PS.wt; rw [List.length_append]; omega
  unfold nxP
  rw [e2] at l2 ⊢
  obtain ⟨b, hb⟩ : ∃ b, s.fb.length = b := ⟨_, rfl⟩
  rw [hb] at c4 l3 ⊢
  obtain ⟨M, hM⟩ : ∃ M, nr + b = M := ⟨_, rfl⟩
  have hM' : (nr : Int) + (b : Int) = (M : Int) := by omega
  rw [hM]
  by_cases hz : Z ≤ M
  · have t2 : decide ((Z : Int) ≤ (M : Int)) = true := by simpa using hz
    have t2' : decide (Z ≤ M) = true := by simpa using hz
    rw [if_pos hz]
    clear h hs hz hb
    go_enter Try.func40, Try.ntmps40
    go_wp2
    go_quiet (fail)
    go_wp2
    go_ret
    exact ⟨rfl, drewN_below _ _⟩
  · have t2 : decide ((Z : Int) ≤ (M : Int)) = false := by simpa using hz
    have t2' : decide (Z ≤ M) = false := by simpa using hz
    rw [if_neg hz]
    clear h hs hz hb
    go_enter Try.func40, Try.ntmps40
    go_wp2
    go_quiet (fail)
    go_wp2
    go_ret
    exact ⟨rfl, drewN_below _ _⟩
end
end Go.Proofs.Ytcmonalnhdodmaa.Pkr

/-
  Package packer: takeRest, takeWaiting, takeIdle.
-/
namespace Go.Proofs.Ytcmonalnhdodmaa.Pkr
open Go.RowKit
open Pac (bel_new siN siE size_any idle_any)

section
variable {w w' : World} {g Z R nr cr nw cw : Nat} {s : PS} {Ar Aw : Option Addr} {F S : List Nat}
theorem PC.setr (h : PC w g Z R s Ar nr cr Aw nw cw) {A3 : Option Addr} {n3 c3 : Nat} {r : List Byte} (hm : Md w 0 5 A3 n3 c3 r) (ha : ∀ x ∈ blkA Aw, x ∉ blkA A3) :
    PC (w.setCell ⟨g, 2, none⟩ (.slice A3 n3 c3)) g Z R { s with rs := r } A3 n3 c3 Aw nw cw := by
  have k := set_only w g 2 (.slice A3 n3 c3)
  have hg := Md.off hm h.c (by decide)
  refine ⟨h.c.put 2 _, hm.only k (fun x hx hm => hg (List.mem_singleton.1 hm ▸ hx)), h.mw.only k (fun x hx hm => h.gw (List.mem_singleton.1 hm ▸ hx)), ha⟩
theorem PC.setw (h : PC w g Z R s Ar nr cr Aw nw cw) {A3 : Option Addr} {n3 c3 b : Nat} {f : List Byte} {ls : List (List Byte)} (hm : Md w 0 5 A3 n3 c3 (f ++ ls.flatten)) (ha : ∀ x ∈ blkA A3, x ∉ blkA Ar) (hb : f.length = b) :
    PC ((w.setCell ⟨g, 3, none⟩ (.slice A3 n3 c3)).setCell ⟨g, 4, none⟩ (.int .i64 (b : Int))) g Z R ⟨s.rs, f, ls⟩ Ar nr cr A3 n3 c3 := by
  subst hb
  have k := set_then (set_only w g 3 (.slice A3 n3 c3)) 4 (.int .i64 (f.length : Int))
  have hg := Md.off hm h.c (by decide)
  have c1 : Cel _ g 70 #[.int .i64 (Z : Int), .int .i64 (R : Int), .slice Ar nr cr, .slice A3 n3 c3, .int .i64 (s.fb.length : Int)] := h.c.put 3 (.slice A3 n3 c3)
  exact ⟨c1.put 4 _, h.mr.only k (fun x hx hm => h.gr (List.mem_singleton.1 hm ▸ hx)), hm.only k (fun x hx hm => hg (List.mem_singleton.1 hm ▸ hx)), ha⟩
theorem Rd.put {A : Option Addr} {n c : Nat} {l : List Byte} (h : Rd w A l n c) (k : Only S w w') (ha : ∀ x ∈ blkA A, x ∉ S) : Rd w' A l n c := by
  cases A with
  | none => exact ⟨h.len, (fun hl => by obtain ⟨b, off, e, _⟩ := h.bs hl; cases e), h.nil, h.le, h.max⟩
  | some a =>
    refine ⟨h.len, fun hl => ?_, h.nil, h.le, h.max⟩
    obtain ⟨b, off, e, hb, hc⟩ := h.bs hl
    have hbS : b ∉ S := ha b (by rw [e]; simp [blkA])
    refine ⟨b, off, e, Nat.lt_of_lt_of_le hb k.size, fun i x hx => ?_⟩
    rw [← hc i x hx]
    unfold World.cell?
    simp only [k.block b hb hbS]

set_option maxHeartbeats 1000000 in
theorem takeRest_pc (h : PC w g Z R s Ar nr cr Aw nw cw) (n : Nat) {k : Nat} (hk : k = min n nr) :
    Calls Try.prog 41 #[.pointer (some ⟨g, 0, none⟩), .int .i64 (n : Int)] w fun e w' => e = .returned (.slice Ar k cr) ∧ Rd w' Ar (s.rs.take n) k cr ∧ (∃ A3 n3 c3, PC w' g Z R (s.rest n) A3 n3 c3 Aw nw cw ∧ blkA A3 = blkA Ar) ∧ Only [g] w w' := by
  have hl := h.mr.1
  obtain ⟨hb, hn, hle, hmax⟩ := h.mr.reads
  obtain ⟨A3, hA3⟩ : ∃ A3, (if cr = k then Ar else Option.map (fun x => x.add k) Ar) = A3 := ⟨_, rfl⟩
  obtain ⟨n3, hn3⟩ : ∃ n3, nr - k = n3 := ⟨_, rfl⟩
  obtain ⟨c3, hc3⟩ : ∃ c3, cr - k = c3 := ⟨_, rfl⟩
  have hd := h.mr.drop (k := k) (by omega)
  have hbl := blkA_drop Ar cr k
  rw [hA3] at hd hbl
  rw [hn3, hc3] at hd
  have e1 : s.rs.drop k = s.rs.drop n := by
    by_cases hq : n ≤ nr
    · rw [show k = n by omega]
    · rw [List.drop_eq_nil_of_le (by omega), List.drop_eq_nil_of_le (by omega)]
  have e2 : s.rs.take k = s.rs.take n := by
    by_cases hq : n ≤ nr
    · rw [show k = n by omega]
    · rw [List.take_of_length_le (by omega), List.take_of_length_le (by omega)]
  rw [e1] at hd
  have hr := Rd.head (Md.rd h.mr) k (by omega)
  rw [e2] at hr
  have hp := h.setr hd (by rw [hbl]; exact h.ap)
  have ko := set_only w g 2 (.slice A3 n3 c3)
  have hr2 := Rd.put hr ko (fun x hx hm => h.gr (List.mem_singleton.1 hm ▸ hx))
  have HF := Lib.hid (And.intro hp (And.intro ko (And.intro hr2 hbl)))
  have c2 := h.c.cell 2
  have f2 := h.c.free 2
  simp at c2
  have m1 : min (n : Int) (nr : Int) = (k : Int) := by omega
  have m2 : (if (n : Int) < (nr : Int) then (n : Int) else (nr : Int)) = (k : Int) := by split <;> omega
  have m3 : (if (nr : Int) < (n : Int) then (nr : Int) else (n : Int)) = (k : Int) := by split <;> omega
  have m4 : (if n < nr then (n : Int) else (nr : Int)) = (k : Int) := by split <;> omega
  have m5 : (if nr < n then (nr : Int) else (n : Int)) = (k : Int) := by split <;> omega
  have s1 : (k : Int) ≤ (cr : Int) := by omega
  have s2 : k ≤ cr := by omega
  have s3 : (k : Int) ≤ (nr : Int) := by omega
  have s4 : k ≤ nr := by omega
  clear h hl hb hn hle hmax hd hbl e1 e2 hr hp ko hr2 hk
  go_enter Try.func41, Try.ntmps41
  go_wp2
  go_ret
  obtain ⟨h1, h2, h3, h4⟩ := HF.out
  exact ⟨rfl, h3, ⟨A3, n3, c3, h1, h4⟩, h2⟩

set_option maxHeartbeats 2000000 in
theorem takeWaiting_pc (h : PC w g Z R s Ar nr cr Aw nw cw) (hs : s.Ok R) (hR : R ≤ 1048576) (n : Nat) {k : Nat} (hk : k = min n nw) :
    Calls Try.prog 42 #[.pointer (some ⟨g, 0, none⟩), .int .i64 (n : Int)] w fun e w' => e = .returned (.slice Aw k cw) ∧ Rd w' Aw (s.wt.take n) k cw ∧ (∃ A3 n3 c3, PC w' g Z R (s.take n) Ar nr cr A3 n3 c3 ∧ blkA A3 = blkA Aw) ∧ Only [g] w w' := by
  have hl := h.mw.1
  obtain ⟨hb, hn, hle, hmax⟩ := h.mw.reads
  have hw := hs.w
  have hTw := Tw.start hs k
  obtain ⟨b0, hb0⟩ : ∃ b0, s.fb.length = b0 := ⟨_, rfl⟩
  have c3 := h.c.cell 3
  have c4 := h.c.cell 4
  rw [hb0] at c4 hTw
  simp at c3 c4
  have hg := h.c.lt
  have m1 : min (n : Int) (nw : Int) = (k : Int) := by omega
  have m2 : (if (n : Int) < (nw : Int) then (n : Int) else (nw : Int)) = (k : Int) := by split <;> omega
  have m3 : (if (nw : Int) < (n : Int) then (nw : Int) else (n : Int)) = (k : Int) := by split <;> omega
  have m4 : (if n < nw then (n : Int) else (nw : Int)) = (k : Int) := by split <;> omega
  have m5 : (if nw < n then (nw : Int) else (n : Int)) = (k : Int) := by split <;> omega
  have hkn : k ≤ nw := by omega
  have hsz : ∀ e, e ≤ nw → ∀ W, Below w.heap.size w W → Calls Try.prog 47 #[.slice (if cw = e then Aw else Option.map (fun x => x.add e) Aw) (nw - e) (cw - e)] W fun e' w' => e' = .returned (.tuple #[.int .i64 ((siN (s.wt.drop e) : Nat) : Int), .int .i64 (siE (s.wt.drop e))]) ∧ Below W.heap.size W w' := fun e he W hW => by
    have hd := Md.rd ((h.mw.only (Only.of_below (S := []) hW) (by simp)).drop he)
    exact size_any _ _ _ _ W (Lib.hid hd.len) hd.bs hd.nil hd.le hd.max
  have HH := Lib.hid (And.intro h (And.intro hl hk))
  clear h hb hn hle hmax hk
  go_enter Try.func42, Try.ntmps42
  go_wp2_with fail
  go_loopw [5] (fun ev wr => ∃ (e : Nat) (F : List Byte) (S : List (List Byte)), ev = .int .i64 (e : Int) ∧ Tw s k F S e ∧ Below w.heap.size w wr) (fun ev _ => nw - (intOf ev).toNat)
  case atStart => exact ⟨b0, _, _, rfl, hTw, Below.refl _ _⟩
  case round =>
    obtain ⟨e, F, S, rfl, hT, hB⟩ := hrel
    have hel := hT.el
    rw [HH.out.2.1] at hel
    have d3 := (hB.cell (p := ⟨g, 3, none⟩) hg).trans c3
    have d4 := (hB.cell (p := ⟨g, 4, none⟩) hg).trans c4
    by_cases hek : e < k
    · obtain ⟨x, S', _, q1, q2, hT', h7, h4096⟩ := hT.step (by rw [HH.out.2.1]; exact hkn) hek
      have hz := hsz e hel wr hB
      rw [q1, q2] at hz
      obtain ⟨A4, hA4⟩ : ∃ A4, (if cw = e then Aw else Option.map (fun x => x.add e) Aw) = A4 := ⟨_, rfl⟩
      obtain ⟨n4, hn4⟩ : ∃ n4, nw - e = n4 := ⟨_, rfl⟩
      obtain ⟨c4', hc4⟩ : ∃ c4', cw - e = c4' := ⟨_, rfl⟩
      rw [hA4, hn4, hc4] at hz
      obtain ⟨X, hX⟩ : ∃ X, x.length = X := ⟨_, rfl⟩
      rw [hX] at hz hT' h7 h4096
      have hel' := hT'.el
      rw [HH.out.2.1] at hel'
      have s1 : (e : Int) ≤ (cw : Int) := by have := HH.out.1.mw.reads.2.2.1; omega
      have s2 : e ≤ cw := by omega
      have HT := Lib.hid hT'
      have HB := Lib.hid hB
      clear hT hT' hX q1 q2 hB hTw hsz
      go_wp2_with fail
      refine hz.mono ?_
      rintro e' w2 ⟨rfl, b2⟩
      go_wp2
      go_roundw
      case rel => exact ⟨e + X, x, S', by go_num, HT.out, HB.out.trans (b2.mono HB.out.size)⟩
      case measure => simp [intOf]; omega
    · have hst := hT.stop (by omega)
      obtain ⟨A3, hA3⟩ : ∃ A3, (if cw = k then Aw else Option.map (fun x => x.add k) Aw) = A3 := ⟨_, rfl⟩
      obtain ⟨n3, hn3⟩ : ∃ n3, nw - k = n3 := ⟨_, rfl⟩
      obtain ⟨c3', hc3⟩ : ∃ c3', cw - k = c3' := ⟨_, rfl⟩
      obtain ⟨b, hbe⟩ : ∃ b, e - k = b := ⟨_, rfl⟩
      rw [hbe] at hst
      obtain ⟨h, hl, hk⟩ := HH.out
      have h2 := h.below hB
      have hd := h2.mw.drop (k := k) hkn
      have hbl := blkA_drop Aw cw k
      rw [hA3] at hd hbl
      rw [hn3, hc3] at hd
      have e0 : min n s.wt.length = k := by rw [hl, hk]
      have e2 : s.wt.take k = s.wt.take n := by
        by_cases hq : n ≤ nw
        · rw [show k = n by omega]
        · rw [List.take_of_length_le (by omega), List.take_of_length_le (by omega)]
      have hr := Rd.head (Md.rd h2.mw) k hkn
      rw [e2] at hr
      have e3 : s.wt.drop k = (cut s.fb s.ls k).1 ++ (cut s.fb s.ls k).2.flatten := (cut_wt _ _ _).symm
      rw [e3] at hd
      have hp := h2.setw hd (by rw [hbl]; exact h.ap) hst
      have ko := set_then (set_only wr g 3 (.slice A3 n3 c3')) 4 (.int .i64 (b : Int))
      have hr2 := Rd.put hr ko (fun x hx hm => h.gw (List.mem_singleton.1 hm ▸ hx))
      have hs' : s.take n = ⟨s.rs, (cut s.fb s.ls k).1, (cut s.fb s.ls k).2⟩ := by unfold PS.take; rw [e0]
      rw [← hs'] at hp
      have f3 := h2.c.free 3
      have f4 := h2.c.free 4
      have HF := Lib.hid (And.intro hp (And.intro hr2 (And.intro hbl ((Only.of_below hB).trans ko (fun x hx => .inl hx)))))
      have s1 : (k : Int) ≤ (cw : Int) := by have := h.mw.reads.2.2.1; omega
      have s2 : k ≤ cw := by omega
      have s3 : (k : Int) ≤ (nw : Int) := by omega
      have s4 : (e : Int) - (k : Int) = (b : Int) := by omega
      clear h hl hk h2 hd hbl e0 e2 e3 hr hp ko hr2 hs' hst hT hTw hsz HH hB
      go_wp2
      go_ret
      obtain ⟨h1, h2, h3, h4⟩ := HF.out
      exact ⟨rfl, h2, ⟨A3, n3, c3', h1, h3⟩, h4⟩

set_option maxHeartbeats 1000000 in
theorem takeIdle_pc (h : PC w g Z R s Ar nr cr Aw nw cw) (m : Nat) (hm : m ≤ 4096) :
    Calls Try.prog 43 #[.pointer (some ⟨g, 0, none⟩), .int .i64 (m : Int)] w fun e w' => (∃ A c, e = .returned (.slice A m c) ∧ Rd w' A ((fil m).take m) m c) ∧ (∃ A3 n3 c3, PC w' g Z R (s.idle m) A3 n3 c3 Aw nw cw ∧ ∀ x ∈ blkA A3, x ∈ blkA Ar ∨ w.heap.size ≤ x) ∧ Only [g] w w' := by
  by_cases h0 : m = 0
  · subst h0
    have t0 : ((0 : Int) == 0) = true := rfl
    have HH := Lib.hid h
    clear h
    go_enter Try.func43, Try.ntmps43
    go_wp2
    go_ret
    exact ⟨⟨none, 0, rfl, ⟨by simp, Bs.nil_, fun _ => rfl, Nat.le_refl _, by simp⟩⟩, ⟨Ar, nr, cr, HH.out, fun x hx => .inl hx⟩, Only.refl _ _⟩
  have t0 : ((m : Int) == 0) = false := by simp; omega
  obtain ⟨M, hM⟩ : ∃ M, max m 7 = M := ⟨_, rfl⟩
  have hlen := fil_len hm
  rw [hM] at hlen
  have hid := fun W => idle_any (M : Int) W (by omega)
  have hfil : Pac.idV (M : Int) = fil m := by rw [← hM]; rfl
  have hie : Pac.idE (M : Int) = 0 := by unfold Pac.idE; rw [if_pos (by omega)]
  rw [hfil, hie] at hid
  have m1 : max (m : Int) 7 = (M : Int) := by omega
  have m2 : (if (m : Int) < 7 then (7 : Int) else (m : Int)) = (M : Int) := by split <;> omega
  have m3 : (if m < 7 then (7 : Int) else (m : Int)) = (M : Int) := by split <;> omega
  have hmM : m ≤ M := by omega
  have HH := Lib.hid (And.intro h (And.intro hlen hM))
  clear hlen hM hfil hie h
  go_enter Try.func43, Try.ntmps43
  go_wp2_with fail
  refine (hid _).mono ?_
  rintro e w2 ⟨v, rfl, o2, b2⟩
  obtain ⟨h, hlen, hM⟩ := HH.out
  obtain ⟨A, c, rfl, hr⟩ := Rd.of o2 hlen
  have hmd := Md.of o2 hlen
  obtain ⟨A3, hA3⟩ : ∃ A3, (if c = m then A else Option.map (fun x => x.add m) A) = A3 := ⟨_, rfl⟩
  obtain ⟨n3, hn3⟩ : ∃ n3, M - m = n3 := ⟨_, rfl⟩
  obtain ⟨c3, hc3⟩ : ∃ c3, c - m = c3 := ⟨_, rfl⟩
  have hd := hmd.drop (k := m) hmM
  have hbl := blkA_drop A c m
  rw [hA3] at hd hbl
  rw [hn3, hc3] at hd
  have hnew : ∀ x ∈ blkA A3, w.heap.size ≤ x := fun x hx => (hmd.lt x (by rw [← hbl]; exact hx)).1
  have h2 := h.below b2
  have hp := h2.setr (hd.more (Nat.zero_le _)) (fun x hx hy => by have := hnew x hy; have := (h.mw.lt x hx).2; omega)
  have ko := set_only w2 g 2 (.slice A3 n3 c3)
  have hr2 := Rd.put (Rd.head hr m hmM) ko (fun x hx hm => by have := hmd.lt x hx; have := h.c.lt; have := List.mem_singleton.1 hm; omega)
  have hs' : s.idle m = { s with rs := (fil m).drop m } := by unfold PS.idle; rw [if_neg h0]
  rw [← hs'] at hp
  have HF := Lib.hid (And.intro hp (And.intro hr2 (And.intro hnew ((Only.of_below (S := [g]) b2).trans ko (fun x hx => .inl hx)))))
  have f2 := h2.c.free 2
  have c2 := h2.c.cell 2
  simp at c2
  have s1 : (m : Int) ≤ (c : Int) := by have := hr.le; omega
  have s2 : m ≤ c := by omega
  have s3 : (m : Int) ≤ (M : Int) := by omega
  clear h hlen hM hmd hd hbl hnew h2 hp ko hr2 hs' o2 b2 hr HH
  go_wp2
  go_ret
  obtain ⟨h1, h2, h3, h4⟩ := HF.out
  exact ⟨⟨_, _, rfl, h2⟩, ⟨_, _, _, h1, fun x hx => .inr (h3 x hx)⟩, h4⟩
end
end Go.Proofs.Ytcmonalnhdodmaa.Pkr

/-
  Package packer: permitted, Push.
-/
namespace Go.Proofs.Ytcmonalnhdodmaa.Pkr
open Go.RowKit
open Pac (bel_new deE deN deP decode_any)

set_option maxHeartbeats 1000000 in
theorem permitted_any (a : Option Addr) (l : List Byte) (n c : Nat) (w : World) (h : Rd w a l n c) :
    Calls Try.prog 39 #[.slice a n c] w fun e w' => e = .returned (.bool (decide (Pkt l))) ∧ Below w.heap.size w w' := by
  have hd := decode_any a l n c w (Lib.hid h.len) h.bs h.nil h.le h.max
  have hln := h.len
  obtain ⟨N, hN⟩ : ∃ N, deN l = N := ⟨_, rfl⟩
  obtain ⟨E, hE⟩ : ∃ E, deE l = E := ⟨_, rfl⟩
  obtain ⟨P, hP⟩ : ∃ P, deP l = P := ⟨_, rfl⟩
  obtain ⟨com, sec, ap, fl, ct, d⟩ := P
  rw [hN, hE, hP] at hd
  by_cases h1 : E = 0
  · by_cases h2 : N = n
    · by_cases h3 : ap = 2047
      · rw [decide_eq_false (fun k : Pkt l => k.a (by rw [hP]; exact h3))]
        have t1 : (E == 0) = true := by simpa using h1
        have t2 : ((N : Int) == (n : Int)) = true := by simp; omega
        have t3 : (ap != 2047) = false := by simpa using h3
        clear h hN hE hP h1 h2 h3 hln
        go_enter Try.func39, Try.ntmps39
        go_wp2_with fail
        refine hd.mono ?_
        rintro e w2 ⟨v, rfl, o2, b2⟩
        obtain ⟨A2, c2, rfl, _⟩ := o2.reads
        have HB := Lib.hid (b2.alloc b2.size (.cells #[.bool com, .bool sec, .int .i64 ap, .int .i64 fl, .int .i64 ct, .slice A2 d.length c2] 56))
        clear o2 b2 hd
        go_wp2
        go_ret
        exact ⟨rfl, HB.out⟩
      · rw [decide_eq_true (⟨by rw [hE]; exact h1, by rw [hN, h2, hln], by rw [hP]; exact h3⟩ : Pkt l)]
        have t1 : (E == 0) = true := by simpa using h1
        have t2 : ((N : Int) == (n : Int)) = true := by simp; omega
        have t3 : (ap != 2047) = true := by simpa using h3
        clear h hN hE hP h1 h2 h3 hln
        go_enter Try.func39, Try.ntmps39
        go_wp2_with fail
        refine hd.mono ?_
        rintro e w2 ⟨v, rfl, o2, b2⟩
        obtain ⟨A2, c2, rfl, _⟩ := o2.reads
        have HB := Lib.hid (b2.alloc b2.size (.cells #[.bool com, .bool sec, .int .i64 ap, .int .i64 fl, .int .i64 ct, .slice A2 d.length c2] 56))
        clear o2 b2 hd
        go_wp2
        go_ret
        exact ⟨rfl, HB.out⟩
    · rw [decide_eq_false (fun k : Pkt l => h2 (by rw [← hN, k.n, hln]))]
      have t1 : (E == 0) = true := by simpa using h1
      have t2 : ((N : Int) == (n : Int)) = false := by simp; omega
      clear h hN hE hP h1 h2 hln
      go_enter Try.func39, Try.ntmps39
      go_wp2_with fail
      refine hd.mono ?_
      rintro e w2 ⟨v, rfl, o2, b2⟩
      obtain ⟨A2, c2, rfl, _⟩ := o2.reads
      have HB := Lib.hid (b2.alloc b2.size (.cells #[.bool com, .bool sec, .int .i64 ap, .int .i64 fl, .int .i64 ct, .slice A2 d.length c2] 56))
      clear o2 b2 hd
      go_wp2
      go_ret
      exact ⟨rfl, HB.out⟩
  · rw [decide_eq_false (fun k : Pkt l => h1 (by rw [← hE, k.e]))]
    have t1 : (E == 0) = false := by simpa using h1
    clear h hN hE hP h1 hln
    go_enter Try.func39, Try.ntmps39
    go_wp2_with fail
    refine hd.mono ?_
    rintro e w2 ⟨v, rfl, o2, b2⟩
    obtain ⟨A2, c2, rfl, _⟩ := o2.reads
    have HB := Lib.hid (b2.alloc b2.size (.cells #[.bool com, .bool sec, .int .i64 ap, .int .i64 fl, .int .i64 ct, .slice A2 d.length c2] 56))
    clear o2 b2 hd
    go_wp2
    go_ret
    exact ⟨rfl, HB.out⟩

section
variable {w w' : World} {g Z R nr cr nw cw : Nat} {s : PS} {Ar Aw : Option Addr} {F S : List Nat}
/-- what waits has grown -/
theorem PC.grow (h : PC w g Z R s Ar nr cr Aw nw cw) {l : List Byte} {A' : Option Addr} {n' c' : Nat} (hm : Md w' 0 5 A' n' c' (s.wt ++ l)) (k : Only (blkA Aw) w w') (hn : ∀ x ∈ blkA A', x ∈ blkA Aw ∨ w.heap.size ≤ x) :
    Cel w' g 70 #[.int .i64 (Z : Int), .int .i64 (R : Int), .slice Ar nr cr, .slice Aw nw cw, .int .i64 (s.fb.length : Int)] ∧ PC (w'.setCell ⟨g, 3, none⟩ (.slice A' n' c')) g Z R { s with ls := s.ls ++ [l] } Ar nr cr A' n' c' := by
  have hc := h.c.only k h.gw
  have hr := h.mr.only k (fun x hx hm => h.ap x hm hx)
  have k2 := set_only w' g 3 (.slice A' n' c')
  have hg := Md.off hm hc (by decide)
  refine ⟨hc, hc.put 3 _, hr.only k2 (fun x hx hm => h.gr (List.mem_singleton.1 hm ▸ hx)), ?_, fun x hx hm => ?_⟩
  · rw [push_wt]
    exact hm.only k2 (fun x hx hm => hg (List.mem_singleton.1 hm ▸ hx))
  · rcases hn x hx with h1 | h1
    · exact h.ap x h1 hm
    · have := (h.mr.lt x hm).2; omega

set_option maxHeartbeats 2000000 in
theorem ppush_any (h : PW w g F Z R s) {a : Option Addr} {l : List Byte} {n c : Nat} (hl : Rd w a l n c) :
    Calls Try.prog 20 #[.pointer (some ⟨g, 0, none⟩), .slice a n c] w fun e w' => e = .returned (.int .i64 (psE R l s)) ∧ ∃ F', PW w' g F' Z R (psS R l s) ∧ Only F w w' ∧ ∀ x ∈ F', x ∈ F ∨ w.heap.size ≤ x := by
  have h0 := h
  obtain ⟨⟨Ar, nr, cr, Aw, nw, cw, hc, rfl⟩, hZ1, hZ2, hR, hs⟩ := h
  have hwk := pworks_pc hc hZ1
  have hpm := permitted_any a l n c w hl
  have hlw := hc.mw.1
  have hws := hs.w
  by_cases hp : Pkt l
  · rw [decide_eq_true hp] at hpm
    have h7 := hp.seven
    have h8 := hp.most
    have hln := hl.len
    obtain ⟨M, hM⟩ : ∃ M, nw + n = M := ⟨_, rfl⟩
    have hM' : (nw : Int) + (n : Int) = (M : Int) := by omega
    have hM2 : wrap64 (M : Int) = (M : Int) := by unfold wrap64; omega
    by_cases hf : R < M
    · obtain ⟨e1, e2⟩ := ps_full (R := R) (s := s) hp (by omega)
      rw [e1, e2]
      have t1 : decide ((R : Int) < (M : Int)) = true := by simpa using hf
      have t1' : decide (R < M) = true := by simpa using hf
      have HH := Lib.hid (And.intro h0 hc)
      clear hs hp hl hln hlw hf e1 e2 h7 h8 h0 hc
      go_enter Try.func20, Try.ntmps20
      go_wp2_with fail
      refine hwk.mono ?_
      rintro e w1 ⟨rfl, rfl⟩
      go_wp2_with fail
      refine hpm.mono ?_
      rintro e w2 ⟨rfl, b2⟩
      have h2 := HH.out.2.below b2
      have c1 := h2.c.cell 1
      have c3 := h2.c.cell 3
      simp at c1 c3
      have HB := Lib.hid b2
      clear h2 b2
      go_wp2
      go_quiet (fail)
      go_wp2
      go_ret
      have b := HB.out.trans ((drewN_below w2 nq).mono HB.out.size)
      exact ⟨rfl, _, HH.out.1.below b, Only.of_below b, fun x hx => .inl hx⟩
    · obtain ⟨e1, e2⟩ := ps_yes (R := R) (s := s) hp (by omega)
      have hok := hs.push hp (by omega)
      rw [e1, e2]
      have t1 : decide ((R : Int) < (M : Int)) = false := by simpa using hf
      have t1' : decide (R < M) = false := by simpa using hf
      have hn47 : nw + n ≤ 140737488355328 := by omega
      have hn0 : 0 < n := by omega
      have HH := Lib.hid (And.intro h0 (And.intro hc (And.intro hl (And.intro hok hM))))
      have HN := Lib.hid (And.intro hn47 hn0)
      clear hs hp hl hln hlw hf e1 e2 h7 h8 h0 hc hok hn47 hn0
      go_enter Try.func20, Try.ntmps20
      go_wp2_with fail
      refine hwk.mono ?_
      rintro e w1 ⟨rfl, rfl⟩
      go_wp2_with fail
      refine hpm.mono ?_
      rintro e w2 ⟨rfl, b2⟩
      have h2 := HH.out.2.1.below b2
      have c1 := h2.c.cell 1
      have c3 := h2.c.cell 3
      simp at c1 c3
      have HB := Lib.hid b2
      clear h2 b2
      go_wp2
      go_quiet (fail)
      obtain ⟨w3, hw3⟩ : ∃ w3, w3 = w2.drewN nq := ⟨_, rfl⟩
      have b3 : Below w.heap.size w w3 := by rw [hw3]; exact HB.out.trans ((drewN_below w2 nq).mono HB.out.size)
      have h3 := HH.out.2.1.below b3
      obtain ⟨A', c', w4, hrun, hmd, hon, hnew⟩ := run_mid (P := Try.prog) (ty := 26) (c2 := c) w3 is_bytes h3.mw HH.out.2.2.1.len (HH.out.2.2.1.later b3).bs HN.out.2 HN.out.1 (Nat.zero_le _)
      rw [hM] at hrun hmd
      obtain ⟨hc4, hp4⟩ := h3.grow hmd hon hnew
      have d3 := hc4.cell 3
      have f3 := hc4.free 3
      simp at d3
      have e3 := h3.c.cell 3
      simp at e3
      have HF := Lib.hid (And.intro hp4 (And.intro hon (And.intro hnew b3)))
      clear hmd hon hnew hc4 hp4 c1 c3 h3
      rw [← hw3]
      clear hw3
      go_wp2_with (at_builtin; refine Row.wpList_appendK _ rfl (.tmp 28) (.tmp 29) 26 26 rfl (.slice Aw nw cw) (.slice a n c) rfl rfl hrun ?_)
      go_ret
      obtain ⟨p1, p2, p3, p4⟩ := HF.out
      refine ⟨rfl, _, ⟨⟨_, _, _, _, _, _, p1, rfl⟩, hZ1, hZ2, hR, HH.out.2.2.2.1⟩, ?_, fun x hx => ?_⟩
      · refine ((Only.of_below p4).trans (p2.more (T := fam g Ar Aw) (fun x hx => .inl (by simp [fam, hx]))) (fun x hx => .inl hx)).put (p := ⟨g, 3, none⟩) (.inl (by simp [fam])) _
      · rcases List.mem_cons.1 hx with rfl | hx
        · exact .inl (by simp [fam])
        · rcases List.mem_append.1 hx with hx | hx
          · rcases p3 x hx with h1 | h1
            · exact .inl (by simp [fam, h1])
            · exact .inr (Nat.le_trans p4.size h1)
          · exact .inl (by simp [fam, hx])
  · obtain ⟨e1, e2⟩ := ps_no (R := R) (s := s) hp
    rw [e1, e2]
    rw [decide_eq_false hp] at hpm
    have HH := Lib.hid h0
    clear hs hp hl hlw e1 e2 h0 hc
    go_enter Try.func20, Try.ntmps20
    go_wp2_with fail
    refine hwk.mono ?_
    rintro e w1 ⟨rfl, rfl⟩
    go_wp2_with fail
    refine hpm.mono ?_
    rintro e w2 ⟨rfl, b2⟩
    go_wp2
    go_ret
    exact ⟨rfl, _, HH.out.below b2, Only.of_below b2, fun x hx => .inl hx⟩
end
end Go.Proofs.Ytcmonalnhdodmaa.Pkr

/-
  Package packer: Next.
-/
namespace Go.Proofs.Ytcmonalnhdodmaa.Pkr
open Go.RowKit
open Pac (bel_new)

/-- in the midst of Next: the Packer in state s, its data field so far (fv, own, apart from the Packer's blocks); of the old blocks only the Packer's have turned -/
structure NX (w0 w : World) (g : Nat) (F : List Nat) (Z R : Nat) (s : PS) (Ar : Option Addr) (nr cr : Nat) (Aw : Option Addr) (nw cw : Nat) (fv : Value) (fl : List Byte) : Prop where
  pc : PC w g Z R s Ar nr cr Aw nw cw
  ow : Ow w w0.heap.size 5 fv fl
  ap : ∀ i, fv.ownBlock = some i → i ∉ fam g Ar Aw
  on : Only F w0 w
  nb : ∀ x ∈ fam g Ar Aw, x ∈ F ∨ w0.heap.size ≤ x
  gF : g ∈ F
section
variable {w0 w w' : World} {g Z R nr cr nw cw nr' cr' nw' cw' : Nat} {s s' : PS} {Ar Aw Ar' Aw' : Option Addr} {F S : List Nat} {fv fv' : Value} {fl fl' : List Byte}
theorem NX.step (h : NX w0 w g F Z R s Ar nr cr Aw nw cw fv fl) (k : Only [g] w w') (p : PC w' g Z R s' Ar' nr' cr' Aw' nw' cw') (hn : ∀ x ∈ fam g Ar' Aw', x ∈ fam g Ar Aw ∨ w.heap.size ≤ x) : NX w0 w' g F Z R s' Ar' nr' cr' Aw' nw' cw' fv fl := by
  have hsz := h.on.size
  refine ⟨p, h.ow.only k (fun i hi hm => h.ow.apart h.pc.c (by decide) (by rw [hi, List.mem_singleton.1 hm])), fun i hi hm => ?_, h.on.trans k (fun x hx => .inl (List.mem_singleton.1 hx ▸ h.gF)), fun x hx => ?_, h.gF⟩
  · rcases hn i hm with h1 | h1
    · exact h.ap i hi h1
    · have := (h.ow.lt i hi).2; omega
  · rcases hn x hx with h1 | h1
    · exact h.nb x h1
    · exact .inr (by omega)
theorem NX.app (h : NX w0 w g F Z R s Ar nr cr Aw nw cw fv fl) (hg : w.grownBy w' fv.ownBlock) (ho : Ow w' w0.heap.size 5 fv' fl') (hv : fv'.ownBlock = fv.ownBlock ∨ fv'.ownBlock = some w.heap.size) : NX w0 w' g F Z R s Ar nr cr Aw nw cw fv' fl' := by
  have k := Only.of_grown hg
  refine ⟨h.pc.only k (fun x hx hm => h.ap x (by simpa using hm) hx), ho, fun i hi hm => ?_, h.on.trans k (fun x hx => .inr (h.ow.lt x (by simpa using hx)).1), h.nb, h.gF⟩
  rcases hv with e | e
  · exact h.ap i (e ▸ hi) hm
  · rw [e] at hi
    injection hi with hi
    have := h.pc.lt i hm
    omega
theorem fam_left {g : Nat} {A A' B : Option Addr} {m : Nat} (h : ∀ x ∈ blkA A', x ∈ blkA A ∨ m ≤ x) : ∀ x ∈ fam g A' B, x ∈ fam g A B ∨ m ≤ x := fun x hx => by
  rcases List.mem_cons.1 hx with rfl | hx
  · exact .inl (by simp [fam])
  · rcases List.mem_append.1 hx with hx | hx
    · exact .inl (by simp [fam, hx])
    · rcases h x hx with h1 | h1
      · exact .inl (by simp [fam, h1])
      · exact .inr h1
theorem fam_right {g : Nat} {A B B' : Option Addr} {m : Nat} (h : blkA B' = blkA B) : ∀ x ∈ fam g A B', x ∈ fam g A B ∨ m ≤ x := fun x hx => .inl (by unfold fam at hx ⊢; rw [h] at hx; exact hx)

theorem run_make_bytes (N : Nat) (hN : N ≤ 1099511627776) (w : World) :
    (Instr.makeSlice 26 (.int .i64 0) (.int .i64 (N : Int))).run Try.prog w = .ok (.slice (some ⟨w.heap.size, 0, none⟩) 0 N) (w.alloc (.cells (madeCells #[.int .u8 0] N) 5)) := by
  obtain ⟨ht, _, i, hi, hz, hs, hb⟩ := is_bytes
  have hr := run_make (P := Try.prog) w 26 5 i (.int .u8 0) ht hi hz .i64 .i64 0 N (Int.le_refl _) (by omega) (by rw [hb]; omega) (by omega)
  simp only [Int.toNat_natCast, hs, Nat.mul_one, Int.toNat_zero] at hr
  exact hr

set_option maxHeartbeats 400000 in
theorem pnext_no (h : PW w g F Z R s) (h0 : s.wt.length = 0) :
    Calls Try.prog 21 #[.pointer (some ⟨g, 0, none⟩)] w fun e w' => e = .returned (.tuple #[.slice none 0 0, .int .i64 0, .bool false]) ∧ w = w' := by
  have hl := pleft_any h h0
  clear h h0
  go_enter Try.func21, Try.ntmps21
  go_wp2_with fail
  refine hl.mono ?_
  rintro e w1 ⟨rfl, rfl⟩
  go_wp2
  go_ret3
  exact ⟨rfl, rfl⟩
set_option maxHeartbeats 400000 in
theorem pnext_nil (w : World) : Calls Try.prog 21 #[.pointer none] w fun e w' => e = .returned (.tuple #[.slice none 0 0, .int .i64 0, .bool false]) ∧ w = w' := by
  go_enter Try.func21, Try.ntmps21
  go_wp2_with fail
  refine (pleft_nil w).mono ?_
  rintro e w1 ⟨rfl, rfl⟩
  go_wp2
  go_ret3
  exact ⟨rfl, rfl⟩

set_option maxRecDepth 100000 in
set_option maxHeartbeats 4000000 in
theorem pnext_yes (h : PW w g F Z R s) (h0 : 0 < s.wt.length) :
    Calls Try.prog 21 #[.pointer (some ⟨g, 0, none⟩)] w fun e w' => ∃ v F', e = .returned (.tuple #[v, .int .i64 ((nxP Z s : Nat) : Int), .bool true]) ∧ Ow w' w.heap.size 5 v (nxF Z s) ∧ (∀ i, v.ownBlock = some i → i ∉ F') ∧ PW w' g F' Z R (nxS Z s) ∧ Only F w w' ∧ ∀ x ∈ F', x ∈ F ∨ w.heap.size ≤ x := by
  obtain ⟨⟨Ar, nr, cr, Aw, nw, cw, hc, rfl⟩, hZ1, hZ2, hR, hs⟩ := h
  have hlw := hc.mw.1
  have hlr := hc.mr.1
  obtain ⟨P, hP⟩ : ∃ P, nxP Z s = P := ⟨_, rfl⟩
  have hle := pleft_pc hc hZ1
  have hfi := pfirst_pc hc hs hR
  rw [hP] at hfi ⊢
  have t0 : ((nw : Int) == 0) = false := by simp; omega
  have t0' : (nw == 0) = false := by simp; omega
  have hmk := run_make_bytes Z (by omega)
  -- the numbers
  obtain ⟨k1, hk1⟩ : ∃ k1, k1 = min Z nr := ⟨_, rfl⟩
  have hA : nxA Z s = Z - k1 := by unfold nxA; rw [List.length_take, hlr, hk1]
  obtain ⟨m1, hm1⟩ : ∃ m1, m1 = Z - k1 := ⟨_, rfl⟩
  rw [← hm1] at hA
  obtain ⟨k2, hk2⟩ : ∃ k2, k2 = min m1 nw := ⟨_, rfl⟩
  have hB : nxB Z s = m1 - k2 := by unfold nxB; rw [hA, List.length_take, hlw, hk2]
  obtain ⟨m2, hm2⟩ : ∃ m2, m2 = m1 - k2 := ⟨_, rfl⟩
  rw [← hm2] at hB
  obtain ⟨q2, hq2⟩ : ∃ q2, q2 = k1 + k2 := ⟨_, rfl⟩
  have i1 : (Z : Int) - (k1 : Int) = (m1 : Int) := by omega
  have i2 : (Z : Int) - (q2 : Int) = (m2 : Int) := by omega
  have b1 : k1 ≤ 1012 := by omega
  have b2 : q2 ≤ 1012 := by omega
  have HN := Lib.hid (And.intro hk1 (And.intro hm1 (And.intro hk2 (And.intro hm2 (And.intro hq2 (And.intro hA hB))))))
  have HS := Lib.hid (And.intro hc (And.intro hs (And.intro hlw hlr)))
  clear hk1 hA hm1 hk2 hB hm2 hq2 hc hs hlw hlr h0 hP
  go_enter Try.func21, Try.ntmps21
  go_wp2_with fail
  refine hle.mono ?_
  rintro e w1 ⟨rfl, rfl⟩
  go_wp2_with fail
  refine hfi.mono ?_
  rintro e w1 ⟨rfl, bw1⟩
  obtain ⟨w2, hw2⟩ : ∃ w2, w2 = w1.alloc (.cells (madeCells #[.int .u8 0] Z) 5) := ⟨_, rfl⟩
  have bw2 : Below w.heap.size w w2 := by rw [hw2]; exact bw1.alloc bw1.size _
  have hc1 := HS.out.1.below bw1
  have hc2 := HS.out.1.below bw2
  have ow2 : Ow w2 w.heap.size 5 (.slice (some ⟨w1.heap.size, 0, none⟩) 0 Z) [] := by
    rw [hw2]
    exact World.ownsRow_made w1 _ Z bw1.size (by unfold maxLen; omega) (by rw [size_madeCells]; simp)
  have N2 : NX w w2 g (fam g Ar Aw) Z R s Ar nr cr Aw nw cw (.slice (some ⟨w1.heap.size, 0, none⟩) 0 Z) [] :=
    ⟨hc2, ow2, (fun i hi hm => by have := hc1.lt i hm; have : w1.heap.size = i := by simpa [Value.ownBlock] using hi
                                  omega), Only.of_below bw2, fun x hx => .inl hx, by simp [fam]⟩
  have c0 := hc1.c.cell 0
  simp at c0
  have d0 := hc2.c.cell 0
  simp at d0
  have e0 : (w1.alloc (.cells (madeCells #[.int .u8 0] Z) 5)).cell? ⟨g, 0, none⟩ = some (.int .i64 (Z : Int)) := by rw [← hw2]; exact d0
  have x3 := takeRest_pc hc2 Z HN.out.1
  clear ow2 hc1 hc2 bw1 bw2 hle hfi
  go_wp2_with fail
  rw [← hw2]
  refine x3.mono ?_
  clear hw2 x3
  rintro e w3 ⟨rfl, rd3, ⟨A3, n3, c3, p3, hb3⟩, k3⟩
  have N3 := N2.step k3 p3 (fam_left (fun x hx => .inl (by rw [← hb3]; exact hx)))
  have hl3 := rd3.len
  have HL3 := Lib.hid hl3
  clear N2 c0 d0 e0 p3 hb3 k3
  go_wp2_with (at_builtin; refine wpList_appAt _ is_bytes rfl (.tmp 17) (.tmp 23) rfl (m := []) rfl N3.ow (l := s.rs.take Z) (by rw [HL3.out]; rfl) rd3.bs rd3.nil (by rw [HL3.out]; simp; omega) N3.on.size ?_; intro v4 w4 o4 g4 hv4; rw [List.nil_append] at o4; have N4 := N3.app g4 o4 hv4; obtain ⟨A4, c4, rfl, _⟩ := o4.reads_len HL3.out; have c0 := N4.pc.c.cell 0; simp at c0; clear N3 o4 g4 hv4)
  have x5 := takeWaiting_pc N4.pc HS.out.2.1.rest hR m1 HN.out.2.2.1
  refine x5.mono ?_
  clear x5 rd3 HL3 hl3 c0
  rintro e w5 ⟨rfl, rd5', ⟨A5, n5, c5, p5, hb5⟩, k5⟩
  have rd5 : Rd w5 Aw (s.wt.take m1) k2 cw := rd5'
  have N5 := N4.step k5 p5 (fam_right hb5)
  have HL5 := Lib.hid rd5.len
  have c0 := N5.pc.c.cell 0
  simp at c0
  have HL6 : Hid ((s.rs.take Z ++ s.wt.take m1).length = q2) := Lib.hid (by rw [List.length_append, HL5.out, List.length_take, HS.out.2.2.2]; have := HN.out; omega)
  have q0 : k1 + k2 = q2 := by have := HN.out; omega
  have HQ := Lib.hid q0
  have HK : Hid ((s.rs.take Z).length = k1) := Lib.hid (by rw [List.length_take, HS.out.2.2.2]; have := HN.out; omega)
  clear N4 rd5' p5 hb5 k5 q0
  go_wp2_with (at_builtin; refine wpList_appAt _ is_bytes rfl (.tmp 25) (.tmp 34) rfl (m := s.rs.take Z) rfl N5.ow (l := s.wt.take m1) (by rw [HL5.out]; rfl) rd5.bs rd5.nil (by rw [HL5.out, HK.out]; have := HQ.out; omega) N5.on.size ?_; intro v6 w6 o6 g6 hv6; have N6 := N5.app g6 o6 hv6; obtain ⟨A6, c6, rfl, _⟩ := o6.reads_len HL6.out; have c0 := N6.pc.c.cell 0; simp at c0; clear N5 o6 g6 hv6)
  have x7 := takeIdle_pc N6.pc m2 (by have := HN.out; omega)
  refine x7.mono ?_
  clear x7 rd5 HL5 c0
  rintro e w7 ⟨⟨A7, c7, rfl, rd7⟩, ⟨A8, n8, c8, p7, hb7⟩, k7⟩
  have N7 := N6.step k7 p7 (fam_left hb7)
  have HL7 := Lib.hid rd7.len
  have HA := Lib.hid HN.out.2.2.2.2.2
  have eF : nxF Z s = s.rs.take Z ++ s.wt.take m1 ++ (fil m2).take m2 := by unfold nxF; rw [HA.out.1, HA.out.2]
  have HL8 : Hid ((s.rs.take Z ++ s.wt.take m1 ++ (fil m2).take m2).length = Z) := Lib.hid (by rw [← eF]; exact nxF_len hZ2)
  have HE := Lib.hid eF
  clear eF
  clear N6 p7 hb7 k7
  go_wp2_with (at_builtin; refine wpList_appAt _ is_bytes rfl (.tmp 36) (.tmp 45) rfl (m := s.rs.take Z ++ s.wt.take m1) rfl N7.ow (l := (fil m2).take m2) (by rw [HL7.out]; rfl) rd7.bs rd7.nil (by rw [HL7.out, HL6.out]; have := HN.out; omega) N7.on.size ?_; intro v8 w8 o8 g8 hv8; have N8 := N7.app g8 o8 hv8; obtain ⟨A9, c9, rfl, _⟩ := o8.reads_len HL8.out; clear N7 o8 g8 hv8)
  have eS : nxS Z s = ((s.rest Z).take m1).idle m2 := by unfold nxS; rw [HA.out.1, HA.out.2]
  rw [HE.out, eS]
  have hok := HS.out.2.1.next hZ2
  rw [eS] at hok
  go_ret3
  exact ⟨_, _, rfl, N8.ow, N8.ap, ⟨⟨_, _, _, _, _, _, N8.pc, rfl⟩, hZ1, hZ2, hR, hok⟩, N8.on, N8.nb⟩
end
end Go.Proofs.Ytcmonalnhdodmaa.Pkr

/-
  Package packer: Clone.
-/
namespace Go.Proofs.Ytcmonalnhdodmaa.Pkr
open Go.RowKit
open Pac (bel_new)

section
variable {w w1 w2 w3 : World} {g Z R nr cr nw cw nr' cr' nw' cw' : Nat} {s : PS} {Ar Aw Ar' Aw' : Option Addr} {F : List Nat}
/-- a Packer that Clone lays -/
theorem Pw_clone (hs : s.Ok R) (hZ1 : 1 ≤ Z) (hZ2 : Z ≤ 1012) (hR : R ≤ 1048576) {b b' : Nat} (o1 : Ow w3 b 5 (.slice Ar' nr' cr') s.rs) (o2 : Ow w3 b' 5 (.slice Aw' nw' cw') s.wt) (hr : s.rs.length = nr') (hw : s.wt.length = nw')
    (hb : w.heap.size ≤ b) (hb' : w.heap.size ≤ b') (ha : ∀ x ∈ blkA Aw', x ∉ blkA Ar') (k : Below w.heap.size w w3) {m : Nat} (hm : s.fb.length = m) :
    PW (w3.alloc (.cells #[.int .i64 (Z : Int), .int .i64 (R : Int), .slice Ar' nr' cr', .slice Aw' nw' cw', .int .i64 (m : Int)] 70)) w3.heap.size (fam w3.heap.size Ar' Aw') Z R s ∧
    (∀ x ∈ fam w3.heap.size Ar' Aw', w.heap.size ≤ x) ∧ Below w.heap.size w (w3.alloc (.cells #[.int .i64 (Z : Int), .int .i64 (R : Int), .slice Ar' nr' cr', .slice Aw' nw' cw', .int .i64 (m : Int)] 70)) := by
  subst hm
  have m1 := Md.of o1 hr
  have m2 := Md.of o2 hw
  have kn := Only.of_below (S := []) (bel_new w3 (.cells #[.int .i64 (Z : Int), .int .i64 (R : Int), .slice Ar' nr' cr', .slice Aw' nw' cw', .int .i64 (s.fb.length : Int)] 70))
  refine ⟨⟨⟨_, _, _, _, _, _, ⟨Cel.new _ _ _, (m1.only kn (by simp)).more (Nat.zero_le _), (m2.only kn (by simp)).more (Nat.zero_le _), ha⟩, rfl⟩, hZ1, hZ2, hR, hs⟩, fun x hx => ?_, k.alloc k.size _⟩
  rcases List.mem_cons.1 hx with rfl | hx
  · exact k.size
  · rcases List.mem_append.1 hx with hx | hx
    · have := (m2.lt x hx).1; omega
    · have := (m1.lt x hx).1; omega

end
end Go.Proofs.Ytcmonalnhdodmaa.Pkr

/-
  The walks of the reference of layer 10: zero, Valid.
-/
namespace Go.Proofs.Ytcmonalnhdodmaa.Pac
open Go.RowKit

end Go.Proofs.Ytcmonalnhdodmaa.Pac

/-
  The walks of the reference of layer 10: Bytes, Encode, Idle, Size, Same.
-/
namespace Go.Proofs.Ytcmonalnhdodmaa.Pac
open Go.RowKit

theorem Ow_new (w : World) (base : Nat) (e : TypeId) (l : List Byte) (n : Nat) (C : Array Value) (hn : l.length = n) (hC : C = (l.map B8).toArray) (h : base ≤ w.heap.size) (hm : n ≤ maxLen) (g : Nat) (hg : w.heap.size = g) : Ow (w.alloc (.cells C e)) base e (.slice (some ⟨g, 0, none⟩) n n) l := by
  subst hn hg
  exact ⟨by simp, .inr ⟨w.heap.size, l.length, C, rfl, h, heap_alloc_new w _, Nat.le_refl _, hm, by rw [hC]; simp, by rw [hC]; simp [← List.map_take]⟩⟩
theorem hdr_cells {H C K : Nat} {x0 x1 x2 x3 x4 x5 : Int} (h0 : x0 = ((H / 256 % 256 : Nat) : Int)) (h1 : x1 = ((H % 256 : Nat) : Int)) (h2 : x2 = ((C / 256 % 256 : Nat) : Int)) (h3 : x3 = ((C % 256 : Nat) : Int)) (h4 : x4 = ((K / 256 % 256 : Nat) : Int)) (h5 : x5 = ((K % 256 : Nat) : Int)) :
    #[Value.int .u8 x0, .int .u8 x1, .int .u8 x2, .int .u8 x3, .int .u8 x4, .int .u8 x5] = ((hdr H C K).map B8).toArray := by
  subst h0 h1 h2 h3 h4 h5
  simp [hdr]

end Go.Proofs.Ytcmonalnhdodmaa.Pac

/-
  What an address leads to, read through blocks of which a condition D holds (so that it stays while only other blocks are written): bytes (Dd), a slice of byte strings (LD).
-/
namespace Go.Proofs.Ytcmonalnhdodmaa.Lst
open Go.RowKit Go.Proofs.Ytcmonalnhdodmaa.Row

/-- the blocks of which D holds are as they were -/
structure Kd (D : Nat → Prop) (w w' : World) : Prop where
  s : w.heap.size ≤ w'.heap.size
  b : ∀ i, i < w.heap.size → D i → w'.heap[i]? = w.heap[i]?
section
variable {D D' : Nat → Prop} {w w' w2 : World} {S : List Nat} {l : List Byte} {a A : Option Addr} {c n : Nat} {ls : List (List Byte)}
theorem Kd.of_below (h : Below w.heap.size w w') : Kd D w w' := ⟨h.size, fun i hi _ => h.block i hi⟩
theorem Kd.of_only (h : Only S w w') (hS : ∀ i, i < w.heap.size → D i → i ∉ S) : Kd D w w' := ⟨h.size, fun i hi hd => h.block i hi (hS i hi hd)⟩
theorem Kd.cell (h : Kd D w w') {p : Addr} (hp : p.block < w.heap.size) (hd : D p.block) : w'.cell? p = w.cell? p := by
  unfold World.cell?
  rw [h.b p.block hp hd]

/-- (a, l.length, c) leads to the bytes l, by a block of which D holds -/
structure Dd (w : World) (D : Nat → Prop) (l : List Byte) (a : Option Addr) (c : Nat) : Prop where
  b : 0 < l.length → ∃ b off, a = some ⟨b, off, none⟩ ∧ b < w.heap.size ∧ D b ∧ ∀ i x, l[i]? = some x → w.cell? ⟨b, off + i, none⟩ = some (B8 x)
  n : a = none → c = 0
  l : l.length ≤ c
  m : c ≤ maxLen
theorem Dd.keep (h : Dd w D l a c) (k : Kd D w w') : Dd w' D l a c := ⟨fun hl => by
  obtain ⟨b, off, e, hb, hd, hc⟩ := h.b hl
  exact ⟨b, off, e, Nat.lt_of_lt_of_le hb k.s, hd, fun i x hx => (k.cell (p := ⟨b, off + i, none⟩) hb hd).trans (hc i x hx)⟩, h.n, h.l, h.m⟩
theorem Dd.imp (h : Dd w D l a c) (hD : ∀ b, b < w.heap.size → D b → D' b) : Dd w D' l a c := ⟨fun hl => by
  obtain ⟨b, off, e, hb, hd, hc⟩ := h.b hl
  exact ⟨b, off, e, hb, hD b hb hd, hc⟩, h.n, h.l, h.m⟩
theorem Dd.rd (h : Dd w D l a c) (hn : l.length = n) : Rd w a l n c := ⟨hn, fun hl => by
  obtain ⟨b, off, e, hb, _, hc⟩ := h.b hl
  exact ⟨b, off, e, hb, hc⟩, h.n, by rw [← hn]; exact h.l, h.m⟩
theorem Dd.own {base : Nat} {e : TypeId} (h : Ow w base e (.slice a n c) l) (hn : l.length = n) (hD : ∀ b, base ≤ b → b < w.heap.size → D b) : Dd w D l a c := by
  have hm := Md.of h hn
  obtain ⟨hb, h0, hl, hx⟩ := hm.reads
  refine ⟨fun hp => ?_, h0, by rw [hn]; exact hl, hx⟩
  obtain ⟨b, off, rfl, hlt, hc⟩ := hb hp
  exact ⟨b, off, rfl, hlt, hD b (hm.lt b (by simp [blkA])).1 hlt, hc⟩
theorem Dd.nil_ (w : World) (D : Nat → Prop) : Dd w D [] none 0 := ⟨fun h => absurd h (by simp), fun _ => rfl, by simp, by decide⟩

/-- (A, n, c) leads to the byte strings ls; they and their slices lie in blocks of which D holds -/
structure LD (w : World) (D : Nat → Prop) (A : Option Addr) (n c : Nat) (ls : List (List Byte)) : Prop where
  ex : ∃ qs : List Qb, qs.map (·.l) = ls ∧
    (0 < qs.length → ∃ b off, A = some ⟨b, off, none⟩ ∧ b < w.heap.size ∧ D b ∧ ∀ i q, qs[i]? = some q → w.cell? ⟨b, off + i, none⟩ = some (.slice q.a q.l.length q.c)) ∧ ∀ q ∈ qs, Dd w D q.l q.a q.c
  len : ls.length = n
  nil : A = none → c = 0
  le : n ≤ c
  max : c ≤ maxLen
theorem LD.nil_ (w : World) (D : Nat → Prop) : LD w D none 0 0 [] := ⟨⟨[], rfl, (fun h => absurd h (by simp)), (fun q hq => nomatch hq)⟩, rfl, fun _ => rfl, Nat.le_refl _, by decide⟩
theorem LD.keep (h : LD w D A n c ls) (k : Kd D w w') : LD w' D A n c ls := by
  obtain ⟨⟨qs, h1, h2, h3⟩, h4, h5, h6, h7⟩ := h
  refine ⟨⟨qs, h1, fun hl => ?_, fun q hq => (h3 q hq).keep k⟩, h4, h5, h6, h7⟩
  obtain ⟨b, off, e, hb, hd, hc⟩ := h2 hl
  exact ⟨b, off, e, Nat.lt_of_lt_of_le hb k.s, hd, fun i q hq => (k.cell (p := ⟨b, off + i, none⟩) hb hd).trans (hc i q hq)⟩
theorem LD.below (h : LD w D A n c ls) (k : Below w.heap.size w w') : LD w' D A n c ls := h.keep (.of_below k)
theorem LD.imp (h : LD w D A n c ls) (hD : ∀ b, b < w.heap.size → D b → D' b) : LD w D' A n c ls := by
  obtain ⟨⟨qs, h1, h2, h3⟩, h4, h5, h6, h7⟩ := h
  refine ⟨⟨qs, h1, fun hl => ?_, fun q hq => (h3 q hq).imp hD⟩, h4, h5, h6, h7⟩
  obtain ⟨b, off, e, hb, hd, hc⟩ := h2 hl
  exact ⟨b, off, e, hb, hD b hb hd, hc⟩
theorem LD.at_ (h : LD w D A n c ls) {i : Nat} (hl : ls[i]? = some l) : ∃ b off a k, A = some ⟨b, off, none⟩ ∧ b < w.heap.size ∧ D b ∧ w.cell? ⟨b, off + i, none⟩ = some (.slice a l.length k) ∧ Dd w D l a k := by
  obtain ⟨⟨qs, rfl, h2, h3⟩, _⟩ := h
  rw [List.getElem?_map] at hl
  cases hq : qs[i]? with
  | none => rw [hq] at hl; cases hl
  | some q =>
    rw [hq] at hl
    injection hl with hl
    subst hl
    obtain ⟨b, off, rfl, hb, hd, hc⟩ := h2 (by have := (List.getElem?_eq_some_iff.1 hq).1; omega)
    exact ⟨b, off, q.a, q.c, rfl, hb, hd, hc i q hq, h3 q (List.mem_of_getElem? hq)⟩
/-- what 's[1:]' leaves -/
theorem LD.tail {b off : Nat} {x : List Byte} (h : LD w D (some ⟨b, off, none⟩) n c (x :: ls)) : LD w D (if c = 1 then some ⟨b, off, none⟩ else some ((⟨b, off, none⟩ : Addr).add 1)) (n - 1) (c - 1) ls := by
  obtain ⟨⟨qs, h1, h2, h3⟩, h4, h5, h6, h7⟩ := h
  cases qs with
  | nil => cases h1
  | cons q qs =>
    rw [List.map_cons] at h1
    injection h1 with e1 e2
    simp only [List.length_cons] at h4
    refine ⟨⟨qs, e2, fun hl => ?_, fun y hy => h3 y (List.mem_cons_of_mem _ hy)⟩, by omega, (fun e => by split at e <;> cases e), by omega, by omega⟩
    obtain ⟨b', off', e, hb, hd, hc⟩ := h2 (by simp)
    injection e with e
    injection e with e3 e4
    subst e3 e4
    have hlen : ls.length = qs.length := by rw [← e2, List.length_map]
    rw [if_neg (by omega)]
    refine ⟨b, off + 1, by simp [Addr.add], hb, hd, fun i y hy => ?_⟩
    have := hc (i + 1) y (by simpa using hy)
    rw [show off + 1 + i = off + (i + 1) by omega]
    exact this
/-- as an append reads it -/
theorem LD.rs (h : LD w D A n c ls) : ∃ qs : List Qb, qs.map (·.l) = ls ∧ Rs enc 1 w w.heap.size A qs ∧ ∀ q ∈ qs, Dd w D q.l q.a q.c := by
  obtain ⟨⟨qs, h1, h2, h3⟩, _⟩ := h
  refine ⟨qs, h1, fun hl => ?_, h3⟩
  obtain ⟨b, off, e, hb, _, hc⟩ := h2 hl
  refine ⟨b, off, e, hb, fun i q hq j u hu => ?_⟩
  have hj : j = 0 := by
    have := (List.getElem?_eq_some_iff.1 hu).1
    simp only [enc, List.length_cons, List.length_nil] at this
    omega
  subst hj
  have e2 : (enc q)[0]? = some (.slice q.a q.l.length q.c) := rfl
  rw [e2] at hu
  injection hu with hu
  subst hu
  rw [Nat.mul_one, Nat.add_zero]
  exact hc i q hq
/-- a row of the call's own -/
theorem LD.row {base : Nat} {t : TypeId} {qs : List Qb} (h : Row.Os enc 1 w base t (.slice A n c) qs) (hn : qs.length = n) (hD : ∀ b, base ≤ b → b < w.heap.size → D b) (h3 : ∀ q ∈ qs, Dd w D q.l q.a q.c) : LD w D A n c (qs.map (·.l)) := by
  subst hn
  obtain ⟨A', c', he, hr, hnil, hle, hmax⟩ := h.reads_len enc_ok rfl
  cases he
  refine ⟨⟨qs, rfl, fun hl => ?_, h3⟩, by simp, hnil, hle, hmax⟩
  obtain ⟨b, off, rfl, hlt, hc⟩ := hr hl
  have hb := (h.lt b rfl).1
  refine ⟨b, off, rfl, hlt, hD b hb hlt, fun i q hq => ?_⟩
  have := hc i q hq 0 _ rfl
  rwa [Nat.mul_one, Nat.add_zero] at this
end
end Go.Proofs.Ytcmonalnhdodmaa.Lst

/-
  The reference of layer 19: a packer by value; Right, New, Left, Ready.
-/
namespace Go.Proofs.Ytcmonalnhdodmaa.Pkr
open Go.RowKit Go.Proofs.Ytcmonalnhdodmaa.Lst
open Pac (bel_new Cel.later)

/-- a struct of five cells stored whole over another -/
def put5 (w : World) (g : Nat) (v0 v1 v2 v3 v4 : Value) : World :=
  ((((w.setCell ⟨g, 0, none⟩ v0).setCell ⟨g, 1, none⟩ v1).setCell ⟨g, 2, none⟩ v2).setCell ⟨g, 3, none⟩ v3).setCell ⟨g, 4, none⟩ v4
theorem put5_cel {w : World} {g : Nat} {t : TypeId} {x0 x1 x2 x3 x4 : Value} (h : Cel w g t #[x0, x1, x2, x3, x4]) (v0 v1 v2 v3 v4 : Value) : Cel (put5 w g v0 v1 v2 v3 v4) g t #[v0, v1, v2, v3, v4] := by
  unfold put5
  have h0 : Cel _ g t #[v0, x1, x2, x3, x4] := h.put 0 v0
  have h1 : Cel _ g t #[v0, v1, x2, x3, x4] := h0.put 1 v1
  have h2 : Cel _ g t #[v0, v1, v2, x3, x4] := h1.put 2 v2
  have h3 : Cel _ g t #[v0, v1, v2, v3, x4] := h2.put 3 v3
  exact h3.put 4 v4
theorem put5_only (w : World) (g : Nat) (v0 v1 v2 v3 v4 : Value) : Only [g] w (put5 w g v0 v1 v2 v3 v4) := by
  unfold put5
  exact set_then (set_then (set_then (set_then (set_only _ g 0 _) 1 _) 2 _) 3 _) 4 _
theorem Cel_at {w : World} {k : Nat} {t : TypeId} {cs : Array Value} (h : w.heap.size = k) : Cel (w.alloc (.cells cs t)) k t cs := by subst h; exact Cel.new _ _ _

theorem flat_take {ls : List (List Byte)} {k : Nat} {l : List Byte} (h : ls[k]? = some l) : (ls.take (k + 1)).flatten = (ls.take k).flatten ++ l := by
  rw [List.take_add_one, h]; simp
theorem flat_take_le (ls : List (List Byte)) (k : Nat) : (ls.take k).flatten.length ≤ ls.flatten.length := by
  conv => rhs; rw [← List.take_append_drop k ls]
  rw [List.flatten_append, List.length_append]; omega

end Go.Proofs.Ytcmonalnhdodmaa.Pkr

/-
  The laws of layer 19: bytes; a Packer in play (PL), what it hands back.
-/
namespace Go.Proofs.Ytcmonalnhdodmaa.Pkr
open Go.RowKit
open Pac (bel_new Pk made_zero)

/-- the packet of application process 1 with n bytes b -/
def pkP (n : Nat) (b : Byte) : Pk := ⟨false, false, 1, 3, 0, List.replicate n b⟩
def pkE (n : Nat) (b : Byte) : List Byte := (pkP n b).enc
theorem pkP_ok {n : Nat} {b : Byte} (h1 : 1 ≤ n) (h2 : n ≤ 4090) : (pkP n b).ok = true :=
  Pk.ok_free (by unfold Pk.Fits pkP; simp only [List.length_replicate]; omega) (by show (1 : Int) ≠ 2047; decide)
theorem pkE_pkt {n : Nat} {b : Byte} (h1 : 1 ≤ n) (h2 : n ≤ 4090) : Pkt (pkE n b) := Pkt.of (pkP_ok h1 h2) (by show (1 : Int) ≠ 2047; decide)
theorem pkE_len {n : Nat} {b : Byte} (h1 : 1 ≤ n) (h2 : n ≤ 4090) : (pkE n b).length = n + 6 := by
  unfold pkE
  rw [enc_len (pkP_ok h1 h2)]
  simp [pkP]
  omega
/-- k bytes are set -/
def fillk (n : Nat) (b : Byte) (k : Nat) : List Byte := List.replicate k b ++ List.replicate (n - k) 0#8
theorem fillk_len {n : Nat} {b : Byte} {k : Nat} (h : k ≤ n) : (fillk n b k).length = n := by unfold fillk; simp; omega
theorem fillk_set {n : Nat} {b : Byte} {k : Nat} (h : k < n) : (fillk n b k).set k b = fillk n b (k + 1) := by
  unfold fillk
  apply List.ext_getElem
  · simp; omega
  · intro i h1 h2
    rw [List.getElem_set]
    by_cases hi : k = i
    · subst hi
      rw [if_pos rfl, List.getElem_append_left (by simp)]
      simp
    · rw [if_neg hi]
      by_cases h3 : i < k
      · rw [List.getElem_append_left (by simpa using h3), List.getElem_append_left (by simp; omega)]
        simp
      · rw [List.getElem_append_right (by simpa using h3), List.getElem_append_right (by simp; omega)]
        simp
/-- where an address leads is none of the blocks F, and is there -/
def Of (w : World) (A : Option Addr) (F : List Nat) : Prop := ∀ x ∈ blkA A, x ∉ F ∧ x < w.heap.size
theorem Of.next {w w' : World} {A : Option Addr} {F F' : List Nat} (h : Of w A F) (hs : w.heap.size ≤ w'.heap.size) (hF : ∀ x ∈ F', x ∈ F ∨ w.heap.size ≤ x) : Of w' A F' := fun x hx => by
  obtain ⟨h1, h2⟩ := h x hx
  refine ⟨fun hm => ?_, by omega⟩
  rcases hF x hm with h3 | h3
  · exact h1 h3
  · omega
theorem Of.later {w w' : World} {A : Option Addr} {F : List Nat} (h : Of w A F) (hs : w.heap.size ≤ w'.heap.size) : Of w' A F := h.next hs (fun _ hx => .inl hx)
theorem Of.new {w w' : World} {A : Option Addr} {F : List Nat} {n c : Nat} {l : List Byte} (h : Ow w' w.heap.size 5 (.slice A n c) l) (hF : ∀ x ∈ F, x < w.heap.size) : Of w' A F := fun x hx => by
  rw [blkA_own A n c] at hx
  have := h.lt x (by simpa using hx)
  exact ⟨fun hm => by have := hF x hm; omega, this.2⟩
theorem Rd.off {w w' : World} {A : Option Addr} {F : List Nat} {n c : Nat} {l : List Byte} (h : Rd w A l n c) (k : Only F w w') (ho : Of w A F) : Rd w' A l n c := Rd.put h k (fun x hx => (ho x hx).1)

/-- a Packer in play: what lies below w0's blocks is as it was -/
structure PL (w0 w : World) (g : Nat) (F : List Nat) (Z R : Nat) (s : PS) : Prop where
  p : PW w g F Z R s
  lo : ∀ x ∈ F, w0.heap.size ≤ x
  b : Below w0.heap.size w0 w
section
variable {w0 w w' : World} {g Z R : Nat} {F : List Nat} {s s' : PS}
theorem PL.below (h : PL w0 w g F Z R s) (k : Below w.heap.size w w') : PL w0 w' g F Z R s := ⟨h.p.below k, h.lo, h.b.trans (k.mono h.b.size)⟩
theorem PL.turn {g' : Nat} {F' S : List Nat} (h : PL w0 w g F Z R s) (k : Only S w w') (hS : ∀ x ∈ S, w0.heap.size ≤ x) (p : PW w' g' F' Z R s') (hF : ∀ x ∈ F', x ∈ F ∨ w.heap.size ≤ x) : PL w0 w' g' F' Z R s' :=
  ⟨p, fun x hx => (hF x hx).elim (h.lo x) (fun e => Nat.le_trans h.b.size e), h.b.trans (k.below h.b.size hS)⟩
theorem PL.new {r : Int} (hZ1 : 1 ≤ Z) (hZ2 : Z ≤ 1012) (w : World) :
    Calls Try.prog 18 #[.int .i64 (Z : Int), .int .i64 r] w fun e w' => ∃ g F, e = .returned (.pointer (some ⟨g, 0, none⟩)) ∧ PL w w' g F Z (rm r) ⟨[], [], []⟩ := by
  refine (pnew_yes Z hZ1 hZ2 r w).mono ?_
  rintro e w' ⟨rfl, rfl⟩
  exact ⟨_, _, rfl, Pw_new w Z (rm r) hZ1 hZ2 (rm_le r), by simp, bel_new _ _⟩
theorem PL.push (h : PL w0 w g F Z R s) {a : Option Addr} {l : List Byte} {n c : Nat} (hl : Rd w a l n c) {E : Int} (hE : psE R l s = E) (hS : psS R l s = s') :
    Calls Try.prog 20 #[.pointer (some ⟨g, 0, none⟩), .slice a n c] w fun e w' => e = .returned (.int .i64 E) ∧ ∃ F', PL w0 w' g F' Z R s' ∧ Only F w w' ∧ ∀ x ∈ F', x ∈ F ∨ w.heap.size ≤ x := by
  subst hE hS
  refine (ppush_any h.p hl).mono ?_
  rintro e w' ⟨rfl, F', p, k, hn⟩
  exact ⟨rfl, F', h.turn k h.lo p hn, k, hn⟩
theorem PL.next (h : PL w0 w g F Z R s) (h0 : 0 < s.wt.length) {P : Nat} {fl : List Byte} (hP : nxP Z s = P) (hF : nxF Z s = fl) (hS : nxS Z s = s') :
    Calls Try.prog 21 #[.pointer (some ⟨g, 0, none⟩)] w fun e w' => ∃ A c F', e = .returned (.tuple #[.slice A Z c, .int .i64 (P : Int), .bool true]) ∧ Rd w' A fl Z c ∧ Of w' A F' ∧ PL w0 w' g F' Z R s' ∧ Only F w w' ∧ ∀ x ∈ F', x ∈ F ∨ w.heap.size ≤ x := by
  have hl := nxF_len (s := s) h.p.z2
  rw [hF] at hl
  subst hP hF hS
  refine (pnext_yes h.p h0).mono ?_
  rintro e w' ⟨v, F', rfl, o, ha, p, k, hn⟩
  obtain ⟨A, c, rfl, hr⟩ := Rd.of o hl
  refine ⟨A, c, F', rfl, hr, fun x hx => ?_, h.turn k h.lo p hn, k, hn⟩
  rw [blkA_own A Z c] at hx
  have hx : (Value.slice A Z c).ownBlock = some x := by simpa using hx
  exact ⟨ha x hx, (o.lt x hx).2⟩
theorem PL.next0 (h : PL w0 w g F Z R s) (h0 : s.wt.length = 0) :
    Calls Try.prog 21 #[.pointer (some ⟨g, 0, none⟩)] w fun e w' => e = .returned (.tuple #[.slice none 0 0, .int .i64 0, .bool false]) ∧ w = w' := pnext_no h.p h0
theorem PL.left (h : PL w0 w g F Z R s) {n : Nat} (hn : s.wt.length = n) :
    Calls Try.prog 23 #[.pointer (some ⟨g, 0, none⟩)] w fun e w' => e = .returned (.int .i64 (n : Int)) ∧ w = w' := pleft_any h.p hn
end
end Go.Proofs.Ytcmonalnhdodmaa.Pkr

/-
  A slice of structs whose fields are one cell each (numbers, slices ..), opened at every index and field. No dump is imported.
-/
namespace Go.Proofs.Ytcmonalnhdodmaa
open Go.RowKit Go.ChangeShapes Go.WideShapes Go.Deep

section
variable {H : Type} {enc : TypeId × Value → H} {P : Program} {w : World} {base : Nat} {spare : Nat → Bool} {held : Bool}

theorem open_recs {t e : TypeId} {fs : Array Field} {fuel : Nat} {cs : List Value} {x : DataW H × List MemPlace} (ht : P.underlying t = some (.slice e)) (he : P.underlying e = some (.struct fs))
    (hone : ∀ (i : Nat) (f : Field), fs[i]? = some f → f.offset = i ∧ P.cellsOf f.type = 1) (hC : P.cellsOf e = fs.size) (h : DataW.trod enc P w base spare held fuel t cs = some x) :
    cs = [.slice none 0 0] ∨ ∃ (a : Addr) (len cap n : Nat) (V : Nat → Nat → Value), cs = [.slice (some a) len cap] ∧ len ≤ cap ∧ cap ≤ maxLen ∧
      ∀ i, i < len → ∀ (j : Nat) (f : Field), fs[j]? = some f → w.cell? (a.add (i * fs.size + j)) = some (V i j) ∧ ∃ d, DataW.trod enc P w base spare held n f.type [V i j] = some d := by
  rcases open_slice ht h with ⟨h0, _⟩ | ⟨a, len, cap, m, n, D, Pl, rfl, hb, hl, hm, hmm, rfl, hx⟩
  · exact .inl h0
  have hlm : len ≤ m := by rw [hmm]; split <;> omega
  have each : ∀ i, i < len → ∃ L : List Value, ∀ (j : Nat) (f : Field), fs[j]? = some f → w.cell? (a.add (i * fs.size + j)) = some (L.getD j undef) ∧ ∃ d, DataW.trod enc P w base spare held (n - 1) f.type [L.getD j undef] = some d := by
    intro i hi
    obtain ⟨cs', h1, h2⟩ := hx i (by omega)
    rw [hC] at h1
    obtain ⟨_, hlen, hcell⟩ := World.cells?_some h1
    obtain ⟨xs, k, hk, _, _, hxl, hf⟩ := DataW.trod_struct he h2
    have hk' : k = n - 1 := by omega
    subst hk'
    refine ⟨cs', fun j f hj => ?_⟩
    have hjl : j < fs.size := (Array.getElem?_eq_some_iff.1 hj).1
    obtain ⟨ho, hc1⟩ := hone j f hj
    have g := hf j f hj
    rw [ho, hc1, take1_drop cs' j undef (by omega)] at g
    have c := hcell j hjl
    rw [add_add] at c
    refine ⟨?_, xs[j]'(by omega), ?_⟩
    · rw [c, List.getD_eq_getElem?_getD, List.getElem?_eq_getElem (by omega)]
      rfl
    · rw [g]
      exact List.getElem?_eq_getElem (by omega)
  obtain ⟨L, hL⟩ := choose_lt each
  exact .inr ⟨a, len, cap, n - 1, fun i j => (L i).getD j undef, rfl, hl, hm, fun i hi j f hj => hL i hi j f hj⟩
end
end Go.Proofs.Ytcmonalnhdodmaa

/-
  An argument opened: a struct by value whose fields are one cell each, at every field. No dump is imported.
-/
namespace Go.Proofs.Ytcmonalnhdodmaa
open Go.RowKit Go.ChangeShapes Go.WideShapes Go.Deep

section
variable {H : Type} {enc : TypeId × Value → H} {P : Program} {w : World} {base : Nat} {spare : Nat → Bool} {held : Bool}

theorem open_agg_any {r : Reach} {b0 : Nat} {t : TypeId} {fs : Array Field} {v : Value} {d : DataW H} {ps : List MemPlace} (hs : P.underlying t = some (.struct fs))
    (hone : ∀ (i : Nat) (f : Field), fs[i]? = some f → f.offset = i ∧ P.cellsOf f.type = 1) (hC : P.cellsOf t = fs.size) (hv : Value.okWide P w r b0 t v) (h : DataW.Trod enc P w base spare held t v d ps) :
    ∃ cs : Array Value, v = .agg cs ∧ cs.size = fs.size ∧ ∃ n, ∀ (j : Nat) (f : Field), fs[j]? = some f → ∃ y, DataW.trod enc P w base spare held n f.type [cs.getD j undef] = some y := by
  obtain ⟨cs, rfl, hsz⟩ := okWide_struct hs hv
  obtain ⟨fuel, hf⟩ := h
  obtain ⟨xs, n, _, _, _, hxl, hg⟩ := DataW.trod_struct hs hf
  have hcl : (Value.agg cs).cells.toList = cs.toList := rfl
  refine ⟨cs, rfl, hsz.trans hC, n, fun j f hj => ?_⟩
  have hjl : j < fs.size := (Array.getElem?_eq_some_iff.1 hj).1
  obtain ⟨ho, hc1⟩ := hone j f hj
  have g := hg j f hj
  rw [hcl, ho, hc1, take1_drop cs.toList j undef (by simp; omega)] at g
  refine ⟨xs[j]'(by omega), ?_⟩
  have e : cs.toList.getD j undef = cs.getD j undef := by
    rw [List.getD_eq_getElem?_getD, Array.getElem?_toList, Array.getD_eq_getD_getElem?]
  rw [← e, g]
  exact List.getElem?_eq_getElem (by omega)

/-- a slice of bytes in a field -/
theorem open_bytes_cell {t e : TypeId} {n : Nat} {v : Value} {y : DataW H × List MemPlace} (ht : P.underlying t = some (.slice e)) (he : P.underlying e = some (.int .u8)) (hc : P.cellsOf e = 1) (h : DataW.trod enc P w base (fun _ => true) held n t [v] = some y) :
    ∃ a l c, v = .slice a l.length c ∧ Bs w w.heap.size a l ∧ (a = none → c = 0) ∧ l.length ≤ c ∧ c ≤ maxLen := by
  have hrow : ∃ a n c zs, v = .slice a n c ∧ IsRow .u8 w a n c zs := by
    rcases open_ints ht he hc h with ⟨hcs, _⟩ | ⟨x, n', c', zs, hcs, _, hl', hm'', hz, _, hcell, hwz⟩
    · injection hcs with hcs
      exact ⟨none, 0, 0, [], hcs, .inl ⟨rfl, rfl, rfl, rfl⟩⟩
    · injection hcs with hcs
      exact ⟨some x, n', c', zs, hcs, .inr ⟨x, rfl, hl', hm'', by simpa using hz, hcell, hwz⟩⟩
  obtain ⟨A, n', c', zs, h3, hr⟩ := hrow
  obtain ⟨B, rfl, hb, hn, hlc, hcm⟩ := hr.bytes
  exact ⟨A, B, c', h3, hb, hn, hlc, hcm⟩
/-- six cells -/
theorem array6 {cs : Array Value} (h : cs.size = 6) : cs = #[cs.getD 0 undef, cs.getD 1 undef, cs.getD 2 undef, cs.getD 3 undef, cs.getD 4 undef, cs.getD 5 undef] := by
  obtain ⟨l⟩ := cs
  match l, h with
  | [x0, x1, x2, x3, x4, x5], _ => rfl
end
end Go.Proofs.Ytcmonalnhdodmaa

/-
  A slice of booleans in a world; an argument opened: a slice of booleans that came in.
-/
namespace Go.Proofs.Ytcmonalnhdodmaa.Bools
open Go.RowKit Go.ChangeShapes Go.WideShapes Go.Deep Go.Proofs.Ytcmonalnhdodmaa.Row

/-- 'A' leads to the booleans l, all below block B; of the empty list nothing is asked -/
def Nb (w : World) (B : Nat) (A : Option Addr) (l : List Bool) : Prop :=
  0 < l.length → ∃ b off, A = some ⟨b, off, none⟩ ∧ b < B ∧ ∀ i x, l[i]? = some x → w.cell? ⟨b, off + i, none⟩ = some (.bool x)
theorem Nb.at_ {w : World} {B : Nat} {a : Option Addr} {l : List Bool} (h : Nb w B a l) {k : Nat} (hk : k < l.length) : ∃ b off, a = some ⟨b, off, none⟩ ∧ b < B ∧ w.cell? ⟨b, off + k, none⟩ = some (.bool l[k]) := by
  obtain ⟨b, off, rfl, hb, hc⟩ := h (by omega)
  exact ⟨b, off, rfl, hb, hc k _ (List.getElem?_eq_getElem hk)⟩

theorem add_plain' (b off i : Nat) : (⟨b, off, none⟩ : Addr).add i = ⟨b, off + i, none⟩ := by
  by_cases h : i = 0
  · subst h; rfl
  · simp [Addr.add, h]
set_option maxRecDepth 100000 in
theorem open_bools {H : Type} {enc' : TypeId × Value → H} {w : World} {base : Nat} {held : Bool} {r : Reach} {b0 : Nat} {v : Value} {d : DataW H} {ps : List MemPlace} (hval : Value.okWide Try.prog w r b0 38 v) (hd : DataW.Trod enc' Try.prog w base (fun _ => true) held 38 v d ps) :
    ∃ a cap, ∃ l : List Bool, v = .slice a l.length cap ∧ (a = none → cap = 0) ∧ l.length ≤ cap ∧ cap ≤ maxLen ∧ Nb w w.heap.size a l := by
  obtain ⟨a0, len0, cap0, rfl⟩ := okWide_slice Try.underlying38 hval
  obtain ⟨fuel, hf⟩ := hd
  rcases open_slice1 Try.underlying38 (by kernel_rfl) hf with ⟨hcs, _⟩ | ⟨a, len, cap, m, n, V, D, Pl, hcs, _, hl, hm, hmm, _, hx⟩
  · simp [Value.cells] at hcs
    obtain ⟨rfl, rfl, rfl⟩ := hcs
    exact ⟨none, 0, [], rfl, fun _ => rfl, by simp, by simp, fun h => absurd h (by simp)⟩
  · simp [Value.cells] at hcs
    obtain ⟨rfl, rfl, rfl⟩ := hcs
    have hlm : len0 ≤ m := by rw [hmm]; split <;> omega
    have sel : ∀ i, i < len0 → ∃ q : Bool, V i = .bool q := by
      intro i hi
      obtain ⟨x0, e0, _⟩ := DataW.trod_bool Try.underlying4 (hx i (by omega)).2
      injection e0 with e0
      exact ⟨x0, e0⟩
    obtain ⟨F, hF⟩ := choose_lt sel
    have hlen : ((List.range len0).map F).length = len0 := by simp
    refine ⟨some a, cap0, (List.range len0).map F, by rw [hlen], (fun h => nomatch h), by rw [hlen]; exact hl, hm, fun h0 => ?_⟩
    have h0 : 0 < len0 := by simpa using h0
    obtain ⟨b, off, spot⟩ := a
    have hs : spot = none := by
      have := World.cell?_spot (hx 0 (by omega)).1
      simpa [Addr.add] using this
    subst hs
    have hb : b < w.heap.size := by
      have c0 := (hx 0 (by omega)).1
      rw [add_plain'] at c0
      exact lt_of_cell c0
    refine ⟨b, off, rfl, hb, fun i x hix => ?_⟩
    rw [List.getElem?_map] at hix
    by_cases hi : i < len0
    · rw [List.getElem?_range hi] at hix
      injection hix with hix
      subst hix
      have c := (hx i (by omega)).1
      rw [add_plain', hF i hi] at c
      exact c
    · rw [List.getElem?_eq_none (by simpa using hi)] at hix
      cases hix
end Go.Proofs.Ytcmonalnhdodmaa.Bools

/-
  The law TopPackets: a Packer and an Unpacker beside the lists.
-/
namespace Go.Proofs.Ytcmonalnhdodmaa.Unp
open Go.RowKit Go.Proofs.Ytcmonalnhdodmaa.Row Lst Ints Bools
open Pac (bel_new Pk)
open Pkr (PL PS psE psS nxF nxP nxS Pkt)

/-- a Packer and an Unpacker; the packets; where they end -/
structure T1 (w0 w : World) (Z gp : Nat) (Fp : List Nat) (s : PS) (gu : Nat) (Fu : List Nat) (su : US) (R : Value) (al : List (List Byte)) (B : Value) (es : List Int) : Prop where
  p : PL w0 w gp Fp Z 8192 s
  u : UL w0 w gu Fu su
  d : ∀ x ∈ Fp, x ∉ Fu
  a : ∃ E, LO w w0.heap.size 26 5 R al E ∧ (∀ x ∈ E, x ∉ Fp) ∧ ∀ x ∈ E, x ∉ Fu
  e : On w w0.heap.size 3 B es
section
variable {w0 w w' w6 : World} {Z gp gu n c N : Nat} {Fp Fu Fp' Fu' S E : List Nat} {s s' : PS} {su : US} {R B v2 gv : Value} {al got : List (List Byte)} {es es' : List Int} {A : Option Addr} {l x : List Byte} {row : Option Nat}
theorem PL.typ (h : PL w0 w gp Fp Z 8192 s) : ∀ x ∈ Fp, ∃ t cs, Cel w x t cs ∧ (t = 70 ∨ t = 5) := fun x hx => by
  obtain ⟨⟨Ar, nr, cr, Aw, nw, cw, hc, rfl⟩, _⟩ := h.p
  rcases List.mem_cons.1 hx with rfl | hx
  · exact ⟨_, _, hc.c, .inl rfl⟩
  · rcases List.mem_append.1 hx with hx | hx
    · obtain ⟨cs, h⟩ := hc.mw.cel x hx; exact ⟨_, cs, h, .inr rfl⟩
    · obtain ⟨cs, h⟩ := hc.mr.cel x hx; exact ⟨_, cs, h, .inr rfl⟩
theorem UL.typ (h : UL w0 w gu Fu su) : ∀ x ∈ Fu, ∃ t cs, Cel w x t cs ∧ (t = 48 ∨ t = 5) := fun x hx => by
  obtain ⟨⟨A', n', c', hc, rfl⟩, _⟩ := h.p
  rcases List.mem_cons.1 hx with rfl | hx
  · exact ⟨_, _, hc.u, .inl rfl⟩
  · obtain ⟨cs, h⟩ := hc.m.cel x hx; exact ⟨_, cs, h, .inr rfl⟩
theorem LO.rowp {b : Nat} (l : LO w b 26 5 gv got E) (h : PL w0 w gp Fp Z 8192 s) : ∀ i, gv.ownBlock = some i → i ∉ Fp := fun i hi hm => by
  obtain ⟨t, cs, hc, rfl | rfl⟩ := PL.typ h i hm
  · exact l.row_apart hc (by decide) hi
  · exact l.row_apart hc (by decide) hi
theorem On.offp {b : Nat} (l : On w b 3 B es) (h : PL w0 w gp Fp Z 8192 s) : ∀ i, B.ownBlock = some i → i ∉ Fp := fun i hi hm => by
  obtain ⟨cs', hc'⟩ := own_cel l hi
  obtain ⟨t, cs, hc, rfl | rfl⟩ := PL.typ h i hm
  · exact hc'.apart hc (by decide) rfl
  · exact hc'.apart hc (by decide) rfl
theorem On.offu {b : Nat} (l : On w b 3 B es) (h : UL w0 w gu Fu su) : ∀ i, B.ownBlock = some i → i ∉ Fu := fun i hi hm => by
  obtain ⟨cs', hc'⟩ := own_cel l hi
  obtain ⟨t, cs, hc, rfl | rfl⟩ := UL.typ h i hm
  · exact hc'.apart hc (by decide) rfl
  · exact hc'.apart hc (by decide) rfl
theorem PL.off (h : PL w0 w gp Fp Z 8192 s) (k : Only S w w') (hd : ∀ x ∈ Fp, x ∉ S) (h2 : ∀ x ∈ S, w0.heap.size ≤ x) : PL w0 w' gp Fp Z 8192 s := ⟨h.p.only k hd, h.lo, h.b.trans (k.below h.b.size h2)⟩
theorem T1.below (h : T1 w0 w Z gp Fp s gu Fu su R al B es) (k : Below w.heap.size w w') : T1 w0 w' Z gp Fp s gu Fu su R al B es := by
  obtain ⟨p, u, d, ⟨E, l, h1, h2⟩, e⟩ := h
  exact ⟨p.below k, u.below k, d, ⟨E, l.below k, h1, h2⟩, e.below k⟩
/-- the Packer has been written to -/
theorem T1.turn (h : T1 w0 w Z gp Fp s gu Fu su R al B es) (k : Only Fp w w') (p : PL w0 w' gp Fp' Z 8192 s') (hF : ∀ x ∈ Fp', x ∈ Fp ∨ w.heap.size ≤ x) : T1 w0 w' Z gp Fp' s' gu Fu su R al B es := by
  obtain ⟨p0, u, d, ⟨E, l, h1, h2⟩, e⟩ := h
  have hul := u.p.lt
  have hEl := l.lt
  refine ⟨p, u.off k (fun x hx hm => d x hm hx) p0.lo, fun x hx hm => ?_, ⟨E, l.only k (LO.rowp l p0) h1, fun x hx hm => ?_, h2⟩, e.only k (On.offp e p0)⟩
  · rcases hF x hx with q | q
    · exact d x q hm
    · have := hul x hm; omega
  · rcases hF x hm with q | q
    · exact h1 x hx q
    · have := (hEl x hx).2; omega
theorem T1.push (h : T1 w0 w Z gp Fp s gu Fu su R al B es) (hl : Rd w A l n c) (hE : psE 8192 l s = 0) (hS : psS 8192 l s = s') :
    Calls Try.prog 20 #[.pointer (some ⟨gp, 0, none⟩), .slice A n c] w fun e w' => e = .returned (.int .i64 0) ∧ ∃ Fp', T1 w0 w' Z gp Fp' s' gu Fu su R al B es ∧ Only Fp w w' ∧ ∀ x ∈ Fp', x ∈ Fp ∨ w.heap.size ≤ x := by
  refine (h.p.push hl hE hS).mono ?_
  rintro e w' ⟨rfl, F', p, k, hF⟩
  exact ⟨rfl, F', h.turn k p hF, k, hF⟩
/-- a packet more -/
theorem T1.addp {ob : Obj} {qs : List Qb} (p : PL w0 w gp Fp Z 8192 s) (u : UL w0 w gu Fu su) (d : ∀ x ∈ Fp, x ∉ Fu) (e : On w w0.heap.size 3 B es) (la : LO w w0.heap.size 26 5 R al E) (h1 : ∀ x ∈ E, x ∉ Fp) (h2 : ∀ x ∈ E, x ∉ Fu)
    (o4 : Ow w w0.heap.size 5 (.slice A n c) x) (hn : x.length = n) (o1 : ∀ i, (Value.slice A n c).ownBlock = some i → i ∉ Fp) (o2 : ∀ i, (Value.slice A n c).ownBlock = some i → i ∉ Fu) (he : qs.map (·.l) = al)
    (h3 : ∀ q ∈ qs, Ow (w.alloc ob) w0.heap.size 5 q.v q.l ∧ ∀ k, q.v.ownBlock = some k → k ∈ E) (hR : R.ownBlock = row) (hg6 : (w.alloc ob).grownBy w6 row) (ho6 : Row.Os enc 1 w6 w0.heap.size 26 v2 (qs ++ [⟨x, A, c⟩])) :
    T1 w0 w6 Z gp Fp s gu Fu su v2 (al ++ [x]) B es := by
  have b5 : Below w.heap.size w (w.alloc ob) := bel_new w ob
  have l5 := la.below b5
  have p5 := p.below b5
  have u5 := u.below b5
  have e5 := e.below b5
  have k6 := Only.of_grown hg6
  have hrow : ∀ i ∈ row.toList, R.ownBlock = some i := fun i hi => by rw [hR]; simpa using hi
  have hr0 : ∀ i ∈ row.toList, w0.heap.size ≤ i := fun i hi => (l5.row_lt i (hrow i hi)).1
  refine ⟨PL.off p5 k6 (fun x hx hm => LO.rowp l5 p5 x (hrow x hm) hx) hr0, u5.off k6 (fun x hx hm => u5.row_off l5 x (hrow x hm) hx) hr0, d, ⟨E ++ (Value.slice A n c).ownBlock.toList, la.push1 (by decide) o4 (Nat.le_refl _) hn (Below.refl _ _) he h3 hR hg6 ho6, fun i hi hm => ?_, fun i hi hm => ?_⟩, e5.only k6 (fun i hi hm => ?_)⟩
  · rcases List.mem_append.1 hi with q | q
    · exact h1 i q hm
    · exact o1 i (by simpa using q) hm
  · rcases List.mem_append.1 hi with q | q
    · exact h2 i q hm
    · exact o2 i (by simpa using q) hm
  · obtain ⟨cs, hc⟩ := own_cel e5 hi
    exact l5.row_apart hc (by decide) (hrow i hm)
/-- a number more -/
theorem T1.adde {ob : Obj} (h : T1 w0 w Z gp Fp s gu Fu su R al B es) (hB : B.ownBlock = row) (hg : (w.alloc ob).grownBy w6 row) (ho : On w6 w0.heap.size 3 v2 es') : T1 w0 w6 Z gp Fp s gu Fu su R al v2 es' := by
  have h5 := h.below (bel_new w ob)
  obtain ⟨p5, u5, d, ⟨E, l5, h1, h2⟩, e5⟩ := h5
  have k6 := Only.of_grown hg
  have hrow : ∀ i ∈ row.toList, B.ownBlock = some i := fun i hi => by rw [hB]; simpa using hi
  have hr0 : ∀ i ∈ row.toList, w0.heap.size ≤ i := fun i hi => (e5.lt i (hrow i hi)).1
  have hc : ∀ i ∈ row.toList, ∃ cs, Cel (w.alloc ob) i 3 cs := fun i hi => own_cel e5 (hrow i hi)
  refine ⟨PL.off p5 k6 (fun x hx hm => On.offp e5 p5 x (hrow x hm) hx) hr0, u5.off k6 (fun x hx hm => On.offu e5 u5 x (hrow x hm) hx) hr0, d, ⟨E, l5.only k6 (fun i hi hm => ?_) (fun i hi hm => ?_), h1, h2⟩, ho⟩
  · obtain ⟨cs, hcs⟩ := hc i hm
    exact l5.row_apart hcs (by decide) hi
  · obtain ⟨cs, hcs⟩ := hc i hm
    exact l5.el_apart hcs (by decide) hi

/-- and what has been handed back -/
structure T2 (w0 w : World) (Z gp : Nat) (Fp : List Nat) (s : PS) (gu : Nat) (Fu : List Nat) (su : US) (R : Value) (al : List (List Byte)) (B : Value) (es : List Int) (gv : Value) (got : List (List Byte)) : Prop where
  t : T1 w0 w Z gp Fp s gu Fu su R al B es
  g : ∃ E, LO w w0.heap.size 26 5 gv got E ∧ (∀ x ∈ E, x ∉ Fp) ∧ ∀ x ∈ E, x ∉ Fu
  r : ∀ i, R.ownBlock = some i → gv.ownBlock ≠ some i
theorem T2.next (h : T2 w0 w Z gp Fp s gu Fu su R al B es gv got) (h0 : 0 < s.wt.length) {P : Nat} {fl : List Byte} (hP : nxP Z s = P) (hF : nxF Z s = fl) (hS : nxS Z s = s') (hN : fl.length = Z) :
    Calls Try.prog 21 #[.pointer (some ⟨gp, 0, none⟩)] w fun e w' => ∃ A c Fp', e = .returned (.tuple #[.slice A Z c, .int .i64 (P : Int), .bool true]) ∧ Rd w' A fl Z c ∧ (∀ x ∈ blkA A, x < w'.heap.size ∧ x ∉ Fp' ∧ x ∉ Fu) ∧ T2 w0 w' Z gp Fp' s' gu Fu su R al B es gv got := by
  subst hP hF hS
  refine (Pkr.pnext_yes h.t.p.p h0).mono ?_
  rintro e w' ⟨v, F', rfl, o, ha, p, k, hn⟩
  obtain ⟨A, c, rfl, hr⟩ := Rd.of o hN
  have p' : PL w0 w' gp F' Z 8192 (nxS Z s) := h.t.p.turn k h.t.p.lo p hn
  have t' := h.t.turn k p' hn
  obtain ⟨t, ⟨E, l, h1, h2⟩, hr0⟩ := h
  have hul := t.u.p.lt
  have hEl := l.lt
  refine ⟨A, c, F', rfl, hr, fun x hx => ?_, ⟨t', ⟨E, l.only k (LO.rowp l t.p) h1, fun x hx hm => ?_, h2⟩, hr0⟩⟩
  · rw [blkA_own A Z c] at hx
    have hx : (Value.slice A Z c).ownBlock = some x := by simpa using hx
    have h3 := o.lt x hx
    exact ⟨h3.2, ha x hx, fun hm => by have := hul x hm; omega⟩
  · rcases hn x hm with q | q
    · exact h1 x hx q
    · have := (hEl x hx).2; omega
theorem T2.take (h : T2 w0 w Z gp Fp s gu Fu su R al B es gv got) (hlo : su.lo ≤ 1000000000000) {d : List Byte} {m cd : Nat} {ct f : Int} {su' : US} {O : List (List Byte)} (hd : Rd w A d m cd) (hm : m ≤ 1000000) (hof : ∀ x ∈ blkA A, x < w.heap.size ∧ x ∉ Fp ∧ x ∉ Fu) (hS : tkS su ct f d = su') (hO : tkO su ct f d = O) (hn : O.length = N) :
    Calls Try.prog 11 #[.pointer (some ⟨gu, 0, none⟩), .int .i64 ct, .int .i64 f, .slice A m cd] w fun e w' => ∃ A2 c2 Fu', e = .returned (.slice A2 N c2) ∧ T2 w0 w' Z gp Fp s gu Fu' su' R al B es gv got ∧ ∃ E2, LO w' w0.heap.size 26 5 (.slice A2 N c2) O E2 ∧ (∀ x ∈ E2, x ∉ Fp) ∧ ∀ x ∈ E2, x ∉ Fu' := by
  subst hS hO
  obtain ⟨⟨p, u, d0, ⟨E, l, h1, h2⟩, e⟩, ⟨E3, l3, h31, h32⟩, hr0⟩ := h
  have hpl := p.p.lt
  have hEl := l.lt
  have hE3 := l3.lt
  refine (utake_any u.p hlo hd hm (fun _ x hx => ⟨(hof x hx).2.2, (hof x hx).1⟩) ct f).mono ?_
  rintro e' w' ⟨R2, rfl, ⟨E2, F', hl, hu, hF, hE2⟩, k⟩
  obtain ⟨A2, c2, rfl, _⟩ := hl.len hn
  have hnF : ∀ x, x < w.heap.size → x ∉ Fu → x ∉ F' := fun x hx hm hf => (hF x hf).elim hm (fun q => by omega)
  refine ⟨A2, c2, F', rfl, ⟨⟨PL.off p k d0 u.lo, ⟨hu, fun x hx => ?_, u.b.trans (k.below u.b.size u.lo)⟩, fun x hx => hnF x (hpl x hx) (d0 x hx), ⟨E, l.only k (u.row_off l) h2, h1, fun x hx => hnF x (hEl x hx).2 (h2 x hx)⟩, e.only k (On.offu e u)⟩, ⟨E3, l3.only k (u.row_off l3) h32, h31, fun x hx => hnF x (hE3 x hx).2 (h32 x hx)⟩, hr0⟩, E2, hl.more u.b.size, fun x hx hm => ?_, hE2⟩
  · rcases hF x hx with q | q
    · exact u.lo x q
    · exact Nat.le_trans u.b.size q
  · have := (hl.lt x hx).1
    have := hpl x hm
    omega
/-- what was handed back is added -/
theorem T2.app {qs qs2 : List Qb} {E2 E3 : List Nat} {R2 : Value} {O : List (List Byte)} (t : T1 w0 w Z gp Fp s gu Fu su R al B es) (l3 : LO w w0.heap.size 26 5 gv got E3) (h31 : ∀ x ∈ E3, x ∉ Fp) (h32 : ∀ x ∈ E3, x ∉ Fu)
    (l2 : LO w w0.heap.size 26 5 R2 O E2) (h21 : ∀ x ∈ E2, x ∉ Fp) (h22 : ∀ x ∈ E2, x ∉ Fu) (he : qs.map (·.l) = got) (h3 : ∀ q ∈ qs, Ow w w0.heap.size 5 q.v q.l ∧ ∀ k, q.v.ownBlock = some k → k ∈ E3)
    (he2 : qs2.map (·.l) = O) (hq2 : ∀ q ∈ qs2, Ow w w0.heap.size 5 q.v q.l ∧ ∀ k, q.v.ownBlock = some k → k ∈ E2) (hRr : ∀ i, R.ownBlock = some i → gv.ownBlock ≠ some i) (hv2 : v2.ownBlock = gv.ownBlock ∨ v2.ownBlock = some w.heap.size) (hrow : gv.ownBlock = row) (hg : w.grownBy w6 row) (ho : Row.Os enc 1 w6 w0.heap.size 26 v2 (qs ++ qs2)) :
    T2 w0 w6 Z gp Fp s gu Fu su R al B es v2 (got ++ O) := by
  obtain ⟨p, u, d0, ⟨E, l, h1, h2⟩, e⟩ := t
  have k6 := Only.of_grown hg
  have hr : ∀ i ∈ row.toList, gv.ownBlock = some i := fun i hi => by rw [hrow]; simpa using hi
  have hr0 : ∀ i ∈ row.toList, w0.heap.size ≤ i := fun i hi => (l3.row_lt i (hr i hi)).1
  refine ⟨⟨PL.off p k6 (fun x hx hm => LO.rowp l3 p x (hr x hm) hx) hr0, u.off k6 (fun x hx hm => u.row_off l3 x (hr x hm) hx) hr0, d0, ⟨E, l.only k6 (fun i hi hm => ?_) (fun i hi hm => ?_), h1, h2⟩, e.only k6 (fun i hi hm => ?_)⟩, ⟨E3 ++ E2, l3.app (by decide) he h3 he2 hq2 l2.el hrow hg ho, fun x hx => ?_, fun x hx => ?_⟩, fun i hi hc => ?_⟩
  · exact hRr i hi (hr i hm)
  · obtain ⟨cs, hc⟩ := (l.el i hi).2
    exact l3.row_apart hc (by decide) (hr i hm)
  · obtain ⟨cs, hc⟩ := own_cel e hi
    exact l3.row_apart hc (by decide) (hr i hm)
  · rcases List.mem_append.1 hx with q | q
    · exact h31 x q
    · exact h21 x q
  · rcases List.mem_append.1 hx with q | q
    · exact h32 x q
    · exact h22 x q
  · rcases hv2 with q | q
    · rw [q] at hc; exact hRr i hi hc
    · rw [q] at hc
      injection hc with hc
      have := (l.row_lt i hi).2
      omega
end

set_option maxHeartbeats 1000000 in
/-- a bool of a pattern -/
theorem has20_any (l : List Bool) (n t : Nat) (A : Option Addr) (c : Nat) (w : World) (hl : Hid (l.length = n)) (hn : Nb w w.heap.size A l) :
    Calls Try.prog 22 #[.slice A n c, .int .i64 (t : Int)] w fun e w' => e = .returned (.bool (l.getD t false)) ∧ w = w' := by
  have g0 : decide ((0 : Int) ≤ (t : Int)) = true := by simp
  by_cases hlt : t < n
  · have g1 : decide ((t : Int) < (n : Int)) = true := by simp; omega
    have g2 : decide (t < n) = true := by simp; omega
    have htl : t < l.length := by rw [hl.out]; exact hlt
    obtain ⟨b, off, rfl, hb, hc⟩ := hn.at_ htl
    have hv : l.getD t false = l[t] := by rw [List.getD_eq_getElem?_getD, List.getElem?_eq_getElem htl]; rfl
    rw [hv]
    generalize l[t] = x at hc
    clear hn htl hl hv
    go_enter Try.func22, Try.ntmps22
    go_wp2
    go_ret
    exact ⟨rfl, rfl⟩
  · have g1 : decide ((t : Int) < (n : Int)) = false := by simp; omega
    have g2 : decide (t < n) = false := by simp; omega
    have hv : l.getD t false = false := by rw [List.getD_eq_getElem?_getD, List.getElem?_eq_none (by have := hl.out; omega)]; rfl
    rw [hv]
    clear hn hl hlt hv
    go_enter Try.func22, Try.ntmps22
    go_wp2
    go_ret
    exact ⟨rfl, rfl⟩

/-- packet i of the law -/
def tpk (i n : Nat) : Pk := ⟨false, false, 7, 3, (i : Int), (List.replicate n 0#8).set 0 (BitVec.ofNat 8 i)⟩
theorem tpk_ok {i n : Nat} (hi : i < 256) (h1 : 1 ≤ n) (h2 : n ≤ 300) : (tpk i n).ok = true :=
  Pk.ok_free (by unfold Pk.Fits tpk; simp only [List.length_set, List.length_replicate]; omega) (by show (7 : Int) ≠ 2047; decide)
theorem tpk_pkt {i n : Nat} (hi : i < 256) (h1 : 1 ≤ n) (h2 : n ≤ 300) : Pkt (tpk i n).enc := Pkt.of (tpk_ok hi h1 h2) (by show (7 : Int) ≠ 2047; decide)
theorem tpk_len {i n : Nat} (hi : i < 256) (h1 : 1 ≤ n) (h2 : n ≤ 300) : (tpk i n).enc.length = n + 6 := by
  rw [Pkr.enc_len (tpk_ok hi h1 h2)]
  simp [tpk]
  omega
end Go.Proofs.Ytcmonalnhdodmaa.Unp

/-
  The law UnpackerSizes.
-/
namespace Go.Proofs.Ytcmonalnhdodmaa.Unp
open Go.RowKit Go.Proofs.Ytcmonalnhdodmaa.Row Lst Ints
open Pac (bel_new)

/-- the packets of the law -/
def pks (g : Nat → Nat) (l : List (List Byte)) : List (List Byte) := l.mapIdx fun i x => wrp (g i) x
theorem pks_at {g : Nat → Nat} {l : List (List Byte)} {i : Nat} {x : List Byte} (h : l[i]? = some x) : (pks g l)[i]? = some (wrp (g i) x) := by
  unfold pks
  rw [List.getElem?_mapIdx, h]
  rfl
theorem pks_len {g : Nat → Nat} {l : List (List Byte)} : (pks g l).length = l.length := by unfold pks; rw [List.length_mapIdx]
/-- as far as k every text is of the asked length -/
def Ok60 (l : List (List Byte)) (k : Nat) : Prop := ∀ j x, j < k → l[j]? = some x → 1 ≤ x.length ∧ x.length ≤ 60
theorem Ok60.next {l : List (List Byte)} {k : Nat} {x : List Byte} (h : Ok60 l k) (hx : l[k]? = some x) (h1 : 1 ≤ x.length) (h2 : x.length ≤ 60) : Ok60 l (k + 1) := fun j y hj hy => by
  by_cases hjk : j = k
  · subst hjk
    rw [hx] at hy
    injection hy with hy
    subst hy
    exact ⟨h1, h2⟩
  · exact h j y (by omega) hy
theorem pks_wp {g : Nat → Nat} {l : List (List Byte)} (h : Ok60 l l.length) (hg : ∀ i, i < l.length → g i ≤ 2047) : ∀ p ∈ pks g l, Wp p := fun p hp => by
  obtain ⟨i, hi⟩ := List.getElem?_of_mem hp
  have hl := (List.getElem?_eq_some_iff.1 hi).1
  rw [pks_len] at hl
  obtain ⟨x, hx⟩ : ∃ x, l[i]? = some x := ⟨_, List.getElem?_eq_getElem hl⟩
  rw [pks_at hx] at hi
  injection hi with hi
  subst hi
  obtain ⟨h1, h2⟩ := h i x hl hx
  exact wrp_wp (hg i hl) h1 h2
theorem pks_flat {g : Nat → Nat} {l : List (List Byte)} {k : Nat} (h : Ok60 l k) : ((pks g l).take k).flatten.length ≤ 66 * k := by
  induction k with
  | zero => simp
  | succ k ih =>
    have ih := ih (fun j x hj hx => h j x (by omega) hx)
    rw [List.take_add_one, List.flatten_append, List.length_append]
    by_cases hk : k < l.length
    · obtain ⟨x, hx⟩ : ∃ x, l[k]? = some x := ⟨_, List.getElem?_eq_getElem hk⟩
      rw [pks_at hx]
      have := (h k x (by omega) hx).2
      have := wrp_len (ap := g k) (l := x)
      simp only [Option.toList_some, List.flatten_cons, List.flatten_nil, List.append_nil]
      omega
    · have : (pks g l)[k]? = none := List.getElem?_eq_none (by rw [pks_len]; omega)
      rw [this]
      simp only [Option.toList_none, List.flatten_nil, List.length_nil]
      omega
/-- the boundaries that are laid -/
def bds (ps : List (List Byte)) (k : Nat) : List Int := (List.range k).map fun i => ((bnd ps i : Nat) : Int)
theorem bds_succ (ps : List (List Byte)) (k : Nat) : bds ps (k + 1) = bds ps k ++ [((bnd ps k : Nat) : Int)] := by unfold bds; rw [List.range_succ, List.map_append]; rfl
theorem bds_len (ps : List (List Byte)) (k : Nat) : (bds ps k).length = k := by simp [bds]
theorem bds_at {ps : List (List Byte)} {k i : Nat} (h : i < k) : (bds ps k)[i]? = some ((bnd ps i : Nat) : Int) := by
  unfold bds
  rw [List.getElem?_map, List.getElem?_range h]
  rfl

set_option maxRecDepth 100000 in
set_option maxHeartbeats 16000000 in
theorem unpackerSizes_ok (A As : Option Addr) (l : List (List Byte)) (zs : List Byte) (n c m cs : Nat) (w : World) (hl : Hid (l.length = n)) (hps : LS w w.heap.size A l) (hz : Rd w As zs m cs) (hn : n ≤ 40) (hm : m ≤ 60) (hm1 : 1 ≤ m) :
    Calls Try.prog 5 #[.slice A n c, .slice As m cs] w fun e w' => e = .returned (.bool true) ∧ Below w.heap.size w w' := by
  have t1 : decide ((40 : Int) < (n : Int)) = false := by simp; omega
  have t1' : decide (40 < n) = false := by simp; omega
  have t2 : decide ((60 : Int) < (m : Int)) = false := by simp; omega
  have t2' : decide (60 < m) = false := by simp; omega
  have t3 : ((m : Int) == 0) = false := by simp; omega
  obtain ⟨ps, hpks⟩ : ∃ ps, pks (fun i => i) l = ps := ⟨_, rfl⟩
  have hpl : ps.length = n := by rw [← hpks, pks_len, hl.out]
  have HP := Lib.hid (And.intro hpks (And.intro hn (And.intro hm (And.intro hm1 hpl))))
  have z0 := Z1.start w
  clear hn hm hm1 hpks hpl
  go_enter Try.func5, Try.ntmps5
  go_wp2_with fail
  go_loopw [5, 6, 7, 8] (fun R V B iv wr => ∃ k : Nat, iv = .int .i64 (k : Int) ∧ k ≤ n ∧ Ok60 l k ∧ Z1 w wr R V B (ps.take k) (ps.take k).flatten (bds ps k)) (fun _ _ _ iv _ => n - (intOf iv).toNat)
  case atStart => exact ⟨0, rfl, Nat.zero_le _, fun j x hj => by omega, z0⟩
  case round =>
    obtain ⟨k, rfl, hk, hok, hZ⟩ := hrel
    clear z0
    by_cases hkn : k < n
    · obtain ⟨x, hx⟩ : ∃ x, l[k]? = some x := ⟨_, List.getElem?_eq_getElem (by rw [hl.out]; exact hkn)⟩
      obtain ⟨b, off, xa, xc, rfl, hb, hcell, hdt⟩ := hps.at_ hx
      have c0 := (hZ.b.cell (p := ⟨b, off + k, none⟩) hb).trans hcell
      obtain ⟨M, hM⟩ : ∃ M, x.length = M := ⟨_, rfl⟩
      rw [hM] at hcell c0
      have rX : Rd wr xa x M xc := ⟨hM, (hdt.b.below hZ.b).more hZ.b.size, hdt.n, by rw [← hM]; exact hdt.l, hdt.m⟩
      have i0 : (0 : Int) ≤ (k : Int) := Int.natCast_nonneg _
      have i1 : (k : Int) < (n : Int) := by omega
      by_cases h1 : M < 1
      · have u1 : decide ((M : Int) < 1) = true := by simp; omega
        have u1' : decide (M < 1) = true := by simpa using h1
        have HZ := Lib.hid hZ
        clear hZ h1 rX hdt hM hcell hx
        go_wp2_with fail
        refine (alive20_any _).mono ?_
        rintro e w2 ⟨rfl, b2⟩
        go_wp2
        go_ret
        exact ⟨rfl, (HZ.out.below b2).b⟩
      · have u1 : decide ((M : Int) < 1) = false := by simp; omega
        have u1' : decide (M < 1) = false := by simpa using h1
        by_cases h2 : 60 < M
        · have u2 : decide ((60 : Int) < (M : Int)) = true := by simp; omega
          have u2' : decide (60 < M) = true := by simpa using h2
          have HZ := Lib.hid hZ
          clear hZ h1 h2 rX hdt hM hcell hx
          go_wp2_with fail
          refine (alive20_any _).mono ?_
          rintro e w2 ⟨rfl, b2⟩
          go_wp2
          go_ret
          exact ⟨rfl, (HZ.out.below b2).b⟩
        · have u2 : decide ((60 : Int) < (M : Int)) = false := by simp; omega
          have u2' : decide (60 < M) = false := by simpa using h2
          have hok2 := hok.next hx (by omega) (by omega)
          have hpk : ps[k]? = some (wrp k x) := by rw [← HP.out.1]; exact pks_at (g := fun i => i) hx
          have xw := lwrap_any k xa x M xc wr rX (by have := HP.out.2.1; omega) (by omega) (by omega)
          obtain ⟨Y, hY⟩ : ∃ Y, wrp k x = Y := ⟨_, rfl⟩
          have hYl : Y.length = 6 + M := by rw [← hY, wrp_len, hM]
          obtain ⟨NY, hNY⟩ : ∃ NY, 6 + M = NY := ⟨_, rfl⟩
          rw [hY] at xw hpk
          rw [hNY] at hYl
          have hNYb : NY ≤ 66 := by omega
          have hlen : (ps.take k).length = k := by rw [List.length_take, HP.out.2.2.2.2]; omega
          obtain ⟨SL, hSL⟩ : ∃ SL, (ps.take k).flatten.length = SL := ⟨_, rfl⟩
          obtain ⟨AV, cV, rfl, _⟩ := hZ.st.reads_len hSL
          obtain ⟨AB, cB, rfl, _⟩ := hZ.bg.reads_len (bds_len ps k)
          obtain ⟨E, lo, hE⟩ := hZ.lo
          have hSl := pks_flat (g := fun i => i) hok
          rw [HP.out.1] at hSl
          have hlen2 : (ps.take k ++ [Y]).length = k + 1 := by rw [List.length_append, hlen]; rfl
          have hk40 : k < 40 := by have := HP.out.2.1; omega
          have hat : (ps.take k ++ [Y])[k]? = some Y := by rw [List.getElem?_append_right (by omega), hlen, Nat.sub_self]; rfl
          have HY := Lib.hid (And.intro hYl (And.intro hpk (And.intro hok2 (And.intro (show SL ≤ 2640 by omega) (And.intro hNYb (And.intro hlen (And.intro hlen2 (And.intro hat (And.intro hSL hk40)))))))))
          have HZ := Lib.hid (And.intro hZ (And.intro lo hE))
          clear hZ lo hE rX hdt hM hcell hx hY hYl hpk hok2 hok h1 h2 hSl hNY hNYb hlen hlen2 hat hSL hk40
          go_wp2_with fail
          refine xw.mono ?_
          clear xw c0
          rintro e w4 ⟨v4, rfl, o4, b4⟩
          obtain ⟨A4, k4, rfl, _⟩ := o4.reads_len HY.out.1
          obtain ⟨qs, AR, kR, rfl, hqn, hqe, hqo, hqr, hqz, hq3⟩ := (HZ.out.2.1.below b4).parts (n := k) HY.out.2.2.2.2.2.1
          have hsz : w.heap.size ≤ w4.heap.size := Nat.le_trans HZ.out.1.b.size b4.size
          have hk40 := HY.out.2.2.2.2.2.2.2.2.2
          have hSLb := HY.out.2.2.2.1
          have hNYb := HY.out.2.2.2.2.1
          go_wp2_with (first
            | (at_builtin; refine wpList_row _ enc_ok is_lists (by decide) rfl (.tmp 51) (.tmp 58) rfl rfl (hqo.alloc _) (l := [⟨Y, A4, k4⟩]) (n := 1) rfl rfl (Rs_new1 enc_ok w4 _ _ _ (by simp only [enc, HY.out.1])) (by simp) (by rw [hqn]; simp; omega) (by simp; omega) ?_; intro R2 w6 ho6 hg6 hr6; have hZ6 := Z1.addp HZ.out.1.st HZ.out.1.bg HZ.out.1.b HZ.out.2.1 HZ.out.2.2 o4 HY.out.1 b4 hqe (fun q hq => ⟨(hq3 q hq).1.alloc _, (hq3 q hq).2⟩) rfl hg6 ho6; obtain ⟨E6, lo6, hE6⟩ := hZ6.lo; obtain ⟨AR6, cR6, rfl, _⟩ := lo6.len (n := k + 1) HY.out.2.2.2.2.2.2.1; clear hr6 ho6 hg6 o4 b4 hqo hqr hqz hq3 hqe hqn lo6 hE6 hsz)
            | (at_builtin; refine wpList_iapp _ is_ints rfl (.tmp 60) (.tmp 63) rfl rfl (hZ6.bg.alloc _) (l := [((SL : Nat) : Int)]) rfl rfl (Ns_new1 w6 _ _) (by simp) (by rw [bds_len]; simp; omega) (by have := hZ6.b.size; simp; omega) ?_; intro B2 w8 ho8 hg8 hb8; have hZ8 := hZ6.addb rfl hg8 ho8; obtain ⟨E8, lo8, hE8⟩ := hZ8.lo; obtain ⟨AR8, cR8, he8, hLS8, _⟩ := lo8.len (n := k + 1) HY.out.2.2.2.2.2.2.1; cases he8; obtain ⟨b8, q8, a8, k8, rfl, hb8', hc8, hd8⟩ := hLS8.at_ (i := k) HY.out.2.2.2.2.2.2.2.1; rw [HY.out.1] at hc8; clear hZ6 lo8 hE8 hLS8 hb8 ho8 hg8)
            | (at_builtin; refine wpList_appN _ is_bytes rfl (.tmp 65) (.tmp 69) rfl (m := (ps.take k).flatten) rfl hZ8.st HY.out.1 rfl hd8.b hd8.n (by rw [HY.out.2.2.2.2.2.2.2.2.1]; omega) hZ8.b.size ?_; intro V2 w9 ho9 hg9 hv9; have hZ9 := hZ8.adds rfl hg9 ho9 hv9; have HZ9 := Lib.hid hZ9; clear hZ9 hZ8 ho9 hg9 hv9 hc8 hd8))
          go_roundw
          case rel =>
            refine ⟨k + 1, by go_num, hkn, HY.out.2.2.1, ?_⟩
            have e1 : ps.take (k + 1) = ps.take k ++ [Y] := by rw [List.take_add_one, HY.out.2.1]; rfl
            have e2 : (ps.take (k + 1)).flatten = (ps.take k).flatten ++ Y := by rw [e1, List.flatten_append]; simp
            have e3 : bds ps (k + 1) = bds ps k ++ [((SL : Nat) : Int)] := by rw [bds_succ]; unfold bnd; rw [HY.out.2.2.2.2.2.2.2.2.1]
            rw [e1, List.flatten_append, e3]
            simp only [List.flatten_cons, List.flatten_nil, List.append_nil]
            exact HZ9.out
          case measure => simp [intOf]; omega
    · obtain rfl : k = n := by omega
      rename World => w9
      have hpl := HP.out.2.2.2.2
      have hwp : ∀ p ∈ ps, Wp p := by
        rw [← HP.out.1]
        exact pks_wp (by rw [hl.out]; exact hok) (fun i hi => by have := HP.out.2.1; have := hl.out; omega)
      have hni : ps.filter ni = ps := by
        rw [List.filter_eq_self]
        intro p hp
        rw [← HP.out.1] at hp
        obtain ⟨i, hi⟩ := List.getElem?_of_mem hp
        have hil := (List.getElem?_eq_some_iff.1 hi).1
        rw [pks_len] at hil
        obtain ⟨x, hx⟩ : ∃ x, l[i]? = some x := ⟨_, List.getElem?_eq_getElem hil⟩
        rw [pks_at hx] at hi
        injection hi with hi
        obtain ⟨q1, q2⟩ := hok i x (by have := hl.out; omega) hx
        have := HP.out.2.1
        have := hl.out
        rw [← hi, wrp_ni (by omega) q1 q2]
        simp
        omega
      have hSb := pks_flat (g := fun i => i) hok
      rw [HP.out.1] at hSb
      rw [List.take_of_length_le (by omega)] at hZ hSb
      obtain ⟨M, hM⟩ : ∃ M, ps.flatten.length = M := ⟨_, rfl⟩
      obtain ⟨AV, cV, rfl, rS⟩ := Rd.of hZ.st hM
      obtain ⟨AB, cB, rfl, nB, _, hcB, _⟩ := hZ.bg.reads_len (bds_len ps k)
      obtain ⟨E, lo, _⟩ := hZ.lo
      obtain ⟨AR, cR, rfl, lR, _⟩ := lo.len hpl
      have hMb : M ≤ 2640 := by have := HP.out.2.1; omega
      have HW := Lib.hid (And.intro hwp (And.intro hni (And.intro hM (And.intro hMb (And.intro rS (And.intro nB (And.intro lR hZ.b)))))))
      clear hok hZ hwp hni hSb hM rS nB lo lR hpl hcB hMb hkn hk
      go_wp2_with fail
      refine (UL.new (w0 := w9) (Below.refl _ _)).mono ?_
      rintro e w2 ⟨g, F0, rfl, U0, b2, n2⟩
      have G0 : Gt w9 w2 g F0 US0 (.slice none 0 0) [] := ⟨U0, [], LO.nil_ _ _ _ _, fun _ hx => nomatch hx⟩
      have HG0 := Lib.hid G0
      clear U0 b2 n2 G0
      go_wp2_with fail
      go_loopw [10, 11, 12] (fun gv av kv wr => ∃ (q a i : Nat) (x : List Byte) (F : List Nat) (s : US), av = .int .i64 (a : Int) ∧ kv = .int .i64 (q : Int) ∧ a ≤ M ∧ q ≤ a ∧ Pos ps a i x ∧ Exp s q ∧ s.lo = 0 ∧ s.rs = x ∧ Gt w9 wr g F s gv ((ps.take i).filter ni)) (fun _ av _ _ => M - (intOf av).toNat)
      case atStart => exact ⟨0, 0, 0, [], F0, US0, rfl, rfl, Nat.zero_le _, Nat.le_refl _, Pos.start, .inl ⟨rfl, rfl⟩, rfl, rfl, by simpa using HG0.out⟩
      case round =>
        obtain ⟨q, a, i, x, F, s, rfl, rfl, haM, hqa, hP, hE, hlo, hrs, hG⟩ := hrel
        clear HG0
        by_cases haM2 : a < M
        · obtain ⟨kn, hkn⟩ : ∃ kn, q % m = kn := ⟨_, rfl⟩
          have hm1 := HP.out.2.2.2.1
          have hknm : kn < m := by rw [← hkn]; exact Nat.mod_lt _ (by omega)
          have hzl := hz.len
          obtain ⟨bz, oz, rfl, hbz, hcz⟩ := hz.at_ (by omega)
          obtain ⟨zb, hzb⟩ : ∃ z, zs[kn]? = some z := ⟨_, List.getElem?_eq_getElem (by omega)⟩
          have cz := hcz kn zb hzb
          obtain ⟨zv, hzv⟩ : ∃ zv, zb.toNat = zv := ⟨_, rfl⟩
          have hzvb : zv < 256 := by rw [← hzv]; exact zb.isLt
          have cz' : wr.cell? ⟨bz, oz + kn, none⟩ = some (.int .u8 (zv : Int)) := by
            rw [(hG.u.b.cell (p := ⟨bz, oz + kn, none⟩) (Nat.lt_of_lt_of_le hbz HW.out.2.2.2.2.2.2.2.size)), (HW.out.2.2.2.2.2.2.2.cell (p := ⟨bz, oz + kn, none⟩) hbz), cz]
            show some (Value.int .u8 ((zb.toNat : Nat) : Int)) = _
            rw [hzv]
          obtain ⟨e, he⟩ : ∃ e, min (a + zv + 1) M = e := ⟨_, rfl⟩
          have hae : a < e := by omega
          have heM : e ≤ M := by omega
          have hsz : e - a ≤ 2046 := by omega
          have hMb := HW.out.2.2.2.1
          have m1 : min ((a : Int) + (zv : Int) + 1) (M : Int) = (e : Int) := by omega
          have m2 : (if (a : Int) + (zv : Int) + 1 < (M : Int) then (a : Int) + (zv : Int) + 1 else (M : Int)) = (e : Int) := by split <;> omega
          have m3 : (if (M : Int) < (a : Int) + (zv : Int) + 1 then (M : Int) else (a : Int) + (zv : Int) + 1) = (e : Int) := by split <;> omega
          have k1 : (q : Int).tmod (m : Int) = (kn : Int) := by rw [Int.tmod_eq_emod_of_nonneg (by omega), ← hkn]; exact (Int.natCast_emod q m).symm
          have k2 : (q : Int) % (m : Int) = (kn : Int) := by rw [← hkn]; exact (Int.natCast_emod q m).symm
          have i0 : (0 : Int) ≤ (kn : Int) := by omega
          have i1 : (kn : Int) < (m : Int) := by omega
          have m0 : ((m : Int) == 0) = false := by simp; omega
          have hn40 := HP.out.2.1
          have HS := Lib.hid (And.intro hP (And.intro hE (And.intro hlo (And.intro hrs (And.intro hG (And.intro hae (And.intro heM (And.intro hsz hqa))))))))
          clear hP hE hlo hrs hG hsz he hkn hzb hzv hcz cz hzl hknm haM hae heM
          go_wp2_with fail
          go_loop [14, 15] (fun fv iv => ∃ (j f : Nat), iv = .int .i64 ((j : Int) - 1) ∧ j ≤ k ∧ fv = .int .i64 (f : Int) ∧ FstJ ps a e f j) (fun _ iv => (intOf iv + 1).toNat)
          case atStart => exact ⟨k, 2047, rfl, Nat.le_refl _, rfl, by have h := FstJ.start (ps := ps) (a := a) (e := e); rw [HP.out.2.2.2.2] at h; exact h⟩
          case round =>
            obtain ⟨j, f, rfl, hj, rfl, hF⟩ := hrel
            cases j with
            | succ j =>
              have hiv : (((j + 1 : Nat) : Int) - 1) = (j : Int) := by omega
              rw [hiv]
              have u1 : decide ((0 : Int) ≤ (j : Int)) = true := by simp
              obtain ⟨bb, ob, hAB, hbb, hcb⟩ := HW.out.2.2.2.2.2.1.at_ (k := j) (by rw [bds_len]; omega)
              subst hAB
              have hbv : (bds ps k)[j]'(by rw [bds_len]; omega) = ((bnd ps j : Nat) : Int) := by
                have h := bds_at (ps := ps) (k := k) (i := j) (by omega)
                rw [List.getElem?_eq_getElem (by rw [bds_len]; omega)] at h
                injection h
              rw [hbv] at hcb
              obtain ⟨Y, hY⟩ : ∃ Y, bnd ps j = Y := ⟨_, rfl⟩
              rw [hY] at hcb
              have hYM : Y ≤ M := by have h := bnd_top (ps := ps) j; rw [HW.out.2.2.1, hY] at h; exact h
              have cb : wr.cell? ⟨bb, ob + j, none⟩ = some (.int .i64 (Y : Int)) := (HS.out.2.2.2.2.1.u.b.cell (p := ⟨bb, ob + j, none⟩) hbb).trans hcb
              have j0 : (0 : Int) ≤ (j : Int) := by omega
              have j1 : (j : Int) < (k : Int) := by omega
              by_cases h1 : a ≤ Y
              · have u2 : decide ((a : Int) ≤ (Y : Int)) = true := by simpa using h1
                have u2' : decide (a ≤ Y) = true := by simpa using h1
                by_cases h2 : Y < e
                · have u3 : decide ((Y : Int) < (e : Int)) = true := by simpa using h2
                  have u3' : decide (Y < e) = true := by simpa using h2
                  obtain ⟨D, hD⟩ : ∃ D, Y - a = D := ⟨_, rfl⟩
                  have d1 : (Y : Int) - (a : Int) = (D : Int) := by omega
                  have HF := Lib.hid (show FstJ ps a e D j by rw [← hD, ← hY]; exact FstJ.yes (by rw [HP.out.2.2.2.2]; omega) (by rw [hY]; exact h1) (by rw [hY]; exact h2))
                  have hDb : D ≤ 2640 := by omega
                  clear hF hY hcb h1 h2 hD hbv
                  go_wp2
                  go_round
                  case rel => exact ⟨j, D, by go_num, by omega, by go_num, HF.out⟩
                  case measure => simp [intOf]
                · have u3 : decide ((Y : Int) < (e : Int)) = false := by simpa using h2
                  have u3' : decide (Y < e) = false := by simpa using h2
                  have HF := Lib.hid (hF.no (by rw [hY]; omega))
                  clear hF hY hcb h1 h2 hbv
                  go_wp2
                  go_round
                  case rel => exact ⟨j, f, by go_num, by omega, rfl, HF.out⟩
                  case measure => simp [intOf]
              · have u2 : decide ((a : Int) ≤ (Y : Int)) = false := by simpa using h1
                have u2' : decide (a ≤ Y) = false := by simpa using h1
                have HF := Lib.hid (hF.no (by rw [hY]; omega))
                clear hF hY hcb h1 hbv
                go_wp2
                go_round
                case rel => exact ⟨j, f, by go_num, by omega, rfl, HF.out⟩
                case measure => simp [intOf]
            | zero =>
              have u1 : decide ((0 : Int) ≤ ((0 : Nat) : Int) - 1) = false := by decide
              obtain ⟨hP, hE, hlo, hrs, hG, hae, heM, hsz, hqa⟩ := HS.out
              have hwp := HW.out.1
              have hM := HW.out.2.2.1
              have hFst := hF.done
              obtain ⟨hfl, hf46⟩ := hFst.lt hsz
              obtain ⟨i', x', hQ⟩ := Pos.ex (ps := ps) (a := e) (by omega) hwp
              obtain ⟨hst, hfil⟩ := step_in hwp hP hQ hae (by omega) hFst hsz
              have rS := HW.out.2.2.2.2.1.later hG.u.b
              obtain ⟨bV, oV, rfl, hbV, _⟩ := HW.out.2.2.2.2.1.at_ (by omega)
              have hd := Rd.sub rS a (e - a) (by omega)
              have hcV := rS.le
              have hdl := hd.len
              obtain ⟨t1', t2', t3', t4'⟩ := hE.take (f := f) (d := (ps.flatten.drop a).take (e - a)) (by rw [hdl]; exact hfl) hf46 hlo
              rw [hrs, hst] at t3' t4'
              obtain ⟨O, hO⟩ : ∃ O, ((ps.take i').drop i).filter ni = O := ⟨_, rfl⟩
              obtain ⟨K, hK⟩ : ∃ K, O.length = K := ⟨_, rfl⟩
              rw [hO] at hfil t4'
              obtain ⟨C, hC⟩ : ∃ C, q % 256 = C := ⟨_, rfl⟩
              obtain ⟨D, hD⟩ : ∃ D, e - a = D := ⟨_, rfl⟩
              obtain ⟨cD, hcD⟩ : ∃ cD, cV - a = cD := ⟨_, rfl⟩
              rw [hC] at t1' t2' t3' t4'
              rw [hD] at hd t1' t2' t3' t4'
              rw [hcD] at hd
              have xt := hG.take (by omega) hd (by have := HW.out.2.2.2.1; omega) (fun _ => Of_blk (fun x hx => by have := hG.u.lo x hx; omega) (Nat.lt_of_lt_of_le hbV hG.u.b.size)) rfl t4' hK
              have k3 : (q : Int).tmod 256 = (C : Int) := by rw [Int.tmod_eq_emod_of_nonneg (by omega), ← hC]; exact (Int.natCast_emod q 256).symm
              have k4 : (q : Int) % 256 = (C : Int) := by rw [← hC]; exact (Int.natCast_emod q 256).symm
              have hgl : ((ps.take i).filter ni).length ≤ 40 := by
                have h1 := List.length_filter_le ni (ps.take i)
                have h2 := HP.out.2.1
                have h3 := HP.out.2.2.2.2
                rw [List.length_take] at h1
                omega
              have hKb : K ≤ 40 := by
                have h1 := List.length_filter_le ni ((ps.take i').drop i)
                have h2 := HP.out.2.1
                have h3 := HP.out.2.2.2.2
                rw [hO, hK, List.length_drop, List.length_take] at h1
                omega
              have s1 : (a : Int) ≤ (e : Int) := by omega
              have s2 : (e : Int) ≤ (cV : Int) := by omega
              have s3 : a ≤ e := by omega
              have s4 : e ≤ cV := by omega
              have s5 : cV ≠ a := by omega
              have s6 : e ≤ M := heM
              have s7 : (e : Int) ≤ (M : Int) := by omega
              have HN := Lib.hid (And.intro hQ (And.intro t1' (And.intro t2' (And.intro t3' (And.intro hfil (And.intro hK (And.intro hae (And.intro heM (And.intro hgl (And.intro hKb hqa))))))))))
              clear HS hP hE hlo hrs hG hae hsz hqa hwp hM hFst hfl hf46 hQ hst hfil rS hcV hdl hd t1' t2' t3' t4' hF hO hK hC hbV hgl hKb heM
              go_wp2_with fail
              refine xt.mono ?_
              clear xt
              rintro e2 w4 ⟨A4, k4', F4, rfl, G2, _⟩
              obtain ⟨u4, ⟨E4, l4, hE4⟩, ⟨E5, l5, hE5⟩⟩ := G2
              obtain ⟨qs, AG, kG, rfl, hqn, hqe, hqo, hqr, hqz, hq3⟩ := l4.parts (n := ((ps.take i).filter ni).length) rfl
              obtain ⟨qs2, A5, k5, he5, hqn2, hqe2, hqo2, hqr2, hqz2, hq32⟩ := l5.parts (n := K) HN.out.2.2.2.2.2.1
              cases he5
              go_wp2_with (first
                | (at_builtin; refine wpList_row _ enc_ok is_lists (by decide) rfl (.tmp 119) (.tmp 128) rfl rfl hqo (l := qs2) (n := K) hqn2 rfl hqr2 hqz2 (by rw [hqn, hqn2]; have := HN.out.2.2.2.2.2.2.2.2; omega) u4.b.size ?_; intro gv6 w6 ho6 hg6 hr6; have hG6 := Gt2.app u4 l4 hE4 l5 hE5 hqe hq3 hqe2 hq32 rfl hg6 ho6; rw [← HN.out.2.2.2.2.1] at hG6; have HG6 := Lib.hid hG6; clear hG6 ho6 hg6 hr6 u4 l4 hE4 l5 hE5 hqe hq3 hqe2 hq32 hqo hqr hqz hqo2 hqr2 hqz2))
              go_roundw
              case rel => exact ⟨q + 1, e, i', x', F4, _, by go_num, by go_num, HN.out.2.2.2.2.2.2.2.1, by have := HN.out.2.2.2.2.2.2; omega, HN.out.1, HN.out.2.1, HN.out.2.2.1, HN.out.2.2.2.1, HG6.out⟩
              case measure => have := HN.out.2.2.2.2.2.2; simp [intOf]; omega
        · obtain rfl : a = M := by omega
          obtain ⟨hwp, hni, hM, hMb, rS, nB, lR, hb9⟩ := HW.out
          rw [← hM] at hP
          obtain ⟨hi, hx0⟩ := hP.last hwp
          rw [hi, List.take_of_length_le (Nat.le_refl _), hni] at hG
          obtain ⟨u4, E4, l4, _⟩ := hG
          obtain ⟨AG, cG, rfl, lG, _⟩ := l4.len HP.out.2.2.2.2
          have y1 := Same_of (c1 := cG) (c2 := cR) (n := k) wr lG ((lR.below u4.b).more u4.b.size) HP.out.2.2.2.2 (by have := HP.out.2.1; omega)
          have HU := Lib.hid (And.intro u4 (And.intro hlo hb9))
          clear hwp hni hM hMb rS nB lR hb9 hP hi hx0 u4 l4 lG hE hlo hrs HW haM2 haM
          go_wp2_with fail
          refine y1.mono ?_
          clear y1
          rintro e w5 ⟨rfl, b5⟩
          have y2 := (HU.out.1.below b5).lost
          rw [HU.out.2.1] at y2
          have HU5 := Lib.hid (HU.out.1.below b5)
          clear b5
          go_wp2_with fail
          refine y2.mono ?_
          clear y2
          rintro e w6 ⟨rfl, rfl⟩
          go_wp2_with fail
          refine (alive20_any _).mono ?_
          rintro e w7 ⟨rfl, b7⟩
          go_wp2
          go_ret
          exact ⟨rfl, HU.out.2.2.trans (((HU5.out.below b7).b).mono HU.out.2.2.size)⟩

set_option maxRecDepth 100000 in
set_option maxHeartbeats 2000000 in
theorem unpackerSizes_walk (A As : Option Addr) (l : List (List Byte)) (zs : List Byte) (n c m cs : Nat) (w : World) (hl : l.length = n) (hps : LS w w.heap.size A l) (hz : Rd w As zs m cs) :
    Calls Try.prog 5 #[.slice A n c, .slice As m cs] w fun e w' => e = .returned (.bool true) ∧ Below w.heap.size w w' := by
  by_cases h1 : 40 < n
  · have t1 : decide ((40 : Int) < (n : Int)) = true := by simp; omega
    have t1' : decide (40 < n) = true := by simpa using h1
    clear h1 hl hps hz
    go_enter Try.func5, Try.ntmps5
    go_wp2_with fail
    refine (alive20_any _).mono ?_
    rintro e w1 ⟨rfl, b1⟩
    go_wp2
    go_ret
    exact ⟨rfl, b1⟩
  · have t1 : decide ((40 : Int) < (n : Int)) = false := by simp; omega
    have t1' : decide (40 < n) = false := by simpa using h1
    by_cases h2 : 60 < m
    · have t2 : decide ((60 : Int) < (m : Int)) = true := by simp; omega
      have t2' : decide (60 < m) = true := by simpa using h2
      clear h1 h2 hl hps hz
      go_enter Try.func5, Try.ntmps5
      go_wp2_with fail
      refine (alive20_any _).mono ?_
      rintro e w1 ⟨rfl, b1⟩
      go_wp2
      go_ret
      exact ⟨rfl, b1⟩
    · have t2 : decide ((60 : Int) < (m : Int)) = false := by simp; omega
      have t2' : decide (60 < m) = false := by simpa using h2
      by_cases h3 : m = 0
      · have t3 : ((m : Int) == 0) = true := by simp; omega
        clear h1 h2 h3 hl hps hz
        go_enter Try.func5, Try.ntmps5
        go_wp2_with fail
        refine (alive20_any _).mono ?_
        rintro e w1 ⟨rfl, b1⟩
        go_wp2
        go_ret
        exact ⟨rfl, b1⟩
      · exact unpackerSizes_ok A As l zs n c m cs w (Lib.hid hl) hps hz (by omega) (by omega) (by omega)
end Go.Proofs.Ytcmonalnhdodmaa.Unp
