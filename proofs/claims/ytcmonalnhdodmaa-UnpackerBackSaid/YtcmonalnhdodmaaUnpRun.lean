/-
  Plain mathematics of P20.4 with frames that are lost: frames of z bytes, what of a stream of packets is whole, an unpacker that follows.
-/
import Derived.Test.YtcmonalnhdodmaaUnpFld
namespace Go.Proofs.Ytcmonalnhdodmaa.Unp
open Pac

/-- n frames from lo on have arrived -/
def alls (arr : Nat → Bool) (lo : Nat) : Nat → Bool
  | 0 => true
  | n + 1 => alls arr lo n && arr (lo + n)
/-- the packets of the first j that are not idle and of which W holds -/
def sel (ps : List (List Byte)) (W : Nat → Bool) : Nat → List (List Byte)
  | 0 => []
  | j + 1 => sel ps W j ++ (if ni (ps.getD j []) && W j then [ps.getD j []] else [])
/-- all frames of packet j have arrived -/
def Wt (ps : List (List Byte)) (z : Nat) (arr : Nat → Bool) (j : Nat) : Bool := alls arr (bnd ps j / z) ((bnd ps (j + 1) - 1) / z + 1 - bnd ps j / z)

section
variable {ps : List (List Byte)} {W : Nat → Bool} {arr : Nat → Bool} {z k i i' j a e f : Nat} {x x' d : List Byte} {gd : Bool}
theorem sel_succ (j : Nat) : sel ps W (j + 1) = sel ps W j ++ (if ni (ps.getD j []) && W j then [ps.getD j []] else []) := rfl
theorem sel_none (h : ∀ j, i ≤ j → j < i' → W j = false) (hi : i ≤ i') : sel ps W i' = sel ps W i := by
  obtain ⟨n, rfl⟩ := Nat.le.dest hi
  induction n with
  | zero => rfl
  | succ n ih =>
    have h2 := h (i + n) (by omega) (by omega)
    rw [← Nat.add_assoc, sel_succ, h2, Bool.and_false, if_neg (by simp), List.append_nil]
    exact ih (fun j h3 h4 => h j h3 (by omega)) (by omega)
theorem sel_all (h : ∀ j, i ≤ j → j < i' → W j = true) (hi : i ≤ i') (hl : i' ≤ ps.length) : sel ps W i' = sel ps W i ++ ((ps.take i').drop i).filter ni := by
  obtain ⟨n, rfl⟩ := Nat.le.dest hi
  induction n with
  | zero =>
    have : (ps.take i).drop i = [] := List.drop_eq_nil_of_le (by rw [List.length_take]; omega)
    simp [this]
  | succ n ih =>
    have h2 := h (i + n) (by omega) (by omega)
    have ih := ih (fun j h3 h4 => h j h3 (by omega)) (by omega) (by omega)
    have hp : ps[i + n]? = some (ps.getD (i + n) []) := by
      rw [List.getD_eq_getElem?_getD, List.getElem?_eq_getElem (by omega)]
      rfl
    have e1 : (ps.take (i + (n + 1))).drop i = (ps.take (i + n)).drop i ++ [ps.getD (i + n) []] := by
      rw [← Nat.add_assoc, List.take_add_one, hp, List.drop_append_of_le_length (by rw [List.length_take]; omega)]
      rfl
    rw [← Nat.add_assoc, sel_succ, ih, h2, Nat.add_assoc, e1, List.filter_append, List.append_assoc]
    obtain ⟨p0, hp0⟩ : ∃ p0, ps.getD (i + n) [] = p0 := ⟨_, rfl⟩
    rw [hp0]
    congr 1
    cases hn : ni p0 <;> simp [hn]

/-- frame k begins at position k z (or the stream has ended) -/
structure Rn (ps : List (List Byte)) (z : Nat) (arr : Nat → Bool) (k i : Nat) (x : List Byte) (gd : Bool) : Prop where
  p : Pos ps (min (k * z) ps.flatten.length) i x
  g : x ≠ [] → gd = alls arr (bnd ps i / z) (k - bnd ps i / z)
theorem Rn.start : Rn ps z arr 0 0 [] true := ⟨by rw [Nat.zero_mul, Nat.zero_min]; exact Pos.start, fun h => absurd rfl h⟩

theorem Pos.in_ (P : Pos ps a i x) (hx : x ≠ []) : bnd ps i < a ∧ a < bnd ps (i + 1) ∧ i < ps.length := by
  have hal := P.al
  rcases P.x with rfl | ⟨p, t, hp, hpx, ht⟩
  · exact absurd rfl hx
  have h0 : 0 < x.length := List.length_pos_iff.2 hx
  have ht0 : 0 < t.length := List.length_pos_iff.2 ht
  have hn := bnd_next hp
  rw [hpx, List.length_append] at hn
  exact ⟨by omega, by omega, (List.getElem?_eq_some_iff.1 hp).1⟩
theorem Pos.lo (P : Pos ps a i x) : bnd ps i ≤ a := by have := P.al; omega

/-- a frame -/
theorem Rn.step (hz : 0 < z) (hw : ∀ p ∈ ps, Wp p) (h : Rn ps z arr k i x gd) (hk : k * z < ps.flatten.length) :
    ∃ i' x', Pos ps (min ((k + 1) * z) ps.flatten.length) i' x' ∧ i ≤ i' ∧
      (arr k = true → Rn ps z arr (k + 1) i' x' (gdn gd i i' x) ∧ sel ps (Wt ps z arr) i' = sel ps (Wt ps z arr) i ++ ((ps.take i').drop (fro gd i x)).filter ni) ∧
      (arr k = false → Rn ps z arr (k + 1) i' x' false ∧ sel ps (Wt ps z arr) i' = sel ps (Wt ps z arr) i) := by
  obtain ⟨P, hg⟩ := h
  rw [Nat.min_eq_left (by omega)] at P
  obtain ⟨e, he⟩ : ∃ e, min ((k + 1) * z) ps.flatten.length = e := ⟨_, rfl⟩
  have hkz : (k + 1) * z = k * z + z := Nat.succ_mul k z
  obtain ⟨i', x', Q⟩ := Pos.ex (ps := ps) (a := e) (by omega) hw
  have hle := (Pos.mid hw P Q (by omega)).2
  rw [he]
  refine ⟨i', x', Q, hle, ?_⟩
  have hae : k * z < e := by omega
  have hee : e ≤ (k + 1) * z := by omega
  have hPlo := P.lo
  have hQlo := Q.lo
  -- the frames of a packet that begins in frame k and ends in it
  have hF : ∀ q, k * z ≤ q → q < (k + 1) * z → q / z = k := fun q h1 h2 => Nat.div_eq_of_lt_le h1 h2
  have hb7 : ∀ j, j < i' → bnd ps j + 7 ≤ bnd ps (j + 1) ∧ bnd ps (j + 1) ≤ bnd ps i' := fun j hj => ⟨bnd_lt hw (by have := Q.le; omega), bnd_le hj⟩
  have hto : ∀ j, j < i' → k * z < bnd ps (j + 1) → (bnd ps (j + 1) - 1) / z = k := fun j hj h1 => hF _ (by omega) (by have := (hb7 j hj).2; omega)
  have hnew : ∀ j, j < i' → k * z ≤ bnd ps j → Wt ps z arr j = arr k := fun j hj h1 => by
    have h7 := hb7 j hj
    unfold Wt
    rw [hto j hj (by omega), hF _ h1 (by omega), show k + 1 - k = 0 + 1 by omega]
    show (true && arr (k + 0)) = arr k
    simp
  have hbeg : ∀ j, i ≤ j → (x = [] ∨ i < j) → k * z ≤ bnd ps j := fun j h1 h2 => by
    rcases h2 with rfl | h2
    · have := P.al
      have := bnd_le (ps := ps) h1
      simp only [List.length_nil] at *
      omega
    · by_cases hx : x = []
      · subst hx
        have := P.al
        have := bnd_le (ps := ps) h1
        simp only [List.length_nil] at *
        omega
      · have := (P.in_ hx).2.1
        have := bnd_le (ps := ps) (i := i + 1) (j := j) h2
        omega
  have hFi : x ≠ [] → bnd ps i / z ≤ k := fun hx => Nat.div_le_of_le_mul (by have := (P.in_ hx).1; rw [Nat.mul_comm]; omega)
  have hFi' : x' ≠ [] → bnd ps i' / z ≤ k := fun hx => Nat.lt_succ_iff.1 ((Nat.div_lt_iff_lt_mul hz).2 (show bnd ps i' < (k + 1) * z by have := (Q.in_ hx).1; omega))
  have hwi : x ≠ [] → i < i' → Wt ps z arr i = (gd && arr k) := fun hx hi => by
    unfold Wt
    rw [hto i hi (P.in_ hx).2.1, show k + 1 - bnd ps i / z = (k - bnd ps i / z) + 1 by have := hFi hx; omega]
    show (alls arr (bnd ps i / z) (k - bnd ps i / z) && arr (bnd ps i / z + (k - bnd ps i / z))) = _
    rw [← hg hx, show bnd ps i / z + (k - bnd ps i / z) = k by have := hFi hx; omega]
  refine ⟨fun ha => ⟨⟨by rw [he]; exact Q, fun hx' => ?_⟩, ?_⟩, fun ha => ⟨⟨by rw [he]; exact Q, fun hx' => ?_⟩, ?_⟩⟩
  · unfold gdn
    by_cases hc : i' = i ∧ x ≠ []
    · obtain ⟨rfl, hx⟩ := hc
      rw [if_pos ⟨rfl, hx⟩, show k + 1 - bnd ps i' / z = (k - bnd ps i' / z) + 1 by have := hFi hx; omega]
      show gd = (alls arr (bnd ps i' / z) (k - bnd ps i' / z) && arr (bnd ps i' / z + (k - bnd ps i' / z)))
      rw [← hg hx, show bnd ps i' / z + (k - bnd ps i' / z) = k by have := hFi hx; omega, ha, Bool.and_true]
    · rw [if_neg hc]
      have hb : k * z ≤ bnd ps i' := hbeg i' hle (by
        by_cases hx : x = []
        · exact .inl hx
        · exact .inr (by have : i' ≠ i := fun e => hc ⟨e, hx⟩; omega))
      rw [hF _ hb (by have := (Q.in_ hx').1; omega), show k + 1 - k = 0 + 1 by omega]
      show true = (true && arr (k + 0))
      simp [ha]
  · unfold fro
    by_cases hc : gd = true ∨ x = []
    · rw [if_pos hc]
      refine sel_all (fun j h1 h2 => ?_) hle Q.le
      by_cases hj : x = [] ∨ i < j
      · rw [hnew j h2 (hbeg j h1 hj), ha]
      · have hji : j = i := by omega
        have hx : x ≠ [] := fun e => hj (.inl e)
        subst hji
        rw [hwi hx h2, ha]
        rcases hc with hc | hc
        · rw [hc]; rfl
        · exact absurd hc hx
    · rw [if_neg hc]
      have hgf : gd = false := by cases gd with | false => rfl | true => exact absurd (.inl rfl) hc
      have hx : x ≠ [] := fun e => hc (.inr e)
      by_cases hi : i < i'
      · have e1 : sel ps (Wt ps z arr) (i + 1) = sel ps (Wt ps z arr) i := sel_none (fun j h1 h2 => by
          obtain rfl : j = i := by omega
          rw [hwi hx hi, hgf]; rfl) (by omega)
        rw [← e1]
        exact sel_all (fun j h1 h2 => by rw [hnew j h2 (hbeg j (by omega) (.inr (by omega))), ha]) (by omega) Q.le
      · obtain rfl : i' = i := by omega
        have : (ps.take i').drop (i' + 1) = [] := List.drop_eq_nil_of_le (by rw [List.length_take]; omega)
        rw [this]; simp
  · rw [show k + 1 - bnd ps i' / z = (k - bnd ps i' / z) + 1 by have := hFi' hx'; omega]
    show false = (alls arr (bnd ps i' / z) (k - bnd ps i' / z) && arr (bnd ps i' / z + (k - bnd ps i' / z)))
    rw [show bnd ps i' / z + (k - bnd ps i' / z) = k by have := hFi' hx'; omega, ha, Bool.and_false]
  · refine sel_none (fun j h1 h2 => ?_) hle
    by_cases hj : x = [] ∨ i < j
    · rw [hnew j h2 (hbeg j h1 hj), ha]
    · have hji : j = i := by omega
      have hx : x ≠ [] := fun e => hj (.inl e)
      subst hji
      rw [hwi hx h2, ha, Bool.and_false]
end

/-! ### an unpacker that follows -/
/-- behind frame k of a channel that counts from st on; b: the last frame that arrived; what it would go on with is r -/
inductive Vw (s : US) (st k : Nat) (r : List Byte) : Option Nat → Prop
  | none_ (h1 : s = US0) (h2 : r = []) : Vw s st k r none
  | some_ (b : Nat) (h1 : b < k) (h2 : s.bg = true) (h3 : s.ex = (st + b + 1) % 256) (h4 : b + 1 = k → s.rs = r) (h5 : b + 1 < k → r = []) (h6 : k ≤ b + 256) : Vw s st k r (some b)
section
variable {s : US} {st k f : Nat} {r d : List Byte} {o : Option Nat}
theorem Vw.skip (h : Vw s st k r o) (hk : k + 1 ≤ 256) : Vw s st (k + 1) [] o := by
  cases h with
  | none_ h1 h2 => exact .none_ h1 rfl
  | some_ b h1 h2 h3 h4 h5 h6 => exact .some_ b (by omega) h2 h3 (fun e => by omega) (fun _ => rfl) (by omega)
/-- how many frames are missing -/
def msn (o : Option Nat) (k : Nat) : Nat := match o with | none => 0 | some b => k - b - 1
theorem Vw.take (h : Vw s st k r o) (hA : f < d.length ∨ f = 2047) (hf : f ≠ 2046) :
    Vw (tkS s (((st + k) % 256 : Nat) : Int) (f : Int) d) st (k + 1) (prs (stm r f d)).2 (some k) ∧ (tkS s (((st + k) % 256 : Nat) : Int) (f : Int) d).lo = s.lo + msn o k ∧ tkO s (((st + k) % 256 : Nat) : Int) (f : Int) d = (prs (stm r f d)).1 := by
  have hArg : Arg (((st + k) % 256 : Nat) : Int) (f : Int) d := ⟨by omega, by omega, by omega⟩
  have e2 : ((((st + k) % 256 : Nat) : Int)).toNat = (st + k) % 256 := by omega
  have e1 : flw s ((st + k) % 256) = ⟨true, (st + k + 1) % 256, s.lo + msn o k, r⟩ := by
    unfold flw
    cases h with
    | none_ h1 h2 =>
      subst h1 h2
      simp only [dst, US0, msn]
      congr 1
      omega
    | some_ b h1 h2 h3 h4 h5 h6 =>
      have hd : dst s ((st + k) % 256) = k - b - 1 := by
        unfold dst
        rw [if_pos h2, h3]
        omega
      rw [hd]
      simp only [msn]
      have e3 : ((st + k) % 256 + 1) % 256 = (st + k + 1) % 256 := by omega
      have e4 : (if k - b - 1 = 0 then s.rs else []) = r := by
        by_cases hb : b + 1 = k
        · rw [if_pos (by omega), h4 hb]
        · rw [if_neg (by omega), h5 (by omega)]
      rw [e3, e4]
  unfold tkS tkO
  rw [if_pos hArg, if_neg (by omega), if_pos hArg, if_neg (by omega), e2, e1]
  exact ⟨.some_ k (by omega) rfl rfl (fun _ => rfl) (fun h => by omega) (by omega), rfl, rfl⟩
end
end Go.Proofs.Ytcmonalnhdodmaa.Unp
