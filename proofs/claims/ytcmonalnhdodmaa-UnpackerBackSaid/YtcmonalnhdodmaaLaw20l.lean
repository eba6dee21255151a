/-
  The law UnpackerBack: the packets and which of them are idle as they are laid (Z2), the list of the packets that are wanted (Wn).
-/
import Derived.Test.YtcmonalnhdodmaaLaw20k
import Derived.Test.YtcmonalnhdodmaaLaw20h
import Derived.Test.YtcmonalnhdodmaaUnpRun
namespace Go.Proofs.Ytcmonalnhdodmaa.Unp
open Go.RowKit Go.Proofs.Ytcmonalnhdodmaa.Row Lst Ints
open Pac (bel_new)

/-- whether packet k is to be idle -/
def idlb (ap : List Byte) (k : Nat) : Bool := decide (k < ap.length) && decide ((ap.getD k 0#8).toNat % 4 = 0)
/-- its application process -/
def gid (ap : List Byte) (k : Nat) : Nat := if idlb ap k then 2047 else 100 + k
def ids (ap : List Byte) (k : Nat) : List Bool := (List.range k).map (idlb ap)
theorem ids_succ (ap : List Byte) (k : Nat) : ids ap (k + 1) = ids ap k ++ [idlb ap k] := by unfold ids; rw [List.range_succ, List.map_append]; rfl
theorem ids_len (ap : List Byte) (k : Nat) : (ids ap k).length = k := by simp [ids]
theorem ids_at {ap : List Byte} {k i : Nat} (h : i < k) : (ids ap k)[i]? = some (idlb ap i) := by unfold ids; rw [List.getElem?_map, List.getElem?_range h]; rfl
theorem gid_le {ap : List Byte} {k : Nat} (h : k < 40) : gid ap k ≤ 2047 := by unfold gid; split <;> omega
theorem gid_ni {ap : List Byte} {k : Nat} (h : k < 40) : (!decide (gid ap k = 2047)) = !idlb ap k := by
  unfold gid
  cases idlb ap k with
  | true => rfl
  | false => simp; omega

def encB (b : Bool) : List Value := [.bool b]
theorem encB_ok : Enc encB 1 := ⟨fun _ => rfl, fun x u hu => by simp only [encB, List.mem_cons, List.not_mem_nil, or_false] at hu; subst hu; rfl, by decide⟩
theorem is_bools : IsRows Try.prog 38 4 (.bool false) 1 1 := IsRows.of Try.underlying38 rfl (by kernel_rfl)

structure Z2 (w0 w : World) (R D : Value) (pk : List (List Byte)) (ds : List Bool) : Prop where
  lo : ∃ E, LO w w0.heap.size 26 5 R pk E
  di : Row.Os encB 1 w w0.heap.size 4 D ds
  b : Below w0.heap.size w0 w
section
variable {w0 w w' w4 w6 : World} {R D v2 : Value} {pk : List (List Byte)} {x : List Byte} {ds ds' : List Bool} {A : Option Addr} {n c : Nat} {E : List Nat} {row : Option Nat}
theorem Z2.start (w : World) : Z2 w w (.slice none 0 0) (.slice none 0 0) [] [] := ⟨⟨[], LO.nil_ _ _ _ _⟩, Row.Os.nil_ _ _ _, Below.refl _ _⟩
theorem Z2.below (h : Z2 w0 w R D pk ds) (k : Below w.heap.size w w') : Z2 w0 w' R D pk ds := by
  obtain ⟨⟨E, l⟩, di, b⟩ := h
  exact ⟨⟨E, l.below k⟩, di.below k, b.trans (k.mono b.size)⟩
/-- a packet more -/
theorem Z2.addp {ob : Obj} {qs : List Qb} (di : Row.Os encB 1 w w0.heap.size 4 D ds) (b : Below w0.heap.size w0 w) (l : LO w w0.heap.size 26 5 R pk E)
    (o4 : Ow w4 w.heap.size 5 (.slice A n c) x) (hn : x.length = n) (b4 : Below w.heap.size w w4) (he : qs.map (·.l) = pk)
    (h3 : ∀ q ∈ qs, Ow (w4.alloc ob) w0.heap.size 5 q.v q.l ∧ ∀ k, q.v.ownBlock = some k → k ∈ E) (hR : R.ownBlock = row) (hg6 : (w4.alloc ob).grownBy w6 row) (ho6 : Row.Os enc 1 w6 w0.heap.size 26 v2 (qs ++ [⟨x, A, c⟩])) :
    Z2 w0 w6 v2 D (pk ++ [x]) ds := by
  have b5 : Below w.heap.size w (w4.alloc ob) := b4.alloc b4.size ob
  have l5 := l.below b5
  have di5 := di.below b5
  have k6 := Only.of_grown hg6
  have hrow : ∀ i ∈ row.toList, R.ownBlock = some i := fun i hi => by rw [hR]; simpa using hi
  refine ⟨⟨E ++ (Value.slice A n c).ownBlock.toList, l.push1 (by decide) o4 b.size hn b4 he h3 hR hg6 ho6⟩, di5.only k6 (fun i hi hm => ?_), (b.trans (b5.mono b.size)).trans (k6.below (b.trans (b5.mono b.size)).size (fun i hi => (l5.row_lt i (hrow i hi)).1))⟩
  obtain ⟨cs, hc⟩ := own_cel di5 hi
  exact l5.row_apart hc (by decide) (hrow i hm)
/-- a flag more -/
theorem Z2.addd {ob : Obj} (h : Z2 w0 w R D pk ds) (hD : D.ownBlock = row) (hg : (w.alloc ob).grownBy w6 row) (ho : Row.Os encB 1 w6 w0.heap.size 4 v2 ds') : Z2 w0 w6 R v2 pk ds' := by
  obtain ⟨⟨E, l⟩, di, b⟩ := h
  have b5 : Below w.heap.size w (w.alloc ob) := bel_new w ob
  have l5 := l.below b5
  have di5 := di.below b5
  have k6 := Only.of_grown hg
  have hrow : ∀ i ∈ row.toList, ∃ cs, Cel (w.alloc ob) i 4 cs := fun i hi => own_cel di5 (by rw [hD]; simpa using hi)
  refine ⟨⟨E, l5.only k6 (fun i hi hm => ?_) (fun i hi hm => ?_)⟩, ho, (b.trans (b5.mono b.size)).trans (k6.below (b.trans (b5.mono b.size)).size (fun i hi => (di5.lt i (by rw [hD]; simpa using hi)).1))⟩
  · obtain ⟨cs, hc⟩ := hrow i hm
    exact l5.row_apart hc (by decide) hi
  · obtain ⟨cs, hc⟩ := hrow i hm
    exact l5.el_apart hc (by decide) hi
end

theorem sel_len (ps : List (List Byte)) (W : Nat → Bool) (j : Nat) : (sel ps W j).length ≤ j := by
  induction j with
  | zero => exact Nat.le_refl _
  | succ j ih =>
    rw [sel_succ, List.length_append]
    split
    · simp only [List.length_cons, List.length_nil]; omega
    · simp only [List.length_nil]; omega
/-- a list of packets that lie below w6's end -/
structure Wn (w6 w : World) (v : Value) (ls : List (List Byte)) : Prop where
  q : ∃ qs : List Qb, qs.map (·.l) = ls ∧ Row.Os enc 1 w w6.heap.size 26 v qs ∧ ∀ q ∈ qs, Dt w6 w6.heap.size q.l q.a q.c
  b : Below w6.heap.size w6 w
section
variable {w6 w w' : World} {v v2 : Value} {ls : List (List Byte)} {x : List Byte} {a : Option Addr} {c n : Nat} {row : Option Nat} {qs : List Qb}
theorem Wn.start (w6 : World) : Wn w6 w6 (.slice none 0 0) [] := ⟨⟨[], rfl, Row.Os.nil_ _ _ _, fun _ h => nomatch h⟩, Below.refl _ _⟩
theorem Wn.add {ob : Obj} (b : Below w6.heap.size w6 w) (he : qs.map (·.l) = ls) (hv : Row.Os enc 1 w w6.heap.size 26 v qs) (h3 : ∀ q ∈ qs, Dt w6 w6.heap.size q.l q.a q.c) (hd : Dt w6 w6.heap.size x a c) (hr : v.ownBlock = row) (hg : (w.alloc ob).grownBy w' row) (ho : Row.Os enc 1 w' w6.heap.size 26 v2 (qs ++ [⟨x, a, c⟩])) : Wn w6 w' v2 (ls ++ [x]) := by
  refine ⟨⟨_, by rw [List.map_append, he]; rfl, ho, fun q hq => ?_⟩, (b.trans ((bel_new w ob).mono b.size)).trans ((Only.of_grown hg).below (b.trans ((bel_new w ob).mono b.size)).size (fun i hi => (hv.lt i (by rw [hr]; simpa using hi)).1))⟩
  rcases List.mem_append.1 hq with h | h
  · exact h3 q h
  · rw [List.mem_singleton.1 h]; exact hd
theorem Wn.list (h : Wn w6 w v ls) (hn : ls.length = n) : ∃ A c, v = .slice A n c ∧ LS w w.heap.size A ls := by
  obtain ⟨⟨qs, rfl, ho, h3⟩, b⟩ := h
  obtain ⟨A, c, hv, hr, _⟩ := ho.reads_len enc_ok (n := n) (by rw [List.length_map] at hn; exact hn)
  exact ⟨A, c, hv, qs, rfl, hr, fun q hq => ((h3 q hq).below b).more b.size⟩
end

theorem CutOut.later {w0 w w' : World} {ps : List (List Byte)} {z st n NF : Nat} {AF A1 A2 : Option Addr} (h : CutOut w0 w ps z st n NF AF A1 A2) (k : Below w.heap.size w w') : CutOut w0 w' ps z st n NF AF A1 A2 := by
  obtain ⟨h1, ⟨fs, h2, h3, h4⟩, h5, h6, h7⟩ := h
  exact ⟨h1, ⟨fs, h2, (h3.below k).more k.size, fun j o ho => (h4 j o ho).later k⟩, (h5.below k).more k.size, (h6.below k).more k.size, h7.trans (k.mono h7.size)⟩
/-- the last frame that has arrived, as the law keeps it -/
def bef (o : Option Nat) : Int := match o with | none => -1 | some b => (b : Int)
/-- what is known behind cut -/
structure Bk (w w6 : World) (ps : List (List Byte)) (ap pt : List Byte) (z st n np cp NF : Nat) (AR AD AF A1 A2 Ap : Option Addr) : Prop where
  wp : ∀ p ∈ ps, Wp p
  len : ps.length = n
  n40 : n ≤ 40
  idle : ∀ i, i < n → ni (ps.getD i []) = !idlb ap i
  fl : ps.flatten.length ≤ 2640
  z1 : 1 ≤ z
  z2 : z ≤ 60
  lR : LS w6 w6.heap.size AR ps
  rD : Row.Rs encB 1 w6 w6.heap.size AD (ids ap n)
  cu : CutOut w w6 ps z st n NF AF A1 A2
  rp : Rd w6 Ap pt np cp
  np30 : np ≤ 30
section
variable {w w6 : World} {ps : List (List Byte)} {ap pt : List Byte} {z st n np cp NF i : Nat} {AR AD AF A1 A2 Ap : Option Addr}
theorem Bk.flag (h : Bk w w6 ps ap pt z st n np cp NF AR AD AF A1 A2 Ap) (hi : i < n) : ∃ b off, AD = some ⟨b, off, none⟩ ∧ b < w6.heap.size ∧ w6.cell? ⟨b, off + i, none⟩ = some (.bool (idlb ap i)) := by
  obtain ⟨b, off, e, hb, hc⟩ := h.rD.at_ (i := i) (by rw [ids_len]; exact hi)
  have h2 := hc 0 (.bool (idlb ap i)) (by
    have := ids_at (ap := ap) (k := n) hi
    rw [List.getElem?_eq_getElem (by rw [ids_len]; exact hi)] at this
    injection this with this
    rw [this]; rfl)
  exact ⟨b, off, e, hb, by simpa using h2⟩
theorem Bk.from_ (h : Bk w w6 ps ap pt z st n np cp NF AR AD AF A1 A2 Ap) (hi : i < n) : ∃ b off, A1 = some ⟨b, off, none⟩ ∧ b < w6.heap.size ∧ w6.cell? ⟨b, off + i, none⟩ = some (.int .i64 ((bnd ps i / z : Nat) : Int)) := by
  obtain ⟨b, off, e, hb, hc⟩ := h.cu.fr'.at_ (k := i) (by rw [frs_len]; exact hi)
  have := frs_at (ps := ps) (z := z) (k := n) hi
  rw [List.getElem?_eq_getElem (by rw [frs_len]; exact hi)] at this
  injection this with this
  rw [this] at hc
  exact ⟨b, off, e, hb, hc⟩
theorem Bk.until_ (h : Bk w w6 ps ap pt z st n np cp NF AR AD AF A1 A2 Ap) (hi : i < n) : ∃ b off, A2 = some ⟨b, off, none⟩ ∧ b < w6.heap.size ∧ w6.cell? ⟨b, off + i, none⟩ = some (.int .i64 (((bnd ps (i + 1) - 1) / z : Nat) : Int)) := by
  obtain ⟨b, off, e, hb, hc⟩ := h.cu.to'.at_ (k := i) (by rw [tos_len]; exact hi)
  have := tos_at (ps := ps) (z := z) (k := n) hi
  rw [List.getElem?_eq_getElem (by rw [tos_len]; exact hi)] at this
  injection this with this
  rw [this] at hc
  exact ⟨b, off, e, hb, hc⟩
end
end Go.Proofs.Ytcmonalnhdodmaa.Unp
