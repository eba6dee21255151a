/-
  The law UnpackerPlays: an Unpacker beside the reference's in a variable.
-/
import Derived.Test.YtcmonalnhdodmaaLaw20b
import Derived.Test.YtcmonalnhdodmaaRef20e
import Derived.Test.YtcmonalnhdodmaaVals20
namespace Go.Proofs.Ytcmonalnhdodmaa.Unp
open Go.RowKit Go.Proofs.Ytcmonalnhdodmaa.Row Lst
open Pac (bel_new Cel.later)

theorem Ops20.below {w w' : World} {a : Option Addr} {l : List O20} (h : Ops20 w a l) (k : Below w.heap.size w w') : Ops20 w' a l := fun i v hv => by
  obtain ⟨b, off, e, hb, h1, h2, h3, h4⟩ := h i v hv
  exact ⟨b, off, e, Nat.lt_of_lt_of_le hb k.size, (k.cell (p := ⟨b, off + i * 3, none⟩) hb).trans h1, (k.cell (p := ⟨b, off + i * 3 + 1, none⟩) hb).trans h2, (k.cell (p := ⟨b, off + i * 3 + 2, none⟩) hb).trans h3, h4.later k⟩
section
variable {w w' : World} {F : List Nat} {R : Value} {ls : List (List Byte)} {X : Nat} {T : TypeId} {cs : Array Value}
theorem LK.cons (h : LK w F R ls) (hx : Cel w X T cs) (h1 : 26 ≠ T) (h2 : 5 ≠ T) : LK w (X :: F) R ls := by
  obtain ⟨base, E, l, hE, hR⟩ := h
  refine ⟨base, E, l, fun x hm hc => ?_, fun x hm hc => ?_⟩
  · rcases List.mem_cons.1 hc with rfl | hc
    · exact l.el_apart hx h2 hm
    · exact hE x hm hc
  · rcases List.mem_cons.1 hc with rfl | hc
    · exact l.row_apart hx h1 hm
    · exact hR x hm hc
end

theorem stm_len (r : List Byte) (f : Int) (d : List Byte) : (stm r f d).length ≤ r.length + d.length := by
  unfold stm
  split
  · rw [List.length_append]; omega
  · split
    · simp
    · rw [List.length_drop]; omega
theorem tkO_len (s : US) (c f : Int) (d : List Byte) : (tkO s c f d).length ≤ s.rs.length + d.length := by
  unfold tkO
  split
  · split
    · simp
    · have h1 := prs_len (stm (flw s c.toNat).rs f d)
      have h2 := stm_len (flw s c.toNat).rs f d
      have h3 : (flw s c.toNat).rs.length ≤ s.rs.length := by
        unfold flw
        simp only
        split
        · omega
        · simp
      omega
  · simp
theorem Of_at {w : World} {b k : Nat} {F : List Nat} (h : b ∉ F) (hb : b < w.heap.size) : Of w (some ⟨b, k, none⟩) F := fun x hx => by
  obtain rfl : x = b := by simpa [blkA] using hx
  exact ⟨h, hb⟩
/-- what an address leads to lies in blocks that were there -/
theorem Of_arg {w w' : World} {a : Option Addr} {l : List Byte} {n c : Nat} {F : List Nat} (h : Rd w a l n c) (hs : w.heap.size ≤ w'.heap.size) (hF : ∀ x ∈ F, w.heap.size ≤ x) : 0 < n → Of w' a F := fun h0 x hx => by
  have := Rd.blk h h0 x hx
  exact ⟨fun hm => by have := hF x hm; omega, by omega⟩
/-- an Unpacker (state s) and a variable X that holds the reference's (r) -/
structure PV (w0 w : World) (g : Nat) (F : List Nat) (X : Nat) (r : RU) (A : Option Addr) (n c : Nat) (s : US) : Prop where
  u : UL w0 w g F s
  x : Cel w X 28 (r.cs A n c)
  rd : Rd w A r.rs n c
  af : ∀ x ∈ blkA A, x ∉ F ∧ x ≠ X ∧ x < w.heap.size
  us : r.us = s
  ok : r.Ok
  lo : w0.heap.size ≤ X
  xf : X ∉ F
section
variable {w0 w w' : World} {g X n c n' c' m cd N : Nat} {F F' : List Nat} {r r' : RU} {A A' a : Option Addr} {s s' : US} {d : List Byte} {ct f : Int} {O : List (List Byte)} {R : Value}
theorem PV.below (h : PV w0 w g F X r A n c s) (k : Below w.heap.size w w') : PV w0 w' g F X r A n c s :=
  ⟨h.u.below k, Cel.later h.x k, h.rd.later k, fun x hx => ⟨(h.af x hx).1, (h.af x hx).2.1, Nat.lt_of_lt_of_le (h.af x hx).2.2 k.size⟩, h.us, h.ok, h.lo, h.xf⟩
/-- Take of the Unpacker; the reference stays behind -/
theorem PV.take1 (h : PV w0 w g F X r A n c s) (hlo : s.lo ≤ 1000000000000) (hd : Rd w a d m cd) (hm : m ≤ 1000000) (hof : 0 < m → Of w a F) (hO : tkO s ct f d = O) (hN : O.length = N) :
    Calls Try.prog 11 #[.pointer (some ⟨g, 0, none⟩), .int .i64 ct, .int .i64 f, .slice a m cd] w fun e w' => ∃ Ar cr F', e = .returned (.slice Ar N cr) ∧ LK w' (X :: F') (.slice Ar N cr) O ∧ UL w0 w' g F' (tkS s ct f d) ∧
      Cel w' X 28 (r.cs A n c) ∧ Rd w' A r.rs n c ∧ (∀ x ∈ blkA A, x ∉ F' ∧ x ≠ X ∧ x < w'.heap.size) ∧ X ∉ F' ∧ Only F w w' := by
  refine (h.u.take hlo hd hm hof rfl hO hN).mono ?_
  rintro e w' ⟨Ar, cr, F', rfl, K, U, k, hn⟩
  have hx := h.x.only k h.xf
  have hXl := h.x.lt
  refine ⟨Ar, cr, F', rfl, K.cons hx (by decide) (by decide), U, hx, Rd.put h.rd k (fun x hx => (h.af x hx).1), fun x hx => ⟨fun hm => ?_, (h.af x hx).2.1, Nat.lt_of_lt_of_le (h.af x hx).2.2 k.size⟩, fun hm => ?_, k⟩
  · rcases hn x hm with q | q
    · exact (h.af x hx).1 q
    · have := (h.af x hx).2.2; omega
  · rcases hn X hm with q | q
    · exact h.xf q
    · omega
/-- a clone goes on; the old one is played once more -/
theorem PV.clone1 (h : PV w0 w g F X r A n c s) :
    Calls Try.prog 10 #[.pointer (some ⟨g, 0, none⟩)] w fun e w' => ∃ q G, e = .returned (.pointer (some ⟨q, 0, none⟩)) ∧ PV w0 w' q G X r A n c s ∧ UL w0 w' g F s ∧ (∀ x ∈ G, w.heap.size ≤ x) ∧ (∀ x ∈ G, x ∉ F) ∧ (∀ x ∈ blkA A, x ∉ F) ∧ X ∉ F ∧ Below w.heap.size w w' := by
  refine (h.u.clone).mono ?_
  rintro e w' ⟨q, G, rfl, U, hn, k⟩
  have hXl := h.x.lt
  exact ⟨q, G, rfl, ⟨U, Cel.later h.x k, h.rd.later k, fun x hx => ⟨fun hm => by have := hn x hm; have := (h.af x hx).2.2; omega, (h.af x hx).2.1, Nat.lt_of_lt_of_le (h.af x hx).2.2 k.size⟩, h.us, h.ok, h.lo, fun hm => by have := hn X hm; omega⟩,
    h.u.below k, hn, fun x hx hm => by have := hn x hx; have := h.u.p.lt x hm; omega, fun x hx => (h.af x hx).1, h.xf, k⟩
theorem PV.off {S : List Nat} (h : PV w0 w g F X r A n c s) (k : Only S w w') (h1 : ∀ x ∈ F, x ∉ S) (h2 : ∀ x ∈ blkA A, x ∉ S) (h3 : X ∉ S) (h4 : ∀ x ∈ S, w0.heap.size ≤ x) : PV w0 w' g F X r A n c s :=
  ⟨h.u.off k h1 h4, h.x.only k h3, Rd.put h.rd k h2, fun x hx => ⟨(h.af x hx).1, (h.af x hx).2.1, Nat.lt_of_lt_of_le (h.af x hx).2.2 k.size⟩, h.us, h.ok, h.lo, h.xf⟩
/-- the variable is set -/
theorem PV.store {w2 : World} (hU : UL w0 w g F (tkS s ct f d)) (hx : Cel w X 28 (r.cs A n c)) (haf : ∀ x ∈ blkA A, x ∉ F ∧ x ≠ X ∧ x < w.heap.size) (hlo : w0.heap.size ≤ X) (hxf : X ∉ F)
    (hX : XtOut w A (tkS s ct f d) O r' A' n' c' R w') (k : Below w'.heap.size w' w2) :
    PV w0 (put5 w2 X (.bool r'.st) (.int .i64 (r'.nx : Int)) (.int .i64 (r'.lo : Int)) (.bool r'.sp) (.slice A' n' c')) g F X r' A' n' c' (tkS s ct f d) ∧ LK (put5 w2 X (.bool r'.st) (.int .i64 (r'.nx : Int)) (.int .i64 (r'.lo : Int)) (.bool r'.sp) (.slice A' n' c')) [X] R O := by
  have b := hX.b.trans (k.mono hX.b.size)
  have hx2 := Cel.later hx b
  have hXl := hx.lt
  have k5 := put5_only w2 X (.bool r'.st) (.int .i64 (r'.nx : Int)) (.int .i64 (r'.lo : Int)) (.bool r'.sp) (.slice A' n' c')
  have hFl := hU.p.lt
  have haf2 : ∀ x ∈ blkA A', x ∉ F ∧ x ≠ X ∧ x < w2.heap.size := fun x hx' => by
    have hlt : x < w2.heap.size := by
      rcases hX.ap x hx' with q | q
      · have := (haf x q).2.2; have := b.size; omega
      · have := k.size; omega
    rcases hX.ap x hx' with q | q
    · exact ⟨(haf x q).1, (haf x q).2.1, hlt⟩
    · exact ⟨fun hm => by have := hFl x hm; omega, by omega, hlt⟩
  obtain ⟨E, hlo2⟩ := hX.lo
  refine ⟨⟨(hU.below b).off k5 (fun x hx hm => hxf (List.mem_singleton.1 hm ▸ hx)) (fun x hx => by rw [List.mem_singleton.1 hx]; exact hlo), put5_cel hx2 _ _ _ _ _, Rd.put (hX.rd.later k) k5 (fun x hx hm => (haf2 x hx).2.1 (List.mem_singleton.1 hm)), fun x hx => ⟨(haf2 x hx).1, (haf2 x hx).2.1, Nat.lt_of_lt_of_le (haf2 x hx).2.2 k5.size⟩, hX.us, hX.ok, hlo, hxf⟩, ?_⟩
  have K : LK w' [] R O := ⟨_, E, hlo2, (fun _ _ hm => nomatch hm), (fun _ _ hm => nomatch hm)⟩
  exact ((K.below k).cons hx2 (by decide) (by decide)).next k5 (fun x hx => .inl hx) (fun x hx => .inl hx)
end
end Go.Proofs.Ytcmonalnhdodmaa.Unp
