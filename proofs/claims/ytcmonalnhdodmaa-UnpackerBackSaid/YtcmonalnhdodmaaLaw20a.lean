/-
  The laws of layer 20: an Unpacker in play (UL), a list of packets that is kept beside it (LK), a list of one packet, the chapter's examples.
-/
import Derived.Test.YtcmonalnhdodmaaUnpW4
import Derived.Test.YtcmonalnhdodmaaRef20a
namespace Go.Proofs.Ytcmonalnhdodmaa.Unp
open Go.RowKit Go.Proofs.Ytcmonalnhdodmaa.Row Lst
open Pac (bel_new siE tot)

theorem tk_of {s : US} {c f : Int} {d X r : List Byte} {O : List (List Byte)} (hA : Arg c f d) (hf : f ≠ 2046) (hs : stm (flw s c.toNat).rs f d = X) (hp : prs X = (O, r)) :
    tkS s c f d = ⟨true, (c.toNat + 1) % 256, s.lo + dst s c.toNat, r⟩ ∧ tkO s c f d = O := by
  unfold tkS tkO
  rw [if_pos hA, if_neg hf, if_pos hA, if_neg hf, hs, hp]
  exact ⟨rfl, rfl⟩

/-- a list of byte strings that is kept: none of its blocks is among F -/
structure LK (w : World) (F : List Nat) (R : Value) (ls : List (List Byte)) : Prop where
  ex : ∃ base E, LO w base 26 5 R ls E ∧ (∀ x ∈ E, x ∉ F) ∧ ∀ x, R.ownBlock = some x → x ∉ F
section
variable {w w' : World} {F F' S : List Nat} {R : Value} {ls : List (List Byte)} {n c : Nat} {A : Option Addr}
theorem LK.next (h : LK w F R ls) (k : Only S w w') (hS : ∀ x ∈ S, x ∈ F ∨ w.heap.size ≤ x) (hF : ∀ x ∈ F', x ∈ F ∨ w.heap.size ≤ x) : LK w' F' R ls := by
  obtain ⟨base, E, h1, h2, h3⟩ := h
  have hE := h1.lt
  have hR := h1.row_lt
  refine ⟨base, E, h1.only k (fun i hi hm => ?_) (fun i hi hm => ?_), fun x hx hm => ?_, fun x hx hm => ?_⟩
  · rcases hS i hm with q | q
    · exact h3 i hi q
    · have := (hR i hi).2; omega
  · rcases hS i hm with q | q
    · exact h2 i hi q
    · have := (hE i hi).2; omega
  · rcases hF x hm with q | q
    · exact h2 x hx q
    · have := (hE x hx).2; omega
  · rcases hF x hm with q | q
    · exact h3 x hx q
    · have := (hR x hx).2; omega
theorem LK.below (h : LK w F R ls) (k : Below w.heap.size w w') : LK w' F R ls := h.next (S := []) (Only.of_below k) (by simp) (fun _ hx => .inl hx)
theorem LK.reads (h : LK w F (.slice A n c) ls) (hn : ls.length = n) : LS w w.heap.size A ls := by
  obtain ⟨base, E, h1, _⟩ := h
  obtain ⟨A', c', he, hl, _⟩ := h1.len hn
  cases he
  exact hl
theorem LS_one {a : Option Addr} {l : List Byte} {m k : Nat} (h : Rd w a l m k) : LS (w.alloc (.cells #[.slice a m k] 26)) (w.alloc (.cells #[.slice a m k] 26)).heap.size (some ⟨w.heap.size, 0, none⟩) [l] := by
  have hl := h.len
  subst hl
  refine ⟨[⟨l, a, k⟩], rfl, ?_, fun q hq => ?_⟩
  · have := Rs_new1 enc_ok w 26 ⟨l, a, k⟩ #[.slice a l.length k] rfl
    rw [World.size_alloc]
    exact this
  · obtain rfl := List.mem_singleton.1 hq
    have b := bel_new w (.cells #[.slice a l.length k] 26)
    exact ⟨(h.bs.below b).more b.size, h.nil, h.le, h.max⟩
theorem Same_of (w : World) {A1 A2 : Option Addr} {c1 c2 : Nat} (h1 : LS w w.heap.size A1 ls) (h2 : LS w w.heap.size A2 ls) (hn : ls.length = n) (hm : n ≤ 10000000) :
    Calls Try.prog 13 #[.slice A1 n c1, .slice A2 n c2] w fun e w' => e = .returned (.bool true) ∧ Below w.heap.size w w' := xsame_eq ls n c1 c2 A1 A2 w (Lib.hid hn) h1 h2 hm
end

/-- an Unpacker in play: what lies below w0's blocks is as it was -/
structure UL (w0 w : World) (g : Nat) (F : List Nat) (s : US) : Prop where
  p : UW w g F s
  lo : ∀ x ∈ F, w0.heap.size ≤ x
  b : Below w0.heap.size w0 w
section
variable {w0 w w' : World} {g m cd n : Nat} {F F2 : List Nat} {s s' : US} {a : Option Addr} {d : List Byte} {O : List (List Byte)} {ct f : Int}
theorem UL.below (h : UL w0 w g F s) (k : Below w.heap.size w w') : UL w0 w' g F s := ⟨h.p.below k, h.lo, h.b.trans (k.mono h.b.size)⟩
theorem UL.off (h : UL w0 w g F s) (k : Only F2 w w') (hd : ∀ x ∈ F, x ∉ F2) (h2 : ∀ x ∈ F2, w0.heap.size ≤ x) : UL w0 w' g F s := ⟨h.p.only k hd, h.lo, h.b.trans (k.below h.b.size h2)⟩
theorem UL.new {w0 w : World} (b : Below w0.heap.size w0 w) :
    Calls Try.prog 9 #[] w fun e w' => ∃ g F, e = .returned (.pointer (some ⟨g, 0, none⟩)) ∧ UL w0 w' g F US0 ∧ Below w.heap.size w w' ∧ ∀ x ∈ F, w.heap.size ≤ x := by
  refine (unew_any w).mono ?_
  rintro e w' ⟨rfl, p, k⟩
  exact ⟨_, _, rfl, ⟨p, by simpa using b.size, b.trans (k.mono b.size)⟩, k, by simp⟩
theorem UL.take (h : UL w0 w g F s) (hlo : s.lo ≤ 1000000000000) (hd : Rd w a d m cd) (hm : m ≤ 1000000) (hof : 0 < m → Of w a F) (hS : tkS s ct f d = s') (hO : tkO s ct f d = O) (hn : O.length = n) :
    Calls Try.prog 11 #[.pointer (some ⟨g, 0, none⟩), .int .i64 ct, .int .i64 f, .slice a m cd] w fun e w' => ∃ A c F', e = .returned (.slice A n c) ∧ LK w' F' (.slice A n c) O ∧ UL w0 w' g F' s' ∧ Only F w w' ∧ ∀ x ∈ F', x ∈ F ∨ w.heap.size ≤ x := by
  subst hS hO
  refine (utake_any h.p hlo hd hm hof ct f).mono ?_
  rintro e w' ⟨R, rfl, ⟨E, F', hl, hu, hF, hE⟩, k⟩
  obtain ⟨A, c, rfl, _⟩ := hl.len hn
  refine ⟨A, c, F', rfl, ⟨_, E, hl, hE, fun x hx hm => ?_⟩, ⟨hu, fun x hx => ?_, h.b.trans (k.below h.b.size h.lo)⟩, k, hF⟩
  · obtain ⟨⟨A', n', c', hc, rfl⟩, _⟩ := hu
    rcases List.mem_cons.1 hm with rfl | hm
    · exact hl.row_apart hc.u (by decide) hx
    · obtain ⟨cs, hcs⟩ := hc.m.cel x hm
      exact hl.row_apart hcs (by decide) hx
  · rcases hF x hx with q | q
    · exact h.lo x q
    · exact Nat.le_trans h.b.size q
theorem UL.lost (h : UL w0 w g F s) : Calls Try.prog 14 #[.pointer (some ⟨g, 0, none⟩)] w fun e w' => e = .returned (.int .i64 (s.lo : Int)) ∧ w = w' := ulost_any h.p
theorem UL.clone (h : UL w0 w g F s) :
    Calls Try.prog 10 #[.pointer (some ⟨g, 0, none⟩)] w fun e w' => ∃ g' F', e = .returned (.pointer (some ⟨g', 0, none⟩)) ∧ UL w0 w' g' F' s ∧ (∀ x ∈ F', w.heap.size ≤ x) ∧ Below w.heap.size w w' := by
  refine (uclone_any h.p).mono ?_
  rintro e w' ⟨g', F', rfl, p, hn, k⟩
  exact ⟨g', F', rfl, ⟨p, fun x hx => Nat.le_trans h.b.size (hn x hx), h.b.trans (k.mono h.b.size)⟩, hn, k⟩
end

theorem Of_blk {w : World} {b k : Nat} {F : List Nat} (h : ∀ x ∈ F, b < x) (hb : b < w.heap.size) : Of w (some ⟨b, k, none⟩) F := fun x hx => by
  obtain rfl : x = b := by simpa [blkA] using hx
  exact ⟨fun hm => by have := h x hm; omega, hb⟩
/-! ### the chapter's examples -/
def P20 : List Byte := [8#8, 1#8, 192#8, 0#8, 0#8, 0#8, 170#8]
def Q20 : List Byte := [8#8, 1#8, 192#8, 1#8, 0#8, 1#8, 187#8, 204#8]
def S20 : List Byte := P20 ++ Q20
def sA : US := ⟨true, 1, 0, (S20.drop 0).take 5⟩
def sB : US := ⟨true, 2, 0, [8#8, 1#8, 192#8]⟩
def sC : US := ⟨true, 3, 0, []⟩
def sD : US := ⟨true, 3, 1, []⟩
theorem t1_20 : tkS US0 0 0 ((S20.drop 0).take 5) = sA ∧ tkO US0 0 0 ((S20.drop 0).take 5) = [] :=
  tk_of (X := (S20.drop 0).take 5) (r := (S20.drop 0).take 5) (by decide) (by decide) (by decide) (prs_few (by decide))
theorem t2_20 : tkS sA 1 2 ((S20.drop 5).take 5) = sB ∧ tkO sA 1 2 ((S20.drop 5).take 5) = [P20] :=
  tk_of (X := (S20.drop 0).take 10) (r := [8#8, 1#8, 192#8]) (by decide) (by decide) (by decide +kernel) (by
    rw [prs_one (by decide +kernel) (by decide +kernel), prs_few (by decide +kernel)]; decide +kernel)
theorem prs_Q : prs Q20 = ([Q20], []) := by rw [prs_one (by decide +kernel) (by decide +kernel), prs_few (by decide +kernel)]; decide +kernel
theorem t3_20 : tkS sB 2 2047 ((S20.drop 10).take 5) = sC ∧ tkO sB 2 2047 ((S20.drop 10).take 5) = [Q20] :=
  tk_of (X := Q20) (r := []) (by decide) (by decide) (by decide +kernel) prs_Q
theorem t4_20 : tkS US0 1 2 ((S20.drop 5).take 5) = sB ∧ tkO US0 1 2 ((S20.drop 5).take 5) = [] :=
  tk_of (X := [8#8, 1#8, 192#8]) (r := [8#8, 1#8, 192#8]) (by decide) (by decide) (by decide +kernel) (prs_few (by decide))
theorem t5_20 : tkS sA 2 2047 ((S20.drop 10).take 5) = sD ∧ tkO sA 2 2047 ((S20.drop 10).take 5) = [] :=
  tk_of (X := []) (r := []) (by decide) (by decide) (by decide +kernel) (prs_few (by decide))
end Go.Proofs.Ytcmonalnhdodmaa.Unp
