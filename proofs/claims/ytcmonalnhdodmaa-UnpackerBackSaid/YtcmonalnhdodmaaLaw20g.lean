/-
  The laws of layer 20: an Unpacker and the list of what it has handed back (Gt); packets, their stream and their boundaries as they are laid (Z1).
-/
import Derived.Test.YtcmonalnhdodmaaLaw20f
import Derived.Test.YtcmonalnhdodmaaLaw20b
import Derived.Test.YtcmonalnhdodmaaIntH
namespace Go.Proofs.Ytcmonalnhdodmaa.Unp
open Go.RowKit Go.Proofs.Ytcmonalnhdodmaa.Row Lst Ints
open Pac (bel_new)

/-- an Unpacker, and the list of the packets handed back so far -/
structure Gt (w1 w : World) (g : Nat) (F : List Nat) (s : US) (gv : Value) (got : List (List Byte)) : Prop where
  u : UL w1 w g F s
  l : ∃ E, LO w w1.heap.size 26 5 gv got E ∧ ∀ x ∈ E, x ∉ F
/-- with what Take has just handed back -/
structure Gt2 (w1 w : World) (g : Nat) (F : List Nat) (s : US) (gv : Value) (got : List (List Byte)) (R : Value) (O : List (List Byte)) : Prop where
  u : UL w1 w g F s
  l : ∃ E, LO w w1.heap.size 26 5 gv got E ∧ ∀ x ∈ E, x ∉ F
  r : ∃ E, LO w w1.heap.size 26 5 R O E ∧ ∀ x ∈ E, x ∉ F
section
variable {w1 w w' w6 : World} {g m cd n : Nat} {F E E2 : List Nat} {s s' : US} {a : Option Addr} {d : List Byte} {O got : List (List Byte)} {ct f : Int} {gv R v2 : Value}
theorem Gt.below (h : Gt w1 w g F s gv got) (k : Below w.heap.size w w') : Gt w1 w' g F s gv got := by
  obtain ⟨u, E, l, hE⟩ := h
  exact ⟨u.below k, E, l.below k, hE⟩
theorem UL.row_off {t : World} {b : Nat} {v : Value} {ls : List (List Byte)} {E : List Nat} (h : UL w1 t g F s) (l : LO t b 26 5 v ls E) : ∀ x, v.ownBlock = some x → x ∉ F := fun x hx hm => by
  obtain ⟨⟨⟨A', n', c', hc, rfl⟩, _⟩, _⟩ := h
  rcases List.mem_cons.1 hm with rfl | hm
  · exact l.row_apart hc.u (by decide) hx
  · obtain ⟨cs, hcs⟩ := hc.m.cel x hm
    exact l.row_apart hcs (by decide) hx
theorem Gt.take (h : Gt w1 w g F s gv got) (hlo : s.lo ≤ 1000000000000) (hd : Rd w a d m cd) (hm : m ≤ 1000000) (hof : 0 < m → Of w a F) (hS : tkS s ct f d = s') (hO : tkO s ct f d = O) (hn : O.length = n) :
    Calls Try.prog 11 #[.pointer (some ⟨g, 0, none⟩), .int .i64 ct, .int .i64 f, .slice a m cd] w fun e w' => ∃ A c F', e = .returned (.slice A n c) ∧ Gt2 w1 w' g F' s' gv got (.slice A n c) O ∧ ∀ x ∈ F', x ∈ F ∨ w.heap.size ≤ x := by
  subst hS hO
  obtain ⟨u, E, l, hE⟩ := h
  have hrow := u.row_off l
  have hEl := l.lt
  refine (utake_any u.p hlo hd hm hof ct f).mono ?_
  rintro e w' ⟨R, rfl, ⟨E2, F', hl, hu, hF, hE2⟩, k⟩
  obtain ⟨A, c, rfl, _⟩ := hl.len hn
  refine ⟨A, c, F', rfl, ⟨⟨hu, fun x hx => ?_, u.b.trans (k.below u.b.size u.lo)⟩, ⟨E, l.only k hrow hE, fun x hx hm => ?_⟩, ⟨E2, hl.more u.b.size, hE2⟩⟩, hF⟩
  · rcases hF x hx with q | q
    · exact u.lo x q
    · exact Nat.le_trans u.b.size q
  · rcases hF x hm with q | q
    · exact hE x hx q
    · have := (hEl x hx).2; omega
/-- what is handed back is added to the list -/
theorem Gt2.app {qs qs2 : List Qb} {row : Option Nat} (u : UL w1 w g F s) (l : LO w w1.heap.size 26 5 gv got E) (hE : ∀ x ∈ E, x ∉ F) (l2 : LO w w1.heap.size 26 5 R O E2) (hE2 : ∀ x ∈ E2, x ∉ F)
    (he : qs.map (·.l) = got) (h3 : ∀ q ∈ qs, Ow w w1.heap.size 5 q.v q.l ∧ ∀ k, q.v.ownBlock = some k → k ∈ E) (he2 : qs2.map (·.l) = O) (hq2 : ∀ q ∈ qs2, Ow w w1.heap.size 5 q.v q.l ∧ ∀ k, q.v.ownBlock = some k → k ∈ E2)
    (hrow : gv.ownBlock = row) (hg : w.grownBy w6 row) (ho : Row.Os enc 1 w6 w1.heap.size 26 v2 (qs ++ qs2)) : Gt w1 w6 g F s v2 (got ++ O) := by
  have hr := u.row_off l
  have hrl := l.row_lt
  refine ⟨u.off (Only.of_grown hg) (fun x hx hm => hr x (by rw [hrow]; simpa using hm) hx) (fun x hx => (hrl x (by rw [hrow]; simpa using hx)).1), E ++ E2, l.app (by decide) he h3 he2 hq2 l2.el hrow hg ho, fun x hx => ?_⟩
  rcases List.mem_append.1 hx with q | q
  · exact hE x q
  · exact hE2 x q
end

/-! ### packets, their stream, where they begin -/
theorem is_ints : IsInts Try.prog 40 3 := by
  obtain ⟨i, hi, hz, h1, h2⟩ := info_parts (show (Try.prog.info? 3).map (fun i => (i.zero, i.size, i.bytes)) = some (some (.int .i64 0), 1, 8) by kernel_rfl)
  exact ⟨Try.underlying40, i, hi, hz, h1, h2⟩
structure Z1 (w0 w : World) (R V B : Value) (pk : List (List Byte)) (S : List Byte) (bs : List Int) : Prop where
  lo : ∃ E, LO w w0.heap.size 26 5 R pk E ∧ ∀ x, V.ownBlock = some x → x ∉ E
  st : Ow w w0.heap.size 5 V S
  bg : On w w0.heap.size 3 B bs
  b : Below w0.heap.size w0 w
section
variable {w0 w w' w4 w6 : World} {R V B v2 : Value} {pk : List (List Byte)} {S x : List Byte} {bs bs' : List Int} {A : Option Addr} {n c : Nat} {E : List Nat} {row : Option Nat}
theorem Z1.start (w : World) : Z1 w w (.slice none 0 0) (.slice none 0 0) (.slice none 0 0) [] [] [] := ⟨⟨[], LO.nil_ _ _ _ _, fun _ hx => nomatch hx⟩, World.ownsRow_nil _ _ _ _, On.nil_ _ _ _, Below.refl _ _⟩
theorem Z1.below (h : Z1 w0 w R V B pk S bs) (k : Below w.heap.size w w') : Z1 w0 w' R V B pk S bs := by
  obtain ⟨⟨E, l, hE⟩, st, bg, b⟩ := h
  exact ⟨⟨E, l.below k, hE⟩, st.below k, bg.below k, b.trans (k.mono b.size)⟩
/-- a packet more -/
theorem Z1.addp {ob : Obj} {qs : List Qb} (st : Ow w w0.heap.size 5 V S) (bg : On w w0.heap.size 3 B bs) (b : Below w0.heap.size w0 w) (l : LO w w0.heap.size 26 5 R pk E) (hE : ∀ x, V.ownBlock = some x → x ∉ E)
    (o4 : Ow w4 w.heap.size 5 (.slice A n c) x) (hn : x.length = n) (b4 : Below w.heap.size w w4) (he : qs.map (·.l) = pk)
    (h3 : ∀ q ∈ qs, Ow (w4.alloc ob) w0.heap.size 5 q.v q.l ∧ ∀ k, q.v.ownBlock = some k → k ∈ E) (hR : R.ownBlock = row) (hg6 : (w4.alloc ob).grownBy w6 row) (ho6 : Row.Os enc 1 w6 w0.heap.size 26 v2 (qs ++ [⟨x, A, c⟩])) :
    Z1 w0 w6 v2 V B (pk ++ [x]) S bs := by
  have b5 : Below w.heap.size w (w4.alloc ob) := b4.alloc b4.size ob
  have l5 := l.below b5
  have st5 := st.below b5
  have bg5 := bg.below b5
  have k6 := Only.of_grown hg6
  have hr : ∀ i, R.ownBlock = some i → i ∈ row.toList := fun i hi => by rw [← hR, hi]; simp
  have hrow : ∀ i ∈ row.toList, R.ownBlock = some i := fun i hi => by rw [hR]; simpa using hi
  refine ⟨⟨E ++ (Value.slice A n c).ownBlock.toList, l.push1 (by decide) o4 b.size hn b4 he h3 hR hg6 ho6, fun i hi hm => ?_⟩, st5.only k6 (fun i hi hm => ?_), bg5.only k6 (fun i hi hm => ?_), (b.trans (b5.mono b.size)).trans (k6.below (b.trans (b5.mono b.size)).size (fun i hi => (l5.row_lt i (hrow i hi)).1))⟩
  · rcases List.mem_append.1 hm with q | q
    · exact hE i hi q
    · have h1 := (o4.lt i (by simpa using q)).1
      have h2 := (st.lt i hi).2
      omega
  · obtain ⟨cs, hc⟩ := own_cel st5 hi
    exact l5.row_apart hc (by decide) (hrow i hm)
  · obtain ⟨cs, hc⟩ := own_cel bg5 hi
    exact l5.row_apart hc (by decide) (hrow i hm)
/-- a number more -/
theorem Z1.addb {ob : Obj} (h : Z1 w0 w R V B pk S bs) (hB : B.ownBlock = row) (hg : (w.alloc ob).grownBy w6 row) (ho : On w6 w0.heap.size 3 v2 bs') : Z1 w0 w6 R V v2 pk S bs' := by
  obtain ⟨⟨E, l, hE⟩, st, bg, b⟩ := h
  have b5 : Below w.heap.size w (w.alloc ob) := bel_new w ob
  have l5 := l.below b5
  have st5 := st.below b5
  have bg5 := bg.below b5
  have k6 := Only.of_grown hg
  have hrow : ∀ i ∈ row.toList, ∃ cs, Cel (w.alloc ob) i 3 cs := fun i hi => own_cel bg5 (by rw [hB]; simpa using hi)
  refine ⟨⟨E, l5.only k6 (fun i hi hm => ?_) (fun i hi hm => ?_), hE⟩, st5.only k6 (fun i hi hm => ?_), ho, (b.trans (b5.mono b.size)).trans (k6.below (b.trans (b5.mono b.size)).size (fun i hi => (bg5.lt i (by rw [hB]; simpa using hi)).1))⟩
  · obtain ⟨cs, hc⟩ := hrow i hm
    exact l5.row_apart hc (by decide) hi
  · obtain ⟨cs, hc⟩ := hrow i hm
    exact l5.el_apart hc (by decide) hi
  · obtain ⟨cs, hc⟩ := hrow i hm
    exact (st5.apart hc (by decide)) hi
/-- the stream grows -/
theorem Z1.adds {S' : List Byte} (h : Z1 w0 w R V B pk S bs) (hV : V.ownBlock = row) (hg : w.grownBy w6 row) (ho : Ow w6 w0.heap.size 5 v2 S') (hv2 : v2.ownBlock = V.ownBlock ∨ v2.ownBlock = some w.heap.size) : Z1 w0 w6 R v2 B pk S' bs := by
  obtain ⟨⟨E, l, hE⟩, st, bg, b⟩ := h
  have k6 := Only.of_grown hg
  have hrow : ∀ i ∈ row.toList, V.ownBlock = some i := fun i hi => by rw [hV]; simpa using hi
  refine ⟨⟨E, l.only k6 (fun i hi hm => ?_) (fun i hi hm => hE i (hrow i hm) hi), fun i hi hm => ?_⟩, ho, bg.only k6 (fun i hi hm => ?_), b.trans (k6.below b.size (fun i hi => (st.lt i (hrow i hi)).1))⟩
  · obtain ⟨cs, hc⟩ := own_cel st (hrow i hm)
    exact l.row_apart hc (by decide) hi
  · rcases hv2 with q | q
    · exact hE i (by rw [← q]; exact hi) hm
    · rw [q] at hi
      injection hi with hi
      have := (l.lt i hm).2
      omega
  · obtain ⟨cs, hc⟩ := own_cel bg hi
    exact st.apart hc (by decide) (hrow i hm)
end
end Go.Proofs.Ytcmonalnhdodmaa.Unp
