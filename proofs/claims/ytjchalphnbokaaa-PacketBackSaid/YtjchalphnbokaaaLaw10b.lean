/-
  The walk of the law PacketEncodes.
-/
import Derived.Test.YtjchalphnbokaaaLaw10a
import Derived.Deep.RegionHeld3
namespace Go.Proofs.Ytjchalphnbokaaa.Pac
open Go.RowKit

theorem conv_later {w : World} {A : Option Addr} {l : List Byte} {n c : Nat} (hl : l.length = n) (hb : Bs w w.heap.size A l) (hn : A = none → c = 0) (p : Later w) :
    (convert 22 9 (.slice A n c)).run Try.prog p.W = .ok (.string (str l)) p.W := by
  subst hl
  exact run_str p.W is_bytes Try.underlying9 (hb.below p.h) hn

set_option maxHeartbeats 4000000 in
theorem packetEncodes_walk (com sec : Bool) (ap fl ct : Int) (a : Option Addr) (l : List Byte) (n c : Nat) (w : World) (hl : Hid (l.length = n)) (hb : Bs w w.heap.size a l) (hn : a = none → c = 0) (hm : n ≤ maxLen) :
    Calls Try.prog 3 #[.agg #[.bool com, .bool sec, .int .i64 ap, .int .i64 fl, .int .i64 ct, .slice a n c]] w fun e w' => e = .returned (.bool true) ∧ Below w.heap.size w w' := by
  have x1 := fun W hB => encode_any com sec ap fl ct a l n c W hl hB hn hm
  have x2 := fun W hB => xencode_any com sec ap fl ct a l n c W hl hB hn hm
  have x3 := fun W hB => valid_any com sec ap fl ct a l n c W hl hB hm
  have x4 := fun W hB => xvalid_any com sec ap fl ct a l n c W hl hB hm
  obtain ⟨E, hE⟩ : ∃ E, E = Pk.enc ⟨com, sec, ap, fl, ct, l⟩ := ⟨_, rfl⟩
  obtain ⟨q, hq⟩ : ∃ q, q = Pk.err ⟨com, sec, ap, fl, ct, l⟩ := ⟨_, rfl⟩
  obtain ⟨o, ho⟩ : ∃ o, o = Pk.ok ⟨com, sec, ap, fl, ct, l⟩ := ⟨_, rfl⟩
  simp only [← hE, ← hq] at x1 x2
  simp only [← ho] at x3 x4
  clear hE hq ho hl hn hm
  have b0 := bel_new w (.cells #[.bool com, .bool sec, .int .i64 ap, .int .i64 fl, .int .i64 ct, .slice a n c] 24)
  have p0 := Cel.new w 24 #[.bool com, .bool sec, .int .i64 ap, .int .i64 fl, .int .i64 ct, .slice a n c]
  have hb0 := (hb.below b0).more b0.size
  go_enter Try.func3, Try.ntmps3
  go_wp2_with fail
  refine (x1 _ hb0).mono ?_
  rintro e w1 ⟨v1, rfl, o1, h1⟩
  obtain ⟨A1, c1, rfl, hA1, hn1, _⟩ := o1.reads
  have bel1 := b0.trans (h1.mono b0.size)
  have p1 := Cel.later p0 h1
  have hb1 := (hb.below bel1).more bel1.size
  have m0 := p1.cell 0
  have m1 := p1.cell 1
  have m2 := p1.cell 2
  have m3 := p1.cell 3
  have m4 := p1.cell 4
  have m5 := p1.cell 5
  simp at m0 m1 m2 m3 m4 m5
  clear x1 h1 hb0 p0 b0 o1
  go_wp2_with fail
  refine (x2 _ hb1).mono ?_
  rintro e w2 ⟨v2, rfl, o2, h2⟩
  obtain ⟨A2, c2, rfl, hA2, hn2, _⟩ := o2.reads
  have bel2 := bel1.trans (h2.mono bel1.size)
  have p2 := Cel.later p1 h2
  have hB1 := (hA1.below h2).more h2.size
  clear x2 h2 hb1 p1 m0 m1 m2 m3 m4 m5 bel1 hA1 o2
  have m0 := p2.cell 0
  have m1 := p2.cell 1
  have m2 := p2.cell 2
  have m3 := p2.cell 3
  have m4 := p2.cell 4
  have m5 := p2.cell 5
  simp at m0 m1 m2 m3 m4 m5
  have hlt := p2.lt
  go_wp2_with fail
  refine wp_region_later (by kernel_rfl) (by kernel_rfl) ?_
  have q1 : ∀ p : Later w2, (convert 22 9 (.slice A1 E.length c1)).run Try.prog p.W = .ok (.string (str E)) p.W := conv_later rfl hB1 hn1
  have q2 : ∀ p : Later w2, (convert 22 9 (.slice A2 E.length c2)).run Try.prog p.W = .ok (.string (str E)) p.W := conv_later rfl hA2 hn2
  have n0 : ∀ p : Later w2, p.W.cell? ⟨w.heap.size, 0, none⟩ = some (.bool com) := later_cell m0 hlt
  have n1 : ∀ p : Later w2, p.W.cell? ⟨w.heap.size, 1, none⟩ = some (.bool sec) := later_cell m1 hlt
  have n2 : ∀ p : Later w2, p.W.cell? ⟨w.heap.size, 2, none⟩ = some (.int .i64 ap) := later_cell m2 hlt
  have n3 : ∀ p : Later w2, p.W.cell? ⟨w.heap.size, 3, none⟩ = some (.int .i64 fl) := later_cell m3 hlt
  have n4 : ∀ p : Later w2, p.W.cell? ⟨w.heap.size, 4, none⟩ = some (.int .i64 ct) := later_cell m4 hlt
  have n5 : ∀ p : Later w2, p.W.cell? ⟨w.heap.size, 5, none⟩ = some (.slice a n c) := later_cell m5 hlt
  have hbl : ∀ p : Later w2, Bs p.W p.W.heap.size a l := fun p => (hb.below (bel2.trans (p.h.mono bel2.size))).more (Nat.le_trans bel2.size p.h.size)
  have h3 := fun p : Later w2 => x3 p.W (hbl p)
  have h4 := fun p : Later w2 => x4 p.W (hbl p)
  clear m0 m1 m2 m3 m4 m5 hB1 hA2 hn1 hn2 x3 x4 hbl p2 hb
  repeat (go_big_quiet_step ((first
    | (go_at_call 9; exact later_of (h3 _))
    | (go_at_call 10; exact later_of (h4 _))
    | (go_at_call 11; exact later_of (alive10_any _)))))
  refine wpQuiet_nil ?_
  rintro _ ⟨⟨w5, hbel5⟩, rfl⟩
  go_wp2
  go_ret
  exact ⟨rfl, bel2.trans (hbel5.mono bel2.size)⟩
end Go.Proofs.Ytjchalphnbokaaa.Pac
