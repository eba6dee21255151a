/-
  The walk of the law CucEncodes.
-/
import Derived.Test.YtboapfkgkehfcaaLaw05a
import Derived.Test.YtboapfkgkehfcaaRef05b
import Derived.Deep.RegionHeld3
namespace Go.Proofs.Ytboapfkgkehfcaa
open Go.RowKit

theorem conv_later {w : World} {A : Option Addr} {l : List Byte} {n c : Nat} (hl : l.length = n) (hb : Bs w w.heap.size A l) (hn : A = none → c = 0) (p : Later w) :
    (convert 25 9 (.slice A n c)).run Try.prog p.W = .ok (.string (str l)) p.W := by
  subst hl
  exact run_str p.W is_bytes Try.underlying9 (hb.below p.h) hn

set_option maxHeartbeats 2000000 in
theorem cucEncodes_walk (t c f : Int) (w : World) (ht : -9223372036854775808 ≤ t ∧ t ≤ 9223372036854775807) :
    Calls Try.prog 3 #[.int .i64 t, .agg #[.int .i64 c, .int .i64 f]] w fun e w' => e = .returned (.bool true) ∧ Below w.heap.size w w' := by
  have h1 := fun W => encode_any t c f W
  have h2 := fun W => xencode_any t c f W
  have h3 := fun W => round_any t c f W ht
  have h4 := fun W => xround_any t c f W ht
  have h5 := fun W => fvalid_any c f W
  have h6 := fun W => xfvalid_any c f W
  have h7 := fun W => fsize_any c f W
  have h8 := fun W => xfsize_any c f W
  obtain ⟨E, hE⟩ : ∃ E, E = eVal t c f := ⟨_, rfl⟩
  obtain ⟨e1, he1⟩ : ∃ e1, e1 = eErr t c f := ⟨_, rfl⟩
  obtain ⟨u, hu⟩ : ∃ u, u = rVal t c f := ⟨_, rfl⟩
  obtain ⟨e2, he2⟩ : ∃ e2, e2 = rErr t c f := ⟨_, rfl⟩
  obtain ⟨v, hv⟩ : ∃ v, v = cvl c f := ⟨_, rfl⟩
  obtain ⟨s, hs⟩ : ∃ s, s = csz c f := ⟨_, rfl⟩
  simp only [← hE, ← he1] at h1 h2
  simp only [← hu, ← he2] at h3 h4
  simp only [← hv] at h5 h6
  simp only [← hs] at h7 h8
  clear hE he1 hu he2 hv hs ht
  have b1 := bel_new w (.cells #[.int .i64 c, .int .i64 f] 23)
  have hF0 := Fm_new w 23 c f
  have b2 := bel_new (w.alloc (.cells #[.int .i64 c, .int .i64 f] 23)) (.cells #[.int .i64 c, .int .i64 f] 24)
  have hG0 := Fm_new (w.alloc (.cells #[.int .i64 c, .int .i64 f] 23)) 24 c f
  have hsz : (w.alloc (.cells #[.int .i64 c, .int .i64 f] 23)).heap.size = w.heap.size + 1 := by simp
  have hF1 := hF0.keep b2
  rw [hsz] at hG0
  have bel0 := b1.trans (b2.mono b1.size)
  clear hF0 b1 b2 hsz
  go_enter Try.func3, Try.ntmps3
  go_wp2_with fail
  refine (h1 _).mono ?_
  rintro e w1 ⟨v1, rfl, o1, k1⟩
  obtain ⟨A1, c1, rfl, hA1, hn1, _⟩ := o1.reads
  have bel1 := bel0.trans (k1.mono bel0.size)
  have hF2 := hF1.keep k1
  have hG2 := hG0.keep k1
  clear hF1 hG0 bel0 h1
  obtain ⟨_, x0, x1⟩ := id hG2
  go_wp2_with fail
  refine (h2 _).mono ?_
  rintro e w2 ⟨v2, rfl, o2, k2⟩
  obtain ⟨A2, c2, rfl, hA2, hn2, _⟩ := o2.reads
  have bel2 := bel1.trans (k2.mono bel1.size)
  have hF3 := hF2.keep k2
  have hG3 := hG2.keep k2
  clear hF2 hG2 bel1 h2 x0 x1
  obtain ⟨_, x0, x1⟩ := id hF3
  go_wp2_with fail
  refine (h3 _).mono ?_
  rintro e w3 ⟨rfl, k3⟩
  have bel3 := bel2.trans (k3.mono bel2.size)
  have hF4 := hF3.keep k3
  have hG4 := hG3.keep k3
  clear hF3 hG3 bel2 h3 x0 x1
  obtain ⟨_, x0, x1⟩ := id hG4
  go_wp2_with fail
  refine (h4 _).mono ?_
  rintro e w4 ⟨rfl, k4⟩
  have bel4 := bel3.trans (k4.mono bel3.size)
  obtain ⟨l1, m0, m1⟩ := hF4.keep k4
  obtain ⟨l2, n0, n1⟩ := hG4.keep k4
  have j3 := k3.trans (k4.mono k3.size)
  have j2 := k2.trans (j3.mono k2.size)
  have hB1 := (hA1.below j2).more j2.size
  have hB2 := (hA2.below j3).more j3.size
  clear hF4 hG4 bel3 h4 x0 x1 k1 k2 k3 k4 j2 j3 hA1 hA2 o1 o2
  go_wp2_with fail
  refine wp_region_later (by kernel_rfl) (by kernel_rfl) ?_
  have q1 : ∀ p : Later w4, (convert 25 9 (.slice A1 E.length c1)).run Try.prog p.W = .ok (.string (str E)) p.W := conv_later rfl hB1 hn1
  have q2 : ∀ p : Later w4, (convert 25 9 (.slice A2 E.length c2)).run Try.prog p.W = .ok (.string (str E)) p.W := conv_later rfl hB2 hn2
  have p0 : ∀ p : Later w4, p.W.cell? ⟨w.heap.size, 0, none⟩ = some (.int .i64 c) := later_cell m0 l1
  have p1 : ∀ p : Later w4, p.W.cell? ⟨w.heap.size, 1, none⟩ = some (.int .i64 f) := later_cell m1 l1
  have p2 : ∀ p : Later w4, p.W.cell? ⟨w.heap.size + 1, 0, none⟩ = some (.int .i64 c) := later_cell n0 l2
  have p3 : ∀ p : Later w4, p.W.cell? ⟨w.heap.size + 1, 1, none⟩ = some (.int .i64 f) := later_cell n1 l2
  clear m0 m1 n0 n1 l1 l2 hB1 hB2 hn1 hn2
  repeat (go_big_quiet_step ((first
    | (go_at_call 12; exact later_of (h5 _))
    | (go_at_call 13; exact later_of (h6 _))
    | (go_at_call 14; exact later_of (h7 _))
    | (go_at_call 15; exact later_of (h8 _))
    | (go_at_call 16; exact later_of (alive05_any _)))))
  refine wpQuiet_nil ?_
  rintro _ ⟨⟨w5, hbel5⟩, rfl⟩
  go_wp2
  go_ret
  exact ⟨rfl, bel4.trans (hbel5.mono bel4.size)⟩
end Go.Proofs.Ytboapfkgkehfcaa
