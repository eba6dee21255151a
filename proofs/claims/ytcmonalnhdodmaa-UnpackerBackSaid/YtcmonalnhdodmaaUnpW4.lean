/-
  Package unpacker: Clone.
-/
import Derived.Test.YtcmonalnhdodmaaUnpW3
namespace Go.Proofs.Ytcmonalnhdodmaa.Unp
open Go.RowKit
open Pac (bel_new)

section
variable {w : World} {g n c : Nat} {s : US} {A : Option Addr} {F : List Nat}
set_option maxHeartbeats 1000000 in
theorem uclone_uc (h : UC w g s A n c) (hok : s.Ok) :
    Calls Try.prog 10 #[.pointer (some ⟨g, 0, none⟩)] w fun e w' => ∃ g' F', e = .returned (.pointer (some ⟨g', 0, none⟩)) ∧ UW w' g' F' s ∧ (∀ x ∈ F', w.heap.size ≤ x) ∧ Below w.heap.size w w' := by
  have hwk := uworks_uc h
  have hl := h.m.1
  have hrl := hok.r.len
  have hr := Md.rd h.m
  have c0 := h.u.cell 0
  have c1 := h.u.cell 1
  have c2 := h.u.cell 2
  have c3 := h.u.cell 3
  have c4 := h.u.cell 4
  have hgl := h.u.lt
  simp at c0 c1 c2 c3 c4
  obtain ⟨W1, hW1⟩ : ∃ W1, W1 = w.alloc (.cells #[.bool true, .bool s.bg, .int .i64 (s.ex : Int), .int .i64 (s.lo : Int), .slice A n c] 48) := ⟨_, rfl⟩
  have b1 : Below w.heap.size w W1 := by rw [hW1]; exact bel_new _ _
  have q1 : Cel W1 w.heap.size 48 #[.bool true, .bool s.bg, .int .i64 (s.ex : Int), .int .i64 (s.lo : Int), .slice A n c] := by rw [hW1]; exact Cel.new _ _ _
  have r1 := hr.later b1
  have xc := clone_any A s.rs n c W1 (Lib.hid hl) r1.bs r1.nil (by omega)
  have e4 := (b1.cell (p := ⟨g, 4, none⟩) hgl).trans c4
  have HH := Lib.hid (And.intro q1 (And.intro b1 (And.intro hl hok)))
  clear h hl hrl hr q1 b1 r1 hok
  go_enter Try.func10, Try.ntmps10
  go_wp2_with fail
  refine hwk.mono ?_
  rintro e w1 ⟨rfl, rfl⟩
  go_wp2_with fail
  rw [← hW1]
  refine xc.mono ?_
  rintro e w3 ⟨v3, rfl, o3, b3⟩
  obtain ⟨A3, c3', rfl, _⟩ := o3.reads_len HH.out.2.2.1
  have q3 := HH.out.1.only (S := []) (Only.of_below b3) (by simp)
  have f4 := q3.free 4
  have i4 := q3.cell 4
  simp at i4
  have hm3 := Md.of o3 HH.out.2.2.1
  have k3 := set_only w3 w.heap.size 4 (.slice A3 n c3')
  have hg3 := Md.off hm3 q3 (by decide)
  have u3 : UC (w3.setCell ⟨w.heap.size, 4, none⟩ (.slice A3 n c3')) w.heap.size s A3 n c3' := ⟨q3.put 4 _, (hm3.more (Nat.zero_le _)).only k3 (fun x hx hm => hg3 (List.mem_singleton.1 hm ▸ hx))⟩
  have bb : Below w.heap.size w (w3.setCell ⟨w.heap.size, 4, none⟩ (.slice A3 n c3')) := (HH.out.2.1.trans (b3.mono HH.out.2.1.size)).trans (k3.below (HH.out.2.1.trans (b3.mono HH.out.2.1.size)).size (by simp))
  have hF : ∀ x ∈ fam w.heap.size A3, w.heap.size ≤ x := fun x hx => by
    rcases List.mem_cons.1 hx with rfl | hx
    · exact Nat.le_refl _
    · have h1 := (hm3.lt x hx).1
      have h2 := HH.out.2.1.size
      omega
  have HB := Lib.hid (And.intro u3 (And.intro bb hF))
  clear q3 hm3 k3 hg3 u3 bb hF b3 o3 xc c0 c1 c2 c3 c4 e4
  go_wp2
  go_ret
  exact ⟨_, _, rfl, ⟨⟨_, _, _, HB.out.1, rfl⟩, HH.out.2.2.2⟩, HB.out.2.2, HB.out.2.1⟩
theorem uclone_any (h : UW w g F s) :
    Calls Try.prog 10 #[.pointer (some ⟨g, 0, none⟩)] w fun e w' => ∃ g' F', e = .returned (.pointer (some ⟨g', 0, none⟩)) ∧ UW w' g' F' s ∧ (∀ x ∈ F', w.heap.size ≤ x) ∧ Below w.heap.size w w' := by
  obtain ⟨⟨A, n, c, hc, rfl⟩, hok⟩ := h
  exact uclone_uc hc hok
end
end Go.Proofs.Ytcmonalnhdodmaa.Unp
