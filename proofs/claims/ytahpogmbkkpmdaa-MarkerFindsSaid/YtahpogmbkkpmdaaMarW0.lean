/-
  Package marker: what it is to be a Finder; NewFinder, works, Skipped; what is nil.
-/
import Derived.Deep.QuietTactic
import Derived.BigQuiet
import Derived.BigRegion
import Derived.Test.YtahpogmbkkpmdaaMarMath
import Derived.Test.YtahpogmbkkpmdaaLstH
import Derived.Test.YtahpogmbkkpmdaaBase
namespace Go.Proofs.Ytahpogmbkkpmdaa.Mar
open Go.RowKit Go.Proofs.Ytahpogmbkkpmdaa.Row Lst

def blk (g : Nat) (v : Value) : List Nat := g :: v.ownBlock.toList
/-- block g is a Finder of NewFinder for frames of N bytes, in state s; v is the slice of its frame -/
structure FW (w : World) (g : Nat) (v : Value) (N : Nat) (s : FS) : Prop where
  c : Cel w g 42 #[.int .i64 (N : Int), .int .i64 (s.m : Int), v, .int .i64 (s.sk : Int)]
  o : Ow w 0 5 v s.fr
  n : 0 < N
  n2 : N ≤ 1024
  f : Wf N s

section
variable {w w' : World} {g N : Nat} {v : Value} {s : FS} {S : List Nat}
theorem FW.only (h : FW w g v N s) (k : Only S w w') (hd : ∀ x ∈ blk g v, x ∉ S) : FW w' g v N s :=
  ⟨h.c.only k (hd g (by simp [blk])), h.o.only k (fun i hi => hd i (by simp [blk, hi])), h.n, h.n2, h.f⟩
theorem FW.below (h : FW w g v N s) (k : Below w.heap.size w w') : FW w' g v N s := h.only (S := []) (Only.of_below k) (by simp)
theorem FW.draws (h : FW w g v N s) (n : Nat) : FW (w.drewN n) g v N s := ⟨h.c, h.o, h.n, h.n2, h.f⟩
theorem FW.drew (h : FW w g v N s) : FW w.drew g v N s := ⟨h.c, h.o, h.n, h.n2, h.f⟩
theorem FW.lt (h : FW w g v N s) : ∀ x ∈ blk g v, x < w.heap.size := fun x hx => by
  rcases List.mem_cons.1 hx with rfl | hx
  · exact h.c.lt
  · exact (h.o.lt x (by simpa using hx)).2
theorem FW.apart (h : FW w g v N s) : v.ownBlock ≠ some g := h.o.apart h.c (by decide)
end

theorem Fw_new (w : World) (N : Nat) (h : 0 < N) (h2 : N ≤ 1024) : FW (w.alloc (.cells #[.int .i64 (N : Int), .int .i64 0, .slice none 0 0, .int .i64 0] 42)) w.heap.size (.slice none 0 0) N ⟨0, [], 0⟩ :=
  ⟨Cel.new _ _ _, World.ownsRow_nil _ _ _ _, h, h2, wf0 h 0⟩
set_option maxHeartbeats 400000 in
theorem newFinder_ok (N : Nat) (h : 0 < N) (h2 : N ≤ 1024) (w : World) :
    Calls Try.prog 9 #[.int .i64 (N : Int)] w fun e w' => e = .returned (.pointer (some ⟨w.heap.size, 0, none⟩)) ∧ w' = w.alloc (.cells #[.int .i64 (N : Int), .int .i64 0, .slice none 0 0, .int .i64 0] 42) := by
  have t1 : decide ((N : Int) < 1) = false := by simp; omega
  have t1' : decide (N < 1) = false := by simp; omega
  have t2 : decide ((1024 : Int) < (N : Int)) = false := by simp; omega
  have t2' : decide (1024 < N) = false := by simp; omega
  clear h h2
  go_enter Try.func9, Try.ntmps9
  go_wp2
  go_ret
  exact ⟨rfl, rfl⟩
set_option maxHeartbeats 400000 in
theorem newFinder_no (n : Int) (h : ¬ (1 ≤ n ∧ n ≤ 1024)) (w : World) :
    Calls Try.prog 9 #[.int .i64 n] w fun e w' => e = .returned (.pointer none) ∧ w = w' := by
  by_cases h1 : n < 1
  · have t1 : decide (n < 1) = true := by simpa using h1
    clear h h1
    go_enter Try.func9, Try.ntmps9
    go_wp2
    go_ret
    exact ⟨rfl, rfl⟩
  · have t1 : decide (n < 1) = false := by simpa using h1
    have t2 : decide (1024 < n) = true := by simp; omega
    clear h h1
    go_enter Try.func9, Try.ntmps9
    go_wp2
    go_ret
    exact ⟨rfl, rfl⟩

set_option maxHeartbeats 400000 in
theorem works_any {w : World} {g N : Nat} {v : Value} {s : FS} (h : FW w g v N s) :
    Calls Try.prog 21 #[.pointer (some ⟨g, 0, none⟩)] w fun e w' => e = .returned (.bool true) ∧ w = w' := by
  have c0 := h.c.cell 0
  simp at c0
  have t1 : decide (0 < (N : Int)) = true := by have := h.n; simp; omega
  have t1' : decide (0 < N) = true := by have := h.n; simp; omega
  clear h
  go_enter Try.func21, Try.ntmps21
  go_wp2
  go_ret
  exact ⟨rfl, rfl⟩
set_option maxHeartbeats 400000 in
theorem works_nil (w : World) : Calls Try.prog 21 #[.pointer none] w fun e w' => e = .returned (.bool false) ∧ w = w' := by
  go_enter Try.func21, Try.ntmps21
  go_wp2
  go_ret
  exact ⟨rfl, rfl⟩
set_option maxHeartbeats 400000 in
theorem skipped_any {w : World} {g N : Nat} {v : Value} {s : FS} (h : FW w g v N s) :
    Calls Try.prog 12 #[.pointer (some ⟨g, 0, none⟩)] w fun e w' => e = .returned (.int .i64 (s.sk : Int)) ∧ w = w' := by
  have hw := works_any h
  have c3 := h.c.cell 3
  simp at c3
  clear h
  go_enter Try.func12, Try.ntmps12
  go_wp2_with (go_at_call 21; refine hw.mono ?_; rintro e w1 ⟨rfl, rfl⟩)
  go_ret
  exact ⟨rfl, rfl⟩
set_option maxHeartbeats 400000 in
theorem skipped_nil (w : World) : Calls Try.prog 12 #[.pointer none] w fun e w' => e = .returned (.int .i64 0) ∧ w = w' := by
  go_enter Try.func12, Try.ntmps12
  go_wp2_with (go_at_call 21; refine (works_nil _).mono ?_; rintro e w1 ⟨rfl, rfl⟩)
  go_ret
  exact ⟨rfl, rfl⟩
set_option maxHeartbeats 400000 in
theorem feed_nil (w : World) (a : Option Addr) (n c : Nat) : Calls Try.prog 11 #[.pointer none, .slice a n c] w fun e w' => e = .returned (.slice none 0 0) ∧ w = w' := by
  go_enter Try.func11, Try.ntmps11
  go_wp2_with (go_at_call 21; refine (works_nil _).mono ?_; rintro e w1 ⟨rfl, rfl⟩)
  go_ret
  exact ⟨rfl, rfl⟩
set_option maxHeartbeats 400000 in
theorem clone_none (w : World) : Calls Try.prog 13 #[.pointer none] w fun e w' => e = .returned (.pointer none) ∧ w = w' := by
  go_enter Try.func13, Try.ntmps13
  go_wp2_with (go_at_call 21; refine (works_nil _).mono ?_; rintro e w1 ⟨rfl, rfl⟩)
  go_ret
  exact ⟨rfl, rfl⟩
end Go.Proofs.Ytahpogmbkkpmdaa.Mar
