/-
  Package packer: what it is to be a Packer; New, works, Left, first, Ready; what is nil.
-/
import Derived.Deep.QuietTactic
import Derived.BigQuiet
import Derived.BigRegion
import Derived.Test.YtjjjlgaidklokaaPkrMath
import Derived.Test.YtjjjlgaidklokaaMid
import Derived.Test.YtjjjlgaidklokaaPut12
import Derived.Test.YtjjjlgaidklokaaPacW4
namespace Go.Proofs.Ytjjjlgaidklokaa.Pkr
open Go.RowKit
open Pac (bel_new)

/-- block g is a Packer of New for data fields of Z bytes and room R in state s; its rest is (Ar, nr, cr), what waits (Aw, nw, cw) -/
structure PC (w : World) (g Z R : Nat) (s : PS) (Ar : Option Addr) (nr cr : Nat) (Aw : Option Addr) (nw cw : Nat) : Prop where
  c : Cel w g 56 #[.int .i64 (Z : Int), .int .i64 (R : Int), .slice Ar nr cr, .slice Aw nw cw, .int .i64 (s.fb.length : Int)]
  mr : Md w 0 5 Ar nr cr s.rs
  mw : Md w 0 5 Aw nw cw s.wt
  ap : ∀ x ∈ blkA Aw, x ∉ blkA Ar
/-- its blocks -/
def fam (g : Nat) (Ar Aw : Option Addr) : List Nat := g :: (blkA Aw ++ blkA Ar)
structure PW (w : World) (g : Nat) (F : List Nat) (Z R : Nat) (s : PS) : Prop where
  ex : ∃ Ar nr cr Aw nw cw, PC w g Z R s Ar nr cr Aw nw cw ∧ F = fam g Ar Aw
  z : 1 ≤ Z
  z2 : Z ≤ 1012
  r : R ≤ 1048576
  ok : s.Ok R

section
variable {w w' : World} {g Z R nr cr nw cw : Nat} {s : PS} {Ar Aw : Option Addr} {F S : List Nat}
theorem PC.only (h : PC w g Z R s Ar nr cr Aw nw cw) (k : Only S w w') (hd : ∀ x ∈ fam g Ar Aw, x ∉ S) : PC w' g Z R s Ar nr cr Aw nw cw :=
  ⟨h.c.only k (hd g (by simp [fam])), h.mr.only k (fun x hx => hd x (by simp [fam, hx])), h.mw.only k (fun x hx => hd x (by simp [fam, hx])), h.ap⟩
theorem PC.lt (h : PC w g Z R s Ar nr cr Aw nw cw) : ∀ x ∈ fam g Ar Aw, x < w.heap.size := fun x hx => by
  rcases List.mem_cons.1 hx with rfl | hx
  · exact h.c.lt
  · rcases List.mem_append.1 hx with hx | hx
    · exact (h.mw.lt x hx).2
    · exact (h.mr.lt x hx).2
theorem PC.draws (h : PC w g Z R s Ar nr cr Aw nw cw) (n : Nat) : PC (w.drewN n) g Z R s Ar nr cr Aw nw cw := ⟨h.c, h.mr, h.mw, h.ap⟩
theorem PC.below (h : PC w g Z R s Ar nr cr Aw nw cw) (k : Below w.heap.size w w') : PC w' g Z R s Ar nr cr Aw nw cw := h.only (S := []) (Only.of_below k) (by simp)
theorem Md.off {base n c : Nat} {e t : TypeId} {cs : Array Value} {l : List Byte} {A : Option Addr} (h : Md w base e A n c l) (k : Cel w g t cs) (ht : e ≠ t) : g ∉ blkA A := fun hm => by
  obtain ⟨cs', hc⟩ := h.cel g hm
  exact hc.apart k ht rfl
theorem PC.gw (h : PC w g Z R s Ar nr cr Aw nw cw) : g ∉ blkA Aw := Md.off h.mw h.c (by decide)
theorem PC.gr (h : PC w g Z R s Ar nr cr Aw nw cw) : g ∉ blkA Ar := Md.off h.mr h.c (by decide)
theorem PW.only (h : PW w g F Z R s) (k : Only S w w') (hd : ∀ x ∈ F, x ∉ S) : PW w' g F Z R s := by
  obtain ⟨⟨Ar, nr, cr, Aw, nw, cw, hc, rfl⟩, h1, h2, h3, h4⟩ := h
  exact ⟨⟨Ar, nr, cr, Aw, nw, cw, hc.only k hd, rfl⟩, h1, h2, h3, h4⟩
theorem PW.below (h : PW w g F Z R s) (k : Below w.heap.size w w') : PW w' g F Z R s := h.only (S := []) (Only.of_below k) (by simp)
theorem PW.lt (h : PW w g F Z R s) : ∀ x ∈ F, x < w.heap.size := by
  obtain ⟨⟨Ar, nr, cr, Aw, nw, cw, hc, rfl⟩, _⟩ := h
  exact hc.lt
theorem PW.mem (h : PW w g F Z R s) : g ∈ F := by
  obtain ⟨⟨Ar, nr, cr, Aw, nw, cw, hc, rfl⟩, _⟩ := h
  simp [fam]
theorem Md.rd {base n c : Nat} {l : List Byte} {A : Option Addr} (h : Md w base 5 A n c l) : Rd w A l n c := by
  obtain ⟨h1, h2, h3, h4⟩ := h.reads
  exact ⟨h.1, h1, h2, h3, h4⟩
end

theorem Pw_new (w : World) (Z R : Nat) (h1 : 1 ≤ Z) (h2 : Z ≤ 1012) (h3 : R ≤ 1048576) :
    PW (w.alloc (.cells #[.int .i64 (Z : Int), .int .i64 (R : Int), .slice none 0 0, .slice none 0 0, .int .i64 0] 56)) w.heap.size [w.heap.size] Z R ⟨[], [], []⟩ :=
  ⟨⟨none, 0, 0, none, 0, 0, ⟨Cel.new _ _ _, Md.nil_ _ _ _, Md.nil_ _ _ _, (fun x hx => nomatch hx)⟩, rfl⟩, h1, h2, h3, ⟨(fun x hx => nomatch hx), by simp, by simp [PS.wt]⟩⟩
/-- what New makes of a room -/
def rm (r : Int) : Nat := (min (max r 0) 1048576).toNat
theorem rm_le (r : Int) : rm r ≤ 1048576 := by unfold rm; omega
theorem rm_eq (r : Int) : min (max r 0) 1048576 = ((rm r : Nat) : Int) := by unfold rm; omega

set_option maxHeartbeats 400000 in
theorem pnew_yes (Z : Nat) (h1 : 1 ≤ Z) (h2 : Z ≤ 1012) (r : Int) (w : World) :
    Calls Try.prog 7 #[.int .i64 (Z : Int), .int .i64 r] w fun e w' => e = .returned (.pointer (some ⟨w.heap.size, 0, none⟩)) ∧ w' = w.alloc (.cells #[.int .i64 (Z : Int), .int .i64 (rm r : Int), .slice none 0 0, .slice none 0 0, .int .i64 0] 56) := by
  have t1 : decide ((Z : Int) < 1) = false := by simp; omega
  have t1' : decide (Z < 1) = false := by simp; omega
  have t2 : decide ((1012 : Int) < (Z : Int)) = false := by simp; omega
  have t2' : decide (1012 < Z) = false := by simp; omega
  have hm := rm_eq r
  obtain ⟨N, hN⟩ : ∃ N, ((rm r : Nat) : Int) = N := ⟨_, rfl⟩
  rw [hN] at hm ⊢
  obtain ⟨M, hM⟩ : ∃ M, M = max r 0 := ⟨_, rfl⟩
  rw [← hM] at hm
  have hm0 : max r 0 = M := hM.symm
  have hm1 : (if r < 0 then (0 : Int) else r) = M := by split <;> omega
  have hm2 : (if M < 1048576 then M else (1048576 : Int)) = N := by split <;> omega
  have hm3 : (if (1048576 : Int) < M then (1048576 : Int) else M) = N := by split <;> omega
  clear h1 h2 hN hM
  go_enter Try.func7, Try.ntmps7
  go_wp2
  go_ret
  exact ⟨rfl, rfl⟩
set_option maxHeartbeats 400000 in
theorem pnew_no (z : Int) (h : ¬ (1 ≤ z ∧ z ≤ 1012)) (r : Int) (w : World) :
    Calls Try.prog 7 #[.int .i64 z, .int .i64 r] w fun e w' => e = .returned (.pointer none) ∧ w = w' := by
  by_cases h1 : z < 1
  · have t1 : decide (z < 1) = true := by simpa using h1
    clear h h1
    go_enter Try.func7, Try.ntmps7
    go_wp2
    go_ret
    exact ⟨rfl, rfl⟩
  · have t1 : decide (z < 1) = false := by simpa using h1
    have t2 : decide (1012 < z) = true := by simp; omega
    clear h h1
    go_enter Try.func7, Try.ntmps7
    go_wp2
    go_ret
    exact ⟨rfl, rfl⟩

section
variable {w : World} {g Z R nr cr nw cw : Nat} {s : PS} {Ar Aw : Option Addr} {F : List Nat}
set_option maxHeartbeats 400000 in
theorem pworks_pc (h : PC w g Z R s Ar nr cr Aw nw cw) (hz : 1 ≤ Z) :
    Calls Try.prog 24 #[.pointer (some ⟨g, 0, none⟩)] w fun e w' => e = .returned (.bool true) ∧ w = w' := by
  have c0 := h.c.cell 0
  simp at c0
  have t1 : decide (0 < (Z : Int)) = true := by simp; omega
  have t1' : decide (0 < Z) = true := by simp; omega
  clear h
  go_enter Try.func24, Try.ntmps24
  go_wp2
  go_ret
  exact ⟨rfl, rfl⟩
set_option maxHeartbeats 400000 in
theorem pworks_nil (w : World) : Calls Try.prog 24 #[.pointer none] w fun e w' => e = .returned (.bool false) ∧ w = w' := by
  go_enter Try.func24, Try.ntmps24
  go_wp2
  go_ret
  exact ⟨rfl, rfl⟩
set_option maxHeartbeats 400000 in
theorem pleft_pc (h : PC w g Z R s Ar nr cr Aw nw cw) (hz : 1 ≤ Z) :
    Calls Try.prog 11 #[.pointer (some ⟨g, 0, none⟩)] w fun e w' => e = .returned (.int .i64 (nw : Int)) ∧ w = w' := by
  have hw := pworks_pc h hz
  have c3 := h.c.cell 3
  simp at c3
  clear h
  go_enter Try.func11, Try.ntmps11
  go_wp2_with fail
  refine hw.mono ?_
  rintro e w1 ⟨rfl, rfl⟩
  go_wp2
  go_ret
  exact ⟨rfl, rfl⟩
theorem pleft_any (h : PW w g F Z R s) {n : Nat} (hn : s.wt.length = n) :
    Calls Try.prog 11 #[.pointer (some ⟨g, 0, none⟩)] w fun e w' => e = .returned (.int .i64 (n : Int)) ∧ w = w' := by
  obtain ⟨⟨Ar, nr, cr, Aw, nw, cw, hc, rfl⟩, h1, h2, h3, h4⟩ := h
  have := hc.mw.1
  obtain rfl : nw = n := by omega
  exact pleft_pc hc h1
set_option maxHeartbeats 400000 in
theorem pleft_nil (w : World) : Calls Try.prog 11 #[.pointer none] w fun e w' => e = .returned (.int .i64 0) ∧ w = w' := by
  go_enter Try.func11, Try.ntmps11
  go_wp2_with fail
  refine (pworks_nil _).mono ?_
  rintro e w1 ⟨rfl, rfl⟩
  go_wp2
  go_ret
  exact ⟨rfl, rfl⟩
set_option maxHeartbeats 400000 in
theorem ppush_nil (w : World) (a : Option Addr) (n c : Nat) : Calls Try.prog 9 #[.pointer none, .slice a n c] w fun e w' => e = .returned (.int .i64 2) ∧ w = w' := by
  go_enter Try.func9, Try.ntmps9
  go_wp2_with fail
  refine (pworks_nil _).mono ?_
  rintro e w1 ⟨rfl, rfl⟩
  go_wp2
  go_ret
  exact ⟨rfl, rfl⟩
set_option maxHeartbeats 400000 in
theorem pclone_nil (w : World) : Calls Try.prog 13 #[.pointer none] w fun e w' => e = .returned (.pointer none) ∧ w = w' := by
  go_enter Try.func13, Try.ntmps13
  go_wp2_with fail
  refine (pworks_nil _).mono ?_
  rintro e w1 ⟨rfl, rfl⟩
  go_wp2
  go_ret
  exact ⟨rfl, rfl⟩
theorem quiet_same {P : Program} {f : FuncId} {args : Array Value} {w : World} {n : Nat} {v : Value} (h : Calls P f args (w.drewN n) fun e w' => e = .returned v ∧ w.drewN n = w') :
    Calls P f args (w.drewN n) fun e w'' => e = .returned v ∧ ∃ m, w'' = w.drewN m := h.mono fun _ _ ⟨he, hm⟩ => ⟨he, n, hm.symm⟩
set_option maxHeartbeats 400000 in
theorem pready_nil (w : World) : Calls Try.prog 12 #[.pointer none] w fun e w' => e = .returned (.bool false) ∧ Below w.heap.size w w' := by
  have hl := fun W => pleft_nil W
  go_enter Try.func12, Try.ntmps12
  go_wp2
  go_quiet ((go_at_call 11; exact quiet_same (hl _)))
  go_wp2
  go_ret
  exact ⟨rfl, drewN_below _ _⟩
/-- whether a whole data field is there -/
def rdy (Z : Nat) (s : PS) : Bool := decide (0 < s.wt.length) && decide (Z ≤ s.rs.length + s.wt.length)
set_option maxHeartbeats 400000 in
theorem pready_any (h : PW w g F Z R s) : Calls Try.prog 12 #[.pointer (some ⟨g, 0, none⟩)] w fun e w' => e = .returned (.bool (rdy Z s)) ∧ Below w.heap.size w w' := by
  obtain ⟨⟨Ar, nr, cr, Aw, nw, cw, hc, rfl⟩, h1, h2, h3, h4⟩ := h
  have e1 := hc.mw.1
  have e2 := hc.mr.1
  have l1 := h4.w
  have l2 := h4.r
  unfold rdy
  rw [e1] at l1 ⊢
  rw [e2] at l2 ⊢
  have hl := fun n => pleft_pc (hc.draws n) h1
  have c0 := hc.c.cell 0
  have c2 := hc.c.cell 2
  simp at c0 c2
  obtain ⟨M, hM⟩ : ∃ M, nr + nw = M := ⟨_, rfl⟩
  have hM' : (nr : Int) + (nw : Int) = (M : Int) := by omega
  rw [hM]
  by_cases hn : 0 < nw
  · have t1 : decide ((0 : Int) < (nw : Int)) = true := by simpa using hn
    have t1' : decide (0 < nw) = true := by simpa using hn
    by_cases hz : Z ≤ M
    · have t2 : decide ((Z : Int) ≤ (M : Int)) = true := by simpa using hz
      have t2' : decide (Z ≤ M) = true := by simpa using hz
      rw [t1', t2']
      clear hc h4 hz
      go_enter Try.func12, Try.ntmps12
      go_wp2
      go_quiet ((go_at_call 11; exact quiet_same (hl _)))
      go_wp2
      go_ret
      exact ⟨rfl, drewN_below _ _⟩
    · have t2 : decide ((Z : Int) ≤ (M : Int)) = false := by simpa using hz
      have t2' : decide (Z ≤ M) = false := by simpa using hz
      rw [t1', t2']
      clear hc h4 hz
      go_enter Try.func12, Try.ntmps12
      go_wp2
      go_quiet ((go_at_call 11; exact quiet_same (hl _)))
      go_wp2
      go_ret
      exact ⟨rfl, drewN_below _ _⟩
  · have t1 : decide ((0 : Int) < (nw : Int)) = false := by simpa using hn
    have t1' : decide (0 < nw) = false := by simpa using hn
    rw [t1']
    clear hc h4
    go_enter Try.func12, Try.ntmps12
    go_wp2
    go_quiet ((go_at_call 11; exact quiet_same (hl _)))
    go_wp2
    go_ret
    exact ⟨rfl, drewN_below _ _⟩
set_option maxHeartbeats 400000 in
theorem pfirst_pc (h : PC w g Z R s Ar nr cr Aw nw cw) (hs : s.Ok R) (hR : R ≤ 1048576) :
    Calls Try.prog 29 #[.pointer (some ⟨g, 0, none⟩)] w fun e w' => e = .returned (.int .i64 ((nxP Z s : Nat) : Int)) ∧ Below w.heap.size w w' := by
  have c0 := h.c.cell 0
  have c2 := h.c.cell 2
  have c4 := h.c.cell 4
  simp at c0 c2 c4
  have e2 := h.mr.1
  have l1 := hs.w
  have l2 := hs.r
  have l3 : s.fb.length ≤ s.wt.length := by unfold PS.wt; rw [List.length_append]; omega
  unfold nxP
  rw [e2] at l2 ⊢
  obtain ⟨b, hb⟩ : ∃ b, s.fb.length = b := ⟨_, rfl⟩
  rw [hb] at c4 l3 ⊢
  obtain ⟨M, hM⟩ : ∃ M, nr + b = M := ⟨_, rfl⟩
  have hM' : (nr : Int) + (b : Int) = (M : Int) := by omega
  rw [hM]
  by_cases hz : Z ≤ M
  · have t2 : decide ((Z : Int) ≤ (M : Int)) = true := by simpa using hz
    have t2' : decide (Z ≤ M) = true := by simpa using hz
    rw [if_pos hz]
    clear h hs hz hb
    go_enter Try.func29, Try.ntmps29
    go_wp2
    go_quiet (fail)
    go_wp2
    go_ret
    exact ⟨rfl, drewN_below _ _⟩
  · have t2 : decide ((Z : Int) ≤ (M : Int)) = false := by simpa using hz
    have t2' : decide (Z ≤ M) = false := by simpa using hz
    rw [if_neg hz]
    clear h hs hz hb
    go_enter Try.func29, Try.ntmps29
    go_wp2
    go_quiet (fail)
    go_wp2
    go_ret
    exact ⟨rfl, drewN_below _ _⟩
end
end Go.Proofs.Ytjjjlgaidklokaa.Pkr
