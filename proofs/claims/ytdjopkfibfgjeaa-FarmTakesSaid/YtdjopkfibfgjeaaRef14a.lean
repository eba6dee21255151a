/-
  The walks of the reference of layer 14: Encode, Directive, Same.
-/
import Derived.Test.YtdjopkfibfgjeaaTcfW5
import Derived.Test.YtdjopkfibfgjeaaRef01c
namespace Go.Proofs.Ytdjopkfibfgjeaa.Tcf
open Go.RowKit Go.Proofs.Ytdjopkfibfgjeaa.Pac

theorem Ow_row (w : World) (base : Nat) (e : TypeId) (l : List Byte) (n : Nat) (C : Array Value) (hn : l.length = n) (hC : C = (l.map B8).toArray) (h : base ≤ w.heap.size) (hm : n ≤ maxLen) (g : Nat) (hg : w.heap.size = g) : Ow (w.alloc (.cells C e)) base e (.slice (some ⟨g, 0, none⟩) n n) l := by
  subst hn hg
  exact ⟨by simp, .inr ⟨w.heap.size, l.length, C, rfl, h, heap_alloc_new w _, Nat.le_refl _, hm, by rw [hC]; simp, by rw [hC]; simp [← List.map_take]⟩⟩
theorem hdr5_cells {H S Q : Nat} {x0 x1 x2 x3 x4 : Int} (h0 : x0 = ((H / 256 % 256 : Nat) : Int)) (h1 : x1 = ((H % 256 : Nat) : Int)) (h2 : x2 = ((S / 256 % 256 : Nat) : Int)) (h3 : x3 = ((S % 256 : Nat) : Int)) (h4 : x4 = ((Q % 256 : Nat) : Int)) :
    #[Value.int .u8 x0, .int .u8 x1, .int .u8 x2, .int .u8 x3, .int .u8 x4] = ((hdr5 H S Q).map B8).toArray := by
  subst h0 h1 h2 h3 h4
  simp [hdr5]

set_option maxHeartbeats 400000 in
theorem ydir_noByp (con : Bool) (cr ch sq : Int) (a : Option Addr) (n c : Nat) (w : World) :
    Calls Try.prog 28 #[.agg #[.bool false, .bool con, .int .i64 cr, .int .i64 ch, .int .i64 sq, .slice a n c]] w fun e w' => e = .returned (.tuple #[.int .i64 0, .int .i64 0, .bool false]) ∧ Below w.heap.size w w' := by
  go_enter Try.func28, Try.ntmps28
  go_wp2
  go_ret3
  exact ⟨rfl, bel_new _ _⟩

set_option maxHeartbeats 400000 in
theorem ydir_noCon (cr ch sq : Int) (a : Option Addr) (n c : Nat) (w : World) :
    Calls Try.prog 28 #[.agg #[.bool true, .bool false, .int .i64 cr, .int .i64 ch, .int .i64 sq, .slice a n c]] w fun e w' => e = .returned (.tuple #[.int .i64 0, .int .i64 0, .bool false]) ∧ Below w.heap.size w w' := by
  go_enter Try.func28, Try.ntmps28
  go_wp2
  go_ret3
  exact ⟨rfl, bel_new _ _⟩

theorem toNat_ne {x y : Byte} (h : x ≠ y) : x.toNat ≠ y.toNat := fun e => h (BitVec.eq_of_toNat_eq e)

set_option maxHeartbeats 1000000 in
theorem ydir_else (cr ch sq : Int) (a : Option Addr) (n c : Nat) (w : World) (h1 : n ≠ 1) (h3 : n ≠ 3) :
    Calls Try.prog 28 #[.agg #[.bool true, .bool true, .int .i64 cr, .int .i64 ch, .int .i64 sq, .slice a n c]] w fun e w' => e = .returned (.tuple #[.int .i64 0, .int .i64 0, .bool false]) ∧ Below w.heap.size w w' := by
  have g1 : ((n : Int) == 1) = false := by simp; omega
  have g2 : (n == 1) = false := by simpa using h1
  have g3 : ((n : Int) == 3) = false := by simp; omega
  have g4 : (n == 3) = false := by simpa using h3
  clear h1 h3
  go_enter Try.func28, Try.ntmps28
  go_wp2
  go_ret3
  exact ⟨rfl, bel_new _ _⟩

set_option maxHeartbeats 1000000 in
theorem ydir_one0 (x0 : Byte) (cr ch sq : Int) (b off c : Nat) (w : World) (hlt : b < w.heap.size) (k0' : w.cell? ⟨b, off, none⟩ = some (.int .u8 (x0.toNat : Int))) (h0 : x0 = 0#8) :
    Calls Try.prog 28 #[.agg #[.bool true, .bool true, .int .i64 cr, .int .i64 ch, .int .i64 sq, .slice (some ⟨b, off, none⟩) 1 c]] w fun e w' => e = .returned (.tuple #[.int .i64 0, .int .i64 0, .bool true]) ∧ Below w.heap.size w w' := by
  have k0 : (w.alloc (.cells #[.bool true, .bool true, .int .i64 cr, .int .i64 ch, .int .i64 sq, .slice (some ⟨b, off, none⟩) 1 c] 32)).cell? ⟨b, off, none⟩ = some (.int .u8 (x0.toNat : Int)) := ((bel_new w _).cell (p := ⟨b, off, none⟩) hlt).trans k0'
  subst h0
  clear k0'
  go_enter Try.func28, Try.ntmps28
  go_wp2
  go_ret3
  exact ⟨rfl, bel_new _ _⟩

set_option maxHeartbeats 1000000 in
theorem ydir_one1 (x0 : Byte) (cr ch sq : Int) (b off c : Nat) (w : World) (hlt : b < w.heap.size) (k0' : w.cell? ⟨b, off, none⟩ = some (.int .u8 (x0.toNat : Int))) (h0 : x0 ≠ 0#8) :
    Calls Try.prog 28 #[.agg #[.bool true, .bool true, .int .i64 cr, .int .i64 ch, .int .i64 sq, .slice (some ⟨b, off, none⟩) 1 c]] w fun e w' => e = .returned (.tuple #[.int .i64 0, .int .i64 0, .bool false]) ∧ Below w.heap.size w w' := by
  have k0 : (w.alloc (.cells #[.bool true, .bool true, .int .i64 cr, .int .i64 ch, .int .i64 sq, .slice (some ⟨b, off, none⟩) 1 c] 32)).cell? ⟨b, off, none⟩ = some (.int .u8 (x0.toNat : Int)) := ((bel_new w _).cell (p := ⟨b, off, none⟩) hlt).trans k0'
  have n0 := toNat_ne h0
  have j0 : ((x0.toNat : Int) == 0) = false := by simp; exact fun e => n0 (by rw [e]; rfl)
  clear k0' h0 n0
  go_enter Try.func28, Try.ntmps28
  go_wp2
  go_ret3
  exact ⟨rfl, bel_new _ _⟩

set_option maxHeartbeats 1000000 in
theorem ydir_three0 (x0 : Byte) (cr ch sq : Int) (b off c : Nat) (w : World) (hlt : b < w.heap.size) (k0' : w.cell? ⟨b, off, none⟩ = some (.int .u8 (x0.toNat : Int))) (h0 : x0 ≠ 130#8) :
    Calls Try.prog 28 #[.agg #[.bool true, .bool true, .int .i64 cr, .int .i64 ch, .int .i64 sq, .slice (some ⟨b, off, none⟩) 3 c]] w fun e w' => e = .returned (.tuple #[.int .i64 0, .int .i64 0, .bool false]) ∧ Below w.heap.size w w' := by
  have k0 : (w.alloc (.cells #[.bool true, .bool true, .int .i64 cr, .int .i64 ch, .int .i64 sq, .slice (some ⟨b, off, none⟩) 3 c] 32)).cell? ⟨b, off, none⟩ = some (.int .u8 (x0.toNat : Int)) := ((bel_new w _).cell (p := ⟨b, off, none⟩) hlt).trans k0'
  have n0 := toNat_ne h0
  have j0 : ((x0.toNat : Int) == 130) = false := by
    have e : (130#8 : Byte).toNat = 130 := rfl
    rw [e] at n0
    simp; omega
  clear k0' h0 n0
  go_enter Try.func28, Try.ntmps28
  go_wp2
  go_ret3
  exact ⟨rfl, bel_new _ _⟩

set_option maxHeartbeats 1000000 in
theorem ydir_three1 (x0 x1 : Byte) (cr ch sq : Int) (b off c : Nat) (w : World) (hlt : b < w.heap.size) (k0' : w.cell? ⟨b, off, none⟩ = some (.int .u8 (x0.toNat : Int))) (k1' : w.cell? ⟨b, off + 1, none⟩ = some (.int .u8 (x1.toNat : Int))) (h0 : x0 = 130#8) (h1 : x1 ≠ 0#8) :
    Calls Try.prog 28 #[.agg #[.bool true, .bool true, .int .i64 cr, .int .i64 ch, .int .i64 sq, .slice (some ⟨b, off, none⟩) 3 c]] w fun e w' => e = .returned (.tuple #[.int .i64 0, .int .i64 0, .bool false]) ∧ Below w.heap.size w w' := by
  have k0 : (w.alloc (.cells #[.bool true, .bool true, .int .i64 cr, .int .i64 ch, .int .i64 sq, .slice (some ⟨b, off, none⟩) 3 c] 32)).cell? ⟨b, off, none⟩ = some (.int .u8 (x0.toNat : Int)) := ((bel_new w _).cell (p := ⟨b, off, none⟩) hlt).trans k0'
  have k1 : (w.alloc (.cells #[.bool true, .bool true, .int .i64 cr, .int .i64 ch, .int .i64 sq, .slice (some ⟨b, off, none⟩) 3 c] 32)).cell? ⟨b, off + 1, none⟩ = some (.int .u8 (x1.toNat : Int)) := ((bel_new w _).cell (p := ⟨b, off + 1, none⟩) hlt).trans k1'
  subst h0
  have n0 := toNat_ne h1
  have j0 : ((x1.toNat : Int) == 0) = false := by simp; exact fun e => n0 (by rw [e]; rfl)
  clear k0' k1' h1 n0
  go_enter Try.func28, Try.ntmps28
  go_wp2
  go_ret3
  exact ⟨rfl, bel_new _ _⟩

set_option maxHeartbeats 1000000 in
theorem ydir_three2 (x0 x1 x2 : Byte) (cr ch sq : Int) (b off c : Nat) (w : World) (hlt : b < w.heap.size) (k0' : w.cell? ⟨b, off, none⟩ = some (.int .u8 (x0.toNat : Int))) (k1' : w.cell? ⟨b, off + 1, none⟩ = some (.int .u8 (x1.toNat : Int))) (k2' : w.cell? ⟨b, off + 2, none⟩ = some (.int .u8 (x2.toNat : Int))) (h0 : x0 = 130#8) (h1 : x1 = 0#8) :
    Calls Try.prog 28 #[.agg #[.bool true, .bool true, .int .i64 cr, .int .i64 ch, .int .i64 sq, .slice (some ⟨b, off, none⟩) 3 c]] w fun e w' => e = .returned (.tuple #[.int .i64 1, .int .i64 (x2.toNat : Int), .bool true]) ∧ Below w.heap.size w w' := by
  have k0 : (w.alloc (.cells #[.bool true, .bool true, .int .i64 cr, .int .i64 ch, .int .i64 sq, .slice (some ⟨b, off, none⟩) 3 c] 32)).cell? ⟨b, off, none⟩ = some (.int .u8 (x0.toNat : Int)) := ((bel_new w _).cell (p := ⟨b, off, none⟩) hlt).trans k0'
  have k1 : (w.alloc (.cells #[.bool true, .bool true, .int .i64 cr, .int .i64 ch, .int .i64 sq, .slice (some ⟨b, off, none⟩) 3 c] 32)).cell? ⟨b, off + 1, none⟩ = some (.int .u8 (x1.toNat : Int)) := ((bel_new w _).cell (p := ⟨b, off + 1, none⟩) hlt).trans k1'
  have k2 : (w.alloc (.cells #[.bool true, .bool true, .int .i64 cr, .int .i64 ch, .int .i64 sq, .slice (some ⟨b, off, none⟩) 3 c] 32)).cell? ⟨b, off + 2, none⟩ = some (.int .u8 (x2.toNat : Int)) := ((bel_new w _).cell (p := ⟨b, off + 2, none⟩) hlt).trans k2'
  subst h0 h1
  clear k0' k1' k2'
  go_enter Try.func28, Try.ntmps28
  go_wp2
  go_quiet (fail)
  go_wp2
  go_ret3
  exact ⟨rfl, (bel_new _ _).trans (bel_drewN _ _ _)⟩

theorem ydirective_any (byp con : Bool) (cr ch sq : Int) (a : Option Addr) (l : List Byte) (n c : Nat) (w : World) (hD : Rd w a l n c) :
    Calls Try.prog 28 #[.agg #[.bool byp, .bool con, .int .i64 cr, .int .i64 ch, .int .i64 sq, .slice a n c]] w fun e w' => e = .returned (.tuple #[.int .i64 (dir byp con l).1, .int .i64 (dir byp con l).2.1, .bool (dir byp con l).2.2]) ∧ Below w.heap.size w w' := by
  cases byp with
  | false => rw [dir_off rfl]; exact ydir_noByp con cr ch sq a n c w
  | true =>
    cases con with
    | false => rw [dir_off rfl]; exact ydir_noCon cr ch sq a n c w
    | true =>
      have hlen := hD.len
      match l, hlen, hD with
      | [x0], hlen, hD =>
        subst hlen
        obtain ⟨b, off, rfl, hlt, hc⟩ := hD.bs (by simp)
        have k0 := hc 0 x0 rfl
        by_cases h0 : x0 = 0#8
        · rw [h0, dir_unlock]
          exact ydir_one0 x0 cr ch sq b off c w hlt k0 h0
        · rw [dir_else (by simpa using h0) (by simp)]
          exact ydir_one1 x0 cr ch sq b off c w hlt k0 h0
      | [x0, x1, x2], hlen, hD =>
        subst hlen
        obtain ⟨b, off, rfl, hlt, hc⟩ := hD.bs (by simp)
        have k0 := hc 0 x0 rfl
        have k1 := hc 1 x1 rfl
        have k2 := hc 2 x2 rfl
        by_cases h0 : x0 = 130#8
        · by_cases h1 : x1 = 0#8
          · rw [h0, h1, dir_next]
            exact ydir_three2 x0 x1 x2 cr ch sq b off c w hlt k0 k1 k2 h0 h1
          · rw [dir_else (by simp) (by simp [h1])]
            exact ydir_three1 x0 x1 cr ch sq b off c w hlt k0 k1 h0 h1
        · rw [dir_else (by simp) (by simp [h0])]
          exact ydir_three0 x0 cr ch sq b off c w hlt k0 h0
      | [], hlen, hD =>
        rw [dir_else (by simp) (by simp)]
        exact ydir_else cr ch sq a n c w (by simp at hlen; omega) (by simp at hlen; omega)
      | [_, _], hlen, hD =>
        rw [dir_else (by simp) (by simp)]
        exact ydir_else cr ch sq a n c w (by simp at hlen; omega) (by simp at hlen; omega)
      | _ :: _ :: _ :: _ :: r, hlen, hD =>
        rw [dir_else (by simp) (by simp)]
        exact ydir_else cr ch sq a n c w (by simp at hlen; omega) (by simp at hlen; omega)
end Go.Proofs.Ytdjopkfibfgjeaa.Tcf
