/-
  The argument of the law PackerPlays: a slice of calls.
-/
import Derived.Test.YtjjjlgaidklokaaRows
import Derived.Test.YtjjjlgaidklokaaRecs
import Derived.Test.YtjjjlgaidklokaaRd
import Derived.ChangeSlices
namespace Go.Proofs.Ytjjjlgaidklokaa.Pkr
open Go.RowKit Go.ChangeShapes Go.WideShapes Go.Deep

/-- a call -/
structure O19 where
  p : Bool
  A : Option Addr
  c : Nat
  b : List Byte
  q : Bool
instance : Inhabited O19 := ⟨⟨false, none, 0, [], false⟩⟩
/-- 'a' leads to the calls l, three cells each -/
def Ops19 (w : World) (a : Option Addr) (l : List O19) : Prop :=
  ∀ i v, l[i]? = some v → ∃ b off, a = some ⟨b, off, none⟩ ∧ b < w.heap.size ∧ w.cell? ⟨b, off + i * 3, none⟩ = some (.bool v.p) ∧ w.cell? ⟨b, off + i * 3 + 1, none⟩ = some (.slice v.A v.b.length v.c) ∧
    w.cell? ⟨b, off + i * 3 + 2, none⟩ = some (.bool v.q) ∧ Rd w v.A v.b v.b.length v.c

section
variable {H : Type} {enc : TypeId × Value → H} {w : World} {base : Nat} {held : Bool}
theorem open_ops19 {r : Reach} {b0 : Nat} {v : Value} {d : DataW H} {ps : List MemPlace} (hval : Value.okWide Try.prog w r b0 22 v) (hd : DataW.Trod enc Try.prog w base (fun _ => true) held 22 v d ps) :
    ∃ a cap, ∃ l : List O19, v = .slice a l.length cap ∧ (a = none → cap = 0) ∧ l.length ≤ cap ∧ cap ≤ maxLen ∧ Ops19 w a l := by
  obtain ⟨a0, len0, cap0, rfl⟩ := okWide_slice Try.underlying22 hval
  obtain ⟨fuel, hf⟩ := hd
  rcases open_recs Try.underlying22 Try.underlying39 (hone_of (by kernel_rfl)) (by kernel_rfl) hf with hcs | ⟨a, len, cap, n, V, hcs, hl, hm, hx⟩
  · simp [Value.cells] at hcs
    obtain ⟨rfl, rfl, rfl⟩ := hcs
    exact ⟨none, 0, [], rfl, fun _ => rfl, by simp, by simp, fun i v hv => by simp at hv⟩
  · simp [Value.cells] at hcs
    obtain ⟨rfl, rfl, rfl⟩ := hcs
    have sel : ∀ i, i < len0 → ∃ v : O19, V i 0 = .bool v.p ∧ V i 1 = .slice v.A v.b.length v.c ∧ V i 2 = .bool v.q ∧ Rd w v.A v.b v.b.length v.c := by
      intro i hi
      obtain ⟨c0, d0, t0⟩ := hx i hi 0 _ rfl
      obtain ⟨c1, d1, t1⟩ := hx i hi 1 _ rfl
      obtain ⟨c2, d2, t2⟩ := hx i hi 2 _ rfl
      obtain ⟨p, hp, _⟩ := DataW.trod_bool Try.underlying4 t0
      obtain ⟨q, hq, _⟩ := DataW.trod_bool Try.underlying4 t2
      have hrow : ∃ a n c zs, V i 1 = .slice a n c ∧ IsRow .u8 w a n c zs := by
        rcases open_ints Try.underlying28 Try.underlying5 (by kernel_rfl) t1 with ⟨hcs, _⟩ | ⟨x, n', c', zs, hcs, _, hl', hm'', hz, _, hcell, hwz⟩
        · injection hcs with hcs
          exact ⟨none, 0, 0, [], hcs, .inl ⟨rfl, rfl, rfl, rfl⟩⟩
        · injection hcs with hcs
          exact ⟨some x, n', c', zs, hcs, .inr ⟨x, rfl, hl', hm'', by simpa using hz, hcell, hwz⟩⟩
      obtain ⟨A, n', c', zs, h3, hr⟩ := hrow
      obtain ⟨B, rfl, hb, hn, hlc, hcm⟩ := hr.bytes
      injection hp with hp
      injection hq with hq
      exact ⟨⟨p, A, c', B, q⟩, hp, h3, hq, ⟨rfl, hb, hn, hlc, hcm⟩⟩
    obtain ⟨F, hF⟩ := choose_lt sel
    have hlen : ((List.range len0).map F).length = len0 := by simp
    refine ⟨some a, cap0, (List.range len0).map F, by rw [hlen], (fun h => nomatch h), by rw [hlen]; exact hl, hm, fun i v hv => ?_⟩
    rw [List.getElem?_map] at hv
    by_cases hi : i < len0
    · rw [List.getElem?_range hi] at hv
      injection hv with hv
      subst hv
      obtain ⟨e0, e1, e2, ok⟩ := hF i hi
      have c0 := (hx i hi 0 _ rfl).1
      have c1 := (hx i hi 1 _ rfl).1
      have c2 := (hx i hi 2 _ rfl).1
      obtain ⟨b, off, spot⟩ := a
      have hs : spot = none := by
        have := World.cell?_spot (hx 0 (by omega) 0 _ rfl).1
        simpa [Addr.add] using this
      subst hs
      rw [add_plain] at c0 c1 c2
      rw [e0] at c0
      rw [e1] at c1
      rw [e2] at c2
      exact ⟨b, off, rfl, lt_of_cell c0, c0, c1, c2, ok⟩
    · rw [List.getElem?_eq_none (by simpa using hi)] at hv
      cases hv
end

/-- one of the two answers -/
def IsBool (e : Ending) : Prop := ∃ b, e = .returned (.bool b)
theorem IsBool.mk {b : Bool} : IsBool (.returned (.bool b)) := ⟨b, rfl⟩

set_option maxHeartbeats 1000000 in
theorem few19_any (a : Option Addr) (l : List O19) (n c : Nat) (w : World) (hln : Hid (l.length = n)) (hm : n ≤ maxLen) (hv : Ops19 w a l) :
    Calls Try.prog 15 #[.slice a n c] w fun e w' => IsBool e ∧ w = w' := by
  unfold maxLen at hm
  go_enter Try.func15, Try.ntmps15
  go_wp2
  go_loop [3, 4] (fun sv iv => ∃ (j S : Nat), j ≤ n ∧ iv = .int .i64 j ∧ sv = .int .i64 (S : Int) ∧ S ≤ 60000) (fun _ iv => n - (intOf iv).toNat)
  case atStart => exact ⟨0, 0, Nat.zero_le _, rfl, rfl, by omega⟩
  case round =>
    obtain ⟨j, S, hj, rfl, rfl, hS⟩ := hrel
    by_cases hlt : j < n
    · have t1 : decide ((j : Int) < (n : Int)) = true := decide_eq_true (Int.ofNat_lt.2 hlt)
      have t1' : decide (j < n) = true := decide_eq_true hlt
      by_cases h2 : S ≤ 20000
      · have t2 : decide ((S : Int) ≤ 20000) = true := by simp; omega
        have t2' : decide (S ≤ 20000) = true := by simpa using h2
        obtain ⟨v, hvj⟩ : ∃ v, l[j]? = some v := ⟨_, List.getElem?_eq_getElem (by rw [hln.out]; exact hlt)⟩
        obtain ⟨b, off, rfl, _, _, c1, _, _⟩ := hv j v hvj
        have i0 : (0 : Int) ≤ (j : Int) := Int.natCast_nonneg _
        have i1 : (j : Int) < (n : Int) := by omega
        obtain ⟨L, hL⟩ : ∃ L, v.b.length = L := ⟨_, rfl⟩
        rw [hL] at c1
        obtain ⟨M, hM⟩ : ∃ M, min L 30000 = M := ⟨_, rfl⟩
        have hM2 : M ≤ 30000 := by omega
        have m1 : min (L : Int) 30000 = (M : Int) := by omega
        have m2 : (if L < 30000 then (L : Int) else 30000) = (M : Int) := by split <;> omega
        have m3 : (if 30000 < L then (30000 : Int) else (L : Int)) = (M : Int) := by split <;> omega
        have m4 : (if (30000 : Int) < (L : Int) then (30000 : Int) else (L : Int)) = (M : Int) := by split <;> omega
        clear hvj hL hM
        go_wp2
        go_round
        case rel => exact ⟨j + 1, S + 10 + M, by omega, by go_num, by go_num, by omega⟩
        case measure => simp [intOf]; omega
      · have t2 : decide ((S : Int) ≤ 20000) = false := by simp; omega
        have t2' : decide (S ≤ 20000) = false := by simpa using h2
        go_wp2
        all_goals
          go_ret
          exact ⟨IsBool.mk, rfl⟩
    · have t1 : decide ((j : Int) < (n : Int)) = false := by simp; omega
      have t1' : decide (j < n) = false := by simp; omega
      go_wp2
      all_goals
        go_ret
        exact ⟨IsBool.mk, rfl⟩
end Go.Proofs.Ytjjjlgaidklokaa.Pkr
