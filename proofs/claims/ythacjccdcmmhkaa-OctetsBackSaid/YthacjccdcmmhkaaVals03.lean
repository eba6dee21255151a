/-
  The argument of the laws of chapter 3: a slice of values; the walk of 'light'.
-/
import Derived.Test.YthacjccdcmmhkaaRows
import Derived.Test.YthacjccdcmmhkaaRecs
import Derived.Test.YthacjccdcmmhkaaCel
import Derived.Test.YthacjccdcmmhkaaBase
import Derived.ChangeSlices
namespace Go.Proofs.Ythacjccdcmmhkaa
open Go.RowKit Go.ChangeShapes Go.WideShapes Go.Deep

/-- a value to write, or a read -/
structure V4 where
  k : Int
  n : Int
  s : Int
  A : Option Addr
  c : Nat
  b : List Byte
instance : Inhabited V4 := ⟨⟨0, 0, 0, none, 0, []⟩⟩

structure VOk (w : World) (v : V4) : Prop where
  k : (Lit.int .i64 v.k).wf = true
  n : (Lit.int .i64 v.n).wf = true
  s : (Lit.int .i64 v.s).wf = true
  b : Bs w w.heap.size v.A v.b
  none : v.A = none → v.c = 0
  len : v.b.length ≤ v.c
  cap : v.c ≤ maxLen

/-- 'a' leads to the values l, four cells each -/
def Vals (w : World) (a : Option Addr) (l : List V4) : Prop :=
  ∀ i v, l[i]? = some v → ∃ b off, a = some ⟨b, off, none⟩ ∧ b < w.heap.size ∧ w.cell? ⟨b, off + i * 4, none⟩ = some (.int .i64 v.k) ∧ w.cell? ⟨b, off + i * 4 + 1, none⟩ = some (.int .i64 v.n) ∧
    w.cell? ⟨b, off + i * 4 + 2, none⟩ = some (.int .i64 v.s) ∧ w.cell? ⟨b, off + i * 4 + 3, none⟩ = some (.slice v.A v.b.length v.c) ∧ VOk w v

section
variable {H : Type} {enc : TypeId × Value → H} {w : World} {base : Nat} {held : Bool}

theorem open_vals {r : Reach} {b0 : Nat} {v : Value} {d : DataW H} {ps : List MemPlace} (hval : Value.okWide Try.prog w r b0 22 v) (hd : DataW.Trod enc Try.prog w base (fun _ => true) held 22 v d ps) :
    ∃ a cap, ∃ l : List V4, v = .slice a l.length cap ∧ (a = none → cap = 0) ∧ l.length ≤ cap ∧ cap ≤ maxLen ∧ Vals w a l := by
  obtain ⟨a0, len0, cap0, rfl⟩ := okWide_slice Try.underlying22 hval
  obtain ⟨fuel, hf⟩ := hd
  rcases open_recs Try.underlying22 Try.underlying31 (hone_of (by kernel_rfl)) (by kernel_rfl) hf with hcs | ⟨a, len, cap, n, V, hcs, hl, hm, hx⟩
  · simp [Value.cells] at hcs
    obtain ⟨rfl, rfl, rfl⟩ := hcs
    exact ⟨none, 0, [], rfl, fun _ => rfl, by simp, by simp, fun i v hv => by simp at hv⟩
  · simp [Value.cells] at hcs
    obtain ⟨rfl, rfl, rfl⟩ := hcs
    have sel : ∀ i, i < len0 → ∃ v : V4, V i 0 = .int .i64 v.k ∧ V i 1 = .int .i64 v.n ∧ V i 2 = .int .i64 v.s ∧ V i 3 = .slice v.A v.b.length v.c ∧ VOk w v := by
      intro i hi
      obtain ⟨c0, d0, t0⟩ := hx i hi 0 _ rfl
      obtain ⟨c1, d1, t1⟩ := hx i hi 1 _ rfl
      obtain ⟨c2, d2, t2⟩ := hx i hi 2 _ rfl
      obtain ⟨c3, d3, t3⟩ := hx i hi 3 _ rfl
      obtain ⟨k, hk, _, wk⟩ := DataW.trod_int Try.underlying3 t0
      obtain ⟨m, hm', _, wm⟩ := DataW.trod_int Try.underlying3 t1
      obtain ⟨s, hs, _, ws⟩ := DataW.trod_int Try.underlying3 t2
      have hrow : ∃ a n c zs, V i 3 = .slice a n c ∧ IsRow .u8 w a n c zs := by
        rcases open_ints Try.underlying27 Try.underlying5 (by kernel_rfl) t3 with ⟨hcs, _⟩ | ⟨x, n', c', zs, hcs, _, hl', hm'', hz, _, hcell, hwz⟩
        · injection hcs with hcs
          exact ⟨none, 0, 0, [], hcs, .inl ⟨rfl, rfl, rfl, rfl⟩⟩
        · injection hcs with hcs
          exact ⟨some x, n', c', zs, hcs, .inr ⟨x, rfl, hl', hm'', by simpa using hz, hcell, hwz⟩⟩
      obtain ⟨A, n', c', zs, h3, hr⟩ := hrow
      obtain ⟨B, rfl, hb, hn, hlc, hcm⟩ := hr.bytes
      injection hk with hk
      injection hm' with hm'
      injection hs with hs
      exact ⟨⟨k, m, s, A, c', B⟩, hk, hm', hs, h3, ⟨wk, wm, ws, hb, hn, hlc, hcm⟩⟩
    obtain ⟨F, hF⟩ := choose_lt sel
    have hlen : ((List.range len0).map F).length = len0 := by simp
    refine ⟨some a, cap0, (List.range len0).map F, by rw [hlen], (fun h => nomatch h), by rw [hlen]; exact hl, hm, fun i v hv => ?_⟩
    rw [List.getElem?_map] at hv
    by_cases hi : i < len0
    · rw [List.getElem?_range hi] at hv
      injection hv with hv
      subst hv
      obtain ⟨e0, e1, e2, e3, ok⟩ := hF i hi
      have c0 := (hx i hi 0 _ rfl).1
      have c1 := (hx i hi 1 _ rfl).1
      have c2 := (hx i hi 2 _ rfl).1
      have c3 := (hx i hi 3 _ rfl).1
      obtain ⟨b, off, spot⟩ := a
      have hs : spot = none := by
        have := World.cell?_spot (hx 0 (by omega) 0 _ rfl).1
        simpa [Addr.add] using this
      subst hs
      rw [add_plain] at c0 c1 c2 c3
      rw [e0] at c0
      rw [e1] at c1
      rw [e2] at c2
      rw [e3] at c3
      exact ⟨b, off, rfl, lt_of_cell c0, c0, c1, c2, c3, ok⟩
    · rw [List.getElem?_eq_none (by simpa using hi)] at hv
      cases hv
end

def lightB (l : List V4) : Bool := decide (l.length ≤ 40) && l.all fun v => decide (v.b.length ≤ 200)
theorem light_at {l : List V4} (h : lightB l = true) : l.length ≤ 40 ∧ ∀ (i : Nat) (v : V4), l[i]? = some v → v.b.length ≤ 200 := by
  unfold lightB at h
  simp only [Bool.and_eq_true, decide_eq_true_eq, List.all_eq_true] at h
  exact ⟨h.1, fun i v hv => h.2 v (List.mem_of_getElem? hv)⟩

set_option maxHeartbeats 1000000 in
theorem light_any (a : Option Addr) (l : List V4) (c : Nat) (w : World) (hm : l.length ≤ maxLen) (hv : Vals w a l) :
    Calls Try.prog 8 #[.slice a l.length c] w fun e w' => e = .returned (.bool (lightB l)) ∧ w = w' := by
  unfold maxLen at hm
  by_cases h40 : 40 < l.length
  · have hb : lightB l = false := by unfold lightB; rw [decide_eq_false (by omega)]; rfl
    have t1 : (40 : Int) < (l.length : Int) := by omega
    rw [hb]
    clear hb
    go_enter Try.func8, Try.ntmps8
    go_wp2
    go_ret
    exact ⟨rfl, rfl⟩
  · have t1 : decide ((40 : Int) < (l.length : Int)) = false := by simp; omega
    have hb : lightB l = l.all fun v => decide (v.b.length ≤ 200) := by unfold lightB; rw [decide_eq_true (by omega)]; rfl
    have HB := Lib.hid hb
    obtain ⟨R, hR⟩ : ∃ R, R = lightB l := ⟨_, rfl⟩
    rw [← hR]
    have HR := Lib.hid hR
    clear hb hR
    go_enter Try.func8, Try.ntmps8
    go_wp2
    go_loop [3] (fun i => ∃ j : Nat, j ≤ l.length ∧ i = .int .i64 j ∧ ∀ m v, m < j → l[m]? = some v → v.b.length ≤ 200) (fun i => l.length - (intOf i).toNat)
    case atStart => exact ⟨0, Nat.zero_le _, rfl, fun m v h => by omega⟩
    case round =>
      obtain ⟨j, hj, rfl, hall⟩ := hrel
      by_cases hlt : j < l.length
      · obtain ⟨v, hvj⟩ : ∃ v, l[j]? = some v := ⟨_, List.getElem?_eq_getElem hlt⟩
        obtain ⟨b, off, rfl, _, _, _, _, c3, ok⟩ := hv j v hvj
        have i0 : (0 : Int) ≤ (j : Int) := Int.natCast_nonneg _
        have i1 : (j : Int) < (l.length : Int) := by omega
        obtain ⟨n, hn⟩ : ∃ n, n = v.b.length := ⟨_, rfl⟩
        rw [← hn] at c3
        have HV := Lib.hid (And.intro hvj hn)
        clear hvj
        by_cases hbig : 200 < n
        · have t2 : (200 : Int) < (n : Int) := by omega
          have hbad : R = false := by
            obtain ⟨hvj, hn⟩ := HV.out
            rw [HR.out, HB.out, List.all_eq_false]
            exact ⟨v, List.mem_of_getElem? hvj, by simp; omega⟩
          subst hbad
          clear hn hall
          go_wp2
          go_ret
          exact ⟨rfl, rfl⟩
        · have t2 : decide ((200 : Int) < (n : Int)) = false := by simp; omega
          have t3 : decide (200 < n) = false := by simp; omega
          have hall2 : ∀ m u, m < j + 1 → l[m]? = some u → u.b.length ≤ 200 := fun m u hm1 hu => by
            obtain ⟨hvj, hn⟩ := HV.out
            by_cases hmj : m = j
            · subst hmj
              rw [hvj] at hu
              injection hu with hu
              subst hu
              omega
            · exact hall m u (by omega) hu
          clear hn hall hbig
          go_wp2
          go_round
          case rel => exact ⟨j + 1, by omega, by go_num, hall2⟩
          case measure => simp [intOf]; omega
      · have hgood : R = true := by
          rw [HR.out, HB.out, List.all_eq_true]
          intro v hv2
          obtain ⟨m, hm2, hmv⟩ := List.mem_iff_getElem.1 hv2
          have := hall m v (by omega) (by rw [List.getElem?_eq_getElem hm2, hmv])
          simpa using this
        subst hgood
        clear hall
        go_wp2
        go_ret
        exact ⟨rfl, rfl⟩
end Go.Proofs.Ythacjccdcmmhkaa
