/-
  slices.SortFunc at ranges, by byFrom: the shelf's contract, in the words Os and Only.
-/
import Derived.Test.YtaaikmncdgfkmaaRngIter
import Derived.Test.YtaaikmncdgfkmaaLay
import Derived.Shelf.SlSortCmp.NoneTotal
namespace Go.Proofs.Ytaaikmncdgfkmaa.Rng
open Go.Shelf Go.RowKit Go.Lib Go.Sort

theorem flatK_flat (l : List R) : flatK enc 2 l.toArray = (flat l).toArray := by
  refine Array.ext (by simp [flat_length]) fun t h1 h2 => ?_
  have ht : t < l.length * 2 := by simpa using h1
  have e1 := get_flatK enc 2 l.toArray t (by simpa using ht)
  rw [getElem!_pos _ t h1] at e1
  rw [e1]
  have hj : t / 2 < l.length := by omega
  have hx : l[t / 2]? = some l[t / 2] := List.getElem?_eq_getElem hj
  have e2 : l.toArray[t / 2]! = l[t / 2] := by simp [hj]
  rw [e2]
  have key : (flat l)[t]? = some (((enc l[t / 2])[t % 2]!)) := by
    rcases Nat.mod_two_eq_zero_or_one t with h | h
    · have := flat_fst hx
      rw [show t / 2 * 2 = t by omega] at this
      rw [this, h]; rfl
    · have := flat_snd hx
      rw [show t / 2 * 2 + 1 = t by omega] at this
      rw [this, h]; rfl
  have h3 : t < (flat l).length := by rw [flat_length]; exact ht
  rw [List.getElem?_eq_getElem h3] at key
  have := Option.some.inj key
  simpa using this.symm

theorem Os.holds {w : World} {base g n cap : Nat} {e : TypeId} {l : List R} (h : Os w base e (.slice (some ⟨g, 0, none⟩) n cap) l) : HoldsK enc 2 w g 0 l.toArray := by
  have hcells := World.ownsRow.cells h (g := g) rfl
  have hfr : ∀ i, w.frozen? ⟨g, i, none⟩ = false := by
    rcases h.2 with ⟨he, _⟩ | ⟨g', cap', cur, he, _, hh, _⟩
    · cases he
    · cases he; exact fun i => Cel.free (t := e) hh i
  intro j hj
  rw [flatK_flat] at hj ⊢
  have hj' : j < (flat l).length := by simpa using hj
  have := hcells j _ (List.getElem?_eq_getElem hj')
  rw [add_zero_cell] at this
  rw [Nat.zero_add, this]
  exact ⟨by simp [hj'], hfr j⟩

theorem Os.sorted {w : World} {base g n cap q : Nat} {e : TypeId} {l s : List R} {os : Array Obj} (h : Os w base e (.slice (some ⟨g, 0, none⟩) n cap) l) (hs : s.length = l.length) :
    Os (sortWorldK enc 2 w g 0 q s.toArray os) base e (.slice (some ⟨g, 0, none⟩) n cap) s ∧ Only [g] w (sortWorldK enc 2 w g 0 q s.toArray os) := by
  have hg : g < w.heap.size := ((World.ownsRow.lt h) g rfl).2
  have hsize : (putRowK enc 2 (Sort.ahead w q) g 0 s.toArray).heap.size = w.heap.size := by unfold putRowK; rw [size_putRow]; rfl
  have hold : ∀ k, k < w.heap.size → (sortWorldK enc 2 w g 0 q s.toArray os).heap[k]? = (putRowK enc 2 (Sort.ahead w q) g 0 s.toArray).heap[k]? := fun k hk => by
    unfold sortWorldK grow
    exact Array.getElem?_append_left (by rw [hsize]; exact hk)
  constructor
  · rcases h.2 with ⟨he, _⟩ | ⟨g', cap', cur, he, hb, hh, hn, hm, hc, ht⟩
    · cases he
    · cases he
      refine ⟨flat_length s, .inr ⟨g, cap, putCells id 0 (flat s).toArray cur, by rw [hs], hb, ?_, by omega, hm, by simpa [putCells] using hc, ?_⟩⟩
      · rw [hold g hg]
        simp [putRowK, putRow, mapBlock, Sort.ahead, Array.getElem?_modify, hh, onCells, flatK_flat]
      · apply List.ext_getElem?
        intro j
        rw [List.getElem?_take, Array.getElem?_toList]
        by_cases hj : j < s.length * 2
        · have hjc : j < cur.size := by omega
          have hjf : j < (flat s).length := by rw [flat_length]; exact hj
          simp only [if_pos hj, putCells, Array.getElem?_mapIdx, Array.getElem?_eq_getElem hjc, Option.map_some]
          rw [if_pos (by simp; omega), List.getElem?_eq_getElem hjf]
          simp [hjf]
        · rw [if_neg hj, List.getElem?_eq_none (by rw [flat_length]; omega)]
  · refine ⟨rfl, rfl, rfl, ?_, fun k hk hkg => ?_⟩
    · unfold sortWorldK grow
      simp [hsize]
    · rw [hold k hk]
      have : g ≠ k := fun e => hkg (by simp [e])
      simp [putRowK, putRow, mapBlock, Sort.ahead, Array.getElem?_modify, this]

theorem ltFrom (x y : R) : ltOf (fun x y : R => Lib.compareInt x.1 y.1) x y = decide (x.1 < y.1) := by
  unfold ltOf Lib.compareInt
  by_cases h1 : x.1 < y.1
  · simp [h1]
  · by_cases h2 : y.1 < x.1 <;> simp [h1, h2]
theorem swoFrom : SWO (ltOf fun x y : R => Lib.compareInt x.1 y.1) where
  irrefl x := by rw [ltFrom]; simp
  trans x y z h1 h2 := by rw [ltFrom] at *; simp at *; omega
  ntrans x y z h1 h2 := by rw [ltFrom] at *; simp at *; omega

set_option maxHeartbeats 1000000 in
theorem byFrom_any (x y : R) (w : World) : Calls Try.prog 66 #[.agg #[I x.1, I x.2], .agg #[I y.1, I y.2]] w fun e w' => e = .returned (.int .i64 (Lib.compareInt x.1 y.1)) ∧ ∃ q os', w' = grow (w.drewN q) os' := by
  have hcon := fun W' => AnyG.cmp_Compare_int cmpInt x.1 y.1 W'
  change ∀ W', Calls Try.prog 72 _ _ _ at hcon
  generalize Lib.compareInt x.1 y.1 = r at hcon ⊢
  go_enter Try.func66, Try.ntmps66
  go_wp2_with (go_at_call 72; refine (hcon _).mono ?_; rintro e w' ⟨rfl, rfl⟩)
  go_ret
  exact ⟨rfl, 0, _, by rw [alloc_eq_grow, alloc_eq_grow, grow_grow]; rfl⟩

set_option maxHeartbeats 1000000 in
theorem sort_any (l : List R) (w : World) (base : Nat) (v : Value) (h : Os w base 62 v l) (hl : l.length ≤ 1099511627776) :
    Calls Try.prog 70 #[v, .func (.func 66) #[] #[]] w fun e w' => e = .returned (.tuple #[]) ∧
      ∃ s, s.Pairwise (fun a b : R => a.1 ≤ b.1) ∧ s.Perm l ∧ Os w' base 62 v s ∧ Only v.ownBlock.toList w w' := by
  have h0 := h
  rcases h.2 with ⟨rfl, hn⟩ | ⟨g, cap, cur, rfl, _, hh, _⟩
  · have hz := List.eq_nil_of_length_eq_zero hn
    subst hz
    have hcon := AnyF.slices_SortFunc_none sortR none 0 (.func (.func 66) #[] #[]) w
    change Calls Try.prog 70 _ _ _ at hcon
    exact hcon.mono fun e w' ⟨he, hw⟩ => ⟨he, [], List.Pairwise.nil, List.Perm.refl _, hw ▸ h0, by rw [hw]; exact Only.refl _ w⟩
  · have eg : ∀ args w, (callFunc 66 args).run Try.prog w = .ok (.enter 66 args) w := enters_of Try.func66 (by kernel_rfl) rfl
    have hcon := AnyQ.slices_SortFunc sortR 2 Try.isAgg62 Try.sizeOf62 enc (fun _ => rfl) (fun x v hv => by simp [enc] at hv; rcases hv with rfl | rfl <;> rfl) (fun x y => Lib.compareInt x.1 y.1) swoFrom 66 #[] g 0 cap l.toArray w eg
      (fun _ _ _ _ x y => byFrom_any x y _) h0.holds (lt_of_block hh) (by simp; omega)
    change Calls Try.prog 70 _ _ _ at hcon
    simp only [List.size_toArray] at hcon
    refine hcon.mono ?_
    rintro e w' ⟨he, d', n, os, ⟨hsz, _, hperm⟩, hso, rfl⟩
    have hd : d' = d'.toList.toArray := by simp
    have hlen : d'.toList.length = l.length := by simpa using hsz
    have e1 : d'.extract 0 l.length = d' := by rw [show l.length = d'.size by simpa using hsz.symm]; exact Array.extract_size
    have e2 : l.toArray.extract 0 l.length = l.toArray := by simp
    rw [e1, e2] at hperm
    obtain ⟨r1, r2⟩ := h0.sorted (q := n) (os := os) hlen
    rw [← hd] at r1 r2
    refine ⟨he, d'.toList, ?_, by simpa using hperm, r1, r2⟩
    rw [List.pairwise_iff_getElem]
    intro i j hi hj hij
    have hi' : i < d'.size := by simpa using hi
    have hj' : j < d'.size := by simpa using hj
    have := hso i j (Nat.zero_le _) hij (by omega)
    rw [ltFrom, getElem!_pos d' j hj', getElem!_pos d' i hi'] at this
    simpa using this
end Go.Proofs.Ytaaikmncdgfkmaa.Rng
