/-
  slices.SortFunc at the channels: the shelf's contract, in the words Os and Only.
-/
import Derived.Test.YtpfhbojodapomaaMuxW1
import Derived.Test.YtpfhbojodapomaaMuxMath2
import Derived.Test.YtpfhbojodapomaaLay
import Derived.Shelf.SlSortCmp.SmallK
namespace Go.Proofs.Ytpfhbojodapomaa.Mux
open Go.Shelf Go.RowKit Go.Lib Go.Sort Go.Proofs.Ytpfhbojodapomaa.Row

theorem flatK_flat (l : List Ch) : flatK encC 5 l.toArray = (flat encC l).toArray := by
  refine Array.ext (by simp [flat_length encC_ok]) fun t h1 h2 => ?_
  have ht : t < l.length * 5 := by simpa using h1
  have e1 := get_flatK encC 5 l.toArray t (by simpa using ht)
  rw [getElem!_pos _ t h1] at e1
  rw [e1]
  have hj : t / 5 < l.length := by omega
  have hx : l[t / 5]? = some l[t / 5] := List.getElem?_eq_getElem hj
  have e2 : l.toArray[t / 5]! = l[t / 5] := by simp [hj]
  rw [e2]
  have hm : t % 5 < (encC l[t / 5]).length := by show t % 5 < 5; omega
  have key := flat_at encC_ok hx (List.getElem?_eq_getElem hm)
  rw [show t / 5 * 5 + t % 5 = t by omega] at key
  have h3 : t < (flat encC l).length := by rw [flat_length encC_ok]; exact ht
  rw [List.getElem?_eq_getElem h3] at key
  have := Option.some.inj key
  have e3 : (encC l[t / 5])[t % 5]! = (encC l[t / 5])[t % 5] := getElem!_pos (encC l[t / 5]) (t % 5) hm
  rw [e3]
  simpa using this.symm

theorem os_holds {w : World} {base g n cap : Nat} {e : TypeId} {l : List Ch} (h : Row.Os encC 5 w base e (.slice (some ⟨g, 0, none⟩) n cap) l) : HoldsK encC 5 w g 0 l.toArray := by
  have hcells := World.ownsRow.cells h (g := g) rfl
  have hfr : ∀ i, w.frozen? ⟨g, i, none⟩ = false := by
    rcases h.2 with ⟨he, _⟩ | ⟨g', cap', cur, he, _, hh, _⟩
    · cases he
    · cases he; exact fun i => Cel.free (t := e) hh i
  intro j hj
  rw [flatK_flat] at hj ⊢
  have hj' : j < (flat encC l).length := by simpa using hj
  have := hcells j _ (List.getElem?_eq_getElem hj')
  rw [add_zero_cell] at this
  rw [Nat.zero_add, this]
  exact ⟨by simp [hj'], hfr j⟩

theorem os_sorted {w : World} {base g n cap q : Nat} {e : TypeId} {l s : List Ch} {os : Array Obj} (h : Row.Os encC 5 w base e (.slice (some ⟨g, 0, none⟩) n cap) l) (hs : s.length = l.length) :
    Row.Os encC 5 (sortWorldK encC 5 w g 0 q s.toArray os) base e (.slice (some ⟨g, 0, none⟩) n cap) s ∧ Only [g] w (sortWorldK encC 5 w g 0 q s.toArray os) := by
  have hg : g < w.heap.size := ((World.ownsRow.lt h) g rfl).2
  have hsize : (putRowK encC 5 (Sort.ahead w q) g 0 s.toArray).heap.size = w.heap.size := by unfold putRowK; rw [size_putRow]; rfl
  have hold : ∀ k, k < w.heap.size → (sortWorldK encC 5 w g 0 q s.toArray os).heap[k]? = (putRowK encC 5 (Sort.ahead w q) g 0 s.toArray).heap[k]? := fun k hk => by
    unfold sortWorldK grow
    exact Array.getElem?_append_left (by rw [hsize]; exact hk)
  constructor
  · rcases h.2 with ⟨he, _⟩ | ⟨g', cap', cur, he, hb, hh, hn, hm, hc, ht⟩
    · cases he
    · cases he
      refine ⟨flat_length encC_ok s, .inr ⟨g, cap, putCells id 0 (flat encC s).toArray cur, by rw [hs], hb, ?_, by omega, hm, by simpa [putCells] using hc, ?_⟩⟩
      · rw [hold g hg]
        simp [putRowK, putRow, mapBlock, Sort.ahead, Array.getElem?_modify, hh, onCells, flatK_flat]
      · apply List.ext_getElem?
        intro j
        rw [List.getElem?_take, Array.getElem?_toList]
        by_cases hj : j < s.length * 5
        · have hjc : j < cur.size := by omega
          have hjf : j < (flat encC s).length := by rw [flat_length encC_ok]; exact hj
          simp only [if_pos hj, putCells, Array.getElem?_mapIdx, Array.getElem?_eq_getElem hjc, Option.map_some]
          rw [if_pos (by simp; omega), List.getElem?_eq_getElem hjf]
          simp [hjf]
        · rw [if_neg hj, List.getElem?_eq_none (by rw [flat_length encC_ok]; omega)]
  · refine ⟨rfl, rfl, rfl, ?_, fun k hk hkg => ?_⟩
    · unfold sortWorldK grow
      simp [hsize]
    · rw [hold k hk]
      have : g ≠ k := fun e => hkg (by simp [e])
      simp [putRowK, putRow, mapBlock, Sort.ahead, Array.getElem?_modify, this]

theorem ltC (x y : Ch) : ltOf cmpC x y = decide (x.pr < y.pr ∨ (x.pr = y.pr ∧ x.id < y.id)) := by
  unfold ltOf cmpC cmpI
  rw [decide_eq_decide]
  by_cases h1 : x.pr < y.pr
  · rw [if_pos h1]; simp [h1]
  · rw [if_neg h1]
    by_cases h2 : y.pr < x.pr
    · rw [if_pos h2]; simp; omega
    · rw [if_neg h2]
      simp only [ne_eq, not_true, if_false]
      by_cases h3 : x.id < y.id
      · rw [if_pos h3]; simp; omega
      · rw [if_neg h3]
        by_cases h4 : y.id < x.id
        · rw [if_pos h4]; simp; omega
        · rw [if_neg h4]; simp; omega
theorem swoC : SWO (ltOf cmpC) where
  irrefl x := by rw [ltC]; simp
  trans x y z h1 h2 := by rw [ltC] at *; simp at *; omega
  ntrans x y z h1 h2 := by rw [ltC] at *; simp at *; omega

set_option maxHeartbeats 4000000 in
theorem len_any (n : Nat) (hn : n ≤ 12) (W : World) : Calls Try.prog 31 #[.int .u64 n] W fun e w' => (∃ l : Int, e = .returned (.int .i64 l)) ∧ w' = W := by
  have hcon : Calls Try.prog 43 #[.int .u64 n] W fun e w' => (∃ l : Int, e = .returned (.int .i64 l)) ∧ w' = W := by
    rcases (by omega : n = 0 ∨ n = 1 ∨ n = 2 ∨ n = 3 ∨ n = 4 ∨ n = 5 ∨ n = 6 ∨ n = 7 ∨ n = 8 ∨ n = 9 ∨ n = 10 ∨ n = 11 ∨ n = 12) with rfl | rfl | rfl | rfl | rfl | rfl | rfl | rfl | rfl | rfl | rfl | rfl | rfl
    all_goals
      go_enter Try.func43, Try.ntmps43
      go_wp2
      go_ret
      exact ⟨⟨_, rfl⟩, rfl⟩
  go_enter Try.func31, Try.ntmps31
  go_wp2_with fail
  refine hcon.mono ?_
  rintro e w1 ⟨⟨l, rfl⟩, rfl⟩
  go_wp2_with fail
  go_ret
  exact ⟨⟨l, rfl⟩, rfl⟩

/-! ### at no channel -/
set_option maxHeartbeats 1000000 in
theorem ins_none (f : Value) (w : World) : Calls Try.prog 34 #[.slice none 0 0, .int .i64 0, .int .i64 0, f] w fun e w' => e = .returned (.tuple #[]) ∧ w = w' := by
  go_enter Try.func34, Try.ntmps34
  go_wp2
  refine wp_loop_rounds 1 ?_
  rw [rounds_succ]
  go_wp2
  go_end0
  exact ⟨rfl, rfl⟩
set_option maxHeartbeats 2000000 in
set_option maxRecDepth 100000 in
theorem pdq_none (f : Value) (l : Int) (w : World) : Calls Try.prog 30 #[.slice none 0 0, .int .i64 0, .int .i64 0, .int .i64 l, f] w fun e w' => e = .returned (.tuple #[]) ∧ w = w' := by
  have hi := ins_none f w
  go_enter Try.func30, Try.ntmps30
  go_wp2
  refine wp_loop_rounds 1 ?_
  rw [rounds_succ]
  go_wp2_with (go_at_call 34; refine hi.mono ?_; rintro e w1 ⟨rfl, rfl⟩)
  (try simp only [Exit.inBlock, Exit.then]); refine bodyPost_ret (results_none rfl _ _ _) rfl ?_
  exact ⟨rfl, rfl⟩
set_option maxHeartbeats 1000000 in
theorem sort_none (f : Value) (w : World) : Calls Try.prog 18 #[.slice none 0 0, f] w fun e w' => e = .returned (.tuple #[]) ∧ w = w' := by
  have h1 := len_any 0 (by omega) w
  have h2 := fun l => pdq_none f l w
  go_enter Try.func18, Try.ntmps18
  go_wp2_with fail
  refine h1.mono ?_
  rintro e w1 ⟨⟨l, rfl⟩, rfl⟩
  go_wp2_with fail
  refine (h2 l).mono ?_
  rintro e w1 ⟨rfl, rfl⟩
  go_wp2_with fail
  go_end0
  exact ⟨rfl, rfl⟩

set_option maxHeartbeats 1000000 in
theorem sort_any (l : List Ch) (w : World) (base : Nat) (v : Value) (h : Row.Os encC 5 w base 53 v l) (hl : l.length ≤ 12) :
    Calls Try.prog 18 #[v, .func (.func 19) #[] #[]] w fun e w' => e = .returned (.tuple #[]) ∧
      ∃ s, Srt s ∧ s.Perm l ∧ Row.Os encC 5 w' base 53 v s ∧ Only v.ownBlock.toList w w' := by
  have h0 := h
  rcases h.2 with ⟨rfl, hn⟩ | ⟨g, cap, cur, rfl, _, hh, _⟩
  · have hz := List.eq_nil_of_length_eq_zero hn
    subst hz
    exact (sort_none (.func (.func 19) #[] #[]) w).mono fun e w' ⟨he, hw⟩ => ⟨he, [], List.Pairwise.nil, List.Perm.refl _, hw ▸ h0, by rw [← hw]; exact Only.refl _ w⟩
  · have eg : ∀ args w, (callFunc 19 args).run Try.prog w = .ok (.enter 19 args) w := enters_of Try.func19 (by kernel_rfl) rfl
    have hcon := AnyQ.slices_SortFunc_small_sorted sortR 5 Try.isAgg53 Try.sizeOf53 encC (fun _ => rfl) encC_ok.one cmpC 19 #[] swoC g 0 cap l.toArray w eg
      (fun _ _ _ _ x y => cmp_chans x y _) (os_holds h0) (lt_of_block hh) (by simpa using hl) (fun n W hn => len_any n hn W)
    change Calls Try.prog 18 _ _ _ at hcon
    simp only [List.size_toArray] at hcon
    refine hcon.mono ?_
    rintro e w' ⟨he, d', n, os, ⟨hsz, _, hperm⟩, hso, rfl⟩
    have hd : d' = d'.toList.toArray := by simp
    have hlen : d'.toList.length = l.length := by simpa using hsz
    have e1 : d'.extract 0 l.length = d' := by rw [show l.length = d'.size by simpa using hsz.symm]; exact Array.extract_size
    have e2 : l.toArray.extract 0 l.length = l.toArray := by simp
    rw [e1, e2] at hperm
    obtain ⟨r1, r2⟩ := os_sorted (q := n) (os := os) h0 hlen
    rw [← hd] at r1 r2
    refine ⟨he, d'.toList, ?_, by simpa using hperm, r1, r2⟩
    unfold Srt
    rw [List.pairwise_iff_getElem]
    intro i j hi hj hij
    have hi' : i < d'.size := by simpa using hi
    have hj' : j < d'.size := by simpa using hj
    have := hso i j (Nat.zero_le _) hij (by omega)
    rw [ltC, getElem!_pos d' j hj', getElem!_pos d' i hi'] at this
    simp at this ⊢
    omega
end Go.Proofs.Ytpfhbojodapomaa.Mux
