/-
  Plain mathematics of a token bucket: its state, how it advances, Take, When; what is taken in an interval; no Go in sight.
-/
import Derived.Lib.Hide
namespace Go.Proofs.Ytdccfiobcejngaa.Buc

/-- rate, size, level, time -/
structure BS where
  r : Int
  z : Int
  v : Int
  t : Int
deriving DecidableEq
structure BS.Ok (s : BS) : Prop where
  r0 : 0 ≤ s.r
  r1 : s.r ≤ 2147483648
  z1 : s.z ≤ 2147483648
  v0 : 0 ≤ s.v
  v1 : s.v ≤ s.z
  t0 : 0 ≤ s.t
  t1 : s.t ≤ 1099511627776

/-- the clamped number -/
def cl (n : Int) : Int := min (max n 0) 2147483648
theorem cl_in (n : Int) : 0 ≤ cl n ∧ cl n ≤ 2147483648 := by unfold cl; omega
theorem cl_of {n : Int} (h0 : 0 ≤ n) (h1 : n ≤ 2147483648) : cl n = n := by unfold cl; omega
/-- a new bucket -/
def bs0 (r z : Int) : BS := ⟨cl r, cl z, cl z, 0⟩
theorem bs0_ok (r z : Int) : (bs0 r z).Ok := by
  have a := cl_in r
  have b := cl_in z
  exact ⟨a.1, a.2, b.2, b.1, Int.le_refl _, Int.le_refl _, by show (0 : Int) ≤ 1099511627776; decide⟩
/-- the bucket at a time -/
def adv (s : BS) (n : Int) : BS := if n ≤ s.t ∨ 1099511627776 < n then s else ⟨s.r, s.z, min s.z (s.v + s.r * (n - s.t)), n⟩
theorem adv_no {s : BS} {n : Int} (h : n ≤ s.t ∨ 1099511627776 < n) : adv s n = s := by unfold adv; rw [if_pos h]
theorem adv_yes {s : BS} {n : Int} (h : s.t < n) (h2 : n ≤ 1099511627776) : adv s n = ⟨s.r, s.z, min s.z (s.v + s.r * (n - s.t)), n⟩ := by unfold adv; rw [if_neg (by omega)]
theorem adv_ok {s : BS} (h : s.Ok) (n : Int) : (adv s n).Ok := by
  obtain ⟨h1, h2, h3, h4, h5, h6, h7⟩ := h
  by_cases hn : n ≤ s.t ∨ 1099511627776 < n
  · rw [adv_no hn]
    exact ⟨h1, h2, h3, h4, h5, h6, h7⟩
  · rw [adv_yes (by omega) (by omega)]
    have hp : 0 ≤ s.r * (n - s.t) := Int.mul_nonneg h1 (by omega)
    exact ⟨h1, h2, h3, by simp only; omega, by simp only; omega, by simp only; omega, by simp only; omega⟩
/-- when the missing tokens have come: more than k ticks or not -/
theorem ceil_le {r g k : Int} (hr : 0 < r) : (g + r - 1) / r ≤ k ↔ g ≤ r * k := by
  rw [← Int.lt_add_one_iff, Int.ediv_lt_iff_lt_mul hr, Int.add_mul, Int.one_mul, Int.mul_comm k r]
  omega
theorem floor_lt {r g k : Int} (hr : 0 < r) : g / r < k ↔ g < r * k := by
  rw [Int.ediv_lt_iff_lt_mul hr, Int.mul_comm k r]
theorem ceil_gt {r g k : Int} (hr : 0 < r) : k < (g + r - 1) / r ↔ r * k < g := by
  have := ceil_le (r := r) (g := g) (k := k) hr
  omega
theorem floor_ge {r g k : Int} (hr : 0 < r) : k ≤ g / r ↔ r * k ≤ g := by
  have := floor_lt (r := r) (g := g) (k := k) hr
  omega
theorem ceil_in {r g : Int} (hr : 0 < r) (hg : 0 < g) : 1 ≤ (g + r - 1) / r ∧ (g + r - 1) / r ≤ g := by
  refine ⟨?_, ?_⟩
  · by_cases h : 1 ≤ (g + r - 1) / r
    · exact h
    · have := (ceil_le (r := r) (g := g) (k := 0) hr).1 (by omega)
      rw [Int.mul_zero] at this
      omega
  · rw [ceil_le hr]
    have := Int.mul_le_mul_of_nonneg_right (show 1 ≤ r by omega) (show 0 ≤ g by omega)
    rw [Int.one_mul] at this
    exact this
/-- what Take leaves of an advanced bucket, and whether it takes -/
def tkB (s : BS) (n : Int) : Bool := decide (0 ≤ n ∧ n ≤ s.v)
def tkS (s : BS) (n : Int) : BS := if 0 ≤ n ∧ n ≤ s.v then ⟨s.r, s.z, s.v - n, s.t⟩ else s
theorem tkS_ok {s : BS} (h : s.Ok) (n : Int) : (tkS s n).Ok := by
  unfold tkS
  split
  · obtain ⟨h1, h2, h3, h4, h5, h6, h7⟩ := h
    exact ⟨h1, h2, h3, by simp only; omega, by simp only; omega, h6, h7⟩
  · exact h
theorem tk_yes {s : BS} {n : Int} (h0 : 0 ≤ n) (h1 : n ≤ s.v) : tkB s n = true ∧ tkS s n = ⟨s.r, s.z, s.v - n, s.t⟩ := by
  unfold tkB tkS
  rw [if_pos ⟨h0, h1⟩]
  exact ⟨decide_eq_true ⟨h0, h1⟩, rfl⟩
theorem tk_no {s : BS} {n : Int} (h : n < 0 ∨ s.v < n) : tkB s n = false ∧ tkS s n = s := by
  unfold tkB tkS
  rw [if_neg (by omega)]
  exact ⟨decide_eq_false (by omega), rfl⟩
/-- how long an advanced bucket lacks n tokens -/
def wt (s : BS) (n : Int) : Int × Bool := if n ≤ s.v then (0, true) else if s.r = 0 then (0, false) else ((n - s.v + s.r - 1) / s.r, true)
/-- what When answers at an advanced bucket -/
def wn (s : BS) (n : Int) : Int × Bool :=
  if n < 0 ∨ s.z < n then (0, false)
  else if n ≤ s.v then (s.t, true)
  else if s.r = 0 then (0, false)
  else if 1099511627776 < s.t + (n - s.v + s.r - 1) / s.r then (0, false)
  else (s.t + (n - s.v + s.r - 1) / s.r, true)
/-- a call: what is left -/
def nxt (s : BS) (k : Nat) (n now : Int) : BS := if k = 0 then tkS (adv s now) n else adv s now
theorem nxt_ok {s : BS} (h : s.Ok) (k : Nat) (n now : Int) : (nxt s k n now).Ok := by
  unfold nxt
  split
  · exact tkS_ok (adv_ok h _) _
  · exact adv_ok h _
/-- the level after an advance, as the program reckons it: the product is small where it is reckoned -/
theorem adv_full {s : BS} (h : s.Ok) {n : Int} (hn : s.t < n) (h2 : n ≤ 1099511627776) (hw : (wt s s.z).2 = true) (hle : (wt s s.z).1 ≤ n - s.t) : adv s n = ⟨s.r, s.z, s.z, n⟩ := by
  rw [adv_yes hn h2]
  have hp : 0 ≤ s.r * (n - s.t) := Int.mul_nonneg h.r0 (by omega)
  have hv := h.v1
  have hr := h.r0
  have : min s.z (s.v + s.r * (n - s.t)) = s.z := by
    unfold wt at hw hle
    split at hw
    · omega
    · rename_i hz
      rw [if_neg hz] at hle
      split at hw
      · cases hw
      · rename_i h0
        rw [if_neg h0] at hle
        have := (ceil_le (r := s.r) (g := s.z - s.v) (k := n - s.t) (by omega)).1 hle
        omega
  rw [this]
theorem adv_part {s : BS} (h : s.Ok) {n : Int} (hn : s.t < n) (h2 : n ≤ 1099511627776) (hw : (wt s s.z).2 = false ∨ n - s.t < (wt s s.z).1) : adv s n = ⟨s.r, s.z, s.v + s.r * (n - s.t), n⟩ ∧ 0 ≤ s.r * (n - s.t) ∧ s.r * (n - s.t) ≤ 2147483648 := by
  rw [adv_yes hn h2]
  have hp : 0 ≤ s.r * (n - s.t) := Int.mul_nonneg h.r0 (by omega)
  have hv := h.v1
  have hv0 := h.v0
  have hz1 := h.z1
  have hr := h.r0
  have hle : s.v + s.r * (n - s.t) ≤ s.z := by
    unfold wt at hw
    split at hw
    · simp only at hw
      rcases hw with hw | hw
      · cases hw
      · omega
    · split at hw
      · rename_i h0
        rw [h0, Int.zero_mul]
        omega
      · rename_i h0
        simp only at hw
        rcases hw with hw | hw
        · cases hw
        · have := (ceil_gt (r := s.r) (g := s.z - s.v) (k := n - s.t) (by omega)).1 hw
          omega
  refine ⟨by rw [show min s.z (s.v + s.r * (n - s.t)) = s.v + s.r * (n - s.t) by omega], hp, by omega⟩
/-- the same as the reference reckons it -/
theorem adv_over {s : BS} (h : s.Ok) {n : Int} (hn : s.t < n) (h2 : n ≤ 1099511627776) (hr : s.r ≠ 0) (hd : s.z / s.r < n - s.t) : adv s n = ⟨s.r, s.z, s.z, n⟩ := by
  rw [adv_yes hn h2]
  have h0 := h.r0
  have hv0 := h.v0
  have := (floor_lt (r := s.r) (g := s.z) (k := n - s.t) (by omega)).1 hd
  rw [show min s.z (s.v + s.r * (n - s.t)) = s.z by omega]
theorem adv_under {s : BS} (h : s.Ok) {n : Int} (hn : s.t < n) (hr : s.r ≠ 0) (hd : ¬ s.z / s.r < n - s.t) : 0 ≤ s.r * (n - s.t) ∧ s.r * (n - s.t) ≤ 2147483648 := by
  have h0 := h.r0
  have hz := h.z1
  have := (floor_ge (r := s.r) (g := s.z) (k := n - s.t) (by omega)).1 (by omega)
  exact ⟨Int.mul_nonneg h0 (by omega), by omega⟩
theorem adv_still {s : BS} {n : Int} (hn : s.t < n) (h2 : n ≤ 1099511627776) (hv : s.v ≤ s.z) (hr : s.r = 0) : adv s n = ⟨s.r, s.z, s.v, n⟩ := by
  rw [adv_yes hn h2, hr, Int.zero_mul]
  rw [show min s.z (s.v + 0) = s.v by omega]

/-! ### When and Take -/
theorem adv_zero {s : BS} (h : s.Ok) : adv s 0 = s := adv_no (.inl h.t0)
/-- no time: the greatest one is too early, too -/
theorem first_no {s : BS} (h : s.Ok) {n : Int} (hw : (wn s n).2 = false) : tkB (adv s 1099511627776) n = false := by
  refine (tk_no ?_).1
  have hk := adv_ok h 1099511627776
  have ht := h.t1
  have hr0 := h.r0
  by_cases h1 : n < 0
  · exact .inl h1
  refine .inr ?_
  have hz : (adv s 1099511627776).z = s.z := by unfold adv; split <;> rfl
  by_cases h2 : s.z < n
  · have := hk.v1
    omega
  unfold wn at hw
  rw [if_neg (by omega)] at hw
  split at hw
  · cases hw
  rename_i h3
  by_cases h4 : s.t = 1099511627776
  · rw [adv_no (by omega)]
    omega
  rw [adv_yes (by omega) (by omega)]
  simp only
  split at hw
  · rename_i h5
    rw [h5, Int.zero_mul]
    omega
  rename_i h5
  split at hw
  · rename_i h6
    have := (ceil_gt (r := s.r) (g := n - s.v) (k := 1099511627776 - s.t) (by omega)).1 (by omega)
    omega
  · cases hw
theorem first_yes {s : BS} (h : s.Ok) {n : Int} (hw : (wn s n).2 = true) : tkB (adv s (wn s n).1) n = true ∧ s.t ≤ (wn s n).1 ∧ (wn s n).1 ≤ 1099511627776 ∧ (s.t < (wn s n).1 → tkB (adv s ((wn s n).1 - 1)) n = false) := by
  have hr0 := h.r0
  have ht := h.t1
  unfold wn at hw ⊢
  split at hw
  · cases hw
  rename_i h1
  rw [if_neg h1]
  split at hw
  · rename_i h2
    rw [if_pos h2]
    simp only
    rw [adv_no (.inl (Int.le_refl _))]
    exact ⟨(tk_yes (by omega) h2).1, Int.le_refl _, ht, fun q => absurd q (Int.lt_irrefl _)⟩
  rename_i h2
  rw [if_neg h2]
  split at hw
  · cases hw
  rename_i h3
  rw [if_neg h3]
  split at hw
  · cases hw
  rename_i h4
  rw [if_neg h4]
  simp only
  have hc := ceil_in (r := s.r) (g := n - s.v) (by omega) (by omega)
  have hle := fun k => ceil_le (r := s.r) (g := n - s.v) (k := k) (by omega)
  obtain ⟨Q, hQ⟩ : ∃ Q, Q = (n - s.v + s.r - 1) / s.r := ⟨_, rfl⟩
  rw [← hQ] at hc hle h4 ⊢
  refine ⟨?_, by omega, by omega, fun _ => ?_⟩
  · rw [adv_yes (by omega) (by omega)]
    refine (tk_yes (by omega) ?_).1
    have := (hle Q).1 (Int.le_refl _)
    rw [show s.t + Q - s.t = Q by omega]
    simp only
    omega
  · refine (tk_no (.inr ?_)).1
    by_cases h5 : Q = 1
    · rw [adv_no (by omega)]
      omega
    · rw [adv_yes (by omega) (by omega), show s.t + Q - 1 - s.t = Q - 1 by omega]
      have hq := hle (Q - 1)
      have : ¬ n - s.v ≤ s.r * (Q - 1) := fun q => by have := hq.2 q; omega
      simp only
      omega

/-! ### what is taken in an interval -/
/-- the sum of the first k numbers -/
def pre (l : List Int) : Nat → Int
  | 0 => 0
  | k + 1 => pre l k + l.getD k 0
theorem pre_app (l : List Int) (x : Int) : ∀ k, k ≤ l.length → pre (l ++ [x]) k = pre l k
  | 0, _ => rfl
  | k + 1, h => by
    show pre (l ++ [x]) k + (l ++ [x]).getD k 0 = pre l k + l.getD k 0
    rw [pre_app l x k (by omega), List.getD_eq_getElem?_getD, List.getD_eq_getElem?_getD, List.getElem?_append_left (by omega)]
theorem getD_old (l : List Int) (x : Int) {k : Nat} (h : k < l.length) : (l ++ [x]).getD k 0 = l.getD k 0 := by
  rw [List.getD_eq_getElem?_getD, List.getD_eq_getElem?_getD, List.getElem?_append_left h]
theorem getD_new (l : List Int) (x : Int) : (l ++ [x]).getD l.length 0 = x := by
  rw [List.getD_eq_getElem?_getD, List.getElem?_append_right (Nat.le_refl _)]
  simp
theorem pre_new (l : List Int) (x : Int) : pre (l ++ [x]) (l.length + 1) = pre l l.length + x := by
  show pre (l ++ [x]) l.length + (l ++ [x]).getD l.length 0 = _
  rw [pre_app l x _ (Nat.le_refl _), getD_new]
/-- what has been taken so far: times T, numbers N, the bucket is s -/
structure Tk (s : BS) (T N : List Int) : Prop where
  ok : s.Ok
  len : T.length = N.length
  tm : ∀ i, i < T.length → 0 ≤ T.getD i 0 ∧ T.getD i 0 ≤ s.t
  nm : ∀ i, i < N.length → 0 ≤ N.getD i 0 ∧ N.getD i 0 ≤ 1000000
  run : ∀ i, i < N.length → pre N N.length - pre N i + s.v ≤ s.z + s.r * (s.t - T.getD i 0)
  done : ∀ i k, i ≤ k → k < N.length → pre N (k + 1) - pre N i ≤ s.z + s.r * (T.getD k 0 - T.getD i 0)
theorem Tk.start (r z : Int) : Tk (bs0 r z) [] [] := ⟨bs0_ok r z, rfl, fun _ h => absurd h (Nat.not_lt_zero _), fun _ h => absurd h (Nat.not_lt_zero _), fun _ h => absurd h (Nat.not_lt_zero _), fun _ _ _ h => absurd h (Nat.not_lt_zero _)⟩
theorem Tk.adv {s : BS} {T N : List Int} (h : Tk s T N) (n : Int) : Tk (adv s n) T N := by
  by_cases hn : n ≤ s.t ∨ 1099511627776 < n
  · rw [adv_no hn]
    exact h
  · have ok := adv_ok h.ok n
    have e := adv_yes (s := s) (n := n) (by omega) (by omega)
    rw [e] at ok ⊢
    refine ⟨ok, h.len, fun i hi => ⟨(h.tm i hi).1, ?_⟩, h.nm, fun i hi => ?_, h.done⟩
    · have := (h.tm i hi).2
      simp only
      omega
    · have h1 := h.run i hi
      have h2 : s.r * (n - T.getD i 0) = s.r * (s.t - T.getD i 0) + s.r * (n - s.t) := by
        rw [← Int.mul_add, show s.t - T.getD i 0 + (n - s.t) = n - T.getD i 0 by omega]
      simp only
      rw [h2]
      omega
theorem Tk.take {s : BS} {T N : List Int} (h : Tk s T N) {n : Int} (h0 : 0 ≤ n) (h1 : n ≤ s.v) (h2 : n ≤ 1000000) : Tk ⟨s.r, s.z, s.v - n, s.t⟩ (T ++ [s.t]) (N ++ [n]) := by
  have hl := h.len
  have ok : (⟨s.r, s.z, s.v - n, s.t⟩ : BS).Ok := ⟨h.ok.r0, h.ok.r1, h.ok.z1, by simp only; omega, by have := h.ok.v1; simp only; omega, h.ok.t0, h.ok.t1⟩
  have hv := h.ok.v1
  refine ⟨ok, by simp [hl], fun i hi => ?_, fun i hi => ?_, fun i hi => ?_, fun i k hik hk => ?_⟩
  · simp only [List.length_append, List.length_cons, List.length_nil] at hi
    by_cases hi2 : i < T.length
    · rw [getD_old _ _ hi2]
      exact h.tm i hi2
    · obtain rfl : i = T.length := by omega
      rw [getD_new]
      exact ⟨h.ok.t0, Int.le_refl _⟩
  · simp only [List.length_append, List.length_cons, List.length_nil] at hi
    by_cases hi2 : i < N.length
    · rw [getD_old _ _ hi2]
      exact h.nm i hi2
    · obtain rfl : i = N.length := by omega
      rw [getD_new]
      exact ⟨h0, h2⟩
  · simp only [List.length_append, List.length_cons, List.length_nil] at hi ⊢
    rw [Nat.zero_add, pre_new]
    by_cases hi2 : i < N.length
    · rw [pre_app _ _ _ (by omega), getD_old _ _ (by omega)]
      have := h.run i hi2
      omega
    · obtain rfl : i = N.length := by omega
      rw [pre_app _ _ _ (Nat.le_refl _), ← hl, getD_new, show s.t - s.t = 0 by omega, Int.mul_zero]
      omega
  · simp only [List.length_append, List.length_cons, List.length_nil] at hk ⊢
    by_cases hk2 : k < N.length
    · rw [pre_app _ _ _ (by omega), pre_app _ _ _ (by omega), getD_old _ _ (by omega), getD_old _ _ (by omega)]
      exact h.done i k hik hk2
    · obtain rfl : k = N.length := by omega
      rw [pre_new, ← hl, getD_new, hl]
      by_cases hi2 : i < N.length
      · rw [pre_app _ _ _ (by omega), getD_old _ _ (by omega)]
        have := h.run i hi2
        omega
      · obtain rfl : i = N.length := by omega
        rw [pre_app _ _ _ (Nat.le_refl _), ← hl, getD_new, show s.t - s.t = 0 by omega, Int.mul_zero]
        omega
theorem pre_in {N : List Int} (h : ∀ i, i < N.length → 0 ≤ N.getD i 0 ∧ N.getD i 0 ≤ 1000000) : ∀ k i, i ≤ k → k ≤ N.length → 0 ≤ pre N k - pre N i ∧ pre N k - pre N i ≤ 1000000 * ((k : Int) - (i : Int))
  | 0, i, hi, _ => by
    obtain rfl : i = 0 := by omega
    simp
  | k + 1, i, hi, hk => by
    by_cases he : i = k + 1
    · subst he
      simp
    · have := pre_in h k i (by omega) (by omega)
      have hx := h k (by omega)
      have e : pre N (k + 1) = pre N k + N.getD k 0 := rfl
      rw [e]
      omega
end Go.Proofs.Ytdccfiobcejngaa.Buc
