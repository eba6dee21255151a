/-
  The laws of layer 22: MuxShares.
-/
import Derived.Test.YtpfhbojodapomaaLaw22a
import Derived.Test.YtpfhbojodapomaaRef22c
namespace Go.Proofs.Ytpfhbojodapomaa.Mux
open Go.RowKit Go.Proofs.Ytpfhbojodapomaa.Row Ints

/-! ### the channels of the law -/
def wq (x : Int) : Int := 1 + (x.tmod 20 + 20).tmod 20
theorem tmod_in (x : Int) : -19 ≤ x.tmod 20 ∧ x.tmod 20 ≤ 19 := by
  have h1 := Int.tmod_lt_of_pos x (by decide : (0 : Int) < 20)
  have h2 := Int.lt_tmod_of_pos x (by decide : (0 : Int) < 20)
  omega
theorem tmod_pos {x : Int} (h : 0 ≤ x) : 0 ≤ x.tmod 20 ∧ x.tmod 20 ≤ 19 := ⟨Int.tmod_nonneg _ h, (tmod_in x).2⟩
theorem wq_in (x : Int) : 1 ≤ wq x ∧ wq x ≤ 20 := by
  have h1 := tmod_in x
  have h2 := tmod_pos (x := x.tmod 20 + 20) (by omega)
  unfold wq
  omega
def shL (l : List Ch) : List Ch := l.mapIdx fun i x => ⟨(i : Int), 2, wq x.wt, 0, 0⟩
theorem shL_len (l : List Ch) : (shL l).length = l.length := by simp [shL]
theorem shL_get {l : List Ch} {i : Nat} (h : i < l.length) (h2 : i < (shL l).length) : (shL l)[i] = ⟨(i : Int), 2, wq l[i].wt, 0, 0⟩ := by simp [shL]
theorem shL_take {l : List Ch} {k : Nat} (hk : k < l.length) : shL (l.take (k + 1)) = shL (l.take k) ++ [⟨(k : Int), 2, wq l[k].wt, 0, 0⟩] := by
  unfold shL
  rw [take_at hk, List.mapIdx_append]
  simp
  omega
theorem shL_mem {l : List Ch} {x : Ch} (h : x ∈ shL l) : ∃ i : Nat, ∃ hi : i < l.length, x = ⟨(i : Int), 2, wq l[i].wt, 0, 0⟩ := by
  obtain ⟨i, hi, rfl⟩ := List.getElem_of_mem h
  have hi' : i < l.length := by rwa [shL_len] at hi
  exact ⟨i, hi', shL_get hi' hi⟩
theorem shL_good {l : List Ch} (h8 : l.length ≤ 8) : Good (shL l) := by
  refine ⟨fun x hx => ?_, ?_⟩
  · obtain ⟨i, hi, rfl⟩ := shL_mem hx
    have := wq_in l[i].wt
    unfold Ch.ok
    dsimp only
    omega
  · unfold ids
    rw [List.Nodup, List.pairwise_iff_getElem]
    intro i j hi hj hij
    have hi' : i < l.length := by simpa [shL_len] using hi
    have hj' : j < l.length := by simpa [shL_len] using hj
    rw [List.getElem_map, List.getElem_map, shL_get hi' (by rwa [shL_len]), shL_get hj' (by rwa [shL_len])]
    dsimp only
    omega
theorem chk_of_good : ∀ {l s : List Ch}, Good (s ++ l) → chk s l = 0
  | [], s, _ => rfl
  | x :: l, s, h => by
    have h1 : x.ok := h.ok x (by simp)
    have h2 : x.id ∉ ids s := fun hin => by
      have hn := h.nod
      unfold ids at hn
      rw [List.map_append, List.nodup_append] at hn
      exact hn.2.2 x.id hin x.id (by simp) rfl
    rw [chk_on h1 h2]
    exact chk_of_good (by rw [List.append_assoc]; exact h)
theorem shL_zero (l : List Ch) : ∀ x ∈ shL l, x.cr = 0 ∧ x.sn = 0 := fun x hx => by
  obtain ⟨i, hi, rfl⟩ := shL_mem hx
  exact ⟨rfl, rfl⟩
theorem sumW_snoc (x : Ch) : ∀ L : List Ch, sumW (L ++ [x]) = sumW L + x.wt
  | [] => by simp [sumW]
  | y :: l => by simp only [List.cons_append, sumW, sumW_snoc x l]; omega
theorem sumW_in {b : Int} : ∀ {L : List Ch}, (∀ x ∈ L, 1 ≤ x.wt ∧ x.wt ≤ b) → L.length ≤ sumW L ∧ sumW L ≤ b * L.length
  | [], _ => by simp [sumW]
  | x :: l, h => by
    have h1 := sumW_in (b := b) (L := l) fun y hy => h y (by simp [hy])
    have h2 := h x (by simp)
    simp only [sumW, List.length_cons, Int.natCast_add, Int.mul_add, Int.natCast_one, Int.mul_one]
    omega
theorem sumN_zero : ∀ {L : List Ch}, (∀ x ∈ L, x.cr = 0 ∧ x.sn = 0) → sumN L = 0
  | [], _ => rfl
  | x :: l, h => by
    have h1 := sumN_zero (L := l) fun y hy => h y (by simp [hy])
    have h2 := (h x (by simp)).2
    simp only [sumN]
    omega
/-- number and weight -/
def idw (x : Ch) : Int × Int := (x.id, x.wt)
theorem sumW_idw : ∀ {L R : List Ch}, L.map idw = R.map idw → sumW L = sumW R
  | [], [], _ => rfl
  | [], _ :: _, h => by simp at h
  | _ :: _, [], h => by simp at h
  | x :: l, y :: m, h => by
    simp only [List.map_cons, List.cons.injEq] at h
    have h1 := sumW_idw h.2
    have h2 : x.wt = y.wt := congrArg Prod.snd h.1
    simp only [sumW, h1, h2]
theorem nx_idw {rd : List Int} {L L' : List Ch} {r : Option Int} (h : Nx rd L r L') : L'.map idw = L.map idw := by
  rcases h with ⟨_, rfl, _⟩ | ⟨p, b, _, _, _, _, _, rfl⟩
  · rfl
  · rw [List.map_map]
    exact List.map_congr_left fun x _ => by show (_, _) = (_, _); rw [up_id, up_wt]
/-- behind t calls -/
def Sh (l : List Ch) (t : Nat) (R : List Ch) : Prop := Shr (ids (shL l)) 2 t R ∧ R ≠ [] ∧ R.map idw = (shL l).map idw ∧ Good R
theorem sh_zero {l : List Ch} (h0 : l ≠ []) (h8 : l.length ≤ 8) : Sh l 0 (shL l) := by
  have hne : shL l ≠ [] := fun e => by
    have h1 := shL_len l
    rw [e] at h1
    exact h0 (List.eq_nil_of_length_eq_zero h1.symm)
  have hg := shL_good h8
  have hw := sumW_in (b := 20) (L := shL l) fun x hx => by
    obtain ⟨i, hi, rfl⟩ := shL_mem hx
    exact wq_in _
  have hl : 0 < (shL l).length := List.length_pos_iff.2 hne
  refine ⟨⟨fun x hx => el_iff.2 ⟨List.mem_map_of_mem hx, ?_⟩, fun x hx => ?_, ?_⟩, hne, rfl, hg⟩
  · obtain ⟨i, hi, rfl⟩ := shL_mem hx
    rfl
  · obtain ⟨h1, h2⟩ := shL_zero l x hx
    rw [h1, h2]
    refine ⟨by simp, by omega⟩
  · rw [sumN_zero (shL_zero l)]; rfl
theorem sh_next {l R R' : List Ch} {t : Nat} {r : Option Int} (h : Sh l t R) (k : nxf (ids (shL l)) R = (r, R')) : Sh l (t + 1) R' := by
  obtain ⟨h1, h2, h3, h4⟩ := h
  have kx := nxf_ok (rd := ids (shL l)) h4
  rw [k] at kx
  obtain ⟨h5, h6⟩ := h1.next h4 h2 kx
  exact ⟨by simpa using h5, h6, (nx_idw kx).trans h3, kx.good h4⟩
theorem sh_end {l R : List Ch} {t : Nat} {m : Int} (h : Sh l t R) (ht : (t : Int) = sumW (shL l) * m) {i : Nat} (hi : i < l.length) : snt R i = wq l[i].wt * m := by
  obtain ⟨h1, h2, h3, h4⟩ := h
  have hW := sumW_idw h3
  have hl : R.length = l.length := by
    have := congrArg List.length h3
    simpa [shL_len] using this
  have hiR : i < R.length := by omega
  have hiS : i < (shL l).length := by rw [shL_len]; exact hi
  have e : idw R[i] = idw (shL l)[i] := by
    have h5 : (R.map idw)[i]? = ((shL l).map idw)[i]? := by rw [h3]
    rw [List.getElem?_map, List.getElem?_map, List.getElem?_eq_getElem hiR, List.getElem?_eq_getElem hiS] at h5
    exact Option.some.inj h5
  rw [shL_get hi hiS] at e
  have e1 : R[i].id = (i : Int) := congrArg Prod.fst e
  have e2 : R[i].wt = wq l[i].wt := congrArg Prod.snd e
  have h6 := h1.perm m (by rw [hW]; exact ht) h4 R[i] (List.getElem_mem hiR)
  rw [← e1, snt_of h4 (List.getElem_mem hiR), h6, e2]
theorem ns_of {w : World} {B : Nat} {A : Option Addr} {l : List Int} (h : Rs encI 1 w B A l) : Ns w B A l := fun hl => by
  obtain ⟨b, off, e, hb, hc⟩ := h hl
  refine ⟨b, off, e, hb, fun i x hx => ?_⟩
  have := hc i x hx 0 _ rfl
  rwa [Nat.mul_one, Nat.add_zero] at this
end Go.Proofs.Ytpfhbojodapomaa.Mux
