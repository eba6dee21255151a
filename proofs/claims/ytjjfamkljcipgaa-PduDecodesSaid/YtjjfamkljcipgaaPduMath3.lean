/-
  Plain mathematics of package pdu: a reader that goes on behind a failure, read by read.
-/
import Derived.Test.YtjjfamkljcipgaaPduMath2
namespace Go.Proofs.Ytjjfamkljcipgaa.Pdu

section
variable {α β : Type} {st st' sa sb : Option (List Byte)} {t : List Byte → Option (α × List Byte)} {v : α}
theorem bstep (h : st.bind t = st'.map fun r => (v, r)) (F : α × List Byte → Option β) : (st.bind fun r => (t r).bind F) = st'.bind fun r => F (v, r) := by
  cases st with
  | none => cases st' with
    | none => rfl
    | some x => simp at h
  | some l =>
    have h' : t l = st'.map fun r => (v, r) := h
    show (t l).bind F = _
    rw [h']
    cases st' <;> rfl
theorem mstep (h : st.bind t = st'.map fun r => (v, r)) (K : α × List Byte → β) : (st.bind fun r => (t r).map K) = st'.map fun r => K (v, r) := by
  cases st with
  | none => cases st' with
    | none => rfl
    | some x => simp at h
  | some l =>
    have h' : t l = st'.map fun r => (v, r) := h
    show (t l).map K = _
    rw [h']
    cases st' <;> rfl
end
def lft (st : Option (List Byte)) : Nat := (st.getD []).length
section
variable {st st' : Option (List Byte)}
theorem rd_q {α : Type} {d v : α} {tk : List Byte → Option (α × Nat)} (h : rd d tk st = (v, st')) : (st.bind fun l => (tk l).map fun p => (p.1, l.drop p.2)) = st'.map fun r => (v, r) := by
  cases st with
  | none =>
    rw [rd_none] at h
    injection h with h1 h2
    rw [← h2]
    rfl
  | some l =>
    show ((tk l).map fun p => (p.1, l.drop p.2)) = _
    cases e : tk l with
    | none =>
      rw [rd_bad e] at h
      injection h with h1 h2
      rw [← h2]
      rfl
    | some p =>
      obtain ⟨x, k⟩ := p
      rw [rd_ok e] at h
      injection h with h1 h2
      rw [← h1, ← h2]
      rfl
theorem rd_short {α : Type} {d v : α} {tk : List Byte → Option (α × Nat)} (h : rd d tk st = (v, st')) : lft st' ≤ lft st := by
  cases st with
  | none =>
    rw [rd_none] at h
    injection h with h1 h2
    rw [← h2]
    exact Nat.le_refl _
  | some l =>
    cases e : tk l with
    | none =>
      rw [rd_bad e] at h
      injection h with h1 h2
      rw [← h2]
      exact Nat.zero_le _
    | some p =>
      obtain ⟨x, k⟩ := p
      rw [rd_ok e] at h
      injection h with h1 h2
      rw [← h2]
      show (l.drop k).length ≤ l.length
      rw [List.length_drop]
      omega
theorem qU {k v : Nat} (h : rd 0 (fun l => tkU l (k : Int)) st = (v, st')) : st.bind (tU k) = st'.map fun r => (v, r) := rd_q h
theorem qI {v : Int} (h : rd 0 tkI st = (v, st')) : st.bind tI = st'.map fun r => (v, r) := rd_q h
theorem qC {m v : Int} (h : rd 0 (fun l => tkC l m) st = (v, st')) : st.bind (tC m) = st'.map fun r => (v, r) := rd_q h
theorem qB {m : Int} {v : List Byte} (h : rd [] (fun l => tkB l m) st = (v, st')) : st.bind (tB m) = st'.map fun r => (v, r) := rd_q h
theorem qU_lt {k v : Nat} (h : rd 0 (fun l => tkU l (k : Int)) st = (v, st')) : v < 256 ^ k := by
  have hp : 0 < 256 ^ k := Nat.pow_pos (by decide)
  cases st with
  | none =>
    rw [rd_none] at h
    injection h with h1 h2
    rw [← h1]
    exact hp
  | some l =>
    rw [rd_tU] at h
    cases e : tU k l with
    | none => rw [e] at h; injection h with h1 h2; rw [← h1]; exact hp
    | some p => obtain ⟨x, r⟩ := p; rw [e] at h; injection h with h1 h2; rw [← h1]; exact (tU_some e).1
theorem qC_b {m v : Int} (hm : 0 ≤ m) (h : rd 0 (fun l => tkC l m) st = (v, st')) : 0 ≤ v ∧ v ≤ m := by
  cases st with
  | none =>
    rw [rd_none] at h
    injection h with h1 h2
    omega
  | some l =>
    rw [rd_tC] at h
    cases e : tC m l with
    | none => rw [e] at h; injection h with h1 h2; omega
    | some p => obtain ⟨x, r⟩ := p; rw [e] at h; injection h with h1 h2; rw [← h1]; exact (tC_tI e).2
theorem qB_len {m : Int} {v : List Byte} (hm : 0 ≤ m) (h : rd [] (fun l => tkB l m) st = (v, st')) : (v.length : Int) ≤ m := by
  cases st with
  | none =>
    rw [rd_none] at h
    injection h with h1 h2
    rw [← h1]
    exact hm
  | some l =>
    rw [rd_tB] at h
    cases e : tB m l with
    | none => rw [e] at h; injection h with h1 h2; rw [← h1]; exact hm
    | some p => obtain ⟨x, r⟩ := p; rw [e] at h; injection h with h1 h2; rw [← h1]; exact (tB_some e).2
end
section
variable {l : List Byte} {s1 s2 s3 s4 s5 s6 s7 : Option (List Byte)} {V0 V1 V2 V3 : Nat}
theorem prs_q (h0 : (some l).bind (tU 1) = s1.map fun r => (V0, r)) (h1 : s1.bind (tU 1) = s2.map fun r => (V1, r)) (h2 : s2.bind (tU 2) = s3.map fun r => (V2, r)) :
    prs l = s3.bind fun r => pB ⟨(V0 : Int), (V1 : Int), (V2 : Int), 0, [], 0, 0, [], 0, 0, []⟩ r := by
  show (((some l).bind fun r => (tU 1 r).bind fun a => (tU 1 a.2).bind fun b => (tU 2 b.2).map fun c => ((⟨(a.1 : Int), (b.1 : Int), (c.1 : Int), 0, [], 0, 0, [], 0, 0, []⟩ : Pd), c.2)).bind fun p => pB p.1 p.2) = _
  rw [bstep h0]
  dsimp only
  rw [bstep h1]
  dsimp only
  rw [mstep h2]
  cases s3 <;> rfl
variable {sr nm : Int}
theorem pB_q1 {c : Nat} {z : Int} {x : List Byte} (h3 : s3.bind (tU 1) = s4.map fun r => (c, r)) (h4 : s4.bind tI = s5.map fun r => (z, r)) (h5 : s5.bind (tB 64) = s6.map fun r => (x, r)) :
    (s3.bind fun r => pB ⟨1, sr, nm, 0, [], 0, 0, [], 0, 0, []⟩ r) = s6.map fun r => (⟨1, sr, nm, (c : Int), x, z, 0, [], 0, 0, []⟩, r) := by
  simp only [pB, if_true]
  rw [bstep h3]
  dsimp only
  rw [bstep h4]
  dsimp only
  rw [mstep h5]
theorem pB_q2 {z : Int} {x : List Byte} (h4 : s3.bind tI = s4.map fun r => (z, r)) (h5 : s4.bind (tB 512) = s5.map fun r => (x, r)) :
    (s3.bind fun r => pB ⟨2, sr, nm, 0, [], 0, 0, [], 0, 0, []⟩ r) = s5.map fun r => (⟨2, sr, nm, 0, [], 0, z, x, 0, 0, []⟩, r) := by
  simp only [pB, if_true, if_false, (eq_false (by decide) : ((2 : Int) = 1) = False)]
  rw [bstep h4]
  dsimp only
  rw [mstep h5]
theorem pB_q3 {c u d : Nat} {z : Int} (h3 : s3.bind (tU 1) = s4.map fun r => (c, r)) (h4 : s4.bind tI = s5.map fun r => (z, r)) (h5 : s5.bind (tU 4) = s6.map fun r => (u, r)) (h6 : s6.bind (tU 1) = s7.map fun r => (d, r)) :
    (s3.bind fun r => pB ⟨3, sr, nm, 0, [], 0, 0, [], 0, 0, []⟩ r) = s7.map fun r => (⟨3, sr, nm, (c : Int), [], z, 0, [], u, (d : Int), []⟩, r) := by
  simp only [pB, if_true, if_false, (eq_false (by decide) : ((3 : Int) = 1) = False), (eq_false (by decide) : ((3 : Int) = 2) = False)]
  rw [bstep h3]
  dsimp only
  rw [bstep h4]
  dsimp only
  rw [bstep h5]
  dsimp only
  rw [mstep h6]
theorem pB_q4 {n : Int} {g : List (Int × Int)} (h3 : s3.bind (tC 16) = s4.map fun r => (n, r)) (h4 : s4.bind (tG n.toNat) = s5.map fun r => (g, r)) :
    (s3.bind fun r => pB ⟨4, sr, nm, 0, [], 0, 0, [], 0, 0, []⟩ r) = s5.map fun r => (⟨4, sr, nm, 0, [], 0, 0, [], 0, 0, g⟩, r) := by
  simp only [pB, if_true, if_false, (eq_false (by decide) : ((4 : Int) = 1) = False), (eq_false (by decide) : ((4 : Int) = 2) = False), (eq_false (by decide) : ((4 : Int) = 3) = False)]
  rw [bstep h3]
  dsimp only
  rw [mstep h4]
theorem pB_q5 {c : Nat} (h3 : s3.bind (tU 1) = s4.map fun r => (c, r)) :
    (s3.bind fun r => pB ⟨5, sr, nm, 0, [], 0, 0, [], 0, 0, []⟩ r) = s4.map fun r => (⟨5, sr, nm, 0, [], 0, 0, [], 0, (c : Int), []⟩, r) := by
  simp only [pB, if_true, if_false, (eq_false (by decide) : ((5 : Int) = 1) = False), (eq_false (by decide) : ((5 : Int) = 2) = False), (eq_false (by decide) : ((5 : Int) = 3) = False), (eq_false (by decide) : ((5 : Int) = 4) = False)]
  rw [mstep h3]
theorem pB_q6 {kd : Int} (h1 : ¬ kd = 1) (h2 : ¬ kd = 2) (h3 : ¬ kd = 3) (h4 : ¬ kd = 4) (h5 : ¬ kd = 5) :
    (s3.bind fun r => pB ⟨kd, sr, nm, 0, [], 0, 0, [], 0, 0, []⟩ r) = s3.map fun r => (⟨kd, sr, nm, 0, [], 0, 0, [], 0, 0, []⟩, r) := by
  simp only [pB, if_neg h1, if_neg h2, if_neg h3, if_neg h4, if_neg h5]
  cases s3 <;> rfl
/-- the gaps, read one by one -/
def gin (s4 : Option (List Byte)) (n j : Nat) (g : List (Int × Int)) (s : Option (List Byte)) : Prop := s4.bind (tG n) = s.bind fun l => (tG j l).map fun r => (g ++ r.1, r.2)
theorem gin_start (s4 : Option (List Byte)) (n : Nat) : gin s4 n n [] s4 := by
  unfold gin
  cases s4 <;> simp
theorem gin_step {s4 s sa sb : Option (List Byte)} {n j : Nat} {g : List (Int × Int)} {a b : Int} (h : gin s4 n (j + 1) g s) (ha : s.bind tI = sa.map fun r => (a, r)) (hb : sa.bind tI = sb.map fun r => (b, r)) : gin s4 n j (g ++ [(a, b)]) sb := by
  unfold gin at h ⊢
  rw [h]
  simp only [tG, Option.map_bind, Function.comp_def, Option.map_map]
  rw [bstep ha]
  dsimp only
  rw [bstep hb]
  congr 1
  funext l
  congr 1
  funext r
  simp
theorem gin_end {s4 s : Option (List Byte)} {n : Nat} {g : List (Int × Int)} (h : gin s4 n 0 g s) : s4.bind (tG n) = s.map fun r => (g, r) := by
  unfold gin at h
  rw [h]
  cases s <;> simp [tG]
end
end Go.Proofs.Ytjjfamkljcipgaa.Pdu
