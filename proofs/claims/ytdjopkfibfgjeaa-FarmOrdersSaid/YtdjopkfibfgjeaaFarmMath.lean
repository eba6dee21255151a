/-
  Plain mathematics of a receiving end: its state, the eight rules as one step, both readings of its windows; no Go in sight.
-/
import Derived.Test.YtdjopkfibfgjeaaTcfMath
import Derived.Test.YtdjopkfibfgjeaaSerMath
namespace Go.Proofs.Ytdjopkfibfgjeaa.Far
open Go.Proofs.Ytdjopkfibfgjeaa.Tcf (Fr dir)

/-- the flags, the bypass counter and the next number -/
structure St where
  lk : Bool
  wt : Bool
  rt : Bool
  bc : Int
  nx : Int
deriving DecidableEq

def St.Ok (s : St) : Prop := 0 ≤ s.bc ∧ s.bc ≤ 3 ∧ 0 ≤ s.nx ∧ s.nx ≤ 255
/-- the clamped window -/
def clw (w : Int) : Int := min (max w 1) 127
theorem clw_in (w : Int) : 1 ≤ clw w ∧ clw w ≤ 127 := by unfold clw; omega
/-- a new receiving end -/
def st0 : St := ⟨false, false, false, 0, 0⟩
theorem st0_ok : st0.Ok := ⟨by decide, by decide, by decide, by decide⟩

/-- the number of a frame (rules 5 to 8) -/
def rcv (W : Int) (s : St) (q : Int) (room : Bool) : Int × St :=
  if q = s.nx then (if room then (1, ⟨s.lk, false, false, s.bc, (s.nx + 1) % 256⟩) else (6, ⟨s.lk, true, true, s.bc, s.nx⟩))
  else if (q - s.nx) % 256 < W then (3, ⟨s.lk, s.wt, true, s.bc, s.nx⟩)
  else if (q - s.nx + W) % 256 < W then (2, s)
  else (4, ⟨true, s.wt, s.rt, s.bc, s.nx⟩)
/-- a directive (rule 2) -/
def oby (s : St) (d : Int × Int × Bool) : Int × St :=
  if d.2.2 = false then (0, s)
  else if d.1 = 0 then (5, ⟨false, false, false, (s.bc + 1) % 4, s.nx⟩)
  else if s.lk then (4, s)
  else (5, ⟨false, false, false, (s.bc + 1) % 4, d.2.1⟩)
/-- a frame of the channel (rules 2 to 8) -/
def jdg (W : Int) (s : St) (x : Fr) (room : Bool) : Int × St :=
  if x.con then oby s (dir x.byp x.con x.d)
  else if x.byp then (1, ⟨s.lk, s.wt, s.rt, (s.bc + 1) % 4, s.nx⟩)
  else if s.lk then (4, s)
  else rcv W s x.sq room
/-- a frame of the channel (rule 1) -/
def mine (K H : Int) (x : Fr) : Bool := x.ok && x.cr == K && x.ch == H
/-- all eight rules -/
def tke (K H W : Int) (s : St) (x : Fr) (room : Bool) : Int × St := if mine K H x then jdg W s x room else (0, s)
/-- what is delivered -/
def dat (v : Int) (l : List Byte) : List Byte := if v = 1 then l else []

theorem dir_in (byp con : Bool) (d : List Byte) : (dir byp con d).1 = 0 ∨ (dir byp con d).1 = 1 ∧ 0 ≤ (dir byp con d).2.1 ∧ (dir byp con d).2.1 ≤ 255 := by
  unfold dir
  split
  · split
    · exact .inl rfl
    · split
      · split
        · rename_i z _ _
          have := z.isLt
          refine .inr ⟨rfl, ?_, ?_⟩ <;> simp only <;> omega
        · exact .inl rfl
      · exact .inl rfl
  · exact .inl rfl

theorem rcv_ok {W : Int} {s : St} (h : s.Ok) (q : Int) (room : Bool) : (rcv W s q room).2.Ok := by
  obtain ⟨h1, h2, h3, h4⟩ := h
  unfold rcv
  split
  · split
    · exact ⟨h1, h2, by simp only; omega, by simp only; omega⟩
    · exact ⟨h1, h2, h3, h4⟩
  · split
    · exact ⟨h1, h2, h3, h4⟩
    · split <;> exact ⟨h1, h2, h3, h4⟩
theorem oby_ok {s : St} (h : s.Ok) {d : Int × Int × Bool} (hd : d.1 = 0 ∨ d.1 = 1 ∧ 0 ≤ d.2.1 ∧ d.2.1 ≤ 255) : (oby s d).2.Ok := by
  obtain ⟨h1, h2, h3, h4⟩ := h
  unfold oby
  split
  · exact ⟨h1, h2, h3, h4⟩
  · split
    · exact ⟨by simp only; omega, by simp only; omega, h3, h4⟩
    · rename_i hn
      have hd := hd.resolve_left hn
      split
      · exact ⟨h1, h2, h3, h4⟩
      · exact ⟨by simp only; omega, by simp only; omega, hd.2.1, hd.2.2⟩
theorem jdg_ok {W : Int} {s : St} (h : s.Ok) (x : Fr) (room : Bool) : (jdg W s x room).2.Ok := by
  unfold jdg
  split
  · exact oby_ok h (dir_in _ _ _)
  · split
    · obtain ⟨h1, h2, h3, h4⟩ := h
      exact ⟨by simp only; omega, by simp only; omega, h3, h4⟩
    · split
      · exact h
      · exact rcv_ok h _ _
theorem tke_ok {K H W : Int} {s : St} (h : s.Ok) (x : Fr) (room : Bool) : (tke K H W s x room).2.Ok := by
  unfold tke
  split
  · exact jdg_ok h _ _
  · exact h
theorem mine_fits {K H : Int} {x : Fr} (h : mine K H x = true) : x.ok = true ∧ x.Fits ∧ x.cr = K ∧ x.ch = H := by
  unfold mine at h
  simp only [Bool.and_eq_true, beq_iff_eq] at h
  exact ⟨h.1.1, Fr.ok_fits h.1.1, h.1.2, h.2⟩
theorem mine_no {K H : Int} {x : Fr} (h : x.ok = false ∨ x.cr ≠ K ∨ x.ch ≠ H) : mine K H x = false := by
  unfold mine
  rcases h with h | h | h
  · rw [h]; rfl
  · rw [show (x.cr == K) = false by simpa using h]; simp
  · rw [show (x.ch == H) = false by simpa using h]; simp

/-! ### the windows as package serial reads them -/
theorem pw8 : pw 8 = 256 := by decide
theorem vl8 {n : Int} (h0 : 0 ≤ n) (h1 : n ≤ 255) : vl n 8 = true := by rw [vl_iff, pw8]; omega
theorem swin8 {q f s : Int} (h0 : 0 ≤ q) (h1 : q ≤ 255) (h2 : 0 ≤ f) (h3 : f ≤ 255) (hs : s ≤ 256) : swin q f s 8 = decide ((q - f) % 256 < s) := by
  unfold swin
  rw [vl8 h0 h1, vl8 h2 h3, sdist_ok (vl8 h2 h3) (vl8 h0 h1), pw8, Bool.eq_iff_iff]
  simp [hs]
theorem sadd8 {a n : Int} (h2 : 0 ≤ a) (h3 : a ≤ 255) : sadd a n 8 = (a + n) % 256 := by rw [sadd_ok (vl8 h2 h3), pw8]
theorem sadd2 {a n : Int} (h2 : 0 ≤ a) (h3 : a ≤ 3) : sadd a n 2 = (a + n) % 4 := by
  have e : pw 2 = 4 := by decide
  rw [sadd_ok (by rw [vl_iff, e]; omega), e]
section
variable {W q n : Int}
theorem gap_p (h0 : 0 ≤ q) (h1 : q ≤ 255) (h2 : 0 ≤ n) (h3 : n ≤ 255) (hw : W ≤ 127) : swin q n W 8 = decide ((q - n) % 256 < W) := swin8 h0 h1 h2 h3 (by omega)
theorem rep_p (h0 : 0 ≤ q) (h1 : q ≤ 255) (h2 : 0 ≤ n) (h3 : n ≤ 255) (hw : W ≤ 127) : swin q (sadd n (-W) 8) W 8 = decide ((q - n + W) % 256 < W) := by
  rw [sadd8 h2 h3, swin8 h0 h1 (by omega) (by omega) (by omega)]
  exact decide_eq_decide.2 (by omega)
theorem gap_x (h0 : 0 ≤ q) (h1 : q ≤ 255) (h2 : 0 ≤ n) (h3 : n ≤ 255) (hw : W ≤ 127) (hw1 : 1 ≤ W) (hq : q ≠ n) : swin q ((n + 1) % 256) (W - 1) 8 = decide ((q - n) % 256 < W) := by
  rw [swin8 h0 h1 (by omega) (by omega) (by omega)]
  exact decide_eq_decide.2 (by omega)
theorem rep_x (h0 : 0 ≤ q) (h1 : q ≤ 255) (hw : W ≤ 127) (hw1 : 1 ≤ W) : swin q ((n - W + 256) % 256) W 8 = decide ((q - n + W) % 256 < W) := by
  rw [swin8 h0 h1 (by omega) (by omega) (by omega)]
  exact decide_eq_decide.2 (by omega)
end
end Go.Proofs.Ytdjopkfibfgjeaa.Far
