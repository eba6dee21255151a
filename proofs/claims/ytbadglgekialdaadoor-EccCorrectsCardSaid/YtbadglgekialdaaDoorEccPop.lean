/-
  math/bits.OnesCount64: what its text reckons is the number of ones. No dump is imported.
-/
import Derived.Test.YtbadglgekialdaaDoorEccMath
namespace Go.Proofs.YtbadglgekialdaaDoor.Ecc

def rp (c : Nat) : Nat → Nat
  | 0 => 0
  | n + 1 => c + 256 * rp c n
theorem and_b {b c : Nat} (y z : Nat) (hb : b < 256) (hc : c < 256) : (b + 256 * y) &&& (c + 256 * z) = (b &&& c) + 256 * (y &&& z) := by
  have hbc : b &&& c < 2 ^ 8 := Nat.and_lt_two_pow _ hc
  refine Nat.eq_of_testBit_eq fun j => ?_
  rw [Nat.testBit_and, show b + 256 * y = 2 ^ 8 * y + b by omega, show c + 256 * z = 2 ^ 8 * z + c by omega, show (b &&& c) + 256 * (y &&& z) = 2 ^ 8 * (y &&& z) + (b &&& c) by omega,
    Nat.testBit_two_pow_mul_add _ hb, Nat.testBit_two_pow_mul_add _ hc, Nat.testBit_two_pow_mul_add _ hbc]
  by_cases h : j < 8
  · rw [if_pos h, if_pos h, if_pos h, Nat.testBit_and]
  · rw [if_neg h, if_neg h, if_neg h, Nat.testBit_and]
def f1 (b : Nat) : Nat := (b / 2 &&& 85) + (b &&& 85)
def f2 (b : Nat) : Nat := (b / 4 &&& 51) + (b &&& 51)
def f3 (b : Nat) : Nat := (b / 16 + b) &&& 15
def byt : List Nat → Nat
  | [] => 0
  | b :: l => b + 256 * byt l
theorem cut1 : ∀ b, b < 256 → ∀ t, t < 2 → (b / 2 + 128 * t) &&& 85 = b / 2 &&& 85 := by decide +kernel
theorem cut2 : ∀ b, b < 256 → ∀ t, t < 4 → (b / 4 + 64 * t) &&& 51 = b / 4 &&& 51 := by decide +kernel
theorem cut3 : ∀ b, b < 69 → ∀ t, t < 5 → (b / 16 + 16 * t + b) &&& 15 = (b / 16 + b) &&& 15 := by decide +kernel
theorem step1 : ∀ l : List Nat, (∀ b ∈ l, b < 256) → (byt l / 2 &&& rp 85 l.length) + (byt l &&& rp 85 l.length) = byt (l.map f1)
  | [], _ => rfl
  | b :: l, h => by
    have hb : b < 256 := h b (by simp)
    have ih := step1 l fun c hc => h c (by simp [hc])
    show ((b + 256 * byt l) / 2 &&& (85 + 256 * rp 85 l.length)) + ((b + 256 * byt l) &&& (85 + 256 * rp 85 l.length)) = f1 b + 256 * byt (l.map f1)
    rw [show (b + 256 * byt l) / 2 = (b / 2 + 128 * (byt l % 2)) + 256 * (byt l / 2) by omega, and_b _ _ (by omega) (by decide), and_b _ _ hb (by decide), cut1 b hb _ (Nat.mod_lt _ (by decide)), ← ih, f1]
    omega
theorem step2 : ∀ l : List Nat, (∀ b ∈ l, b < 256) → (byt l / 4 &&& rp 51 l.length) + (byt l &&& rp 51 l.length) = byt (l.map f2)
  | [], _ => rfl
  | b :: l, h => by
    have hb : b < 256 := h b (by simp)
    have ih := step2 l fun c hc => h c (by simp [hc])
    show ((b + 256 * byt l) / 4 &&& (51 + 256 * rp 51 l.length)) + ((b + 256 * byt l) &&& (51 + 256 * rp 51 l.length)) = f2 b + 256 * byt (l.map f2)
    rw [show (b + 256 * byt l) / 4 = (b / 4 + 64 * (byt l % 4)) + 256 * (byt l / 4) by omega, and_b _ _ (by omega) (by decide), and_b _ _ hb (by decide), cut2 b hb _ (Nat.mod_lt _ (by decide)), ← ih, f2]
    omega
theorem low4 : ∀ l : List Nat, (∀ b ∈ l, b < 69 ∧ b % 16 < 5) → byt l % 16 < 5
  | [], _ => by decide
  | b :: l, h => by
    have := h b (by simp)
    show (b + 256 * byt l) % 16 < 5
    omega
theorem step3 : ∀ l : List Nat, (∀ b ∈ l, b < 69 ∧ b % 16 < 5) → (byt l / 16 + byt l) &&& rp 15 l.length = byt (l.map f3)
  | [], _ => rfl
  | b :: l, h => by
    have hb := h b (by simp)
    have hl : ∀ c ∈ l, c < 69 ∧ c % 16 < 5 := fun c hc => h c (by simp [hc])
    have ih := step3 l hl
    have h4 := low4 l hl
    show ((b + 256 * byt l) / 16 + (b + 256 * byt l)) &&& (15 + 256 * rp 15 l.length) = f3 b + 256 * byt (l.map f3)
    rw [show (b + 256 * byt l) / 16 + (b + 256 * byt l) = (b / 16 + 16 * (byt l % 16) + b) + 256 * (byt l / 16 + byt l) by omega, and_b _ _ (by omega) (by decide), cut3 b hb.1 _ h4, ih, f3]
theorem f1_lt : ∀ b, b < 256 → f1 b < 256 := by decide +kernel
theorem f2_ok : ∀ b, b < 256 → f2 (f1 b) < 69 ∧ f2 (f1 b) % 16 < 5 := by decide +kernel
theorem f3_ok : ∀ b, b < 256 → f3 (f2 (f1 b)) = pop b 8 := by decide +kernel
theorem pop_byte (b y : Nat) (hb : b < 256) : ∀ n, pop (b + 256 * y) (8 + n) = pop b 8 + pop y n
  | 0 => by
    show pop (b + 256 * y) 8 = pop b 8 + 0
    rw [Nat.add_zero]
    refine pop_congr 8 fun i hi => ?_
    rw [show b + 256 * y = 2 ^ 8 * y + b by omega, Nat.testBit_two_pow_mul_add _ hb, if_pos hi]
  | n + 1 => by
    show pop (b + 256 * y) (8 + n) + ((b + 256 * y).testBit (8 + n)).toNat = pop b 8 + (pop y n + (y.testBit n).toNat)
    rw [pop_byte b y hb n, show b + 256 * y = 2 ^ 8 * y + b by omega, Nat.testBit_two_pow_mul_add _ hb, if_neg (by omega), show 8 + n - 8 = n by omega]
    omega

/-- the sums of the bytes, folded -/
theorem fold8 (p0 p1 p2 p3 p4 p5 p6 p7 : Nat) (h0 : p0 ≤ 8) (h1 : p1 ≤ 8) (h2 : p2 ≤ 8) (h3 : p3 ≤ 8) (h4 : p4 ≤ 8) (h5 : p5 ≤ 8) (h6 : p6 ≤ 8) (h7 : p7 ≤ 8)
    (x y z u : Nat) (hx : x = byt [p0, p1, p2, p3, p4, p5, p6, p7]) (hy : y = x + x / 256) (hz : z = y + y / 65536) (hu : u = z + z / 4294967296) :
    u % 128 = p0 + p1 + p2 + p3 + p4 + p5 + p6 + p7 ∧ x < 1157442765409226760 ∧ y < 1300000000000000000 ∧ z < 1400000000000000000 ∧ u < 1500000000000000000 := by
  obtain ⟨t7, e7⟩ : ∃ t, t = byt [p7] := ⟨_, rfl⟩
  obtain ⟨t6, e6⟩ : ∃ t, t = byt [p6, p7] := ⟨_, rfl⟩
  obtain ⟨t5, e5⟩ : ∃ t, t = byt [p5, p6, p7] := ⟨_, rfl⟩
  obtain ⟨t4, e4⟩ : ∃ t, t = byt [p4, p5, p6, p7] := ⟨_, rfl⟩
  obtain ⟨t3, e3⟩ : ∃ t, t = byt [p3, p4, p5, p6, p7] := ⟨_, rfl⟩
  obtain ⟨t2, e2⟩ : ∃ t, t = byt [p2, p3, p4, p5, p6, p7] := ⟨_, rfl⟩
  obtain ⟨t1, e1⟩ : ∃ t, t = byt [p1, p2, p3, p4, p5, p6, p7] := ⟨_, rfl⟩
  have q7 : t7 = p7 := by rw [e7]; exact Nat.add_zero _
  have q6 : t6 = p6 + 256 * t7 := by rw [e6, e7]; rfl
  have q5 : t5 = p5 + 256 * t6 := by rw [e5, e6]; rfl
  have q4 : t4 = p4 + 256 * t5 := by rw [e4, e5]; rfl
  have q3 : t3 = p3 + 256 * t4 := by rw [e3, e4]; rfl
  have q2 : t2 = p2 + 256 * t3 := by rw [e2, e3]; rfl
  have q1 : t1 = p1 + 256 * t2 := by rw [e1, e2]; rfl
  have q0 : x = p0 + 256 * t1 := by rw [hx, e1]; rfl
  clear e1 e2 e3 e4 e5 e6 e7 hx
  have d1 : x / 256 = t1 := by clear hy hz hu q1 q2 q3 q4 q5 q6 q7; omega
  rw [d1] at hy
  clear d1
  have d2 : y / 65536 = t2 + t3 := by
    have : y = (p0 + p1) + 256 * (p1 + p2) + 65536 * (t2 + t3) := by clear hz hu q4 q5 q6 q7; omega
    clear hy hz hu q0 q1 q2 q3 q4 q5 q6 q7
    omega
  rw [d2] at hz
  clear d2
  have d3 : z / 4294967296 = (t4 + t5) + (t6 + t7) := by
    have : z = (p0 + p1 + p2 + p3) + 256 * (p1 + p2 + p3 + p4) + 65536 * (p2 + p3 + p4 + p5) + 16777216 * (p3 + p4 + p5 + p6) + 4294967296 * ((t4 + t5) + (t6 + t7)) := by clear hu; omega
    clear hy hz hu q0 q1 q2 q3 q4 q5 q6 q7
    omega
  rw [d3] at hu
  clear d3
  have l6 : t6 ≤ 2056 := by clear hy hz hu; omega
  have l4 : t4 ≤ 134744072 := by clear hy hz hu; omega
  have l2 : t2 ≤ 8830587504648 := by clear hy hz hu; omega
  have l1 : t1 ≤ 2260630401189896 := by clear hy hz hu; omega
  have l3 : t3 ≤ t2 := by clear hy hz hu; omega
  have l5 : t5 ≤ t4 := by clear hy hz hu; omega
  have l7 : t7 ≤ t6 := by clear hy hz hu; omega
  have hx2 : x ≤ 578721382704613384 := by clear hy hz hu; omega
  have hy2 : y ≤ x + t1 := by omega
  have hz2 : z ≤ y + 2 * t2 := by clear hy; omega
  have hu2 : u ≤ z + 2 * t4 + 2 * t6 := by clear hy hz; omega
  have hu3 : u = (p0 + p1 + p2 + p3 + p4 + p5 + p6 + p7) + 256 * (t1 + t2 + t3 + t4 + t5 + t6 + t7) := by
    rw [hu, hz, hy, q0]
    clear hu hz hy l1 l2 l3 l4 l5 l6 l7 hx2 hy2 hz2 hu2 q0
    omega
  refine ⟨?_, ?_, ?_, ?_, ?_⟩
  · clear hu hz hy l1 l2 l3 l4 l5 l6 l7 hx2 hy2 hz2 hu2 q0 q1 q2 q3 q4 q5 q6 q7
    omega
  all_goals
    clear hu3 hu hz hy q0 q1 q2 q3 q4 q5 q6 q7
    omega

def g1 (x : Nat) : Nat := (x / 2 &&& 6148914691236517205) + (x &&& 6148914691236517205)
def g2 (x : Nat) : Nat := (x / 4 &&& 3689348814741910323) + (x &&& 3689348814741910323)
def g3 (x : Nat) : Nat := (x / 16 + x) &&& 1085102592571150095
theorem bytes8 (x : Nat) (h : x < 18446744073709551616) : ∃ l : List Nat, l.length = 8 ∧ (∀ b ∈ l, b < 256) ∧ x = byt l ∧ pop x 64 = (l.map fun b => pop b 8).sum := by
  refine ⟨[x % 256, x / 256 % 256, x / 65536 % 256, x / 16777216 % 256, x / 4294967296 % 256, x / 1099511627776 % 256, x / 281474976710656 % 256, x / 72057594037927936], rfl, ?_, ?_⟩
  · intro b hb
    simp only [List.mem_cons, List.mem_nil_iff, or_false] at hb
    rcases hb with rfl | rfl | rfl | rfl | rfl | rfl | rfl | rfl <;> omega
  · obtain ⟨b0, e0⟩ : ∃ b, b = x % 256 := ⟨_, rfl⟩
    obtain ⟨b1, e1⟩ : ∃ b, b = x / 256 % 256 := ⟨_, rfl⟩
    obtain ⟨b2, e2⟩ : ∃ b, b = x / 65536 % 256 := ⟨_, rfl⟩
    obtain ⟨b3, e3⟩ : ∃ b, b = x / 16777216 % 256 := ⟨_, rfl⟩
    obtain ⟨b4, e4⟩ : ∃ b, b = x / 4294967296 % 256 := ⟨_, rfl⟩
    obtain ⟨b5, e5⟩ : ∃ b, b = x / 1099511627776 % 256 := ⟨_, rfl⟩
    obtain ⟨b6, e6⟩ : ∃ b, b = x / 281474976710656 % 256 := ⟨_, rfl⟩
    obtain ⟨b7, e7⟩ : ∃ b, b = x / 72057594037927936 := ⟨_, rfl⟩
    rw [← e0, ← e1, ← e2, ← e3, ← e4, ← e5, ← e6, ← e7]
    have hx : x = byt [b0, b1, b2, b3, b4, b5, b6, b7] := by
      simp only [byt]
      omega
    refine ⟨hx, ?_⟩
    rw [hx]
    show pop (b0 + 256 * (b1 + 256 * (b2 + 256 * (b3 + 256 * (b4 + 256 * (b5 + 256 * (b6 + 256 * (b7 + 256 * 0)))))))) (8 + (8 + (8 + (8 + (8 + (8 + (8 + (8 + 0)))))))) = _
    rw [pop_byte _ _ (by omega), pop_byte _ _ (by omega), pop_byte _ _ (by omega), pop_byte _ _ (by omega), pop_byte _ _ (by omega), pop_byte _ _ (by omega), pop_byte _ _ (by omega), pop_byte _ _ (by omega)]
    simp only [List.map_cons, List.map_nil, List.sum_cons, List.sum_nil]
    rfl
/-- the number of ones, as the library's text reckons it; no sum on the way leaves 64 bits -/
theorem ones (x : Nat) (h : x < 18446744073709551616) (y z u v : Nat) (hy : y = g3 (g2 (g1 x))) (hz : z = y + y / 256) (hu : u = z + z / 65536) (hv : v = u + u / 4294967296) :
    v % 128 = pop x 64 ∧ v < 9223372036854775808 ∧ u < 18446744073709551616 ∧ z < 18446744073709551616 ∧ g1 x < 18446744073709551616 ∧ g2 (g1 x) < 9223372036854775808 ∧ y < 18446744073709551616 := by
  obtain ⟨l, hl, hb, hx, hp⟩ := bytes8 x h
  have m1 : (6148914691236517205 : Nat) = rp 85 8 := by decide +kernel
  have m2 : (3689348814741910323 : Nat) = rp 51 8 := by decide +kernel
  have m3 : (1085102592571150095 : Nat) = rp 15 8 := by decide +kernel
  have s1 : g1 x = byt (l.map f1) := by
    have := step1 l hb
    rw [hl] at this
    unfold g1
    rw [m1, hx]
    exact this
  have s2 : g2 (g1 x) = byt ((l.map f1).map f2) := by
    have := step2 (l.map f1) (fun b hm => by
      obtain ⟨c, hc, rfl⟩ := List.mem_map.1 hm
      exact f1_lt c (hb c hc))
    rw [List.length_map, hl] at this
    unfold g2
    rw [m2, s1]
    exact this
  have s3 : g3 (g2 (g1 x)) = byt (((l.map f1).map f2).map f3) := by
    have := step3 ((l.map f1).map f2) (fun b hm => by
      obtain ⟨c, hc, rfl⟩ := List.mem_map.1 hm
      obtain ⟨d, hd, rfl⟩ := List.mem_map.1 hc
      exact f2_ok d (hb d hd))
    rw [List.length_map, List.length_map, hl] at this
    unfold g3
    rw [m3, s2]
    exact this
  rw [List.map_map, List.map_map] at s3
  have s4 : l.map ((f3 ∘ f2) ∘ f1) = l.map fun b => pop b 8 := List.map_congr_left fun b hm => f3_ok b (hb b hm)
  rw [s4] at s3
  have a1 : x / 2 &&& 6148914691236517205 ≤ 6148914691236517205 := Nat.and_le_right
  have a2 : x &&& 6148914691236517205 ≤ 6148914691236517205 := Nat.and_le_right
  have a3 : g1 x / 4 &&& 3689348814741910323 ≤ 3689348814741910323 := Nat.and_le_right
  have a4 : g1 x &&& 3689348814741910323 ≤ 3689348814741910323 := Nat.and_le_right
  have b1 : g1 x = (x / 2 &&& 6148914691236517205) + (x &&& 6148914691236517205) := rfl
  have b2 : g2 (g1 x) = (g1 x / 4 &&& 3689348814741910323) + (g1 x &&& 3689348814741910323) := rfl
  match l, hl with
  | [p0, p1, p2, p3, p4, p5, p6, p7], _ =>
    simp only [List.map_cons, List.map_nil, List.sum_cons, List.sum_nil] at s3 hp
    obtain ⟨r1, r2, r3, r4, r5⟩ := fold8 _ _ _ _ _ _ _ _ (pop_le p0 8) (pop_le p1 8) (pop_le p2 8) (pop_le p3 8) (pop_le p4 8) (pop_le p5 8) (pop_le p6 8) (pop_le p7 8) y z u v (hy.trans s3) hz hu hv
    refine ⟨?_, Nat.lt_trans r5 (by decide), Nat.lt_trans r4 (by decide), Nat.lt_trans r3 (by decide), ?_, ?_, Nat.lt_trans r2 (by decide)⟩
    · rw [r1, hp]
      simp only [Nat.add_assoc, Nat.add_zero]
    · rw [b1]
      exact Nat.lt_of_le_of_lt (Nat.add_le_add a1 a2) (by decide)
    · rw [b2]
      exact Nat.lt_of_le_of_lt (Nat.add_le_add a3 a4) (by decide)
end Go.Proofs.YtbadglgekialdaaDoor.Ecc
