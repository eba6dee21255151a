/-
  The walk of the law PartsMisses.
-/
import Derived.Test.YtfjmlgclgmcjcaaLaw11e
namespace Go.Proofs.Ytfjmlgclgmcjcaa.Par
open Go.RowKit Go.Proofs.Ytfjmlgclgmcjcaa.Row
open Pac (Pk bel_new Cel.later Cel.within)

/-! ### a message of which packet μ is missing -/
/-- the state of a Joiner that has been handed packets 0 .. i-1 but μ -/
def mst (p : Pk) (d : List Byte) (m μ i : Nat) (s : JS) : Prop :=
  s.msg.length ≤ i * m ∧ (i ≤ μ → stt p d m d.length i s) ∧ (μ < i → s.msg = [] ∨ (p.ct + (i : Int)) % 16384 ≠ (s.ct + 1) % 16384)
theorem mst_skip {p : Pk} {d : List Byte} {m μ : Nat} {s : JS} (h : mst p d m μ μ s) : mst p d m μ (μ + 1) s := by
  refine ⟨Nat.le_trans h.1 (Nat.mul_le_mul_right m (Nat.le_succ _)), fun e => by omega, fun _ => ?_⟩
  rcases Nat.eq_zero_or_pos μ with e | e
  · left
    have h1 := h.1
    rw [e, Nat.zero_mul] at h1
    exact List.eq_nil_of_length_eq_zero (by omega)
  · right
    have h1 := ((h.2.1 (Nat.le_refl _)).2 e).2.2
    rw [h1]
    omega
theorem mst_step {p : Pk} {d : List Byte} {m μ i : Nat} {s : JS} (hm : 0 < m) (hp : 0 ≤ p.ap ∧ p.ap ≤ 2046 ∧ 0 ≤ p.ct ∧ p.ct ≤ 16383) (h : mst p d m μ i s) (hi : i < num d.length m) (hμ : μ < num d.length m) (hne : i ≠ μ) :
    tkB s (fin p d m i) = false ∧ mst p d m μ (i + 1) (tkS s (fin p d m i)) := by
  have hlen : (tkS s (fin p d m i)).msg.length ≤ (i + 1) * m := by
    have h1 := tkS_len s (fin p d m i)
    have h2 : (fin p d m i).d.length ≤ m := by show (piece d m i).length ≤ m; rw [piece_len]; omega
    have h3 := h.1
    rw [Nat.succ_mul]
    omega
  rcases Nat.lt_or_ge i μ with hlt | hge
  · obtain ⟨_, b2, _, _, b5⟩ := back_step hm hp (h.2.1 (by omega)) hi
    have hn : i + 1 ≠ num d.length m := by omega
    rw [decide_eq_false hn] at b2
    exact ⟨b2, hlen, fun _ => b5 hn, fun e => by omega⟩
  · have ht := fin_tok (d := d) hm hp hi
    have hc : cnt (fin p d m i) = true := by rw [cnt_fin]; simp; omega
    have ha : awt s (fin p d m i) = false := by
      unfold awt
      rw [decide_eq_false_iff_not]
      rintro ⟨h1, _, h3⟩
      rcases h.2.2 (by omega) with h4 | h4
      · rw [h4] at h1; exact absurd h1 (by simp)
      · exact h4 h3
    have hj : jnE s (fin p d m i) = 4 := (jn_form hc ha).1
    obtain ⟨_, e2, _, e4⟩ := tk_err ht (by rw [hj]; decide)
    exact ⟨e2, hlen, fun e => by omega, fun _ => .inl (by rw [e4])⟩

/-! ### two Joiners beside each other -/
/-- two Joiners apart from each other; none of their blocks lies below B -/
structure J2 (B : Nat) (w0 w : World) (g : Nat) (v : Value) (s : JS) (q : Nat) (u : Value) (t : JS) : Prop where
  jo : Jo w g v s
  ko : Jo w q u t
  lo : ∀ x ∈ blk g v, B ≤ x
  la : ∀ x ∈ blk q u, B ≤ x
  n : ∀ x ∈ blk q u, x ∉ blk g v
  be : Below B w0 w
section
variable {B : Nat} {w0 w w' : World} {g q : Nat} {v u : Value} {s t : JS}
theorem J2.symm (h : J2 B w0 w g v s q u t) : J2 B w0 w q u t g v s := ⟨h.ko, h.jo, h.la, h.lo, fun x hx hm => h.n x hm hx, h.be⟩
theorem J2.take (h : J2 B w0 w g v s q u t) (hB : B ≤ w.heap.size) {p : Pk} {a : Option Addr} {c n : Nat} (hn : p.d.length = n) (hd : Dt w w.heap.size p.d a c) (h47 : s.msg.length + p.d.length ≤ 1000000) {b : Bool} {e' : Int} {M : List Byte} {s' : JS} (hb : tkB s p = b) (he : tkE s p = e') (hM : tkM s p = M) (hs : tkS s p = s') :
    Calls Try.prog 16 #[.pointer (some ⟨g, 0, none⟩), .agg #[.bool p.com, .bool p.sec, .int .i64 p.ap, .int .i64 p.fl, .int .i64 p.ct, .slice a n c]] w fun e w' =>
      ∃ m v', e = .returned (.tuple #[m, .bool b, .int .i64 e']) ∧ Ow w' 0 5 m M ∧ J2 B w0 w' g v' s' q u t := by
  subst hn hb he hM hs
  refine (take_any w g v s p a c h.jo hd h47).mono ?_
  rintro e w' ⟨m, v', rfl, o, j, k, hx⟩
  refine ⟨m, v', rfl, o, j, h.ko.only k h.n, fun x hxm => ?_, h.la, fun x hxm hm => ?_, h.be.trans (k.below hB h.lo)⟩
  · rcases hx x hxm with h1 | h1
    · exact h.lo x h1
    · omega
  · rcases hx x hm with h1 | h1
    · exact h.n x hxm h1
    · have := h.ko.lt x hxm; omega
theorem J2.start {w : World} {a b : Int} (ha : max a 0 = a) (hb : max b 0 = b) (ha2 : a ≤ 9223372036854775807) (hb2 : b ≤ 9223372036854775807) :
    J2 w.heap.size w ((w.alloc (.cells (Jv ⟨a, [], 0, 0⟩ (.slice none 0 0)) 48)).alloc (.cells (Jv ⟨b, [], 0, 0⟩ (.slice none 0 0)) 48)) w.heap.size (.slice none 0 0) ⟨a, [], 0, 0⟩ (w.heap.size + 1) (.slice none 0 0) ⟨b, [], 0, 0⟩ := by
  have j1 := Jo_new a w ha2
  have j2 := Jo_new b (w.alloc (.cells (Jv ⟨a, [], 0, 0⟩ (.slice none 0 0)) 48)) hb2
  have b1 := bel_new w (.cells (Jv ⟨a, [], 0, 0⟩ (.slice none 0 0)) 48)
  have b2 := bel_new (w.alloc (.cells (Jv ⟨a, [], 0, 0⟩ (.slice none 0 0)) 48)) (.cells (Jv ⟨b, [], 0, 0⟩ (.slice none 0 0)) 48)
  rw [ha] at j1
  rw [hb] at j2
  have hs : (w.alloc (.cells (Jv ⟨a, [], 0, 0⟩ (.slice none 0 0)) 48)).heap.size = w.heap.size + 1 := by simp
  rw [hs] at j2
  refine ⟨j1.below b2, j2, fun x hx => ?_, fun x hx => ?_, fun x hx hm => ?_, b1.trans (b2.mono b1.size)⟩
  · simp [blk, Value.ownBlock] at hx; omega
  · simp [blk, Value.ownBlock] at hx; omega
  · simp [blk, Value.ownBlock] at hx hm; omega
end

set_option maxRecDepth 100000 in
set_option maxHeartbeats 4000000 in
theorem partsMisses_walk (p : Pk) (a0 : Option Addr) (n0 c0 : Nat) (d : List Byte) (A : Option Addr) (L cap : Nat) (most : Int) (miss : Nat) (w : World) (hL : Hid (d.length = L)) (hd : Dt w w.heap.size d A cap) (hmi : miss < 65536) :
    Calls Try.prog 6 #[.agg #[.bool p.com, .bool p.sec, .int .i64 p.ap, .int .i64 p.fl, .int .i64 p.ct, .slice a0 n0 c0], .slice A L cap, .int .i64 most, .int .u16 (miss : Int)] w fun e w' => e = .returned (.bool true) ∧ Below w.heap.size w w' := by
  have y1 := Cel.new w 24 #[.bool p.com, .bool p.sec, .int .i64 p.ap, .int .i64 p.fl, .int .i64 p.ct, .slice a0 n0 c0]
  have b1 := bel_new w (.cells #[.bool p.com, .bool p.sec, .int .i64 p.ap, .int .i64 p.fl, .int .i64 p.ct, .slice a0 n0 c0] 24)
  have out : ∀ W, Below w.heap.size w W → Calls Try.prog 9 #[] W fun e w' => e = .returned (.bool true) ∧ Below w.heap.size w w' := fun W hW => (alive11_any W).mono fun _ _ ⟨h1, h2⟩ => ⟨h1, hW.trans (h2.mono hW.size)⟩
  by_cases hbig : 2000 < L
  · have g1 : decide ((2000 : Int) < (L : Int)) = true := by simp; omega
    have g2 : decide (2000 < L) = true := by simp; omega
    clear hbig hd y1
    go_enter Try.func6, Try.ntmps6
    go_wp2_with fail
    refine (out _ b1).mono ?_
    rintro e w1 ⟨rfl, h1⟩
    go_wp2
    go_ret
    exact ⟨rfl, h1⟩
  have g1 : decide ((2000 : Int) < (L : Int)) = false := by simp; omega
  have g2 : decide (2000 < L) = false := by simp; omega
  have hL2 : L ≤ 2000 := by omega
  have x1 := fun W hW => split_any p a0 n0 c0 d A cap most W hW (by have := hL.out; omega)
  clear hbig
  cases hok : spOk p L most with
  | false =>
    have hE : spE p L most = 1 := by unfold spE; rw [hok]; rfl
    have hP : spP p d most = [] := by unfold spP; rw [hL.out, hok]; rfl
    simp only [hL.out, hE, hP, List.length_nil] at x1
    clear hE hP hok
    go_enter Try.func6, Try.ntmps6
    go_wp2_with fail
    refine (x1 _ ((hd.below b1).more b1.size)).mono ?_
    rintro e w2 ⟨A1, c1, rfl, _, b2⟩
    have b3 := b1.trans (b2.mono b1.size)
    clear x1 b1 b2 hd y1
    go_wp2_with fail
    refine (out _ b3).mono ?_
    rintro e w3 ⟨rfl, h1⟩
    go_wp2
    go_ret
    exact ⟨rfl, h1⟩
  | true =>
  obtain ⟨hp, hm1, hm2, h0⟩ := spOk_iff.1 hok
  obtain ⟨m, rfl⟩ : ∃ m : Nat, most = (m : Int) := ⟨most.toNat, by omega⟩
  have hm : 0 < m := by omega
  obtain ⟨K, hK⟩ : ∃ K, K = num L m := ⟨_, rfl⟩
  have hKL : K ≤ L := by rw [hK]; exact num_le hm
  have hE : spE p L (m : Int) = 0 := by unfold spE; rw [hok]; rfl
  have hP : spP p d (m : Int) = spl p d m := by unfold spP; rw [hL.out, hok]; rfl
  simp only [hL.out, hE, hP, spl_len, ← hK] at x1
  have HK := Lib.hid hK
  have HP := Lib.hid (And.intro hp (And.intro hm1 hm2))
  clear hE hP hok hK hp hm1 hm2
  by_cases hK2 : K < 2
  · have g3 : decide ((K : Int) < 2) = true := by simp; omega
    have g4 : decide (K < 2) = true := by simp; omega
    clear hK2
    go_enter Try.func6, Try.ntmps6
    go_wp2_with fail
    refine (x1 _ ((hd.below b1).more b1.size)).mono ?_
    rintro e w2 ⟨A1, c1, rfl, _, b2⟩
    have b3 := b1.trans (b2.mono b1.size)
    clear x1 b1 b2 hd y1
    go_wp2_with fail
    refine (out _ b3).mono ?_
    rintro e w3 ⟨rfl, h1⟩
    go_wp2
    go_ret
    exact ⟨rfl, h1⟩
  have g3 : decide ((K : Int) < 2) = false := by simp; omega
  have g4 : decide (K < 2) = false := by simp; omega
  obtain ⟨μ, hμ⟩ : ∃ μ, μ = miss % K := ⟨_, rfl⟩
  have hμK : μ < K := by rw [hμ]; exact Nat.mod_lt _ (by omega)
  have e1 : (miss : Int).tmod (K : Int) = (μ : Int) := by rw [hμ]; exact (Int.ofNat_tmod _ _).symm
  have e2 : ((K : Int) == 0) = false := by simp; omega
  have e3 : (K == 0) = false := by simp; omega
  go_enter Try.func6, Try.ntmps6
  clear hμ
  go_wp2_with fail
  refine (x1 _ ((hd.below b1).more b1.size)).mono ?_
  rintro e w2 ⟨A1, c1, rfl, ps1, b2⟩
  have b3 := b1.trans (b2.mono b1.size)
  clear x1 b1 b2 y1 hd
  have hn1 := newJoiner_any (L : Int) w2
  have hn2 := newJoiner_any ((L : Int) - 1)
  have hL1 : 1 ≤ L := by omega
  have hJ := J2.start (w := w2) (a := (L : Int)) (b := (L : Int) - 1) (by omega) (by omega) (by omega) (by omega)
  rw [show max (L : Int) 0 = (L : Int) by omega] at hn1
  rw [show max ((L : Int) - 1) 0 = (L : Int) - 1 by omega] at hn2
  go_wp2_with fail
  refine hn1.mono ?_
  rintro e w3 ⟨rfl, rfl⟩
  clear hn1
  go_wp2_with fail
  refine (hn2 _).mono ?_
  rintro e w4 ⟨rfl, rfl⟩
  clear hn2
  obtain ⟨w4, hw4⟩ : ∃ w4, w4 = ((w2.alloc (.cells (Jv ⟨(L : Int), [], 0, 0⟩ (.slice none 0 0)) 48)).alloc (.cells (Jv ⟨(L : Int) - 1, [], 0, 0⟩ (.slice none 0 0)) 48)) := ⟨_, rfl⟩
  rw [← hw4] at hJ
  have hs : (w2.alloc (.cells (Jv ⟨(L : Int), [], 0, 0⟩ (.slice none 0 0)) 48)).heap.size = w2.heap.size + 1 := by simp
  rw [← hw4, hs]
  clear hw4 hs
  go_wp2
  go_loopw [13] (fun i wr => ∃ (k : Nat) (v : Value) (s : JS) (u : Value) (t : JS), k ≤ K ∧ i = .int .i64 (k : Int) ∧ mst p d m μ k s ∧ (k < K → stt p d m ((d.length : Int) - 1) k t) ∧ t.msg.length ≤ k * m ∧ J2 w2.heap.size w2 wr w2.heap.size v s (w2.heap.size + 1) u t)
    (fun i _ => K - (intOf i).toNat)
  case atStart => exact ⟨0, _, _, _, _, Nat.zero_le _, rfl, ⟨by simp, fun _ => stt_zero _ _ _ _ _ (by rw [hL.out]), fun h => by omega⟩, fun _ => stt_zero _ _ _ _ _ (by rw [hL.out]), by simp, hJ⟩
  case round =>
    clear hJ
    obtain ⟨k, v, s, u, t, hk, rfl, hms, hst, htl, P0⟩ := hrel
    by_cases hkK : k < K
    · have hqk := spl_at (p := p) (d := d) (m := m) (i := k) (by rw [hL.out, ← HK.out]; exact hkK)
      obtain ⟨b, off, a, c, rfl, _⟩ := ps1.at_ hqk
      obtain ⟨LQ, hLQ⟩ : ∃ LQ, LQ = (fin p d m k).d.length := ⟨_, rfl⟩
      obtain ⟨a, c, K0⟩ := ps1.pk hqk hLQ.symm rfl
      have hBB := P0.be.size
      obtain ⟨hzb, u0, u1, u2, u3, u4, u5, du⟩ := K0.below P0.be
      have i0 : (0 : Int) ≤ (k : Int) := Int.natCast_nonneg _
      have i1 : (k : Int) < (K : Int) := by omega
      have hkm : k * m < L := by have := (num_lt (L := L) (k := k) hm).1 (by rw [← HK.out]; exact hkK); exact this
      have hLd : LQ ≤ m ∧ LQ ≤ L := by rw [hLQ]; show (piece d m k).length ≤ m ∧ (piece d m k).length ≤ L; rw [piece_len, hL.out]; omega
      obtain ⟨l1, l2, l3⟩ := long_step hm HP.out.1 (hst hkK) (by rw [hL.out, ← HK.out]; exact hkK)
      rw [hL.out, ← HK.out] at l2
      have htl' := tkS_len t (fin p d m k)
      rw [← hLQ] at htl'
      have hT2 : (tkS t (fin p d m k)).msg.length ≤ (k + 1) * m := by rw [Nat.succ_mul]; omega
      obtain ⟨T', hT'⟩ : ∃ T', tkS t (fin p d m k) = T' := ⟨_, rfl⟩
      rw [hT'] at l3 htl' hT2
      by_cases hlast : k + 1 = K
      · by_cases hkμ : k = μ
        · have w2' : ((k : Int) == (μ : Int)) = true := by simp; omega
          have w3' : (k == μ) = true := by simp; omega
          have HM := Lib.hid hkμ
          clear hkμ
          have w1' : ((k : Int) == (K : Int) - 1) = true := by simp; omega
          have l2' := l2 hlast
          obtain ⟨E', hE'⟩ : ∃ E', tkE t (fin p d m k) = E' := ⟨_, rfl⟩
          rw [hE'] at l2
          rw [l2 hlast] at hE'
          have ht := P0.symm.take hBB (n := LQ) hLQ.symm (du.more hBB) (by rw [← hLQ]; omega) l1 hE' rfl hT'
          have HQ := Lib.hid (And.intro hms (And.intro l3 (And.intro htl' (And.intro hT2 hlast))))
          obtain ⟨q, hq⟩ : ∃ q, q = fin p d m k := ⟨_, rfl⟩
          have htm := tkM_len t q
          obtain ⟨MT, hMT⟩ : ∃ MT, tkM t (fin p d m k) = MT := ⟨_, rfl⟩
          rw [hMT, ← hq] at ht
          rw [← hq] at u0 u1 u2 u3 u4
          have HE := Lib.hid (And.intro hq hLQ)
          clear l1 l2 l3 htl' hms hst hT' hE' hLQ hqk hq du hlast htm hMT l2' hT2
          have HP0 := Lib.hid P0
          clear P0
          go_wp2_with fail
          refine ht.mono ?_
          rintro e w6 ⟨m6, u6, rfl, o6, P6⟩
          obtain ⟨A6, c6, rfl, r6, n6, _⟩ := o6.reads
          clear ht o6 r6
          have J6 := Lib.hid P6
          clear P6
          go_wp2
          go_round
          case measure => simp only [intOf]; omega
          case rel => exact ⟨k + 1, _, _, _, _, hkK, rfl, by rw [HM.out]; exact mst_skip (HM.out ▸ HQ.out.1), fun h => HQ.out.2.1 (by have := HK.out; have := hL.out; rw [hL.out, ← HK.out]; omega), HQ.out.2.2.2.1, J6.out.symm⟩
        · have w1' : ((k : Int) == (K : Int) - 1) = true := by simp; omega
          have l2' := l2 hlast
          obtain ⟨E', hE'⟩ : ∃ E', tkE t (fin p d m k) = E' := ⟨_, rfl⟩
          rw [hE'] at l2
          rw [l2 hlast] at hE'
          have ht := P0.symm.take hBB (n := LQ) hLQ.symm (du.more hBB) (by rw [← hLQ]; omega) l1 hE' rfl hT'
          have HQ := Lib.hid (And.intro hms (And.intro l3 (And.intro htl' (And.intro hT2 hlast))))
          obtain ⟨q, hq⟩ : ∃ q, q = fin p d m k := ⟨_, rfl⟩
          have htm := tkM_len t q
          obtain ⟨MT, hMT⟩ : ∃ MT, tkM t (fin p d m k) = MT := ⟨_, rfl⟩
          rw [hMT, ← hq] at ht
          rw [← hq] at u0 u1 u2 u3 u4
          have HE := Lib.hid (And.intro hq hLQ)
          clear l1 l2 l3 htl' hms hst hT' hE' hLQ hqk hq du hlast htm hMT l2' hT2
          have HP0 := Lib.hid P0
          clear P0
          go_wp2_with fail
          refine ht.mono ?_
          rintro e w6 ⟨m6, u6, rfl, o6, P6⟩
          obtain ⟨A6, c6, rfl, r6, n6, _⟩ := o6.reads
          clear ht o6 r6
          have w2' : ((k : Int) == (μ : Int)) = false := by simp; omega
          have w3' : (k == μ) = false := by simp; omega
          obtain ⟨hzb, u0, u1, u2, u3, u4, u5, du⟩ := K0.below P6.be
          rw [← HE.out.1] at u0 u1 u2 u3 u4 du
          obtain ⟨mb, mn⟩ := mst_step hm HP.out.1 HQ.out.1 (by rw [hL.out, ← HK.out]; exact hkK) (by rw [hL.out, ← HK.out]; exact hμK) hkμ
          rw [← HE.out.1] at mb mn
          have hsl1 := HQ.out.1.1
          have ht := P6.symm.take (P6.be.size) (p := q) (n := LQ) (by rw [HE.out.1]; exact HE.out.2.symm) (du.more P6.be.size) (by rw [HE.out.1, ← HE.out.2]; omega) mb rfl rfl rfl
          obtain ⟨S7, hS7⟩ : ∃ S7, tkS s q = S7 := ⟨_, rfl⟩
          obtain ⟨E7, hE7⟩ : ∃ E7, tkE s q = E7 := ⟨_, rfl⟩
          obtain ⟨M7, hM7⟩ : ∃ M7, tkM s q = M7 := ⟨_, rfl⟩
          rw [hS7] at mn
          rw [hS7, hE7, hM7] at ht
          have HR := Lib.hid mn
          clear mn mb hS7 hE7 hM7 hsl1 P6 du hkμ
          go_wp2_with fail
          refine ht.mono ?_
          rintro e w7 ⟨m7, u7, rfl, o7, P7⟩
          obtain ⟨A7, c7, rfl, r7, n7, _⟩ := o7.reads
          have J7 := Lib.hid P7
          clear ht o7 r7 P7
          go_wp2
          go_round
          case measure => simp only [intOf]; omega
          case rel => exact ⟨k + 1, _, _, _, _, hkK, rfl, HR.out, fun h => HQ.out.2.1 (by rw [hL.out, ← HK.out]; omega), HQ.out.2.2.2.1, J7.out⟩
      · by_cases hkμ : k = μ
        · have w2' : ((k : Int) == (μ : Int)) = true := by simp; omega
          have w3' : (k == μ) = true := by simp; omega
          have HM := Lib.hid hkμ
          clear hkμ
          have w1' : ((k : Int) == (K : Int) - 1) = false := by simp; omega
          obtain ⟨E', hE'⟩ : ∃ E', tkE t (fin p d m k) = E' := ⟨_, rfl⟩
          rw [hE'] at l2
          have ht := P0.symm.take hBB (n := LQ) hLQ.symm (du.more hBB) (by rw [← hLQ]; omega) l1 hE' rfl hT'
          have HQ := Lib.hid (And.intro hms (And.intro l3 (And.intro htl' (And.intro hT2 hlast))))
          obtain ⟨q, hq⟩ : ∃ q, q = fin p d m k := ⟨_, rfl⟩
          have htm := tkM_len t q
          obtain ⟨MT, hMT⟩ : ∃ MT, tkM t (fin p d m k) = MT := ⟨_, rfl⟩
          rw [hMT, ← hq] at ht
          rw [← hq] at u0 u1 u2 u3 u4
          have HE := Lib.hid (And.intro hq hLQ)
          clear l1 l2 l3 htl' hms hst hT' hE' hLQ hqk hq du hlast htm hMT hT2
          have HP0 := Lib.hid P0
          clear P0
          go_wp2_with fail
          refine ht.mono ?_
          rintro e w6 ⟨m6, u6, rfl, o6, P6⟩
          obtain ⟨A6, c6, rfl, r6, n6, _⟩ := o6.reads
          clear ht o6 r6
          have J6 := Lib.hid P6
          clear P6
          go_wp2
          go_round
          case measure => simp only [intOf]; omega
          case rel => exact ⟨k + 1, _, _, _, _, hkK, rfl, by rw [HM.out]; exact mst_skip (HM.out ▸ HQ.out.1), fun h => HQ.out.2.1 (by have := HK.out; have := hL.out; rw [hL.out, ← HK.out]; omega), HQ.out.2.2.2.1, J6.out.symm⟩
        · have w1' : ((k : Int) == (K : Int) - 1) = false := by simp; omega
          obtain ⟨E', hE'⟩ : ∃ E', tkE t (fin p d m k) = E' := ⟨_, rfl⟩
          rw [hE'] at l2
          have ht := P0.symm.take hBB (n := LQ) hLQ.symm (du.more hBB) (by rw [← hLQ]; omega) l1 hE' rfl hT'
          have HQ := Lib.hid (And.intro hms (And.intro l3 (And.intro htl' (And.intro hT2 hlast))))
          obtain ⟨q, hq⟩ : ∃ q, q = fin p d m k := ⟨_, rfl⟩
          have htm := tkM_len t q
          obtain ⟨MT, hMT⟩ : ∃ MT, tkM t (fin p d m k) = MT := ⟨_, rfl⟩
          rw [hMT, ← hq] at ht
          rw [← hq] at u0 u1 u2 u3 u4
          have HE := Lib.hid (And.intro hq hLQ)
          clear l1 l2 l3 htl' hms hst hT' hE' hLQ hqk hq du hlast htm hMT hT2
          have HP0 := Lib.hid P0
          clear P0
          go_wp2_with fail
          refine ht.mono ?_
          rintro e w6 ⟨m6, u6, rfl, o6, P6⟩
          obtain ⟨A6, c6, rfl, r6, n6, _⟩ := o6.reads
          clear ht o6 r6
          have w2' : ((k : Int) == (μ : Int)) = false := by simp; omega
          have w3' : (k == μ) = false := by simp; omega
          obtain ⟨hzb, u0, u1, u2, u3, u4, u5, du⟩ := K0.below P6.be
          rw [← HE.out.1] at u0 u1 u2 u3 u4 du
          obtain ⟨mb, mn⟩ := mst_step hm HP.out.1 HQ.out.1 (by rw [hL.out, ← HK.out]; exact hkK) (by rw [hL.out, ← HK.out]; exact hμK) hkμ
          rw [← HE.out.1] at mb mn
          have hsl1 := HQ.out.1.1
          have ht := P6.symm.take (P6.be.size) (p := q) (n := LQ) (by rw [HE.out.1]; exact HE.out.2.symm) (du.more P6.be.size) (by rw [HE.out.1, ← HE.out.2]; omega) mb rfl rfl rfl
          obtain ⟨S7, hS7⟩ : ∃ S7, tkS s q = S7 := ⟨_, rfl⟩
          obtain ⟨E7, hE7⟩ : ∃ E7, tkE s q = E7 := ⟨_, rfl⟩
          obtain ⟨M7, hM7⟩ : ∃ M7, tkM s q = M7 := ⟨_, rfl⟩
          rw [hS7] at mn
          rw [hS7, hE7, hM7] at ht
          have HR := Lib.hid mn
          clear mn mb hS7 hE7 hM7 hsl1 P6 du hkμ
          go_wp2_with fail
          refine ht.mono ?_
          rintro e w7 ⟨m7, u7, rfl, o7, P7⟩
          obtain ⟨A7, c7, rfl, r7, n7, _⟩ := o7.reads
          have J7 := Lib.hid P7
          clear ht o7 r7 P7
          go_wp2
          go_round
          case measure => simp only [intOf]; omega
          case rel => exact ⟨k + 1, _, _, _, _, hkK, rfl, HR.out, fun h => HQ.out.2.1 (by rw [hL.out, ← HK.out]; omega), HQ.out.2.2.2.1, J7.out⟩
    · have hkK' : k = K := by omega
      have hal := out _ (b3.trans (P0.be.mono b3.size))
      subst hkK'
      clear P0 hst hms hkK
      go_wp2_with fail
      refine hal.mono ?_
      rintro e w6 ⟨rfl, b6⟩
      go_wp2
      go_ret
      exact ⟨rfl, b6⟩
end Go.Proofs.Ytfjmlgclgmcjcaa.Par
