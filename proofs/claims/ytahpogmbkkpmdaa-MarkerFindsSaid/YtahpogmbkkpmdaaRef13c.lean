/-
  The reference of layer 13: Frames.
-/
import Derived.Test.YtahpogmbkkpmdaaRef13b
import Derived.Test.YtahpogmbkkpmdaaMarW2
namespace Go.Proofs.Ytahpogmbkkpmdaa.Mar
open Go.RowKit Go.Proofs.Ytahpogmbkkpmdaa.Row Lst
open Scr (app app_len rapply_any conv_at bel_new)

theorem Rf.sk {N f k i : Nat} {b : List Byte} {o : List (List Byte)} (h : Rf N b f k o i) (hN : 0 < N) : k ≤ b.length ∧ o.length ≤ b.length := by
  have h1 := run_sk hN (b.take f) (wf0 hN 0)
  have h2 := out_len (N := N) (s := ⟨0, [], 0⟩) (b.take f)
  rw [h.r] at h1
  rw [h.o] at h2
  rw [List.length_take] at h1 h2
  simp only at h1
  omega

set_option maxRecDepth 100000 in
set_option maxHeartbeats 4000000 in
theorem frames_any (a : Option Addr) (l : List Byte) (n c N : Nat) (w : World) (hl : Hid (l.length = n)) (hb : Bs w w.heap.size a l) (hn : a = none → c = 0) (hc : n ≤ c) (hcm : c ≤ maxLen) (hm : n ≤ 100000) (hN : 0 < N) (hN2 : N ≤ 1024) :
    Calls Try.prog 15 #[.slice a n c, .int .i64 (N : Int)] w fun e w' => ∃ R E, e = .returned (.tuple #[R, .int .i64 ((run N ⟨0, [], 0⟩ l).sk : Int)]) ∧ LO w' w.heap.size 22 5 R (out N ⟨0, [], 0⟩ l) E ∧ Below w.heap.size w w' := by
  unfold maxLen at hcm
  obtain ⟨Z, hZ⟩ : ∃ Z, Z = (run N ⟨0, [], 0⟩ l).sk := ⟨_, rfl⟩
  obtain ⟨O, hO⟩ : ∃ O, O = out N ⟨0, [], 0⟩ l := ⟨_, rfl⟩
  rw [← hZ, ← hO]
  have HZ := Lib.hid (And.intro hZ hO)
  clear hZ hO
  go_enter Try.func15, Try.ntmps15
  go_wp2
  go_loopw [6, 7, 8, 9] (fun R fv kv iv wr => ∃ (f k i : Nat) (o : List (List Byte)) (E : List Nat), fv = .int .i64 (f : Int) ∧ kv = .int .i64 (k : Int) ∧ iv = .int .i64 (i : Int) ∧ i ≤ n ∧ Rf N l f k o i ∧ LO wr w.heap.size 22 5 R o E ∧ Below w.heap.size w wr) (fun _ _ _ iv _ => n - (intOf iv).toNat)
  case atStart => exact ⟨0, 0, 0, [], [], rfl, rfl, rfl, Nat.zero_le _, Rf.start l, LO.nil_ _ _ _ _, Below.refl _ _⟩
  case round =>
    obtain ⟨f, k, i, o, E, rfl, rfl, rfl, hi, hrf, hlo, hB⟩ := hrel
    have hfn : f ≤ n := by rw [← hl.out]; exact hrf.le
    have hkn := (hrf.sk hN).1
    have hon := (hrf.sk hN).2
    rw [hl.out] at hkn hon
    by_cases hin : i < n
    · by_cases hif : i < f
      · have t2 : decide ((i : Int) < (f : Int)) = true := by simp; omega
        have t2' : decide (i < f) = true := by simpa using hif
        go_wp2
        go_roundw
        case rel => exact ⟨f, k, i + 1, o, E, rfl, rfl, by go_num, hin, hrf.next (.inl hif), hlo, hB⟩
        case measure => simp [intOf]; omega
      · have t2 : decide ((i : Int) < (f : Int)) = false := by simp; omega
        have t2' : decide (i < f) = false := by simpa using hif
        have hat := fun W (hW : Below w.heap.size w W) => at_any a l n c i W hl ((hb.below hW).more hW.size) hc (by omega) (by omega)
        by_cases hmk : mrk l i
        · rw [decide_eq_true hmk] at hat
          have hfi : f ≤ i := by omega
          obtain ⟨U, hU⟩ : ∃ U, U = i + 4 := ⟨_, rfl⟩
          obtain ⟨V, hV⟩ : ∃ V, V = U + N := ⟨_, rfl⟩
          obtain ⟨K, hK⟩ : ∃ K, K = k + (i - f) := ⟨_, rfl⟩
          have r1 : (i : Int) + 4 = (U : Int) := by omega
          have r2 : (U : Int) + (N : Int) = (V : Int) := by omega
          have r3 : (k : Int) + ((i : Int) - (f : Int)) = (K : Int) := by omega
          by_cases hV2 : n < V
          · have t3 : decide ((n : Int) < (V : Int)) = true := by simp; omega
            have t3' : decide (n < V) = true := by simpa using hV2
            obtain ⟨z1, z2⟩ := hrf.cut hfi hmk (by rw [hl.out]; omega)
            have e1 : K = Z := by rw [HZ.out.1, z1, hK]
            have e2 : o = O := by rw [HZ.out.2, z2]
            subst e1 e2
            clear hU hV hK z1 z2 hrf hmk HZ
            go_wp2_with fail
            refine (hat _ hB).mono ?_
            rintro e w2 ⟨rfl, b2⟩
            go_wp2
            go_ret2
            exact ⟨_, E, rfl, hlo.below b2, hB.trans (b2.mono hB.size)⟩
          · have t3 : decide ((n : Int) < (V : Int)) = false := by simp; omega
            have t3' : decide (n < V) = false := by simpa using hV2
            have hfr := hrf.frame hfi hmk hN (by rw [hl.out]; omega)
            rw [← hU, ← hK, ← hV] at hfr
            obtain ⟨L, hL⟩ : ∃ L, L = (l.drop U).take N := ⟨_, rfl⟩
            rw [← hL] at hfr
            have hLl : L.length = N := by rw [hL, List.length_take, List.length_drop, hl.out]; omega
            obtain ⟨b, off, rfl, _⟩ := hb (by rw [hl.out]; omega)
            have hLb : Bs w w.heap.size (some ⟨b, off + U, none⟩) L := by rw [hL]; exact (Bs_sub hb U).take N
            have s0 : c ≠ U := by omega
            have s1 : (U : Int) ≤ (c : Int) := by omega
            have s2 : U ≤ c := by omega
            have s3 : V - U = N := by omega
            have s4 : (V : Int) ≤ (c : Int) := by omega
            have s5 : U ≤ V := by omega
            have s6 : (U : Int) ≤ (V : Int) := by omega
            have s7 : V ≤ c := by omega
            have s8 : V ≤ 200000 := by omega
            have s9 : U ≤ 200000 := by omega
            have hvn : V ≤ n := by omega
            have HF := Lib.hid hfr
            have HL : Hid (L.length = N) := Lib.hid hLl
            have HA : Hid ((app L).length = N) := Lib.hid (by rw [app_len, hLl])
            clear hU hV hK hrf hmk HZ hfr hL hLl
            go_wp2_with fail
            refine (hat _ hB).mono ?_
            rintro e w2 ⟨rfl, b2⟩
            have B2 := hB.trans (b2.mono hB.size)
            obtain ⟨qs, AR, kR, rfl, hqn, hqe, hqo, hqr, hqz, hq3⟩ := (hlo.below b2).parts (n := o.length) rfl
            go_wp2_with fail
            refine (rapply_any _ L N (c - U) w2 HL ((hLb.below B2).more B2.size) (by omega)).mono ?_
            rintro e w4 ⟨v4, rfl, o4, b4⟩
            obtain ⟨A4, k4, rfl, _⟩ := o4.reads_len HA.out
            have B4 := B2.trans (b4.mono B2.size)
            have hqo4 := hqo.below b4
            have hq34 : ∀ q ∈ qs, Ow w4 w.heap.size 5 q.v q.l ∧ ∀ k, q.v.ownBlock = some k → k ∈ E := fun q hq => ⟨(hq3 q hq).1.below b4, (hq3 q hq).2⟩
            go_wp2_with (at_builtin; refine wpList_row _ enc_ok is_lists (by decide) rfl (.tmp 40) (.tmp 50) rfl rfl (hqo4.alloc _) (l := [⟨app L, A4, k4⟩]) (n := 1) rfl rfl (Rs_new1 enc_ok w4 _ _ _ (by simp only [enc, HA.out])) (by simp) (by rw [hqn]; simp; omega) (by have := B4.size; simp; omega) ?_; intro R2 w6 ho6 hg6 hr6; have lo6 := (hlo.below b2).push1 (by decide) o4 B2.size HA.out b4 hqe (fun q hq => ⟨(hq34 q hq).1.alloc _, (hq34 q hq).2⟩) rfl hg6 ho6; have B6 := (B4.alloc B4.size _).grown hg6 (by have := B4.size; simp; omega) (fun i hi => ((hlo.below b2).row_lt i hi).1))
            go_roundw
            case rel => exact ⟨V, K, i + 1, o ++ [app L], _, rfl, rfl, by go_num, hin, HF.out, lo6, B6⟩
            case measure => simp [intOf]; omega
        · rw [decide_eq_false hmk] at hat
          go_wp2_with fail
          refine (hat _ hB).mono ?_
          rintro e w2 ⟨rfl, b2⟩
          go_wp2
          go_roundw
          case rel => exact ⟨f, k, i + 1, o, E, rfl, rfl, by go_num, hin, hrf.next (.inr hmk), hlo.below b2, hB.trans (b2.mono hB.size)⟩
          case measure => simp [intOf]; omega
    · obtain rfl : i = n := by omega
      obtain ⟨z1, z2⟩ := Rf.done (by rw [hl.out]; exact hrf)
      rw [List.length_drop, hl.out] at z1
      obtain ⟨T, hT⟩ : ∃ T, T = tl (l.drop f) := ⟨_, rfl⟩
      have hTl := tl_len (l.drop f)
      rw [List.length_drop, hl.out] at hTl
      rw [← hT] at z1 hTl
      have e2 : o = O := by rw [HZ.out.2, z2]
      subst e2
      obtain ⟨Q, hQ⟩ : ∃ Q, Q = i - f := ⟨_, rfl⟩
      rw [← hQ] at z1 hTl
      have e1 : Z = k + Q - T := by rw [HZ.out.1, z1]
      obtain ⟨A3, hA3⟩ : ∃ A3, (if c = f then a else Option.map (fun x => x.add f) a) = A3 := ⟨_, rfl⟩
      obtain ⟨c3, hc3⟩ : ∃ c3, c3 = c - f := ⟨_, rfl⟩
      have hLen : Hid ((l.drop f).length = Q) := Lib.hid (by rw [List.length_drop, hl.out, hQ])
      have hb3 : Bs w w.heap.size A3 (l.drop f) := fun hp => by
        rw [List.length_drop, hl.out] at hp
        obtain ⟨b, off, rfl, _⟩ := hb (by rw [hl.out]; omega)
        rw [if_neg (by omega), Option.map_some] at hA3
        subst hA3
        have hs := Bs_sub hb f
        have hadd : (⟨b, off, none⟩ : Addr).add f = ⟨b, off + f, none⟩ := by
          by_cases h0 : f = 0
          · subst h0; rfl
          · simp [Addr.add, h0]
        rw [hadd]
        exact hs (by rw [List.length_drop, hl.out]; omega)
      have htl := fun W (hW : Below w.heap.size w W) => tail_any A3 (l.drop f) Q c3 W hLen ((hb3.below hW).more hW.size) (by omega) (by omega)
      rw [← hT] at htl
      have m1 : min (f : Int) (i : Int) = (f : Int) := by omega
      have m2 : (if (i : Int) < (f : Int) then (i : Int) else (f : Int)) = (f : Int) := by split <;> omega
      have m3 : (if i < f then (i : Int) else (f : Int)) = (f : Int) := by split <;> omega
      have s1 : (f : Int) ≤ (c : Int) := by omega
      have s2 : f ≤ c := by omega
      have s3 : i - f = Q := hQ.symm
      have s4 : c - f = c3 := hc3.symm
      have s5 : (f : Int) ≤ (i : Int) := by omega
      have HE := Lib.hid e1
      have hQ2 : Q ≤ 100000 := by omega
      have hT2 : T ≤ Q := hTl
      have hk2 : k ≤ 100000 := by omega
      clear e1 z1 z2 hT hTl hQ hc3 hrf HZ hin
      go_wp2_with fail
      refine (htl _ hB).mono ?_
      rintro e w2 ⟨rfl, b2⟩
      go_wp2
      go_ret2
      exact ⟨_, E, by rw [HE.out]; go_num, hlo.below b2, hB.trans (b2.mono hB.size)⟩
end Go.Proofs.Ytahpogmbkkpmdaa.Mar
