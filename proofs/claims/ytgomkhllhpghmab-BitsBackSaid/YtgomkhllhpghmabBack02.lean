/-
  The walk of the law BitsBack.
-/
import Derived.Test.YtgomkhllhpghmabGets02
namespace Go.Proofs.Ytgomkhllhpghmab
open Go.RowKit

theorem bitsAll_split (l : List (BitVec 64 × Int)) (j : Nat) (hj : j < l.length) : ∃ post, bitsAll l l.length = bitsAll l j ++ fbits l[j] ++ post := by
  refine ⟨(l.drop (j + 1)).flatMap fbits, ?_⟩
  rw [← bitsAll_succ l j hj]
  unfold bitsAll
  rw [List.take_length, ← List.flatMap_append, List.take_append_drop]
theorem fbits_ok (n : BitVec 64) (K : Nat) (hK : K ≤ 64) : fbits (n, (K : Int)) = bitsOf n.toNat K := by
  unfold fbits
  rw [if_pos (by constructor <;> simp <;> omega)]
  simp
theorem fbits_bad (n : BitVec 64) (k : Int) (hk : k < 0 ∨ 64 < k) : fbits (n, k) = [] := by
  unfold fbits
  rw [if_neg (by simp; omega)]

theorem get_bits (w : World) (base g : Nat) (r : Option Nat) (bs : List Byte) (l : List (BitVec 64 × Int)) (j : Nat) (n : BitVec 64) (K : Nat) (hj : j < l.length) (hf : l[j] = (n, (K : Int))) (hK : K ≤ 64) (hpk : Packs bs (bitsAll l l.length))
    (h : RAt w base g r bs (bitsAll l j).length false) (hL : bs.length < 1000000) :
    Calls Try.prog 20 #[.pointer (some ⟨g, 0, none⟩), .int .i64 (K : Int)] w fun e w' => e = .returned (.int .u64 ((n.toNat % 2 ^ K : Nat) : Int)) ∧ RAt w' base g r bs (bitsAll l (j + 1)).length false ∧ Only [g] w w' := by
  obtain ⟨post, hs⟩ := bitsAll_split l j hj
  have hfb := fbits_ok n K hK
  rw [hf, hfb] at hs
  have hnum : numAt bs (bitsAll l j).length K = n.toNat % 2 ^ K := numAt_bits (pre := bitsAll l j) (post := post) (fun k => by rw [hpk.bit, hs])
  have hsu := bitsAll_succ l j hj
  rw [hf, hfb] at hsu
  have hlen : (bitsAll l (j + 1)).length = (bitsAll l j).length + K := by rw [hsu, List.length_append, bitsOf_len]
  have htot : (bitsAll l l.length).length = (bitsAll l j).length + K + post.length := by rw [hs, List.length_append, List.length_append, bitsOf_len]
  rw [← hnum, hlen]
  exact get_ok w base g r bs _ K h hL hK (by have := hpk.len; omega)

set_option maxHeartbeats 4000000 in
theorem bitsBack_walk (a : Option Addr) (c : Nat) (l : List (BitVec 64 × Int)) (w : World) (hm : l.length ≤ maxLen) (hp : Prs w a fN fK l) :
    Calls Try.prog 5 #[.slice a l.length c] w fun e w' => e = .returned (.bool true) ∧ Below w.heap.size w w' := by
  have hfew := fun W => few_any a l.length c W hm
  have bel0 : Below w.heap.size w (w.alloc (.cells #[.bool true, .slice none 0 0, .int .i64 0] 53)) := (Below.refl _ _).alloc (Nat.le_refl _) _
  by_cases hlen : l.length ≤ 100
  · rw [decide_eq_true hlen] at hfew
    have hW0 := WAt_new w w.heap.size
    go_enter Try.func5, Try.ntmps5
    go_wp2_with (first
      | (go_at_call 8; refine (newWriter_any _).mono ?_; rintro e w1 ⟨rfl, rfl⟩)
      | (go_at_call 9; refine (hfew _).mono ?_; rintro e w1 ⟨rfl, rfl⟩))
    clear hfew
    go_loopg [4] l.length (fun gk i wr => ∃ j : Nat, j + gk = l.length ∧ i = .int .i64 (j : Int) ∧ (∃ r, WAt wr w.heap.size w.heap.size r (bitsAll l j)) ∧ Below w.heap.size w wr)
    case atStart => exact ⟨0, by omega, rfl, ⟨none, hW0⟩, bel0⟩
    case round =>
      obtain ⟨j, hj, rfl, ⟨r, hW⟩, hbel⟩ := hrel
      clear hW0 bel0
      by_cases hlt : j < l.length
      · obtain ⟨f, hf⟩ : ∃ f, f = l[j] := ⟨_, rfl⟩
        have hfj : l[j]? = some f := by rw [hf]; exact List.getElem?_eq_getElem hlt
        obtain ⟨b, off, rfl, hbl, q0, q1⟩ := hp j f hfj
        have c0 : wr.cell? ⟨b, off + j * 2, none⟩ = some (fN f.1) := (hbel.cell (p := ⟨b, off + j * 2, none⟩) hbl).trans q0
        have c1 : wr.cell? ⟨b, off + j * 2 + 1, none⟩ = some (fK f.2) := (hbel.cell (p := ⟨b, off + j * 2 + 1, none⟩) hbl).trans q1
        have hj0 : (0 : Int) ≤ (j : Int) := Int.natCast_nonneg _
        have hj1 : (j : Int) < (l.length : Int) := by omega
        have hLl := bitsAll_len l j
        have hs := bitsAll_succ l j hlt
        rw [← hf] at hs
        have HS := Lib.hid hs
        clear hf hs hfj
        have hWd := hW.drew
        have hbd := hbel.drew
        go_wp2_with fail
        go_region_held3 (fun w' => w'.cell? ⟨b, off + j * 2, none⟩ = some (fN f.1) ∧ w'.cell? ⟨b, off + j * 2 + 1, none⟩ = some (fK f.2)) (first | go_keep | exact ⟨d1, d2⟩)
          (first | (go_at_call 11; refine (put_fld _ w.heap.size w.heap.size r (bitsAll l j) f hWd (by omega) hbd.size).mono ?_; rintro e w1 ⟨rfl, hP⟩; have hbel1 := hbd.trans (hP.below hWd (Nat.le_refl _) (Nat.le_refl _)); have d1 := (hbel1.cell (p := ⟨b, off + j * 2, none⟩) hbl).trans q0; have d2 := (hbel1.cell (p := ⟨b, off + j * 2 + 1, none⟩) hbl).trans q1))
        obtain ⟨r1, hW1, _, _⟩ := hP
        go_wp2_with fail
        go_roundg (gk - 1)
        case measure => omega
        case rel => exact ⟨j + 1, by omega, by go_num, ⟨r1, by rw [HS.out]; exact hW1⟩, hbel1⟩
      · have hjl : j = l.length := by omega
        rw [hjl] at hW
        have hLl : (bitsAll l l.length).length < 1000000 := by have := bitsAll_len l l.length; omega
        have hz := hbel.size
        have hjg : ¬ (j : Int) < (l.length : Int) := by omega
        clear hjl
        go_wp2_with fail
        refine (wbytes_any _ w.heap.size w.heap.size r (bitsAll l l.length) hW hLl).mono ?_
        rintro e w1 ⟨v1, bs, rfl, hpk, ho, hb⟩
        obtain ⟨A, c1, rfl, hA, hAn, _⟩ := ho.reads
        have hbel1 := hbel.trans (hb.mono hz)
        have hbs : bs.length < 1000000 := by have := hpk.len; omega
        clear hW ho hb
        go_wp2_with fail
        refine (newReader_any A bs _ c1 _ rfl hA hAn (by omega)).mono ?_
        rintro e w2 ⟨g, s, rfl, hR, hg, hb⟩
        have hbel2 := hbel1.trans (hb.mono hbel1.size)
        have hgw : w.heap.size ≤ g := Nat.le_trans hbel1.size hg
        obtain ⟨B, hB⟩ : ∃ B, B = w1.heap.size := ⟨_, rfl⟩
        rw [← hB] at hR
        clear hbel1 hA hb hB hbel hg
        go_wp2_with fail
        go_loopg [6] l.length (fun gk i wr => ∃ j : Nat, j + gk = l.length ∧ i = .int .i64 (j : Int) ∧ RAt wr B g s bs (bitsAll l j).length false ∧ Below w.heap.size w wr)
        case atStart => exact ⟨0, by omega, rfl, hR, hbel2⟩
        case round =>
          clear hR hbel2
          obtain ⟨i, hi, rfl, hR, hbel⟩ := hrel
          by_cases hlt : i < l.length
          · obtain ⟨⟨n, k⟩, hf⟩ : ∃ f, f = l[i] := ⟨_, rfl⟩
            have hfj : l[i]? = some (n, k) := by rw [hf]; exact List.getElem?_eq_getElem hlt
            obtain ⟨b, off, rfl, hbl, q0, q1⟩ := hp i (n, k) hfj
            have hi0 : (0 : Int) ≤ (i : Int) := Int.natCast_nonneg _
            have hi1 : (i : Int) < (l.length : Int) := by omega
            by_cases hk : 0 ≤ k ∧ k ≤ 64
            · obtain ⟨K, rfl⟩ := Int.eq_ofNat_of_zero_le hk.1
              have hK : K ≤ 64 := by omega
              have hK0 : (0 : Int) ≤ (K : Int) := Int.natCast_nonneg _
              have hK1 : (K : Int) ≤ 64 := by omega
              have HF := Lib.hid hf
              have c0 : wr.cell? ⟨b, off + i * 2, none⟩ = some (.int .u64 (n.toNat : Int)) := (hbel.cell (p := ⟨b, off + i * 2, none⟩) hbl).trans q0
              have c1 : wr.cell? ⟨b, off + i * 2 + 1, none⟩ = some (.int .i64 (K : Int)) := (hbel.cell (p := ⟨b, off + i * 2 + 1, none⟩) hbl).trans q1
              clear hf hfj hk
              have hRd := hR.drew
              have hbd := hbel.drew
              go_wp2_with fail
              go_region_held3 (fun w' => w'.cell? ⟨b, off + i * 2, none⟩ = some (.int .u64 (n.toNat : Int)) ∧ w'.cell? ⟨b, off + i * 2 + 1, none⟩ = some (.int .i64 (K : Int))) (first | go_keep | exact ⟨d1, d2⟩)
                (first
                  | (go_at_call 20; refine (get_bits _ B g s bs l i n K hlt HF.out.symm hK hpk hRd hbs).mono ?_; rintro e w3 ⟨rfl, hR3, hO3⟩; have hbel3 := hbd.trans (hO3.below hbd.size (by simp; exact hgw)); have d1 := (hbel3.cell (p := ⟨b, off + i * 2, none⟩) hbl).trans q0; have d2 := (hbel3.cell (p := ⟨b, off + i * 2 + 1, none⟩) hbl).trans q1)
                  | (go_at_call 25; refine (low_any n K _ hK).mono ?_; rintro e w4 ⟨rfl, rfl⟩))
              go_wp2_with fail
              go_roundg (gk - 1)
              case measure => omega
              case rel => exact ⟨i + 1, by omega, by go_num, hR3, hbel3⟩
            · have hbad : (bitsAll l (i + 1)).length = (bitsAll l i).length := by
                rw [bitsAll_succ l i hlt, ← hf, fbits_bad n k (by omega), List.append_nil]
              have HBAD := Lib.hid hbad
              have c1 : wr.cell? ⟨b, off + i * 2 + 1, none⟩ = some (.int .i64 k) := (hbel.cell (p := ⟨b, off + i * 2 + 1, none⟩) hbl).trans q1
              clear hf hfj hbad
              by_cases hk0 : 0 ≤ k
              · have t1 : decide (k ≤ 64) = false := by simp; omega
                clear hk
                go_wp2_with fail
                go_quiet (fail)
                go_wp2_with fail
                go_roundg (gk - 1)
                case measure => omega
                case rel => exact ⟨i + 1, by omega, by go_num, by rw [HBAD.out]; exact hR.draws nq, hbel.trans (drewN_below _ _)⟩
              · have t0 : decide (0 ≤ k) = false := by simp; omega
                clear hk
                go_wp2_with fail
                go_quiet (fail)
                go_wp2_with fail
                go_roundg (gk - 1)
                case measure => omega
                case rel => exact ⟨i + 1, by omega, by go_num, by rw [HBAD.out]; exact hR.draws nq, hbel.trans (drewN_below _ _)⟩
          · have hil : i = l.length := by omega
            rw [hil] at hR
            have hil2 : ¬ (i : Int) < (l.length : Int) := by omega
            clear hil
            obtain ⟨T, hT⟩ : ∃ T, T = (bitsAll l l.length).length := ⟨_, rfl⟩
            rw [← hT] at hR
            have hlf : leftR bs T false = 8 * bs.length - T := rfl
            obtain ⟨q, hq⟩ : ∃ q, q = leftR bs T false := ⟨_, rfl⟩
            have hle : T ≤ 8 * bs.length := by obtain ⟨_, _, _, _, hle⟩ := hR; exact hle
            have hq8 : q < 8 := by have := hpk.len; omega
            have hzero : numAt bs T q = 0 := numAt_zero (fun k hk => by rw [hpk.bit, List.getD_eq_getElem?_getD, List.getElem?_eq_none (by omega)]; rfl)
            have hTq : T + q ≤ 8 * bs.length := by omega
            have hleft := left_any wr B g s bs T false hR hbs
            rw [← hq] at hleft
            clear hlf hq hT
            go_wp2_with fail
            refine hleft.mono ?_
            rintro e w3 ⟨rfl, n3, rfl⟩
            clear hleft
            have hR3 := hR.draws n3
            have hbel3 := hbel.trans (drewN_below (B := w.heap.size) wr n3)
            go_wp2_with fail
            refine (failed_any _ B g s bs T false hR3).mono ?_
            rintro e w4 ⟨rfl, rfl⟩
            have hget := get_ok _ B g s bs T q hR3 hbs (by omega) hTq
            rw [hzero] at hget
            go_wp2_with fail
            refine hget.mono ?_
            rintro e w4 ⟨rfl, hR4, hO4⟩
            have hbel4 := hbel3.trans (hO4.below hbel3.size (by simp; exact hgw))
            clear hget
            go_wp2_with fail
            refine (failed_any _ B g s bs _ false hR4).mono ?_
            rintro e w5 ⟨rfl, rfl⟩
            go_wp2_with (go_at_call 10; refine (lives_end hbel4).mono ?_; rintro e w2 ⟨rfl, hbel5⟩)
            go_ret
            exact ⟨rfl, hbel5⟩
  · rw [decide_eq_false hlen] at hfew
    go_enter Try.func5, Try.ntmps5
    go_wp2_with (first
      | (go_at_call 8; refine (newWriter_any _).mono ?_; rintro e w1 ⟨rfl, rfl⟩)
      | (go_at_call 9; refine (hfew _).mono ?_; rintro e w1 ⟨rfl, rfl⟩)
      | (go_at_call 10; refine (lives_end bel0).mono ?_; rintro e w2 ⟨rfl, hbel2⟩))
    go_ret
    exact ⟨rfl, hbel2⟩
end Go.Proofs.Ytgomkhllhpghmab
