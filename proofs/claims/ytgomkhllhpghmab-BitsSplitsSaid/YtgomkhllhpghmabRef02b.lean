/-
  The walks of the reference of chapter 2: the bytes of a list of bits; two byte strings compared; the low bits of a number.
-/
import Derived.Test.YtgomkhllhpghmabRef02
namespace Go.Proofs.Ytgomkhllhpghmab
open Go.RowKit

theorem Room.one {bs : List Byte} {L : List Bool} {fr : Nat} (h : Room bs L fr) (hf : 0 < fr) (x : Byte) (hx : bs[bs.length - 1]? = some x) : Room (bs.set (bs.length - 1) (x ||| (1#8 <<< (fr - 1)))) (L ++ [true]) (fr - 1) := by
  have := h.put (size := 1) (m := 1) (by omega) hf x 1#8 hx (fun i => by
    cases i with
    | zero => rfl
    | succ i =>
      have h1 : ¬ (i + 1 < 1) := by omega
      rw [decide_eq_false h1, Bool.false_and]
      have : (1#8).getLsbD (i + 1) = Nat.testBit 1 (i + 1) := rfl
      rw [this, Nat.testBit_succ]
      simp)
  exact this
theorem Room.none_ {bs : List Byte} {L : List Bool} {fr : Nat} (h : Room bs L fr) (hf : 0 < fr) : Room bs (L ++ [false]) (fr - 1) := by
  refine ⟨by have := h.len; simp; omega, by have := h.le; omega, fun k => ?_⟩
  rw [h.bit, getD_app]
  split
  · rfl
  · rename_i hk
    rw [List.getD_eq_getElem?_getD, List.getElem?_eq_none (by omega)]
    cases hj : k - L.length <;> simp
theorem Room.free_bit {bs : List Byte} {L : List Bool} {fr : Nat} (h : Room bs L fr) (hf : 0 < fr) (x : Byte) (hx : bs[bs.length - 1]? = some x) (i : Nat) (hi : i < fr) : x.getLsbD i = false := by
  have hl := h.len
  have h8 := h.le
  have hb := h.bit (8 * (bs.length - 1) + (7 - i))
  unfold bitAt at hb
  rw [show (8 * (bs.length - 1) + (7 - i)) / 8 = bs.length - 1 by omega, show 7 - (8 * (bs.length - 1) + (7 - i)) % 8 = i by omega, List.getD_eq_getElem?_getD, hx, Option.getD_some] at hb
  rw [hb, List.getD_eq_getElem?_getD, List.getElem?_eq_none (by omega)]
  rfl
/-- where a bit is free, adding it is setting it -/
theorem add_or (x : Byte) (i : Nat) (hi : i < 8) (h : x.getLsbD i = false) : IntKind.u8.wrap ((x.toNat : Int) + 2 ^ i) = ((x ||| (1#8 <<< i)).toNat : Int) := by
  have hz : x &&& (1#8 <<< i) = 0#8 := by
    refine BitVec.eq_of_getLsbD_eq fun j hj => ?_
    rw [BitVec.getLsbD_and, BitVec.getLsbD_shiftLeft]
    by_cases hji : j = i
    · subst hji; simp [h]
    · by_cases hlt : j < i
      · simp [hlt]
      · have : (1#8).getLsbD (j - i) = false := by
          have e : (1#8).getLsbD (j - i) = Nat.testBit 1 (j - i) := rfl
          obtain ⟨m, hm⟩ : ∃ m, j - i = m + 1 := ⟨j - i - 1, by omega⟩
          rw [e, hm, Nat.testBit_succ]
          simp
        simp [this]
  rw [← BitVec.add_eq_or_of_and_eq_zero _ _ hz, BitVec.toNat_add, IntKind.wrap_u8, BitVec.toNat_shiftLeft, Nat.shiftLeft_eq]
  have hp : 2 ^ i ≤ 2 ^ 7 := Nat.pow_le_pow_right (by decide) (by omega)
  have e : ((2 : Int) ^ i) = ((2 ^ i : Nat) : Int) := by rw [Int.natCast_pow]; rfl
  rw [e]
  generalize 2 ^ i = q at *
  have h1 : (1#8).toNat * q % 2 ^ 8 = q := by
    have : (1#8).toNat = 1 := rfl
    rw [this]; omega
  rw [h1]
  omega
theorem half_of (i : Nat) (hi : i < 8) : (128 : Int) / 2 ^ i = 2 ^ (7 - i) := by
  match i, hi with
  | 0, _ | 1, _ | 2, _ | 3, _ | 4, _ | 5, _ | 6, _ | 7, _ => decide

/-- the bytes of the first j bits, in a slice of the call's own -/
def BMid (w : World) (L : List Bool) (j : Nat) (v : Value) (wr : World) : Prop :=
  ∃ bs fr, Ow wr w.heap.size 5 v bs ∧ Room bs (L.take j) fr ∧ fr < 8 ∧ Below w.heap.size w wr
/-- the same with room for one more -/
def BTop (w : World) (L : List Bool) (j : Nat) (v : Value) (wr : World) : Prop :=
  ∃ bs fr, Ow wr w.heap.size 5 v bs ∧ Room bs (L.take j) fr ∧ 0 < fr ∧ Below w.heap.size w wr

set_option maxHeartbeats 1000000 in
theorem xbytes_any (w : World) (base g : Nat) (r : Option Nat) (L : List Bool) (h : XAt w base g r L) (hL : L.length < 1000000) :
    Calls Try.prog 16 #[.pointer (some ⟨g, 0, none⟩)] w fun e w' => ∃ v bs, e = .returned v ∧ Packs bs L ∧ Ow w' w.heap.size 5 v bs ∧ Below w.heap.size w w' := by
  have hg := h.lt
  obtain ⟨v, hc, ho, _⟩ := h
  obtain ⟨A, c, rfl, hr, _⟩ := ho.reads_len (n := L.length) (by simp)
  have c0 := hc.cell 0
  simp at c0
  clear hc ho
  go_enter Try.func16, Try.ntmps16
  go_wp2
  go_loopg [3, 4] L.length (fun gk s i wr => ∃ j : Nat, j + gk = L.length ∧ i = .int .i64 (j : Int) ∧ BMid w L j s wr)
  case atStart => exact ⟨0, by omega, rfl, [], 0, World.ownsRow_nil _ _ _ _, room_nil, by omega, Below.refl _ _⟩
  case round =>
    obtain ⟨j, hj, rfl, hM⟩ := hrel
    have hbel : Below w.heap.size w wr := by obtain ⟨_, _, _, _, _, hb⟩ := hM; exact hb
    have c1 : wr.cell? ⟨g, 0, none⟩ = some (.slice A L.length c) := (hbel.cell (p := ⟨g, 0, none⟩) hg).trans c0
    by_cases hlt : j < L.length
    · have hlen : (L.take j).length = j := by rw [List.length_take]; omega
      go_upto_if 16 with (fail)
      go_cut [3] (fun s3 wx => BTop w L j s3 wx)
      case first =>
        obtain ⟨bs, fr, ho, hR, hf, _⟩ := hM
        have h8 := hR.len
        rw [hlen] at h8
        have hs := hbel.size
        by_cases h0 : j % 8 = 0
        · have t : ((j : Int) % 8 == 0) = true := by rw [beq_iff_eq]; omega
          obtain rfl : fr = 0 := by omega
          have hb47 : bs.length ≤ 2000000 := by omega
          clear h8 hlen h0
          go_wp2_with (first
            | (at_builtin; refine wpList_app _ is_bytes rfl (.tmp 17) (.tmp 18) rfl (m := bs) rfl (ho.alloc _) (l := [0#8]) rfl (Bs_new1 _ _ _ _ rfl) (by simp) (by simp; omega) (by simp; omega) ?_; intro v2 w2 hown2 hgrow2))
          go_meet
          case rel => exact ⟨_, 8, hown2, hR.grow, by omega, (hbel.alloc hs _).grown hgrow2 (by simp; omega) (Ow.base_le (l := bs) ho)⟩
        · have t : ((j : Int) % 8 == 0) = false := by rw [beq_eq_false_iff_ne]; omega
          have hfr : 0 < fr := by omega
          clear h8 hlen h0
          go_wp2
          go_meet
          case rel => exact ⟨bs, fr, ho, hR, hfr, hbel⟩
      case rest =>
        clear hM
        obtain ⟨bs, fr, ho, hR, hf, hbel2⟩ := hcut
        have h8 := hR.len
        rw [hlen] at h8
        have hle := hR.le
        have c2 : wc.cell? ⟨g, 0, none⟩ = some (.slice A L.length c) := (hbel2.cell (p := ⟨g, 0, none⟩) hg).trans c0
        have hr1 := hr.below hbel2
        obtain ⟨b, off, rfl, _, hcell⟩ := hr1.at_ (k := j) (by simpa using hlt)
        rw [List.getElem_map] at hcell
        have hj0 : (0 : Int) ≤ (j : Int) := Int.natCast_nonneg _
        obtain ⟨m, hm⟩ : ∃ m, bs.length = m + 1 := ⟨bs.length - 1, by omega⟩
        obtain ⟨x, hx⟩ : ∃ x, bs[m]? = some x := ⟨_, List.getElem?_eq_getElem (by omega)⟩
        obtain ⟨gr, c3, rfl, hgb, hgl, hmc, hcm, hcells, hfree⟩ := ho.form_len hm
        have d1 := hcells m x hx
        have d2 := hfree m
        have htk : L.take (j + 1) = L.take j ++ [L[j]] := List.take_succ_eq_append_getElem hlt
        have HK := Lib.hid (And.intro htk (And.intro hm (And.intro hx (And.intro h8 hlen))))
        have hm0 : (0 : Int) ≤ (m : Int) := Int.natCast_nonneg _
        have hm2 : m < 1000000 := by omega
        unfold maxLen at hcm
        clear htk hm hx h8 hcells hfree hlen c1
        by_cases hbit : L[j] = true
        · have e1 : ((B8 (bit8 L[j])) = .int .u8 1) := by rw [hbit]; rfl
          rw [e1] at hcell
          have HBIT := Lib.hid hbit
          clear e1 hbit
          go_wp2
          go_roundg (gk - 1)
          case measure => omega
          case rel =>
            obtain ⟨htk, hm, hx, h8, hlen⟩ := HK.out
            have hbt : L[j] = true := HBIT.out
            have hml : m = bs.length - 1 := by omega
            have hfb := hR.free_bit hf x (by rw [← hml]; exact hx) (fr - 1) (by omega)
            have hval := add_or x (fr - 1) (by omega) hfb
            rw [show fr - 1 = 7 - j % 8 by omega, ← half_of (j % 8) (by omega), IntKind.wrap_u8] at hval
            have hnew := hR.one hf x (by rw [← hml]; exact hx)
            rw [← hml] at hnew
            refine ⟨j + 1, by omega, by go_num, _, fr - 1, ?_, by rw [htk, hbt]; exact hnew, by omega, hbel2.setCell (p := ⟨gr, m, none⟩) hgb _⟩
            rw [hval, show 7 - j % 8 = fr - 1 by omega]
            exact ho.set_ rfl _
        · have e1 : ((B8 (bit8 L[j])) = .int .u8 0) := by
            have : L[j] = false := by simpa using hbit
            rw [this]; rfl
          rw [e1] at hcell
          have HBIT := Lib.hid hbit
          clear e1 hbit
          go_wp2
          go_roundg (gk - 1)
          case measure => omega
          case rel =>
            obtain ⟨htk, hm, hx, h8, hlen⟩ := HK.out
            have hbf : L[j] = false := by simpa using HBIT.out
            refine ⟨j + 1, by omega, by go_num, bs, fr - 1, ho, ?_, by omega, hbel2⟩
            rw [htk, hbf]
            exact hR.none_ hf
    · have hjl : j = L.length := by omega
      obtain ⟨bs, fr, ho, hR, hf, _⟩ := hM
      rw [hjl, List.take_length] at hR
      obtain ⟨A2, c2, rfl, _⟩ := ho.reads
      clear hjl
      go_wp2
      go_ret
      exact ⟨_, bs, rfl, hR.packs hf, ho, hbel⟩

set_option maxHeartbeats 400000 in
theorem same_any (a b : Option Addr) (l m : List Byte) (n k c d : Nat) (w : World) (hl : Hid (l.length = n)) (hm : Hid (m.length = k)) (ha : Bs w w.heap.size a l) (hb : Bs w w.heap.size b m) (hna : a = none → c = 0) (hnb : b = none → d = 0) :
    Calls Try.prog 14 #[.slice a n c, .slice b k d] w fun e w' => e = .returned (.bool (decide (l = m))) ∧ w = w' := by
  have hn : l.length = n := hl
  have hk : m.length = k := hm
  have h1 := run_str (P := Try.prog) w is_bytes Try.underlying9 ha hna
  have h2 := run_str (P := Try.prog) w is_bytes Try.underlying9 hb hnb
  have h3 := str_beq l m
  rw [hn] at h1
  rw [hk] at h2
  clear hn hk ha hb
  go_enter Try.func14, Try.ntmps14
  go_wp2
  go_ret
  exact ⟨rfl, rfl⟩

set_option maxHeartbeats 400000 in
theorem low_any (n : BitVec 64) (k : Nat) (w : World) (hk : k ≤ 64) :
    Calls Try.prog 25 #[.int .u64 (n.toNat : Int), .int .i64 (k : Int)] w fun e w' => e = .returned (.int .u64 ((n.toNat % 2 ^ k : Nat) : Int)) ∧ w = w' := by
  have hn := n.isLt
  by_cases h : k = 64
  · subst h
    have e : n.toNat % 2 ^ 64 = n.toNat := Nat.mod_eq_of_lt hn
    rw [e]
    clear e
    go_enter Try.func25, Try.ntmps25
    go_wp2
    go_ret
    exact ⟨rfl, rfl⟩
  · have h1 : k < 64 := by omega
    have h2 := wrap_small (1 * 2 ^ k) (by
      have : 2 ^ k < 2 ^ 64 := Nat.pow_lt_pow_right (by decide) h1
      omega)
    have e : ((2 : Int) ^ k) = ((2 ^ k : Nat) : Int) := by rw [Int.natCast_pow]; rfl
    rw [Nat.one_mul, ← e] at h2
    have hp : (2 : Int) ^ k ≠ 0 := by
      have := Nat.two_pow_pos k
      rw [e]; omega
    clear e
    go_enter Try.func25, Try.ntmps25
    go_wp2
    go_ret
    refine ⟨ret_int ?_, rfl⟩
    rw [Int.natCast_emod, Int.natCast_pow]
    rfl
end Go.Proofs.Ytgomkhllhpghmab
