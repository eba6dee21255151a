/-
  The walks of the reference of layer 10: Bytes, Encode, Idle, Size, Same.
-/
import Derived.Test.YtjjjlgaidklokaaRef10a
import Derived.Test.YtjjjlgaidklokaaPacW5
namespace Go.Proofs.Ytjjjlgaidklokaa.Pac
open Go.RowKit

theorem Ow_new (w : World) (base : Nat) (e : TypeId) (l : List Byte) (n : Nat) (C : Array Value) (hn : l.length = n) (hC : C = (l.map B8).toArray) (h : base ≤ w.heap.size) (hm : n ≤ maxLen) (g : Nat) (hg : w.heap.size = g) : Ow (w.alloc (.cells C e)) base e (.slice (some ⟨g, 0, none⟩) n n) l := by
  subst hn hg
  exact ⟨by simp, .inr ⟨w.heap.size, l.length, C, rfl, h, heap_alloc_new w _, Nat.le_refl _, hm, by rw [hC]; simp, by rw [hC]; simp [← List.map_take]⟩⟩
theorem hdr_cells {H C K : Nat} {x0 x1 x2 x3 x4 x5 : Int} (h0 : x0 = ((H / 256 % 256 : Nat) : Int)) (h1 : x1 = ((H % 256 : Nat) : Int)) (h2 : x2 = ((C / 256 % 256 : Nat) : Int)) (h3 : x3 = ((C % 256 : Nat) : Int)) (h4 : x4 = ((K / 256 % 256 : Nat) : Int)) (h5 : x5 = ((K % 256 : Nat) : Int)) :
    #[Value.int .u8 x0, .int .u8 x1, .int .u8 x2, .int .u8 x3, .int .u8 x4, .int .u8 x5] = ((hdr H C K).map B8).toArray := by
  subst h0 h1 h2 h3 h4 h5
  simp [hdr]

set_option maxHeartbeats 2000000 in
theorem xbytes_ff (A F T K : Nat) (a : Option Addr) (l : List Byte) (c : Nat) (w : World) (hl : Hid (l.length = K + 1)) (hb : Bs w w.heap.size a l) (hn : a = none → c = 0) (hA : A < 2048) (hF : F < 4) (hT : T < 16384) (hK : K < 4090) :
    Calls Try.prog 26 #[.agg #[.bool false, .bool false, .int .i64 (A : Int), .int .i64 (F : Int), .int .i64 (T : Int), .slice a (K + 1) c]] w fun e w' => ∃ v, e = .returned v ∧ Ow w' w.heap.size 5 v (hdr (hd1 false false A) (hd2 F T) K ++ l) ∧ Below w.heap.size w w' := by
  have b1 := bel_new w (.cells #[.bool false, .bool false, .int .i64 (A : Int), .int .i64 (F : Int), .int .i64 (T : Int), .slice a (K + 1) c] 60)
  have hln := hl.out
  have hH : hd1 false false A = A + 0 := by simp [hd1]; try omega
  have hC : hd2 F T = F * 16384 + T := rfl
  have hB2 := fun W (h : Below w.heap.size w W) => hb.below h
  clear hb
  go_enter Try.func26, Try.ntmps26
  go_wp2_with (first
    | (at_builtin; refine wpList_app _ is_bytes rfl (.tmp 44) (.tmp 46) rfl (v := Value.slice (some ⟨w.heap.size + 1, 0, none⟩) 6 6) (m := hdr (hd1 false false A) (hd2 F T) K) rfl (Ow_new _ w.heap.size 5 _ 6 _ rfl (hdr_cells ?_ ?_ ?_ ?_ ?_ ?_) b1.size (by decide) _ (by simp)) (l := l) (B := w.heap.size) (A := a) (c := c) (by rw [hln]; rfl) (hB2 _ (b1.alloc b1.size _)) hn (by rw [hln, hdr_len]; omega) (Nat.le_trans b1.size (by simp)) ?_; (rw [hH]; omega); (rw [hH]; omega); (rw [hC]; omega); (rw [hC]; omega); omega; omega; intro v2 w2 hown2 hgrow2; have bel2 := (b1.alloc b1.size _).grown hgrow2 (Nat.le_trans b1.size (by simp)) (fun i hi => by injection hi with hi; have hi' : w.heap.size + 1 = i := hi; omega)))
  go_ret
  exact ⟨v2, rfl, hown2, bel2⟩

set_option maxHeartbeats 2000000 in
theorem xbytes_ft (A F T K : Nat) (a : Option Addr) (l : List Byte) (c : Nat) (w : World) (hl : Hid (l.length = K + 1)) (hb : Bs w w.heap.size a l) (hn : a = none → c = 0) (hA : A < 2048) (hF : F < 4) (hT : T < 16384) (hK : K < 4090) :
    Calls Try.prog 26 #[.agg #[.bool false, .bool true, .int .i64 (A : Int), .int .i64 (F : Int), .int .i64 (T : Int), .slice a (K + 1) c]] w fun e w' => ∃ v, e = .returned v ∧ Ow w' w.heap.size 5 v (hdr (hd1 false true A) (hd2 F T) K ++ l) ∧ Below w.heap.size w w' := by
  have b1 := bel_new w (.cells #[.bool false, .bool true, .int .i64 (A : Int), .int .i64 (F : Int), .int .i64 (T : Int), .slice a (K + 1) c] 60)
  have hln := hl.out
  have hH : hd1 false true A = A + 2048 := by simp [hd1]; try omega
  have hC : hd2 F T = F * 16384 + T := rfl
  have hB2 := fun W (h : Below w.heap.size w W) => hb.below h
  clear hb
  go_enter Try.func26, Try.ntmps26
  go_wp2_with (first
    | (at_builtin; refine wpList_app _ is_bytes rfl (.tmp 44) (.tmp 46) rfl (v := Value.slice (some ⟨w.heap.size + 1, 0, none⟩) 6 6) (m := hdr (hd1 false true A) (hd2 F T) K) rfl (Ow_new _ w.heap.size 5 _ 6 _ rfl (hdr_cells ?_ ?_ ?_ ?_ ?_ ?_) b1.size (by decide) _ (by simp)) (l := l) (B := w.heap.size) (A := a) (c := c) (by rw [hln]; rfl) (hB2 _ (b1.alloc b1.size _)) hn (by rw [hln, hdr_len]; omega) (Nat.le_trans b1.size (by simp)) ?_; (rw [hH]; omega); (rw [hH]; omega); (rw [hC]; omega); (rw [hC]; omega); omega; omega; intro v2 w2 hown2 hgrow2; have bel2 := (b1.alloc b1.size _).grown hgrow2 (Nat.le_trans b1.size (by simp)) (fun i hi => by injection hi with hi; have hi' : w.heap.size + 1 = i := hi; omega)))
  go_ret
  exact ⟨v2, rfl, hown2, bel2⟩

set_option maxHeartbeats 2000000 in
theorem xbytes_tf (A F T K : Nat) (a : Option Addr) (l : List Byte) (c : Nat) (w : World) (hl : Hid (l.length = K + 1)) (hb : Bs w w.heap.size a l) (hn : a = none → c = 0) (hA : A < 2048) (hF : F < 4) (hT : T < 16384) (hK : K < 4090) :
    Calls Try.prog 26 #[.agg #[.bool true, .bool false, .int .i64 (A : Int), .int .i64 (F : Int), .int .i64 (T : Int), .slice a (K + 1) c]] w fun e w' => ∃ v, e = .returned v ∧ Ow w' w.heap.size 5 v (hdr (hd1 true false A) (hd2 F T) K ++ l) ∧ Below w.heap.size w w' := by
  have b1 := bel_new w (.cells #[.bool true, .bool false, .int .i64 (A : Int), .int .i64 (F : Int), .int .i64 (T : Int), .slice a (K + 1) c] 60)
  have hln := hl.out
  have hH : hd1 true false A = A + 4096 := by simp [hd1]; try omega
  have hC : hd2 F T = F * 16384 + T := rfl
  have hB2 := fun W (h : Below w.heap.size w W) => hb.below h
  clear hb
  go_enter Try.func26, Try.ntmps26
  go_wp2_with (first
    | (at_builtin; refine wpList_app _ is_bytes rfl (.tmp 44) (.tmp 46) rfl (v := Value.slice (some ⟨w.heap.size + 1, 0, none⟩) 6 6) (m := hdr (hd1 true false A) (hd2 F T) K) rfl (Ow_new _ w.heap.size 5 _ 6 _ rfl (hdr_cells ?_ ?_ ?_ ?_ ?_ ?_) b1.size (by decide) _ (by simp)) (l := l) (B := w.heap.size) (A := a) (c := c) (by rw [hln]; rfl) (hB2 _ (b1.alloc b1.size _)) hn (by rw [hln, hdr_len]; omega) (Nat.le_trans b1.size (by simp)) ?_; (rw [hH]; omega); (rw [hH]; omega); (rw [hC]; omega); (rw [hC]; omega); omega; omega; intro v2 w2 hown2 hgrow2; have bel2 := (b1.alloc b1.size _).grown hgrow2 (Nat.le_trans b1.size (by simp)) (fun i hi => by injection hi with hi; have hi' : w.heap.size + 1 = i := hi; omega)))
  go_ret
  exact ⟨v2, rfl, hown2, bel2⟩

set_option maxHeartbeats 2000000 in
theorem xbytes_tt (A F T K : Nat) (a : Option Addr) (l : List Byte) (c : Nat) (w : World) (hl : Hid (l.length = K + 1)) (hb : Bs w w.heap.size a l) (hn : a = none → c = 0) (hA : A < 2048) (hF : F < 4) (hT : T < 16384) (hK : K < 4090) :
    Calls Try.prog 26 #[.agg #[.bool true, .bool true, .int .i64 (A : Int), .int .i64 (F : Int), .int .i64 (T : Int), .slice a (K + 1) c]] w fun e w' => ∃ v, e = .returned v ∧ Ow w' w.heap.size 5 v (hdr (hd1 true true A) (hd2 F T) K ++ l) ∧ Below w.heap.size w w' := by
  have b1 := bel_new w (.cells #[.bool true, .bool true, .int .i64 (A : Int), .int .i64 (F : Int), .int .i64 (T : Int), .slice a (K + 1) c] 60)
  have hln := hl.out
  have hH : hd1 true true A = A + 6144 := by simp [hd1]; try omega
  have hC : hd2 F T = F * 16384 + T := rfl
  have hB2 := fun W (h : Below w.heap.size w W) => hb.below h
  clear hb
  go_enter Try.func26, Try.ntmps26
  go_wp2_with (first
    | (at_builtin; refine wpList_app _ is_bytes rfl (.tmp 44) (.tmp 46) rfl (v := Value.slice (some ⟨w.heap.size + 1, 0, none⟩) 6 6) (m := hdr (hd1 true true A) (hd2 F T) K) rfl (Ow_new _ w.heap.size 5 _ 6 _ rfl (hdr_cells ?_ ?_ ?_ ?_ ?_ ?_) b1.size (by decide) _ (by simp)) (l := l) (B := w.heap.size) (A := a) (c := c) (by rw [hln]; rfl) (hB2 _ (b1.alloc b1.size _)) hn (by rw [hln, hdr_len]; omega) (Nat.le_trans b1.size (by simp)) ?_; (rw [hH]; omega); (rw [hH]; omega); (rw [hC]; omega); (rw [hC]; omega); omega; omega; intro v2 w2 hown2 hgrow2; have bel2 := (b1.alloc b1.size _).grown hgrow2 (Nat.le_trans b1.size (by simp)) (fun i hi => by injection hi with hi; have hi' : w.heap.size + 1 = i := hi; omega)))
  go_ret
  exact ⟨v2, rfl, hown2, bel2⟩

theorem xbytes_any (com sec : Bool) (A F T K : Nat) (a : Option Addr) (l : List Byte) (c : Nat) (w : World) (hl : Hid (l.length = K + 1)) (hb : Bs w w.heap.size a l) (hn : a = none → c = 0) (hA : A < 2048) (hF : F < 4) (hT : T < 16384) (hK : K < 4090) :
    Calls Try.prog 26 #[.agg #[.bool com, .bool sec, .int .i64 (A : Int), .int .i64 (F : Int), .int .i64 (T : Int), .slice a (K + 1) c]] w fun e w' => ∃ v, e = .returned v ∧ Ow w' w.heap.size 5 v (hdr (hd1 com sec A) (hd2 F T) K ++ l) ∧ Below w.heap.size w w' := by
  cases com <;> cases sec
  · exact xbytes_ff A F T K a l c w hl hb hn hA hF hT hK
  · exact xbytes_ft A F T K a l c w hl hb hn hA hF hT hK
  · exact xbytes_tf A F T K a l c w hl hb hn hA hF hT hK
  · exact xbytes_tt A F T K a l c w hl hb hn hA hF hT hK

/-- the same at a packet that is valid -/
theorem xbytes_ok (com sec : Bool) (ap fl ct : Int) (a : Option Addr) (l : List Byte) (n c : Nat) (w : World) (hl : Hid (l.length = n)) (hb : Bs w w.heap.size a l) (hn : a = none → c = 0) (hok : Pk.ok ⟨com, sec, ap, fl, ct, l⟩ = true) :
    Calls Try.prog 26 #[.agg #[.bool com, .bool sec, .int .i64 ap, .int .i64 fl, .int .i64 ct, .slice a n c]] w fun e w' => ∃ v, e = .returned v ∧ Ow w' w.heap.size 5 v (Pk.enc ⟨com, sec, ap, fl, ct, l⟩) ∧ Below w.heap.size w w' := by
  rw [Pk.enc_yes hok]
  obtain ⟨h1, h2, h3, h4, h5, h6, h7, h8⟩ := Pk.ok_fits hok
  simp only at h1 h2 h3 h4 h5 h6 h7 h8
  have hln := hl.out
  obtain ⟨A, rfl⟩ := Int.eq_ofNat_of_zero_le h1
  obtain ⟨F, rfl⟩ := Int.eq_ofNat_of_zero_le h3
  obtain ⟨T, rfl⟩ := Int.eq_ofNat_of_zero_le h5
  obtain ⟨K, rfl⟩ : ∃ K, n = K + 1 := ⟨n - 1, by omega⟩
  have := xbytes_any com sec A F T K a l c w hl hb hn (by omega) (by omega) (by omega) (by omega)
  unfold Pk.head
  simp only [Int.toNat_natCast, hln, Nat.add_sub_cancel]
  exact this

set_option maxHeartbeats 1000000 in
theorem xidle_any (s : Int) (w : World) (hs : -9223372036854775808 ≤ s ∧ s ≤ 9223372036854775807) :
    Calls Try.prog 33 #[.int .i64 s] w fun e w' => ∃ v, e = .returned (.tuple #[v, .int .i64 (idE s)]) ∧ Ow w' w.heap.size 5 v (idV s) ∧ Below w.heap.size w w' := by
  by_cases h1 : s < 7
  · rw [(id_no (s := s) (by omega)).1, (id_no (s := s) (by omega)).2]
    have g1 : decide (s < 7) = true := by simpa using h1
    go_enter Try.func33, Try.ntmps33
    go_wp2
    go_ret2
    exact ⟨_, rfl, Ow_nil _ _, Below.refl _ _⟩
  · have g1 : decide (s < 7) = false := by simpa using h1
    by_cases h2 : 4096 < s
    · rw [(id_no (s := s) (by omega)).1, (id_no (s := s) (by omega)).2]
      have g2 : decide (4096 < s) = true := by simpa using h2
      go_enter Try.func33, Try.ntmps33
      go_wp2
      go_ret2
      exact ⟨_, rfl, Ow_nil _ _, Below.refl _ _⟩
    · have g2 : decide (4096 < s) = false := by simpa using h2
      obtain ⟨e1, e2⟩ := id_yes (s := s) (by omega)
      rw [e1, e2]
      obtain ⟨M, hM⟩ : ∃ M : Nat, s - 6 = (M : Int) := ⟨(s - 6).toNat, by omega⟩
      have hM2 : (s - 6).toNat = M := by omega
      have hM3 : M ≤ 4090 := by omega
      have hM4 : 1 ≤ M := by omega
      have h3 : (6 : Int) < s := by omega
      have h4 : s ≤ 4096 := by omega
      rw [hM2]
      have hen := fun W (hB : Bs W W.heap.size (some ⟨w.heap.size, 0, none⟩) (List.replicate M 0#8)) => xbytes_ok false false 2047 3 0 (some ⟨w.heap.size, 0, none⟩) (List.replicate M 0#8) M M W (Lib.hid (by simp)) hB (fun h => nomatch h) (idP_ok hM4 hM3)
      have hid : idP M = ⟨false, false, 2047, 3, 0, List.replicate M 0#8⟩ := rfl
      rw [← hid] at hen
      obtain ⟨E, hE⟩ : ∃ E, E = (idP M).enc := ⟨_, rfl⟩
      rw [← hE] at hen ⊢
      obtain ⟨hu, _, i0, hi, hz0, hz1, hz2⟩ := is_bytes
      clear hE hid hM2 e1 e2 h1 h2
      go_enter Try.func33, Try.ntmps33
      go_wp2_with (first
        | (at_make; refine wpList_make_full _ rfl _ _ 28 rfl w.heap.size 5 i0 _ 1 hu hi hz0 hz1 .i64 .i64 _ _ M rfl rfl (by omega) (by omega) (by rw [hz2]; omega) (by unfold maxLen; omega) (Nat.le_refl _) ?_; intro w1 hown1 hgrow1; have bel1 := (Below.refl w.heap.size w).grown hgrow1 (Nat.le_refl _) (by simp)))
      have ho1 : Ow w1 w.heap.size 5 (.slice (some ⟨w.heap.size, 0, none⟩) M M) (List.replicate M (0#8)) := by
        unfold Ow
        rw [← made_zero, List.length_replicate]
        exact hown1
      refine (hen w1 (Ow_bs ho1)).mono ?_
      rintro e w2 ⟨v, rfl, hown2, hb2⟩
      clear hown1 hgrow1 hu hi hz0 hz1 hz2 ho1 hen
      go_wp2
      go_ret2
      exact ⟨v, rfl, hown2.more bel1.size, bel1.trans (hb2.mono bel1.size)⟩
end Go.Proofs.Ytjjjlgaidklokaa.Pac
