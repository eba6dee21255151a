/-
  The walk of the law MarkerFeeds: a Finder beside the whole stream and all frames.
-/
import Derived.Test.YtahpogmbkkpmdaaLaw13a
namespace Go.Proofs.Ytahpogmbkkpmdaa.Mar
open Go.RowKit Go.Proofs.Ytahpogmbkkpmdaa.Row Lst
open Scr (app app_len conv_at bel_new)

/-- a Finder that was fed X, the bytes Y in the slice aV, the frames o in the slice gV with the blocks E; all apart from each other -/
structure FI (w0 : World) (g N : Nat) (X Y : List Byte) (o : List (List Byte)) (v aV gV : Value) (E : List Nat) (wr : World) : Prop where
  fw : FW wr g v N (run N ⟨0, [], 0⟩ X)
  fb : ∀ x ∈ blk g v, w0.heap.size ≤ x
  al : Ow wr w0.heap.size 5 aV Y
  go : LO wr w0.heap.size 22 5 gV o E
  ap : ∀ i, aV.ownBlock = some i → i ∉ blk g v
  ea : ∀ i ∈ E, i ∉ blk g v ∧ aV.ownBlock ≠ some i
  be : Below w0.heap.size w0 wr

section
variable {w0 wr w' w4 w5 w6 : World} {g N : Nat} {X Y l : List Byte} {o o2 : List (List Byte)} {v v3 aV aV2 gV gV2 R : Value} {E E3 : List Nat} {s' : FS}
theorem FI.below (h : FI w0 g N X Y o v aV gV E wr) (k : Below wr.heap.size wr w') : FI w0 g N X Y o v aV gV E w' :=
  ⟨h.fw.below k, h.fb, h.al.below k, h.go.below k, h.ap, h.ea, h.be.trans (k.mono h.be.size)⟩
theorem FI.row (h : FI w0 g N X Y o v aV gV E wr) : ∀ i, gV.ownBlock = some i → i ∉ blk g v := h.fw.fc.row h.go
theorem FI.rows (h : FI w0 g N X Y o v aV gV E wr) : ∀ i, gV.ownBlock = some i → aV.ownBlock ≠ some i := fun i hi hm => by
  obtain ⟨cs, hc⟩ := own_cel h.al hm
  exact h.go.row_apart hc (by decide) hi
/-- the Finder is fed -/
theorem FI.feed (h : FI w0 g N X Y o v aV gV E wr) (hd : Fd wr g v N s' o2 R v3 E3 w4) (hf : FW w4 g v3 N (run N ⟨0, [], 0⟩ (X ++ l))) :
    FI w0 g N (X ++ l) Y o v3 aV gV E w4 ∧ LO w4 w0.heap.size 22 5 R o2 E3 ∧ ∀ i ∈ E3, i ∉ blk g v3 ∧ aV.ownBlock ≠ some i := by
  have hs := h.be.size
  refine ⟨⟨hf, fun x hx => ?_, h.al.only hd.on h.ap, h.go.only hd.on h.row (fun i hi => (h.ea i hi).1), fun i hi hm => ?_, fun i hi => ⟨fun hm => ?_, (h.ea i hi).2⟩, h.be.trans (hd.on.below hs h.fb)⟩, hd.lo.more hs, fun i hi => ⟨hd.el i hi, fun e => ?_⟩⟩
  · rcases hd.nb x hx with h1 | h1
    · exact h.fb x h1
    · omega
  · rcases hd.nb i hm with h1 | h1
    · exact h.ap i hi h1
    · have := (h.al.lt i hi).2; omega
  · rcases hd.nb i hm with h1 | h1
    · exact (h.ea i hi).1 h1
    · have := (h.go.lt i hi).2; omega
  · have h1 := (hd.lo.lt i hi).1
    have h2 := (h.al.lt i e).2
    omega
/-- the frames are appended -/
theorem FI.got {qs qs2 : List Qb} {row : Option Nat} (h : FI w0 g N X Y o v aV gV E w4) (h2 : LO w4 w0.heap.size 22 5 R o2 E3) (h3 : ∀ i ∈ E3, i ∉ blk g v ∧ aV.ownBlock ≠ some i)
    (he : qs.map (·.l) = o) (hq : ∀ q ∈ qs, Ow w4 w0.heap.size 5 q.v q.l ∧ ∀ k, q.v.ownBlock = some k → k ∈ E) (he2 : qs2.map (·.l) = o2) (hq2 : ∀ q ∈ qs2, Ow w4 w0.heap.size 5 q.v q.l ∧ ∀ k, q.v.ownBlock = some k → k ∈ E3)
    (hrow : gV.ownBlock = row) (hg : w4.grownBy w5 row) (ho : Row.Os enc 1 w5 w0.heap.size 22 gV2 (qs ++ qs2)) : FI w0 g N X Y (o ++ o2) v aV gV2 (E ++ E3) w5 := by
  have k := Only.of_grown hg
  refine ⟨h.fw.only k (fun x hx hm => h.row x (by rw [hrow]; simpa using hm) hx), h.fb, h.al.only k (fun i hi hm => h.rows i (by rw [hrow]; simpa using hm) hi), h.go.app (by decide) he hq he2 hq2 h2.el hrow hg ho, h.ap, fun i hi => (List.mem_append.1 hi).elim (h.ea i) (h3 i), h.be.trans (k.below h.be.size fun x hx => (h.go.row_lt x (by rw [hrow]; simpa using hx)).1)⟩
/-- the bytes are appended -/
theorem FI.all {row : Option Nat} {Z : List Byte} (h : FI w0 g N X Y o v aV gV E w5) (hrow : aV.ownBlock = row) (hg : w5.grownBy w6 row) (ho : Ow w6 w0.heap.size 5 aV2 Z) (hv : aV2.ownBlock = row ∨ aV2.ownBlock = some w5.heap.size) : FI w0 g N X Z o v aV2 gV E w6 := by
  subst hrow
  have k := Only.of_grown hg
  refine ⟨h.fw.only k (fun x hx hm => h.ap x (by simpa using hm) hx), h.fb, ho, h.go.only k (fun i hi hm => h.rows i hi (by simpa using hm)) (fun i hi hm => (h.ea i hi).2 (by simpa using hm)), fun i hi hm => ?_, fun i hi => ⟨(h.ea i hi).1, fun e => ?_⟩, h.be.trans (k.below h.be.size fun x hx => (h.al.lt x (by simpa using hx)).1)⟩
  · rcases hv with e | e
    · exact h.ap i (e ▸ hi) hm
    · rw [e] at hi
      injection hi with hi
      have := h.fw.lt i hm
      omega
  · rcases hv with e' | e'
    · exact (h.ea i hi).2 (e' ▸ e)
    · rw [e'] at e
      injection e with e
      have := (h.go.lt i hi).2
      omega
end

theorem Bx_new {w : World} {g : Nat} {v : Value} (e : TypeId) (l : List Byte) (C : Array Value) (hC : C = (l.map B8).toArray) (hlt : ∀ x ∈ blk g v, x < w.heap.size) : Bx (w.alloc (.cells C e)) g v (some ⟨w.heap.size, 0, none⟩) l := fun hl => by
  obtain ⟨b, off, he, hb, hc⟩ := Bs_new w e l C hC (w.heap.size + 1) (by omega) (0, 0) hl
  cases he
  exact ⟨_, 0, rfl, by simp, (fun hm => by have := hlt _ hm; omega), hc⟩
theorem flat_take {ls : List (List Byte)} {k : Nat} {l : List Byte} (h : ls[k]? = some l) : (ls.take (k + 1)).flatten = (ls.take k).flatten ++ l := by
  rw [List.take_add_one, h]; simp

set_option maxRecDepth 100000 in
set_option maxHeartbeats 8000000 in
theorem markerFeeds_ok (N : Nat) (hN : 0 < N) (hN2 : N ≤ 1024) (A : Option Addr) (ls : List (List Byte)) (n c : Nat) (w : World) (hl : Hid (ls.length = n)) (h : LS w w.heap.size A ls) (hfw : fw ls = true) (hnc : n ≤ c) (hcm : c ≤ maxLen) :
    Calls Try.prog 4 #[.int .i64 (N : Int), .slice A n c] w fun e w' => e = .returned (.bool true) ∧ Below w.heap.size w w' := by
  have hsm : n + szs ls ≤ 3000 := by have := hfw; unfold fw at this; rw [hl.out] at this; simpa using this
  have x1 := newFinder_ok N hN hN2 w
  have x2 := fun W => right_any (N : Int) W
  rw [decide_eq_true (show 1 ≤ (N : Int) ∧ (N : Int) ≤ 1024 by omega)] at x2
  have x3 := fun (W : World) (hW : Below w.heap.size w W) => few_any ls n c A W hl ((h.below hW).more hW.size) hnc hcm
  rw [hfw] at x3
  clear hfw hnc hcm
  go_enter Try.func4, Try.ntmps4
  go_wp2_with fail
  refine x1.mono ?_
  rintro e w1 ⟨rfl, hw1⟩
  have b1 : Below w.heap.size w w1 := by rw [hw1]; exact bel_new w _
  have f1 : FW w1 w.heap.size (.slice none 0 0) N ⟨0, [], 0⟩ := by rw [hw1]; exact Fw_new w N hN hN2
  have i1 : FI w w.heap.size N [] [] [] (.slice none 0 0) (.slice none 0 0) (.slice none 0 0) [] w1 :=
    ⟨f1, (fun x hx => by simp [blk, Value.ownBlock] at hx; omega), World.ownsRow_nil _ _ _ _, LO.nil_ _ _ _ _, (fun i hi => by cases hi), (fun i hi => by cases hi), b1⟩
  clear hw1 x1 f1
  go_wp2_with fail
  refine (x2 w1).mono ?_
  rintro e w1' ⟨rfl, rfl⟩
  clear x2
  go_wp2_with fail
  refine (x3 w1 b1).mono ?_
  rintro e w1' ⟨rfl, rfl⟩
  clear x3 b1
  go_wp2_with fail
  go_loopw [6, 7, 8] (fun aV gV iv wr => ∃ (k : Nat) (v : Value) (E : List Nat), iv = .int .i64 (k : Int) ∧ k ≤ n ∧ FI w w.heap.size N (ls.take k).flatten (ls.take k).flatten (out N ⟨0, [], 0⟩ (ls.take k).flatten) v aV gV E wr) (fun _ _ iv _ => n - (intOf iv).toNat)
  case atStart => exact ⟨0, _, [], rfl, Nat.zero_le _, i1⟩
  case round =>
    obtain ⟨k, v, E, rfl, hk, hI⟩ := hrel
    by_cases hkn : k < n
    · obtain ⟨l, hkl⟩ : ∃ l, ls[k]? = some l := ⟨_, List.getElem?_eq_getElem (by rw [hl.out]; exact hkn)⟩
      have hft := flat_take hkl
      have hz1 := szs_take hkl
      have hz2 := szs_take_le ls (k + 1)
      have hcat := cat_len (ls := ls.take (k + 1)) (by omega)
      have HF := Lib.hid hft
      rw [hft, List.length_append] at hcat
      obtain ⟨X, hX⟩ : ∃ X, (ls.take k).flatten = X := ⟨_, rfl⟩
      rw [hX] at hI hcat
      have hXl : X.length + l.length ≤ 3000 := by omega
      have hsk := run_sk hN X (wf0 hN 0)
      simp only at hsk
      have hol := out_len (N := N) (s := ⟨0, [], 0⟩) X
      have hol2 := out_len (N := N) (s := run N ⟨0, [], 0⟩ X) l
      have hoa := out_append (N := N) (s := ⟨0, [], 0⟩) X l
      have hra := run_append (N := N) (s := ⟨0, [], 0⟩) X l
      have HX := Lib.hid hX
      obtain ⟨b, off, la, lc, rfl, hb, hcell, hdt⟩ := h.at_ hkl
      obtain ⟨Aa, ca, rfl, _⟩ := hI.al.reads
      have hcl := fclone_any hI.fw
      clear hX hft hz1 hz2 hcat hkl
      go_wp2_with fail
      refine hcl.mono ?_
      rintro e w2 ⟨g', v', rfl, fc, hblk, b2⟩
      clear hcl
      obtain ⟨w3, hw3⟩ : ∃ w3, w3 = w2.alloc (.cells #[.int .u8 1, .int .u8 2, .int .u8 3] 5) := ⟨_, rfl⟩
      have b3 : Below w2.heap.size w2 w3 := by rw [hw3]; exact bel_new w2 _
      have hx3 : Bx w3 g' v' (some ⟨w2.heap.size, 0, none⟩) [1#8, 2#8, 3#8] := by rw [hw3]; exact Bx_new _ _ _ (by simp) fc.lt
      have x4 := feed_any (fc.below b3) _ _ 3 3 (Lib.hid rfl) hx3 (by decide) (by omega)
      go_wp2_with fail
      rw [← hw3]
      refine x4.mono ?_
      rintro e w4 ⟨R4, v4, E4, rfl, hd4, _⟩
      have b23 := b2.trans (b3.mono b2.size)
      have hI4 := hI.below (b23.trans (hd4.on.below b23.size hblk))
      clear x4 hd4 b23 hx3 b3 hw3 b2 fc hblk hI
      have c4 := (hI4.be.cell (p := ⟨b, off + k, none⟩) hb).trans hcell
      have x5 := feed_any hI4.fw la l l.length lc (Lib.hid rfl) (Bx_of (hdt.below hI4.be).b hI4.be.size hI4.fb) (by omega) (by omega)
      rw [← hra] at x5
      obtain ⟨O, hO⟩ : ∃ O, out N ⟨0, [], 0⟩ X = O := ⟨_, rfl⟩
      obtain ⟨O2, hO2⟩ : ∃ O2, out N (run N ⟨0, [], 0⟩ X) l = O2 := ⟨_, rfl⟩
      obtain ⟨OO, hOO⟩ : ∃ OO, out N ⟨0, [], 0⟩ (X ++ l) = OO := ⟨_, rfl⟩
      rw [hO] at hI4 hol hoa
      rw [hO2] at x5 hol2 hoa
      rw [hOO] at hoa
      have HOO := Lib.hid hOO
      have HOA := Lib.hid hoa
      clear hO hO2 hOO hoa hra
      go_wp2_with fail
      refine x5.mono ?_
      rintro e w5 ⟨R5, v5, E5, rfl, hd5, hf5⟩
      obtain ⟨hI5, lo5, he5⟩ := hI4.feed hd5 hf5
      obtain ⟨qs, AG, kG, rfl, hqn, hqe, hqo, hqr, hqz, hq3⟩ := hI5.go.parts (n := O.length) rfl
      obtain ⟨qs2, A5, k5, rfl, hqn2, hqe2, hqo2, hqr2, hqz2, hq32⟩ := lo5.parts (n := O2.length) rfl
      clear x5 hd5 hf5 hI4 c4
      have HK : Hid ((X ++ l).length = X.length + l.length) := Lib.hid List.length_append
      go_wp2_with (first
        | (at_builtin; refine wpList_row _ enc_ok is_lists (by decide) rfl (.tmp 53) (.tmp 59) rfl rfl hqo (l := qs2) (n := O2.length) hqn2 rfl hqr2 hqz2 (by rw [hqn, hqn2]; omega) hI5.be.size ?_; intro gV6 w6 ho6 hg6 hr6; have hI6 := hI5.got lo5 he5 hqe hq3 hqe2 hq32 rfl hg6 ho6; have c6 := (hI6.be.cell (p := ⟨b, off + k, none⟩) hb).trans hcell)
        | (at_builtin; refine wpList_appAt _ is_bytes rfl (.tmp 61) (.tmp 65) rfl (m := X) rfl hI6.al (l := l) rfl (hdt.below hI6.be).b hdt.n (by omega) hI6.be.size ?_; intro aV7 w7 ho7 hg7 hv7; have hI7 := hI6.all rfl hg7 ho7 hv7; obtain ⟨A7, c7, rfl, hA7, hn7, hl7, hm7⟩ := ho7.reads_len HK.out; clear hI5 lo5 he5 hq3 hq32 hqo hqo2 ho6 hg6 ho7 hg7 hI6 c6))
      rw [HOA.out.symm] at hI7
      refine (frames_any A7 (X ++ l) (X.length + l.length) c7 N w7 HK hA7 hn7 hl7 hm7 (by omega) hN hN2).mono ?_
      rintro e w8 ⟨R8, E8, rfl, lo8, b8⟩
      rw [HOO.out] at lo8
      have hI8 := hI7.below b8
      obtain ⟨A8, c8, rfl, hls8, _⟩ := lo8.len (n := OO.length) rfl
      obtain ⟨A6, c6, rfl, hls6, _⟩ := hI8.go.len (n := OO.length) rfl
      have hool : OO.length ≤ 3000 := by have := out_len (N := N) (s := ⟨0, [], 0⟩) (X ++ l); rw [HOO.out, HK.out] at this; omega
      have x9 := same_eq OO OO.length c6 c8 A6 A8 w8 (Lib.hid rfl) hls6 hls8 (by omega)
      obtain ⟨SK, hSK⟩ : ∃ SK, (run N ⟨0, [], 0⟩ (X ++ l)).sk = SK := ⟨_, rfl⟩
      rw [hSK]
      have t9 : ((SK : Int) != (SK : Int)) = false := by simp
      clear hI7 lo8 hls8 hls6
      go_wp2_with fail
      refine x9.mono ?_
      rintro e w9 ⟨rfl, b9⟩
      have hI9 := hI8.below b9
      have x10 := skipped_any hI9.fw
      rw [hSK] at x10
      clear x9 hSK
      go_wp2_with fail
      refine x10.mono ?_
      rintro e w10 ⟨rfl, rfl⟩
      clear x10
      go_wp2
      go_roundw
      case rel => exact ⟨k + 1, v5, E ++ E5, by go_num, hkn, by rw [HF.out, HX.out, HOO.out]; exact hI9⟩
      case measure => simp [intOf]; omega
    · obtain rfl : k = n := by omega
      have hal := alive_any wr
      clear hkn
      go_wp2_with fail
      refine hal.mono ?_
      rintro e w6 ⟨rfl, b6⟩
      go_wp2
      go_ret
      exact ⟨rfl, hI.be.trans (b6.mono hI.be.size)⟩

set_option maxRecDepth 100000 in
set_option maxHeartbeats 2000000 in
theorem markerFeeds_walk (z : Int) (A : Option Addr) (ls : List (List Byte)) (n c : Nat) (w : World) (hl : Hid (ls.length = n)) (h : LS w w.heap.size A ls) (hnc : n ≤ c) (hcm : c ≤ maxLen) :
    Calls Try.prog 4 #[.int .i64 z, .slice A n c] w fun e w' => e = .returned (.bool true) ∧ Below w.heap.size w w' := by
  by_cases hz : 1 ≤ z ∧ z ≤ 1024
  · obtain ⟨N, rfl⟩ : ∃ N : Nat, z = (N : Int) := ⟨z.toNat, by omega⟩
    have hN : 0 < N := by omega
    have hN2 : N ≤ 1024 := by omega
    cases hfw : fw ls with
    | true => exact markerFeeds_ok N hN hN2 A ls n c w hl h hfw hnc hcm
    | false =>
      have x1 := newFinder_ok N hN hN2 w
      have x2 := fun W => right_any (N : Int) W
      rw [decide_eq_true hz] at x2
      have x3 := fun (W : World) (hW : Below w.heap.size w W) => few_any ls n c A W hl ((h.below hW).more hW.size) hnc hcm
      rw [hfw] at x3
      clear hfw hnc hcm hz
      go_enter Try.func4, Try.ntmps4
      go_wp2_with fail
      refine x1.mono ?_
      rintro e w1 ⟨rfl, hw1⟩
      have b1 : Below w.heap.size w w1 := by rw [hw1]; exact bel_new w _
      clear hw1 x1
      go_wp2_with fail
      refine (x2 w1).mono ?_
      rintro e w1' ⟨rfl, rfl⟩
      clear x2
      go_wp2_with fail
      refine (x3 w1 b1).mono ?_
      rintro e w1' ⟨rfl, rfl⟩
      clear x3
      go_wp2_with fail
      refine (alive_any w1).mono ?_
      rintro e w6 ⟨rfl, b6⟩
      go_wp2
      go_ret
      exact ⟨rfl, b1.trans (b6.mono b1.size)⟩
  · have x1 := newFinder_no z hz w
    have x2 := fun W => right_any z W
    rw [decide_eq_false hz] at x2
    clear hnc hcm hz
    go_enter Try.func4, Try.ntmps4
    go_wp2_with fail
    refine x1.mono ?_
    rintro e w1 ⟨rfl, rfl⟩
    clear x1
    go_wp2_with fail
    refine (x2 w).mono ?_
    rintro e w1' ⟨rfl, rfl⟩
    clear x2
    go_wp2_with fail
    refine (feed_nil w none 0 0).mono ?_
    rintro e w2 ⟨rfl, rfl⟩
    go_wp2_with fail
    refine (skipped_nil w).mono ?_
    rintro e w2 ⟨rfl, rfl⟩
    go_wp2_with fail
    refine (clone_none w).mono ?_
    rintro e w2 ⟨rfl, rfl⟩
    go_wp2_with fail
    refine (alive_any w).mono ?_
    rintro e w6 ⟨rfl, b6⟩
    go_wp2
    go_ret
    exact ⟨rfl, b6⟩
end Go.Proofs.Ytahpogmbkkpmdaa.Mar
