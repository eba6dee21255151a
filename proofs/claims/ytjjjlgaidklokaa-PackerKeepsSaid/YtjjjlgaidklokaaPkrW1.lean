/-
  Package packer: takeRest, takeWaiting, takeIdle.
-/
import Derived.Test.YtjjjlgaidklokaaPkrW0
import Derived.Test.YtjjjlgaidklokaaPacW5
namespace Go.Proofs.Ytjjjlgaidklokaa.Pkr
open Go.RowKit
open Pac (bel_new siN siE size_any idle_any)

section
variable {w w' : World} {g Z R nr cr nw cw : Nat} {s : PS} {Ar Aw : Option Addr} {F S : List Nat}
theorem PC.setr (h : PC w g Z R s Ar nr cr Aw nw cw) {A3 : Option Addr} {n3 c3 : Nat} {r : List Byte} (hm : Md w 0 5 A3 n3 c3 r) (ha : ∀ x ∈ blkA Aw, x ∉ blkA A3) :
    PC (w.setCell ⟨g, 2, none⟩ (.slice A3 n3 c3)) g Z R { s with rs := r } A3 n3 c3 Aw nw cw := by
  have k := set_only w g 2 (.slice A3 n3 c3)
  have hg := Md.off hm h.c (by decide)
  refine ⟨h.c.put 2 _, hm.only k (fun x hx hm => hg (List.mem_singleton.1 hm ▸ hx)), h.mw.only k (fun x hx hm => h.gw (List.mem_singleton.1 hm ▸ hx)), ha⟩
theorem PC.setw (h : PC w g Z R s Ar nr cr Aw nw cw) {A3 : Option Addr} {n3 c3 b : Nat} {f : List Byte} {ls : List (List Byte)} (hm : Md w 0 5 A3 n3 c3 (f ++ ls.flatten)) (ha : ∀ x ∈ blkA A3, x ∉ blkA Ar) (hb : f.length = b) :
    PC ((w.setCell ⟨g, 3, none⟩ (.slice A3 n3 c3)).setCell ⟨g, 4, none⟩ (.int .i64 (b : Int))) g Z R ⟨s.rs, f, ls⟩ Ar nr cr A3 n3 c3 := by
  subst hb
  have k := set_then (set_only w g 3 (.slice A3 n3 c3)) 4 (.int .i64 (f.length : Int))
  have hg := Md.off hm h.c (by decide)
  have c1 : Cel _ g 56 #[.int .i64 (Z : Int), .int .i64 (R : Int), .slice Ar nr cr, .slice A3 n3 c3, .int .i64 (s.fb.length : Int)] := h.c.put 3 (.slice A3 n3 c3)
  exact ⟨c1.put 4 _, h.mr.only k (fun x hx hm => h.gr (List.mem_singleton.1 hm ▸ hx)), hm.only k (fun x hx hm => hg (List.mem_singleton.1 hm ▸ hx)), ha⟩
theorem Rd.put {A : Option Addr} {n c : Nat} {l : List Byte} (h : Rd w A l n c) (k : Only S w w') (ha : ∀ x ∈ blkA A, x ∉ S) : Rd w' A l n c := by
  cases A with
  | none => exact ⟨h.len, (fun hl => by obtain ⟨b, off, e, _⟩ := h.bs hl; cases e), h.nil, h.le, h.max⟩
  | some a =>
    refine ⟨h.len, fun hl => ?_, h.nil, h.le, h.max⟩
    obtain ⟨b, off, e, hb, hc⟩ := h.bs hl
    have hbS : b ∉ S := ha b (by rw [e]; simp [blkA])
    refine ⟨b, off, e, Nat.lt_of_lt_of_le hb k.size, fun i x hx => ?_⟩
    rw [← hc i x hx]
    unfold World.cell?
    simp only [k.block b hb hbS]

set_option maxHeartbeats 1000000 in
theorem takeRest_pc (h : PC w g Z R s Ar nr cr Aw nw cw) (n : Nat) {k : Nat} (hk : k = min n nr) :
    Calls Try.prog 30 #[.pointer (some ⟨g, 0, none⟩), .int .i64 (n : Int)] w fun e w' => e = .returned (.slice Ar k cr) ∧ Rd w' Ar (s.rs.take n) k cr ∧ (∃ A3 n3 c3, PC w' g Z R (s.rest n) A3 n3 c3 Aw nw cw ∧ blkA A3 = blkA Ar) ∧ Only [g] w w' := by
  have hl := h.mr.1
  obtain ⟨hb, hn, hle, hmax⟩ := h.mr.reads
  obtain ⟨A3, hA3⟩ : ∃ A3, (if cr = k then Ar else Option.map (fun x => x.add k) Ar) = A3 := ⟨_, rfl⟩
  obtain ⟨n3, hn3⟩ : ∃ n3, nr - k = n3 := ⟨_, rfl⟩
  obtain ⟨c3, hc3⟩ : ∃ c3, cr - k = c3 := ⟨_, rfl⟩
  have hd := h.mr.drop (k := k) (by omega)
  have hbl := blkA_drop Ar cr k
  rw [hA3] at hd hbl
  rw [hn3, hc3] at hd
  have e1 : s.rs.drop k = s.rs.drop n := by
    by_cases hq : n ≤ nr
    · rw [show k = n by omega]
    · rw [List.drop_eq_nil_of_le (by omega), List.drop_eq_nil_of_le (by omega)]
  have e2 : s.rs.take k = s.rs.take n := by
    by_cases hq : n ≤ nr
    · rw [show k = n by omega]
    · rw [List.take_of_length_le (by omega), List.take_of_length_le (by omega)]
  rw [e1] at hd
  have hr := Rd.head (Md.rd h.mr) k (by omega)
  rw [e2] at hr
  have hp := h.setr hd (by rw [hbl]; exact h.ap)
  have ko := set_only w g 2 (.slice A3 n3 c3)
  have hr2 := Rd.put hr ko (fun x hx hm => h.gr (List.mem_singleton.1 hm ▸ hx))
  have HF := Lib.hid (And.intro hp (And.intro ko (And.intro hr2 hbl)))
  have c2 := h.c.cell 2
  have f2 := h.c.free 2
  simp at c2
  have m1 : min (n : Int) (nr : Int) = (k : Int) := by omega
  have m2 : (if (n : Int) < (nr : Int) then (n : Int) else (nr : Int)) = (k : Int) := by split <;> omega
  have m3 : (if (nr : Int) < (n : Int) then (nr : Int) else (n : Int)) = (k : Int) := by split <;> omega
  have m4 : (if n < nr then (n : Int) else (nr : Int)) = (k : Int) := by split <;> omega
  have m5 : (if nr < n then (nr : Int) else (n : Int)) = (k : Int) := by split <;> omega
  have s1 : (k : Int) ≤ (cr : Int) := by omega
  have s2 : k ≤ cr := by omega
  have s3 : (k : Int) ≤ (nr : Int) := by omega
  have s4 : k ≤ nr := by omega
  clear h hl hb hn hle hmax hd hbl e1 e2 hr hp ko hr2 hk
  go_enter Try.func30, Try.ntmps30
  go_wp2
  go_ret
  obtain ⟨h1, h2, h3, h4⟩ := HF.out
  exact ⟨rfl, h3, ⟨A3, n3, c3, h1, h4⟩, h2⟩

set_option maxHeartbeats 2000000 in
theorem takeWaiting_pc (h : PC w g Z R s Ar nr cr Aw nw cw) (hs : s.Ok R) (hR : R ≤ 1048576) (n : Nat) {k : Nat} (hk : k = min n nw) :
    Calls Try.prog 31 #[.pointer (some ⟨g, 0, none⟩), .int .i64 (n : Int)] w fun e w' => e = .returned (.slice Aw k cw) ∧ Rd w' Aw (s.wt.take n) k cw ∧ (∃ A3 n3 c3, PC w' g Z R (s.take n) Ar nr cr A3 n3 c3 ∧ blkA A3 = blkA Aw) ∧ Only [g] w w' := by
  have hl := h.mw.1
  obtain ⟨hb, hn, hle, hmax⟩ := h.mw.reads
  have hw := hs.w
  have hTw := Tw.start hs k
  obtain ⟨b0, hb0⟩ : ∃ b0, s.fb.length = b0 := ⟨_, rfl⟩
  have c3 := h.c.cell 3
  have c4 := h.c.cell 4
  rw [hb0] at c4 hTw
  simp at c3 c4
  have hg := h.c.lt
  have m1 : min (n : Int) (nw : Int) = (k : Int) := by omega
  have m2 : (if (n : Int) < (nw : Int) then (n : Int) else (nw : Int)) = (k : Int) := by split <;> omega
  have m3 : (if (nw : Int) < (n : Int) then (nw : Int) else (n : Int)) = (k : Int) := by split <;> omega
  have m4 : (if n < nw then (n : Int) else (nw : Int)) = (k : Int) := by split <;> omega
  have m5 : (if nw < n then (nw : Int) else (n : Int)) = (k : Int) := by split <;> omega
  have hkn : k ≤ nw := by omega
  have hsz : ∀ e, e ≤ nw → ∀ W, Below w.heap.size w W → Calls Try.prog 36 #[.slice (if cw = e then Aw else Option.map (fun x => x.add e) Aw) (nw - e) (cw - e)] W fun e' w' => e' = .returned (.tuple #[.int .i64 ((siN (s.wt.drop e) : Nat) : Int), .int .i64 (siE (s.wt.drop e))]) ∧ Below W.heap.size W w' := fun e he W hW => by
    have hd := Md.rd ((h.mw.only (Only.of_below (S := []) hW) (by simp)).drop he)
    exact size_any _ _ _ _ W (Lib.hid hd.len) hd.bs hd.nil hd.le hd.max
  have HH := Lib.hid (And.intro h (And.intro hl hk))
  clear h hb hn hle hmax hk
  go_enter Try.func31, Try.ntmps31
  go_wp2_with fail
  go_loopw [5] (fun ev wr => ∃ (e : Nat) (F : List Byte) (S : List (List Byte)), ev = .int .i64 (e : Int) ∧ Tw s k F S e ∧ Below w.heap.size w wr) (fun ev _ => nw - (intOf ev).toNat)
  case atStart => exact ⟨b0, _, _, rfl, hTw, Below.refl _ _⟩
  case round =>
    obtain ⟨e, F, S, rfl, hT, hB⟩ := hrel
    have hel := hT.el
    rw [HH.out.2.1] at hel
    have d3 := (hB.cell (p := ⟨g, 3, none⟩) hg).trans c3
    have d4 := (hB.cell (p := ⟨g, 4, none⟩) hg).trans c4
    by_cases hek : e < k
    · obtain ⟨x, S', _, q1, q2, hT', h7, h4096⟩ := hT.step (by rw [HH.out.2.1]; exact hkn) hek
      have hz := hsz e hel wr hB
      rw [q1, q2] at hz
      obtain ⟨A4, hA4⟩ : ∃ A4, (if cw = e then Aw else Option.map (fun x => x.add e) Aw) = A4 := ⟨_, rfl⟩
      obtain ⟨n4, hn4⟩ : ∃ n4, nw - e = n4 := ⟨_, rfl⟩
      obtain ⟨c4', hc4⟩ : ∃ c4', cw - e = c4' := ⟨_, rfl⟩
      rw [hA4, hn4, hc4] at hz
      obtain ⟨X, hX⟩ : ∃ X, x.length = X := ⟨_, rfl⟩
      rw [hX] at hz hT' h7 h4096
      have hel' := hT'.el
      rw [HH.out.2.1] at hel'
      have s1 : (e : Int) ≤ (cw : Int) := by have := HH.out.1.mw.reads.2.2.1; omega
      have s2 : e ≤ cw := by omega
      have HT := Lib.hid hT'
      have HB := Lib.hid hB
      clear hT hT' hX q1 q2 hB hTw hsz
      go_wp2_with fail
      refine hz.mono ?_
      rintro e' w2 ⟨rfl, b2⟩
      go_wp2
      go_roundw
      case rel => exact ⟨e + X, x, S', by go_num, HT.out, HB.out.trans (b2.mono HB.out.size)⟩
      case measure => simp [intOf]; omega
    · have hst := hT.stop (by omega)
      obtain ⟨A3, hA3⟩ : ∃ A3, (if cw = k then Aw else Option.map (fun x => x.add k) Aw) = A3 := ⟨_, rfl⟩
      obtain ⟨n3, hn3⟩ : ∃ n3, nw - k = n3 := ⟨_, rfl⟩
      obtain ⟨c3', hc3⟩ : ∃ c3', cw - k = c3' := ⟨_, rfl⟩
      obtain ⟨b, hbe⟩ : ∃ b, e - k = b := ⟨_, rfl⟩
      rw [hbe] at hst
      obtain ⟨h, hl, hk⟩ := HH.out
      have h2 := h.below hB
      have hd := h2.mw.drop (k := k) hkn
      have hbl := blkA_drop Aw cw k
      rw [hA3] at hd hbl
      rw [hn3, hc3] at hd
      have e0 : min n s.wt.length = k := by rw [hl, hk]
      have e2 : s.wt.take k = s.wt.take n := by
        by_cases hq : n ≤ nw
        · rw [show k = n by omega]
        · rw [List.take_of_length_le (by omega), List.take_of_length_le (by omega)]
      have hr := Rd.head (Md.rd h2.mw) k hkn
      rw [e2] at hr
      have e3 : s.wt.drop k = (cut s.fb s.ls k).1 ++ (cut s.fb s.ls k).2.flatten := (cut_wt _ _ _).symm
      rw [e3] at hd
      have hp := h2.setw hd (by rw [hbl]; exact h.ap) hst
      have ko := set_then (set_only wr g 3 (.slice A3 n3 c3')) 4 (.int .i64 (b : Int))
      have hr2 := Rd.put hr ko (fun x hx hm => h.gw (List.mem_singleton.1 hm ▸ hx))
      have hs' : s.take n = ⟨s.rs, (cut s.fb s.ls k).1, (cut s.fb s.ls k).2⟩ := by unfold PS.take; rw [e0]
      rw [← hs'] at hp
      have f3 := h2.c.free 3
      have f4 := h2.c.free 4
      have HF := Lib.hid (And.intro hp (And.intro hr2 (And.intro hbl ((Only.of_below hB).trans ko (fun x hx => .inl hx)))))
      have s1 : (k : Int) ≤ (cw : Int) := by have := h.mw.reads.2.2.1; omega
      have s2 : k ≤ cw := by omega
      have s3 : (k : Int) ≤ (nw : Int) := by omega
      have s4 : (e : Int) - (k : Int) = (b : Int) := by omega
      clear h hl hk h2 hd hbl e0 e2 e3 hr hp ko hr2 hs' hst hT hTw hsz HH hB
      go_wp2
      go_ret
      obtain ⟨h1, h2, h3, h4⟩ := HF.out
      exact ⟨rfl, h2, ⟨A3, n3, c3', h1, h3⟩, h4⟩

set_option maxHeartbeats 1000000 in
theorem takeIdle_pc (h : PC w g Z R s Ar nr cr Aw nw cw) (m : Nat) (hm : m ≤ 4096) :
    Calls Try.prog 32 #[.pointer (some ⟨g, 0, none⟩), .int .i64 (m : Int)] w fun e w' => (∃ A c, e = .returned (.slice A m c) ∧ Rd w' A ((fil m).take m) m c) ∧ (∃ A3 n3 c3, PC w' g Z R (s.idle m) A3 n3 c3 Aw nw cw ∧ ∀ x ∈ blkA A3, x ∈ blkA Ar ∨ w.heap.size ≤ x) ∧ Only [g] w w' := by
  by_cases h0 : m = 0
  · subst h0
    have t0 : ((0 : Int) == 0) = true := rfl
    have HH := Lib.hid h
    clear h
    go_enter Try.func32, Try.ntmps32
    go_wp2
    go_ret
    exact ⟨⟨none, 0, rfl, ⟨by simp, Bs.nil_, fun _ => rfl, Nat.le_refl _, by simp⟩⟩, ⟨Ar, nr, cr, HH.out, fun x hx => .inl hx⟩, Only.refl _ _⟩
  have t0 : ((m : Int) == 0) = false := by simp; omega
  obtain ⟨M, hM⟩ : ∃ M, max m 7 = M := ⟨_, rfl⟩
  have hlen := fil_len hm
  rw [hM] at hlen
  have hid := fun W => idle_any (M : Int) W (by omega)
  have hfil : Pac.idV (M : Int) = fil m := by rw [← hM]; rfl
  have hie : Pac.idE (M : Int) = 0 := by unfold Pac.idE; rw [if_pos (by omega)]
  rw [hfil, hie] at hid
  have m1 : max (m : Int) 7 = (M : Int) := by omega
  have m2 : (if (m : Int) < 7 then (7 : Int) else (m : Int)) = (M : Int) := by split <;> omega
  have m3 : (if m < 7 then (7 : Int) else (m : Int)) = (M : Int) := by split <;> omega
  have hmM : m ≤ M := by omega
  have HH := Lib.hid (And.intro h (And.intro hlen hM))
  clear hlen hM hfil hie h
  go_enter Try.func32, Try.ntmps32
  go_wp2_with fail
  refine (hid _).mono ?_
  rintro e w2 ⟨v, rfl, o2, b2⟩
  obtain ⟨h, hlen, hM⟩ := HH.out
  obtain ⟨A, c, rfl, hr⟩ := Rd.of o2 hlen
  have hmd := Md.of o2 hlen
  obtain ⟨A3, hA3⟩ : ∃ A3, (if c = m then A else Option.map (fun x => x.add m) A) = A3 := ⟨_, rfl⟩
  obtain ⟨n3, hn3⟩ : ∃ n3, M - m = n3 := ⟨_, rfl⟩
  obtain ⟨c3, hc3⟩ : ∃ c3, c - m = c3 := ⟨_, rfl⟩
  have hd := hmd.drop (k := m) hmM
  have hbl := blkA_drop A c m
  rw [hA3] at hd hbl
  rw [hn3, hc3] at hd
  have hnew : ∀ x ∈ blkA A3, w.heap.size ≤ x := fun x hx => (hmd.lt x (by rw [← hbl]; exact hx)).1
  have h2 := h.below b2
  have hp := h2.setr (hd.more (Nat.zero_le _)) (fun x hx hy => by have := hnew x hy; have := (h.mw.lt x hx).2; omega)
  have ko := set_only w2 g 2 (.slice A3 n3 c3)
  have hr2 := Rd.put (Rd.head hr m hmM) ko (fun x hx hm => by have := hmd.lt x hx; have := h.c.lt; have := List.mem_singleton.1 hm; omega)
  have hs' : s.idle m = { s with rs := (fil m).drop m } := by unfold PS.idle; rw [if_neg h0]
  rw [← hs'] at hp
  have HF := Lib.hid (And.intro hp (And.intro hr2 (And.intro hnew ((Only.of_below (S := [g]) b2).trans ko (fun x hx => .inl hx)))))
  have f2 := h2.c.free 2
  have c2 := h2.c.cell 2
  simp at c2
  have s1 : (m : Int) ≤ (c : Int) := by have := hr.le; omega
  have s2 : m ≤ c := by omega
  have s3 : (m : Int) ≤ (M : Int) := by omega
  clear h hlen hM hmd hd hbl hnew h2 hp ko hr2 hs' o2 b2 hr HH
  go_wp2
  go_ret
  obtain ⟨h1, h2, h3, h4⟩ := HF.out
  exact ⟨⟨_, _, rfl, h2⟩, ⟨_, _, _, h1, fun x hx => .inr (h3 x hx)⟩, h4⟩
end
end Go.Proofs.Ytjjjlgaidklokaa.Pkr
