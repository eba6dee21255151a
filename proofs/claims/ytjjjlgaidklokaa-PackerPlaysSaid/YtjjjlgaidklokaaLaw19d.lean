/-
  The laws of layer 19: packets; a Packer in play beside two byte slices.
-/
import Derived.Test.YtjjjlgaidklokaaLaw19b
import Derived.Test.YtjjjlgaidklokaaRef10d
namespace Go.Proofs.Ytjjjlgaidklokaa.Pkr
open Go.RowKit
open Pac (bel_new deE deN deP xdecode_any)

/-- what may lie behind the packets: nothing, a part of one, or one that is idle -/
def Tl (t : List Byte) : Prop := t = [] ∨ deE t = 3 ∨ (deE t = 0 ∧ (deP t).ap = 2047 ∧ deN t = t.length)
theorem Rd.drop_le {w : World} {a : Option Addr} {l : List Byte} {n c k : Nat} (h : Rd w a l n c) (hk : k ≤ n) : Rd w (if c = k then a else a.map (fun x => x.add k)) (l.drop k) (n - k) (c - k) := by
  have hl := h.len
  have h1 := h.le
  have h2 := h.max
  by_cases hkn : k < n
  · obtain ⟨b, off, rfl, hb, hc⟩ := h.bs (by omega)
    rw [if_neg (by omega), Option.map_some]
    have e : (⟨b, off, none⟩ : Addr).add k = ⟨b, off + k, none⟩ := by
      by_cases h0 : k = 0
      · subst h0; rfl
      · simp [Addr.add, h0]
    rw [e]
    refine ⟨by rw [List.length_drop, hl], fun _ => ⟨b, off + k, rfl, hb, fun i x hx => ?_⟩, (fun e => nomatch e), by omega, by omega⟩
    rw [List.getElem?_drop] at hx
    have := hc _ x hx
    rwa [← Nat.add_assoc] at this
  · refine ⟨by rw [List.length_drop, hl], fun hp => by rw [List.length_drop] at hp; omega, fun e => ?_, by omega, by omega⟩
    by_cases hc : c = k
    · omega
    · rw [if_neg hc] at e
      cases a with
      | none => have := h.nil rfl; omega
      | some a => cases e
theorem app_below {w0 w w' : World} {e : TypeId} {v : Value} {l : List Byte} (ho : Ow w w0.heap.size e v l) (hg : w.grownBy w' v.ownBlock) (hB : Below w0.heap.size w0 w) : Below w0.heap.size w0 w' :=
  hB.trans ((Only.of_grown hg).below hB.size (fun x hx => (ho.lt x (by simpa using hx)).1))
def slen' : Value → Nat
  | .slice _ n _ => n
  | _ => 0

set_option maxRecDepth 100000 in
set_option maxHeartbeats 4000000 in
theorem packets_any (a : Option Addr) (ls : List (List Byte)) (t : List Byte) (n c : Nat) (w : World) (h : Rd w a (ls.flatten ++ t) n c) (hls : ∀ x ∈ ls, Pkt x) (ht : Tl t) (hn : n ≤ 1000000) :
    Calls Try.prog 22 #[.slice a n c] w fun e w' => (∃ v, e = .returned (.tuple #[v, .bool true]) ∧ Ow w' w.heap.size 5 v ls.flatten) ∧ Below w.heap.size w w' := by
  have HLS := Lib.hid hls
  have HA := Lib.hid h
  have HT := Lib.hid ht
  clear h hls ht
  go_enter Try.func22, Try.ntmps22
  go_wp2_with fail
  go_loopw [0, 4] (fun bv ov wr => ∃ (pre suf : List (List Byte)) (t' : List Byte) (A : Option Addr) (m c' no : Nat) (Ao : Option Addr) (ko : Nat), bv = .slice A m c' ∧ ov = .slice Ao no ko ∧ ls = pre ++ suf ∧ Tl t' ∧ Rd w A (suf.flatten ++ t') m c' ∧ m ≤ n ∧ pre.flatten.length = no ∧ no + m ≤ n ∧ Ow wr w.heap.size 5 (.slice Ao no ko) pre.flatten ∧ Below w.heap.size w wr) (fun bv _ _ => slen' bv)
  case atStart => exact ⟨[], ls, t, a, n, c, 0, none, 0, rfl, rfl, rfl, HT.out, HA.out, Nat.le_refl _, rfl, by omega, World.ownsRow_nil _ _ _ _, Below.refl _ _⟩
  case round =>
    obtain ⟨pre, suf, t', A, m, c', no, Ao, ko, rfl, rfl, hls, ht, hr, hmn, hno, hsum, ho, hB⟩ := hrel
    by_cases hm : 0 < m
    · have hrw := hr.later hB
      have hd := xdecode_any A (suf.flatten ++ t') m c' wr (Lib.hid hrw.len) hrw.bs hrw.nil hrw.le hrw.max
      obtain ⟨M, hM⟩ : ∃ M, deN (suf.flatten ++ t') = M := ⟨_, rfl⟩
      obtain ⟨E, hE⟩ : ∃ E, deE (suf.flatten ++ t') = E := ⟨_, rfl⟩
      obtain ⟨P, hP⟩ : ∃ P, deP (suf.flatten ++ t') = P := ⟨_, rfl⟩
      obtain ⟨com, sec, ap, fl, ct, d⟩ := P
      rw [hM, hE, hP] at hd
      have tm : decide ((0 : Int) < (m : Int)) = true := by simp; omega
      have tm' : decide (0 < m) = true := by simpa using hm
      have hln := hr.len
      cases suf with
      | nil =>
        rw [List.flatten_nil, List.nil_append] at hM hE hP hln
        rw [List.append_nil] at hls
        rcases ht with rfl | h3 | ⟨h0, hap, hN⟩
        · simp at hln; omega
        · have e3 : E = 3 := hE.symm.trans h3
          have t1 : (E == 3) = true := by simpa using e3
          have H := Lib.hid (And.intro ho (And.intro hB hls))
          clear hrw hr hM hE hP hln h3 e3 ho hB hls hm
          go_wp2_with fail
          refine hd.mono ?_
          rintro e w2 ⟨v, rfl, o2, b2⟩
          obtain ⟨A2, kc, rfl, _⟩ := o2.reads
          obtain ⟨ho, hB, hls⟩ := H.out
          have HB := Lib.hid (And.intro (hB.trans (b2.mono hB.size)) (And.intro (ho.below b2) hls))
          clear o2 b2 hd ho hB hls H
          go_wp2
          go_ret2
          obtain ⟨h1, h2, h3⟩ := HB.out
          exact ⟨⟨_, rfl, by rw [h3]; exact h2.alloc _⟩, h1.alloc h1.size _⟩
        · have e3 : E = 0 := hE.symm.trans h0
          have hNm : M = m := by rw [← hM, hN, hln]
          have hap2 : ap = 2047 := by rw [hP] at hap; exact hap
          have t1 : (E == 3) = false := by simp; omega
          have t2 : (E != 0) = false := by simpa using e3
          have t3 : (ap != 2047) = false := by simpa using hap2
          obtain ⟨A3, hA3⟩ : ∃ A3, (if c' = M then A else Option.map (fun x => x.add M) A) = A3 := ⟨_, rfl⟩
          obtain ⟨m3, hm3⟩ : ∃ m3, m - M = m3 := ⟨_, rfl⟩
          obtain ⟨c3, hc3⟩ : ∃ c3, c' - M = c3 := ⟨_, rfl⟩
          have hr3 := Rd.drop_le hr (k := M) (by omega)
          rw [hA3, hm3, hc3, List.flatten_nil, List.nil_append, List.drop_eq_nil_of_le (by omega)] at hr3
          have s1 : (M : Int) ≤ (c' : Int) := by have := hr.le; omega
          have s2 : M ≤ c' := by omega
          have s3 : (M : Int) ≤ (m : Int) := by omega
          have s4 : M ≤ m := by omega
          have H := Lib.hid (And.intro ho (And.intro hB (And.intro hls (And.intro hr3 hno))))
          have HM : Hid (M = m ∧ m3 = 0 ∧ no ≤ n) := Lib.hid ⟨hNm, by omega, by omega⟩
          clear hrw hr hM hE hP hln h0 hap hN e3 ho hB hls hNm hap2 hr3 hno
          go_wp2_with fail
          refine hd.mono ?_
          rintro e w2 ⟨v, rfl, o2, b2⟩
          obtain ⟨A2, kc, rfl, _⟩ := o2.reads
          obtain ⟨ho, hB, hls, hr3, hno⟩ := H.out
          have HB := Lib.hid (And.intro (hB.trans (b2.mono hB.size)) (And.intro (ho.below b2) hls))
          clear o2 b2 hd ho hB hls H
          go_wp2
          go_roundw
          case rel =>
            obtain ⟨h1, h2, h3⟩ := HB.out
            exact ⟨pre, [], [], A3, m3, c3, no, Ao, ko, rfl, rfl, by rw [List.append_nil]; exact h3, .inl rfl, hr3, by have := HM.out; omega, hno, by have := HM.out; omega, h2.alloc _, h1.alloc h1.size _⟩
          case measure => simp only [slen']; have := HM.out; omega
      | cons x suf' =>
        have hpx := HLS.out x (by rw [hls]; simp)
        obtain ⟨g1, g2, g3, _, _, g6, g7⟩ := hpx.whole (suf'.flatten ++ t')
        rw [List.flatten_cons, List.append_assoc] at hM hE hP hln hr
        rw [hM] at g3
        rw [hE] at g1
        rw [hP] at g2
        have t1 : (E == 3) = false := by simp; omega
        have t2 : (E != 0) = false := by simpa using g1
        have t3 : (ap != 2047) = true := by simpa using g2
        have hMm : M ≤ m := by rw [g3, ← hln, List.length_append]; omega
        obtain ⟨A3, hA3⟩ : ∃ A3, (if c' = M then A else Option.map (fun x => x.add M) A) = A3 := ⟨_, rfl⟩
        obtain ⟨m3, hm3⟩ : ∃ m3, m - M = m3 := ⟨_, rfl⟩
        obtain ⟨c3, hc3⟩ : ∃ c3, c' - M = c3 := ⟨_, rfl⟩
        have hr3 := Rd.drop_le hr (k := M) hMm
        have hr4 := Rd.head hr M hMm
        rw [hA3, hm3, hc3, g3, List.drop_left] at hr3
        have etk : (x ++ (suf'.flatten ++ t')).take M = x := by rw [g3, List.take_left]
        rw [etk] at hr4
        have s1 : (M : Int) ≤ (c' : Int) := by have := hr.le; omega
        have s2 : M ≤ c' := by omega
        have s3 : (M : Int) ≤ (m : Int) := by omega
        have hxl := Lib.hid g3.symm
        obtain ⟨n2, hn2⟩ : ∃ n2, no + M = n2 := ⟨_, rfl⟩
        have hol : Hid ((pre.flatten ++ x).length = n2) := Lib.hid (by rw [List.length_append, hno, hxl.out, hn2])
        have hb47 : pre.flatten.length + x.length ≤ 140737488355328 := by rw [hno, hxl.out]; exact Nat.le_trans (Nat.le_trans (Nat.add_le_add_left hMm no) (Nat.le_trans hsum hn)) (by decide)
        have H := Lib.hid (And.intro ho (And.intro hB (And.intro hls (And.intro hr3 (And.intro hr4 ht)))))
        have HM : Hid (7 ≤ M ∧ M + m3 = m ∧ n2 + m3 ≤ n ∧ m3 ≤ n) := Lib.hid ⟨by omega, by omega, by omega, by omega⟩
        clear hrw hr hM hE hP hln g1 g2 g3 g6 g7 ho hB hls hr3 hr4 ht hpx etk hn2 hno hsum hm hmn
        go_wp2_with fail
        refine hd.mono ?_
        rintro e w2 ⟨v, rfl, o2, b2⟩
        obtain ⟨A2, kc, rfl, _⟩ := o2.reads
        obtain ⟨ho, hB, hls, hr3, hr4, ht⟩ := H.out
        obtain ⟨w3, hw3⟩ : ∃ w3, w3 = w2.alloc (.cells #[.bool com, .bool sec, .int .i64 ap, .int .i64 fl, .int .i64 ct, .slice A2 d.length kc] 60) := ⟨_, rfl⟩
        have b3 : Below wr.heap.size wr w3 := by rw [hw3]; exact b2.alloc b2.size _
        have o3 := ho.below b3
        have hB3 := hB.trans (b3.mono hB.size)
        have hr5 := hr4.later hB3
        have HB := Lib.hid (And.intro hB3 hls)
        clear o2 b2 hd ho hB hls H b3 hr4
        go_wp2_with (at_builtin; rw [← hw3]; refine wpList_app _ is_bytes rfl (.tmp 26) (.tmp 29) rfl (m := pre.flatten) rfl o3 (l := x) (by rw [hxl.out]; rfl) hr5.bs hr5.nil hb47 hB3.size ?_; intro v4 w4 o4 g4; obtain ⟨A4, k4, rfl, _⟩ := o4.reads_len hol.out; have B4 := app_below o3 g4 HB.out.1)
        go_roundw
        case rel => exact ⟨pre ++ [x], suf', t', A3, m3, c3, n2, A4, k4, rfl, rfl, by rw [HB.out.2]; simp, ht, hr3, HM.out.2.2.2, by rw [List.flatten_append, ← hol.out]; simp, HM.out.2.2.1, by rw [List.flatten_append]; simpa using o4, B4⟩
        case measure => simp only [slen']; have := HM.out; omega
    · obtain rfl : m = 0 := by omega
      have hl := hr.len
      have hsuf : suf = [] := by
        cases suf with
        | nil => rfl
        | cons x suf' =>
          have := (HLS.out x (by rw [hls]; simp)).seven
          rw [List.flatten_cons, List.length_append, List.length_append] at hl
          omega
      subst hsuf
      rw [List.append_nil] at hls
      have HH := Lib.hid (And.intro ho (And.intro hB hls))
      clear hr ht hl ho hB hls hm
      go_wp2
      go_ret2
      obtain ⟨ho, hB, hls⟩ := HH.out
      exact ⟨⟨_, rfl, by rw [hls]; exact ho⟩, hB⟩
end Go.Proofs.Ytjjjlgaidklokaa.Pkr
