/-
  The law PartsPlays: a Joiner and the reference's beside it.
-/
import Derived.Test.YtfjmlgclgmcjcaaLaw11a
import Derived.Test.YtfjmlgclgmcjcaaRef11e
import Derived.Test.YtfjmlgclgmcjcaaLater
import Derived.Deep.Cut
import Derived.Deep.CutRange
namespace Go.Proofs.Ytfjmlgclgmcjcaa.Par
open Go.RowKit Go.Proofs.Ytfjmlgclgmcjcaa.Row
open Pac (Pk bel_new Cel.later Cel.within)

/-- address A leads to none of the blocks F -/
def Ap (A : Option Addr) (F : List Nat) : Prop := ∀ b o x, A = some ⟨b, o, x⟩ → b ∉ F
theorem Bs.off_ {w w' : World} {B : Nat} {A : Option Addr} {l : List Byte} {S : List Nat} (h : Bs w B A l) (k : Only S w w') (hB : B ≤ w.heap.size) (ha : Ap A S) : Bs w' B A l := fun hl => by
  obtain ⟨b, off, rfl, hb, hc⟩ := h hl
  refine ⟨b, off, rfl, hb, fun i x hx => ?_⟩
  rw [← hc i x hx]
  unfold World.cell?
  simp only [k.block b (by omega) (ha b off none rfl)]
theorem Dt.off_ {w w' : World} {B c : Nat} {A : Option Addr} {l : List Byte} {S : List Nat} (h : Dt w B l A c) (k : Only S w w') (hB : B ≤ w.heap.size) (ha : Ap A S) : Dt w' B l A c := ⟨Bs.off_ h.b k hB ha, h.n, h.l, h.m⟩
theorem RV.off_ {w w' : World} {B : Nat} {A : Option Addr} {v : Value} {s : JS} {S : List Nat} (h : RV w B v s A) (k : Only S w w') (hB : B ≤ w.heap.size) (ha : Ap A S) : RV w' B v s A := by
  obtain ⟨ap, ct, c, h1, h2, h3, h4⟩ := h
  exact ⟨ap, ct, c, h1, h2, h3, Dt.off_ h4 k hB ha⟩
theorem Ap.sub {A : Option Addr} {F F' : List Nat} {n : Nat} (h : Ap A F) (hF : ∀ x ∈ F', x ∈ F ∨ n ≤ x) (ha : ∀ b o x, A = some ⟨b, o, x⟩ → b < n) : Ap A F' := fun b o x e hm => by
  rcases hF b hm with h1 | h1
  · exact h b o x e h1
  · have := ha b o x e; omega
/-- where A leads, if it matters -/
def Lo (A : Option Addr) (n : Nat) : Prop := ∀ b o x, A = some ⟨b, o, x⟩ → b < n
theorem Ap.fresh {A A' : Option Addr} {F : List Nat} {n m : Nat} (h : Ap A F) (hF : ∀ x ∈ F, x < n) (hA : Fr n m A A') : Ap A' F := fun b o x e hm => by
  rcases hA with h1 | h1
  · exact h b o x (h1 ▸ e) hm
  · have := (h1 b o x e).1; have := hF b hm; omega

theorem Lo.fresh {A A' : Option Addr} {n n' m : Nat} (h : Lo A n) (hA : Fr n' m A A') (hm : n ≤ m) : Lo A' m := fun b o x e => by
  rcases hA with h1 | h1
  · exact Nat.lt_of_lt_of_le (h b o x (h1 ▸ e)) hm
  · exact (h1 b o x e).2
/-- a Joiner (block g, message v, state s) and a variable X that holds the reference's in state r; none of their blocks lies below B -/
structure PL (B : Nat) (w0 w : World) (g : Nat) (v : Value) (s : JS) (X : Nat) (cs : Array Value) (r : JS) (A : Option Addr) : Prop where
  jo : Jo w g v s
  lo : ∀ x ∈ blk g v, B ≤ x
  xg : X ∉ blk g v
  ag : Ap A (X :: blk g v)
  xB : B ≤ X
  xc : Cel w X 35 cs
  rv : RV w w.heap.size (.agg cs) r A
  al : Lo A w.heap.size
  be : Below B w0 w

section
variable {B : Nat} {w0 w w' : World} {g X : Nat} {v : Value} {s r : JS} {A : Option Addr} {cs : Array Value} {q : Nat} {u : Value} {t : JS}
theorem Ap.tail {A : Option Addr} {X : Nat} {F : List Nat} (h : Ap A (X :: F)) : Ap A F := fun b o x e hm => h b o x e (List.mem_cons_of_mem _ hm)
theorem Ap.head {A : Option Addr} {X : Nat} {F : List Nat} (h : Ap A (X :: F)) : Ap A [X] := fun b o x e hm => h b o x e (by rw [List.mem_singleton.1 hm]; simp)
theorem PL.hB (h : PL B w0 w g v s X cs r A) : B ≤ w.heap.size := by have := h.xc.lt; have := h.xB; omega
theorem PL.below (h : PL B w0 w g v s X cs r A) (k : Below w.heap.size w w') : PL B w0 w' g v s X cs r A :=
  ⟨h.jo.below k, h.lo, h.xg, h.ag, h.xB, Cel.later h.xc k, (h.rv.below k).more k.size, fun b o x e => Nat.lt_of_lt_of_le (h.al b o x e) k.size, h.be.trans (k.mono h.hB)⟩
/-- whatever turns the Joiner's blocks alone -/
theorem PL.turn (h : PL B w0 w g v s X cs r A) (k : Only (blk g v) w w') {v' : Value} {s' : JS} (j : Jo w' g v' s') (hb : ∀ x ∈ blk g v', x ∈ blk g v ∨ w.heap.size ≤ x) : PL B w0 w' g v' s' X cs r A := by
  have hx := h.xc.lt
  refine ⟨j, fun x hx => ?_, fun hm => ?_, h.ag.sub (fun x hx => by rcases List.mem_cons.1 hx with rfl | hx; exact .inl (by simp); rcases hb x hx with h1 | h1; exact .inl (List.mem_cons_of_mem _ h1); exact .inr h1) h.al, h.xB, h.xc.only k h.xg, (h.rv.off_ k (Nat.le_refl _) h.ag.tail).more k.size, fun b o x e => Nat.lt_of_lt_of_le (h.al b o x e) k.size, h.be.trans (k.below h.hB h.lo)⟩
  · rcases hb x hx with h1 | h1
    · exact h.lo x h1
    · have := h.hB; omega
  · rcases hb X hm with h1 | h1
    · exact h.xg h1
    · omega
theorem PL.take (h : PL B w0 w g v s X cs r A) {p : Pk} {a : Option Addr} {c n : Nat} (hn : p.d.length = n) (hd : Dt w w.heap.size p.d a c) (h47 : s.msg.length + p.d.length ≤ 1000000) {b : Bool} {e' : Int} {M : List Byte} {s' : JS} (hb : tkB s p = b) (he : tkE s p = e') (hM : tkM s p = M) (hs : tkS s p = s') :
    Calls Try.prog 16 #[.pointer (some ⟨g, 0, none⟩), .agg #[.bool p.com, .bool p.sec, .int .i64 p.ap, .int .i64 p.fl, .int .i64 p.ct, .slice a n c]] w fun e w' =>
      ∃ m v', e = .returned (.tuple #[m, .bool b, .int .i64 e']) ∧ Ow w' 0 5 m M ∧ PL B w0 w' g v' s' X cs r A ∧ w.heap.size ≤ w'.heap.size := by
  subst hn hb he hM hs
  refine (take_any w g v s p a c h.jo hd h47).mono ?_
  rintro e w' ⟨m, v', rfl, o, j, k, hx⟩
  exact ⟨m, v', rfl, o, h.turn k j hx, k.size⟩
theorem PL.pending (h : PL B w0 w g v s X cs r A) {n : Nat} (hn : s.msg.length = n) :
    Calls Try.prog 18 #[.pointer (some ⟨g, 0, none⟩)] w fun e w' => e = .returned (.int .i64 (n : Int)) ∧ w = w' := by
  subst hn
  exact pending_any w g v s h.jo
/-- a clone, and the one that it was made of -/
structure PL2 (B : Nat) (w0 w : World) (g : Nat) (v : Value) (s : JS) (q : Nat) (u : Value) (t : JS) (X : Nat) (cs : Array Value) (r : JS) (A : Option Addr) : Prop where
  a : PL B w0 w g v s X cs r A
  b : PL B w0 w q u t X cs r A
  n : ∀ x ∈ blk q u, x ∉ blk g v
theorem PL.clone (h : PL B w0 w g v s X cs r A) (h47 : s.msg.length ≤ 1000000) :
    Calls Try.prog 15 #[.pointer (some ⟨g, 0, none⟩)] w fun e w' => ∃ q u, e = .returned (.pointer (some ⟨q, 0, none⟩)) ∧ PL2 B w0 w' g v s q u s X cs r A := by
  refine (jclone_any w g v s h.jo h47).mono ?_
  rintro e w' ⟨q, u, rfl, j, hx, k⟩
  have h' := h.below k
  have hX := h.xc.lt
  refine ⟨q, u, rfl, h', ⟨j, fun x hxm => by have := hx x hxm; have := h.hB; omega, fun hm => by have := hx _ hm; omega, fun b o x e hm => ?_, h.xB, h'.xc, h'.rv, h'.al, h'.be⟩, fun x hxm hm => ?_⟩
  · rcases List.mem_cons.1 hm with rfl | hm
    · exact h.ag _ o x e (by simp)
    · have := hx b hm; have := h.al b o x e; omega
  · have := hx x hxm; have := h.jo.lt x hm; omega
theorem PL2.below (h : PL2 B w0 w g v s q u t X cs r A) (k : Below w.heap.size w w') : PL2 B w0 w' g v s q u t X cs r A := ⟨h.a.below k, h.b.below k, h.n⟩
/-- what is done to the one leaves the clone alone -/
theorem PL2.take (h : PL2 B w0 w g v s q u t X cs r A) {p : Pk} {a : Option Addr} {c n : Nat} (hn : p.d.length = n) (hd : Dt w w.heap.size p.d a c) (h47 : s.msg.length + p.d.length ≤ 1000000) :
    Calls Try.prog 16 #[.pointer (some ⟨g, 0, none⟩), .agg #[.bool p.com, .bool p.sec, .int .i64 p.ap, .int .i64 p.fl, .int .i64 p.ct, .slice a n c]] w fun e w' =>
      ∃ m b e', e = .returned (.tuple #[m, .bool b, .int .i64 e']) ∧ PL B w0 w' q u t X cs r A ∧ w.heap.size ≤ w'.heap.size := by
  subst hn
  refine (take_any w g v s p a c h.a.jo hd h47).mono ?_
  rintro e w' ⟨m, v', rfl, o, j, k, hx⟩
  have h1 := h.b
  exact ⟨m, _, _, rfl, ⟨h1.jo.only k h.n, h1.lo, h1.xg, h1.ag, h1.xB, h1.xc.only k h.a.xg, (h1.rv.off_ k (Nat.le_refl _) h.a.ag.tail).more k.size, fun b o x e => Nat.lt_of_lt_of_le (h1.al b o x e) k.size, h1.be.trans (k.below h1.hB h.a.lo)⟩, k.size⟩
/-- the variable stored anew -/
theorem PL.store (h : PL B w0 w g v s X cs r A) {cs' : Array Value} {r' : JS} {A' : Option Addr} (k : Only [X] w w') (hc : Cel w' X 35 cs') (hr : RV w w.heap.size (.agg cs') r' A') (ha : Ap A' (X :: blk g v)) (hl : Lo A' w.heap.size) : PL B w0 w' g v s X cs' r' A' := by
  refine ⟨h.jo.only k (fun x hx hm => h.xg (List.mem_singleton.1 hm ▸ hx)), h.lo, h.xg, ha, h.xB, hc, (hr.off_ k (Nat.le_refl _) ha.head).more k.size, fun b o x e => Nat.lt_of_lt_of_le (hl b o x e) k.size, h.be.trans (k.below h.hB (fun x hx => List.mem_singleton.1 hx ▸ h.xB))⟩
end
/-- where all lies at the start -/
theorem PL.start {w w2 : World} {n : Int} {B g : Nat} (hn : n ≤ 9223372036854775807) (hB : B ≤ w.heap.size) (hw : w.heap.size = g) (h : Below (w.alloc (.cells (Jv ⟨max n 0, [], 0, 0⟩ (.slice none 0 0)) 48)).heap.size (w.alloc (.cells (Jv ⟨max n 0, [], 0, 0⟩ (.slice none 0 0)) 48)) w2) :
    PL B w (w2.alloc (.cells (jv (max n 0) false 0 0 (.slice none 0 0)) 35)) g (.slice none 0 0) ⟨max n 0, [], 0, 0⟩ w2.heap.size (jv (max n 0) false 0 0 (.slice none 0 0)) ⟨max n 0, [], 0, 0⟩ none := by
  subst hw
  have hs : w.heap.size + 1 ≤ w2.heap.size := by have := h.size; simpa using this
  have b2 := bel_new w2 (.cells (jv (max n 0) false 0 0 (.slice none 0 0)) 35)
  have b1 := (bel_new w (.cells (Jv ⟨max n 0, [], 0, 0⟩ (.slice none 0 0)) 48))
  have b3 := (b1.trans (h.mono (by simp))).trans (b2.mono (by omega))
  refine ⟨((Jo_new n w hn).below h).below b2, fun x hx => ?_, fun hm => ?_, (fun _ _ _ e => nomatch e), by omega, Cel.new _ _ _, RV_idle _ _ _ _ _, (fun _ _ _ e => nomatch e), b3.mono hB⟩
  · simp [blk, Value.ownBlock] at hx; omega
  · simp [blk, Value.ownBlock] at hm; omega

theorem conv_later {w : World} {B n c : Nat} {A : Option Addr} {l : List Byte} (hl : l.length = n) (hr : Bs w B A l) (hB : B ≤ w.heap.size) (hn : A = none → c = 0) (p : Later w) :
    (convert 22 9 (.slice A n c)).run Try.prog p.W = .ok (.string (str l)) p.W := by
  subst hl
  exact run_str p.W is_bytes Try.underlying9 ((hr.more hB).below p.h) hn
def junk : Pk := ⟨false, false, 0, 1, 0, [1#8]⟩
set_option maxRecDepth 100000 in
set_option maxHeartbeats 4000000 in
theorem partsPlays_walk (n : Int) (A : Option Addr) (N cap : Nat) (l : List Pk) (copies : Bool) (w : World) (hN : Hid (l.length = N)) (hps : PS w w.heap.size A l) (hn : n ≤ 9223372036854775807) :
    Calls Try.prog 4 #[.int .i64 n, .slice A N cap, .bool copies] w fun e w' => e = .returned (.bool true) ∧ Below w.heap.size w w' := by
  by_cases hbig : 60 < N
  · have g1 : decide ((60 : Int) < (N : Int)) = true := by simp; omega
    have g2 : decide (60 < N) = true := by simp; omega
    clear hbig hps
    go_enter Try.func4, Try.ntmps4
    go_wp2_with fail
    refine (alive11_any _).mono ?_
    rintro e w1 ⟨rfl, h1⟩
    go_wp2
    go_ret
    exact ⟨rfl, h1⟩
  have g1 : decide ((60 : Int) < (N : Int)) = false := by simp; omega
  have g2 : decide (60 < N) = false := by simp; omega
  have hN60 : N ≤ 60 := by omega
  have x1 := newJoiner_any n w
  have x2 := xnew_any n
  have hst := fun w2 (h : Below (w.alloc (.cells (Jv ⟨max n 0, [], 0, 0⟩ (.slice none 0 0)) 48)).heap.size (w.alloc (.cells (Jv ⟨max n 0, [], 0, 0⟩ (.slice none 0 0)) 48)) w2) => PL.start (w2 := w2) hn (Nat.le_refl _) rfl h
  obtain ⟨M, hM⟩ : ∃ M, M = max n 0 := ⟨_, rfl⟩
  simp only [← hM] at x1 x2 hst
  unfold jv at x2
  clear hM hbig
  go_enter Try.func4, Try.ntmps4
  go_wp2_with fail
  refine x1.mono ?_
  rintro e w1 ⟨rfl, rfl⟩
  go_wp2_with fail
  refine (x2 _).mono ?_
  rintro e w2 ⟨rfl, b2⟩
  have P0 := hst w2 b2
  clear hst x1 x2 b2
  obtain ⟨w3, hw3⟩ : ∃ w3, w3 = w2.alloc (.cells (jv M false 0 0 (.slice none 0 0)) 35) := ⟨_, rfl⟩
  rw [← hw3] at P0
  unfold jv at hw3
  go_upto_region 5 with fail
  rw [← hw3]
  clear hw3
  obtain ⟨X, hX⟩ : ∃ X, X = w2.heap.size := ⟨_, rfl⟩
  rw [← hX] at P0 ⊢
  clear hX
  go_wp2
  go_loopw [7, 9] (fun j i wr => ∃ (k g : Nat) (v : Value) (s : JS) (cs : Array Value) (A' : Option Addr), k ≤ N ∧ i = .int .i64 (k : Int) ∧ j = .pointer (some ⟨g, 0, none⟩) ∧ s.msg.length ≤ 100 * k ∧ PL w.heap.size w wr g v s X cs s A')
    (fun _ i _ => N - (intOf i).toNat)
  case atStart => exact ⟨0, _, _, _, _, _, Nat.zero_le _, rfl, rfl, by simp, P0⟩
  case round =>
    clear P0
    obtain ⟨k, g, v, s, cs, A', hk, rfl, rfl, hsl, P0⟩ := hrel
    by_cases hkN : k < N
    · obtain ⟨q, hq⟩ : ∃ q, l[k]? = some q := ⟨_, List.getElem?_eq_getElem (by have := hN.out; omega)⟩
      obtain ⟨b, off, a, c, rfl, _⟩ := hps.at_ hq
      obtain ⟨L, hL⟩ : ∃ L, L = q.d.length := ⟨_, rfl⟩
      obtain ⟨a, c, K⟩ := hps.pk hq hL.symm rfl
      have HL := Lib.hid hL
      clear hL
      obtain ⟨hzb, u0, u1, u2, u3, u4, u5, du⟩ := K.below P0.be
      have i0 : (0 : Int) ≤ (k : Int) := Int.natCast_nonneg _
      have i1 : (k : Int) < (N : Int) := by omega
      by_cases hL100 : 100 < L
      · have t1 : decide ((100 : Int) < (L : Int)) = true := by simp; omega
        have t2 : decide (100 < L) = true := by simp; omega
        have hal := alive11_any wr
        have P1 := Lib.hid P0
        clear P0 hq hL100 du K
        go_wp2_with fail
        refine hal.mono ?_
        rintro e w6 ⟨rfl, b6⟩
        go_wp2
        go_ret
        exact ⟨rfl, P1.out.be.trans (b6.mono P1.out.hB)⟩
      have t1 : decide ((100 : Int) < (L : Int)) = false := by simp; omega
      have t2 : decide (100 < L) = false := by simp; omega
      obtain ⟨S', hs'⟩ : ∃ S', tkS s q = S' := ⟨_, rfl⟩
      obtain ⟨B', hb'⟩ : ∃ B', tkB s q = B' := ⟨_, rfl⟩
      obtain ⟨E', he'⟩ : ∃ E', tkE s q = E' := ⟨_, rfl⟩
      obtain ⟨M', hm'⟩ : ∃ M', tkM s q = M' := ⟨_, rfl⟩
      obtain ⟨LM, hLM⟩ : ∃ LM, LM = M'.length := ⟨_, rfl⟩
      have HLM := Lib.hid hLM
      have hSl := tkS_len s q
      rw [hs', ← HL.out] at hSl
      clear hLM hq
      go_upto_if 40 with fail
      go_cut [7, 10] from 40 to 47 (fun j _ wx => ∃ (g : Nat) (v : Value), j = .pointer (some ⟨g, 0, none⟩) ∧ PL w.heap.size w wx g v s X cs s A')
      case first =>
        have HP := Lib.hid P0
        clear u0 u1 u2 u3 u4 u5 du hzb
        cases copies with
        | false =>
          clear P0
          go_wp2
          go_meet
          case rel => exact ⟨_, _, rfl, HP.out⟩
        | true =>
          have hcl := P0.clone (by omega)
          clear P0
          go_wp2_with fail
          refine hcl.mono ?_
          rintro e w4 ⟨z, v4, rfl, P2⟩
          have P3 := P2.below (bel_new w4 (.cells #[.int .u8 1] 5))
          have hd1 : Dt (w4.alloc (.cells #[.int .u8 1] 5)) (w4.alloc (.cells #[.int .u8 1] 5)).heap.size [1#8] (some ⟨w4.heap.size, 0, none⟩) 1 := ⟨Bs_new _ _ _ _ (by simp) _ (by simp), (fun h => nomatch h), by decide, by decide⟩
          have hj := P3.take (p := junk) (n := 1) rfl hd1 (by show s.msg.length + 1 ≤ 1000000; omega)
          unfold junk at hj
          simp only at hj
          clear P2 P3 hd1 hcl
          go_wp2_with fail
          refine hj.mono ?_
          rintro e wz ⟨m, bz, ez, rfl, Pz, _⟩
          clear hj
          have HPz := Lib.hid Pz
          clear Pz
          go_wp2
          go_meet
          case rel => exact ⟨_, _, rfl, HPz.out⟩
      case rest =>
        clear P0 u0 u1 u2 u3 u4 u5 du hzb
        obtain ⟨gz, vz, rfl, Pz⟩ := hcut
        obtain ⟨hzb, u0, u1, u2, u3, u4, u5, du⟩ := K.below Pz.be
        have ht := Pz.take (p := q) (n := L) HL.out.symm (du.more Pz.hB) (by rw [← HL.out]; omega) hb' he' hm' hs'
        clear u0 u1 u2 u3 u4 u5 du hzb
        obtain ⟨_, u0, u1, u2, u3, u4, u5, _⟩ := K.below Pz.be
        have HP := Lib.hid Pz
        clear Pz
        go_wp2_with fail
        refine ht.mono ?_
        rintro e w5 ⟨m5, v5, rfl, o5, P5, _⟩
        obtain ⟨A5, c5, rfl, r5, n5, _⟩ := o5.reads_len (n := LM) HLM.out.symm
        have hA5X : Ap A5 [X] := fun b o x e hm => by
          subst e
          exact o5.apart P5.xc (by decide) (by rw [← List.mem_singleton.1 hm]; rfl)
        clear ht HP u0 u1 u2 u3 u4 u5 o5
        obtain ⟨hzb, u0, u1, u2, u3, u4, u5, du⟩ := K.below P5.be
        obtain ⟨jap, jct, jc, hcs, hj1, hj2, hD⟩ := P5.rv
        injection hcs with hcs
        subst hcs
        have hX0 := P5.xc.cell 0
        have hX1 := P5.xc.cell 1
        have hX2 := P5.xc.cell 2
        have hX3 := P5.xc.cell 3
        have hX4 := P5.xc.cell 4
        simp [jv] at hX0 hX1 hX2 hX3 hX4
        have HP5 := Lib.hid P5
        obtain ⟨Mo, hMo⟩ : ∃ Mo, Mo = s.most := ⟨_, rfl⟩
        obtain ⟨Ko, hKo⟩ : ∃ Ko, Ko = s.msg.length := ⟨_, rfl⟩
        obtain ⟨bz, hbz⟩ : ∃ bz, bz = decide (0 < s.msg.length) := ⟨_, rfl⟩
        rw [← hMo] at hX0
        rw [← hKo] at hX4
        rw [← hbz] at hX1
        have hAl := P5.al
        have hbX : X < w5.heap.size := P5.xc.lt
        have hbb : b < w5.heap.size := Nat.lt_of_lt_of_le hzb P5.hB
        have hS5 : ∀ W, Below w5.heap.size w5 W → (fun W => W.cell? ⟨X, 0, none⟩ = some (.int .i64 Mo) ∧ W.cell? ⟨X, 1, none⟩ = some (.bool bz) ∧ W.cell? ⟨X, 2, none⟩ = some (.int .i64 jap) ∧ W.cell? ⟨X, 3, none⟩ = some (.int .i64 jct) ∧ W.cell? ⟨X, 4, none⟩ = some (.slice A' Ko jc) ∧ W.cell? ⟨b, off + k * 6, none⟩ = some (.bool q.com) ∧ W.cell? ⟨b, off + k * 6 + 1, none⟩ = some (.bool q.sec) ∧ W.cell? ⟨b, off + k * 6 + 2, none⟩ = some (.int .i64 q.ap) ∧ W.cell? ⟨b, off + k * 6 + 3, none⟩ = some (.int .i64 q.fl) ∧ W.cell? ⟨b, off + k * 6 + 4, none⟩ = some (.int .i64 q.ct) ∧ W.cell? ⟨b, off + k * 6 + 5, none⟩ = some (.slice a L c)) W := fun W hW => ⟨(hW.cell hbX).trans hX0, (hW.cell hbX).trans hX1, (hW.cell hbX).trans hX2, (hW.cell hbX).trans hX3, (hW.cell hbX).trans hX4, (hW.cell hbb).trans u0, (hW.cell hbb).trans u1, (hW.cell hbb).trans u2, (hW.cell hbb).trans u3, (hW.cell hbb).trans u4, (hW.cell hbb).trans u5⟩
        have hxt := fun W (hW : Below w5.heap.size w5 W) => xtake_any W (.agg (jv s.most (decide (0 < s.msg.length)) jap jct (.slice A' s.msg.length jc))) s q a c A' ((P5.rv.below hW).more hW.size) (((du.more P5.hB).below hW).more hW.size) (by omega) (by rw [← HL.out]; omega)
        rw [hs', hb', he', hm', ← hMo, ← hbz, ← hKo, ← HL.out] at hxt
        unfold jv at hxt
        have HMK := Lib.hid (And.intro hMo (And.intro hKo hbz))
        clear P5 hj1 hj2 hD hMo hKo hbz
        go_upto_region 15 with fail
        go_cut [14, 15, 16, 17] from 58 to 68 (fun y b1 b2 b3 wx => ∃ (Y : Nat) (cs' : Array Value) (A'' A6 : Option Addr) (c6 : Nat), y = .pointer (some ⟨Y, 0, none⟩) ∧ b1 = .slice A6 LM c6 ∧ b2 = .bool B' ∧ b3 = .int .i64 E' ∧ Below w5.heap.size w5 wx ∧ Cel wx Y 35 cs' ∧ w5.heap.size ≤ Y ∧ RV wx wx.heap.size (.agg cs') S' A'' ∧ Fr w5.heap.size wx.heap.size A' A'' ∧ Bs wx wx.heap.size A6 M' ∧ (A6 = none → c6 = 0) ∧ Ap A6 [X])
        case first =>
          clear hX0 hX1 hX2 hX3 hX4 u0 u1 u2 u3 u4 u5
          refine wp_region_held_drew (S := fun W => W.cell? ⟨X, 0, none⟩ = some (.int .i64 Mo) ∧ W.cell? ⟨X, 1, none⟩ = some (.bool bz) ∧ W.cell? ⟨X, 2, none⟩ = some (.int .i64 jap) ∧ W.cell? ⟨X, 3, none⟩ = some (.int .i64 jct) ∧ W.cell? ⟨X, 4, none⟩ = some (.slice A' Ko jc) ∧ W.cell? ⟨b, off + k * 6, none⟩ = some (.bool q.com) ∧ W.cell? ⟨b, off + k * 6 + 1, none⟩ = some (.bool q.sec) ∧ W.cell? ⟨b, off + k * 6 + 2, none⟩ = some (.int .i64 q.ap) ∧ W.cell? ⟨b, off + k * 6 + 3, none⟩ = some (.int .i64 q.fl) ∧ W.cell? ⟨b, off + k * 6 + 4, none⟩ = some (.int .i64 q.ct) ∧ W.cell? ⟨b, off + k * 6 + 5, none⟩ = some (.slice a L c)) (by kernel_rfl) (hS5 _ ⟨rfl, rfl, rfl, Nat.le_refl _, fun _ _ => rfl⟩) (fun hHeld => ?_)
          refine wpAnyH_here 0 (v := ?_) rfl (by kernel_rfl) (by kernel_rfl) (by kernel_rfl) (fun _ _ _ h => h) (Or.inl ⟨by rfl, ?_⟩) hHeld ?_
          rotate_left
          · intro w hSw; (try dsimp only at hSw); go_simp; all_goals (with_reducible rfl)
          try simp only [Act.put, List.setIfInBounds_toArray, List.set_cons_zero, List.set_cons_succ]
          refine wpAnyH_here 1 (v := ?_) rfl (by kernel_rfl) (by kernel_rfl) (by kernel_rfl) (fun _ _ _ h => h) (Or.inl ⟨by rfl, ?_⟩) hHeld ?_
          rotate_left
          · intro w hSw; (try dsimp only at hSw); go_simp; all_goals (with_reducible rfl)
          try simp only [Act.put, List.setIfInBounds_toArray, List.set_cons_zero, List.set_cons_succ]
          refine wpAnyH_here 2 (v := ?_) rfl (by kernel_rfl) (by kernel_rfl) (by kernel_rfl) (fun _ _ _ h => h) (Or.inl ⟨by rfl, ?_⟩) hHeld ?_
          rotate_left
          · intro w hSw; (try dsimp only at hSw); go_simp; all_goals (with_reducible rfl)
          try simp only [Act.put, List.setIfInBounds_toArray, List.set_cons_zero, List.set_cons_succ]
          refine wpAnyH_here 3 (v := ?_) rfl (by kernel_rfl) (by kernel_rfl) (by kernel_rfl) (fun _ _ _ h => h) (Or.inl ⟨by rfl, ?_⟩) hHeld ?_
          rotate_left
          · intro w hSw; (try dsimp only at hSw); go_simp; all_goals (with_reducible rfl)
          try simp only [Act.put, List.setIfInBounds_toArray, List.set_cons_zero, List.set_cons_succ]
          refine wpAnyH_here 4 (v := ?_) rfl (by kernel_rfl) (by kernel_rfl) (by kernel_rfl) (fun _ _ _ h => h) (Or.inl ⟨by rfl, ?_⟩) hHeld ?_
          rotate_left
          · intro w hSw; (try dsimp only at hSw); go_simp; all_goals (with_reducible rfl)
          try simp only [Act.put, List.setIfInBounds_toArray, List.set_cons_zero, List.set_cons_succ]
          have hbA : Below w5.heap.size w5 w5.drew := ⟨rfl, rfl, rfl, Nat.le_refl _, fun _ _ => rfl⟩
          obtain ⟨W5, hW5⟩ : ∃ W5, W5 = w5.drew := ⟨_, rfl⟩
          rw [← hW5] at hbA hHeld ⊢
          clear hW5
          refine wpAnyH_both 5 11 rfl rfl (by kernel_rfl) (fun K hK => ?_) (fun K hK => ?_)
          · go_simp
            refine (hxt _ hbA).mono ?_
            rintro e w6 ⟨v6, m6, A'', rfl, rv6, fr6, o6, b6⟩
            have rv6' := rv6
            obtain ⟨ap6, ct6, c6', rfl, _⟩ := rv6
            obtain ⟨A6, c6, rfl, r6, n6, _⟩ := o6.reads_len (n := LM) HLM.out.symm
            unfold jv at rv6' ⊢
            obtain ⟨Mp, hMp⟩ : ∃ Mp, Mp = S'.most := ⟨_, rfl⟩
            obtain ⟨bp, hbp⟩ : ∃ bp, bp = decide (0 < S'.msg.length) := ⟨_, rfl⟩
            obtain ⟨Kp, hKp⟩ : ∃ Kp, Kp = S'.msg.length := ⟨_, rfl⟩
            rw [← hMp, ← hbp, ← hKp] at rv6' ⊢
            clear hMp hbp hKp
            have bb6 := hbA.trans (b6.mono (hbA.size))
            refine hK.out _ _ (hS5 _ bb6) (fun hHeld => ?_)
            clear hK K
            try simp only [Act.put, List.setIfInBounds_toArray, List.set_cons_zero, List.set_cons_succ]
            refine wpAnyH_here 6 (v := ?_) rfl (by kernel_rfl) (by kernel_rfl) (by kernel_rfl) (fun _ _ _ h => h) (Or.inl ⟨by rfl, ?_⟩) hHeld ?_
            rotate_left
            · intro w hSw; (try dsimp only at hSw); go_simp; all_goals (with_reducible rfl)
            try simp only [Act.put, List.setIfInBounds_toArray, List.set_cons_zero, List.set_cons_succ]
            refine wpAnyH_here 7 (v := ?_) rfl (by kernel_rfl) (by kernel_rfl) (by kernel_rfl) (fun _ _ _ h => h) (Or.inl ⟨by rfl, ?_⟩) hHeld ?_
            rotate_left
            · intro w hSw; (try dsimp only at hSw); go_simp; all_goals (with_reducible rfl)
            try simp only [Act.put, List.setIfInBounds_toArray, List.set_cons_zero, List.set_cons_succ]
            refine wpAnyH_here 8 (v := ?_) rfl (by kernel_rfl) (by kernel_rfl) (by kernel_rfl) (fun _ _ _ h => h) (Or.inl ⟨by rfl, ?_⟩) hHeld ?_
            rotate_left
            · intro w hSw; (try dsimp only at hSw); go_simp; all_goals (with_reducible rfl)
            try simp only [Act.put, List.setIfInBounds_toArray, List.set_cons_zero, List.set_cons_succ]
            refine wpAnyH_here 9 (v := ?_) rfl (by kernel_rfl) (by kernel_rfl) (by kernel_rfl) (fun _ _ _ h => h) (Or.inl ⟨by rfl, ?_⟩) hHeld ?_
            rotate_left
            · intro w hSw; (try dsimp only at hSw); go_simp; all_goals (with_reducible rfl)
            try simp only [Act.put, List.setIfInBounds_toArray, List.set_cons_zero, List.set_cons_succ]
            refine wpAnyH_here 10 (v := ?_) rfl (by kernel_rfl) (by kernel_rfl) (by kernel_rfl) (fun _ _ _ h => h) (Or.inl ⟨by rfl, ?_⟩) hHeld ?_
            rotate_left
            · intro w hSw; (try dsimp only at hSw); go_simp; all_goals (with_reducible rfl)
            try simp only [Act.put, List.setIfInBounds_toArray, List.set_cons_zero, List.set_cons_succ]
            refine wpAnyH_alone 11 rfl (by kernel_rfl) (fun K hK => ?_)
            go_simp
            obtain ⟨Y, hYe⟩ : ∃ Y, Y = w6.heap.size := ⟨_, rfl⟩
            have y7 := Cel.new w6 35 #[.int .i64 0, .bool false, .int .i64 0, .int .i64 0, .slice none 0 0]
            have b7 := bel_new w6 (.cells #[.int .i64 0, .bool false, .int .i64 0, .int .i64 0, .slice none 0 0] 35)
            have bb7 := bb6.trans (b7.mono bb6.size)
            have hY : w5.heap.size ≤ Y := by rw [hYe]; exact bb6.size
            obtain ⟨W7, hW7⟩ : ∃ W7, W7 = w6.alloc (.cells #[.int .i64 0, .bool false, .int .i64 0, .int .i64 0, .slice none 0 0] 35) := ⟨_, rfl⟩
            rw [← hW7] at y7 b7 bb7 ⊢
            rw [← hYe] at y7 ⊢
            have hY6 : Hid (w6.heap.size ≤ Y) := Lib.hid (by omega)
            clear hW7 hYe
            refine hK.out _ _ (hS5 _ bb7) (fun hHeld => ?_)
            clear hK K
            try simp only [Act.put, List.setIfInBounds_toArray, List.set_cons_zero, List.set_cons_succ]
            refine wpAnyH_alone 12 rfl (by kernel_rfl) (fun K hK => ?_)
            have fc0 := y7.cell 0
            have fc1 := y7.cell 1
            have fc2 := y7.cell 2
            have fc3 := y7.cell 3
            have fc4 := y7.cell 4
            have ff0 := y7.free 0
            have ff1 := y7.free 1
            have ff2 := y7.free 2
            have ff3 := y7.free 3
            have ff4 := y7.free 4
            simp at fc0 fc1 fc2 fc3 fc4
            have p8 := only5 W7 Y (.int .i64 Mp) (.bool bp) (.int .i64 ap6) (.int .i64 ct6) (.slice A'' Kp c6')
            have y8 := Cel.put5 y7 (.int .i64 Mp) (.bool bp) (.int .i64 ap6) (.int .i64 ct6) (.slice A'' Kp c6')
            have bb8 := bb7.trans (p8.below bb7.size (fun x hx => by obtain rfl := List.mem_singleton.1 hx; exact hY))
            go_simp
            refine hK.out _ _ (hS5 _ bb8) (fun hHeld => ?_)
            clear hK K
            try simp only [Act.put, List.setIfInBounds_toArray, List.set_cons_zero, List.set_cons_succ]
            refine wpAnyH_here 13 (v := ?_) rfl (by kernel_rfl) (by kernel_rfl) (by kernel_rfl) (fun _ _ _ h => h) (Or.inl ⟨by rfl, ?_⟩) hHeld ?_
            rotate_left
            · intro w hSw; (try dsimp only at hSw); go_simp; all_goals (with_reducible rfl)
            try simp only [Act.put, List.setIfInBounds_toArray, List.set_cons_zero, List.set_cons_succ]
            refine wpAnyH_here 14 (v := ?_) rfl (by kernel_rfl) (by kernel_rfl) (by kernel_rfl) (fun _ _ _ h => h) (Or.inl ⟨by rfl, ?_⟩) hHeld ?_
            rotate_left
            · intro w hSw; (try dsimp only at hSw); go_simp; all_goals (with_reducible rfl)
            try simp only [Act.put, List.setIfInBounds_toArray, List.set_cons_zero, List.set_cons_succ]
            refine wpAnyH_here 15 (v := ?_) rfl (by kernel_rfl) (by kernel_rfl) (by kernel_rfl) (fun _ _ _ h => h) (Or.inl ⟨by rfl, ?_⟩) hHeld ?_
            rotate_left
            · intro w hSw; (try dsimp only at hSw); go_simp; all_goals (with_reducible rfl)
            try simp only [Act.put, List.setIfInBounds_toArray, List.set_cons_zero, List.set_cons_succ]
            refine wpAnyH_done (by kernel_rfl) ?_ _
            have p8' : Below w6.heap.size w6 _ := b7.trans (p8.below b7.size (fun x hx => by obtain rfl := List.mem_singleton.1 hx; exact hY6.out))
            have hA6 : Ap A6 [X] := fun b o x e hm => by
              have hbY := List.mem_singleton.1 hm
              subst e
              have := (o6.lt b rfl).1
              have := hbA.size
              omega
            have hfr : Fr w5.heap.size _ A' A'' := fr6.imp id (fun h b o x e => ⟨Nat.le_trans hbA.size (h b o x e).1, Nat.lt_of_lt_of_le (h b o x e).2 p8'.size⟩)
            have hq := And.intro (((rv6'.below p8').more p8'.size)) (And.intro ((r6.below p8').more p8'.size) (And.intro bb8 y8))
            clear hHeld rv6' r6 o6 b6 bb6 bb7 b7 y7 p8 y8 bb8 p8' fc0 fc1 fc2 fc3 fc4 ff0 ff1 ff2 ff3 ff4 hS5 hxt hbA
            go_wp2
            go_meet
            case rel => exact ⟨_, _, _, _, _, rfl, rfl, rfl, rfl, hq.2.2.1, hq.2.2.2, hY, hq.1, hfr, hq.2.1, n6, hA6⟩
          · go_simp
            obtain ⟨Y, hYe⟩ : ∃ Y, Y = W5.heap.size := ⟨_, rfl⟩
            have y5 := Cel.new W5 35 #[.int .i64 0, .bool false, .int .i64 0, .int .i64 0, .slice none 0 0]
            have b55 := bel_new W5 (.cells #[.int .i64 0, .bool false, .int .i64 0, .int .i64 0, .slice none 0 0] 35)
            have bb55 := hbA.trans (b55.mono hbA.size)
            have hY : w5.heap.size ≤ Y := by rw [hYe]; exact hbA.size
            have hYl := y5.lt
            obtain ⟨W55, hW55⟩ : ∃ W55, W55 = W5.alloc (.cells #[.int .i64 0, .bool false, .int .i64 0, .int .i64 0, .slice none 0 0] 35) := ⟨_, rfl⟩
            rw [← hW55] at y5 b55 bb55 hYl ⊢
            rw [← hYe] at y5 hYl ⊢
            clear hW55 hYe b55
            refine hK.out _ _ (hS5 _ bb55) (fun hHeld => ?_)
            clear hK K
            try simp only [Act.put, List.setIfInBounds_toArray, List.set_cons_zero, List.set_cons_succ]
            refine wpAnyH_alone 5 rfl (by kernel_rfl) (fun K hK => ?_)
            go_simp
            refine (hxt _ bb55).mono ?_
            rintro e w6 ⟨v6, m6, A'', rfl, rv6, fr6, o6, b6⟩
            have rv6' := rv6
            obtain ⟨ap6, ct6, c6', rfl, _⟩ := rv6
            obtain ⟨A6, c6, rfl, r6, n6, _⟩ := o6.reads_len (n := LM) HLM.out.symm
            unfold jv at rv6' ⊢
            obtain ⟨Mp, hMp⟩ : ∃ Mp, Mp = S'.most := ⟨_, rfl⟩
            obtain ⟨bp, hbp⟩ : ∃ bp, bp = decide (0 < S'.msg.length) := ⟨_, rfl⟩
            obtain ⟨Kp, hKp⟩ : ∃ Kp, Kp = S'.msg.length := ⟨_, rfl⟩
            rw [← hMp, ← hbp, ← hKp] at rv6' ⊢
            clear hMp hbp hKp
            have bb6 := bb55.trans (b6.mono (bb55.size))
            refine hK.out _ _ (hS5 _ bb6) (fun hHeld => ?_)
            clear hK K
            try simp only [Act.put, List.setIfInBounds_toArray, List.set_cons_zero, List.set_cons_succ]
            refine wpAnyH_here 6 (v := ?_) rfl (by kernel_rfl) (by kernel_rfl) (by kernel_rfl) (fun _ _ _ h => h) (Or.inl ⟨by rfl, ?_⟩) hHeld ?_
            rotate_left
            · intro w hSw; (try dsimp only at hSw); go_simp; all_goals (with_reducible rfl)
            try simp only [Act.put, List.setIfInBounds_toArray, List.set_cons_zero, List.set_cons_succ]
            refine wpAnyH_here 7 (v := ?_) rfl (by kernel_rfl) (by kernel_rfl) (by kernel_rfl) (fun _ _ _ h => h) (Or.inl ⟨by rfl, ?_⟩) hHeld ?_
            rotate_left
            · intro w hSw; (try dsimp only at hSw); go_simp; all_goals (with_reducible rfl)
            try simp only [Act.put, List.setIfInBounds_toArray, List.set_cons_zero, List.set_cons_succ]
            refine wpAnyH_here 8 (v := ?_) rfl (by kernel_rfl) (by kernel_rfl) (by kernel_rfl) (fun _ _ _ h => h) (Or.inl ⟨by rfl, ?_⟩) hHeld ?_
            rotate_left
            · intro w hSw; (try dsimp only at hSw); go_simp; all_goals (with_reducible rfl)
            try simp only [Act.put, List.setIfInBounds_toArray, List.set_cons_zero, List.set_cons_succ]
            refine wpAnyH_here 9 (v := ?_) rfl (by kernel_rfl) (by kernel_rfl) (by kernel_rfl) (fun _ _ _ h => h) (Or.inl ⟨by rfl, ?_⟩) hHeld ?_
            rotate_left
            · intro w hSw; (try dsimp only at hSw); go_simp; all_goals (with_reducible rfl)
            try simp only [Act.put, List.setIfInBounds_toArray, List.set_cons_zero, List.set_cons_succ]
            refine wpAnyH_here 10 (v := ?_) rfl (by kernel_rfl) (by kernel_rfl) (by kernel_rfl) (fun _ _ _ h => h) (Or.inl ⟨by rfl, ?_⟩) hHeld ?_
            rotate_left
            · intro w hSw; (try dsimp only at hSw); go_simp; all_goals (with_reducible rfl)
            try simp only [Act.put, List.setIfInBounds_toArray, List.set_cons_zero, List.set_cons_succ]
            have y7 := Cel.later y5 b6
            have bb7 := bb6
            refine wpAnyH_alone 12 rfl (by kernel_rfl) (fun K hK => ?_)
            have fc0 := y7.cell 0
            have fc1 := y7.cell 1
            have fc2 := y7.cell 2
            have fc3 := y7.cell 3
            have fc4 := y7.cell 4
            have ff0 := y7.free 0
            have ff1 := y7.free 1
            have ff2 := y7.free 2
            have ff3 := y7.free 3
            have ff4 := y7.free 4
            simp at fc0 fc1 fc2 fc3 fc4
            have p8 := only5 w6 Y (.int .i64 Mp) (.bool bp) (.int .i64 ap6) (.int .i64 ct6) (.slice A'' Kp c6')
            have y8 := Cel.put5 y7 (.int .i64 Mp) (.bool bp) (.int .i64 ap6) (.int .i64 ct6) (.slice A'' Kp c6')
            have bb8 := bb7.trans (p8.below bb7.size (fun x hx => by obtain rfl := List.mem_singleton.1 hx; exact hY))
            go_simp
            refine hK.out _ _ (hS5 _ bb8) (fun hHeld => ?_)
            clear hK K
            try simp only [Act.put, List.setIfInBounds_toArray, List.set_cons_zero, List.set_cons_succ]
            refine wpAnyH_here 13 (v := ?_) rfl (by kernel_rfl) (by kernel_rfl) (by kernel_rfl) (fun _ _ _ h => h) (Or.inl ⟨by rfl, ?_⟩) hHeld ?_
            rotate_left
            · intro w hSw; (try dsimp only at hSw); go_simp; all_goals (with_reducible rfl)
            try simp only [Act.put, List.setIfInBounds_toArray, List.set_cons_zero, List.set_cons_succ]
            refine wpAnyH_here 14 (v := ?_) rfl (by kernel_rfl) (by kernel_rfl) (by kernel_rfl) (fun _ _ _ h => h) (Or.inl ⟨by rfl, ?_⟩) hHeld ?_
            rotate_left
            · intro w hSw; (try dsimp only at hSw); go_simp; all_goals (with_reducible rfl)
            try simp only [Act.put, List.setIfInBounds_toArray, List.set_cons_zero, List.set_cons_succ]
            refine wpAnyH_here 15 (v := ?_) rfl (by kernel_rfl) (by kernel_rfl) (by kernel_rfl) (fun _ _ _ h => h) (Or.inl ⟨by rfl, ?_⟩) hHeld ?_
            rotate_left
            · intro w hSw; (try dsimp only at hSw); go_simp; all_goals (with_reducible rfl)
            try simp only [Act.put, List.setIfInBounds_toArray, List.set_cons_zero, List.set_cons_succ]
            refine wpAnyH_done (by kernel_rfl) ?_ _
            have hq := And.intro ((rv6'.off_ p8 (Nat.le_refl _) (fun b o x e hm => ?_)).more p8.size) (And.intro ((Bs.off_ r6 p8 (Nat.le_refl _) (fun b o x e hm => ?_)).more p8.size) (And.intro bb8 y8))
            rotate_left
            · have hbY := List.mem_singleton.1 hm
              rcases fr6 with h | h
              · have := hAl b o x (h ▸ e); omega
              · have := (h b o x e).1; omega
            · have hbY := List.mem_singleton.1 hm
              subst e
              have := (o6.lt b rfl).1
              omega
            have hA6 : Ap A6 [X] := fun b o x e hm => by
              have hbY := List.mem_singleton.1 hm
              subst e
              have := (o6.lt b rfl).1
              have := bb55.size
              omega
            have hfr : Fr w5.heap.size _ A' A'' := fr6.imp id (fun h b o x e => ⟨Nat.le_trans bb55.size (h b o x e).1, Nat.lt_of_lt_of_le (h b o x e).2 p8.size⟩)
            clear hHeld rv6' r6 o6 b6 bb6 bb7 y7 p8 y8 bb8 fc0 fc1 fc2 fc3 fc4 ff0 ff1 ff2 ff3 ff4 hS5 hxt hbA y5 bb55
            go_wp2
            go_meet
            case rel => exact ⟨_, _, _, _, _, rfl, rfl, rfl, rfl, hq.2.2.1, hq.2.2.2, hY, hq.1, hfr, hq.2.1, n6, hA6⟩
        case rest =>
          clear hX0 hX1 hX2 hX3 hX4 u0 u1 u2 u3 u4 u5 hS5 hxt
          obtain ⟨Y, cs', A'', A6, c6, rfl, rfl, rfl, rfl, bx, yc, hY, rv, hfr, r6, n6, hA6⟩ := hcut
          have Px := HP5.out.below bx
          have hF : ∀ x ∈ X :: blk gz v5, x < w5.heap.size := fun x hx => by
            rcases List.mem_cons.1 hx with rfl | hx
            · exact HP5.out.xc.lt
            · exact HP5.out.jo.lt x hx
          have rv' := rv
          obtain ⟨ap6, ct6, c6', hcs', _⟩ := rv'
          injection hcs' with hcs'
          unfold jv at hcs'
          obtain ⟨Mp, hMp⟩ : ∃ Mp, Mp = S'.most := ⟨_, rfl⟩
          obtain ⟨bp, hbp⟩ : ∃ bp, bp = decide (0 < S'.msg.length) := ⟨_, rfl⟩
          obtain ⟨Kp, hKp⟩ : ∃ Kp, Kp = S'.msg.length := ⟨_, rfl⟩
          rw [← hMp, ← hbp, ← hKp] at hcs'
          subst hcs'
          have x0 := Px.xc
          unfold jv at x0
          have fc0 := x0.cell 0
          have fc1 := x0.cell 1
          have fc2 := x0.cell 2
          have fc3 := x0.cell 3
          have fc4 := x0.cell 4
          have ff0 := x0.free 0
          have ff1 := x0.free 1
          have ff2 := x0.free 2
          have ff3 := x0.free 3
          have ff4 := x0.free 4
          have yy0 := yc.cell 0
          have yy1 := yc.cell 1
          have yy2 := yc.cell 2
          have yy3 := yc.cell 3
          have yy4 := yc.cell 4
          simp at fc0 fc1 fc2 fc3 fc4 yy0 yy1 yy2 yy3 yy4
          have p8 := only5 wc X (.int .i64 Mp) (.bool bp) (.int .i64 ap6) (.int .i64 ct6) (.slice A'' Kp c6')
          have y8 := Cel.put5 x0 (.int .i64 Mp) (.bool bp) (.int .i64 ap6) (.int .i64 ct6) (.slice A'' Kp c6')
          have Pn := Px.store p8 y8 rv (HP5.out.ag.fresh hF hfr) (hAl.fresh hfr bx.size)
          have q5 := Bs.off_ (r5.below bx) p8 bx.size hA5X
          have q6 := Bs.off_ r6 p8 (Nat.le_refl _) hA6
          have hz8 := p8.size
          have hz5 := bx.size
          obtain ⟨wn, hwn⟩ : ∃ wn, wn = (((((wc.setCell ⟨X, 0, none⟩ (.int .i64 Mp)).setCell ⟨X, 1, none⟩ (.bool bp)).setCell ⟨X, 2, none⟩ (.int .i64 ap6)).setCell ⟨X, 3, none⟩ (.int .i64 ct6)).setCell ⟨X, 4, none⟩ (.slice A'' Kp c6')) := ⟨_, rfl⟩
          rw [← hwn] at y8 Pn q5 q6 hz8
          have HH := Lib.hid (And.intro hMp (And.intro hbp hKp))
          have HPn := Lib.hid Pn
          clear hMp hbp hKp Pn Px rv p8 r6 hAl hfr
          go_upto_region 17 with fail
          rw [← hwn]
          clear hwn fc0 fc1 fc2 fc3 fc4 ff0 ff1 ff2 ff3 ff4 yy0 yy1 yy2 yy3 yy4
          have w4 := y8.cell 4
          simp at w4
          have hXl := y8.lt
          refine wp_region_later (by kernel_rfl) (by kernel_rfl) ?_
          have d1 := conv_later HLM.out.symm q5 (by omega) n5
          have d2 := conv_later HLM.out.symm q6 (by omega) n6
          have d3 := later_cell w4 hXl
          have e1 : ((str M').toList != (str M').toList) = false := by simp
          have e2 : (B' != B') = false := by simp
          have e3 : (E' != E') = false := by simp
          have e4 : ((Kp : Int) != (Kp : Int)) = false := by simp
          have e5 : (Kp != Kp) = false := by simp
          have xp := fun p : Later wn => (HPn.out.below p.h).pending HH.out.2.2.symm
          clear q5 q6 w4 y8 x0
          repeat (go_big_quiet_step ((first
            | (go_at_call 18; exact later_same (xp _)))))
          refine wpQuiet_nil ?_
          rintro _ ⟨⟨w7, b7⟩, rfl⟩
          go_wp2
          go_round
          case measure => simp only [intOf]; omega
          case rel => exact ⟨k + 1, _, _, _, _, _, hkN, rfl, rfl, by have := hSl; omega, HPn.out.below b7⟩
    · have hal := alive11_any wr
      have hkN' : k = N := by omega
      subst hkN'
      have P1 := Lib.hid P0
      clear P0 hkN hsl
      go_wp2_with fail
      refine hal.mono ?_
      rintro e w6 ⟨rfl, b6⟩
      go_wp2
      go_ret
      exact ⟨rfl, P1.out.be.trans (b6.mono P1.out.hB)⟩
end Go.Proofs.Ytfjmlgclgmcjcaa.Par
