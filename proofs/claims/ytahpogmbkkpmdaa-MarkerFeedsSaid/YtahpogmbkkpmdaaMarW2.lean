/-
  Package marker: Feed.
-/
import Derived.Test.YtahpogmbkkpmdaaMarW1
import Derived.Test.YtahpogmbkkpmdaaScrAp
namespace Go.Proofs.Ytahpogmbkkpmdaa.Mar
open Go.RowKit Go.Proofs.Ytahpogmbkkpmdaa.Row Lst
open Scr (app app_len apply_any)

theorem is_lists : IsRows Try.prog 26 22 (.slice none 0 0) 1 24 := IsRows.of Try.underlying26 rfl (by kernel_rfl)

/-- a Finder's block and its frame, whatever its state fulfils -/
structure FC (w : World) (g : Nat) (v : Value) (N : Nat) (s : FS) : Prop where
  c : Cel w g 42 #[.int .i64 (N : Int), .int .i64 (s.m : Int), v, .int .i64 (s.sk : Int)]
  o : Ow w 0 5 v s.fr
/-- what Feed has made so far: the Finder in state s with the slice v', the frames o in the slice R, in the blocks E; of the old blocks the Finder's own (those of v) alone have turned -/
structure Fd (w : World) (g : Nat) (v : Value) (N : Nat) (s : FS) (o : List (List Byte)) (R v' : Value) (E : List Nat) (wr : World) : Prop where
  fc : FC wr g v' N s
  lo : LO wr w.heap.size 22 5 R o E
  on : Only (blk g v) w wr
  nb : ∀ i ∈ blk g v', i ∈ blk g v ∨ w.heap.size ≤ i
  el : ∀ i ∈ E, i ∉ blk g v'

section
variable {w w' wr w2 w3 w4 w6 : World} {g N m sk n c : Nat} {v v' v2 v4 R R2 : Value} {s : FS} {S E : List Nat} {fr fr2 L : List Byte} {o : List (List Byte)} {A : Option Addr}
theorem FC.only (h : FC w g v N s) (k : Only S w w') (hd : ∀ x ∈ blk g v, x ∉ S) : FC w' g v N s :=
  ⟨h.c.only k (hd g (by simp [blk])), h.o.only k (fun i hi => hd i (by simp [blk, hi]))⟩
theorem FC.lt (h : FC w g v N s) : ∀ x ∈ blk g v, x < w.heap.size := fun x hx => by
  rcases List.mem_cons.1 hx with rfl | hx
  · exact h.c.lt
  · exact (h.o.lt x (by simpa using hx)).2
theorem FC.apart (h : FC w g v N s) : v.ownBlock ≠ some g := h.o.apart h.c (by decide)
theorem FC.row (h : FC w g v N s) (k : LO w n 22 5 R o E) : ∀ i, R.ownBlock = some i → i ∉ blk g v := fun i hi hm => by
  rcases List.mem_cons.1 hm with rfl | hm
  · exact k.row_apart h.c (by decide) hi
  · obtain ⟨cs, hc⟩ := own_cel h.o (i := i) (by simpa using hm)
    exact k.row_apart hc (by decide) hi
theorem FW.fc (h : FW w g v N s) : FC w g v N s := ⟨h.c, h.o⟩
theorem Fd.start (h : FW w g v N s) : Fd w g v N s [] (.slice none 0 0) v [] w :=
  ⟨h.fc, LO.nil_ _ _ _ _, Only.refl _ _, fun i hi => .inl hi, fun i hi => by cases hi⟩
theorem Fd.drew (h : Fd w g v N s o R v' E wr) : Fd w g v N s o R v' E wr.drew := ⟨⟨h.fc.c, h.fc.o⟩, h.lo.drew, h.on.drew, h.nb, h.el⟩
theorem Fd.draws (h : Fd w g v N s o R v' E wr) (n : Nat) : Fd w g v N s o R v' E (wr.drewN n) := ⟨⟨h.fc.c, h.fc.o⟩, h.lo.draws n, h.on.draws n, h.nb, h.el⟩
/-- search -/
theorem Fd.search {s' : FS} (h : Fd w g v N s o R v' E wr) (k : Only [g] wr w2) (hf : FW w2 g v' N s') : Fd w g v N s' o R v' E w2 :=
  ⟨hf.fc, h.lo.only k (fun i hi hm => h.fc.row h.lo i hi (by simp at hm; simp [blk, hm])) (fun i hi hm => h.el i hi (by simp at hm; simp [blk, hm])), h.on.trans k (by simp [blk]), h.nb, h.el⟩
/-- the frame grows -/
theorem Fd.push {ob : Obj} (h : Fd w g v N ⟨m, fr, sk⟩ o R v' E wr) (hg2 : (wr.alloc ob).grownBy w2 v'.ownBlock) (ho2 : Ow w2 0 5 v2 fr2) (hv2 : v2.ownBlock = v'.ownBlock ∨ v2.ownBlock = some (wr.alloc ob).heap.size) :
    w2.cell? ⟨g, 2, none⟩ = some v' ∧ w2.frozen? ⟨g, 2, none⟩ = false ∧ Fd w g v N ⟨m, fr2, sk⟩ o R v2 E (w2.setCell ⟨g, 2, none⟩ v2) := by
  have k02 : Only v'.ownBlock.toList wr w2 := (Only.of_below ((Below.refl _ wr).alloc (Nat.le_refl _) ob)).trans (Only.of_grown hg2) (fun x hx => .inl hx)
  have hc2 := h.fc.c.only k02 (by simpa using h.fc.apart)
  have hne2 : v2.ownBlock ≠ some g := ho2.apart hc2 (by decide)
  have k03 : Only (blk g v') wr (w2.setCell ⟨g, 2, none⟩ v2) := (k02.more (T := blk g v') (fun x hx => .inl (List.mem_cons_of_mem _ hx))).put (p := ⟨g, 2, none⟩) (.inl (by simp [blk])) _
  have hs := h.on.size
  have hblk : ∀ i ∈ blk g v2, i ∈ blk g v' ∨ wr.heap.size ≤ i := fun i hi => by
    rcases List.mem_cons.1 hi with rfl | hi
    · exact .inl (by simp [blk])
    · have hi : v2.ownBlock = some i := by simpa using hi
      rcases hv2 with e | e
      · exact .inl (by rw [e] at hi; simp [blk, hi])
      · rw [e] at hi
        injection hi with hi
        rw [World.size_alloc] at hi
        exact .inr (by omega)
  refine ⟨hc2.cell 2, hc2.free 2, ⟨⟨put2 hc2 v2, ownsRow_setCell_other ho2 (a := ⟨g, 2, none⟩) hne2 _⟩, h.lo.only k03 (h.fc.row h.lo) h.el, h.on.trans k03 h.nb, fun i hi => ?_, fun i hi hm => ?_⟩⟩
  · rcases hblk i hi with h1 | h1
    · exact h.nb i h1
    · exact .inr (by omega)
  · rcases hblk i hm with h1 | h1
    · exact h.el i hi h1
    · have := (h.lo.lt i hi).2; omega
/-- a whole frame is added -/
theorem Fd.frame {ob : Obj} {qs : List Qb} (h : Fd w g v N s o R v' E w3) (o4 : Ow w4 w3.heap.size 5 (.slice A n c) L) (hn : L.length = n) (b4 : Below w3.heap.size w3 w4)
    (he : qs.map (·.l) = o) (h3 : ∀ q ∈ qs, Ow (w4.alloc ob) w.heap.size 5 q.v q.l ∧ ∀ k, q.v.ownBlock = some k → k ∈ E) {row : Option Nat} (hR : R.ownBlock = row) (hg6 : (w4.alloc ob).grownBy w6 row) (ho6 : Row.Os enc 1 w6 w.heap.size 22 R2 (qs ++ [⟨L, A, c⟩])) :
    Fd w g v N s (o ++ [L]) R2 v' (E ++ (Value.slice A n c).ownBlock.toList) w6 := by
  subst hn
  have hs := h.on.size
  have b5 : Below w3.heap.size w3 (w4.alloc ob) := b4.alloc b4.size ob
  have l5 := h.lo.below b5
  have f5 : FC (w4.alloc ob) g v' N s := h.fc.only (S := []) (Only.of_below b5) (by simp)
  have k6 := Only.of_grown hg6
  have hrow : ∀ x ∈ blk g v', x ∉ row.toList := fun x hx hm => f5.row l5 x (by rw [hR]; simpa using hm) hx
  have e4 := toList_own (o4.alloc ob)
  refine ⟨f5.only k6 hrow, l5.app (by decide) he h3 (ls2 := [L]) (qs2 := [⟨L, A, c⟩]) rfl (fun q hq => ?_) (fun k hk => ⟨by have := (e4 k hk).1; omega, (e4 k hk).2⟩) hR hg6 ho6, ?_, h.nb, fun i hi hm => ?_⟩
  · obtain rfl := List.mem_singleton.1 hq
    exact ⟨(o4.alloc ob).more (by omega), fun k hk => by simpa [Qb.v] using hk⟩
  · refine (h.on.trans (Only.of_below (S := []) b5) (by simp)).trans k6 (fun x hx => .inr ?_)
    exact (l5.row_lt x (by rw [hR]; simpa using hx)).1
  · rcases List.mem_append.1 hi with hi | hi
    · exact h.el i hi hm
    · have h1 := (e4 i hi).1
      have h2 := h.fc.lt i hm
      omega
theorem Ow_zero {base : Nat} {e : TypeId} {l : List Byte} (h : Ow w base e (.slice A n c) l) : Ow w base e (.slice A 0 c) [] := by
  rcases h.2 with ⟨he, _⟩ | ⟨gr, cap, cur, he, hb, hg, hn, hm, hs, ht⟩
  · cases he; exact World.ownsRow_nil _ _ _ _
  · cases he
    exact ⟨rfl, .inr ⟨gr, c, cur, rfl, hb, hg, Nat.zero_le _, hm, hs, by simp⟩⟩
theorem Ow_some {base : Nat} {e : TypeId} {l : List Byte} (h : Ow w base e (.slice A n c) l) (hl : 0 < l.length) : ∃ gr, A = some ⟨gr, 0, none⟩ := by
  rcases h.2 with ⟨he, h0⟩ | ⟨gr, cap, cur, he, _⟩
  · omega
  · cases he; exact ⟨gr, rfl⟩
theorem blk_slice (A : Option Addr) (n n' c : Nat) : blk g (.slice A n c) = blk g (.slice A n' c) := by cases A <;> rfl
/-- the search goes on -/
theorem Fd.reset (h : Fd w g v N ⟨m, fr, sk⟩ o R (.slice A n c) E w6) : Fd w g v N ⟨0, [], sk⟩ o R (.slice A 0 c) E ((w6.setCell ⟨g, 2, none⟩ (.slice A 0 c)).setCell ⟨g, 1, none⟩ (.int .i64 0)) := by
  have k : Only [g] w6 ((w6.setCell ⟨g, 2, none⟩ (.slice A 0 c)).setCell ⟨g, 1, none⟩ (.int .i64 0)) := only_put (only_put (Only.refl _ _) _ _) _ _
  have ho := Ow_zero h.fc.o
  have hne : (Value.slice A 0 c).ownBlock ≠ some g := ho.apart h.fc.c (by decide)
  refine ⟨⟨put1 (put2 h.fc.c _) 0, ho.only k (fun i hi hm => hne (by rw [hi]; simpa using hm))⟩, h.lo.only k (fun i hi hm => h.fc.row h.lo i hi (by simp at hm; simp [blk, hm])) (fun i hi hm => h.el i hi (by simp at hm; simp [blk, hm])), h.on.trans k (by simp [blk]), ?_, ?_⟩
  · rw [blk_slice A 0 n c]; exact h.nb
  · rw [blk_slice A 0 n c]; exact h.el
end

/-- what is asked of Feed's argument: its block is none of the Finder's -/
def Bx (w : World) (g : Nat) (v : Value) (a : Option Addr) (l : List Byte) : Prop :=
  0 < l.length → ∃ b off, a = some ⟨b, off, none⟩ ∧ b < w.heap.size ∧ b ∉ blk g v ∧ ∀ i x, l[i]? = some x → w.cell? ⟨b, off + i, none⟩ = some (B8 x)
theorem Bx_of {w : World} {g B : Nat} {v : Value} {a : Option Addr} {l : List Byte} (h : Bs w B a l) (hB : B ≤ w.heap.size) (hd : ∀ x ∈ blk g v, B ≤ x) : Bx w g v a l := fun hl => by
  obtain ⟨b, off, rfl, hb, hc⟩ := h hl
  exact ⟨b, off, rfl, by omega, fun hm => by have := hd b hm; omega, hc⟩
theorem Bx.at_ {w wr : World} {g k : Nat} {v : Value} {a : Option Addr} {l : List Byte} (h : Bx w g v a l) (q : Only (blk g v) w wr) (hk : k < l.length) : ∃ b off, a = some ⟨b, off, none⟩ ∧ wr.cell? ⟨b, off + k, none⟩ = some (B8 l[k]) := by
  obtain ⟨b, off, rfl, hb, hn, hc⟩ := h (by omega)
  refine ⟨b, off, rfl, ?_⟩
  have := hc k _ (List.getElem?_eq_getElem hk)
  unfold World.cell? at this ⊢
  simp only [q.block b hb hn]
  exact this

set_option maxRecDepth 100000 in
set_option maxHeartbeats 4000000 in
theorem feed_any {w : World} {g N : Nat} {v : Value} {s : FS} (h : FW w g v N s) (a : Option Addr) (l : List Byte) (n c : Nat) (hl : Hid (l.length = n)) (hb : Bx w g v a l) (hm : n ≤ 1000000) (hk : s.sk ≤ 100000000000) :
    Calls Try.prog 11 #[.pointer (some ⟨g, 0, none⟩), .slice a n c] w fun e w' => ∃ R v' E, e = .returned R ∧ Fd w g v N (run N s l) (out N s l) R v' E w' ∧ FW w' g v' N (run N s l) := by
  have hw := works_any h
  have hN := h.n
  have hN2 := h.n2
  have hf := h.f
  have h0 := Fd.start h
  clear h
  go_enter Try.func11, Try.ntmps11
  go_wp2_with fail
  refine hw.mono ?_
  rintro e w1 ⟨rfl, rfl⟩
  clear hw
  go_wp2_with fail
  go_loopw [5, 13] (fun R i wr => ∃ (k : Nat) (v' : Value) (E : List Nat), k ≤ n ∧ i = .int .i64 (k : Int) ∧ Fd w g v N (run N s (l.take k)) (out N s (l.take k)) R v' E wr) (fun _ i _ => n - (intOf i).toNat)
  case atStart => exact ⟨0, v, [], Nat.zero_le _, rfl, h0⟩
  case round =>
    obtain ⟨k, v', E, hk', rfl, hd⟩ := hrel
    by_cases hkn : k < n
    · have hkl : k < l.length := by rw [hl.out]; exact hkn
      have hr := run_take (N := N) (s := s) hkl
      have ho := out_take (N := N) (s := s) hkl
      have hwf := Wf.run hN (l.take k) hf
      have hsk := run_sk hN (l.take k) hf
      have hol := out_len (N := N) (s := s) (l.take k)
      rw [List.length_take, Nat.min_eq_left (by omega)] at hsk hol
      obtain ⟨b, off, rfl, cx⟩ := hb.at_ hd.on hkl
      obtain ⟨X, hX⟩ : ∃ X, l[k] = X := ⟨_, rfl⟩
      rw [hX] at hr ho cx
      obtain ⟨O, hO⟩ : ∃ O, out N s (l.take k) = O := ⟨_, rfl⟩
      obtain ⟨⟨m, fr, sk⟩, hS⟩ : ∃ S, run N s (l.take k) = S := ⟨_, rfl⟩
      rw [hS] at hr ho hwf hsk hd
      rw [hO] at ho hol hd
      simp only at hsk
      have c1 := hd.fc.c.cell 1
      simp at c1
      have hsm := hf.m
      have HR := Lib.hid hr
      have HO := Lib.hid ho
      clear hr ho hS hO hX
      by_cases hm4 : m < 4
      · have t1 : decide ((m : Int) < 4) = true := by simp; omega
        have t1' : decide (m < 4) = true := by simpa using hm4
        have hfw : FW wr g v' N ⟨m, fr, sk⟩ := ⟨hd.fc.c, hd.fc.o, hN, hN2, hwf⟩
        have hsa := search_any hfw hm4 X (by simp only; omega)
        have ho' : ost N ⟨m, fr, sk⟩ X = [] := by unfold ost; rw [if_pos hm4]
        clear hfw
        go_wp2_with fail
        refine hsa.mono ?_
        rintro e w5 ⟨rfl, hf5, k5⟩
        go_wp2_with fail
        go_roundw
        case rel => exact ⟨k + 1, v', E, hkn, by go_num, by rw [HR.out, HO.out, ho', List.append_nil]; exact hd.search k5 hf5⟩
        case measure => simp [intOf]; omega
      · obtain rfl : m = 4 := by have := hwf.m; simp only at this; omega
        have t1 : decide ((4 : Int) < 4) = false := by decide
        obtain ⟨A1, k1, rfl, _⟩ := hd.fc.o.reads
        have c2 := hd.fc.c.cell 2
        simp at c2
        have hfl : fr.length < N := hwf.l
        obtain ⟨M, hM⟩ : ∃ M, (fr ++ [X]).length = M := ⟨_, rfl⟩
        have hM1 : fr.length + 1 = M := by rw [← hM]; simp
        have HM := Lib.hid hM
        clear hM
        by_cases hMN : M = N
        · subst hMN
          have hst : step M ⟨4, fr, sk⟩ X = ⟨0, [], sk⟩ := by unfold step; rw [if_neg hm4, if_pos hM1]
          have hos : ost M ⟨4, fr, sk⟩ X = [app (fr ++ [X])] := by unfold ost; rw [if_neg hm4, if_pos hM1]
          rw [hst] at HR
          rw [hos] at HO
          have t2 : ((M : Int) == (M : Int)) = true := by simp
          have HL : Hid ((app (fr ++ [X])).length = M) := Lib.hid (by rw [app_len]; exact HM.out)
          clear hst hos hM1 hm4
          go_wp2_with (at_builtin; refine wpList_appAt _ is_bytes rfl (.tmp 29) (.tmp 31) rfl (m := fr) rfl (hd.fc.o.alloc _) (l := [X]) rfl (Bs_new1 wr 5 _ _ rfl) (by simp) (by simp; omega) (by simp) ?_; intro v2 w2 ho2 hg2 hv2; obtain ⟨A2, k2, rfl, _⟩ := ho2.reads_len HM.out; obtain ⟨q2, q3, hd2⟩ := hd.push hg2 ho2 hv2; have e0 := hd2.fc.c.cell 0; have e2 := hd2.fc.c.cell 2; simp at e0 e2)
          go_quiet (fail)
          have hd3 := hd2.draws nq
          obtain ⟨W3, hW3⟩ : ∃ W3, W3 = (w2.setCell ⟨g, 2, none⟩ (.slice A2 M k2)).drewN nq := ⟨_, rfl⟩
          rw [← hW3] at hd3
          have r2 : W3.cell? ⟨g, 2, none⟩ = some (.slice A2 M k2) := hd3.fc.c.cell 2
          obtain ⟨gr, rfl⟩ := Ow_some hd3.fc.o (by rw [HM.out]; exact hN)
          obtain ⟨_, _, he, hB3, _⟩ := hd3.fc.o.reads_len HM.out
          cases he
          have hap := apply_any _ (fr ++ [X]) M k2 W3 HM hB3 (by omega)
          clear e0 q2 q3 hd2 hB3 ho2 hg2 hv2 c1 c2 cx
          go_wp2_with fail
          rw [← hW3]
          refine hap.mono ?_
          rintro e w4 ⟨v4, rfl, o4, b4⟩
          obtain ⟨A4, k4, rfl, _⟩ := o4.reads_len HL.out
          obtain ⟨qs, AR, kR, rfl, hqn, hqe, hqo, hqr, hqz, hq3⟩ := (hd3.lo.below b4).parts (n := O.length) rfl
          go_wp2_with (at_builtin; refine wpList_row _ enc_ok is_lists (by decide) rfl (.tmp 45) (.tmp 51) rfl rfl (hqo.alloc _) (l := [⟨app (fr ++ [X]), A4, k4⟩]) (n := 1) rfl rfl (Rs_new1 enc_ok w4 _ _ _ (by simp only [enc, HL.out])) (by simp) (by rw [hqn]; simp; omega) (by have := b4.size; have := hd3.on.size; simp; omega) ?_; intro R2 w6 ho6 hg6 hr6; have hd6 := hd3.frame o4 HL.out b4 hqe (fun q hq => ⟨(hq3 q hq).1.alloc _, (hq3 q hq).2⟩) rfl hg6 ho6; have g2 := hd6.fc.c.cell 2; have g1 := hd6.fc.c.cell 1; have f2 := hd6.fc.c.free 2; have f1 := hd6.fc.c.free 1; simp at g1 g2)
          go_roundw
          case rel => exact ⟨k + 1, .slice (some ⟨gr, 0, none⟩) 0 k2, _, hkn, by go_num, by rw [HR.out, HO.out]; exact hd6.reset⟩
          case measure => simp [intOf]; omega
        · have hst : step N ⟨4, fr, sk⟩ X = ⟨4, fr ++ [X], sk⟩ := by unfold step; rw [if_neg hm4, if_neg (by simp only; omega)]
          have hos : ost N ⟨4, fr, sk⟩ X = [] := by unfold ost; rw [if_neg hm4, if_neg (by simp only; omega)]
          rw [hst] at HR
          rw [hos, List.append_nil] at HO
          have t2 : ((M : Int) == (N : Int)) = false := by simp; omega
          clear hst hos hM1 hm4
          go_wp2_with (at_builtin; refine wpList_appAt _ is_bytes rfl (.tmp 29) (.tmp 31) rfl (m := fr) rfl (hd.fc.o.alloc _) (l := [X]) rfl (Bs_new1 wr 5 _ _ rfl) (by simp) (by simp; omega) (by simp) ?_; intro v2 w2 ho2 hg2 hv2; obtain ⟨A2, k2, rfl, _⟩ := ho2.reads_len HM.out; obtain ⟨q2, q3, hd2⟩ := hd.push hg2 ho2 hv2; have e0 := hd2.fc.c.cell 0; have e2 := hd2.fc.c.cell 2; simp at e0 e2)
          go_quiet (fail)
          go_wp2_with fail
          go_roundw
          case rel => exact ⟨k + 1, .slice A2 M k2, E, hkn, by go_num, by rw [HR.out, HO.out]; exact hd2.draws _⟩
          case measure => simp [intOf]; omega
    · obtain rfl : k = n := by omega
      rw [List.take_of_length_le (Nat.le_of_eq hl.out)] at hd
      have hwf := Wf.run hN l hf
      go_wp2
      go_ret
      exact ⟨_, v', E, rfl, hd, ⟨hd.fc.c, hd.fc.o, hN, hN2, hwf⟩⟩
end Go.Proofs.Ytahpogmbkkpmdaa.Mar
