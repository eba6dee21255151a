/-
  Package queue: insert, Push, Remove, Peek, Pop.
-/
import Derived.Deep.QuietTactic
import Derived.BigQuiet
import Derived.BigRegion
import Derived.Test.YtnnjmlpanbbanaaQueW1
import Derived.Test.YtnnjmlpanbbanaaQueDel
import Derived.Test.YtnnjmlpanbbanaaQueIns2
namespace Go.Proofs.Ytnnjmlpanbbanaa.Rng.Que
open Go.RowKit Go.Shelf

theorem sinsert_any (FA FB : List R) (y x : R) (w : World) (base vb : Nat) (v : Value) (i : Int) (hi : i = FA.length) (h : Os w base 61 v (FA ++ y :: FB))
    (hv : Cel w vb 61 #[I x.1, I x.2]) (hvb : v.ownBlock ≠ some vb) (hb : base ≤ w.heap.size) (hl : (FA ++ y :: FB).length ≤ 1000000) :
    Calls Try.prog 34 #[v, I i, .slice (some ⟨vb, 0, none⟩) 1 1] w fun e w' =>
      ∃ v', e = .returned v' ∧ Os w' base 61 v' (FA ++ x :: y :: FB) ∧ (v'.ownBlock = v.ownBlock ∨ ∃ i, v'.ownBlock = some i ∧ w.heap.size ≤ i) ∧ Only v.ownBlock.toList w w' := by
  obtain ⟨g, c, rfl, hbg, hR⟩ := Os_row h (by simp; omega)
  have hne : vb ≠ g := fun e => hvb (by rw [e]; rfl)
  by_cases hroom : (FA ++ y :: FB).length + 1 ≤ c
  · refine (sinsert_room FA (y :: FB) x w g c vb i hi hR (by simp) hv hne hroom hl).mono ?_
    rintro e w' ⟨rfl, hR', hO⟩
    exact ⟨_, rfl, hR'.os hbg, .inl rfl, hO⟩
  · refine (sinsert_grow FA (y :: FB) x w g c vb i hi hR (by simp) hv (by omega) hl).mono ?_
    rintro e w' ⟨c', rfl, hR', hO⟩
    exact ⟨_, rfl, hR'.os hb, .inr ⟨_, rfl, Nat.le_refl _⟩, hO.more (by simp)⟩

theorem ins_split {x z : R} : ∀ {A B : List R}, (∀ y ∈ A, ¬ x.1 < y.1) → x.1 < z.1 → ins x (A ++ z :: B) = A ++ x :: z :: B
  | [], B, _, h => by simp [ins, h]
  | y :: A, B, hA, h => by
    have h0 := hA y (by simp)
    simp [ins, h0, ins_split (A := A) (B := B) (fun u hu => hA u (List.mem_cons_of_mem _ hu)) h]
theorem rm_split {i : Int} {z : R} : ∀ {A B : List R}, (∀ y ∈ A, y.2 ≠ i) → z.2 = i → rm i (A ++ z :: B) = A ++ B
  | [], B, _, h => by simp [rm, h]
  | y :: A, B, hA, h => by
    have h0 := hA y (by simp)
    simp [rm, h0, rm_split (A := A) (B := B) (fun u hu => hA u (List.mem_cons_of_mem _ hu)) h]

set_option maxHeartbeats 2000000 in
theorem insert_any (x : R) (L : List R) (w : World) (base : Nat) (v : Value) (h : Os w base 61 v L) (hb : base ≤ w.heap.size) (hl : L.length ≤ 10000) :
    Calls Try.prog 26 #[v, .agg #[I x.1, I x.2], .func (.func 27) #[] #[]] w fun e w' =>
      ∃ v', e = .returned v' ∧ Os w' base 61 v' (ins x L) ∧ (v'.ownBlock = v.ownBlock ∨ ∃ i, v'.ownBlock = some i ∧ w.heap.size ≤ i) ∧ Only v.ownBlock.toList w w' := by
  have hlt := h.lt
  obtain ⟨A, c, rfl, hr, hn, hc1, hc2⟩ := h.reads
  obtain ⟨w2, hw2⟩ : ∃ w2, w2 = (w.alloc (.cells #[I x.1, I x.2] 61)).alloc (.cells #[.func (.func 27) #[] #[]] 62) := ⟨_, rfl⟩
  have b2 : Below w.heap.size w w2 := by rw [hw2]; exact ((Below.refl _ w).alloc (Nat.le_refl _) _).alloc (by simp) _
  have hs2 : w2.heap.size = w.heap.size + 2 := by rw [hw2]; simp
  have cx : Cel w2 w.heap.size 61 #[I x.1, I x.2] := by
    rw [hw2]; exact (Cel.new w _ _).only ((Only.refl [] _).alloc _) (by simp)
  have cf : Cel w2 (w.heap.size + 1) 62 #[.func (.func 27) #[] #[]] := by
    rw [hw2]
    have := Cel.new (w.alloc (.cells #[I x.1, I x.2] 61)) 62 #[.func (.func 27) #[] #[]]
    simpa using this
  have eg : ∀ args w, (callFunc 33 args).run Try.prog w = .ok (.enter 33 args) w := enters_of Try.func33 (by kernel_rfl) rfl
  have hcon := indexFunc_any (fun y => decide (x.1 < y.1)) 33 #[.pointer (some ⟨w.heap.size + 1, 0, none⟩), .pointer (some ⟨w.heap.size, 0, none⟩)] eg L w2 A c ((hr.below b2).more b2.size)
    (insert1_any x (w.heap.size + 1) w.heap.size w2 (by simpa using cf.cell 0) (by simpa using cx.cell 0) (by simpa using cx.cell 1) cf.lt cx.lt) (by omega)
  have ho2 : Os w2 base 61 (.slice A L.length c) L := h.below b2
  obtain ⟨p, q⟩ := x
  obtain ⟨F, hF⟩ : ∃ F, F = ins (p, q) L := ⟨_, rfl⟩
  rw [← hF]
  have HF := Lib.hid hF
  clear hF eg cf hr h
  dsimp only at hcon hw2 cx ⊢
  go_enter Try.func26, Try.ntmps26
  go_wp2_with fail
  rw [← hw2]
  refine hcon.mono ?_
  rintro e w3 ⟨r, rfl, hf, hb3⟩
  have b3 : Below w.heap.size w w3 := b2.trans (hb3.mono b2.size)
  have hsz3 := hb3.size
  have cx3 : Cel w3 w.heap.size 61 #[I p, I q] := (hb3.block _ cx.lt).trans cx
  have ho3 : Os w3 base 61 (.slice A L.length c) L := ho2.below hb3
  have x0 : w3.cell? ⟨w.heap.size, 0, none⟩ = some (I p) := cx3.cell 0
  have x1 : w3.cell? ⟨w.heap.size, 1, none⟩ = some (I q) := cx3.cell 1
  have hO3 : Only [] w w3 := Only.of_below b3
  have hsw : w.heap.size ≤ w3.heap.size := b3.size
  clear hcon hw2 cx ho2
  rcases hf.out with ⟨rfl, hno⟩ | ⟨FA, z, FB, hsp, rfl, hz, hno⟩
  · have hfin : F = L ++ [(p, q)] := by rw [HF.out]; exact ins_end (x := (p, q)) fun y hy => by simpa using hno y hy
    have HF2 := Lib.hid hfin
    clear hno hfin hf
    go_wp2_with (at_builtin; refine wpList_rapp _ is_entries rfl (.tmp 13) (.tmp 15) rfl rfl (ho3.alloc _) (l := [(p, q)]) rfl (Rs_new1 _ _ _ _) (by simp) (by simp; omega) (by simp; omega) ?_; intro v4 w4 hown4 hg4 hv4)
    go_ret
    refine ⟨_, rfl, by rw [HF2.out]; exact hown4, hv4.imp id fun h => ⟨_, h, by simp; omega⟩, ?_⟩
    exact ((hO3.alloc _).more (by simp)).trans (Only.of_grown hg4) (fun _ h => .inl h)
  · have hfin : F = FA ++ (p, q) :: z :: FB := by rw [HF.out, hsp]; exact ins_split (x := (p, q)) (fun y hy => by simpa using hno y hy) (by simpa using hz)
    have HF2 := Lib.hid hfin
    have hcall := fun (W : World) (vb : Nat) (hv) (hne) (hO : Os W base 61 (.slice A L.length c) (FA ++ z :: FB)) (hbW) => sinsert_any FA FB z (p, q) W base vb (.slice A L.length c) FA.length rfl hO hv hne hbW (by rw [← hsp]; omega)
    have ho3' : Os (w3.alloc (.cells #[I p, I q] 61)) base 61 (.slice A L.length c) (FA ++ z :: FB) := by rw [← hsp]; exact ho3.alloc _
    have hcall2 := hcall (w3.alloc (.cells #[I p, I q] 61)) w3.heap.size (Cel.new w3 _ _) (fun e => by have := (ho3.lt _ e).2; omega) ho3' (by simp; omega)
    have hk0 : ¬ ((FA.length : Int) < 0) := by omega
    clear hno hfin hf hsp hcall ho3'
    obtain ⟨K, hK⟩ : ∃ K, K = FA.length := ⟨_, rfl⟩
    rw [← hK] at hcall2 hk0 ⊢
    clear hK
    go_wp2_with fail
    refine hcall2.mono ?_
    rintro e w4 ⟨v4, rfl, hown4, hv4, hO4⟩
    go_wp2_with fail
    go_ret
    refine ⟨_, rfl, by rw [HF2.out]; exact hown4, hv4.imp id fun ⟨i, h, hi⟩ => ⟨i, h, by simp at hi; omega⟩, ?_⟩
    exact ((hO3.alloc _).more (by simp)).trans hO4 (fun _ h => .inl h)
end Go.Proofs.Ytnnjmlpanbbanaa.Rng.Que
