/-
  Package pdu: require, and the fields of an encoding: number, signed, count, blob: each returns what is read, or panics.
-/
import Derived.Test.YtjjfamkljcipgaaPduW4
import Derived.Test.YtjjfamkljcipgaaOctR2
import Derived.WalkLawsBesides
namespace Go.Proofs.Ytjjfamkljcipgaa.Pdu
open Go.RowKit Go.Proofs.Ytjjfamkljcipgaa.Row

/-- the panic by which a malformed field is reported -/
abbrev mal : List PanicEntry := [{ v := .iface 77 (.agg #[]), recovered := false }]

set_option maxHeartbeats 400000 in
theorem req_yes (w : World) : Calls Try.prog 39 #[.bool true] w fun e w' => e = .returned (.tuple #[]) ∧ w = w' := by
  go_enter Try.func39, Try.ntmps39
  go_wp2
  go_end0
  exact ⟨rfl, rfl⟩
set_option maxHeartbeats 400000 in
theorem req_no (w : World) : Calls Try.prog 39 #[.bool false] w fun e w' => e = .panicked mal ∧ w = w' := by
  go_enter Try.func39, Try.ntmps39
  go_wp2
  exact ⟨rfl, rfl, rfl⟩

section
variable {w w' : World} {B g : Nat} {st : Option (List Byte)} {l r : List Byte}
theorem box_only (w : World) (S : List Nat) (o : Obj) : Only S w (w.alloc o) := (Only.refl S w).alloc o
theorem OR.box (h : OR w B g st) (o : Obj) : OR (w.alloc o) B g st := h.below (bel_new w o)
set_option maxHeartbeats 1000000 in
theorem num_yes (k v : Nat) (h : OR w B g (some l)) (ht : tU k l = some (v, r)) (hv : v < 4294967296) (hL : l.length < 1000000) :
    Calls Try.prog 56 #[.agg #[.pointer (some ⟨g, 0, none⟩)], .int .i64 (k : Int)] w fun e w' => e = .returned (I (v : Int)) ∧ OR w' B g (some r) ∧ Only [g] w w' := by
  have hr := oruint_any _ B g (some l) (k : Int) (OR.box h (.cells #[.pointer (some ⟨g, 0, none⟩)] 60)) hL
  rw [rd_tU, ht] at hr
  have hs := h.lt.2
  have hC := Cel.new w 60 #[.pointer (some ⟨g, 0, none⟩)]
  have bo := box_only w [g] (.cells #[.pointer (some ⟨g, 0, none⟩)] 60)
  skip
  clear ht hL h
  go_enter Try.func56, Try.ntmps56
  go_wp2_with fail
  refine hr.mono ?_
  rintro e w1 ⟨rfl, ho, k⟩
  have hF := orFailed w1 B g _ ho
  have hC1 := hC.only k (by simp; omega)
  have c0 := hC1.cell 0
  simp only [List.getElem?_toArray, List.getElem?_cons_zero] at c0
  have K := bo.trans k (fun x hx => .inl hx)
  clear hr hC hC1 k bo
  go_wp2_with fail
  refine hF.mono ?_
  rintro e w2 ⟨rfl, rfl⟩
  clear hF
  go_wp2_with fail
  refine (req_yes _).mono ?_
  rintro e w2 ⟨rfl, rfl⟩
  go_wp2
  go_ret
  exact ⟨ret_int (by omega), ho, K⟩
set_option maxHeartbeats 1000000 in
theorem num_no (k : Nat) (h : OR w B g (some l)) (ht : tU k l = none) (hL : l.length < 1000000) :
    Calls Try.prog 56 #[.agg #[.pointer (some ⟨g, 0, none⟩)], .int .i64 (k : Int)] w fun e w' => e = .panicked mal ∧ Only [g] w w' := by
  have hr := oruint_any _ B g (some l) (k : Int) (OR.box h (.cells #[.pointer (some ⟨g, 0, none⟩)] 60)) hL
  rw [rd_tU, ht] at hr
  have hs := h.lt.2
  have hC := Cel.new w 60 #[.pointer (some ⟨g, 0, none⟩)]
  have bo := box_only w [g] (.cells #[.pointer (some ⟨g, 0, none⟩)] 60)
  skip
  clear ht hL h
  go_enter Try.func56, Try.ntmps56
  go_wp2_with fail
  refine hr.mono ?_
  rintro e w1 ⟨rfl, ho, k⟩
  have hF := orFailed w1 B g _ ho
  have hC1 := hC.only k (by simp; omega)
  have c0 := hC1.cell 0
  simp only [List.getElem?_toArray, List.getElem?_cons_zero] at c0
  have K := bo.trans k (fun x hx => .inl hx)
  clear hr hC hC1 k bo
  go_wp2_with fail
  refine hF.mono ?_
  rintro e w2 ⟨rfl, rfl⟩
  clear hF
  go_wp2_with fail
  refine (req_no _).mono ?_
  rintro e w2 ⟨rfl, rfl⟩
  exact ⟨rfl, rfl, K⟩
set_option maxHeartbeats 1000000 in
theorem sgn_yes (v : Int) (h : OR w B g (some l)) (ht : tI l = some (v, r)) (hL : l.length < 1000000) :
    Calls Try.prog 57 #[.agg #[.pointer (some ⟨g, 0, none⟩)]] w fun e w' => e = .returned (I v) ∧ OR w' B g (some r) ∧ Only [g] w w' := by
  have hr := orint_any _ B g (some l) (OR.box h (.cells #[.pointer (some ⟨g, 0, none⟩)] 60)) hL
  rw [rd_tI, ht] at hr
  have hs := h.lt.2
  have hC := Cel.new w 60 #[.pointer (some ⟨g, 0, none⟩)]
  have bo := box_only w [g] (.cells #[.pointer (some ⟨g, 0, none⟩)] 60)
  skip
  clear ht hL h
  go_enter Try.func57, Try.ntmps57
  go_wp2_with fail
  refine hr.mono ?_
  rintro e w1 ⟨rfl, ho, k⟩
  have hF := orFailed w1 B g _ ho
  have hC1 := hC.only k (by simp; omega)
  have c0 := hC1.cell 0
  simp only [List.getElem?_toArray, List.getElem?_cons_zero] at c0
  have K := bo.trans k (fun x hx => .inl hx)
  clear hr hC hC1 k bo
  go_wp2_with fail
  refine hF.mono ?_
  rintro e w2 ⟨rfl, rfl⟩
  clear hF
  go_wp2_with fail
  refine (req_yes _).mono ?_
  rintro e w2 ⟨rfl, rfl⟩
  go_wp2
  go_ret
  exact ⟨rfl, ho, K⟩
set_option maxHeartbeats 1000000 in
theorem sgn_no (h : OR w B g (some l)) (ht : tI l = none) (hL : l.length < 1000000) :
    Calls Try.prog 57 #[.agg #[.pointer (some ⟨g, 0, none⟩)]] w fun e w' => e = .panicked mal ∧ Only [g] w w' := by
  have hr := orint_any _ B g (some l) (OR.box h (.cells #[.pointer (some ⟨g, 0, none⟩)] 60)) hL
  rw [rd_tI, ht] at hr
  have hs := h.lt.2
  have hC := Cel.new w 60 #[.pointer (some ⟨g, 0, none⟩)]
  have bo := box_only w [g] (.cells #[.pointer (some ⟨g, 0, none⟩)] 60)
  skip
  clear ht hL h
  go_enter Try.func57, Try.ntmps57
  go_wp2_with fail
  refine hr.mono ?_
  rintro e w1 ⟨rfl, ho, k⟩
  have hF := orFailed w1 B g _ ho
  have hC1 := hC.only k (by simp; omega)
  have c0 := hC1.cell 0
  simp only [List.getElem?_toArray, List.getElem?_cons_zero] at c0
  have K := bo.trans k (fun x hx => .inl hx)
  clear hr hC hC1 k bo
  go_wp2_with fail
  refine hF.mono ?_
  rintro e w2 ⟨rfl, rfl⟩
  clear hF
  go_wp2_with fail
  refine (req_no _).mono ?_
  rintro e w2 ⟨rfl, rfl⟩
  exact ⟨rfl, rfl, K⟩
set_option maxHeartbeats 1000000 in
theorem cnt_yes (most v : Int) (h : OR w B g (some l)) (ht : tC most l = some (v, r)) (hL : l.length < 1000000) :
    Calls Try.prog 70 #[.agg #[.pointer (some ⟨g, 0, none⟩)], .int .i64 most] w fun e w' => e = .returned (I v) ∧ OR w' B g (some r) ∧ Only [g] w w' := by
  have hr := orcount_any _ B g (some l) most (OR.box h (.cells #[.pointer (some ⟨g, 0, none⟩)] 60)) hL
  rw [rd_tC, ht] at hr
  have hs := h.lt.2
  have hC := Cel.new w 60 #[.pointer (some ⟨g, 0, none⟩)]
  have bo := box_only w [g] (.cells #[.pointer (some ⟨g, 0, none⟩)] 60)
  skip
  clear ht hL h
  go_enter Try.func70, Try.ntmps70
  go_wp2_with fail
  refine hr.mono ?_
  rintro e w1 ⟨rfl, ho, k⟩
  have hF := orFailed w1 B g _ ho
  have hC1 := hC.only k (by simp; omega)
  have c0 := hC1.cell 0
  simp only [List.getElem?_toArray, List.getElem?_cons_zero] at c0
  have K := bo.trans k (fun x hx => .inl hx)
  clear hr hC hC1 k bo
  go_wp2_with fail
  refine hF.mono ?_
  rintro e w2 ⟨rfl, rfl⟩
  clear hF
  go_wp2_with fail
  refine (req_yes _).mono ?_
  rintro e w2 ⟨rfl, rfl⟩
  go_wp2
  go_ret
  exact ⟨rfl, ho, K⟩
set_option maxHeartbeats 1000000 in
theorem cnt_no (most : Int) (h : OR w B g (some l)) (ht : tC most l = none) (hL : l.length < 1000000) :
    Calls Try.prog 70 #[.agg #[.pointer (some ⟨g, 0, none⟩)], .int .i64 most] w fun e w' => e = .panicked mal ∧ Only [g] w w' := by
  have hr := orcount_any _ B g (some l) most (OR.box h (.cells #[.pointer (some ⟨g, 0, none⟩)] 60)) hL
  rw [rd_tC, ht] at hr
  have hs := h.lt.2
  have hC := Cel.new w 60 #[.pointer (some ⟨g, 0, none⟩)]
  have bo := box_only w [g] (.cells #[.pointer (some ⟨g, 0, none⟩)] 60)
  skip
  clear ht hL h
  go_enter Try.func70, Try.ntmps70
  go_wp2_with fail
  refine hr.mono ?_
  rintro e w1 ⟨rfl, ho, k⟩
  have hF := orFailed w1 B g _ ho
  have hC1 := hC.only k (by simp; omega)
  have c0 := hC1.cell 0
  simp only [List.getElem?_toArray, List.getElem?_cons_zero] at c0
  have K := bo.trans k (fun x hx => .inl hx)
  clear hr hC hC1 k bo
  go_wp2_with fail
  refine hF.mono ?_
  rintro e w2 ⟨rfl, rfl⟩
  clear hF
  go_wp2_with fail
  refine (req_no _).mono ?_
  rintro e w2 ⟨rfl, rfl⟩
  exact ⟨rfl, rfl, K⟩
set_option maxHeartbeats 1000000 in
theorem blob_yes (most : Int) (v : List Byte) (h : OR w B g (some l)) (ht : tB most l = some (v, r)) (hL : l.length < 1000000) :
    Calls Try.prog 58 #[.agg #[.pointer (some ⟨g, 0, none⟩)], .int .i64 most] w fun e w' => (∃ x s, e = .returned x ∧ Ow w' s 5 x v) ∧ OR w' B g (some r) ∧ Only [g] w w' := by
  have hr := orblob_any _ B g (some l) most (OR.box h (.cells #[.pointer (some ⟨g, 0, none⟩)] 60)) hL
  rw [rd_tB, ht] at hr
  have hs := h.lt.2
  have hC := Cel.new w 60 #[.pointer (some ⟨g, 0, none⟩)]
  have bo := box_only w [g] (.cells #[.pointer (some ⟨g, 0, none⟩)] 60)
  skip
  clear ht hL h
  go_enter Try.func58, Try.ntmps58
  go_wp2_with fail
  refine hr.mono ?_
  rintro e w1 ⟨⟨v, s, rfl, how⟩, ho, k⟩
  have hF := orFailed w1 B g _ ho
  have hC1 := hC.only k (by simp; omega)
  have c0 := hC1.cell 0
  simp only [List.getElem?_toArray, List.getElem?_cons_zero] at c0
  have K := bo.trans k (fun x hx => .inl hx)
  clear hr hC hC1 k bo
  go_wp2_with fail
  refine hF.mono ?_
  rintro e w2 ⟨rfl, rfl⟩
  clear hF
  go_wp2_with fail
  refine (req_yes _).mono ?_
  rintro e w2 ⟨rfl, rfl⟩
  go_wp2
  go_ret
  exact ⟨⟨_, s, rfl, how⟩, ho, K⟩
set_option maxHeartbeats 1000000 in
theorem blob_no (most : Int) (h : OR w B g (some l)) (ht : tB most l = none) (hL : l.length < 1000000) :
    Calls Try.prog 58 #[.agg #[.pointer (some ⟨g, 0, none⟩)], .int .i64 most] w fun e w' => e = .panicked mal ∧ Only [g] w w' := by
  have hr := orblob_any _ B g (some l) most (OR.box h (.cells #[.pointer (some ⟨g, 0, none⟩)] 60)) hL
  rw [rd_tB, ht] at hr
  have hs := h.lt.2
  have hC := Cel.new w 60 #[.pointer (some ⟨g, 0, none⟩)]
  have bo := box_only w [g] (.cells #[.pointer (some ⟨g, 0, none⟩)] 60)
  skip
  clear ht hL h
  go_enter Try.func58, Try.ntmps58
  go_wp2_with fail
  refine hr.mono ?_
  rintro e w1 ⟨⟨v, s, rfl, how⟩, ho, k⟩
  clear how
  have hF := orFailed w1 B g _ ho
  have hC1 := hC.only k (by simp; omega)
  have c0 := hC1.cell 0
  simp only [List.getElem?_toArray, List.getElem?_cons_zero] at c0
  have K := bo.trans k (fun x hx => .inl hx)
  clear hr hC hC1 k bo
  go_wp2_with fail
  refine hF.mono ?_
  rintro e w2 ⟨rfl, rfl⟩
  clear hF
  go_wp2_with fail
  refine (req_no _).mono ?_
  rintro e w2 ⟨rfl, rfl⟩
  exact ⟨rfl, rfl, K⟩
end
end Go.Proofs.Ytjjfamkljcipgaa.Pdu
