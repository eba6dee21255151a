/-
  An argument opened: an api.TcFrame by value.
-/
import Derived.Test.YtdichdoabhabjaaRows
import Derived.Test.YtdichdoabhabjaaArgAgg
namespace Go.Proofs.Ytdichdoabhabjaa
open Go.RowKit Go.ChangeShapes Go.WideShapes Go.Deep

theorem open_tcframe {H : Type} {enc : TypeId × Value → H} {w : World} {base : Nat} {held : Bool} {r : Reach} {b0 : Nat} {v : Value} {d : DataW H} {ps : List MemPlace} (hval : Value.okWide Try.prog w r b0 24 v)
    (hd : DataW.Trod enc Try.prog w base (fun _ => true) held 24 v d ps) :
    ∃ (com sec : Bool) (ap fl ct : Int) (a : Option Addr) (l : List Byte) (c : Nat), v = .agg #[.bool com, .bool sec, .int .i64 ap, .int .i64 fl, .int .i64 ct, .slice a l.length c] ∧ Bs w w.heap.size a l ∧ (a = none → c = 0) ∧ l.length ≤ c ∧ c ≤ maxLen := by
  obtain ⟨cs, rfl, hsz, n, hf⟩ := open_agg_any Try.underlying24 (hone_of (by kernel_rfl)) (by kernel_rfl) hval hd
  have h6 := array6 (hsz.trans rfl)
  obtain ⟨y0, t0⟩ := hf 0 _ rfl
  obtain ⟨y1, t1⟩ := hf 1 _ rfl
  obtain ⟨y2, t2⟩ := hf 2 _ rfl
  obtain ⟨y3, t3⟩ := hf 3 _ rfl
  obtain ⟨y4, t4⟩ := hf 4 _ rfl
  obtain ⟨y5, t5⟩ := hf 5 _ rfl
  obtain ⟨x0, e0, _⟩ := DataW.trod_bool Try.underlying4 t0
  obtain ⟨x1, e1, _⟩ := DataW.trod_bool Try.underlying4 t1
  obtain ⟨x2, e2, _⟩ := DataW.trod_int Try.underlying3 t2
  obtain ⟨x3, e3, _⟩ := DataW.trod_int Try.underlying3 t3
  obtain ⟨x4, e4, _⟩ := DataW.trod_int Try.underlying3 t4
  obtain ⟨a, l, c, e5, hb, hn, hl, hm⟩ := open_bytes_cell Try.underlying22 Try.underlying5 (by kernel_rfl) t5
  injection e0 with e0
  injection e1 with e1
  injection e2 with e2
  injection e3 with e3
  injection e4 with e4
  rw [e0, e1, e2, e3, e4, e5] at h6
  exact ⟨x0, x1, x2, x3, x4, a, l, c, by rw [h6], hb, hn, hl, hm⟩
end Go.Proofs.Ytdichdoabhabjaa
