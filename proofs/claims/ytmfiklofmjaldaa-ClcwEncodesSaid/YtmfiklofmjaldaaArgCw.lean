/-
  An argument opened: an api.Clcw by value.
-/
import Derived.Test.YtmfiklofmjaldaaRows
import Derived.Test.YtmfiklofmjaldaaArgAgg
namespace Go.Proofs.Ytmfiklofmjaldaa
open Go.RowKit Go.ChangeShapes Go.WideShapes Go.Deep

theorem open_clcw {H : Type} {enc : TypeId × Value → H} {w : World} {base : Nat} {held : Bool} {r : Reach} {b0 : Nat} {v : Value} {d : DataW H} {ps : List MemPlace} (hval : Value.okWide Try.prog w r b0 23 v)
    (hd : DataW.Trod enc Try.prog w base (fun _ => true) held 23 v d ps) :
    ∃ (ch : Int) (lk wt rt : Bool) (bp nx : Int), v = .agg #[.int .i64 ch, .bool lk, .bool wt, .bool rt, .int .i64 bp, .int .i64 nx] := by
  obtain ⟨cs, rfl, hsz, n, hf⟩ := open_agg_any Try.underlying23 (hone_of (by kernel_rfl)) (by kernel_rfl) hval hd
  have h6 := array6 (hsz.trans rfl)
  obtain ⟨y0, t0⟩ := hf 0 _ rfl
  obtain ⟨y1, t1⟩ := hf 1 _ rfl
  obtain ⟨y2, t2⟩ := hf 2 _ rfl
  obtain ⟨y3, t3⟩ := hf 3 _ rfl
  obtain ⟨y4, t4⟩ := hf 4 _ rfl
  obtain ⟨y5, t5⟩ := hf 5 _ rfl
  obtain ⟨x0, e0, _⟩ := DataW.trod_int Try.underlying3 t0
  obtain ⟨x1, e1, _⟩ := DataW.trod_bool Try.underlying4 t1
  obtain ⟨x2, e2, _⟩ := DataW.trod_bool Try.underlying4 t2
  obtain ⟨x3, e3, _⟩ := DataW.trod_bool Try.underlying4 t3
  obtain ⟨x4, e4, _⟩ := DataW.trod_int Try.underlying3 t4
  obtain ⟨x5, e5, _⟩ := DataW.trod_int Try.underlying3 t5
  injection e0 with e0
  injection e1 with e1
  injection e2 with e2
  injection e3 with e3
  injection e4 with e4
  injection e5 with e5
  rw [e0, e1, e2, e3, e4, e5] at h6
  exact ⟨x0, x1, x2, x3, x4, x5, by rw [h6]⟩
end Go.Proofs.Ytmfiklofmjaldaa
