/-
  The laws of layer 9 at the rows' arguments: slices of ints.
-/
import Derived.Test.YtnkbilbaljdfgaaLaw09d
import Derived.Test.YtnkbilbaljdfgaaLaw09e
import Derived.Test.YtnkbilbaljdfgaaIntArg
namespace Go.Proofs.Ytnkbilbaljdfgaa.His
open Go.RowKit Ints

theorem historyNewest_row {w : World} {a : Option Addr} {len cap : Nat} {zs : List Int} (m : Int) (h : IsRow .i64 w a len cap zs) :
    Calls Try.prog 4 #[I m, .slice a len cap] w fun e w' => e = .returned (.bool true) ∧ Below w.heap.size w w' := by
  obtain ⟨l, rfl, hn, h0, h1, _⟩ := IsRow.ints h
  exact historyNewest_walk m l w a cap hn h0 h1
theorem historyClones_row {w : World} {a b : Option Addr} {len cap len2 cap2 : Nat} {zs zs2 : List Int} (m : Int) (h : IsRow .i64 w a len cap zs) (h2 : IsRow .i64 w b len2 cap2 zs2) :
    Calls Try.prog 5 #[I m, .slice a len cap, .slice b len2 cap2] w fun e w' => e = .returned (.bool true) ∧ Below w.heap.size w w' := by
  obtain ⟨l, rfl, hn, _, hc, hm⟩ := IsRow.ints h
  obtain ⟨l2, rfl, hn2, _, hc2, hm2⟩ := IsRow.ints h2
  exact historyClones_walk m l l2 w a b cap cap2 hn hn2 (Nat.le_trans hc hm) (Nat.le_trans hc2 hm2)
end Go.Proofs.Ytnkbilbaljdfgaa.His
