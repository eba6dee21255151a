/-
  Package ranges: the small functions, and Has of the reference.
-/
import Derived.Test.YtaaikmncdgfkmaaBase
import Derived.Test.YtaaikmncdgfkmaaRngH
namespace Go.Proofs.Ytaaikmncdgfkmaa.Rng
open Go.RowKit

theorem info_range : (Try.prog.info? 62).map (fun i => (i.zero, i.size, i.bytes)) = some (some (.agg #[I 0, I 0]), 2, 16) := by kernel_rfl
theorem is_ranges : IsRanges Try.prog 36 62 := by
  obtain ⟨i, h0, h1, h2, h3⟩ := info_parts info_range
  exact ⟨Try.underlying36, i, h0, h1, h2, h3⟩

set_option maxHeartbeats 1000000 in
theorem empty_any (x y : Int) (w : World) : Calls Try.prog 67 #[.agg #[I x, I y]] w fun e w' => e = .returned (.bool (emp (x, y))) ∧ w' = w.alloc (.cells #[I x, I y] 62) := by
  go_enter Try.func67, Try.ntmps67
  go_wp2
  go_ret
  exact ⟨rfl, rfl⟩

theorem len_wrap (x y : Int) : IntKind.u64.wrap (IntKind.u64.wrap y - IntKind.u64.wrap x) = (len (x, y) : Int) := by
  simp only [IntKind.wrap_u64, len]; omega
set_option maxHeartbeats 1000000 in
theorem length_any (x y : Int) (w : World) : Calls Try.prog 61 #[.agg #[I x, I y]] w fun e w' => e = .returned (.int .u64 (len (x, y))) ∧ w' = w.alloc (.cells #[I x, I y] 62) := by
  have e1 := Lib.hid (len_wrap x y)
  go_enter Try.func61, Try.ntmps61
  go_wp2
  go_ret
  exact ⟨ret_int e1.out, rfl⟩

theorem has_step {l : List R} {n : Int} {k : Nat} (h : k < l.length) : has (l.drop k) n = ((decide (l[k].1 ≤ n) && decide (n < l[k].2)) || has (l.drop (k + 1)) n) := by
  rw [List.drop_eq_getElem_cons h]; rfl

end Go.Proofs.Ytaaikmncdgfkmaa.Rng
