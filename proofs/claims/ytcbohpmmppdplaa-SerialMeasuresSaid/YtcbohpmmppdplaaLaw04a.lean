/-
  The walks of 'alive' and of the laws SerialAdds, SerialMeasures, SerialOrders.
-/
import Derived.Test.YtcbohpmmppdplaaRef04
namespace Go.Proofs.Ytcbohpmmppdplaa
open Go.RowKit

set_option maxHeartbeats 1000000 in
theorem alive04_any (w : World) : Calls Try.prog 11 #[] w fun e w' => e = .returned (.bool true) ∧ w = w' := by
  have e1 : sadd 250 10 8 = 4 := by decide +kernel
  have e2 : sadd 3 (-5) 8 = 254 := by decide +kernel
  have e3 : sdist 250 4 8 = 10 := by decide +kernel
  have e4 : sbef 250 4 8 = true := by decide +kernel
  have e5 : sbef 4 250 8 = false := by decide +kernel
  have e6 : swin 2 254 5 8 = true := by decide +kernel
  have e7 : swin 3 254 5 8 = false := by decide +kernel
  go_enter Try.func11, Try.ntmps11
  go_wp2_with fail
  refine (add_any 250 10 8 _).mono ?_
  rintro e w' ⟨rfl, rfl⟩
  rw [e1]
  go_wp2_with fail
  refine (add_any 3 (-5) 8 _).mono ?_
  rintro e w' ⟨rfl, rfl⟩
  rw [e2]
  go_wp2_with fail
  refine (distance_any 250 4 8 _).mono ?_
  rintro e w' ⟨rfl, rfl⟩
  rw [e3]
  go_wp2_with fail
  refine (before_any 250 4 8 _).mono ?_
  rintro e w' ⟨rfl, rfl⟩
  rw [e4]
  go_wp2_with fail
  refine (before_any 4 250 8 _).mono ?_
  rintro e w' ⟨rfl, rfl⟩
  rw [e5]
  go_wp2_with fail
  refine (within_any 2 254 5 8 _).mono ?_
  rintro e w' ⟨rfl, rfl⟩
  rw [e6]
  go_wp2_with fail
  refine (within_any 3 254 5 8 _).mono ?_
  rintro e w' ⟨rfl, rfl⟩
  rw [e7]
  go_wp2
  go_ret
  exact ⟨rfl, rfl⟩

theorem beq_yes (b : Bool) : (b == b) = true := by simp

set_option maxHeartbeats 1000000 in
theorem serialAdds_walk (a n b : Int) (w : World) :
    Calls Try.prog 3 #[.int .i64 a, .int .i64 n, .int .i64 b] w fun e w' => e = .returned (.bool true) ∧ Below w.heap.size w w' := by
  have h1 := valid_any a b w
  have h2 := xvalid_any a b w
  have h3 := valid_any n b w
  have h4 := xvalid_any n b w
  have h5 := add_any a n b w
  have h6 := xadd_any a n b w
  obtain ⟨v, hv⟩ : ∃ v, v = vl a b := ⟨_, rfl⟩
  obtain ⟨u, hu⟩ : ∃ u, u = vl n b := ⟨_, rfl⟩
  obtain ⟨s, hs⟩ : ∃ s, s = sadd a n b := ⟨_, rfl⟩
  rw [← hv] at h1 h2
  rw [← hu] at h3 h4
  rw [← hs] at h5 h6
  clear hv hu hs
  go_enter Try.func3, Try.ntmps3
  go_wp2_with fail
  refine h1.mono ?_
  rintro e w' ⟨rfl, rfl⟩
  go_wp2_with fail
  refine h2.mono ?_
  rintro e w' ⟨rfl, rfl⟩
  go_wp2_with fail
  refine h3.mono ?_
  rintro e w' ⟨rfl, rfl⟩
  go_wp2_with fail
  refine h4.mono ?_
  rintro e w' ⟨rfl, rfl⟩
  go_wp2_with fail
  refine h5.mono ?_
  rintro e w' ⟨rfl, rfl⟩
  go_wp2_with fail
  refine h6.mono ?_
  rintro e w' ⟨rfl, rfl⟩
  go_wp2_with fail
  refine (alive04_any _).mono ?_
  rintro e w' ⟨rfl, rfl⟩
  go_wp2
  go_ret
  exact ⟨rfl, Below.refl _ _⟩

set_option maxHeartbeats 1000000 in
theorem serialMeasures_walk (x y b : Int) (w : World) :
    Calls Try.prog 4 #[.int .i64 x, .int .i64 y, .int .i64 b] w fun e w' => e = .returned (.bool true) ∧ Below w.heap.size w w' := by
  have h1 := distance_any x y b w
  have h2 := xdistance_any x y b w
  have h3 := before_any x y b w
  have h4 := xbefore_any x y b w
  obtain ⟨v, hv⟩ : ∃ v, v = sdist x y b := ⟨_, rfl⟩
  obtain ⟨u, hu⟩ : ∃ u, u = sbef x y b := ⟨_, rfl⟩
  rw [← hv] at h1 h2
  rw [← hu] at h3 h4
  clear hv hu
  go_enter Try.func4, Try.ntmps4
  go_wp2_with fail
  refine h1.mono ?_
  rintro e w' ⟨rfl, rfl⟩
  go_wp2_with fail
  refine h2.mono ?_
  rintro e w' ⟨rfl, rfl⟩
  go_wp2_with fail
  refine h3.mono ?_
  rintro e w' ⟨rfl, rfl⟩
  go_wp2_with fail
  refine h4.mono ?_
  rintro e w' ⟨rfl, rfl⟩
  go_wp2_with fail
  refine (alive04_any _).mono ?_
  rintro e w' ⟨rfl, rfl⟩
  go_wp2
  go_ret
  exact ⟨rfl, Below.refl _ _⟩
end Go.Proofs.Ytcbohpmmppdplaa
