/- What must be whatever is asked: the closed facts of package mix. -/
import Derived.Test.YtoopbacnnkmpbacMixA
import Derived.Test.YtoopbacnnkmpbacLev
namespace Go.Proofs.Ytoopbacnnkmpbac
open Go.RowKit

theorem rot_one (w : World) : Calls Try.prog 11 #[.int .u64 1, .int .i64 (-1)] w fun e w' => e = .returned (.int .u64 9223372036854775808) ∧ w' = w := by
  have r : bits .and .u64 (IntKind.u64.wrap (-1)) 63 = 63 := by decide
  have r2 : IntKind.u64.wrap (2 ^ 63) = 9223372036854775808 := by decide
  have r3 : bits .or .u64 9223372036854775808 0 = 9223372036854775808 := by decide
  go_enter Try.func11, Try.ntmps11
  go_wp2
  go_ret
  exact ⟨rfl, rfl⟩
theorem ones_255 (w : World) : Calls Try.prog 10 #[.int .u64 255] w fun e w' => e = .returned (.int .i64 8) ∧ w' = w := by
  go_enter Try.func10, Try.ntmps10
  go_wp2
  go_ret
  exact ⟨oneI (by decide +kernel), rfl⟩
theorem mix_7 (w : World) : Calls Try.prog 17 #[.int .u64 7] w fun e w' => e = .returned (.int .u64 1346066267577507604) ∧ w' = w := by
  have c := mix_any 7 w (by decide) (by decide)
  have m : ((mixN (7 : Int).toNat : Nat) : Int) = 1346066267577507604 := by decide +kernel
  rw [m] at c
  exact c
theorem back_c (w : World) : Calls Try.prog 21 #[.int .u64 1346066267577507604] w fun e w' => e = .returned (.int .u64 7) ∧ Below w.heap.size w w' := by
  have c := back_any 1346066267577507604 w (by decide) (by decide)
  have m : ((backN (1346066267577507604 : Int).toNat : Nat) : Int) = 7 := by decide +kernel
  rw [m] at c
  exact c
theorem digit_c (w : World) : Calls Try.prog 9 #[.int .u64 1346066267577507604, .int .i64 0] w fun e w' => e = .returned (.int .i64 4) ∧ w' = w := by
  have c := digit_any 1346066267577507604 0 w (by decide) (by decide) (by decide) (by decide)
  have m : dig 1346066267577507604 0 = 4 := by decide +kernel
  rw [m] at c
  exact c
theorem common_c (w : World) : Calls Try.prog 8 #[.int .u64 5, .int .u64 5] w fun e w' => e = .returned (.int .i64 11) ∧ Below w.heap.size w w' := by
  refine (common_any 5 5 (by decide) (by decide) (by decide) (by decide) w).mono ?_
  rintro e w' ⟨⟨c, rfl, hc⟩, hb⟩
  obtain rfl := comm_one hc (comm_same 5)
  exact ⟨rfl, hb⟩

set_option maxHeartbeats 400000 in
theorem live_any (w : World) : Calls Try.prog 7 #[] w fun e w' => e = .returned (.bool true) ∧ Below w.heap.size w w' := by
  go_enter Try.func7, Try.ntmps7
  go_wp2_with fail
  refine (mix_7 _).mono ?_
  rintro e w' ⟨rfl, rfl⟩
  go_wp2_with fail
  refine (back_c _).mono ?_
  rintro e w1 ⟨rfl, b1⟩
  go_wp2_with fail
  refine (mix_7 _).mono ?_
  rintro e w' ⟨rfl, rfl⟩
  go_wp2_with fail
  refine (digit_c _).mono ?_
  rintro e w' ⟨rfl, rfl⟩
  go_wp2_with fail
  refine (ones_255 _).mono ?_
  rintro e w' ⟨rfl, rfl⟩
  go_wp2_with fail
  refine (rot_one _).mono ?_
  rintro e w' ⟨rfl, rfl⟩
  go_wp2_with fail
  refine (common_c _).mono ?_
  rintro e w2 ⟨rfl, b2⟩
  go_wp2
  go_ret
  exact ⟨rfl, b1.trans (b2.mono b1.size)⟩
end Go.Proofs.Ytoopbacnnkmpbac
