/- The word of a leaf, and what it says: at the addresses that a way ends in. -/
import Derived.Test.YtoopbacnnkmpbacDig
namespace Go.Proofs.Ytoopbacnnkmpbac
open Go.RowKit

set_option maxHeartbeats 400000 in
theorem leaf_any (m : Int) (w : World) (h1 : 1 ≤ m) (h2 : m ≤ 4611686018427387904) :
    Calls Try.prog 19 #[.int .u8 1, .int .u64 m] w fun e w' => e = .returned (.tuple #[.int .u64 (2 * m + 1), .int .i64 0]) ∧ w' = w := by
  have g1 : (m == 0) = false := beq_eq_false_iff_ne.2 (by omega)
  have g2 : ¬ 4611686018427387904 < m := by omega
  go_enter Try.func19, Try.ntmps19
  go_wp2
  go_ret2
  exact ⟨twoI rfl rfl, rfl⟩
set_option maxHeartbeats 400000 in
theorem leafSplit_any (m : Int) (w : World) (h1 : 1 ≤ m) (h2 : m ≤ 4611686018427387904) :
    Calls Try.prog 20 #[.int .u64 (2 * m + 1)] w fun e w' => e = .returned (.tuple #[.int .u8 1, .int .u64 m]) ∧ w' = w := by
  have g1 : (2 * m + 1 == 0) = false := beq_eq_false_iff_ne.2 (by omega)
  have g2 : ((2 * m + 1) % 2 == 1) = true := by rw [beq_iff_eq]; omega
  go_enter Try.func20, Try.ntmps20
  go_wp2
  go_ret2
  exact ⟨twoI rfl (by omega), rfl⟩
end Go.Proofs.Ytoopbacnnkmpbac
