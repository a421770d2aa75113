/- What a word says. -/
import Derived.Test.YtokooplfjibneaaGreatVn
namespace Go.Proofs.YtokooplfjibneaaGreat
open Go.RowKit Go.Shelf
set_option linter.unusedVariables false

set_option maxRecDepth 100000 in
theorem split_leaf (a wd : Nat) (W : World) (hwd : wd = 2 * a + 1) (hb : a < 18446744073709551616) : Calls Tryz.prog 40 #[.int .u64 (wd : Int)] W fun e W' => e = .returned (.tuple #[.int .u8 1, .int .u64 (a : Int)]) ∧ W' = W := by
  have n1 : ((wd : Int) == 0) = false := beq_eq_false_iff_ne.2 (by omega)
  have n2 : (wd : Int) % 2 = 1 := by omega
  have n3 : (wd : Int) / 2 = (a : Int) := by omega
  have n4 : (wd : Int).tmod 2 = 1 := by rw [Int.tmod_eq_emod_of_nonneg (by omega)]; exact n2
  have n5 : (wd : Int).tdiv 2 = (a : Int) := by rw [Int.tdiv_eq_ediv_of_nonneg (by omega)]; exact n3
  have n6 := u64_lt hb
  clear hwd
  go_enter Tryz.func40, Tryz.ntmps40
  go_wp2_with fail
  go_ret2
  exact ⟨by simp, rfl⟩
set_option maxRecDepth 100000 in
theorem split_branch (a wd : Nat) (W : World) (hwd : wd = 2 * a) (h0 : 0 < a) (hb : a < 18446744073709551616) : Calls Tryz.prog 40 #[.int .u64 (wd : Int)] W fun e W' => e = .returned (.tuple #[.int .u8 2, .int .u64 (a : Int)]) ∧ W' = W := by
  have n1 : ((wd : Int) == 0) = false := beq_eq_false_iff_ne.2 (by omega)
  have n2 : (wd : Int) % 2 = 0 := by omega
  have n3 : (wd : Int) / 2 = (a : Int) := by omega
  have n4 : (wd : Int).tmod 2 = 0 := by rw [Int.tmod_eq_emod_of_nonneg (by omega)]; exact n2
  have n5 : (wd : Int).tdiv 2 = (a : Int) := by rw [Int.tdiv_eq_ediv_of_nonneg (by omega)]; exact n3
  have n6 := u64_lt hb
  clear hwd
  go_enter Tryz.func40, Tryz.ntmps40
  go_wp2_with fail
  go_ret2
  exact ⟨by simp, rfl⟩

set_option maxRecDepth 100000 in
theorem split_0 (W : World) : Calls Tryz.prog 40 #[.int .u64 0] W fun e W' => e = .returned (.tuple #[.int .u8 0, .int .u64 0]) ∧ W' = W := by
  go_enter Tryz.func40, Tryz.ntmps40
  go_wp2_with fail
  go_ret2
  exact ⟨by simp, rfl⟩
end Go.Proofs.YtokooplfjibneaaGreat
