/- Calls of no memory and of no view. -/
import Derived.Test.YtokooplfjibneaaGreatOps
namespace Go.Proofs.YtokooplfjibneaaGreat
open Go.RowKit Go.Shelf

set_option maxRecDepth 100000 in
theorem nil_mview (th : Int) (W : World) : Calls Tryz.prog 24 #[.pointer none, .int .i64 th] W fun e W' => e = .returned (.pointer none) ∧ W' = W := by
  go_enter Tryz.func24, Tryz.ntmps24
  go_wp2_with fail
  go_ret
  exact ⟨by simp, rfl⟩
set_option maxRecDepth 100000 in
theorem nil_mpeek (x : Int) (W : World) : Calls Tryz.prog 42 #[.pointer none, .int .u64 x] W fun e W' => e = .returned (.int .u64 0) ∧ W' = W := by
  go_enter Tryz.func42, Tryz.ntmps42
  go_wp2_with fail
  go_ret
  exact ⟨by simp, rfl⟩
set_option maxRecDepth 100000 in
theorem nil_vload (x : Int) (W : World) : Calls Tryz.prog 89 #[.pointer none, .int .u64 x] W fun e W' => e = .returned (.int .u64 0) ∧ W' = W := by
  go_enter Tryz.func89, Tryz.ntmps89
  go_wp2_with fail
  go_ret
  exact ⟨by simp, rfl⟩
set_option maxRecDepth 100000 in
theorem nil_vcas (x y z : Int) (W : World) : Calls Tryz.prog 109 #[.pointer none, .int .u64 x, .int .u64 y, .int .u64 z] W fun e W' => e = .returned (.bool false) ∧ W' = W := by
  go_enter Tryz.func109, Tryz.ntmps109
  go_wp2_with fail
  go_ret
  exact ⟨by simp, rfl⟩
set_option maxRecDepth 100000 in
theorem nil_valloc (p : Option Addr) (n c : Nat) (W : World) : Calls Tryz.prog 19 #[.pointer none, .slice p n c] W fun e W' => e = .returned (.int .u64 0) ∧ W' = W := by
  go_enter Tryz.func19, Tryz.ntmps19
  go_wp2_with fail
  go_ret
  exact ⟨by simp, rfl⟩
set_option maxRecDepth 100000 in
theorem nil_vaccesses (W : World) : Calls Tryz.prog 26 #[.pointer none] W fun e W' => e = .returned (.int .i64 0) ∧ W' = W := by
  go_enter Tryz.func26, Tryz.ntmps26
  go_wp2_with fail
  go_ret
  exact ⟨by simp, rfl⟩
end Go.Proofs.YtokooplfjibneaaGreat
