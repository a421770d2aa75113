/- Calls of no memory and of no view. -/
import Derived.Test.YtlgkioaomcobdaaGreatOps
namespace Go.Proofs.YtlgkioaomcobdaaGreat
open Go.RowKit Go.Shelf

set_option maxRecDepth 100000 in
theorem nil_mview (th : Int) (W : World) : Calls Tryz.prog 6 #[.pointer none, .int .i64 th] W fun e W' => e = .returned (.pointer none) ∧ W' = W := by
  go_enter Tryz.func6, Tryz.ntmps6
  go_wp2_with fail
  go_ret
  exact ⟨by simp, rfl⟩
set_option maxRecDepth 100000 in
theorem nil_mpeek (x : Int) (W : World) : Calls Tryz.prog 41 #[.pointer none, .int .u64 x] W fun e W' => e = .returned (.int .u64 0) ∧ W' = W := by
  go_enter Tryz.func41, Tryz.ntmps41
  go_wp2_with fail
  go_ret
  exact ⟨by simp, rfl⟩
set_option maxRecDepth 100000 in
theorem nil_vload (x : Int) (W : World) : Calls Tryz.prog 40 #[.pointer none, .int .u64 x] W fun e W' => e = .returned (.int .u64 0) ∧ W' = W := by
  go_enter Tryz.func40, Tryz.ntmps40
  go_wp2_with fail
  go_ret
  exact ⟨by simp, rfl⟩
set_option maxRecDepth 100000 in
theorem nil_vstore (x y : Int) (W : World) : Calls Tryz.prog 18 #[.pointer none, .int .u64 x, .int .u64 y] W fun e W' => e = .returned (.tuple #[]) ∧ W' = W := by
  go_enter Tryz.func18, Tryz.ntmps18
  go_wp2_with fail
  exact bodyPost_ret (results_none rfl _ _ _) rfl ⟨rfl, rfl⟩
set_option maxRecDepth 100000 in
theorem nil_vcas (x y z : Int) (W : World) : Calls Tryz.prog 97 #[.pointer none, .int .u64 x, .int .u64 y, .int .u64 z] W fun e W' => e = .returned (.bool false) ∧ W' = W := by
  go_enter Tryz.func97, Tryz.ntmps97
  go_wp2_with fail
  go_ret
  exact ⟨by simp, rfl⟩
set_option maxRecDepth 100000 in
theorem nil_valloc (p : Option Addr) (n c : Nat) (W : World) : Calls Tryz.prog 32 #[.pointer none, .slice p n c] W fun e W' => e = .returned (.int .u64 0) ∧ W' = W := by
  go_enter Tryz.func32, Tryz.ntmps32
  go_wp2_with fail
  go_ret
  exact ⟨by simp, rfl⟩
set_option maxRecDepth 100000 in
theorem nil_vaccesses (W : World) : Calls Tryz.prog 12 #[.pointer none] W fun e W' => e = .returned (.int .i64 0) ∧ W' = W := by
  go_enter Tryz.func12, Tryz.ntmps12
  go_wp2_with fail
  go_ret
  exact ⟨by simp, rfl⟩
end Go.Proofs.YtlgkioaomcobdaaGreat
