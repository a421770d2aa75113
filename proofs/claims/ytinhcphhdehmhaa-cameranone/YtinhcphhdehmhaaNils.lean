/- Calls of no memory and of no view. -/
import Derived.Test.YtinhcphhdehmhaaOps
namespace Go.Proofs.Ytinhcphhdehmhaa
open Go.RowKit Go.Shelf

set_option maxRecDepth 100000 in
theorem nil_mview (th : Int) (W : World) : Calls Try.prog 16 #[.pointer none, .int .i64 th] W fun e W' => e = .returned (.pointer none) ∧ W' = W := by
  go_enter Try.func16, Try.ntmps16
  go_wp2_with fail
  go_ret
  exact ⟨by simp, rfl⟩
set_option maxRecDepth 100000 in
theorem nil_mpeek (x : Int) (W : World) : Calls Try.prog 11 #[.pointer none, .int .u64 x] W fun e W' => e = .returned (.int .u64 0) ∧ W' = W := by
  go_enter Try.func11, Try.ntmps11
  go_wp2_with fail
  go_ret
  exact ⟨by simp, rfl⟩
set_option maxRecDepth 100000 in
theorem nil_mtrace (W : World) : Calls Try.prog 29 #[.pointer none] W fun e W' => e = .returned (.slice none 0 0) ∧ W' = W := by
  go_enter Try.func29, Try.ntmps29
  go_wp2_with fail
  go_ret
  exact ⟨by simp, rfl⟩
set_option maxRecDepth 100000 in
theorem nil_vload (x : Int) (W : World) : Calls Try.prog 32 #[.pointer none, .int .u64 x] W fun e W' => e = .returned (.int .u64 0) ∧ W' = W := by
  go_enter Try.func32, Try.ntmps32
  go_wp2_with fail
  go_ret
  exact ⟨by simp, rfl⟩
set_option maxRecDepth 100000 in
theorem nil_vstore (x y : Int) (W : World) : Calls Try.prog 22 #[.pointer none, .int .u64 x, .int .u64 y] W fun e W' => e = .returned (.tuple #[]) ∧ W' = W := by
  go_enter Try.func22, Try.ntmps22
  go_wp2_with fail
  exact bodyPost_ret (results_none rfl _ _ _) rfl ⟨rfl, rfl⟩
set_option maxRecDepth 100000 in
theorem nil_vcas (x y z : Int) (W : World) : Calls Try.prog 33 #[.pointer none, .int .u64 x, .int .u64 y, .int .u64 z] W fun e W' => e = .returned (.bool false) ∧ W' = W := by
  go_enter Try.func33, Try.ntmps33
  go_wp2_with fail
  go_ret
  exact ⟨by simp, rfl⟩
set_option maxRecDepth 100000 in
theorem nil_vaccesses (W : World) : Calls Try.prog 19 #[.pointer none] W fun e W' => e = .returned (.int .i64 0) ∧ W' = W := by
  go_enter Try.func19, Try.ntmps19
  go_wp2_with fail
  go_ret
  exact ⟨by simp, rfl⟩
end Go.Proofs.Ytinhcphhdehmhaa
