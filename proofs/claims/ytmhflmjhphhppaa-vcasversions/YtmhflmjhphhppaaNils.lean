/- Calls of no memory and of no view. -/
import Derived.Test.YtmhflmjhphhppaaOps
namespace Go.Proofs.Ytmhflmjhphhppaa
open Go.RowKit Go.Shelf

set_option maxRecDepth 100000 in
theorem nil_mview (th : Int) (W : World) : Calls Try.prog 10 #[.pointer none, .int .i64 th] W fun e W' => e = .returned (.pointer none) ∧ W' = W := by
  go_enter Try.func10, Try.ntmps10
  go_wp2_with fail
  go_ret
  exact ⟨by simp, rfl⟩
set_option maxRecDepth 100000 in
theorem nil_mcells (W : World) : Calls Try.prog 35 #[.pointer none] W fun e W' => e = .returned (.int .i64 0) ∧ W' = W := by
  go_enter Try.func35, Try.ntmps35
  go_wp2_with fail
  go_ret
  exact ⟨by simp, rfl⟩
set_option maxRecDepth 100000 in
theorem nil_mpeek (x : Int) (W : World) : Calls Try.prog 24 #[.pointer none, .int .u64 x] W fun e W' => e = .returned (.int .u64 0) ∧ W' = W := by
  go_enter Try.func24, Try.ntmps24
  go_wp2_with fail
  go_ret
  exact ⟨by simp, rfl⟩
set_option maxRecDepth 100000 in
theorem nil_mmade (W : World) : Calls Try.prog 56 #[.pointer none] W fun e W' => e = .returned (.int .i64 0) ∧ W' = W := by
  go_enter Try.func56, Try.ntmps56
  go_wp2_with fail
  go_ret
  exact ⟨by simp, rfl⟩
set_option maxRecDepth 100000 in
theorem nil_vload (x : Int) (W : World) : Calls Try.prog 85 #[.pointer none, .int .u64 x] W fun e W' => e = .returned (.int .u64 0) ∧ W' = W := by
  go_enter Try.func85, Try.ntmps85
  go_wp2_with fail
  go_ret
  exact ⟨by simp, rfl⟩
set_option maxRecDepth 100000 in
theorem nil_vstore (x y : Int) (W : World) : Calls Try.prog 11 #[.pointer none, .int .u64 x, .int .u64 y] W fun e W' => e = .returned (.tuple #[]) ∧ W' = W := by
  go_enter Try.func11, Try.ntmps11
  go_wp2_with fail
  exact bodyPost_ret (results_none rfl _ _ _) rfl ⟨rfl, rfl⟩
set_option maxRecDepth 100000 in
theorem nil_vcas (x y z : Int) (W : World) : Calls Try.prog 89 #[.pointer none, .int .u64 x, .int .u64 y, .int .u64 z] W fun e W' => e = .returned (.bool false) ∧ W' = W := by
  go_enter Try.func89, Try.ntmps89
  go_wp2_with fail
  go_ret
  exact ⟨by simp, rfl⟩
set_option maxRecDepth 100000 in
theorem nil_valloc (p : Option Addr) (n c : Nat) (W : World) : Calls Try.prog 40 #[.pointer none, .slice p n c] W fun e W' => e = .returned (.int .u64 0) ∧ W' = W := by
  go_enter Try.func40, Try.ntmps40
  go_wp2_with fail
  go_ret
  exact ⟨by simp, rfl⟩
set_option maxRecDepth 100000 in
theorem nil_vaccesses (W : World) : Calls Try.prog 38 #[.pointer none] W fun e W' => e = .returned (.int .i64 0) ∧ W' = W := by
  go_enter Try.func38, Try.ntmps38
  go_wp2_with fail
  go_ret
  exact ⟨by simp, rfl⟩
end Go.Proofs.Ytmhflmjhphhppaa
