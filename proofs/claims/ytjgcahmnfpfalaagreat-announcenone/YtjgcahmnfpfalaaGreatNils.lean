/- Calls of no memory and of no view. -/
import Derived.Test.YtjgcahmnfpfalaaGreatOps
namespace Go.Proofs.YtjgcahmnfpfalaaGreat
open Go.RowKit Go.Shelf

set_option maxRecDepth 100000 in
theorem nil_mview (th : Int) (W : World) : Calls Tryz.prog 22 #[.pointer none, .int .i64 th] W fun e W' => e = .returned (.pointer none) ∧ W' = W := by
  go_enter Tryz.func22, Tryz.ntmps22
  go_wp2_with fail
  go_ret
  exact ⟨by simp, rfl⟩
set_option maxRecDepth 100000 in
theorem nil_mpeek (x : Int) (W : World) : Calls Tryz.prog 25 #[.pointer none, .int .u64 x] W fun e W' => e = .returned (.int .u64 0) ∧ W' = W := by
  go_enter Tryz.func25, Tryz.ntmps25
  go_wp2_with fail
  go_ret
  exact ⟨by simp, rfl⟩
set_option maxRecDepth 100000 in
theorem nil_vload (x : Int) (W : World) : Calls Tryz.prog 54 #[.pointer none, .int .u64 x] W fun e W' => e = .returned (.int .u64 0) ∧ W' = W := by
  go_enter Tryz.func54, Tryz.ntmps54
  go_wp2_with fail
  go_ret
  exact ⟨by simp, rfl⟩
set_option maxRecDepth 100000 in
theorem nil_vstore (x y : Int) (W : World) : Calls Tryz.prog 71 #[.pointer none, .int .u64 x, .int .u64 y] W fun e W' => e = .returned (.tuple #[]) ∧ W' = W := by
  go_enter Tryz.func71, Tryz.ntmps71
  go_wp2_with fail
  exact bodyPost_ret (results_none rfl _ _ _) rfl ⟨rfl, rfl⟩
set_option maxRecDepth 100000 in
theorem nil_vcas (x y z : Int) (W : World) : Calls Tryz.prog 57 #[.pointer none, .int .u64 x, .int .u64 y, .int .u64 z] W fun e W' => e = .returned (.bool false) ∧ W' = W := by
  go_enter Tryz.func57, Tryz.ntmps57
  go_wp2_with fail
  go_ret
  exact ⟨by simp, rfl⟩
set_option maxRecDepth 100000 in
theorem nil_valloc (p : Option Addr) (n c : Nat) (W : World) : Calls Tryz.prog 17 #[.pointer none, .slice p n c] W fun e W' => e = .returned (.int .u64 0) ∧ W' = W := by
  go_enter Tryz.func17, Tryz.ntmps17
  go_wp2_with fail
  go_ret
  exact ⟨by simp, rfl⟩
set_option maxRecDepth 100000 in
theorem nil_vaccesses (W : World) : Calls Tryz.prog 24 #[.pointer none] W fun e W' => e = .returned (.int .i64 0) ∧ W' = W := by
  go_enter Tryz.func24, Tryz.ntmps24
  go_wp2_with fail
  go_ret
  exact ⟨by simp, rfl⟩
end Go.Proofs.YtjgcahmnfpfalaaGreat
