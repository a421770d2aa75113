/- A slot's text at one slot: the walk of the law TopNames. -/
import Derived.Test.YtoopbacnnkmpbacDoorChecked
import Derived.WalkKit
import Derived.WalkLawsBesides
import Derived.WalkSpells
import Derived.OpenShut
import Derived.Deep.QuietTactic
import Derived.Deep.RegionWith
import Derived.BigQuiet
import Derived.WalkSmall
namespace Go.Proofs.YtoopbacnnkmpbacDoor
open Go.RowKit

set_option maxRecDepth 10000 in
theorem dec_3 (w : World) : Calls Tryd.prog 6 #[.int .u64 3] w fun e w' => e = .returned (.string ⟨#[51]⟩) ∧ w' = w := by
  go_enter Tryd.func6, Tryd.ntmps6
  go_wp2
  go_ret
  exact ⟨by first | rfl | decide, rfl⟩
set_option maxRecDepth 10000 in
theorem dec_7 (w : World) : Calls Tryd.prog 6 #[.int .u64 7] w fun e w' => e = .returned (.string ⟨#[55]⟩) ∧ w' = w := by
  go_enter Tryd.func6, Tryd.ntmps6
  go_wp2
  go_ret
  exact ⟨by first | rfl | decide, rfl⟩
theorem pack_c (w : World) : Calls Tryd.prog 5 #[.agg #[.int .u8 3, .int .u64 3, .int .u64 7]] w fun e w' => (∃ x, e = .returned (.tuple #[.int .u64 x, .int .i64 0])) ∧ w' = w.alloc (.cells #[.int .u8 3, .int .u64 3, .int .u64 7] 26) := by
  go_enter Tryd.func5, Tryd.ntmps5
  go_wp2
  go_ret2
  exact ⟨⟨_, rfl⟩, rfl⟩
set_option maxHeartbeats 1000000 in
set_option maxRecDepth 10000 in
theorem print_c (w : World) (hg : 0 < w.heap.size) (hc : w.cell? ⟨0, 3, none⟩ = some (.string ⟨#[101, 120, 97, 99, 116]⟩)) :
    Calls Tryd.prog 4 #[.agg #[.int .u8 3, .int .u64 3, .int .u64 7]] w fun e w' => e = .returned (.string ⟨#[101, 120, 97, 99, 116, 32, 51, 32, 55]⟩) ∧ Below w.heap.size w w' := by
  go_enter Tryd.func4, Tryd.ntmps4
  go_wp2_with fail
  refine (pack_c _).mono ?_
  rintro e w' ⟨⟨x, rfl⟩, rfl⟩
  go_wp2_with fail
  go_quiet (first | (go_at_call_of 6 (Value.int IntKind.u64 3); exact Calls.quiet_of_same (dec_3 _)) | (go_at_call_of 6 (Value.int IntKind.u64 7); exact Calls.quiet_of_same (dec_7 _)))
  go_wp2
  go_ret
  exact ⟨congrArg (fun s => Ending.returned (.string s)) (by decide), below_drewN (((Below.refl _ w).alloc (Nat.le_refl _) _).alloc (by simp) _) _⟩
set_option maxHeartbeats 1000000 in
theorem walk (w : World) (hg : 0 < w.heap.size) (hc : w.cell? ⟨0, 3, none⟩ = some (.string ⟨#[101, 120, 97, 99, 116]⟩)) :
    Calls Tryd.prog 3 #[] w fun e w' => e = .returned (.bool true) ∧ Below w.heap.size w w' := by
  go_enter Tryd.func3, Tryd.ntmps3
  go_wp2_with fail
  refine (print_c _ hg hc).mono ?_
  rintro e w1 ⟨rfl, l1⟩
  go_wp2
  go_ret
  exact ⟨rfl, l1⟩
end Go.Proofs.YtoopbacnnkmpbacDoor
