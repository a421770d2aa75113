/- What the camera's procs tell. -/
import Derived.Test.YtadbgmcfjemkeaaCam
namespace Go.Proofs.Ytadbgmcfjemkeaa
open Go.RowKit Go.Shelf

set_option maxRecDepth 100000 in
theorem n_stamp (p cell pos st : Nat) (W : World) (hp : IsNow W p cell pos st) : Calls Try.prog 80 #[.pointer (some ⟨p, 0, none⟩)] W fun e W' => e = .returned (.int .u64 (st : Int)) ∧ W' = W := by
  have c2 : W.cell? ⟨p, 2, none⟩ = some (.int .u64 (st : Int)) := cell_of hp 2
  go_enter Try.func80, Try.ntmps80
  go_wp2_with fail
  go_ret
  exact ⟨by simp, rfl⟩
end Go.Proofs.Ytadbgmcfjemkeaa
