/- A proc takes a step: stepOf; a Load. -/
import Derived.Test.YtadbgmcfjemkeaaSExt
import Derived.Defers
import Derived.Recover
namespace Go.Proofs.Ytadbgmcfjemkeaa
open Go.RowKit Go.Shelf

theorem s_catch (p : Addr) (w : World) :
    CallsD Try.prog 47 #[.pointer (some p)] .returning w fun e u' w' => e = .returned (.tuple #[]) ∧ u' = .returning ∧ w' = w := by
  refine callsD_of_wpS Try.func47 rfl fun c₀ cs hu => ?_
  apply wpS_seq
  apply wpS_region
  simp [wpOpsS, go_sem, recoverD, hu, Try.ntmps47, Exit.thenS]
  refine wpS_cond (t := false) (by simp [Act.eval, Array.replicate]) ?_
  simp only [Bool.false_eq_true, if_false]
  refine wpS_of_wp (wp_skip ?_)
  cases c₀
  simp_all [bodyPostS, results, Try.results47]

set_option maxRecDepth 100000 in
theorem s_stepOf_nil (v : Value) (W : World) : Calls Try.prog 35 #[.nilIface, v] W fun e W' => e = .returned (.bool true) ∧ Chg (fun _ => False) W W' := by
  go_enter_defers Try.func35, Try.ntmps35
  go_wp2_with fail
  simp [bodyPostD, Leaves, results, Try.results35, go_sem]
  exact (Chg.refl _ W).alloc _

end Go.Proofs.Ytadbgmcfjemkeaa
