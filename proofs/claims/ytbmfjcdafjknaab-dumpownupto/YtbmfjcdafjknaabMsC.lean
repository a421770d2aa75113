/- A picture of a map of one entry. -/
import Derived.Test.YtbmfjcdafjknaabMsL
import Derived.Maps.OwnSet
import Derived.Maps.RangeWalk
import Derived.Maps.AppendAt
import Derived.OwnWalk
namespace Go.Proofs.Ytbmfjcdafjknaab
open Go.RowKit Go.Maps
set_option linter.unusedVariables false

theorem K64 : Keyed Try.prog 57 := int_keyed Try.underlying57
def D7 : DataW Unit := (DataW.map []).put (.int .u64 7) (.lit (.int .u64 1))
theorem d7_has (x : Int) (h : Maps.has D7 (.int .u64 x) = true) : x = 7 := by
  by_cases e : x = 7
  · exact e
  · exfalso
    have z : Maps.has D7 (.int .u64 x) = Maps.has (DataW.map [] : DataW Unit) (.int .u64 x) := has_put_other (fun q => e (by injection q)) _
    rw [z] at h
    simp [Maps.has] at h
theorem d7_at (c : Int) (h : ∀ zd, D7.atKey (.int .u64 7) zd = .lit (.int .u64 c)) : c = 1 := by
  have z := h .nil
  have q : D7.atKey (.int .u64 7) .nil = .lit (.int .u64 1) := by rfl
  rw [q] at z
  simpa using z.symm
theorem d7_size : Maps.size D7 = 1 := by rfl
theorem grown_chg {a b : World} {row : Option Nat} {F : Nat → Prop} (h : a.grownBy b row) (hr : ∀ k, row = some k → F k) : Chg F a b := (Chg.refl F a).grown h (fun k e _ => hr k e)
end Go.Proofs.Ytbmfjcdafjknaab
