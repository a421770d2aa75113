/- The document's: are changes right. -/
import Derived.Test.YtbmfjcdafjknaabEB
namespace Go.Proofs.Ytbmfjcdafjknaab
open Go.RowKit
set_option linter.unusedVariables false

theorem not_right {l : List Ch} {i : Nat} {c : Ch} (hi : l[i]? = some c) (h : c.right = false) : rightC l = false := by
  unfold rightC
  rw [Bool.and_eq_false_iff]
  left
  rw [List.all_eq_false]
  exact ⟨c, List.mem_of_getElem? hi, by rw [h]; simp⟩
theorem not_rise {l : List Ch} {i : Nat} {x y : Ch} (hx : l[i]? = some x) (hy : l[i + 1]? = some y) (h : ¬ x.k < y.k) : rightC l = false := by
  unfold rightC
  rw [Bool.and_eq_false_iff]
  right
  cases hb : riseC l with
  | false => rfl
  | true => exact absurd ((riseC_iff l).1 hb i x y hx hy) h
end Go.Proofs.Ytbmfjcdafjknaab
