/- Diff: what is other in the second. -/
import Derived.Test.YtbmfjcdafjknaabEf
import Derived.Test.YtbmfjcdafjknaabEg
namespace Go.Proofs.Ytbmfjcdafjknaab
open Go.RowKit Go.Shelf
set_option linter.unusedVariables false
attribute [local go_sem] Oper.semAt_some

def chRow (l : List Ch) : List Value := l.flatMap Ch.cells
theorem chRow_len (l : List Ch) : (chRow l).length = l.length * 5 := by
  induction l with
  | nil => rfl
  | cons x l ih => simp [chRow, Ch.cells] at ih ⊢; omega
theorem chRow_add (l : List Ch) (c : Ch) : chRow (l ++ [c]) = chRow l ++ c.cells := by simp [chRow]
def smallC (l : List Ch) : Prop := ∀ c ∈ l, c.k < 18446744073709551616 ∧ c.old < 18446744073709551616 ∧ c.new < 18446744073709551616
theorem infoCh : (Try.prog.info? 79).map (fun i => (i.zero, i.size, i.bytes)) = some (some (.agg #[.int .u64 0, .bool false, .bool false, .int .u64 0, .int .u64 0]), 5, 32) := by kernel_rfl
def diffX (m : List (Option (Nat × Nat) × Option (Nat × Nat))) : List Ch := (m.map chOf).filter Ch.right
def diffL (a b : List (Nat × Nat)) : List Ch := diffX (mrg (fun y : Nat × Nat => y.1) a b)
theorem diffX_add (m : List (Option (Nat × Nat) × Option (Nat × Nat))) (x : Option (Nat × Nat) × Option (Nat × Nat)) : diffX (m ++ [x]) = if (chOf x).right then diffX m ++ [chOf x] else diffX m := by
  unfold diffX
  rw [List.map_append, List.filter_append]
  by_cases h : (chOf x).right = true
  · simp [h]
  · simp [h]
theorem diffX_len (m : List (Option (Nat × Nat) × Option (Nat × Nat))) : (diffX m).length ≤ m.length := by
  unfold diffX
  exact Nat.le_trans (List.length_filter_le _ _) (by simp)
end Go.Proofs.Ytbmfjcdafjknaab
