/- The document's find, and its change of a key. -/
import Derived.Test.YtbmfjcdafjknaabEz
namespace Go.Proofs.Ytbmfjcdafjknaab
open Go.RowKit
set_option linter.unusedVariables false

/-- A key's value among pairs. -/
def lkP (l : List (Nat × Nat)) (k : Nat) : Option Nat := (l.find? (fun x => x.1 == k)).map (fun x => x.2)
theorem find_at {α : Type} {p : α → Bool} {l : List α} {i : Nat} {x : α} (hi : l[i]? = some x) (hp : p x = true) (hn : ∀ (j : Nat) (y : α), j < i → l[j]? = some y → p y = false) : l.find? p = some x := by
  induction l generalizing i with
  | nil => simp at hi
  | cons y l ih =>
    cases i with
    | zero => simp at hi; subst hi; simp [hp]
    | succ i =>
      have := hn 0 y (by omega) rfl
      simp [this]
      exact ih (by simpa using hi) (fun j z hj hz => hn (j + 1) z (by omega) (by simpa using hz))
theorem find_no {α : Type} {p : α → Bool} {l : List α} (hn : ∀ (j : Nat) (y : α), l[j]? = some y → p y = false) : l.find? p = none := by
  rw [List.find?_eq_none]
  intro x hx
  obtain ⟨j, hj⟩ := List.mem_iff_getElem?.1 hx
  rw [hn j x hj]
  simp
end Go.Proofs.Ytbmfjcdafjknaab
