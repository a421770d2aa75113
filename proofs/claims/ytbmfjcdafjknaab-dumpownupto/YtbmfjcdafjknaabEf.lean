/- Two rows side by side: the iterator. -/
import Derived.RangeFuncNested
import Derived.RangeFuncBox
import Derived.RangeFuncBound
import Derived.RangeFuncCalls
import Derived.RangeFuncLeaves
import Derived.Shelf.Abstract
import Derived.Shelf.AbstractIn
import Derived.WalkKit
import Derived.OwnWalkIn
import Derived.TacticsInMore
import Derived.RegionIn
import Derived.LoopNIn
import Derived.LoopIn
import Derived.Lib.QuietBelowIn
import Derived.Test.YtbmfjcdafjknaabEd
namespace Go.Proofs.Ytbmfjcdafjknaab
open Go.RowKit Go.Shelf
set_option linter.unusedVariables false
attribute [local go_sem] Oper.semAt_some

/-- Two rows by rising keys, side by side. -/
def mrg {β : Type} (kb : β → Nat) : List (Nat × Nat) → List β → List (Option (Nat × Nat) × Option β)
  | [], [] => []
  | x :: a, [] => (some x, none) :: mrg kb a []
  | [], y :: b => (none, some y) :: mrg kb [] b
  | x :: a, y :: b => if x.1 < kb y then (some x, none) :: mrg kb a (y :: b) else if kb y < x.1 then (none, some y) :: mrg kb (x :: a) b else (some x, some y) :: mrg kb a b
termination_by a b => a.length + b.length
theorem mrg_left {β : Type} (kb : β → Nat) (x : Nat × Nat) (a : List (Nat × Nat)) : mrg kb (x :: a) [] = (some x, none) :: mrg kb a [] := by rw [mrg]
theorem mrg_right {β : Type} (kb : β → Nat) (y : β) (b : List β) : mrg kb [] (y :: b) = (none, some y) :: mrg kb [] b := by rw [mrg]
theorem mrg_nil {β : Type} (kb : β → Nat) : mrg kb [] ([] : List β) = [] := by rw [mrg]
theorem mrg_lt {β : Type} (kb : β → Nat) {x : Nat × Nat} {a : List (Nat × Nat)} {y : β} {b : List β} (h : x.1 < kb y) : mrg kb (x :: a) (y :: b) = (some x, none) :: mrg kb a (y :: b) := by rw [mrg]; simp [h]
theorem mrg_gt {β : Type} (kb : β → Nat) {x : Nat × Nat} {a : List (Nat × Nat)} {y : β} {b : List β} (h : kb y < x.1) : mrg kb (x :: a) (y :: b) = (none, some y) :: mrg kb (x :: a) b := by rw [mrg]; simp [h, Nat.not_lt_of_gt h]
theorem mrg_eq {β : Type} (kb : β → Nat) {x : Nat × Nat} {a : List (Nat × Nat)} {y : β} {b : List β} (h : x.1 = kb y) : mrg kb (x :: a) (y :: b) = (some x, some y) :: mrg kb a b := by rw [mrg]; simp [h]
abbrev IxP (na nb : Nat) := { x : Option Nat × Option Nat // (∀ i, x.1 = some i → i < na) ∧ (∀ j, x.2 = some j → j < nb) ∧ x ≠ (none, none) }
def valX {β : Type} (la : List (Nat × Nat)) (lb : List β) (x : IxP la.length lb.length) : Option (Nat × Nat) × Option β := (x.1.1.bind (fun i => la[i]?), x.1.2.bind (fun j => lb[j]?))
def ixA (na nb i : Nat) (h : i < na) : IxP na nb := ⟨(some i, none), ⟨fun j e => (by cases e; exact h), fun j e => (by cases e), by simp⟩⟩
def ixB (na nb k : Nat) (h : k < nb) : IxP na nb := ⟨(none, some k), ⟨fun j e => (by cases e), fun j e => (by cases e; exact h), by simp⟩⟩
def ixAB (na nb i k : Nat) (h : i < na) (h' : k < nb) : IxP na nb := ⟨(some i, some k), ⟨fun j e => (by cases e; exact h), fun j e => (by cases e; exact h'), by simp⟩⟩
theorem drop_of {α : Type} {l : List α} {i : Nat} {x : α} (h : l[i]? = some x) : l.drop i = x :: l.drop (i + 1) := by
  have hi := (List.getElem?_eq_some_iff.1 h).1
  rw [List.drop_eq_getElem_cons hi]
  congr 1
  have := (List.getElem?_eq_some_iff.1 h).2
  exact this
theorem grown_none {A C : World} (h : Below A.heap.size A C) : A.grownBy C none := ⟨h.os, h.tape, h.output, h.size, fun k hk _ => h.block k hk⟩
def lenV : Value → Nat
  | .slice _ n _ => n
  | _ => 0
def ptP (bk off s : Nat) (o : Option Nat) : Value := .pointer (o.map (fun i => (⟨bk, off + i * s, none⟩ : Addr)))

theorem tail_P (bk off m c : Nat) (hm : m + 1 ≤ c) (hc : c ≤ 9223372036854775807) : ∃ ad : Addr, (∀ w, (Instr.slice 22 (.slice (some ⟨bk, off, none⟩) (m + 1) c) (some (.int .i64 1)) none none).run Try.prog w = .ok (.slice (some ad) m (c - 1)) w) ∧ (0 < m → ad = ⟨bk, off + 2, none⟩) := by
  by_cases e : c = 1
  · refine ⟨⟨bk, off, none⟩, fun w => ?_, fun h => by omega⟩
    obtain rfl : m = 0 := by omega
    have hb := run_sliceBound (P := Try.prog) (w := w) .i64 (1 : Int) (0 + 1) .sliceB (by omega) (by omega)
    simp [Instr.slice, run_underlying Try.underlying22, Instr.sliceBounds, Result.andThen, e, hb]
  · refine ⟨⟨bk, off + 2, none⟩, fun w => ?_, fun _ => rfl⟩
    have hb := run_sliceBound (P := Try.prog) (w := w) .i64 (1 : Int) (m + 1) .sliceB (by omega) (by omega)
    simp [Instr.slice, run_underlying Try.underlying22, Instr.sliceBounds, Result.andThen, e, hb, Addr.add]

end Go.Proofs.Ytbmfjcdafjknaab
