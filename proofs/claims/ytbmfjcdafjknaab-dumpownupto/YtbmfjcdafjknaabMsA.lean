/- Two answers, held against each other. -/
import Derived.Test.YtbmfjcdafjknaabMsP
namespace Go.Proofs.Ytbmfjcdafjknaab
open Go.RowKit
set_option linter.unusedVariables false

structure Ans where
  e : Int
  f : Bool
  x : Nat
  d : Bool
  h : Nat
  l : List (Nat × Nat)
  n : Nat
deriving DecidableEq
theorem PairsAt.chg {W W' : World} {p : Option Addr} {l : List (Nat × Nat)} (h : PairsAt W p l) (c : Chg (fun _ => False) W W') : PairsAt W' p l := by
  rcases h with rfl | ⟨bk, off, rfl, hb, h⟩
  · exact .inl rfl
  · refine .inr ⟨bk, off, rfl, Nat.lt_of_lt_of_le hb c.size, fun i k x hi => ?_⟩
    obtain ⟨b1, b2, h1, h2⟩ := h i k x hi
    exact ⟨b1, b2, cell_chg c h1 (fun x => x), cell_chg c h2 (fun x => x)⟩
end Go.Proofs.Ytbmfjcdafjknaab
