/- A book's lists of numbers: all are written over, each is grown, all are looked at: where they share no memory the look tells true. -/
import Derived.ArgAppend
import Derived.Maps.AppendAt
import Derived.Laws.OwnMore
import Derived.WalkLawsBesides
import Derived.Test.YtoopbacnnkmpbacRefs
namespace Go.Proofs.Ytoopbacnnkmpbac
open Go.RowKit Go.Shelf

def mark (j : Nat) : Value := .int .i64 (-7 - (j : Int))
def rowV (g : Nat) : Value := .slice (some ⟨g, 0, none⟩) 11 11

/-- What a book keeps: n lists of eleven in blocks of their own, behind a list of lists in a block of its own. -/
structure Keeps (W : World) (Bk go co n : Nat) (g : Nat → Nat) : Prop where
  book : W.cell? ⟨Bk, 2, none⟩ = some (.slice (some ⟨go, 0, none⟩) n co)
  outer : ∀ j, j < n → W.cell? ⟨go, j, none⟩ = some (rowV (g j))
  lt : Bk < go ∧ go < W.heap.size ∧ ∀ j, j < n → Bk < g j ∧ g j < W.heap.size ∧ g j ≠ go
  apart : ∀ i j, i < n → j < n → i ≠ j → g i ≠ g j

/-- The lists' cells: there, free to be written; the first t j of the list j bear its mark. -/
def Marked (W : World) (n : Nat) (g : Nat → Nat) (t : Nat → Nat) : Prop :=
  ∀ j, j < n → ∀ q, q < 11 → (∃ v, W.cell? ⟨g j, q, none⟩ = some v) ∧ W.frozen? ⟨g j, q, none⟩ = false ∧ (q < t j → W.cell? ⟨g j, q, none⟩ = some (mark j))

theorem cell_other {W : World} {b o b' o' : Nat} (v : Value) (h : ¬ (b' = b ∧ o' = o)) : (W.setCell ⟨b, o, none⟩ v).cell? ⟨b', o', none⟩ = W.cell? ⟨b', o', none⟩ :=
  World.cell?_setCell_other _ _ _ _ (by intro e; cases e; exact h ⟨rfl, rfl⟩)
theorem Marked.put {W : World} {n : Nat} {g t : Nat → Nat} (h : Marked W n g t) (i k : Nat) (hi : i < n) (hk : k < 11) (ap : ∀ a b, a < n → b < n → a ≠ b → g a ≠ g b) (t' : Nat → Nat) (ht : ∀ j, j < n → ∀ q, q < t' j → q < t j ∨ j = i ∧ q = k) :
    Marked (W.setCell ⟨g i, k, none⟩ (mark i)) n g t' := fun j hj q hq => by
  obtain ⟨⟨v, hv⟩, hf, hm⟩ := h j hj q hq
  obtain ⟨⟨v1, hv1⟩, _, _⟩ := h i hi k hk
  by_cases e : j = i ∧ q = k
  · obtain ⟨rfl, rfl⟩ := e
    have c := World.cell?_setCell_same' W ⟨g j, q, none⟩ (mark j) (by rw [hv1]; rfl)
    exact ⟨⟨_, c⟩, by rw [World.frozen?_setCell]; exact hf, fun _ => c⟩
  · have ne : ¬ (g j = g i ∧ q = k) := fun e2 => by
      by_cases f : j = i
      · exact e ⟨f, e2.2⟩
      · exact ap j i hj hi f e2.1
    rw [cell_other _ ne, World.frozen?_setCell]
    exact ⟨⟨v, hv⟩, hf, fun hq2 => (ht j hj q hq2).elim hm (fun x => absurd x e)⟩
theorem Keeps.put {W : World} {Bk go co n : Nat} {g : Nat → Nat} (h : Keeps W Bk go co n g) (i k : Nat) (hi : i < n) (v : Value) : Keeps (W.setCell ⟨g i, k, none⟩ v) Bk go co n g := by
  have l := h.lt
  have li := l.2.2 i hi
  have s : (W.setCell ⟨g i, k, none⟩ v).heap.size = W.heap.size := by simp [World.setCell]
  exact ⟨by rw [cell_other _ (fun e => by omega)]; exact h.book, fun j hj => by rw [cell_other _ (fun e => by omega)]; exact h.outer j hj, by rw [s]; exact l, h.apart⟩
theorem Keeps.below {W W' : World} {Bk go co n : Nat} {g : Nat → Nat} (h : Keeps W Bk go co n g) (hB : Below W.heap.size W W') : Keeps W' Bk go co n g := by
  have l := h.lt
  have s := hB.size
  exact ⟨(hB.cell (p := ⟨Bk, 2, none⟩) (by show Bk < _; omega)).trans h.book, fun j hj => (hB.cell (p := ⟨go, j, none⟩) (by show go < _; omega)).trans (h.outer j hj), ⟨l.1, by omega, fun j hj => ⟨(l.2.2 j hj).1, by have := (l.2.2 j hj).2.1; omega, (l.2.2 j hj).2.2⟩⟩, h.apart⟩
theorem Marked.below {W W' : World} {n : Nat} {g t : Nat → Nat} (h : Marked W n g t) (hg : ∀ j, j < n → g j < W.heap.size) (hB : Below W.heap.size W W') : Marked W' n g t := fun j hj q hq => by
  obtain ⟨⟨v, hv⟩, hf, hm⟩ := h j hj q hq
  have c := hB.cell (p := ⟨g j, q, none⟩) (hg j hj)
  exact ⟨⟨v, c.trans hv⟩, (hB.frozen (p := ⟨g j, q, none⟩) (hg j hj)).trans hf, fun x => c.trans (hm x)⟩
end Go.Proofs.Ytoopbacnnkmpbac
