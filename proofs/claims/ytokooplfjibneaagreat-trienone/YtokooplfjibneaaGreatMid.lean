/- Cells in a row, stored at once. -/
import Derived.Deep.MidRow
import Derived.Laws.EntriesVeiled
import Derived.WideLaws
import Derived.Test.YtokooplfjibneaaGreatVn
namespace Go.Proofs.YtokooplfjibneaaGreat
open Go.RowKit Go.Shelf
set_option linter.unusedVariables false

theorem setCells_of (t : TypeId) (p : Nat) (vs : List Value) : ∀ (pre old post : List Value) (w : World), w.heap[p]? = some (.cells (pre ++ old ++ post).toArray t (0, 0)) → old.length = vs.length → (w.setCells p pre.length vs).heap[p]? = some (.cells (pre ++ vs ++ post).toArray t (0, 0)) := by
  induction vs with
  | nil =>
    intro pre old post w h hl
    obtain rfl : old = [] := List.length_eq_zero_iff.1 hl
    simpa [World.setCells] using h
  | cons x vs ih =>
    intro pre old post w h hl
    obtain ⟨y, old', rfl⟩ : ∃ y old', old = y :: old' := by
      cases old with
      | nil => simp at hl
      | cons y o => exact ⟨y, o, rfl⟩
    have h1 := set_of h pre.length x
    have e : (pre ++ y :: old' ++ post).toArray.setIfInBounds pre.length x = ((pre ++ [x]) ++ old' ++ post).toArray := by
      rw [List.setIfInBounds_toArray]
      congr 1
      simp
    rw [e] at h1
    have h2 := ih (pre ++ [x]) old' post (w.setCell ⟨p, pre.length, none⟩ x) h1 (by simpa using hl)
    simp only [List.length_append, List.length_singleton] at h2
    simpa [World.setCells] using h2
theorem setCells_chg (p : Nat) (vs : List Value) : ∀ (o : Nat) (w : World), Chg (fun k => k = p) w (w.setCells p o vs) := by
  induction vs with
  | nil => intro o w; exact Chg.refl _ _
  | cons x vs ih =>
    intro o w
    exact (setP (W := w) (p := p) (i := o) x).trans (ih (o + 1) _) (fun _ _ x => x) (fun _ _ x => x)
theorem there_of {W : World} {p : Nat} {t : TypeId} {l : List Value} (h : Blk W p t l) (o n : Nat) (hl : o + n ≤ l.length) : W.there p o n := fun j hj => by
  refine ⟨?_, h.free _⟩
  rw [h.cell, List.getElem?_eq_getElem (by omega)]
  rfl
end Go.Proofs.YtokooplfjibneaaGreat
