/- The model's tells and do, of the operations that are asked for. -/
import Derived.Test.YtbmfjcdafjknaabMsL
namespace Go.Proofs.Ytbmfjcdafjknaab
open Go.RowKit
set_option linter.unusedVariables false

theorem bset {w : World} {g : Nat} {cs : Array Value} {t : TypeId} (h : w.heap[g]? = some (.cells cs t (0, 0))) (i : Nat) (v : Value) : (w.setCell ⟨g, i, none⟩ v).heap[g]? = some (.cells (cs.setIfInBounds i v) t (0, 0)) := set_of h i v
theorem setP {W : World} {p i : Nat} (u : Value) : Chg (fun k => k = p) W (W.setCell ⟨p, i, none⟩ u) := (Chg.refl (fun k => k = p) W).setCell (p := ⟨p, i, none⟩) (fun _ => rfl) u
theorem setCells_of (t : TypeId) (p : Nat) (vs : List Value) : ∀ (pre old post : List Value) (w : World), w.heap[p]? = some (.cells (pre ++ old ++ post).toArray t (0, 0)) → old.length = vs.length → (w.setCells p pre.length vs).heap[p]? = some (.cells (pre ++ vs ++ post).toArray t (0, 0)) := by
  induction vs with
  | nil =>
    intro pre old post w h hl
    obtain rfl : old = [] := List.length_eq_zero_iff.1 hl
    simpa [World.setCells] using h
  | cons x vs ih =>
    intro pre old post w h hl
    obtain ⟨y, old', rfl⟩ : ∃ y old', old = y :: old' := by
      cases old with
      | nil => simp at hl
      | cons y o => exact ⟨y, o, rfl⟩
    have h1 := set_of h pre.length x
    have e : (pre ++ y :: old' ++ post).toArray.setIfInBounds pre.length x = ((pre ++ [x]) ++ old' ++ post).toArray := by
      rw [List.setIfInBounds_toArray]
      congr 1
      simp
    rw [e] at h1
    have h2 := ih (pre ++ [x]) old' post (w.setCell ⟨p, pre.length, none⟩ x) h1 (by simpa using hl)
    simp only [List.length_append, List.length_singleton] at h2
    simpa [World.setCells] using h2
theorem setCells_chg (p : Nat) (vs : List Value) : ∀ (o : Nat) (w : World), Chg (fun k => k = p) w (w.setCells p o vs) := by
  induction vs with
  | nil => intro o w; exact Chg.refl _ _
  | cons x vs ih =>
    intro o w
    exact (setP (W := w) (p := p) (i := o) x).trans (ih (o + 1) _) (fun _ _ x => x) (fun _ _ x => x)
end Go.Proofs.Ytbmfjcdafjknaab
