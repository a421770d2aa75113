/- What events tell are ints of the program. -/
import Derived.Test.YtmdeodijcmeflabHEvP
namespace Go.Proofs.Ytmdeodijcmeflab
open Go.RowKit

theorem evNext_ok {sp sp' : List Sp} {e : Evt} (h : ∀ s ∈ sp, s.Ok) (he : e.Ok) (hn : evNext sp e = some sp') : ∀ s ∈ sp', s.Ok := by
  have new : (⟨e.th, e.ix, e.st, -1⟩ : Sp).Ok := ⟨he.th, he.ix, he.st, (show isI (-1) from ⟨by decide, by decide⟩)⟩
  have app : ∀ s ∈ sp ++ [(⟨e.th, e.ix, e.st, -1⟩ : Sp)], s.Ok := by
    intro s hs
    rw [List.mem_append, List.mem_singleton] at hs
    rcases hs with hs | rfl
    · exact h s hs
    · exact new
  unfold evNext at hn
  cases hl : lastN sp sp.length e.th with
  | none =>
    rw [hl] at hn
    simp only at hn
    by_cases c : e.ret = false ∧ e.ix = 0
    · rw [if_pos c] at hn
      simp at hn
      subst hn
      exact app
    · rw [if_neg c] at hn
      simp at hn
  | some n =>
    rw [hl] at hn
    obtain ⟨p1, ⟨s, ps, pth⟩, _⟩ := lastN_some hl
    simp only [ps] at hn
    have os := h s (List.mem_of_getElem? ps)
    by_cases c : e.ret = true ∧ s.to = -1 ∧ e.ix = s.ix
    · rw [if_pos c] at hn
      simp at hn
      subst hn
      intro t ht
      rcases List.mem_or_eq_of_mem_set ht with h1 | rfl
      · exact h t h1
      · exact ⟨os.th, os.ix, os.fr, he.st⟩
    · rw [if_neg c] at hn
      by_cases c2 : e.ret = false ∧ s.to ≠ -1 ∧ e.ix = wrap64 (s.ix + 1)
      · rw [if_pos c2] at hn
        simp at hn
        subst hn
        exact app
      · rw [if_neg c2] at hn
        simp at hn
theorem ev_ok {es : List Evt} (h : ∀ e ∈ es, e.Ok) (k : Nat) (sp : List Sp) (hr : runEv es k = some sp) : ∀ s ∈ sp, s.Ok := by
  induction k generalizing sp with
  | zero =>
    simp [runEv] at hr
    subst hr
    intro s hs
    simp at hs
  | succ k ih =>
    rw [runEv] at hr
    cases h1 : runEv es k with
    | none => simp [h1] at hr
    | some sp0 =>
      cases h2 : es[k]? with
      | none => simp [h1, h2] at hr
      | some e =>
        simp only [h1, h2] at hr
        by_cases c : evOk es k e = true
        · rw [if_pos c] at hr
          exact evNext_ok (ih sp0 h1) (h e (List.mem_of_getElem? h2)) hr
        · rw [if_neg c] at hr
          simp at hr
end Go.Proofs.Ytmdeodijcmeflab
