/- Right spans, cut at a step, are right. Pure. -/
import Derived.Test.YtfohpbpekdcneaaDoorHCut
import Derived.Test.YtfohpbpekdcneaaDoorHEvP
namespace Go.Proofs.YtfohpbpekdcneaaDoor
open Go.RowKit
set_option linter.unusedVariables false

theorem cutN_mem {l : List Sp} {step : Int} : ∀ {k : Nat} {x : Sp}, x ∈ cutN l step k → ∃ j t, j < k ∧ l[j]? = some t ∧ t.fr ≤ step ∧ x = cutS t step := by
  intro k
  induction k with
  | zero => intro x h; simp [cutN] at h
  | succ k ih =>
    intro x h
    rw [cutN] at h
    cases hk : l[k]? with
    | none =>
      rw [hk] at h
      obtain ⟨j, t, a, b, c, d⟩ := ih h
      exact ⟨j, t, by omega, b, c, d⟩
    | some s =>
      rw [hk] at h
      simp only at h
      split at h
      · obtain ⟨j, t, a, b, c, d⟩ := ih h
        exact ⟨j, t, by omega, b, c, d⟩
      · rename_i hs
        rcases List.mem_append.mp h with h | h
        · obtain ⟨j, t, a, b, c, d⟩ := ih h
          exact ⟨j, t, by omega, b, c, d⟩
        · simp at h
          exact ⟨k, s, by omega, hk, by omega, h⟩
theorem cutS_th (s : Sp) (step : Int) : (cutS s step).th = s.th ∧ (cutS s step).ix = s.ix ∧ (cutS s step).fr = s.fr := by
  unfold cutS; split <;> exact ⟨rfl, rfl, rfl⟩
theorem cutS_to (s : Sp) (step : Int) : (cutS s step).to = -1 ∧ step < s.to ∨ (cutS s step).to = s.to ∧ ¬ step < s.to := by
  unfold cutS; split
  · rename_i h; exact Or.inl ⟨rfl, h⟩
  · rename_i h; exact Or.inr ⟨rfl, h⟩
theorem cntN_cut {l : List Sp} {step : Int} {th : Int} : ∀ {k : Nat}, k ≤ l.length → (∀ j t, j < k → l[j]? = some t → t.th = th → t.fr ≤ step) → cntN (cutN l step k) (cutN l step k).length th = cntN l k th := by
  intro k
  induction k with
  | zero => intro _ _; simp [cutN, cntN]
  | succ k ih =>
    intro hk h
    have e := ih (by omega) (fun j t a b c => h j t (by omega) b c)
    obtain ⟨s, hs⟩ : ∃ s, l[k]? = some s := ⟨l[k], List.getElem?_eq_getElem (by omega)⟩
    rw [cntN, hs]
    simp only
    by_cases hst : step < s.fr
    · rw [cutN_no hs hst, e]
      by_cases ht : s.th = th
      · have := h k s (by omega) hs ht
        omega
      · rw [if_neg ht]
    · rw [cutN_yes hs hst]
      rw [List.length_append, List.length_singleton, cntN, List.getElem?_append_right (Nat.le_refl _)]
      simp only [Nat.sub_self, List.getElem?_cons_zero, (cutS_th s step).1]
      rw [cntN_append _ _ _ (Nat.le_refl _), e]
theorem right_cut {l : List Sp} (h : RightP l) (step : Int) : ∀ k, k ≤ l.length → RightP (cutN l step k) := by
  intro k
  induction k with
  | zero => intro _ i s hi; simp [cutN] at hi
  | succ k ih =>
    intro hk
    have hc := ih (by omega)
    obtain ⟨s, hs⟩ : ∃ s, l[k]? = some s := ⟨l[k], List.getElem?_eq_getElem (by omega)⟩
    have o := h k s (by omega) hs
    by_cases hst : step < s.fr
    · rw [cutN_no hs hst]; exact hc
    · rw [cutN_yes hs hst]
      refine hc.snoc ?_
      obtain ⟨e1, e2, e3⟩ := cutS_th s step
      have e4 := cutS_to s step
      have ofr := o.fr
      have oto := o.to
      refine ⟨by rw [e3]; exact ofr, by rw [e3]; omega, ?_, ?_, ?_⟩
      · rw [e2, e1, cntN_cut (by omega) ?_]
        · exact o.ix
        · intro j t hj ht hth
          have q := o.same j t hj ht hth
          have o2 := h j t (by omega) ht
          have := o2.to
          omega
      · intro i t hi ht hth
        obtain ⟨j, t0, hj, hl, hf, rfl⟩ := cutN_mem (List.mem_of_getElem? ht)
        rw [(cutS_th t0 step).1, e1] at hth
        have q := o.same j t0 hj hl hth
        have r := cutS_to t0 step
        rw [e3]
        omega
      · intro i t hi ht hth
        obtain ⟨j, t0, hj, hl, hf, rfl⟩ := cutN_mem (List.mem_of_getElem? ht)
        rw [(cutS_th t0 step).1, e1] at hth
        have q := o.apart j t0 hj hl hth
        have r := cutS_to t0 step
        have o2 := h j t0 (by omega) hl
        have := o2.fr
        unfold apartP at q ⊢
        rw [(cutS_th t0 step).2.2, e3]
        obtain ⟨q1, q2, q3, q4⟩ := q
        refine ⟨q1, ?_, ?_, ?_⟩
        · rcases e4 with ⟨e, _⟩ | ⟨e, _⟩ <;> rw [e] <;> omega
        · rcases r with ⟨e, _⟩ | ⟨e, _⟩ <;> rw [e] <;> omega
        · rcases r with ⟨e, _⟩ | ⟨e, _⟩
          · exact Or.inr e
          · rcases e4 with ⟨e', _⟩ | ⟨e', _⟩ <;> rw [e, e'] <;> omega
end Go.Proofs.YtfohpbpekdcneaaDoor
