/- A trace that plays. -/
import Derived.Test.YtjnkefggmklaoaaATr3
namespace Go.Proofs.Ytjnkefggmklaoaa
open Go.RowKit Go.Shelf
set_option linter.unusedVariables false

def setAt {α : Type} (f : Nat → α) (i : Nat) (v : α) : Nat → α := fun j => if j = i then v else f j
theorem setAt_same {α : Type} (f : Nat → α) (i : Nat) (v : α) : setAt f i v i = v := by simp [setAt]
theorem setAt_other {α : Type} (f : Nat → α) (i j : Nat) (v : α) (h : j ≠ i) : setAt f i v j = f j := by simp [setAt, h]

/-- The cells and the first free one behind each access of a trace. -/
structure Plays (most : Nat) (l : List Acc) (cs : List Nat) (next : Nat) (st : Nat → List Nat × Nat) : Prop where
  zero : st 0 = ([], 1)
  step : ∀ i x, l[i]? = some x → Ply most (st i).1 (st i).2 x (st (i + 1)).1 (st (i + 1)).2
  last : st l.length = (cs, next)
  small : ∀ x ∈ l, x.vals.length ≤ 1048576 ∧ x.addr < 18446744073709551616
  lt : ∀ i j, i ≤ l.length → cellN (st i).1 j < 18446744073709551616

theorem Plays.start (most : Nat) : Plays most [] [] 1 (fun _ => ([], 1)) := ⟨rfl, fun i x h => by simp at h, rfl, fun x h => by simp at h, fun i j _ => by simp [cellN]⟩
theorem Plays.more {most next next' : Nat} {l : List Acc} {cs cs' : List Nat} {st : Nat → List Nat × Nat} {x : Acc} (h : Plays most l cs next st) (hx : Ply most cs next x cs' next') (hs : x.vals.length ≤ 1048576 ∧ x.addr < 18446744073709551616) (hc : ∀ j, cellN cs' j < 18446744073709551616) : Plays most (l ++ [x]) cs' next' (setAt st (l.length + 1) (cs', next')) := by
  refine ⟨by rw [setAt_other _ _ _ _ (by omega)]; exact h.zero, fun i y hy => ?_, by rw [List.length_append]; exact setAt_same _ _ _, fun y hy => ?_, fun i j hi => ?_⟩
  · by_cases hi : i < l.length
    · rw [List.getElem?_append_left hi] at hy
      rw [setAt_other _ _ _ _ (by omega), setAt_other _ _ _ _ (by omega)]
      exact h.step i y hy
    · have h2 := (List.getElem?_eq_some_iff.1 hy).1
      simp at h2
      obtain rfl : i = l.length := by omega
      rw [List.getElem?_append_right (Nat.le_refl _)] at hy
      simp at hy
      subst hy
      rw [setAt_other _ _ _ _ (by omega), setAt_same, h.last]
      exact hx
  · rcases List.mem_append.1 hy with e | e
    · exact h.small y e
    · rw [List.mem_singleton.1 e]
      exact hs
  · simp at hi
    by_cases e : i = l.length + 1
    · subst e
      rw [setAt_same]
      exact hc j
    · rw [setAt_other _ _ _ _ e]
      exact h.lt i j (by omega)
theorem Ply.next {most next next' : Nat} {cs cs' : List Nat} {x : Acc} (h : Ply most cs next x cs' next') (hn : 1 ≤ next ∧ next ≤ most) : 1 ≤ next' ∧ next' ≤ most := by
  rcases h with ⟨_, _, _, rfl⟩ | ⟨_, _, rfl⟩ | ⟨_, _, _, rfl⟩ | ⟨_, _, _, rfl⟩ | ⟨_, _, _, rfl⟩
  · exact hn
  · exact hn
  · exact hn
  · exact hn
  · unfold alNext
    split
    · next e => obtain ⟨e1, e2⟩ := e; omega
    · exact hn
theorem Plays.nexts {most next : Nat} {l : List Acc} {cs : List Nat} {st : Nat → List Nat × Nat} (h : Plays most l cs next st) (hm : 1 ≤ most) (i : Nat) (hi : i ≤ l.length) : 1 ≤ (st i).2 ∧ (st i).2 ≤ most := by
  induction i with
  | zero => rw [h.zero]; exact ⟨Nat.le_refl _, hm⟩
  | succ i ih =>
    have hlt : i < l.length := by omega
    exact (h.step i l[i] (List.getElem?_eq_getElem hlt)).next (ih (by omega))
end Go.Proofs.Ytjnkefggmklaoaa
