/- Orders cut anywhere have, with a span, all that are ahead of it. -/
import Derived.Test.YtmdeodijcmeflaaHKeepsP
namespace Go.Proofs.Ytmdeodijcmeflaa
open Go.RowKit

def GoodTo (l : List Sp) (k : Nat) : Prop := ∀ (i : Nat) (s : Sp), i < k → l[i]? = some s → 0 ≤ s.to → s.fr ≤ s.to
theorem GoodTo.succ {l : List Sp} {k : Nat} {s : Sp} (h : GoodTo l k) (hs : l[k]? = some s) (hg : 0 ≤ s.to → s.fr ≤ s.to) : GoodTo l (k + 1) := fun i t hi ht => by
  by_cases e : i = k
  · subst e
    rw [hs] at ht
    simp at ht
    subst ht
    exact hg
  · exact h i t (by omega) ht
theorem begins {l : List Sp} {o : List Int} (h : KeepsP l o) (hg : GoodTo l l.length) {i k m : Nat} {s t : Sp} (hk : k < l.length) (hi : o[i]? = some (m : Int)) (hs : l[m]? = some s) (ht : l[k]? = some t) (ha : aheadB t s = true) : ∃ n : Nat, n < i ∧ o[n]? = some (k : Int) := by
  simp [aheadB] at ha
  obtain ⟨n, hn⟩ := h.2 k t hk ht ha.1
  have hil := (List.getElem?_eq_some_iff.1 hi).1
  have hnl := (List.getElem?_eq_some_iff.1 hn).1
  by_cases c : n < i
  · exact ⟨n, c, hn⟩
  · exfalso
    by_cases e : n = i
    · subst e
      rw [hn] at hi
      simp at hi
      obtain rfl : k = m := by omega
      rw [ht] at hs
      simp at hs
      subst hs
      have := hg k t hk ht ha.1
      omega
    · have := h.1.order i n (m : Int) (k : Int) s t (by omega) hnl hi hn (by simpa using hs) (by simpa using ht)
      simp [aheadB, ha.1] at this
      omega
def thereN (o : List Int) (x : Int) : Nat → Bool
  | 0 => false
  | j + 1 => thereN o x j || (match o[j]? with | some a => decide (a = x) | none => false)
theorem thereN_succ {o : List Int} {x a : Int} {j : Nat} (ha : o[j]? = some a) : thereN o x (j + 1) = (thereN o x j || decide (a = x)) := by rw [thereN, ha]
theorem thereN_of {o : List Int} {x : Int} {n j : Nat} (hn : n < j) (h : o[n]? = some x) : thereN o x j = true := by
  induction j with
  | zero => omega
  | succ j ih =>
    rw [thereN]
    by_cases e : n = j
    · subst e
      rw [h]
      simp
    · rw [ih (by omega)]
      rfl
end Go.Proofs.Ytmdeodijcmeflaa
