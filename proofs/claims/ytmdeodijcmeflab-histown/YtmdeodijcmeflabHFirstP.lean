/- What stands first: by the two left spans that return soonest, as by all. -/
import Derived.Test.YtmdeodijcmeflabHEvP
namespace Go.Proofs.Ytmdeodijcmeflab
open Go.RowKit

def leftB (b : List Bool) (i : Nat) : Bool := (b[i]?).getD false
def aheadAt (l : List Sp) (k i : Nat) : Bool := match l[k]?, l[i]? with
  | some t, some s => aheadB t s
  | _, _ => false
def FirstP (l : List Sp) (b : List Bool) (i : Nat) : Prop := leftB b i = true ∧ ∀ k, k < l.length → k ≠ i → leftB b k = true → aheadAt l k i = false
/-- Left, and returned. -/
def Cand (l : List Sp) (b : List Bool) (i : Nat) : Prop := leftB b i = true ∧ ∃ s, l[i]? = some s ∧ 0 ≤ s.to
def toAt (l : List Sp) (i : Nat) : Int := match l[i]? with | some s => s.to | none => 0
structure Soon (l : List Sp) (b : List Bool) (k : Nat) (so se : Option Nat) : Prop where
  no1 : so = none → ∀ i, i < k → ¬ Cand l b i
  is1 : ∀ a, so = some a → a < k ∧ Cand l b a ∧ ∀ i, i < k → Cand l b i → toAt l a ≤ toAt l i
  no2 : ∀ a, so = some a → se = none → ∀ i, i < k → Cand l b i → i = a
  is2 : ∀ c, se = some c → ∃ a, so = some a ∧ c ≠ a ∧ c < k ∧ Cand l b c ∧ ∀ i, i < k → i ≠ a → Cand l b i → toAt l c ≤ toAt l i
theorem Soon.zero (l : List Sp) (b : List Bool) : Soon l b 0 none none := ⟨fun _ i hi => by omega, fun a h => by simp at h, fun a h => by simp at h, fun a h => by simp at h⟩
theorem Soon.skip {l : List Sp} {b : List Bool} {k : Nat} {so se : Option Nat} (h : Soon l b k so se) (hc : ¬ Cand l b k) : Soon l b (k + 1) so se := by
  have key : ∀ i, i < k + 1 → Cand l b i → i < k := fun i hi c => by
    by_cases e : i = k
    · subst e; exact absurd c hc
    · omega
  refine ⟨fun e i hi c => h.no1 e i (key i hi c) c, fun a e => ?_, fun a e e2 i hi c => h.no2 a e e2 i (key i hi c) c, fun c e => ?_⟩
  · obtain ⟨h1, h2, h3⟩ := h.is1 a e
    exact ⟨by omega, h2, fun i hi c => h3 i (key i hi c) c⟩
  · obtain ⟨a, h1, h2, h3, h4, h5⟩ := h.is2 c e
    exact ⟨a, h1, h2, by omega, h4, fun i hi hn cc => h5 i (key i hi cc) hn cc⟩
theorem Soon.first {l : List Sp} {b : List Bool} {k : Nat} {so se : Option Nat} (h : Soon l b k so se) (hc : Cand l b k) (hs : ∀ a, so = some a → toAt l k < toAt l a) : Soon l b (k + 1) (some k) so := by
  refine ⟨fun e => by simp at e, fun a e => ?_, fun a e e2 i hi c => ?_, fun c e => ?_⟩
  · simp at e
    subst e
    refine ⟨by omega, hc, fun i hi c => ?_⟩
    by_cases ei : i = k
    · subst ei; exact Int.le_refl _
    · cases hso : so with
      | none => exact absurd c (h.no1 hso i (by omega))
      | some a =>
        have h1 := hs a hso
        have h2 := (h.is1 a hso).2.2 i (by omega) c
        omega
  · simp at e
    subst e
    by_cases ei : i = k
    · exact ei
    · exact absurd c (h.no1 e2 i (by omega))
  · obtain ⟨h1, h2, h3⟩ := h.is1 c e
    refine ⟨k, rfl, by omega, by omega, h2, fun i hi hn cc => ?_⟩
    exact h3 i (by omega) cc
theorem Soon.second {l : List Sp} {b : List Bool} {k : Nat} {so se : Option Nat} {a : Nat} (h : Soon l b k so se) (ha : so = some a) (hc : Cand l b k) (h1 : ¬ toAt l k < toAt l a) (h2 : ∀ c, se = some c → toAt l k < toAt l c) : Soon l b (k + 1) so (some k) := by
  obtain ⟨p1, p2, p3⟩ := h.is1 a ha
  refine ⟨fun e => by rw [ha] at e; simp at e, fun a' e => ?_, fun a' e e2 => by simp at e2, fun c e => ?_⟩
  · rw [ha] at e
    simp at e
    subst e
    refine ⟨by omega, p2, fun i hi cc => ?_⟩
    by_cases ei : i = k
    · subst ei; omega
    · exact p3 i (by omega) cc
  · simp at e
    subst e
    refine ⟨a, ha, by omega, by omega, hc, fun i hi hn cc => ?_⟩
    by_cases ei : i = k
    · subst ei; exact Int.le_refl _
    · cases hse : se with
      | none => exact absurd (h.no2 a ha hse i (by omega) cc) hn
      | some c =>
        obtain ⟨a', q1, q2, q3, q4, q5⟩ := h.is2 c hse
        rw [ha] at q1
        simp at q1
        subst q1
        have := q5 i (by omega) hn cc
        have := h2 c hse
        omega
theorem Soon.keep {l : List Sp} {b : List Bool} {k : Nat} {so se : Option Nat} {a c : Nat} (h : Soon l b k so se) (ha : so = some a) (hb : se = some c) (h1 : ¬ toAt l k < toAt l a) (h2 : ¬ toAt l k < toAt l c) : Soon l b (k + 1) so se := by
  obtain ⟨p1, p2, p3⟩ := h.is1 a ha
  obtain ⟨a', q1, q2, q3, q4, q5⟩ := h.is2 c hb
  rw [ha] at q1
  simp at q1
  subst q1
  refine ⟨fun e => by rw [ha] at e; simp at e, fun a' e => ?_, fun a' e e2 => by rw [hb] at e2; simp at e2, fun c' e => ?_⟩
  · rw [ha] at e
    simp at e
    subst e
    refine ⟨by omega, p2, fun i hi cc => ?_⟩
    by_cases ei : i = k
    · subst ei; omega
    · exact p3 i (by omega) cc
  · rw [hb] at e
    simp at e
    subst e
    refine ⟨a, ha, q2, by omega, q4, fun i hi hn cc => ?_⟩
    by_cases ei : i = k
    · subst ei; omega
    · exact q5 i (by omega) hn cc
theorem aheadAt_of {l : List Sp} {k i : Nat} {t s : Sp} (ht : l[k]? = some t) (hs : l[i]? = some s) : aheadAt l k i = aheadB t s := by unfold aheadAt; rw [ht, hs]
theorem toAt_of {l : List Sp} {k : Nat} {t : Sp} (ht : l[k]? = some t) : toAt l k = t.to := by unfold toAt; rw [ht]
def rivalN (so se : Option Nat) (i : Nat) : Option Nat := if so = some i then se else so
/-- The rival decides. -/
theorem first_iff {l : List Sp} {b : List Bool} {so se : Option Nat} {i : Nat} (m : Nat) (hm : m ≤ l.length) (hb : ∀ k, m ≤ k → k < l.length → leftB b k = false) (h : Soon l b m so se) (hi : i < l.length) (hl : leftB b i = true) :
    FirstP l b i ↔ ∀ r, rivalN so se i = some r → aheadAt l r i = false := by
  obtain ⟨s, hs⟩ : ∃ s, l[i]? = some s := ⟨l[i], List.getElem?_eq_getElem hi⟩
  constructor
  · rintro ⟨_, h2⟩ r hr
    unfold rivalN at hr
    by_cases c : so = some i
    · rw [if_pos c] at hr
      obtain ⟨a, q1, q2, q3, q4, _⟩ := h.is2 r hr
      rw [c] at q1
      simp at q1
      subst q1
      exact h2 r (by omega) q2 q4.1
    · rw [if_neg c] at hr
      obtain ⟨q1, q2, _⟩ := h.is1 r hr
      exact h2 r (by omega) (fun e => by subst e; exact c hr) q2.1
  · intro hr
    refine ⟨hl, fun k hk hne hlk => ?_⟩
    obtain ⟨t, ht⟩ : ∃ t, l[k]? = some t := ⟨l[k], List.getElem?_eq_getElem hk⟩
    rw [aheadAt_of ht hs]
    have hkm : k < m := by
      by_cases c : k < m
      · exact c
      · rw [hb k (by omega) hk] at hlk; simp at hlk
    by_cases h0 : 0 ≤ t.to
    · have hc : Cand l b k := ⟨hlk, t, ht, h0⟩
      have key : ∀ r, rivalN so se i = some r → toAt l r ≤ toAt l k → (∃ u, l[r]? = some u ∧ 0 ≤ u.to) → aheadB t s = false := fun r hrv hle ⟨u, hu, hu0⟩ => by
        have h1 := hr r hrv
        rw [aheadAt_of hu hs] at h1
        rw [toAt_of hu, toAt_of ht] at hle
        unfold aheadB at h1 ⊢
        simp [hu0, h0] at h1 ⊢
        omega
      cases hso : so with
      | none => exact absurd hc (h.no1 hso k hkm)
      | some a =>
        obtain ⟨p1, p2, p3⟩ := h.is1 a hso
        by_cases c : a = i
        · subst c
          cases hse : se with
          | none => exact absurd (h.no2 a hso hse k hkm hc) hne
          | some d =>
            obtain ⟨a', q1, q2, q3, q4, q5⟩ := h.is2 d hse
            rw [hso] at q1
            simp at q1
            subst q1
            exact key d (by unfold rivalN; rw [if_pos hso, hse]) (q5 k hkm hne hc) q4.2
        · exact key a (by unfold rivalN; rw [if_neg (by rw [hso]; simp [c]), hso]) (p3 k hkm hc) p2.2
    · simp [aheadB, h0]
def firstB (l : List Sp) (b : List Bool) (i : Nat) : Bool := leftB b i && (List.range l.length).all fun k => (k == i) || !leftB b k || !aheadAt l k i
theorem firstB_iff {l : List Sp} {b : List Bool} {i : Nat} : firstB l b i = true ↔ FirstP l b i := by
  unfold firstB FirstP
  simp only [Bool.and_eq_true, List.all_eq_true, List.mem_range, Bool.or_eq_true, beq_iff_eq, Bool.not_eq_true']
  constructor
  · rintro ⟨h1, h2⟩
    refine ⟨h1, fun k hk hne hl => ?_⟩
    rcases h2 k hk with (h | h) | h
    · exact absurd h hne
    · rw [hl] at h; simp at h
    · exact h
  · rintro ⟨h1, h2⟩
    refine ⟨h1, fun k hk => ?_⟩
    by_cases c : k = i
    · exact .inl (.inl c)
    · cases hl : leftB b k with
      | false => exact .inl (.inr rfl)
      | true => exact .inr (h2 k hk c hl)
def firstsN (l : List Sp) (b : List Bool) : Nat → List Nat
  | 0 => []
  | k + 1 => if firstB l b k = true then firstsN l b k ++ [k] else firstsN l b k
theorem firstsN_yes {l : List Sp} {b : List Bool} {k : Nat} (h : FirstP l b k) : firstsN l b (k + 1) = firstsN l b k ++ [k] := by rw [firstsN, if_pos (firstB_iff.2 h)]
theorem firstsN_no {l : List Sp} {b : List Bool} {k : Nat} (h : ¬ FirstP l b k) : firstsN l b (k + 1) = firstsN l b k := by rw [firstsN, if_neg (fun e => h (firstB_iff.1 e))]
theorem firstsN_le (l : List Sp) (b : List Bool) (k : Nat) : (firstsN l b k).length ≤ k := by
  induction k with
  | zero => simp [firstsN]
  | succ k ih =>
    by_cases c : FirstP l b k
    · rw [firstsN_yes c]; simp; exact ih
    · rw [firstsN_no c]; omega
theorem firstsN_mem {l : List Sp} {b : List Bool} {k n : Nat} (h : n ∈ firstsN l b k) : n < k ∧ FirstP l b n := by
  induction k with
  | zero => simp [firstsN] at h
  | succ k ih =>
    by_cases c : FirstP l b k
    · rw [firstsN_yes c] at h
      simp at h
      rcases h with h | h
      · exact ⟨by have := (ih h).1; omega, (ih h).2⟩
      · subst h; exact ⟨by omega, c⟩
    · rw [firstsN_no c] at h
      exact ⟨by have := (ih h).1; omega, (ih h).2⟩
theorem firstsN_has {l : List Sp} {b : List Bool} {k n : Nat} (hn : n < k) (h : FirstP l b n) : n ∈ firstsN l b k := by
  induction k with
  | zero => omega
  | succ k ih =>
    by_cases e : n = k
    · subst e
      rw [firstsN_yes h]
      simp
    · have := ih (by omega)
      by_cases c : FirstP l b k
      · rw [firstsN_yes c]; simp [this]
      · rw [firstsN_no c]; exact this
/-- Behind the left list's end nothing stands first. -/
theorem firstsN_past {l : List Sp} {b : List Bool} {m : Nat} (hb : ∀ k, m ≤ k → k < l.length → leftB b k = false) (k : Nat) (hk : m ≤ k) (hl : k ≤ l.length) : firstsN l b k = firstsN l b m := by
  induction k with
  | zero => obtain rfl : m = 0 := by omega
            rfl
  | succ k ih =>
    by_cases e : m = k + 1
    · rw [e]
    · rw [firstsN_no (fun h => by have := h.1; rw [hb k (by omega) (by omega)] at this; simp at this), ih (by omega) (by omega)]
end Go.Proofs.Ytmdeodijcmeflab
