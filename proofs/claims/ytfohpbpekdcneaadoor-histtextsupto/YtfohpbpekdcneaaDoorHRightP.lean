/- Which spans are right: how often a thread stands ahead, where last, whose a step is; the tests of a round are the document's. -/
import Derived.Test.YtfohpbpekdcneaaDoorHSmall
namespace Go.Proofs.YtfohpbpekdcneaaDoor
open Go.RowKit

def cntN (l : List Sp) : Nat → Int → Nat
  | 0, _ => 0
  | k + 1, th => match l[k]? with
    | none => cntN l k th
    | some s => if s.th = th then cntN l k th + 1 else cntN l k th
def lastN (l : List Sp) : Nat → Int → Option Nat
  | 0, _ => none
  | k + 1, th => match l[k]? with
    | none => lastN l k th
    | some s => if s.th = th then some k else lastN l k th
theorem cntN_le (l : List Sp) (k : Nat) (th : Int) : cntN l k th ≤ k := by
  induction k with
  | zero => simp [cntN]
  | succ k ih =>
    rw [cntN]
    split
    · omega
    · split <;> omega
theorem lastN_some {l : List Sp} {k : Nat} {th : Int} {n : Nat} (h : lastN l k th = some n) : n < k ∧ (∃ s, l[n]? = some s ∧ s.th = th) ∧ (∀ i t, n < i → i < k → l[i]? = some t → t.th ≠ th) ∧ cntN l k th = cntN l n th + 1 := by
  induction k with
  | zero => simp [lastN] at h
  | succ k ih =>
    rw [lastN] at h
    rw [cntN]
    cases hk : l[k]? with
    | none =>
      rw [hk] at h
      obtain ⟨h1, h2, h3, h4⟩ := ih h
      refine ⟨by omega, h2, fun i t a b c => ?_, h4⟩
      by_cases e : i = k
      · subst e
        rw [hk] at c
        simp at c
      · exact h3 i t a (by omega) c
    | some s =>
      rw [hk] at h
      simp only at h ⊢
      by_cases e : s.th = th
      · rw [if_pos e] at h
        simp at h
        subst h
        refine ⟨by omega, ⟨s, hk, e⟩, fun i t a b c => by omega, ?_⟩
        rw [if_pos e]
      · rw [if_neg e] at h
        obtain ⟨h1, h2, h3, h4⟩ := ih h
        refine ⟨by omega, h2, fun i t a b c => ?_, by rw [if_neg e]; exact h4⟩
        by_cases e2 : i = k
        · subst e2
          rw [hk] at c
          simp at c
          subst c
          exact e
        · exact h3 i t a (by omega) c
theorem lastN_none {l : List Sp} {k : Nat} {th : Int} (h : lastN l k th = none) : (∀ i t, i < k → l[i]? = some t → t.th ≠ th) ∧ cntN l k th = 0 := by
  induction k with
  | zero => exact ⟨fun i t a => by omega, rfl⟩
  | succ k ih =>
    rw [lastN] at h
    rw [cntN]
    cases hk : l[k]? with
    | none =>
      rw [hk] at h
      obtain ⟨h1, h2⟩ := ih h
      refine ⟨fun i t a b => ?_, h2⟩
      by_cases e : i = k
      · subst e
        rw [hk] at b
        simp at b
      · exact h1 i t (by omega) b
    | some s =>
      rw [hk] at h
      simp only at h ⊢
      by_cases e : s.th = th
      · rw [if_pos e] at h
        simp at h
      · rw [if_neg e] at h
        obtain ⟨h1, h2⟩ := ih h
        refine ⟨fun i t a b => ?_, by rw [if_neg e]; exact h2⟩
        by_cases e2 : i = k
        · subst e2
          rw [hk] at b
          simp at b
          subst b
          exact e
        · exact h1 i t (by omega) b

def apartP (a b : Sp) : Prop := a.fr ≠ b.fr ∧ a.fr ≠ b.to ∧ b.fr ≠ a.to ∧ (a.to ≠ b.to ∨ a.to = -1)
structure OkAt (l : List Sp) (k : Nat) (s : Sp) : Prop where
  fr : 0 ≤ s.fr
  to : s.to = -1 ∨ s.fr ≤ s.to
  ix : s.ix = (cntN l k s.th : Int)
  same : ∀ i t, i < k → l[i]? = some t → t.th = s.th → 0 ≤ t.to ∧ t.to < s.fr
  apart : ∀ i t, i < k → l[i]? = some t → t.th ≠ s.th → apartP t s
def RightTo (l : List Sp) (k : Nat) : Prop := ∀ i s, i < k → l[i]? = some s → OkAt l i s
def RightP (l : List Sp) : Prop := RightTo l l.length
theorem RightTo.succ {l : List Sp} {k : Nat} {s : Sp} (h : RightTo l k) (hs : l[k]? = some s) (ho : OkAt l k s) : RightTo l (k + 1) := fun i t hi ht => by
  by_cases e : i = k
  · subst e
    rw [hs] at ht
    simp at ht
    subst ht
    exact ho
  · exact h i t (by omega) ht
theorem RightTo.not {l : List Sp} {k : Nat} {s : Sp} (hk : k < l.length) (hs : l[k]? = some s) (ho : ¬ OkAt l k s) : ¬ RightP l := fun h => ho (h k s hk hs)

def touch (s : Sp) (x : Int) : Prop := s.fr = x ∨ (s.to = x ∧ 0 ≤ s.to)
def ownF (l : List Sp) : Nat → Int → Option Int
  | 0 => fun _ => none
  | k + 1 => match l[k]? with
    | none => ownF l k
    | some s => if 0 ≤ s.to then updI (updI (ownF l k) s.fr s.th) s.to s.th else updI (ownF l k) s.fr s.th
theorem ownF_succ {l : List Sp} {k : Nat} {s : Sp} (hs : l[k]? = some s) (x : Int) : (touch s x → ownF l (k + 1) x = some s.th) ∧ (¬ touch s x → ownF l (k + 1) x = ownF l k x) := by
  rw [ownF, hs]
  simp only
  refine ⟨fun h => ?_, fun h => ?_⟩
  · unfold updI
    by_cases c : 0 ≤ s.to
    · rw [if_pos c]
      by_cases e : x = s.to
      · rw [if_pos e]
      · rw [if_neg e]
        rcases h with h | h
        · rw [if_pos h.symm]
        · exact absurd h.1.symm e
    · rw [if_neg c]
      rcases h with h | h
      · rw [if_pos h.symm]
      · exact absurd h.2 c
  · unfold updI
    have h1 : x ≠ s.fr := fun e => h (.inl e.symm)
    by_cases c : 0 ≤ s.to
    · have h2 : x ≠ s.to := fun e => h (.inr ⟨e.symm, c⟩)
      rw [if_pos c]
      rw [if_neg h2, if_neg h1]
    · rw [if_neg c]
      rw [if_neg h1]
theorem ownF_iff {l : List Sp} {k : Nat} (h : RightTo l k) (x t : Int) : ownF l k x = some t ↔ ∃ i u, i < k ∧ l[i]? = some u ∧ u.th = t ∧ touch u x := by
  induction k generalizing t with
  | zero =>
    simp [ownF]
  | succ k ih =>
    have h' : RightTo l k := fun i s hi hs => h i s (by omega) hs
    cases hk : l[k]? with
    | none =>
      rw [ownF, hk]
      simp only
      rw [ih h' t]
      constructor
      · rintro ⟨i, u, a, b⟩
        exact ⟨i, u, by omega, b⟩
      · rintro ⟨i, u, a, b, c⟩
        refine ⟨i, u, ?_, b, c⟩
        by_cases e : i = k
        · subst e
          rw [hk] at b
          simp at b
        · omega
    | some s =>
      have ho := h k s (by omega) hk
      by_cases ht : touch s x
      · rw [(ownF_succ hk x).1 ht]
        constructor
        · intro e
          simp at e
          exact ⟨k, s, by omega, hk, e, ht⟩
        · rintro ⟨i, u, a, b, c, d⟩
          by_cases e : i = k
          · subst e
            rw [hk] at b
            simp at b
            subst b
            rw [c]
          · by_cases e2 : u.th = s.th
            · rw [← c, e2]
            · exfalso
              obtain ⟨p1, p2, p3, p4⟩ := ho.apart i u (by omega) b e2
              have q1 := ho.fr
              have q2 := ho.to
              rcases d with d | d <;> rcases ht with ht | ht <;> omega
      · rw [(ownF_succ hk x).2 ht, ih h' t]
        constructor
        · rintro ⟨i, u, a, b⟩
          exact ⟨i, u, by omega, b⟩
        · rintro ⟨i, u, a, b, c, d⟩
          refine ⟨i, u, ?_, b, c, d⟩
          by_cases e : i = k
          · subst e
            rw [hk] at b
            simp at b
            subst b
            exact absurd d ht
          · omega

theorem ownB_iff {f : Int → Option Int} {x t : Int} : ownB f x t = true ↔ ∀ u, f x = some u → u = t := by
  unfold ownB
  cases f x with
  | none => simp
  | some u => simp
/-- What a round tests, in the program's words. -/
structure TestAt (l : List Sp) (k : Nat) (s : Sp) : Prop where
  poss : (decide (0 ≤ s.fr) && (decide (s.to = -1) || decide (s.fr ≤ s.to))) = true
  ix : match lastN l k s.th with | none => s.ix = 0 | some n => ∀ t, l[n]? = some t → s.ix = wrap64 (t.ix + 1) ∧ aheadB t s = true
  own1 : ownB (ownF l k) s.fr s.th = true
  own2 : 0 ≤ s.to → ownB (updI (ownF l k) s.fr s.th) s.to s.th = true
theorem test_iff {l : List Sp} {k : Nat} {s : Sp} (h : RightTo l k) (hk : k < 1000000000000000) : TestAt l k s ↔ OkAt l k s := by
  constructor
  · rintro ⟨h1, h2, h3, h4⟩
    simp at h1
    have a1 := h1.1
    have a2 := h1.2
    have sm : s.ix = (cntN l k s.th : Int) ∧ ∀ i t, i < k → l[i]? = some t → t.th = s.th → 0 ≤ t.to ∧ t.to < s.fr := by
      cases hl : lastN l k s.th with
      | none =>
        rw [hl] at h2
        obtain ⟨p1, p2⟩ := lastN_none hl
        exact ⟨by rw [p2]; exact h2, fun i t a b c => absurd c (p1 i t a b)⟩
      | some n =>
        rw [hl] at h2
        obtain ⟨p1, ⟨t, pt, pth⟩, p3, p4⟩ := lastN_some hl
        obtain ⟨q1, q2⟩ := h2 t pt
        have ot := h n t p1 pt
        have e1 := ot.ix
        have c1 := cntN_le l n t.th
        rw [pth] at e1 c1
        have e2 : wrap64 (t.ix + 1) = t.ix + 1 := by unfold wrap64; omega
        simp [aheadB] at q2
        refine ⟨by rw [q1, e2, p4]; omega, fun i u a b c => ?_⟩
        by_cases e : i = n
        · subst e
          rw [pt] at b
          simp at b
          subst b
          exact q2
        · by_cases e' : i < n
          · have r := ot.same i u e' b (by rw [c, pth])
            have r2 := ot.to
            omega
          · exact absurd c (p3 i u (by omega) a b)
    refine ⟨a1, by omega, sm.1, sm.2, fun i t a b c => ?_⟩
    have g := ownF_iff h
    have k1 := ownB_iff.1 h3
    have ot := h i t a b
    have o1 := ot.fr
    have o2 := ot.to
    have n1 : ¬ touch t s.fr := fun hh => c (k1 t.th ((g s.fr t.th).2 ⟨i, t, a, b, rfl, hh⟩))
    have n2 : 0 ≤ s.to → ¬ touch t s.to := fun h0 hh => by
      have k2 := ownB_iff.1 (h4 h0) t.th
      unfold updI at k2
      by_cases e : s.to = s.fr
      · rw [e] at hh
        exact n1 hh
      · rw [if_neg e] at k2
        exact c (k2 ((g s.to t.th).2 ⟨i, t, a, b, rfl, hh⟩))
    unfold touch at n1 n2
    unfold apartP
    by_cases h0 : 0 ≤ s.to
    · have n3 := n2 h0
      omega
    · omega
  · rintro ⟨h1, h2, h3, h4, h5⟩
    have g := ownF_iff h
    have ap : ∀ i t, i < k → l[i]? = some t → t.th ≠ s.th → ¬ touch t s.fr ∧ (0 ≤ s.to → ¬ touch t s.to) := fun i t a b c => by
      obtain ⟨p1, p2, p3, p4⟩ := h5 i t a b c
      have ot := h i t a b
      have o1 := ot.fr
      have o2 := ot.to
      unfold touch
      omega
    refine ⟨by simp; omega, ?_, ?_, fun h0 => ?_⟩
    · cases hl : lastN l k s.th with
      | none =>
        obtain ⟨p1, p2⟩ := lastN_none hl
        rw [p2] at h3
        exact h3
      | some n =>
        obtain ⟨p1, ⟨t, pt, pth⟩, p3, p4⟩ := lastN_some hl
        intro u hu
        rw [pt] at hu
        simp at hu
        subst hu
        have ot := h n t p1 pt
        have e1 := ot.ix
        have c1 := cntN_le l n t.th
        rw [pth] at e1 c1
        have e2 : wrap64 (t.ix + 1) = t.ix + 1 := by unfold wrap64; omega
        refine ⟨by rw [h3, e2, p4]; omega, ?_⟩
        have := h4 n t p1 pt pth
        simp [aheadB]
        exact this
    · rw [ownB_iff]
      intro u hu
      obtain ⟨i, t, a, b, c, d⟩ := (g _ _).1 hu
      by_cases e : t.th = s.th
      · rw [← c, e]
      · exact absurd d (ap i t a b e).1
    · rw [ownB_iff]
      intro u hu
      unfold updI at hu
      by_cases e0 : s.to = s.fr
      · rw [if_pos e0] at hu
        simp at hu
        exact hu.symm
      · rw [if_neg e0] at hu
        obtain ⟨i, t, a, b, c, d⟩ := (g _ _).1 hu
        by_cases e : t.th = s.th
        · rw [← c, e]
        · exact absurd d ((ap i t a b e).2 h0)
end Go.Proofs.YtfohpbpekdcneaaDoor
