/- Orders that keep a history; what has been placed so far, the latest begin so far. -/
import Derived.Test.YtnlkdibalhgipaaHEvP
namespace Go.Proofs.Ytnlkdibalhgipaa
open Go.RowKit

structure KeepsTo (l : List Sp) (o : List Int) (k : Nat) : Prop where
  each : ∀ (i : Nat) (n : Int), i < k → o[i]? = some n → 0 ≤ n ∧ n < (l.length : Int)
  once : ∀ (i j : Nat) (n : Int), i < j → j < k → o[i]? = some n → o[j]? ≠ some n
  order : ∀ (i j : Nat) (a b : Int) (s t : Sp), i < j → j < k → o[i]? = some a → o[j]? = some b → l[a.toNat]? = some s → l[b.toNat]? = some t → aheadB t s = false
def AllIn (l : List Sp) (o : List Int) (k : Nat) : Prop := ∀ (n : Nat) (s : Sp), n < k → l[n]? = some s → 0 ≤ s.to → ∃ i : Nat, o[i]? = some (n : Int)
def KeepsP (l : List Sp) (o : List Int) : Prop := KeepsTo l o o.length ∧ AllIn l o l.length
theorem KeepsTo.mono {l : List Sp} {o : List Int} {k m : Nat} (h : KeepsTo l o k) (hm : m ≤ k) : KeepsTo l o m :=
  ⟨fun i n hi => h.each i n (by omega), fun i j n hi hj => h.once i j n hi (by omega), fun i j a b s t hi hj => h.order i j a b s t hi (by omega)⟩
theorem KeepsTo.zero (l : List Sp) (o : List Int) : KeepsTo l o 0 := ⟨fun i n hi => by omega, fun i j n hi hj => by omega, fun i j a b s t hi hj => by omega⟩
/-- What a round asks. -/
structure KeepAt (l : List Sp) (o : List Int) (k : Nat) (a : Int) : Prop where
  lo : 0 ≤ a
  hi : a < (l.length : Int)
  new : ∀ (i : Nat), i < k → o[i]? ≠ some a
  order : ∀ (i : Nat) (b : Int) (s t : Sp), i < k → o[i]? = some b → l[b.toNat]? = some s → l[a.toNat]? = some t → aheadB t s = false
theorem KeepsTo.succ {l : List Sp} {o : List Int} {k : Nat} {a : Int} (h : KeepsTo l o k) (ha : o[k]? = some a) (t : KeepAt l o k a) : KeepsTo l o (k + 1) := by
  refine ⟨fun i n hi hn => ?_, fun i j n hi hj h1 h2 => ?_, fun i j b c s u hi hj h1 h2 h3 h4 => ?_⟩
  · by_cases e : i = k
    · subst e
      rw [ha] at hn
      simp at hn
      subst hn
      exact ⟨t.lo, t.hi⟩
    · exact h.each i n (by omega) hn
  · by_cases e : j = k
    · subst e
      rw [ha] at h2
      simp at h2
      subst h2
      exact t.new i (by omega) h1
    · exact h.once i j n hi (by omega) h1 h2
  · by_cases e : j = k
    · subst e
      rw [ha] at h2
      simp at h2
      subst h2
      exact t.order i b s u (by omega) h1 h3 h4
    · exact h.order i j b c s u hi (by omega) h1 h2 h3 h4
theorem KeepsTo.at {l : List Sp} {o : List Int} {k : Nat} {a : Int} (h : KeepsTo l o (k + 1)) (ha : o[k]? = some a) : KeepAt l o k a :=
  ⟨(h.each k a (by omega) ha).1, (h.each k a (by omega) ha).2, fun i hi e => h.once i k a hi (by omega) e ha, fun i b s t hi hb hs ht => h.order i k b a s t hi (by omega) hb ha hs ht⟩
theorem KeepsP.not {l : List Sp} {o : List Int} {k : Nat} {a : Int} (ha : o[k]? = some a) (hn : ¬ KeepAt l o k a) : ¬ KeepsP l o := fun h =>
  hn ((h.1.mono (by have := (List.getElem?_eq_some_iff.1 ha).1; omega)).at ha)

def plN (l : List Sp) (o : List Int) : Nat → List Bool
  | 0 => List.replicate l.length false
  | k + 1 => match o[k]? with
    | none => plN l o k
    | some a => (plN l o k).set a.toNat true
theorem plN_length (l : List Sp) (o : List Int) (k : Nat) : (plN l o k).length = l.length := by
  induction k with
  | zero => simp [plN]
  | succ k ih =>
    rw [plN]
    split
    · exact ih
    · rw [List.length_set]; exact ih
theorem plN_succ {l : List Sp} {o : List Int} {k : Nat} {a : Int} (ha : o[k]? = some a) : plN l o (k + 1) = (plN l o k).set a.toNat true := by rw [plN, ha]
theorem plN_get {l : List Sp} {o : List Int} {k : Nat} (hk : k ≤ o.length) (h : ∀ (i : Nat) (n : Int), i < k → o[i]? = some n → 0 ≤ n) {n : Nat} (hn : n < l.length) : ∃ b, (plN l o k)[n]? = some b ∧ (b = true ↔ ∃ i : Nat, i < k ∧ o[i]? = some (n : Int)) := by
  induction k with
  | zero => exact ⟨false, by simp [plN, hn], by simp⟩
  | succ k ih =>
    obtain ⟨a, ha⟩ : ∃ a, o[k]? = some a := ⟨o[k], List.getElem?_eq_getElem (by omega)⟩
    obtain ⟨b, hb, hi⟩ := ih (by omega) (fun i n hi => h i n (by omega))
    have h0 := h k a (by omega) ha
    rw [plN_succ ha, List.getElem?_set, plN_length]
    by_cases c : a.toNat = n
    · rw [if_pos c, if_pos (by omega)]
      exact ⟨true, rfl, by simp only [true_iff]; exact ⟨k, by omega, by rw [ha]; congr 1; omega⟩⟩
    · rw [if_neg c]
      refine ⟨b, hb, hi.trans ⟨fun ⟨i, p, q⟩ => ⟨i, by omega, q⟩, fun ⟨i, p, q⟩ => ⟨i, ?_, q⟩⟩⟩
      by_cases e : i = k
      · subst e
        rw [ha] at q
        simp at q
        omega
      · omega
def lateN (l : List Sp) (o : List Int) : Nat → Int
  | 0 => -9223372036854775808
  | k + 1 => match o[k]? with
    | none => lateN l o k
    | some a => match l[a.toNat]? with
      | none => lateN l o k
      | some s => if lateN l o k < s.fr then s.fr else lateN l o k
theorem lateN_succ {l : List Sp} {o : List Int} {k : Nat} {a : Int} {s : Sp} (ha : o[k]? = some a) (hs : l[a.toNat]? = some s) : lateN l o (k + 1) = if lateN l o k < s.fr then s.fr else lateN l o k := by
  rw [lateN, ha]
  simp only [hs]
theorem lateN_iff (l : List Sp) (o : List Int) (k : Nat) (x : Int) (hx : 0 ≤ x) : x < lateN l o k ↔ ∃ (i : Nat) (a : Int) (s : Sp), i < k ∧ o[i]? = some a ∧ l[a.toNat]? = some s ∧ x < s.fr := by
  induction k with
  | zero =>
    simp only [lateN]
    constructor
    · intro h; omega
    · rintro ⟨i, a, s, h, _⟩; omega
  | succ k ih =>
    have up : (∃ (i : Nat) (a : Int) (s : Sp), i < k ∧ o[i]? = some a ∧ l[a.toNat]? = some s ∧ x < s.fr) → ∃ (i : Nat) (a : Int) (s : Sp), i < k + 1 ∧ o[i]? = some a ∧ l[a.toNat]? = some s ∧ x < s.fr := fun ⟨i, a, s, h1, h2⟩ => ⟨i, a, s, by omega, h2⟩
    rw [lateN]
    split
    · rename_i hn
      rw [ih]
      refine ⟨up, fun ⟨i, a, s, h1, h2, h3⟩ => ⟨i, a, s, ?_, h2, h3⟩⟩
      by_cases e : i = k
      · subst e; rw [hn] at h2; simp at h2
      · omega
    · rename_i a ha
      split
      · rename_i hn
        rw [ih]
        refine ⟨up, fun ⟨i, b, s, h1, h2, h3, h4⟩ => ⟨i, b, s, ?_, h2, h3, h4⟩⟩
        by_cases e : i = k
        · subst e; rw [ha] at h2; simp at h2; subst h2; rw [hn] at h3; simp at h3
        · omega
      · rename_i s hs
        constructor
        · intro h
          by_cases c : lateN l o k < s.fr
          · rw [if_pos c] at h
            exact ⟨k, a, s, by omega, ha, hs, h⟩
          · rw [if_neg c] at h
            exact up (ih.1 h)
        · rintro ⟨i, b, t, h1, h2, h3, h4⟩
          by_cases e : i = k
          · subst e
            rw [ha] at h2
            simp at h2
            subst h2
            rw [hs] at h3
            simp at h3
            subst h3
            split <;> omega
          · have := ih.2 ⟨i, b, t, by omega, h2, h3, h4⟩
            split <;> omega
theorem lateN_isI (l : List Sp) (hl : ∀ s ∈ l, s.Ok) (o : List Int) (k : Nat) : isI (lateN l o k) := by
  induction k with
  | zero => exact ⟨by simp [lateN], by simp [lateN]⟩
  | succ k ih =>
    rw [lateN]
    split
    · exact ih
    · split
      · exact ih
      · rename_i s hs
        split
        · exact (hl s (List.mem_of_getElem? hs)).fr
        · exact ih
/-- A round's tests, as the program makes them. -/
theorem keep_test {l : List Sp} {o : List Int} {k : Nat} {a : Int} {s : Sp} {b : Bool} (hk : k ≤ o.length) (h : KeepsTo l o k) (h0 : 0 ≤ a) (h1 : a < (l.length : Int)) (hs : l[a.toNat]? = some s) (hb : (plN l o k)[a.toNat]? = some b) :
    KeepAt l o k a ↔ b = false ∧ ¬ (0 ≤ s.to ∧ s.to < lateN l o k) := by
  have hall : ∀ (i : Nat) (n : Int), i < k → o[i]? = some n → 0 ≤ n := fun i n hi hn => (h.each i n hi hn).1
  obtain ⟨b', hb', hi⟩ := plN_get hk hall (l := l) (n := a.toNat) (by omega)
  rw [hb] at hb'
  simp at hb'
  subst hb'
  rw [Int.toNat_of_nonneg h0] at hi
  constructor
  · rintro ⟨_, _, t3, t4⟩
    refine ⟨?_, fun ⟨p, q⟩ => ?_⟩
    · cases hbb : b with
      | false => rfl
      | true =>
        obtain ⟨i, p, q⟩ := hi.1 hbb
        exact absurd q (t3 i p)
    · obtain ⟨i, c, t, e1, e2, e3, e4⟩ := (lateN_iff l o k s.to p).1 q
      have := t4 i c t s e1 e2 e3 hs
      simp [aheadB, p, e4] at this
  · rintro ⟨t1, t2⟩
    refine ⟨h0, h1, fun i p q => ?_, fun i c t u e1 e2 e3 e4 => ?_⟩
    · have := hi.2 ⟨i, p, q⟩
      rw [t1] at this
      simp at this
    · rw [hs] at e4
      simp at e4
      subst e4
      unfold aheadB
      by_cases p : 0 ≤ s.to
      · by_cases q : s.to < t.fr
        · exact absurd ⟨p, (lateN_iff l o k s.to p).2 ⟨i, c, t, e1, e2, e3, q⟩⟩ t2
        · simp [q]
      · simp [p]
end Go.Proofs.Ytnlkdibalhgipaa
