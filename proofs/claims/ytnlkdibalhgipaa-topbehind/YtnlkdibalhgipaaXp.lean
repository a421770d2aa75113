/- The spans of operations one behind the other: they are right, and are kept by their own order alone. -/
import Derived.Test.YtnlkdibalhgipaaHKeeps
namespace Go.Proofs.Ytnlkdibalhgipaa
open Go.RowKit

def spB (i : Nat) : Sp := ⟨((i % 3 : Nat) : Int), ((i / 3 : Nat) : Int), ((2 * i : Nat) : Int), ((2 * i + 1 : Nat) : Int)⟩
def spsB (n : Nat) : List Sp := (List.range n).map spB
def ordB (n : Nat) : List Int := (List.range n).map (fun i : Nat => (i : Int))
theorem spsB_length (n : Nat) : (spsB n).length = n := by simp [spsB]
theorem ordB_length (n : Nat) : (ordB n).length = n := by simp [ordB]
theorem spsB_get {n i : Nat} {s : Sp} (h : (spsB n)[i]? = some s) : i < n ∧ s = spB i := by
  have hl := (List.getElem?_eq_some_iff.1 h).1
  rw [spsB_length] at hl
  refine ⟨hl, ?_⟩
  simp [spsB, List.getElem?_range hl] at h
  exact h.symm
theorem spsB_at {n i : Nat} (h : i < n) : (spsB n)[i]? = some (spB i) := by simp [spsB, List.getElem?_range h]
theorem ordB_get {n i : Nat} {x : Int} (h : (ordB n)[i]? = some x) : i < n ∧ x = (i : Int) := by
  have hl := (List.getElem?_eq_some_iff.1 h).1
  rw [ordB_length] at hl
  refine ⟨hl, ?_⟩
  simp [ordB, List.getElem?_range hl] at h
  exact h.symm
theorem ordB_at {n i : Nat} (h : i < n) : (ordB n)[i]? = some (i : Int) := by simp [ordB, List.getElem?_range h]
theorem spsB_succ (n : Nat) : spsB (n + 1) = spsB n ++ [spB n] := by simp [spsB, List.range_succ]
theorem ordB_succ (n : Nat) : ordB (n + 1) = ordB n ++ [(n : Int)] := by simp [ordB, List.range_succ]
theorem spsB_ok {n : Nat} (hn : n ≤ 2000) : ∀ s ∈ spsB n, s.Ok := by
  intro s hs
  obtain ⟨i, hi⟩ := List.mem_iff_getElem?.1 hs
  obtain ⟨h1, rfl⟩ := spsB_get hi
  have e1 : i % 3 < 3 := Nat.mod_lt _ (by omega)
  have e2 : i / 3 ≤ i := Nat.div_le_self _ _
  refine ⟨?_, ?_, ?_, ?_⟩ <;> (unfold isI spB; simp only; omega)
theorem cntN_spsB {n : Nat} : ∀ k, k ≤ n → ∀ t : Nat, t < 3 → cntN (spsB n) k (t : Int) = (k + 2 - t) / 3 := by
  intro k
  induction k with
  | zero => intro _ t ht; simp only [cntN]; omega
  | succ k ih =>
    intro hk t ht
    rw [cntN, spsB_at (show k < n by omega)]
    show (if (spB k).th = (t : Int) then _ else _) = _
    have eT : (spB k).th = ((k % 3 : Nat) : Int) := rfl
    rw [ih (by omega) t ht]
    by_cases q : (spB k).th = (t : Int)
    · rw [if_pos q]
      omega
    · rw [if_neg q]
      omega
theorem right_spsB {n : Nat} : RightP (spsB n) := by
  intro i s hi hs
  obtain ⟨h1, rfl⟩ := spsB_get hs
  refine ⟨by simp only [spB]; omega, .inr (by simp only [spB]; omega), ?_, fun j t hj ht he => ?_, fun j t hj ht he => ?_⟩
  · simp only [spB]
    rw [cntN_spsB i (by omega) (i % 3) (by omega)]
    congr 1
    omega
  · obtain ⟨_, rfl⟩ := spsB_get ht
    simp only [spB]
    omega
  · obtain ⟨_, rfl⟩ := spsB_get ht
    unfold apartP
    simp only [spB]
    omega
theorem keeps_ordB {n : Nat} : KeepsP (spsB n) (ordB n) := by
  refine ⟨⟨fun i x hi hx => ?_, fun i j x hij hj h1 h2 => ?_, fun i j a b s t hij hj ha hb hs ht => ?_⟩, fun k s hk hs h0 => ⟨k, ?_⟩⟩
  · obtain ⟨h1, rfl⟩ := ordB_get hx
    rw [spsB_length]
    omega
  · obtain ⟨_, rfl⟩ := ordB_get h1
    obtain ⟨_, e⟩ := ordB_get h2
    omega
  · obtain ⟨a1, rfl⟩ := ordB_get ha
    obtain ⟨b1, rfl⟩ := ordB_get hb
    obtain ⟨_, rfl⟩ := spsB_get hs
    obtain ⟨_, rfl⟩ := spsB_get ht
    simp only [Int.toNat_natCast, aheadB, spB]
    rw [Bool.and_eq_false_iff]
    exact .inr (decide_eq_false (by omega))
  · rw [spsB_length] at hk
    exact ordB_at hk
def swB (n : Nat) : List Int := ((ordB n).set 0 1).set 1 0
theorem not_keeps_swB {n : Nat} (hn : 2 ≤ n) : ¬ KeepsP (spsB n) (swB n) := fun h => by
  have hl : (swB n).length = n := by simp [swB, ordB_length]
  have h0 : (swB n)[0]? = some 1 := by
    simp [swB, List.getElem?_set, ordB_length]
    omega
  have h1 : (swB n)[1]? = some 0 := by
    simp [swB, List.getElem?_set, ordB_length]
    omega
  have := h.1.order 0 1 1 0 (spB 1) (spB 0) (by omega) (by omega) h0 h1 (spsB_at (show 1 < n by omega)) (spsB_at (show 0 < n by omega))
  simp [aheadB, spB] at this
end Go.Proofs.Ytnlkdibalhgipaa
