/- What a Fork that is alone leaves in the memory, from any address on: pure. -/
import Derived.Test.YtmhflmjhphhppabNdK
namespace Go.Proofs.Ytmhflmjhphhppab
open Go.RowKit Go.Shelf
set_option linter.unusedVariables false

theorem alN_cell (most next : Nat) (cs vals : List Nat) (h : alOk most next vals.length) (j : Nat) : cellN (alN most next cs vals) j = if next ≤ j ∧ j < next + vals.length then cellN vals (j - next) else cellN cs j := by
  unfold alN
  rw [if_pos h, spliceN_cell _ _ _ (by rw [padN_length]; omega), padN_cell]
/-- The digit of a mixed key, as a number. -/
def dgN (h : Nat) (lv : Nat) : Nat := (dig (h : Int) (lv : Int)).toNat
theorem dgN_eq (h lv : Nat) : (dgN h lv : Int) = dig (h : Int) (lv : Int) := by
  have b := dig_bd (h : Int) (lv : Int) (by omega)
  unfold dgN
  omega
theorem dgN_lt (h lv : Nat) : dgN h lv < 64 := by
  have b := dig_bd (h : Int) (lv : Int) (by omega)
  unfold dgN
  omega
/-- The branch's cells J levels above the parting one. -/
def brL (B ha hb L J : Nat) : List Nat := if J = 0 then ((List.replicate 64 0).set (dgN ha L) B).set (dgN hb L) (B + 3) else (List.replicate 64 0).set (dgN ha (L - J)) (B + 3 + 67 * J)
theorem brL_length (B ha hb L J : Nat) : (brL B ha hb L J).length = 64 := by unfold brL; split <;> simp
theorem brL_small (B ha hb L J : Nat) (hB : B ≤ 1000) (hJ : J ≤ 10) : ∀ x ∈ brL B ha hb L J, x < 18446744073709551616 := by
  intro x hx
  unfold brL at hx
  split at hx
  · rcases List.mem_or_eq_of_mem_set hx with h | h
    · rcases List.mem_or_eq_of_mem_set h with h | h
      · have := List.eq_of_mem_replicate h
        omega
      · omega
    · omega
  · rcases List.mem_or_eq_of_mem_set hx with h | h
    · have := List.eq_of_mem_replicate h
      omega
    · omega
/-- The word of the child that the version of level J holds. -/
def wdN (B aw J : Nat) : Nat := if J = 0 then aw else 2 * (B + 6 + 67 * (J - 1))
/-- The versions of the first J + 1 levels, from below, and the branches of the first J. -/
structure FM (B : Nat) (cs : List Nat) (aw bw ha hb L J : Nat) : Prop where
  a0 : cellN cs B = aw ∧ cellN cs (B + 1) = 1 ∧ cellN cs (B + 2) = 0
  b0 : cellN cs (B + 3) = bw ∧ cellN cs (B + 4) = 1 ∧ cellN cs (B + 5) = 0
  ver : ∀ i, 1 ≤ i → i ≤ J → cellN cs (B + 3 + 67 * i) = wdN B aw i ∧ cellN cs (B + 3 + 67 * i + 1) = 1 ∧ cellN cs (B + 3 + 67 * i + 2) = 0
  br : ∀ i, i < J → ∀ d, d < 64 → cellN cs (B + 6 + 67 * i + d) = cellN (brL B ha hb L i) d
theorem FM.zero {B : Nat} {cs : List Nat} {aw bw ha hb L : Nat} (hB : B ≤ 1000) (h1 : cellN cs B = aw ∧ cellN cs (B + 1) = 1 ∧ cellN cs (B + 2) = 0) : FM B (alN 4096 (B + 3) cs [bw, 1, 0]) aw bw ha hb L 0 := by
  have ok : alOk 4096 (B + 3) [bw, 1, 0].length := by simp [alOk]; omega
  refine ⟨?_, ?_, fun i h1 h2 => by omega, fun i h => by omega⟩
  · have e : ∀ j, j < B + 3 → cellN (alN 4096 (B + 3) cs [bw, 1, 0]) j = cellN cs j := fun j hj => by rw [alN_cell _ _ _ _ ok, if_neg (by omega)]
    rw [e _ (by omega), e _ (by omega), e _ (by omega)]
    exact h1
  · simp only [alN_cell _ _ _ _ ok]
    rw [if_pos (by simp), if_pos (by simp), if_pos (by simp), show B + 3 - (B + 3) = 0 by omega, show B + 4 - (B + 3) = 1 by omega, show B + 5 - (B + 3) = 2 by omega]
    exact ⟨rfl, rfl, rfl⟩
theorem FM.join {B : Nat} {cs : List Nat} {aw bw ha hb L J : Nat} (h : FM B cs aw bw ha hb L J) (hB : B ≤ 1000) (hJ : J ≤ 10) : (∀ i, i ≤ J → ∀ d, d < 64 → cellN (alN 4096 (B + 6 + 67 * J) cs (brL B ha hb L J)) (B + 6 + 67 * i + d) = cellN (brL B ha hb L i) d) ∧ FM B (alN 4096 (B + 6 + 67 * J) cs (brL B ha hb L J)) aw bw ha hb L J := by
  have ok : alOk 4096 (B + 6 + 67 * J) (brL B ha hb L J).length := by rw [brL_length]; unfold alOk; omega
  have e : ∀ j, j < B + 6 + 67 * J → cellN (alN 4096 (B + 6 + 67 * J) cs (brL B ha hb L J)) j = cellN cs j := fun j hj => by rw [alN_cell _ _ _ _ ok, if_neg (by omega)]
  refine ⟨fun i hi d hd => ?_, ?_, ?_, fun i h1 h2 => ?_, fun i hi d hd => ?_⟩
  · by_cases c : i = J
    · subst c
      rw [alN_cell _ _ _ _ ok, if_pos (by rw [brL_length]; omega)]
      congr 1
      omega
    · rw [e _ (by omega)]
      exact h.br i (by omega) d hd
  · rw [e _ (by omega), e _ (by omega), e _ (by omega)]
    exact h.a0
  · rw [e _ (by omega), e _ (by omega), e _ (by omega)]
    exact h.b0
  · rw [e _ (by omega), e _ (by omega), e _ (by omega)]
    exact h.ver i h1 h2
  · rw [e _ (by omega)]
    exact h.br i hi d hd
theorem FM.hang {B : Nat} {cs : List Nat} {aw bw ha hb L J : Nat} (h : FM B cs aw bw ha hb L J) (hbr : ∀ i, i ≤ J → ∀ d, d < 64 → cellN cs (B + 6 + 67 * i + d) = cellN (brL B ha hb L i) d) (hB : B ≤ 1000) (hJ : J ≤ 9) : FM B (alN 4096 (B + 3 + 67 * (J + 1)) cs [wdN B aw (J + 1), 1, 0]) aw bw ha hb L (J + 1) := by
  have ok : alOk 4096 (B + 3 + 67 * (J + 1)) [wdN B aw (J + 1), 1, 0].length := by simp [alOk]; omega
  have e : ∀ j, j < B + 3 + 67 * (J + 1) → cellN (alN 4096 (B + 3 + 67 * (J + 1)) cs [wdN B aw (J + 1), 1, 0]) j = cellN cs j := fun j hj => by rw [alN_cell _ _ _ _ ok, if_neg (by omega)]
  refine ⟨?_, ?_, fun i h1 h2 => ?_, fun i hi d hd => ?_⟩
  · rw [e _ (by omega), e _ (by omega), e _ (by omega)]
    exact h.a0
  · rw [e _ (by omega), e _ (by omega), e _ (by omega)]
    exact h.b0
  · by_cases c : i = J + 1
    · subst c
      simp only [alN_cell _ _ _ _ ok]
      rw [if_pos (by simp), if_pos (by simp), if_pos (by simp), show B + 3 + 67 * (J + 1) - (B + 3 + 67 * (J + 1)) = 0 by omega, show B + 3 + 67 * (J + 1) + 1 - (B + 3 + 67 * (J + 1)) = 1 by omega, show B + 3 + 67 * (J + 1) + 2 - (B + 3 + 67 * (J + 1)) = 2 by omega]
      exact ⟨rfl, rfl, rfl⟩
    · rw [e _ (by omega), e _ (by omega), e _ (by omega)]
      exact h.ver i h1 (by omega)
  · rw [e _ (by omega)]
    exact hbr i (by omega) d hd
end Go.Proofs.Ytmhflmjhphhppab
