/- ModelSames: the whole walk. -/
import Derived.Test.YtbmfjcdafjknaabMsW
import Derived.Deep.Upon
namespace Go.Proofs.Ytbmfjcdafjknaab
open Go.RowKit
set_option linter.unusedVariables false

def prRow (l : List (Nat × Nat)) : List Value := l.flatMap (fun x => [.int .u64 (x.1 : Int), .int .u64 (x.2 : Int)])
theorem prRow_len (l : List (Nat × Nat)) : (prRow l).length = l.length * 2 := by
  induction l with
  | nil => rfl
  | cons x l ih => simp [prRow] at ih ⊢; omega
theorem prRow_get (l : List (Nat × Nat)) : ∀ (i k x : Nat), l[i]? = some (k, x) → (prRow l)[i * 2]? = some (.int .u64 (k : Int)) ∧ (prRow l)[i * 2 + 1]? = some (.int .u64 (x : Int)) := by
  induction l with
  | nil => intro i k x h; simp at h
  | cons y l ih =>
    intro i k x h
    have e : prRow (y :: l) = .int .u64 (y.1 : Int) :: .int .u64 (y.2 : Int) :: prRow l := rfl
    rw [e]
    cases i with
    | zero => simp at h; subst h; exact ⟨rfl, rfl⟩
    | succ i =>
      have q := ih i k x (by simpa using h)
      rw [show (i + 1) * 2 = i * 2 + 1 + 1 by omega]
      exact ⟨by simpa using q.1, by simpa using q.2⟩
theorem prRow_inv (l : List (Nat × Nat)) : ∀ (j : Nat) (u : Value), (prRow l)[j]? = some u → ∃ i k x : Nat, l[i]? = some (k, x) ∧ ((j = i * 2 ∧ u = .int .u64 (k : Int)) ∨ (j = i * 2 + 1 ∧ u = .int .u64 (x : Int))) := by
  intro j u h
  have hj := (List.getElem?_eq_some_iff.1 h).1
  rw [prRow_len] at hj
  obtain ⟨⟨k, x⟩, hk⟩ : ∃ y, l[j / 2]? = some y := ⟨l[j / 2]'(by omega), List.getElem?_eq_getElem _⟩
  have q := prRow_get l (j / 2) k x hk
  refine ⟨j / 2, k, x, hk, ?_⟩
  rcases Nat.mod_two_eq_zero_or_one j with m | m
  · left
    have e : j = j / 2 * 2 := by omega
    refine ⟨e, ?_⟩
    rw [e, q.1] at h
    simpa using h.symm
  · right
    have e : j = j / 2 * 2 + 1 := by omega
    refine ⟨e, ?_⟩
    rw [e, q.2] at h
    simpa using h.symm
theorem prRow_one (l : List (Nat × Nat)) : ∀ u ∈ prRow l, u.oneCell' = true := by
  intro u hu
  obtain ⟨j, hj⟩ := List.mem_iff_getElem?.1 hu
  obtain ⟨i, k, x, _, h⟩ := prRow_inv l j u hj
  rcases h with ⟨_, rfl⟩ | ⟨_, rfl⟩ <;> rfl
/-- A copy of pairs that came in, behind a slice of nothing. -/
theorem copy_pairs {W : World} {p : Option Addr} {l : List (Nat × Nat)} {c g : Nat} (h : PairsAt W p l) (hg : W.heap[g]? = some (.cells #[] 59 (0, 0))) (hl : l.length ≤ 8796093021952) (ty : TypeId) (hok : p = none → l = []) :
    ∃ v' W', (Builtin.append_ #[22, 22] ty #[.slice (some ⟨g, 0, none⟩) 0 0, .slice p l.length c]).run Try.prog W = .ok v' W' ∧ (∃ q d, v' = .slice q l.length d ∧ PairsAt W' q l ∧ ∀ bk off, q = some ⟨bk, off, none⟩ → g ≤ bk) ∧ Chg (fun k => k = g) W W' := by
  obtain ⟨i0, hi, hz0, hz1, hz2⟩ := info_parts infoPair
  by_cases hn : l = []
  · subst hn
    refine ⟨_, W, ?_, ⟨some ⟨g, 0, none⟩, 0, rfl, .inl rfl, fun bk off e => by simp at e; omega⟩, Chg.refl _ _⟩
    cases p <;> simp [Builtin.append_, run_underlying Try.underlying22, sizeOf, typeInfo, hi, Builtin.lenOf, Builtin.firstCells, loadCells, loadCellsFrom, storeCells]
  · obtain ⟨bk, off, rfl, hb, hc⟩ := h.resolve_left hn
    obtain ⟨v', w', hr, h2, h3, h4, h5⟩ := run_append_own_at (P := Try.prog) W 0 22 ty 59 i0 (.agg #[.int .u64 0, .int .u64 0]) 2 16 Try.underlying22 hi hz0 hz1 hz2 rfl (by decide) (.slice (some ⟨g, 0, none⟩) 0 0) 0 [] ⟨rfl, .inr ⟨g, 0, #[], rfl, Nat.zero_le _, hg, Nat.le_refl _, by unfold maxLen; omega, rfl, rfl⟩⟩ ⟨bk, off, none⟩ l.length c (prRow l) (prRow_len l) (fun j u hj => by
      obtain ⟨i, k, x, hk, h⟩ := prRow_inv l j u hj
      obtain ⟨_, _, q1, q2⟩ := hc i k x hk
      have e : (⟨bk, off, none⟩ : Addr).add j = ⟨bk, off + j, none⟩ := by unfold Addr.add; split <;> simp_all
      rw [e]
      rcases h with ⟨rfl, rfl⟩ | ⟨rfl, rfl⟩
      · exact q1
      · exact q2) (prRow_one l) (by unfold maxLen; omega) (by omega) (Nat.zero_le _)
    refine ⟨v', w', hr, ?_, (Chg.refl _ W).grown h3 (fun k e _ => by simpa [Value.ownBlock] using e.symm)⟩
    obtain ⟨_, ⟨_, hz⟩ | ⟨q, cap, cur, rfl, _, hq, _, _, _, ht⟩⟩ := h2
    · simp at hz
      exact absurd hz hn
    · have hgl := lt_of hg
      refine ⟨some ⟨q, 0, none⟩, cap, by simp, .inr ⟨q, 0, rfl, lt_of hq, fun i k x hk => ?_⟩, fun bk off e => by
        simp at e
        rcases h5 with h5 | h5
        · simp [Value.ownBlock] at h5; omega
        · simp [Value.ownBlock] at h5; omega⟩
      obtain ⟨b1, b2, _, _⟩ := hc i k x hk
      have g := prRow_get l i k x hk
      have hil := (List.getElem?_eq_some_iff.1 hk).1
      have ht' : cur.toList.take (l.length * 2) = prRow l := by simpa using ht
      refine ⟨b1, b2, ?_, ?_⟩
      · rw [Nat.zero_add, cell_of hq, ← Array.getElem?_toList, ← List.getElem?_take_of_lt (show i * 2 < l.length * 2 by omega), ht']
        exact g.1
      · rw [Nat.zero_add, cell_of hq, ← Array.getElem?_toList, ← List.getElem?_take_of_lt (show i * 2 + 1 < l.length * 2 by omega), ht']
        exact g.2
end Go.Proofs.Ytbmfjcdafjknaab
