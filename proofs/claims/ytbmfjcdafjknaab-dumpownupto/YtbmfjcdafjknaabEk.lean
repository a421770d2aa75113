/- DumpTurned, walked. -/
import Derived.Test.YtbmfjcdafjknaabEj
import Derived.Test.YtbmfjcdafjknaabEe
namespace Go.Proofs.Ytbmfjcdafjknaab
open Go.RowKit Go.Joins Go.Deep
set_option linter.unusedVariables false

theorem slice_caps {H : Type} {enc : TypeId × Value → H} {W : World} {T E : TypeId} (hT : Try.prog.underlying T = some (.slice E)) {p : Option Addr} {n c : Nat} {d : DataW H} {ps : List MemPlace} (h : DataW.Trod enc Try.prog W 0 (fun _ => true) true T (.slice p n c) d ps) : n ≤ c ∧ c ≤ Rows.uptoBulk d := by
  obtain ⟨fuel, hf⟩ := h
  rcases open_slice hT hf with ⟨hcs, hx⟩ | ⟨a, len, cap, m, k, D, Pl, hcs, _, hl, hm, hme, hx, hi⟩
  · have e : p = none ∧ n = 0 ∧ c = 0 := by simpa [Value.cells] using hcs
    omega
  · have e : p = some a ∧ n = len ∧ c = cap := by simpa [Value.cells] using hcs
    obtain ⟨rfl, rfl, rfl⟩ := e
    refine ⟨hl, ?_⟩
    have hd : d = .slice ((List.range n).map D) ((List.range (m - n)).map fun j => D (n + j)) := by simpa using congrArg Prod.fst hx
    rw [if_pos rfl] at hme
    rw [hd]
    have q1 := bulk_length ((List.range n).map D)
    have q2 := bulk_length ((List.range (m - n)).map fun j => D (n + j))
    simp only [Rows.uptoBulk]
    simp only [List.length_map, List.length_range] at q1 q2
    omega
theorem mrg_len {β : Type} (kb : β → Nat) (n : Nat) : ∀ (a : List (Nat × Nat)) (b : List β), a.length + b.length ≤ n → (mrg kb a b).length ≤ a.length + b.length := by
  induction n with
  | zero =>
    intro a b h
    have ea : a = [] := List.length_eq_zero_iff.1 (by omega)
    have eb : b = [] := List.length_eq_zero_iff.1 (by omega)
    subst ea eb
    simp [mrg_nil]
  | succ n ih =>
    intro a b h
    cases a with
    | nil =>
      cases b with
      | nil => simp [mrg_nil]
      | cons y b => rw [mrg_right]; have := ih [] b (by simp at h ⊢; omega); simp at this ⊢; omega
    | cons x a =>
      cases b with
      | nil => rw [mrg_left]; have := ih a [] (by simp at h ⊢; omega); simp at this ⊢; omega
      | cons y b =>
        rcases Nat.lt_trichotomy x.1 (kb y) with t | t | t
        · rw [mrg_lt _ t]; have := ih a (y :: b) (by simp at h ⊢; omega); simp at this ⊢; omega
        · rw [mrg_eq _ t]; have := ih a b (by simp at h ⊢; omega); simp at this ⊢; omega
        · rw [mrg_gt _ t]; have := ih (x :: a) b (by simp at h ⊢; omega); simp at this ⊢; omega
theorem below_drew {A B : World} (h : Below A.heap.size A B) (n : Nat) : Below A.heap.size A (B.drewN n) := ⟨h.os, h.tape, h.output, h.size, h.block⟩
end Go.Proofs.Ytbmfjcdafjknaab
