/- The bank of a plain memory: its trace is told, in memory of its own. -/
import Derived.Test.YtjodechhnobkhaaGreatDoorAlloc
namespace Go.Proofs.YtjodechhnobkhaaGreatDoor
open Go.RowKit Go.Shelf

theorem accRow_length (l : List Acc) : (accRow l).length = l.length * 8 := by
  induction l with
  | nil => rfl
  | cons x r ih => simp only [accRow, List.flatMap_cons, List.length_append, List.length_cons] at ih ⊢; rw [ih]; simp [Acc.cells]; omega
theorem accRow_get (l : List Acc) (j f : Nat) (hf : f < 8) : (accRow l)[j * 8 + f]? = (l[j]?).bind fun x => x.cells[f]? := by
  induction l generalizing j with
  | nil => simp [accRow]
  | cons x r ih =>
    have hx : x.cells.length = 8 := rfl
    cases j with
    | zero => simp only [accRow, List.flatMap_cons]; rw [List.getElem?_append_left (by rw [hx]; omega)]; simp
    | succ j =>
      have e := ih j
      simp only [accRow, List.flatMap_cons] at e ⊢
      rw [List.getElem?_append_right (by rw [hx]; omega), hx, show (j + 1) * 8 + f - 8 = j * 8 + f by omega, e]
      simp
theorem accRow_set (l : List Acc) (j : Nat) (x : Acc) (hj : l[j]? = some x) (v : Value) : (accRow l).set (j * 8 + 5) v = accRow (l.set j { x with vs := v }) := by
  induction l generalizing j with
  | nil => simp at hj
  | cons y r ih =>
    have hy : y.cells.length = 8 := rfl
    cases j with
    | zero =>
      simp at hj
      subst hj
      rfl
    | succ j =>
      have e := ih j (by simpa using hj)
      simp only [accRow, List.flatMap_cons, List.set_cons_succ] at e ⊢
      rw [List.set_append_right _ _ (by rw [hy]; omega), hy, show (j + 1) * 8 + 5 - 8 = j * 8 + 5 by omega, e]
theorem accRow_one (l : List Acc) (h : ∀ x ∈ l, x.vs.oneCell' = true) : ∀ u ∈ accRow l, u.oneCell' = true := by
  intro u hu
  obtain ⟨x, hx, hu⟩ := List.mem_flatMap.1 hu
  simp only [Acc.cells, List.mem_cons, List.not_mem_nil, or_false] at hu
  rcases hu with rfl | rfl | rfl | rfl | rfl | rfl | rfl | rfl
  all_goals first | rfl | exact h x hx

structure Traced (W W' : World) (v : Value) (l lk : List Acc) (k : Nat) : Prop where
  row : W'.ownsRow 0 44 8 v l.length (accRow lk)
  len : lk.length = l.length
  same : ∀ (j : Nat) (x : Acc), l[j]? = some x → ∃ vs, lk[j]? = some { x with vs := vs }
  rest : ∀ j, k ≤ j → lk[j]? = l[j]?
  vals : ∀ j y, j < k → lk[j]? = some y → W'.ownsRow 0 42 1 y.vs y.vals.length (y.vals.map u64V)
  fresh : ∀ j y b, j < k → lk[j]? = some y → y.vs.ownBlock = some b → W.heap.size ≤ b
  apart : ∀ i j x y b, i < j → j < k → lk[i]? = some x → lk[j]? = some y → x.vs.ownBlock = some b → y.vs.ownBlock ≠ some b
  own : ∀ b, v.ownBlock = some b → W.heap.size ≤ b
  chg : Chg (fun _ => False) W W'

theorem Traced.start {W W' : World} {v : Value} {l : List Acc} (h : W'.ownsRow 0 44 8 v l.length (accRow l)) (hc : Chg (fun _ => False) W W') (ho : ∀ b, v.ownBlock = some b → W.heap.size ≤ b) : Traced W W' v l l 0 :=
  ⟨h, rfl, fun _ x hx => ⟨x.vs, hx⟩, fun _ _ => rfl, fun _ _ h => absurd h (Nat.not_lt_zero _), fun _ _ _ h => absurd h (Nat.not_lt_zero _), fun _ _ _ _ _ _ h => absurd h (Nat.not_lt_zero _), ho, hc⟩
theorem Traced.step {W W1 W2 : World} {g c : Nat} {l lk : List Acc} {k : Nat} {x : Acc} {vs : Value} (h : Traced W W1 (.slice (some ⟨g, 0, none⟩) l.length c) l lk k) (hx : lk[k]? = some x)
    (hr : W2.ownsRow 0 42 1 vs x.vals.length (x.vals.map u64V)) (hg : W1.grownBy W2 none) (hv : vs.ownBlock = none ∨ vs.ownBlock = some W1.heap.size) :
    Traced W (W2.setCell ⟨g, k * 8 + 5, none⟩ vs) (.slice (some ⟨g, 0, none⟩) l.length c) l (lk.set k { x with vs := vs }) (k + 1) := by
  have hk : k < lk.length := (List.getElem?_eq_some_iff.1 hx).1
  have hgl := row_lt h.row g rfl
  have hgf := h.own g rfl
  have ob : ∀ b, b ≠ g → (W2.setCell ⟨g, k * 8 + 5, none⟩ vs).heap[b]? = W2.heap[b]? := fun b hb => Below.heap_setCell _ _ _ _ hb
  have r2 : W2.ownsRow 0 44 8 (.slice (some ⟨g, 0, none⟩) l.length c) l.length (accRow lk) := row_kept h.row fun b e => hg.block b (row_lt h.row b e) (by simp)
  have old : ∀ j y b, j < k → lk[j]? = some y → y.vs.ownBlock = some b → b < W1.heap.size := fun j y b hj hy e => row_lt (h.vals j y hj hy) b e
  refine ⟨?_, by simpa using h.len, ?_, ?_, ?_, ?_, ?_, h.own, ?_⟩
  · have e := (World.ownsRow.stored r2 (k * 8 + 5) vs).1
    rw [accRow_set lk k x hx vs] at e
    exact e
  · intro j y hy
    obtain ⟨v, hv⟩ := h.same j y hy
    by_cases e : j = k
    · subst e
      rw [hx] at hv
      simp at hv
      subst hv
      exact ⟨vs, by simp [hk]⟩
    · exact ⟨v, by rw [List.getElem?_set_ne (Ne.symm e)]; exact hv⟩
  · intro j hj
    rw [List.getElem?_set_ne (by omega)]
    exact h.rest j (by omega)
  · intro j y hj hy
    by_cases e : j = k
    · subst e
      simp [hk] at hy
      subst hy
      exact row_kept hr fun b eb => ob b (fun e2 => by
        obtain ⟨cu, hcu⟩ := row_block hr b eb
        exact block_apart r2 hcu (by decide) (by rw [e2]; rfl))
    · rw [List.getElem?_set_ne (Ne.symm e)] at hy
      have r := h.vals j y (by omega) hy
      exact row_kept r fun b eb => (ob b (fun e2 => rows_apart r h.row (by decide) b eb (by rw [e2]; rfl))).trans (hg.block b (row_lt r b eb) (by simp))
  · intro j y b hj hy eb
    by_cases e : j = k
    · subst e
      simp [hk] at hy
      subst hy
      have eb' : vs.ownBlock = some b := eb
      rcases hv with hv | hv
      · rw [hv] at eb'
        simp at eb'
      · rw [hv] at eb'
        simp at eb'
        have := h.chg.size
        omega
    · rw [List.getElem?_set_ne (Ne.symm e)] at hy
      exact h.fresh j y b (by omega) hy eb
  · intro i j y z b hij hj hy hz eb e2
    rw [List.getElem?_set_ne (by omega)] at hy
    have hb := old i y b (by omega) hy eb
    by_cases e : j = k
    · subst e
      simp [hk] at hz
      subst hz
      have e2' : vs.ownBlock = some b := e2
      rcases hv with hv | hv
      · rw [hv] at e2'
        simp at e2'
      · rw [hv] at e2'
        simp at e2'
        omega
    · rw [List.getElem?_set_ne (Ne.symm e)] at hz
      exact h.apart i j y z b hij (by omega) hy hz eb e2
  · exact (h.chg.grown hg (fun _ e => by simp at e)).setCell (p := ⟨g, k * 8 + 5, none⟩) (fun hx => absurd hx (Nat.not_lt.2 hgf)) vs

theorem one_slice {W : World} {e : TypeId} {s n : Nat} {v : Value} {xs : List Value} (h : W.ownsRow 0 e s v n xs) : v.oneCell' = true := by
  obtain ⟨p, c, rfl⟩ := slice_of h
  rfl

theorem Reads.of_row {W : World} {p : Option Addr} {n c : Nat} {vals : List Nat} (h : W.ownsRow 0 42 1 (.slice p n c) vals.length (vals.map u64V)) : Reads W p vals := by
  rcases h.2 with ⟨h2, h3⟩ | ⟨g, cap, cur, h2, _⟩
  · exact .inl (List.eq_nil_of_length_eq_zero h3)
  · simp only [Value.slice.injEq] at h2
    obtain ⟨rfl, _, _⟩ := h2
    exact .inr ⟨_, rfl, h.cells rfl⟩

end Go.Proofs.YtjodechhnobkhaaGreatDoor
