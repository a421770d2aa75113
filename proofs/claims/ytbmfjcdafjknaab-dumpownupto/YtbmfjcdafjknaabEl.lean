/- The operations that lead from the first to the second. -/
import Derived.Test.YtbmfjcdafjknaabEj
import Derived.Test.YtbmfjcdafjknaabEk
namespace Go.Proofs.Ytbmfjcdafjknaab
open Go.RowKit Go.Joins
set_option linter.unusedVariables false

/-- An operation: its kind, key and value. -/
structure OpS where
  kd : Nat
  k : Nat
  v : Nat
  deriving DecidableEq
def OpS.cells (o : OpS) : List Value := [.int .u8 (o.kd : Int), .int .u64 (o.k : Int), .int .u64 (o.v : Int), .int .u64 0, .int .u64 0, .bool false, .int .i64 0, .int .i64 0, .slice none 0 0, .int .u64 0, .int .u64 0]
def opRow (l : List OpS) : List Value := l.flatMap OpS.cells
theorem opRow_len (l : List OpS) : (opRow l).length = l.length * 11 := by
  induction l with
  | nil => rfl
  | cons x l ih => simp [opRow, OpS.cells] at ih ⊢; omega
theorem opRow_add (l : List OpS) (o : OpS) : opRow (l ++ [o]) = opRow l ++ o.cells := by simp [opRow]
theorem opRow_get (l : List OpS) : ∀ (i : Nat) (o : OpS), l[i]? = some o → ∀ j, j < 11 → (opRow l)[i * 11 + j]? = o.cells[j]? := by
  induction l with
  | nil => intro i c h; simp at h
  | cons y l ih =>
    intro i c h j hj
    have e : opRow (y :: l) = y.cells ++ opRow l := rfl
    rw [e]
    have hy : y.cells.length = 11 := rfl
    cases i with
    | zero =>
      simp at h
      subst h
      rw [List.getElem?_append_left (by omega)]
      simp
    | succ i =>
      rw [List.getElem?_append_right (by omega), hy, show (i + 1) * 11 + j - 11 = i * 11 + j by omega]
      exact ih i c (by simpa using h) j hj
def opOf (c : Ch) : OpS := if c.has then ⟨2, c.k, c.new⟩ else ⟨3, c.k, 0⟩
theorem infoOp : (Try.prog.info? 116).map (fun i => (i.zero, i.size, i.bytes)) = some (some (.agg #[.int .u8 0, .int .u64 0, .int .u64 0, .int .u64 0, .int .u64 0, .bool false, .int .i64 0, .int .i64 0, .slice none 0 0, .int .u64 0, .int .u64 0]), 11, 104) := by kernel_rfl
def OpSAt (W : World) (p : Option Addr) (l : List OpS) : Prop := l = [] ∨ ∃ bk off, p = some ⟨bk, off, none⟩ ∧ bk < W.heap.size ∧ ∀ (i : Nat) (o : OpS), l[i]? = some o → ∀ (j : Nat) (u : Value), o.cells[j]? = some u → W.cell? ⟨bk, off + i * 11 + j, none⟩ = some u
theorem OpSAt.chg {W W' : World} {F : Nat → Prop} {p : Option Addr} {l : List OpS} (h : OpSAt W p l) (c : Chg F W W') (hn : ∀ bk off, p = some ⟨bk, off, none⟩ → ¬ F bk) : OpSAt W' p l := by
  rcases h with h | ⟨bk, off, rfl, hb, h⟩
  · exact .inl h
  · exact .inr ⟨bk, off, rfl, Nat.lt_of_lt_of_le hb c.size, fun i o e j u hu => cell_chg c (h i o e j u hu) (hn bk off rfl)⟩
theorem row_op {W : World} {B : Nat} {v : Value} {l : List OpS} (h : W.ownsRow B 116 11 v l.length (opRow l)) : ∃ p c, v = .slice p l.length c ∧ OpSAt W p l ∧ ∀ bk off, p = some ⟨bk, off, none⟩ → B ≤ bk := by
  obtain ⟨hl, h⟩ := h
  rcases h with ⟨rfl, e⟩ | ⟨g, cap, cur, rfl, hB, hg, hcap, _, _, ht⟩
  · obtain rfl := List.length_eq_zero_iff.1 e
    exact ⟨none, 0, rfl, .inl rfl, fun bk off e => by cases e⟩
  · refine ⟨_, cap, rfl, .inr ⟨g, 0, rfl, lt_of hg, fun i c hc j u hu => ?_⟩, fun bk off e => by injection e with e; injection e with e; omega⟩
    have hi := (List.getElem?_eq_some_iff.1 hc).1
    have hj : j < 11 := (List.getElem?_eq_some_iff.1 hu).1
    rw [← hu, ← opRow_get l i c hc j hj, cell_of hg, ← ht, List.getElem?_take_of_lt (by omega), Nat.zero_add]
    simp
theorem row_on {W1 wr W2 : World} {e : TypeId} {s n : Nat} {v : Value} {xs : List Value} {o : Obj} (h : wr.ownsRow W1.heap.size e s v n xs ∧ Below W1.heap.size W1 wr) (h2 : Below (wr.alloc o).heap.size (wr.alloc o) W2) : W2.ownsRow W1.heap.size e s v n xs ∧ Below W1.heap.size W1 W2 := by
  have hb : Below wr.heap.size wr W2 := below_trans ((Below.refl _ wr).alloc (Nat.le_refl _) o) h2
  exact ⟨h.1.kept (grown_none hb) (by cases Value.ownBlock _ <;> simp), below_trans h.2 hb⟩
def syncL (a b : List (Nat × Nat)) : List OpS := (diffL a b).map opOf
end Go.Proofs.Ytbmfjcdafjknaab
