/- A content asked for some keys; pairs laid one behind the other. -/
import Derived.Test.YtbmfjcdafjknaabNb
namespace Go.Proofs.Ytbmfjcdafjknaab
open Go.RowKit Go.Maps
set_option linter.unusedVariables false

/-- Numbers that lie in a row. -/
def KeysAt (W : World) (p : Option Addr) (l : List Nat) : Prop := l = [] ∨ ∃ bk off, p = some ⟨bk, off, none⟩ ∧ bk < W.heap.size ∧ ∀ (i : Nat) (k : Nat), l[i]? = some k → k < 18446744073709551616 ∧ W.cell? ⟨bk, off + i, none⟩ = some (.int .u64 (k : Int))
theorem KeysAt.chg {F : Nat → Prop} {W W' : World} {p : Option Addr} {l : List Nat} (h : KeysAt W p l) (c : Chg F W W') (hn : ∀ bk off, p = some ⟨bk, off, none⟩ → ¬ F bk) : KeysAt W' p l := by
  rcases h with h | ⟨bk, off, rfl, hb, h⟩
  · exact .inl h
  · exact .inr ⟨bk, off, rfl, Nat.lt_of_lt_of_le hb c.size, fun i k hk => ⟨(h i k hk).1, cell_chg c (h i k hk).2 (hn bk off rfl)⟩⟩
theorem PairsAt.chgF {F : Nat → Prop} {W W' : World} {p : Option Addr} {l : List (Nat × Nat)} (h : PairsAt W p l) (c : Chg F W W') (hn : ∀ bk off, p = some ⟨bk, off, none⟩ → ¬ F bk) : PairsAt W' p l := by
  rcases h with h | ⟨bk, off, rfl, hb, h⟩
  · exact .inl h
  · exact .inr ⟨bk, off, rfl, Nat.lt_of_lt_of_le hb c.size, fun i k x hk => by
      obtain ⟨a, b, c1, c2⟩ := h i k x hk
      exact ⟨a, b, cell_chg c c1 (hn bk off rfl), cell_chg c c2 (hn bk off rfl)⟩⟩
def small64 (l : List (Nat × Nat)) : Prop := ∀ x ∈ l, x.1 < 18446744073709551616 ∧ x.2 < 18446744073709551616
/-- A row of pairs of the call's own. -/
def PRow (W : World) (B : Nat) (v : Value) (l : List (Nat × Nat)) : Prop := W.ownsRow B 59 2 v l.length (prRow l) ∧ small64 l
theorem PRow.nil (W : World) (B : Nat) : PRow W B (.slice none 0 0) [] := ⟨⟨rfl, .inl ⟨rfl, rfl⟩⟩, fun x h => by simp at h⟩
theorem PRow.kept {W W' : World} {B : Nat} {v : Value} {l : List (Nat × Nat)} {row : Option Nat} (h : PRow W B v l) (hg : W.grownBy W' row) (hn : v.ownBlock = none ∨ v.ownBlock ≠ row) : PRow W' B v l := ⟨h.1.kept hg hn, h.2⟩
theorem PRow.lt {W : World} {B : Nat} {v : Value} {l : List (Nat × Nat)} (h : PRow W B v l) : ∀ b, v.ownBlock = some b → B ≤ b ∧ b < W.heap.size := h.1.lt
theorem PRow.slice {W : World} {B : Nat} {v : Value} {l : List (Nat × Nat)} (h : PRow W B v l) : ∃ p c, v = .slice p l.length c ∧ PairsAt W p l ∧ ∀ bk off, p = some ⟨bk, off, none⟩ → B ≤ bk := by
  obtain ⟨⟨hl, h⟩, hs⟩ := h
  rcases h with ⟨rfl, e⟩ | ⟨g, cap, cur, rfl, hB, hg, _, _, _, ht⟩
  · obtain rfl := List.length_eq_zero_iff.1 e
    exact ⟨none, 0, rfl, .inl rfl, fun bk off e => by cases e⟩
  · refine ⟨_, cap, rfl, .inr ⟨g, 0, rfl, lt_of hg, fun i k x hk => ?_⟩, fun bk off e => by injection e with e; injection e with e; omega⟩
    have hm := hs (k, x) (List.mem_of_getElem? hk)
    have hi := (List.getElem?_eq_some_iff.1 hk).1
    obtain ⟨q1, q2⟩ := prRow_get l i k x hk
    rw [← ht, List.getElem?_take_of_lt (by omega)] at q1 q2
    refine ⟨hm.1, hm.2, ?_, ?_⟩
    · rw [cell_of hg]; simpa using q1
    · rw [cell_of hg]; simpa using q2
theorem prRow_add (l : List (Nat × Nat)) (k v : Nat) : prRow l ++ [.int .u64 (k : Int), .int .u64 (v : Int)] = prRow (l ++ [(k, v)]) := by simp [prRow]
theorem PRow.add {W' : World} {B : Nat} {v' : Value} {l : List (Nat × Nat)} (hs : small64 l) {k x : Nat} (hk : k < 18446744073709551616) (hx : x < 18446744073709551616) (h : W'.ownsRow B 59 2 v' (l.length + 1) (prRow l ++ [.int .u64 (k : Int), .int .u64 (x : Int)])) : PRow W' B v' (l ++ [(k, x)]) := by
  refine ⟨?_, fun y hy => ?_⟩
  · rw [← prRow_add]; simpa using h
  · rcases List.mem_append.1 hy with hy | hy
    · exact hs y hy
    · simp at hy; subst hy; exact ⟨hk, hx⟩
def pairsOf (f : Nat → Option Nat) (ks : List Nat) : List (Nat × Nat) := ks.filterMap (fun k => (f k).map (fun v => (k, v)))
theorem pairsOf_add (f : Nat → Option Nat) (ks : List Nat) (i k : Nat) (h : ks[i]? = some k) : pairsOf f (ks.take (i + 1)) = pairsOf f (ks.take i) ++ pairsOf f [k] := by
  rw [List.take_add_one, h]
  simp [pairsOf]
theorem pairsOf_len (f : Nat → Option Nat) (ks : List Nat) : (pairsOf f ks).length ≤ ks.length := List.length_filterMap_le _ _
end Go.Proofs.Ytbmfjcdafjknaab
