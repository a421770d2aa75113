/- A book that takes lists of numbers, and what it then keeps. -/
import Derived.Test.YtoopbacnnkmpbacAlone
import Derived.Test.YtoopbacnnkmpbacNones
namespace Go.Proofs.Ytoopbacnnkmpbac
open Go.RowKit Go.Shelf

def nilS : Value := .slice none 0 0
def bookCells (sv : Value) : Array Value := #[.slice none 0 0, .slice none 0 0, sv, .slice none 0 0, .slice none 0 0, .slice none 0 0, .slice none 0 0, .slice none 0 0, .slice none 0 0, .slice none 0 0, .slice none 0 0, .slice none 0 0, .slice none 0 0, .slice none 0 0, .slice none 0 0, .slice none 0 0, .slice none 0 0, .slice none 0 0, .slice none 0 0, .slice none 0 0]
def rowsL (g : Nat → Nat) (n : Nat) : List Value := (List.range n).map fun j => rowV (g j)

structure Kept (W : World) (Bk n : Nat) (g : Nat → Nat) (sv : Value) : Prop where
  blk : W.heap[Bk]? = some (.cells (bookCells sv) 52 (0, 0))
  outer : W.ownsRow (Bk + 1) 54 1 sv n (rowsL g n)
  rows : ∀ j, j < n → ∃ ys, W.ownsRow (Bk + 1) 3 1 (rowV (g j)) 11 ys
  apart : ∀ i j, i < n → j < n → i ≠ j → g i ≠ g j

theorem Kept.below {W W' : World} {Bk n : Nat} {g : Nat → Nat} {sv : Value} (h : Kept W Bk n g sv) (hB : Below W.heap.size W W') : Kept W' Bk n g sv :=
  ⟨(hB.block Bk (Array.getElem?_eq_some_iff.1 h.blk).1).trans h.blk, own_below h.outer hB, fun j hj => let ⟨ys, r⟩ := h.rows j hj; ⟨ys, own_below r hB⟩, h.apart⟩
theorem Kept.lt {W : World} {Bk n : Nat} {g : Nat → Nat} {sv : Value} (h : Kept W Bk n g sv) : Bk < W.heap.size := (Array.getElem?_eq_some_iff.1 h.blk).1
theorem row_in {W : World} {base g n : Nat} {ys : List Value} (h : W.ownsRow base 3 1 (rowV g) n ys) : base ≤ g ∧ g < W.heap.size := by
  rcases h.2 with ⟨h', _⟩ | ⟨g', cap', cur, h', hb, hg, _⟩
  · simp [rowV] at h'
  · simp only [rowV, Value.slice.injEq, Option.some.injEq, Addr.mk.injEq, and_true] at h'
    obtain ⟨rfl, _⟩ := h'
    exact ⟨hb, (Array.getElem?_eq_some_iff.1 hg).1⟩
theorem book_cell {W : World} {Bk : Nat} {cs : Array Value} (h : W.heap[Bk]? = some (.cells cs 52 (0, 0))) (k : Nat) : W.cell? ⟨Bk, k, none⟩ = cs[k]? := by simp [World.cell?, h]
theorem book_free {W : World} {Bk : Nat} {cs : Array Value} (h : W.heap[Bk]? = some (.cells cs 52 (0, 0))) (k : Nat) : W.frozen? ⟨Bk, k, none⟩ = false := by simp [World.frozen?, h]
theorem book_set {W : World} {Bk : Nat} {cs : Array Value} (h : W.heap[Bk]? = some (.cells cs 52 (0, 0))) (k : Nat) (v : Value) : (W.setCell ⟨Bk, k, none⟩ v).heap[Bk]? = some (.cells (cs.setIfInBounds k v) 52 (0, 0)) := by
  obtain ⟨hlt, hk⟩ := Array.getElem?_eq_some_iff.1 h
  show (W.heap.modify Bk _)[Bk]? = _
  rw [Array.getElem?_eq_getElem (by rw [Array.size_modify]; exact hlt), Array.getElem_modify_self, hk]
  rfl

theorem outer_ne {W : World} {Bk : Nat} {e : TypeId} {sv : Value} {n : Nat} {xs : List Value} (h : W.ownsRow (Bk + 1) e 1 sv n xs) : some Bk ≠ sv.ownBlock := by
  rcases h.2 with ⟨rfl, _⟩ | ⟨g', cap', cur, rfl, hb, _⟩
  · simp [Value.ownBlock]
  · intro e'
    simp [Value.ownBlock] at e'
    omega
theorem blk_kept {W w1 : World} {Bk n : Nat} {g : Nat → Nat} {sv : Value} {tmp : Obj} (h : Kept W Bk n g sv) (hgrow : (W.alloc tmp).grownBy w1 sv.ownBlock) : w1.heap[Bk]? = some (.cells (bookCells sv) 52 (0, 0)) :=
  (hgrow.block Bk (by have := h.lt; simp; omega) (outer_ne h.outer)).trans ((Below.heap_alloc W tmp Bk h.lt).trans h.blk)
theorem blk_cell {W : World} {Bk : Nat} {sv : Value} (h : W.heap[Bk]? = some (.cells (bookCells sv) 52 (0, 0))) : W.cell? ⟨Bk, 2, none⟩ = some sv := by rw [book_cell h]; rfl
theorem rowsL_snoc (g : Nat → Nat) (n gn : Nat) : rowsL (fun j => if j = n then gn else g j) (n + 1) = rowsL g n ++ [rowV gn] := by
  unfold rowsL
  rw [List.range_succ, List.map_append]
  congr 1
  · apply List.map_congr_left
    intro j hj
    have : ¬ j = n := by have := List.mem_range.1 hj; omega
    simp [this]
  · simp

set_option maxRecDepth 100000 in
set_option maxHeartbeats 2000000 in
theorem take_any (Bk n gn : Nat) (g : Nat → Nat) (sv : Value) (ys : List Value) (W : World) (hn : n ≤ 100) (hk : Kept W Bk n g sv) (hr : W.ownsRow (Bk + 1) 3 1 (rowV gn) 11 ys) (hf : ∀ j, j < n → g j ≠ gn) :
    Calls Try.prog 12 #[.pointer (some ⟨Bk, 0, none⟩), .slice (some ⟨gn, 0, none⟩) 11 11] W fun e W' => e = .returned (.tuple #[]) ∧ (∃ sv', Kept W' Bk (n + 1) (fun j => if j = n then gn else g j) sv') ∧ Below Bk W W' := by
  obtain ⟨i1, hi1, hy0, hy1, hy2⟩ := info_parts infoLists
  have c2 : W.cell? ⟨Bk, 2, none⟩ = some sv := blk_cell hk.blk
  have hlt := hk.lt
  have HK := keepH hk
  have HR := keepH hr
  have hO := hk.outer
  clear hk hr
  go_enter Try.func12, Try.ntmps12
  go_wp2_with (at_builtin; refine wpList_append_own _ rfl _ _ 33 rfl (Bk + 1) 54 i1 (.slice none 0 0) 1 24 Try.underlying33 hi1 hy0 hy1 hy2 rfl (by decide) _ _ _ rfl (hO.alloc _) ⟨W.heap.size, 0, none⟩ 1 1 [.slice (some ⟨gn, 0, none⟩) 11 11] rfl rfl (cell_one_new _ _ _) (by simp [Value.oneCell']) (by unfold maxLen; omega) (by omega) (by simp; omega) ?_; intro v' w1 hown' hgrow _; obtain ⟨go, co, rfl⟩ := ownsRow_succ hown'; have hblk := blk_kept HK.out hgrow; have cB := blk_cell hblk; have fB := book_free hblk 2)
  go_end0
  refine ⟨rfl, ⟨.slice (some ⟨go, 0, none⟩) (n + 1) co, ?_, ?_, ?_, ?_⟩, ?_⟩
  · have e := book_set hblk 2 (.slice (some ⟨go, 0, none⟩) (n + 1) co)
    exact e
  · rw [rowsL_snoc]
    exact ownsRow_setCell_below hown' (by show Bk < Bk + 1; omega) _
  · intro j hj
    by_cases e : j = n
    · subst e
      refine ⟨ys, ?_⟩
      rw [if_pos rfl]
      exact ownsRow_setCell_below ((HR.out.alloc _).kept hgrow ((own_apart HR.out HK.out.outer (by decide)).elim (fun e => .inl (by rw [e]; rfl)) .inr)) (by show Bk < Bk + 1; omega) _
    · obtain ⟨zs, r⟩ := HK.out.rows j (by omega)
      refine ⟨zs, ?_⟩
      rw [if_neg e]
      exact ownsRow_setCell_below ((r.alloc _).kept hgrow ((own_apart r HK.out.outer (by decide)).elim (fun e => .inl (by rw [e]; rfl)) .inr)) (by show Bk < Bk + 1; omega) _
  · intro i j hi hj hij
    by_cases e1 : i = n
    · by_cases e2 : j = n
      · omega
      · rw [if_pos e1, if_neg e2]
        exact (hf j (by omega)).symm
    · by_cases e2 : j = n
      · rw [if_neg e1, if_pos e2]
        exact hf i (by omega)
      · rw [if_neg e1, if_neg e2]
        exact HK.out.apart i j (by omega) (by omega) hij
  · have b1 : Below Bk W w1 := (below_app HK.out.outer (by omega) hgrow).mono (show Bk ≤ Bk + 1 by omega)
    exact b1.setCell (p := ⟨Bk, 2, none⟩) (Nat.le_refl Bk) _

theorem rowsL_get (g : Nat → Nat) (n j : Nat) (hj : j < n) : (rowsL g n)[j]? = some (rowV (g j)) := by simp [rowsL, hj]
theorem Kept.keeps {W : World} {Bk n : Nat} {g : Nat → Nat} {sv : Value} (h : Kept W Bk n g sv) (hn : 0 < n) : ∃ go co, Keeps W Bk go co n g ∧ Marked W n g (fun _ => 0) := by
  obtain ⟨m, rfl⟩ : ∃ m, n = m + 1 := ⟨n - 1, by omega⟩
  obtain ⟨go, co, rfl⟩ := ownsRow_succ h.outer
  have hgo : Bk + 1 ≤ go ∧ go < W.heap.size := by
    rcases h.outer.2 with ⟨h', _⟩ | ⟨g', cap', cur, h', hb, hg, _⟩
    · simp at h'
    · simp only [Value.slice.injEq, Option.some.injEq, Addr.mk.injEq, and_true, true_and] at h'
      obtain ⟨rfl, _⟩ := h'
      exact ⟨hb, (Array.getElem?_eq_some_iff.1 hg).1⟩
  refine ⟨go, co, ⟨blk_cell h.blk, fun j hj => ?_, ⟨by omega, hgo.2, fun j hj => ?_⟩, h.apart⟩, fun j hj q hq => ?_⟩
  · rw [World.ownsRow.cellAt h.outer j (by omega), rowsL_get g _ j hj]
  · obtain ⟨ys, r⟩ := h.rows j hj
    have ri := row_in r
    refine ⟨by omega, ri.2, fun e => ?_⟩
    rcases own_apart r h.outer (by decide) with e1 | e1
    · simp [rowV] at e1
    · simp [rowV, Value.ownBlock] at e1
      exact e1 e
  · obtain ⟨ys, r⟩ := h.rows j hj
    have l : ys.length = 11 := by have := r.1; omega
    have c := World.ownsRow.cellAt (show W.ownsRow (Bk + 1) 3 1 (.slice (some ⟨g j, 0, none⟩) 11 11) 11 ys from r) q (by omega)
    exact ⟨⟨ys[q]'(by omega), by rw [c]; simp⟩, World.ownsRow.frozenAt (show W.ownsRow (Bk + 1) 3 1 (.slice (some ⟨g j, 0, none⟩) 11 11) 11 ys from r) q, fun hx => absurd hx (Nat.not_lt_zero q)⟩

end Go.Proofs.Ytoopbacnnkmpbac
