/- The document's Patch of what fits. -/
import Derived.Test.YtbmfjcdafjknaabEE
import Derived.Test.YtbmfjcdafjknaabEs
namespace Go.Proofs.Ytbmfjcdafjknaab
open Go.RowKit Go.Joins Go.ChangeShapes Go.WideShapes
set_option linter.unusedVariables false

theorem chg_drewQ {F : Nat → Prop} {a b : World} (h : Chg F a b) (n : Nat) : Chg F a (b.drewN n) := ⟨h.os, h.tape, h.output, h.size, h.block⟩
theorem below_on {W2 wr X : World} {n : Nat} (h : Below n W2 wr) (c : Chg (fun _ => False) wr X) (e : n = W2.heap.size := by rfl) : Below n W2 X := by
  subst e
  exact chg_belowE ((below_chgE h).trans c (H := fun k => W2.heap.size ≤ k) (fun _ _ x => x.elim) (fun _ _ x => x.elim))
theorem on_chg {wr X W4 : World} (h4 : Below X.heap.size X W4) (c : Chg (fun _ => False) wr X) : Chg (fun _ => False) wr W4 := c.trans (below_chgE h4) (fun _ _ x => x) (fun _ _ x => x)
theorem row_onD {W2 wr X W4 : World} {e : TypeId} {s n : Nat} {v : Value} {xs : List Value} {P : Prop} (h : wr.ownsRow W2.heap.size e s v n xs ∧ P ∧ Below W2.heap.size W2 wr) (h4 : Below X.heap.size X W4) (c : Chg (fun _ => False) wr X) : W4.ownsRow W2.heap.size e s v n xs ∧ True ∧ Below W2.heap.size W2 W4 :=
  ⟨row_chg0 h.1 (on_chg h4 c), trivial, below_on h.2.2 (on_chg h4 c)⟩
theorem two_on {wr X : World} {b o1 o2 : Nat} {u1 u2 : Value} (h : wr.cell? ⟨b, o1, none⟩ = some u1 ∧ wr.cell? ⟨b, o2, none⟩ = some u2) (c : Chg (fun _ => False) wr X) : X.cell? ⟨b, o1, none⟩ = some u1 ∧ X.cell? ⟨b, o2, none⟩ = some u2 := ⟨cell_chg c h.1 (fun x => x), cell_chg c h.2 (fun x => x)⟩
theorem two_kept {W wr Y w3 : World} {b o1 o2 : Nat} {u1 u2 : Value} {e : TypeId} {s n : Nat} {v : Value} {xs : List Value} (h : wr.cell? ⟨b, o1, none⟩ = some u1 ∧ wr.cell? ⟨b, o2, none⟩ = some u2) (hr : wr.ownsRow W.heap.size e s v n xs) (c : Chg (fun _ => False) wr Y) (g : Y.grownBy w3 v.ownBlock) (hbW : b < W.heap.size) : w3.cell? ⟨b, o1, none⟩ = some u1 ∧ w3.cell? ⟨b, o2, none⟩ = some u2 := by
  have cc : Chg (fun j => W.heap.size ≤ j) wr w3 := c.trans (grown_chgE (F := fun j => W.heap.size ≤ j) g (fun j e => (hr.lt j e).1)) (fun _ _ x => x.elim) (fun _ _ x => x)
  have hn : ¬ W.heap.size ≤ b := by omega
  exact ⟨cell_chg cc h.1 hn, cell_chg cc h.2 hn⟩
theorem ro_len (T : Nat → Bool) (a : List (Nat × Nat)) (l : List Ch) : (ro T a l).length ≤ a.length + l.length := by
  have gen : ∀ n a l, a.length + l.length ≤ n → (ro T a l).length ≤ a.length + l.length := by
    intro n
    have hh : ∀ c, (hasL c).length ≤ 1 := fun c => by unfold hasL; split <;> simp
    have ht : ∀ x : Nat × Nat, (if T x.1 then [] else [x]).length ≤ 1 := fun x => by split <;> simp
    induction n with
    | zero =>
      intro a l h
      have ha : a = [] := List.length_eq_zero_iff.1 (by omega)
      have hl : l = [] := List.length_eq_zero_iff.1 (by omega)
      subst ha hl
      rw [ro_nil]; simp
    | succ n ih =>
      intro a l h
      cases a with
      | nil =>
        cases l with
        | nil => rw [ro_nil]; simp
        | cons c l =>
          have := ih [] l (by simp at h ⊢; omega)
          have := hh c
          rw [ro_l, List.length_append]; simp at *; omega
      | cons x a =>
        cases l with
        | nil =>
          have := ih a [] (by simp at h ⊢; omega)
          have := ht x
          rw [ro_a, List.length_append]; simp only [List.length_cons, List.length_nil] at *; omega
        | cons c l =>
          by_cases hc : x.1 < c.k
          · have := ih a (c :: l) (by simp at h ⊢; omega)
            have := ht x
            rw [ro_lt T hc, List.length_append]; simp only [List.length_cons] at *; omega
          · have := ih (x :: a) l (by simp at h ⊢; omega)
            have := hh c
            rw [ro_ge T hc, List.length_append]; simp only [List.length_cons] at *; omega
  exact gen _ a l (Nat.le_refl _)
end Go.Proofs.Ytbmfjcdafjknaab
