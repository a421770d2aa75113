/- Diff, walked. -/
import Derived.Test.YtbmfjcdafjknaabEh
namespace Go.Proofs.Ytbmfjcdafjknaab
open Go.RowKit Go.Shelf
set_option linter.unusedVariables false
attribute [local go_sem] Oper.semAt_some

theorem keepsO_below {W W' : World} (h : Below W.heap.size W W') : KeepsOthers W W' := ⟨h.size, fun k o hk _ => (h.block k (Array.getElem?_eq_some_iff.1 hk).1).trans hk⟩
theorem box_below {W W' : World} {B : Nat} {t : TypeId} {v : Value} (h : Boxed W B t v) (hb : Below W.heap.size W W') : Boxed W' B t v := h.kept (grown_none hb) (by simp)
/-- A row in a box that is longer by one. -/
theorem box_add {W w1 : World} {n1 Bl : Nat} {t e : TypeId} {s : Nat} {v v' : Value} {k m : Nat} {xs ys : List Value} {tmp : Obj} {F : Nat → Prop} (hv : Boxed W Bl t v) (hte : t ≠ e) (hrow : W.ownsRow n1 e s v k xs) (hown : w1.ownsRow n1 e s v' m ys) (hg : (W.alloc tmp).grownBy w1 v.ownBlock) (hF : ∀ j, n1 ≤ j → F j) (hFl : F Bl) :
    Boxed w1 Bl t v ∧ Boxed (w1.setCell ⟨Bl, 0, none⟩ v') Bl t v' ∧ (w1.setCell ⟨Bl, 0, none⟩ v').ownsRow n1 e s v' m ys ∧ KeepsOthers W (w1.setCell ⟨Bl, 0, none⟩ v') ∧ Chg F W (w1.setCell ⟨Bl, 0, none⟩ v') := by
  obtain ⟨a, b, _, d, _⟩ := hv.appended hte (row_base hrow (Nat.zero_le _)) (Nat.zero_le _) (Nat.zero_le _) (row_base hown (Nat.zero_le _)) hg
  refine ⟨a, b, hown.kept (grownBy_setCell' w1 Bl v') (.inr (a.not_row hte hown).symm), d, ?_⟩
  exact (((Chg.refl F W).alloc tmp).trans (grown_chgE (F := F) hg (fun j e => hF j (hrow.lt j e).1)) (fun _ _ x => x) (fun _ _ x => x)).setCell (fun _ => hFl) _
theorem ownFrom_chg {β : Type} {F : Nat → Prop} {w : World} (hF : ∀ j, w.heap.size ≤ j → F j) : OwnFrom w.heap.size (fun (_ : β) W => Chg F w W) := fun s A B row hs hg hr => hs.grown hg (fun k e _ => hF k (hr k e).1)
theorem chgK_b {F : Nat → Prop} {w : World} (hF : ∀ j, w.heap.size ≤ j → F j) (W : World) (l : Nat) (o o' : Obj) (hl : w.heap.size ≤ l) (h : W.heap[l]? = some o) (_ : o.isCells = false) (_ : o.isWalk = false) : Chg F W (W.putObj l o') :=
  (Chg.refl F W).grown (grownBy_putObj' W l o') (fun k e _ => by cases e; exact hF l hl)
theorem five_boxes {W2 W4 : World} {t1 t2 t3 : TypeId} {v0 v1 v2 v3 v4 : Value} (h : W4 = (((((W2.alloc (Obj.cells #[v0] t1)).alloc (Obj.cells #[v1] t2)).alloc (Obj.cells #[v2] t2)).alloc (Obj.cells #[v3] t3)).alloc (Obj.cells #[v4] t3))) :
    Boxed W4 W2.heap.size t1 v0 ∧ Boxed W4 (W2.heap.size + 1) t2 v1 ∧ Boxed W4 (W2.heap.size + 1 + 1) t2 v2 ∧ Boxed W4 (W2.heap.size + 1 + 1 + 1) t3 v3 ∧ Boxed W4 (W2.heap.size + 1 + 1 + 1 + 1) t3 v4 ∧ Below W2.heap.size W2 W4 ∧ W4.heap.size = W2.heap.size + 5 := by
  subst h
  refine ⟨((((Boxed.new W2 t1 v0).alloc _).alloc _).alloc _).alloc _, ?_, ?_, ?_, ?_, ((((((Below.refl _ W2).alloc (Nat.le_refl _) _).alloc (by simp) _).alloc (by simp; omega) _).alloc (by simp; omega) _).alloc (by simp; omega) _), by simp⟩
  · have := Boxed.new (W2.alloc (Obj.cells #[v0] t1)) t2 v1
    rw [World.size_alloc] at this
    exact ((this.alloc _).alloc _).alloc _
  · have := Boxed.new ((W2.alloc (Obj.cells #[v0] t1)).alloc (Obj.cells #[v1] t2)) t2 v2
    simp only [World.size_alloc] at this
    exact (this.alloc _).alloc _
  · have := Boxed.new (((W2.alloc (Obj.cells #[v0] t1)).alloc (Obj.cells #[v1] t2)).alloc (Obj.cells #[v2] t2)) t3 v3
    simp only [World.size_alloc] at this
    exact this.alloc _
  · have := Boxed.new ((((W2.alloc (Obj.cells #[v0] t1)).alloc (Obj.cells #[v1] t2)).alloc (Obj.cells #[v2] t2)).alloc (Obj.cells #[v3] t3)) t3 v4
    simp only [World.size_alloc] at this
    exact this
theorem PairsAt.base {W : World} {p : Option Addr} {l : List (Nat × Nat)} (h : PairsAt W p l) : ∃ bk off, (0 < l.length → p = some ⟨bk, off, none⟩) ∧ ∀ (i k x : Nat), l[i]? = some (k, x) → bk < W.heap.size ∧ W.cell? ⟨bk, off + i * 2, none⟩ = some (.int .u64 (k : Int)) ∧ W.cell? ⟨bk, off + i * 2 + 1, none⟩ = some (.int .u64 (x : Int)) := by
  rcases h with rfl | ⟨bk, off, rfl, hb, h⟩
  · exact ⟨0, 0, fun h => by simp at h, fun i k x h => by simp at h⟩
  · exact ⟨bk, off, fun _ => rfl, fun i k x e => ⟨hb, (h i k x e).2.2⟩⟩
theorem five_cells {X1 X2 : World} {a b c d e : Value} {t : TypeId} (h : Below (X1.alloc (.cells #[a, b, c, d, e] t)).heap.size (X1.alloc (.cells #[a, b, c, d, e] t)) X2) :
    X2.cell? ⟨X1.heap.size, 0, none⟩ = some a ∧ X2.cell? ⟨X1.heap.size, 1, none⟩ = some b ∧ X2.cell? ⟨X1.heap.size, 2, none⟩ = some c ∧ X2.cell? ⟨X1.heap.size, 3, none⟩ = some d ∧ X2.cell? ⟨X1.heap.size, 4, none⟩ = some e := by
  have hh : (X1.alloc (.cells #[a, b, c, d, e] t)).heap[X1.heap.size]? = some (.cells #[a, b, c, d, e] t (0, 0)) := heap_alloc_new _ _
  have h2 := (h.block X1.heap.size (by simp)).trans hh
  exact ⟨by rw [cell_of h2]; rfl, by rw [cell_of h2]; rfl, by rw [cell_of h2]; rfl, by rw [cell_of h2]; rfl, by rw [cell_of h2]; rfl⟩
theorem keeps_on {X X1 X2 : World} {o : Obj} (h1 : Below X.heap.size X X1) (h2 : Below (X1.alloc o).heap.size (X1.alloc o) X2) : KeepsOthers X X2 ∧ Chg (fun _ => False) X X2 := by
  have hb : Below X.heap.size X X2 := below_trans (below_trans h1 ((Below.refl _ X1).alloc (Nat.le_refl _) o)) h2
  exact ⟨keepsO_below hb, below_chgE hb⟩
theorem chg_on {X X1 X2 W4 : World} {F : Nat → Prop} {B n1 : Nat} {t e : TypeId} {v : Value} {s k : Nat} {xs : List Value} {o : Obj} (h : Boxed X B t v ∧ X.ownsRow n1 e s v k xs ∧ Chg F W4 X) (h1 : Below X.heap.size X X1) (h2 : Below (X1.alloc o).heap.size (X1.alloc o) X2) :
    Boxed X2 B t v ∧ X2.ownsRow n1 e s v k xs ∧ Chg F W4 X2 := by
  have hb : Below X.heap.size X X2 := below_trans (below_trans h1 ((Below.refl _ X1).alloc (Nat.le_refl _) o)) h2
  exact ⟨box_below h.1 hb, h.2.1.kept (grown_none hb) (by cases Value.ownBlock _ <;> simp), h.2.2.trans (below_chgE hb) (fun _ _ x => x) (fun _ _ x => x.elim)⟩
end Go.Proofs.Ytbmfjcdafjknaab
