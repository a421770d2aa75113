/- Helpers for a range over a function: boxes and rows that stay. -/
import Derived.RangeFuncNested
import Derived.RangeFuncBox
import Derived.RangeFuncBound
import Derived.RangeFuncCalls
import Derived.RangeFuncLeaves
import Derived.Test.YtfohpbpekdcneaaDoorHti
namespace Go.Proofs.YtfohpbpekdcneaaDoor
open Go.RowKit Go.Shelf
set_option linter.unusedVariables false

theorem cells_newE (w : World) (g : Nat) (hg : w.heap.size = g) (cs : Array Value) (t : TypeId) : ∀ j u, cs.toList[j]? = some u → (w.alloc (.cells cs t)).cell? ((⟨g, 0, none⟩ : Addr).add j) = some u := by
  subst hg
  intro j u h
  have e : (⟨w.heap.size, 0, none⟩ : Addr).add j = ⟨w.heap.size, j, none⟩ := by unfold Addr.add; split <;> simp_all
  rw [e]
  have hh : (w.alloc (.cells cs t)).heap[w.heap.size]? = some (.cells cs t (0, 0)) := heap_alloc_new _ _
  rw [cell_of hh j]
  simpa using h
theorem chg_belowE {W A : World} (h : Chg (fun k => W.heap.size ≤ k) W A) : Below W.heap.size W A := ⟨h.os, h.tape, h.output, h.size, fun k hk => h.block k hk (by omega)⟩
theorem below_chgE {W A : World} (h : Below W.heap.size W A) : Chg (fun _ => False) W A := ⟨h.os, h.tape, h.output, h.size, fun k hk _ => h.block k hk⟩
theorem row_kept' {W W' : World} {B : Nat} {e : TypeId} {s n : Nat} {v : Value} {xs : List Value} (h : W.ownsRow B e s v n xs) (hb : ∀ k, v.ownBlock = some k → W'.heap[k]? = W.heap[k]?) : W'.ownsRow B e s v n xs := by
  refine ⟨h.1, ?_⟩
  rcases h.2 with h2 | ⟨g, cap, cur, hv, hg, hh, r⟩
  · exact .inl h2
  · exact .inr ⟨g, cap, cur, hv, hg, (hb g (by subst hv; rfl)).trans hh, r⟩
theorem row_base {W : World} {B C : Nat} {e : TypeId} {s n : Nat} {v : Value} {xs : List Value} (h : W.ownsRow B e s v n xs) (hBC : C ≤ B) : W.ownsRow C e s v n xs := by
  refine ⟨h.1, ?_⟩
  rcases h.2 with h2 | ⟨g, cap, cur, hv, hg, r⟩
  · exact .inl h2
  · exact .inr ⟨g, cap, cur, hv, Nat.le_trans hBC hg, r⟩
theorem keepsO_below {W W' : World} (h : Below W.heap.size W W') : KeepsOthers W W' := ⟨h.size, fun k o hk _ => (h.block k (Array.getElem?_eq_some_iff.1 hk).1).trans hk⟩
theorem box_below {W W' : World} {B : Nat} {t : TypeId} {v : Value} (h : Boxed W B t v) (hb : Below W.heap.size W W') : Boxed W' B t v := h.kept (grown_none hb) (by simp)
theorem grown_chgE {F : Nat → Prop} {W W' : World} {row : Option Nat} (h : W.grownBy W' row) (hr : ∀ k, row = some k → F k) : Chg F W W' := (Chg.refl F W).grown h (fun k e _ => hr k e)
theorem box_add {W w1 : World} {n1 Bl : Nat} {t e : TypeId} {s : Nat} {v v' : Value} {k m : Nat} {xs ys : List Value} {tmp : Obj} {F : Nat → Prop} (hv : Boxed W Bl t v) (hte : t ≠ e) (hrow : W.ownsRow n1 e s v k xs) (hown : w1.ownsRow n1 e s v' m ys) (hg : (W.alloc tmp).grownBy w1 v.ownBlock) (hF : ∀ j, n1 ≤ j → F j) (hFl : F Bl) :
    Boxed w1 Bl t v ∧ Boxed (w1.setCell ⟨Bl, 0, none⟩ v') Bl t v' ∧ (w1.setCell ⟨Bl, 0, none⟩ v').ownsRow n1 e s v' m ys ∧ KeepsOthers W (w1.setCell ⟨Bl, 0, none⟩ v') ∧ Chg F W (w1.setCell ⟨Bl, 0, none⟩ v') := by
  obtain ⟨a, b, _, d, _⟩ := hv.appended hte (row_base hrow (Nat.zero_le _)) (Nat.zero_le _) (Nat.zero_le _) (row_base hown (Nat.zero_le _)) hg
  refine ⟨a, b, hown.kept (grownBy_setCell' w1 Bl v') (.inr (a.not_row hte hown).symm), d, ?_⟩
  exact (((Chg.refl F W).alloc tmp).trans (grown_chgE (F := F) hg (fun j e => hF j (hrow.lt j e).1)) (fun _ _ x => x) (fun _ _ x => x)).setCell (fun _ => hFl) _
theorem ownFrom_chg {β : Type} {F : Nat → Prop} {w : World} (hF : ∀ j, w.heap.size ≤ j → F j) : OwnFrom w.heap.size (fun (_ : β) W => Chg F w W) := fun s A B row hs hg hr => hs.grown hg (fun k e _ => hF k (hr k e).1)
theorem chgK_b {F : Nat → Prop} {w : World} (hF : ∀ j, w.heap.size ≤ j → F j) (W : World) (l : Nat) (o o' : Obj) (hl : w.heap.size ≤ l) (h : W.heap[l]? = some o) (_ : o.isCells = false) (_ : o.isWalk = false) : Chg F W (W.putObj l o') :=
  (Chg.refl F W).grown (grownBy_putObj' W l o') (fun k e _ => by cases e; exact hF l hl)
theorem two_set {W W2 X : World} {B : Nat} {t t' : TypeId} {v v' u u' : Value} (hX : X = (W2.setCell ⟨B, 0, none⟩ u).setCell ⟨B + 1, 0, none⟩ u') (h4 : Boxed W2 B t v) (h5 : Boxed W2 (B + 1) t' v') (_ : True) (hb : Below W.heap.size W W2) (hB : W.heap.size ≤ B := by omega) : Boxed X B t u ∧ Boxed X (B + 1) t' u' ∧ Below W.heap.size W X := by
  subst hX
  refine ⟨(h4.set u).kept (grownBy_setCell' _ (B + 1) u') (by simp), Boxed.set (v := v') u' (h5.kept (grownBy_setCell' _ B u) (by simp)), ?_⟩
  exact chg_belowE (((below_chgE hb).mono (G := fun j => W.heap.size ≤ j) (fun _ _ x => x.elim)).setCell (fun _ => hB) _ |>.setCell (fun _ => Nat.le_succ_of_le hB) _)
theorem row_chg0 {wr Y : World} {B : Nat} {e : TypeId} {s n : Nat} {v : Value} {xs : List Value} (h : wr.ownsRow B e s v n xs) (c : Chg (fun _ => False) wr Y) : Y.ownsRow B e s v n xs :=
  row_kept' h (fun k e => c.block k (h.lt k e).2 (fun x => x))
theorem slice_row {X : World} {B : Nat} {e : TypeId} {s n : Nat} {v : Value} {xs : List Value} (h : X.ownsRow B e s v n xs) : ∃ p c, v = .slice p n c := by
  rcases h.2 with ⟨rfl, rfl⟩ | ⟨g, cap, cur, rfl, _⟩
  · exact ⟨none, 0, rfl⟩
  · exact ⟨_, cap, rfl⟩
theorem row_set {X E : World} {n1 B : Nat} {e : TypeId} {s n : Nat} {v u u' : Value} {xs : List Value} (hE : E = (X.setCell ⟨B, 0, none⟩ u).setCell ⟨B + 1, 0, none⟩ u') (h : X.ownsRow n1 e s v n xs) (h1 : B < n1) (h2 : B + 1 < n1) : E.ownsRow n1 e s v n xs := by
  subst hE
  refine row_kept' h (fun k hk => ?_)
  have := (h.lt k hk).1
  exact (Below.heap_setCell _ _ _ k (by show k ≠ B + 1; omega)).trans (Below.heap_setCell _ _ _ k (by show k ≠ B; omega))
theorem ret_end {X X1 E W4 : World} {F : Nat → Prop} {B : Nat} {t t' : TypeId} {v v' u u' : Value} (hE : E = (X1.setCell ⟨B, 0, none⟩ u).setCell ⟨B + 1, 0, none⟩ u') (hb : Below X.heap.size X X1) (h4 : Boxed X B t v) (h5 : Boxed X (B + 1) t' v') (hC : Chg F W4 X) (f4 : F B) (f5 : F (B + 1)) : KeepsOthers X E ∧ Boxed E B t u ∧ Boxed E (B + 1) t' u' ∧ Chg F W4 E := by
  subst hE
  have g4 := box_below h4 hb
  have g5 := box_below h5 hb
  exact ⟨((keepsO_below hb).trans (KeepsOthers.setCell _ _ _)).trans (KeepsOthers.setCell _ _ _), (g4.set u).kept (grownBy_setCell' _ (B + 1) u') (by simp), Boxed.set (v := v') u' (g5.kept (grownBy_setCell' _ B u) (by simp)), ((hC.trans (below_chgE hb) (fun _ _ x => x) (fun _ _ x => x.elim)).setCell (fun _ => f4) _).setCell (fun _ => f5) _⟩
end Go.Proofs.YtfohpbpekdcneaaDoor
