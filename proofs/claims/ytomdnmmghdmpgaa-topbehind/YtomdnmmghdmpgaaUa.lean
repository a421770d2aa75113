/- Rows of numbers that are sorted, whatever their length: the same numbers. -/
import Derived.Test.YtomdnmmghdmpgaaFr
import Derived.Deep.RegionHeld3
import Derived.Deep.Cut
import Derived.Deep.CutBlock
import Derived.Deep.DeepCutAuto
namespace Go.Proofs.Ytomdnmmghdmpgaa
open Go.RowKit
set_option linter.unusedVariables false

theorem Chg.p {W w w' : World} {p : Nat} (h : Chg (fun k => k = p) W w) (k : Chg (fun k => k = p) w w') : Chg (fun k => k = p) W w' := h.trans k (fun _ _ x => x) (fun _ _ x => x)
theorem Chg.pf {W w w' : World} {p : Nat} (h : Chg (fun k => k = p) W w) (k : Chg (fun _ => False) w w') : Chg (fun k => k = p) W w' := h.trans k (fun _ _ x => x) (fun _ _ x => x.elim)
theorem drewN_chg (W : World) (q : Nat) : Chg (fun _ => False) W (W.drewN q) := ⟨rfl, rfl, rfl, Nat.le_refl _, fun _ _ _ => rfl⟩
def u64V (x : Nat) : Value := .int .u64 (x : Int)
def Blk (W : World) (p : Nat) (t : TypeId) (l : List Value) : Prop := W.heap[p]? = some (.cells l.toArray t (0, 0))
theorem Blk.cell {W : World} {p : Nat} {t : TypeId} {l : List Value} (h : Blk W p t l) (i : Nat) : W.cell? ⟨p, i, none⟩ = l[i]? := by rw [cell_of h i]; simp
theorem Blk.free {W : World} {p : Nat} {t : TypeId} {l : List Value} (h : Blk W p t l) (i : Nat) : W.frozen? ⟨p, i, none⟩ = false := free_of h i
theorem Blk.set {W : World} {p : Nat} {t : TypeId} {l : List Value} (h : Blk W p t l) (i : Nat) (v : Value) : Blk (W.setCell ⟨p, i, none⟩ v) p t (l.set i v) := by
  have e := set_of h i v
  rw [List.setIfInBounds_toArray] at e
  exact e
theorem Blk.chg {W W' : World} {F : Nat → Prop} {p : Nat} {t : TypeId} {l : List Value} (h : Blk W p t l) (hc : Chg F W W') (hn : ¬ F p) : Blk W' p t l := (hc.block p (lt_of h) hn).trans h
theorem setP {W : World} {p i : Nat} (u : Value) : Chg (fun k => k = p) W (W.setCell ⟨p, i, none⟩ u) := (Chg.refl (fun k => k = p) W).setCell (p := ⟨p, i, none⟩) (fun _ => rfl) u
/-- A block that begins with these numbers. -/
def RowU (W : World) (g : Nat) (zs : List Nat) : Prop := ∃ rest, Blk W g 30 (zs.map u64V ++ rest)
theorem RowU.cell {W : World} {g : Nat} {zs : List Nat} (h : RowU W g zs) (i x : Nat) (hx : zs[i]? = some x) : W.cell? ⟨g, i, none⟩ = some (.int .u64 (x : Int)) := by
  obtain ⟨rest, h⟩ := h
  rw [h.cell, List.getElem?_append_left (by have := (List.getElem?_eq_some_iff.1 hx).1; simpa using this)]
  simp [hx, u64V]
theorem RowU.free {W : World} {g : Nat} {zs : List Nat} (h : RowU W g zs) (i : Nat) : W.frozen? ⟨g, i, none⟩ = false := by
  obtain ⟨rest, h⟩ := h
  exact h.free i
theorem RowU.chg {W W' : World} {F : Nat → Prop} {g : Nat} {zs : List Nat} (h : RowU W g zs) (hc : Chg F W W') (hn : ¬ F g) : RowU W' g zs := by
  obtain ⟨rest, h⟩ := h
  exact ⟨rest, h.chg hc hn⟩
theorem RowU.set {W : World} {g : Nat} {zs : List Nat} (h : RowU W g zs) (i x : Nat) (hi : i < zs.length) : RowU (W.setCell ⟨g, i, none⟩ (.int .u64 (x : Int))) g (zs.set i x) := by
  obtain ⟨rest, h⟩ := h
  refine ⟨rest, ?_⟩
  have e := h.set i (.int .u64 (x : Int))
  rw [List.set_append_left _ _ (by simpa using hi)] at e
  rw [List.map_set]
  exact e
set_option maxRecDepth 100000 in
theorem nan_u (x : Nat) (W : World) : Calls Try.prog 59 #[.int .u64 (x : Int)] W fun e W' => e = .returned (.bool false) ∧ W' = W := by
  have b : ((x : Int) != (x : Int)) = false := by simp
  go_enter Try.func59, Try.ntmps59
  go_wp2_with fail
  go_ret
  exact ⟨by simp, rfl⟩
set_option maxRecDepth 100000 in
theorem less_u (x y : Nat) (W : World) : Calls Try.prog 46 #[.int .u64 (x : Int), .int .u64 (y : Int)] W fun e W' => e = .returned (.bool (decide (x < y))) ∧ W' = W := by
  have d : decide ((x : Int) < (y : Int)) = decide (x < y) := by congr 1; exact propext ⟨fun h => by omega, fun h => by omega⟩
  go_enter Try.func46, Try.ntmps46
  go_wp2_with fail
  refine (nan_u x _).mono ?_
  rintro e w ⟨rfl, rfl⟩
  go_wp2_with fail
  go_ret
  exact ⟨by simp, rfl⟩
theorem swap_perm (zs : List Nat) (i j x y : Nat) (hx : zs[i]? = some x) (hy : zs[j]? = some y) : ((zs.set i y).set j x).Perm zs := by
  obtain ⟨hi, rfl⟩ := List.getElem?_eq_some_iff.1 hx
  obtain ⟨hj, rfl⟩ := List.getElem?_eq_some_iff.1 hy
  exact List.set_set_perm hi hj
/-- The same numbers, in a block that alone was changed. -/
def Same (W : World) (g : Nat) (zs : List Nat) (w : World) : Prop := ∃ zs' : List Nat, zs'.Perm zs ∧ RowU w g zs' ∧ Chg (fun k => k = g) W w
theorem Same.quiet {W w w' : World} {g : Nat} {zs : List Nat} (h : Same W g zs w) (c : Chg (fun _ => False) w w') : Same W g zs w' := by
  obtain ⟨zs', P, R, C⟩ := h
  exact ⟨zs', P, R.chg c (fun x => x), C.pf c⟩
theorem Same.refl {W : World} {g : Nat} {zs : List Nat} (h : RowU W g zs) : Same W g zs W := ⟨zs, List.Perm.refl _, h, Chg.refl _ _⟩
theorem Same.trans {W w w' : World} {g : Nat} {zs : List Nat} (h : Same W g zs w) (k : ∀ zs', zs'.length = zs.length → RowU w g zs' → Same w g zs' w') : Same W g zs w' := by
  obtain ⟨zs', P, R, C⟩ := h
  obtain ⟨zt, P2, R2, C2⟩ := k zs' P.length_eq R
  exact ⟨zt, P2.trans P, R2, C.p C2⟩
/-- Two cells, read. -/
theorem Same.two {W w : World} {g : Nat} {zs : List Nat} (h : Same W g zs w) {i j : Nat} (hi : i < zs.length) (hj : j < zs.length) :
    ∃ x y : Nat, ∀ w', Chg (fun _ => False) w w' → Hid (w'.cell? ⟨g, i, none⟩ = some (.int .u64 (x : Int)) ∧ w'.cell? ⟨g, j, none⟩ = some (.int .u64 (y : Int)) ∧ w'.frozen? ⟨g, i, none⟩ = false ∧ (∀ v, (w'.setCell ⟨g, i, none⟩ v).frozen? ⟨g, j, none⟩ = false) ∧ (i ≠ j → ∀ v, (w'.setCell ⟨g, i, none⟩ v).cell? ⟨g, j, none⟩ = some (.int .u64 (y : Int))) ∧ (i = j → ∀ v, (w'.setCell ⟨g, i, none⟩ v).cell? ⟨g, j, none⟩ = some v)
      ∧ Same W g zs ((w'.setCell ⟨g, i, none⟩ (.int .u64 (y : Int))).setCell ⟨g, j, none⟩ (.int .u64 (x : Int)))) := by
  obtain ⟨zs', P, R, C⟩ := h
  have hl := P.length_eq
  obtain ⟨x, hx⟩ : ∃ x, zs'[i]? = some x := ⟨_, List.getElem?_eq_getElem (by omega)⟩
  obtain ⟨y, hy⟩ : ∃ y, zs'[j]? = some y := ⟨_, List.getElem?_eq_getElem (by omega)⟩
  refine ⟨x, y, fun w' c => ?_⟩
  have R' := R.chg c (fun x => x)
  have fr : ∀ v, (w'.setCell ⟨g, i, none⟩ v).frozen? ⟨g, j, none⟩ = false := fun v => by
    obtain ⟨rest, B⟩ := R'
    exact (B.set i v).free j
  have so : i ≠ j → ∀ v, (w'.setCell ⟨g, i, none⟩ v).cell? ⟨g, j, none⟩ = some (.int .u64 (y : Int)) := fun ne v => by
    have q := R'.cell j y hy
    obtain ⟨rest, B⟩ := R'
    rw [(B.set i v).cell j, List.getElem?_set_ne ne, ← B.cell j]
    exact q
  have se : i = j → ∀ v, (w'.setCell ⟨g, i, none⟩ v).cell? ⟨g, j, none⟩ = some v := fun e v => by
    obtain ⟨rest, B⟩ := R'
    subst e
    rw [(B.set i v).cell i, List.getElem?_set_self (by simp; omega)]
  refine ⟨R'.cell i x hx, R'.cell j y hy, R'.free i, fr, so, se, _, (swap_perm zs' i j x y hx hy).trans P, (R'.set i y (by omega)).set j x (by rw [List.length_set]; omega), (C.pf c).p ((setP _).p (setP _))⟩
/-- Two cells that may be one. -/
theorem Same.any {W w : World} {g : Nat} {zs : List Nat} (h : Same W g zs w) {i j : Nat} (hi : i < zs.length) (hj : j < zs.length) :
    ∃ x y : Nat, ∀ w', Chg (fun _ => False) w w' → Hid (w'.cell? ⟨g, i, none⟩ = some (.int .u64 (x : Int)) ∧ w'.cell? ⟨g, j, none⟩ = some (.int .u64 (y : Int)) ∧ w'.frozen? ⟨g, i, none⟩ = false ∧ (∀ v, (w'.setCell ⟨g, i, none⟩ v).frozen? ⟨g, j, none⟩ = false) ∧ (∀ v, ∃ u, (w'.setCell ⟨g, i, none⟩ v).cell? ⟨g, j, none⟩ = some u)
      ∧ Same W g zs ((w'.setCell ⟨g, i, none⟩ (.int .u64 (y : Int))).setCell ⟨g, j, none⟩ (.int .u64 (x : Int)))) := by
  obtain ⟨x, y, h⟩ := h.two hi hj
  refine ⟨x, y, fun w' c => ?_⟩
  obtain ⟨k1, k2, k3, k4, k5, k6, k7⟩ : _ := (h w' c).out
  refine ⟨k1, k2, k3, k4, fun v => ?_, k7⟩
  by_cases e : i = j
  · exact ⟨_, k6 e v⟩
  · exact ⟨_, k5 e v⟩
end Go.Proofs.Ytomdnmmghdmpgaa
