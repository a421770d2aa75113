/- A map of rows of one's own: each thread's steps. -/
import Derived.Test.YtmjjaadliebgoaaOf
import Derived.Maps.RangeWalk
namespace Go.Proofs.Ytmjjaadliebgoaa
open Go.RowKit Go.Maps
set_option linter.unusedVariables false

/-- An element as it is: the map is one of ints to values. -/
def heldR (v : Value) : Option (DataW Value × List MemPlace) := some (.held v, [])
def nilV : Value := .slice none 0 0
def updF {α : Type} (f : Int → α) (z : Int) (a : α) : Int → α := fun y => if y = z then a else f y
theorem updF_same {α : Type} (f : Int → α) (z : Int) (a : α) : updF f z a z = a := if_pos rfl
theorem updF_other {α : Type} (f : Int → α) {z y : Int} (a : α) (h : y ≠ z) : updF f z a y = f y := if_neg h
structure GM (r : ResA) (W wr : World) (D : DataW Value) (n : Nat) (f : Int → List Int) (g : Int → Value) : Prop where
  own : wr.ownsMap Try.prog 3 heldR (W.heap.size + 1) n D
  val : ∀ z, D.atKey (.int .i64 z) (.held nilV) = .held (g z)
  row : ∀ z, wr.ownsRow (W.heap.size + 2) 3 1 (g z) (f z).length ((f z).map (Value.int .i64))
  apart : ∀ z y b, z ≠ y → (g z).ownBlock = some b → (g y).ownBlock ≠ some b
  box : wr.heap[W.heap.size]? = some (.cells r.cells.toArray 26 (0, 0))
  chg : Chg (fun _ => False) W wr
theorem zero24 (w : World) : (zeroValue 24).run Try.prog w = .ok nilV w := by kernel_rfl
theorem GM.quiet {r : ResA} {W wr wx : World} {D : DataW Value} {n : Nat} {f : Int → List Int} {g : Int → Value} (h : GM r W wr D n f g) (c : Chg (fun _ => False) wr wx) : GM r W wx D n f g :=
  ⟨own_chg h.own c (fun x => x), h.val, fun z => rowB_chg (h.row z) c, h.apart, (c.block _ (lt_of h.box) (fun x => x)).trans h.box, h.chg.falls c⟩
theorem GM.start {r : ResA} {W W1 : World} (hW1 : W1 = (W.alloc (.cells r.cells.toArray 26)).alloc (.map #[] 0)) : GM r W W1 (.map []) 0 (fun _ => []) (fun _ => nilV) := by
  refine ⟨?_, fun z => rfl, fun z => World.ownsRow_nil _ _ _ _, fun z y b _ e => by simp [nilV, Value.ownBlock] at e, ?_, ?_⟩
  · rw [hW1]
    have := World.ownsMap_made (H := Value) (W.alloc (.cells r.cells.toArray 26)) Try.prog 3 heldR
    rw [World.size_alloc] at this
    exact this
  · rw [hW1]; exact alloc_of (heap_alloc_new _ _) _
  · rw [hW1]; exact ((Chg.refl _ _).alloc _).alloc _
/-- What is at a key. -/
theorem GM.look {r : ResA} {W wr : World} {D : DataW Value} {n : Nat} {f : Int → List Int} {g : Int → Value} (h : GM r W wr D n f g) {z : Int} (hz : (Lit.int .i64 z).wf = true) : (Instr.lookup 40 (.map (some (W.heap.size + 1))) (.int .i64 z) false).run Try.prog wr = .ok (g z) wr := by
  obtain ⟨v, ps, hrun, hv⟩ := h.own.lookup law3 Try.underlying40 (zero24 wr) (show heldR nilV = some (.held nilV, []) from rfl) (keyOf_int_mk Try.underlying3 hz)
  rw [h.val z] at hv
  have e : v = g z := by
    unfold heldR at hv
    simp only [Option.some.injEq, Prod.mk.injEq, DataW.held.injEq] at hv
    exact hv.1
  rw [← e]
  exact hrun
/-- A row that has grown, and its place in the map. -/
theorem GM.put {r : ResA} {W wr wx wy : World} {D : DataW Value} {n : Nat} {f : Int → List Int} {g : Int → Value} (h : GM r W wr D n f g) {z x : Int} {v : Value} (hr : wx.ownsRow (W.heap.size + 2) 3 1 v ((f z).length + 1) ((f z).map (Value.int .i64) ++ [.int .i64 x])) (hg : wr.grownBy wx (g z).ownBlock) (hl : v.ownBlock = (g z).ownBlock ∨ ∃ b, v.ownBlock = some b ∧ wr.heap.size ≤ b)
    (ho : wy.ownsMap Try.prog 3 heldR (W.heap.size + 1) (n + 1) (D.put (.int .i64 z) (.held v))) (hg2 : wx.grownBy wy (some (W.heap.size + 1))) : GM r W wy (D.put (.int .i64 z) (.held v)) (n + 1) (updF f z (f z ++ [x])) (updF g z v) := by
  have nb : ∀ y b, (g y).ownBlock = some b → W.heap.size + 2 ≤ b ∧ b < wr.heap.size := fun y b e => (h.row y).lt b e
  have nv : ∀ b, v.ownBlock = some b → W.heap.size + 2 ≤ b := fun b e => (hr.lt b e).1
  refine ⟨ho, fun y => ?_, fun y => ?_, fun y1 y2 b hne e1 e2 => ?_, ?_, ?_⟩
  · by_cases e : y = z
    · subst e
      rw [updF_same, atKey_put_same h.own.isMap (by trivial)]
    · rw [updF_other _ _ e, atKey_put_other (fun q => e (by injection q)), h.val y]
  · by_cases e : y = z
    · subst e
      rw [updF_same, updF_same]
      have k := hr.kept hg2 (Or.inr (fun e => by have := nv _ e; omega))
      simpa using k
    · rw [updF_other _ _ e, updF_other _ _ e]
      refine ((h.row y).kept hg ?_).kept hg2 (Or.inr (fun q => by have := (nb y _ q).1; omega))
      cases q : (g y).ownBlock with
      | none => exact .inl rfl
      | some b => exact .inr (fun q2 => h.apart y z b e q q2.symm)
  · by_cases a1 : y1 = z
    · subst a1
      rw [updF_same] at e1
      rw [updF_other _ _ (Ne.symm hne)] at e2
      rcases hl with q | ⟨b', q, hb'⟩
      · exact h.apart y2 y1 b (Ne.symm hne) e2 (q.symm.trans e1)
      · have := (nb y2 b e2).2
        rw [q] at e1
        injection e1 with e1
        omega
    · rw [updF_other _ _ a1] at e1
      by_cases a2 : y2 = z
      · subst a2
        rw [updF_same] at e2
        rcases hl with q | ⟨b', q, hb'⟩
        · exact h.apart y1 y2 b hne e1 (q.symm.trans e2)
        · have := (nb y1 b e1).2
          rw [q] at e2
          injection e2 with e2
          omega
      · rw [updF_other _ _ a2] at e2
        exact h.apart y1 y2 b hne e1 e2
  · have hb := lt_of h.box
    exact (hg2.block _ (Nat.lt_of_lt_of_le hb hg.size) (by simp)).trans ((hg.block _ hb (fun e => by have := (nb z _ e.symm).1; omega)).trans h.box)
  · exact (h.chg.grown hg (fun k e hk => by have := (nb z k e).1; omega)).grown hg2 (fun k e hk => by injection e with e; omega)
end Go.Proofs.Ytmjjaadliebgoaa
