/- What each call took: the sorted rows, and the row that is built. -/
import Derived.Test.YtmjjaadliebgoaaOj
namespace Go.Proofs.Ytmjjaadliebgoaa
open Go.RowKit Go.Maps
set_option linter.unusedVariables false

theorem row_reads {W : World} {B : Nat} {v : Value} {l : List Int} {n : Nat} (h : W.ownsRow B 3 1 v n (l.map (Value.int .i64))) (hn : n = l.length) : ∃ q c, v = .slice q l.length c ∧ IReads W q l := by
  rcases h.2 with ⟨h2, h3⟩ | ⟨g, cap, cur, hv, hg, hh, h4, h5, h6, ht⟩
  · have hl : l.length = 0 := by omega
    exact ⟨none, 0, by rw [h2, hl], .inl (List.length_eq_zero_iff.1 hl)⟩
  · refine ⟨_, _, by rw [hv, hn], .inr ⟨g, 0, rfl, lt_of hh, fun i x hx => ?_⟩⟩
    rw [Nat.zero_add, cell_of hh, ← Array.getElem?_toList]
    have e : (cur.toList.take (n * 1))[i]? = some (.int .i64 x) := by rw [ht]; simp [hx]
    have hi : i < n * 1 := by have := (List.getElem?_eq_some_iff.1 hx).1; omega
    rw [List.getElem?_take_of_lt hi] at e
    exact e
structure FL (r : ResA) (W wx : World) (D : DataW Value) (n : Nat) (f : Int → List Int) (g : Int → Value) (v : Value) (i : Nat) : Prop where
  own : wx.ownsMap Try.prog 3 heldR (W.heap.size + 1) n D
  val : ∀ z, D.atKey (.int .i64 z) (.held nilV) = .held (g z)
  row : ∀ z, wx.ownsRow (W.heap.size + 2) 3 1 (g z) (f z).length ((sortZ (f z)).map (Value.int .i64))
  out : wx.ownsRow (W.heap.size + 2) 3 1 v i ((ownL r i).map (Value.int .i64))
  apart : ∀ z b, (g z).ownBlock = some b → v.ownBlock ≠ some b
  box : wx.heap[W.heap.size]? = some (.cells r.cells.toArray 26 (0, 0))
  chg : Chg (fun _ => False) W wx
theorem FL.start {r : ResA} {W wx : World} {D : DataW Value} {n : Nat} {f : Int → List Int} {g : Int → Value} {R : Nat} {left : Lit → Bool} {cnt : Nat} (h : RG r W wx D n f g R left cnt) (hl : ∀ kl, left kl = false) : FL r W wx D n f g (.slice none 0 0) 0 :=
  ⟨h.rg.owns, h.val, fun z => by have k := h.row z; rw [if_neg (by simp [hl])] at k; exact k, by simpa [ownL] using World.ownsRow_nil _ _ _ _, fun z b _ e => by simp [Value.ownBlock] at e, h.box, h.chg⟩
theorem FL.quiet {r : ResA} {W wx wy : World} {D : DataW Value} {n : Nat} {f : Int → List Int} {g : Int → Value} {v : Value} {i : Nat} (h : FL r W wx D n f g v i) (c : Chg (fun _ => False) wx wy) : FL r W wy D n f g v i :=
  ⟨own_chg h.own c (fun x => x), h.val, fun z => rowB_chg (h.row z) c, rowB_chg h.out c, h.apart, (c.block _ (lt_of h.box) (fun x => x)).trans h.box, h.chg.falls c⟩
theorem FL.look {r : ResA} {W wx : World} {D : DataW Value} {n : Nat} {f : Int → List Int} {g : Int → Value} {v : Value} {i : Nat} (h : FL r W wx D n f g v i) {z : Int} (hz : (Lit.int .i64 z).wf = true) : (Instr.lookup 40 (.map (some (W.heap.size + 1))) (.int .i64 z) false).run Try.prog wx = .ok (g z) wx := by
  obtain ⟨u, ps, hrun, hv⟩ := h.own.lookup law3 Try.underlying40 (zero24 wx) (show heldR nilV = some (.held nilV, []) from rfl) (keyOf_int_mk Try.underlying3 hz)
  rw [h.val z] at hv
  have e : u = g z := by
    unfold heldR at hv
    simp only [Option.some.injEq, Prod.mk.injEq, DataW.held.injEq] at hv
    exact hv.1
  rw [← e]
  exact hrun
theorem FL.add {r : ResA} {W wx wy : World} {D : DataW Value} {n : Nat} {f : Int → List Int} {g : Int → Value} {v v2 : Value} {i : Nat} {z : Int} (h : FL r W wx D n f g v i) (ho : ownL r (i + 1) = ownL r i ++ [z]) (hr : wy.ownsRow (W.heap.size + 2) 3 1 v2 (i + 1) ((ownL r i).map (Value.int .i64) ++ [.int .i64 z])) (hg : wx.grownBy wy v.ownBlock) (hl : v2.ownBlock = v.ownBlock ∨ v2.ownBlock = some wx.heap.size) : FL r W wy D n f g v2 (i + 1) := by
  have nv : ∀ b, v.ownBlock = some b → W.heap.size + 2 ≤ b := fun b e => (h.out.lt b e).1
  refine ⟨h.own.kept hg (fun e => by have := nv _ e.symm; omega), h.val, fun y => (h.row y).kept hg ?_, by rw [ho]; simpa using hr, fun y b e e2 => ?_, (hg.block _ (lt_of h.box) (fun e => by have := nv _ e.symm; omega)).trans h.box, h.chg.grown hg (fun k e hk => by have := nv k e; omega)⟩
  · cases q : (g y).ownBlock with
    | none => exact .inl rfl
    | some b => exact .inr (fun q2 => h.apart y b q q2.symm)
  · rcases hl with q | q
    · exact h.apart y b e (q.symm.trans e2)
    · rw [q] at e2
      injection e2 with e2
      have := ((h.row y).lt b e).2
      omega
end Go.Proofs.Ytmjjaadliebgoaa
