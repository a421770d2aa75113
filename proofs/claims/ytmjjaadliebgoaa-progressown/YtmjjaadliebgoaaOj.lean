/- The rows sorted, one key after another. -/
import Derived.Test.YtmjjaadliebgoaaOg
import Derived.Test.YtmjjaadliebgoaaHSort
namespace Go.Proofs.Ytmjjaadliebgoaa
open Go.RowKit Go.Maps
set_option linter.unusedVariables false

theorem rowB_zero {W : World} {B : Nat} {e : TypeId} {s n : Nat} {v : Value} {xs : List Value} (h : W.ownsRow B e s v n xs) : W.ownsRow 0 e s v n xs := by
  refine ⟨h.1, ?_⟩
  rcases h.2 with h2 | ⟨g, cap, cur, hv, hg, hr⟩
  · exact .inl h2
  · exact .inr ⟨g, cap, cur, hv, Nat.zero_le _, hr⟩
theorem rowB_up {W : World} {B : Nat} {e : TypeId} {s n : Nat} {v : Value} {xs : List Value} (h : W.ownsRow 0 e s v n xs) (hB : ∀ b, v.ownBlock = some b → B ≤ b) : W.ownsRow B e s v n xs := by
  refine ⟨h.1, ?_⟩
  rcases h.2 with h2 | ⟨g, cap, cur, hv, hg, hr⟩
  · exact .inl h2
  · exact .inr ⟨g, cap, cur, hv, hB g (by rw [hv]; rfl), hr⟩
theorem sortZ_nil : sortZ [] = [] := by simp [sortZ]
structure RG (r : ResA) (W wx : World) (D : DataW Value) (n : Nat) (f : Int → List Int) (g : Int → Value) (R : Nat) (left : Lit → Bool) (cnt : Nat) : Prop where
  rg : wx.ranges Try.prog 3 heldR (W.heap.size + 1) R n D left cnt
  val : ∀ z, D.atKey (.int .i64 z) (.held nilV) = .held (g z)
  row : ∀ z, wx.ownsRow (W.heap.size + 2) 3 1 (g z) (f z).length ((if left (.int .i64 z) = true then f z else sortZ (f z)).map (Value.int .i64))
  apart : ∀ z y b, z ≠ y → (g z).ownBlock = some b → (g y).ownBlock ≠ some b
  rb : ∀ z, (g z).ownBlock ≠ some R
  nr : W.heap.size < R
  box : wx.heap[W.heap.size]? = some (.cells r.cells.toArray 26 (0, 0))
  chg : Chg (fun _ => False) W wx
theorem RG.start {r : ResA} {W wr w0 : World} {D : DataW Value} {n : Nat} {f : Int → List Int} {g : Int → Value} (h : GM r W wr D n f g) (hr : w0.ranges Try.prog 3 heldR (W.heap.size + 1) wr.heap.size n D (Maps.has D) (Maps.size D)) (hg : wr.grownBy w0 none) : RG r W w0 D n f g wr.heap.size (Maps.has D) (Maps.size D) := by
  refine ⟨hr, h.val, fun z => ?_, h.apart, fun z e => by have := ((h.row z).lt _ e).2; omega, lt_of h.box, (hg.block _ (lt_of h.box) (by simp)).trans h.box, h.chg.grown hg (fun k e => by simp at e)⟩
  have k := (h.row z).kept hg (by cases (g z).ownBlock <;> simp)
  by_cases c : Maps.has D (.int .i64 z) = true
  · rw [if_pos c]; exact k
  · rw [if_neg c]
    have e := atKey_of_not_has (by simpa using c) (.held nilV : DataW Value)
    rw [h.val z] at e
    injection e with e
    have hz : f z = [] := by
      rcases k.2 with ⟨_, q⟩ | ⟨b, cap, cur, hv, _⟩
      · simpa using q
      · rw [e] at hv; simp [nilV] at hv
    rw [hz, sortZ_nil]
    rw [hz] at k
    exact k
theorem RG.next {r : ResA} {W wx wy : World} {D : DataW Value} {n : Nat} {f : Int → List Int} {g : Int → Value} {R : Nat} {left : Lit → Bool} {cnt : Nat} (h : RG r W wx D n f g R left cnt) (hg : wx.grownBy wy (some R)) (z : Int) : wy.ownsRow (W.heap.size + 2) 3 1 (g z) (f z).length ((if left (.int .i64 z) = true then f z else sortZ (f z)).map (Value.int .i64)) := (h.row z).kept hg (Or.inr (h.rb z))
theorem RG.sorted {r : ResA} {W wx wy wz : World} {D : DataW Value} {n : Nat} {f : Int → List Int} {g : Int → Value} {R : Nat} {left : Lit → Bool} {cnt cnt' : Nat} (h : RG r W wx D n f g R left cnt) (hg : wx.grownBy wy (some R)) {x : Int} (hr : wy.ranges Try.prog 3 heldR (W.heap.size + 1) R n D (fun z => left z && !z.sameKey (.int .i64 x)) cnt')
    (hs : wz.ownsRow 0 3 1 (g x) (f x).length ((sortZ (f x)).map (Value.int .i64))) (c : Chg (fun k => (g x).ownBlock = some k) wy wz) : RG r W wz D n f g R (fun z => left z && !z.sameKey (.int .i64 x)) cnt' := by
  have nb : ∀ z b, (g z).ownBlock = some b → W.heap.size + 2 ≤ b ∧ b < wy.heap.size := fun z b e => (h.next hg z).lt b e
  have cg : wy.grownBy wz (g x).ownBlock := ⟨c.os, c.tape, c.output, c.size, fun k hk hn => c.block k hk (fun e => hn e.symm)⟩
  refine ⟨hr.kept cg (fun e => by have := (nb x _ e.symm).1; omega) (fun e => h.rb x e.symm), h.val, fun z => ?_, h.apart, h.rb, h.nr, ?_, ?_⟩
  · by_cases e : z = x
    · subst e
      rw [if_neg (by rw [WideAt.sameKey_self (by trivial)]; simp)]
      exact rowB_up hs (fun b q => (nb z b q).1)
    · have k := (h.next hg z).kept cg (by
        cases q : (g z).ownBlock with
        | none => exact .inl rfl
        | some b => exact .inr (fun q2 => h.apart z x b e q q2.symm))
      rw [sameKey_ne (fun q => e (by injection q))]
      simpa using k
  · have b1 := (hg.block _ (lt_of h.box) (by have := h.nr; intro e; injection e with e; omega)).trans h.box
    exact (c.block _ (lt_of b1) (fun e => by have := (nb x _ e).1; omega)).trans b1
  · exact (h.chg.grown hg (fun k e hk => by injection e with e; have := h.nr; omega)).trans c (fun _ _ x => x) (fun i hi e => by have := (nb x i e).1; omega)
end Go.Proofs.Ytmjjaadliebgoaa
