/- The document's small calls: Ahead, apart, place, isLeft; lists of ints and of bools. -/
import Derived.Test.YtnlkdibalhgipaaHEvP
namespace Go.Proofs.Ytnlkdibalhgipaa
open Go.RowKit

def IReads (W : World) (p : Option Addr) (xs : List Int) : Prop :=
  xs = [] ∨ ∃ bk off, p = some ⟨bk, off, none⟩ ∧ bk < W.heap.size ∧ ∀ (i : Nat) x, xs[i]? = some x → W.cell? ⟨bk, off + i, none⟩ = some (.int .i64 x)
theorem IReads.get {W : World} {p : Option Addr} {xs : List Int} (h : IReads W p xs) (i : Nat) (x : Int) (hx : xs[i]? = some x) : ∃ bk off, p = some ⟨bk, off, none⟩ ∧ bk < W.heap.size ∧ W.cell? ⟨bk, off + i, none⟩ = some (.int .i64 x) := by
  rcases h with rfl | ⟨bk, off, rfl, hb, h⟩
  · simp at hx
  · exact ⟨bk, off, rfl, hb, h i x hx⟩
theorem IReads.chg {W X : World} {p : Option Addr} {xs : List Int} {F : Nat → Prop} (h : IReads W p xs) (hc : Chg F W X) (hF : ∀ q, p = some q → ¬ F q.block) : IReads X p xs := by
  rcases h with rfl | ⟨bk, off, rfl, hb, h⟩
  · exact .inl rfl
  · exact .inr ⟨bk, off, rfl, Nat.lt_of_lt_of_le hb hc.size, fun i x hx => cell_chg hc (h i x hx) (fun x => hF _ rfl x)⟩
def BReads (W : World) (p : Option Addr) (xs : List Bool) : Prop :=
  xs = [] ∨ ∃ bk off, p = some ⟨bk, off, none⟩ ∧ bk < W.heap.size ∧ ∀ (i : Nat) x, xs[i]? = some x → W.cell? ⟨bk, off + i, none⟩ = some (.bool x)
theorem BReads.get {W : World} {p : Option Addr} {xs : List Bool} (h : BReads W p xs) (i : Nat) (x : Bool) (hx : xs[i]? = some x) : ∃ bk off, p = some ⟨bk, off, none⟩ ∧ bk < W.heap.size ∧ W.cell? ⟨bk, off + i, none⟩ = some (.bool x) := by
  rcases h with rfl | ⟨bk, off, rfl, hb, h⟩
  · simp at hx
  · exact ⟨bk, off, rfl, hb, h i x hx⟩
theorem BReads.chg {W X : World} {p : Option Addr} {xs : List Bool} {F : Nat → Prop} (h : BReads W p xs) (hc : Chg F W X) (hF : ∀ q, p = some q → ¬ F q.block) : BReads X p xs := by
  rcases h with rfl | ⟨bk, off, rfl, hb, h⟩
  · exact .inl rfl
  · exact .inr ⟨bk, off, rfl, Nat.lt_of_lt_of_le hb hc.size, fun i x hx => cell_chg hc (h i x hx) (fun x => hF _ rfl x)⟩

def apartB (a b : Sp) : Bool := decide (a.fr ≠ b.fr) && (decide (a.fr ≠ b.to) && (decide (b.fr ≠ a.to) && (decide (a.to ≠ b.to) || decide (a.to = -1))))
theorem apartB_iff {a b : Sp} : apartB a b = true ↔ apartP a b := by
  unfold apartB apartP
  simp
end Go.Proofs.Ytnlkdibalhgipaa
