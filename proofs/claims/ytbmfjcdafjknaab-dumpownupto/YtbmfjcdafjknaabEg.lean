/- What became of a key. -/
import Derived.Test.YtbmfjcdafjknaabEd
namespace Go.Proofs.Ytbmfjcdafjknaab
open Go.RowKit
set_option linter.unusedVariables false

structure Ch where
  k : Nat
  had : Bool
  has : Bool
  old : Nat
  new : Nat
  deriving DecidableEq
def Ch.cells (c : Ch) : List Value := [.int .u64 (c.k : Int), .bool c.had, .bool c.has, .int .u64 (c.old : Int), .int .u64 (c.new : Int)]
def Ch.val (c : Ch) : Value := .agg #[.int .u64 (c.k : Int), .bool c.had, .bool c.has, .int .u64 (c.old : Int), .int .u64 (c.new : Int)]
def chOf : Option (Nat × Nat) × Option (Nat × Nat) → Ch
  | (none, none) => ⟨0, false, false, 0, 0⟩
  | (some x, none) => ⟨x.1, true, false, x.2, 0⟩
  | (none, some y) => ⟨y.1, false, true, 0, y.2⟩
  | (some x, some y) => ⟨y.1, true, true, x.2, y.2⟩
theorem int_eq0 (n : Nat) : ((n : Int) == 0) = decide (n = 0) := by
  by_cases h : n = 0
  · subst h; rfl
  · simp [h]
theorem int_ne (n m : Nat) : ((n : Int) != (m : Int)) = !decide (n = m) := by
  by_cases h : n = m
  · subst h; simp
  · simp [h]; omega
theorem cell_other {W : World} {b k c j : Nat} {v u : Value} (h : W.cell? ⟨b, k, none⟩ = some v) (hne : b ≠ c) : (W.setCell ⟨c, j, none⟩ u).cell? ⟨b, k, none⟩ = some v := by
  rw [← h]
  exact World.cell?_of_block (Below.heap_setCell W ⟨c, j, none⟩ u b hne)
theorem two_chg (w : World) {o : Obj} : Chg (fun _ => False) w (w.alloc o) := (Chg.refl _ w).alloc o
theorem two_cells {w W : World} {b o : Nat} {u v : Value} (c : Chg (fun _ => False) w W) (h0 : w.cell? ⟨b, o, none⟩ = some u) (h1 : w.cell? ⟨b, o + 1, none⟩ = some v) : W.cell? ⟨b, o, none⟩ = some u ∧ W.cell? ⟨b, o + 1, none⟩ = some v := ⟨cell_chg c h0 (fun x => x), cell_chg c h1 (fun x => x)⟩
def Ch.right (c : Ch) : Bool := if c.had && c.has then decide (c.old ≠ c.new) else if c.had then decide (c.new = 0) else if c.has then decide (c.old = 0) else false
set_option maxRecDepth 100000 in
set_option maxHeartbeats 4000000 in
theorem is_right (c : Ch) (w : World) : Calls Try.prog 49 #[c.val] w fun e w' => e = .returned (.bool c.right) ∧ Below w.heap.size w w' := by
  obtain ⟨k, had, has, old, new⟩ := c
  unfold Ch.val Ch.right
  have HB : Hid (∀ o, Below w.heap.size w (w.alloc o)) := keepH (fun o => (Below.refl _ w).alloc (Nat.le_refl _) o)
  cases had <;> cases has
  · go_enter Try.func49, Try.ntmps49
    go_wp2_with fail
    go_ret
    exact ⟨rfl, HB.out _⟩
  · go_enter Try.func49, Try.ntmps49
    go_wp2_with fail
    go_ret
    exact ⟨by simp [int_eq0], HB.out _⟩
  · go_enter Try.func49, Try.ntmps49
    go_wp2_with fail
    go_ret
    exact ⟨by simp [int_eq0], HB.out _⟩
  · go_enter Try.func49, Try.ntmps49
    go_wp2_with fail
    go_ret
    exact ⟨by simp [int_ne], HB.out _⟩
end Go.Proofs.Ytbmfjcdafjknaab
