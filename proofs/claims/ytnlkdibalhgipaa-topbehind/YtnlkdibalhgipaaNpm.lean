/- Rounds; operations that lie in a row. -/
import Derived.Test.YtnlkdibalhgipaaNp
namespace Go.Proofs.Ytnlkdibalhgipaa
open Go.RowKit Go.Maps
set_option linter.unusedVariables false

theorem meas {i n : Nat} (h : i < n) : n - natOf (.int .i64 ((i : Int) + 1)) < n - natOf (.int .i64 (i : Int)) := by
  have e1 : natOf (.int .i64 ((i : Int) + 1)) = i + 1 := by show ((i : Int) + 1).toNat = i + 1; omega
  have e2 : natOf (.int .i64 (i : Int)) = i := by show ((i : Int)).toNat = i; omega
  rw [e1, e2]
  omega
theorem measU {i n : Nat} (h : i < n) : n - natOf (.int .u64 ((i : Int) + 1)) < n - natOf (.int .u64 (i : Int)) := meas h
theorem meas2 {i n : Nat} (h : i < n) : n + 1 - natOf (.int .i64 ((i : Int) + 1 + 1)) < n + 1 - natOf (.int .i64 ((i : Int) + 1)) := by
  have e1 : natOf (.int .i64 ((i : Int) + 1 + 1)) = i + 2 := by show ((i : Int) + 1 + 1).toNat = i + 2; omega
  have e2 : natOf (.int .i64 ((i : Int) + 1)) = i + 1 := by show ((i : Int) + 1).toNat = i + 1; omega
  rw [e1, e2]
  omega
theorem OpsAt.get {W wr : World} {p : Option Addr} {l : List OpI} (h : OpsAt W p l) (c : Chg (fun _ => False) W wr) {i : Nat} {x : OpI} (hx : l[i]? = some x) : ∃ bk off, p = some ⟨bk, off, none⟩ ∧ x.Ok W ∧ ∀ j v, x.cs[j]? = some v → wr.cell? ⟨bk, off + i * 11 + j, none⟩ = some v := by
  rcases h with rfl | ⟨bk, off, rfl, _, h⟩
  · simp at hx
  · obtain ⟨h1, h2⟩ := h i x hx
    exact ⟨bk, off, rfl, h1, fun j v hj => cell_chg c (h2 j v hj) (fun x => x)⟩
end Go.Proofs.Ytnlkdibalhgipaa
