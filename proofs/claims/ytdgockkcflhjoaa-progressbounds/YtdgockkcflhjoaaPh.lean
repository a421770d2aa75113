/- What comes in. -/
import Derived.Test.YtdgockkcflhjoaaPg
import Derived.OpenShut
import Derived.JoinedCond
import Derived.Carry
import Derived.Lib.SmallJoins
namespace Go.Proofs.Ytdgockkcflhjoaa
open Go.ChangeShapes Go.WideShapes Go.ChangeAt Go.RowKit Go.Joins
set_option linter.unusedVariables false

theorem list5 {α : Type} {cs : List α} (h : cs.length = 5) : ∃ c0 c1 c2 c3 c4, cs = [c0, c1, c2, c3, c4] := by
  match cs, h with
  | [c0, c1, c2, c3, c4], _ => exact ⟨c0, c1, c2, c3, c4, rfl⟩
theorem list4 {α : Type} {cs : List α} (h : cs.length = 4) : ∃ c0 c1 c2 c3, cs = [c0, c1, c2, c3] := by
  match cs, h with
  | [c0, c1, c2, c3], _ => exact ⟨c0, c1, c2, c3, rfl⟩
theorem coB : Try.prog.cellsOf 23 = 5 := by kernel_rfl
theorem coC : Try.prog.cellsOf 26 = 4 := by kernel_rfl
theorem coI : Try.prog.cellsOf 3 = 1 := by kernel_rfl
theorem coW : Try.prog.cellsOf 24 = 1 := by kernel_rfl
theorem bounds_open {H : Type} {enc : TypeId × Value → H} {W : World} {sp : Nat → Bool} {held : Bool} {cs : Array Value} {d : DataW H} {ps : List MemPlace} (h : DataW.Trod enc Try.prog W 0 sp held 23 (.agg cs) d ps) :
    ∃ (b0 b1 b2 b3 b4 : Int), cs = boL b0 b1 b2 b3 b4 ∧ b0 < 9223372036854775808 ∧ b1 < 9223372036854775808 ∧ b2 < 9223372036854775808 ∧ b3 < 9223372036854775808 ∧ b4 < 9223372036854775808 := by
  obtain ⟨fuel, hf⟩ := h
  obtain ⟨xs, n, hn, hx, hl, hlen, hh⟩ := DataW.trod_struct Try.underlying23 hf
  subst hn
  rw [coB] at hl
  obtain ⟨c0, c1, c2, c3, c4, hc⟩ := list5 hl
  obtain ⟨y0, y1, y2, y3, y4, rfl⟩ := list5 (show xs.length = 5 from hlen)
  rw [hc] at hh
  have h0 : DataW.trod enc Try.prog W 0 sp held n 3 [c0] = some y0 := by have := hh 0 _ rfl; simpa [coI] using this
  have h1 : DataW.trod enc Try.prog W 0 sp held n 3 [c1] = some y1 := by have := hh 1 _ rfl; simpa [coI] using this
  have h2 : DataW.trod enc Try.prog W 0 sp held n 3 [c2] = some y2 := by have := hh 2 _ rfl; simpa [coI] using this
  have h3 : DataW.trod enc Try.prog W 0 sp held n 3 [c3] = some y3 := by have := hh 3 _ rfl; simpa [coI] using this
  have h4 : DataW.trod enc Try.prog W 0 sp held n 3 [c4] = some y4 := by have := hh 4 _ rfl; simpa [coI] using this
  obtain ⟨z0, e0, _, w0⟩ := DataW.trod_int Try.underlying3 h0
  obtain ⟨z1, e1, _, w1⟩ := DataW.trod_int Try.underlying3 h1
  obtain ⟨z2, e2, _, w2⟩ := DataW.trod_int Try.underlying3 h2
  obtain ⟨z3, e3, _, w3⟩ := DataW.trod_int Try.underlying3 h3
  obtain ⟨z4, e4, _, w4⟩ := DataW.trod_int Try.underlying3 h4
  have q0 := bounds_i64 w0
  have q1 := bounds_i64 w1
  have q2 := bounds_i64 w2
  have q3 := bounds_i64 w3
  have q4 := bounds_i64 w4
  simp at e0 e1 e2 e3 e4
  subst e0 e1 e2 e3 e4
  exact ⟨z0, z1, z2, z3, z4, by apply Array.ext'; exact hc, by omega, by omega, by omega, by omega, by omega⟩
theorem config_open {H : Type} {enc : TypeId × Value → H} {W : World} {sp : Nat → Bool} {held : Bool} {cs : Array Value} {d : DataW H} {ps : List MemPlace} (h : DataW.Trod enc Try.prog W 0 sp held 26 (.agg cs) d ps) :
    ∃ (c0 c1 c2 c3 : Int), cs = coL c0 c1 c2 c3 ∧ c1 < 9223372036854775808 ∧ -9223372036854775808 ≤ c1 := by
  obtain ⟨fuel, hf⟩ := h
  obtain ⟨xs, n, hn, hx, hl, hlen, hh⟩ := DataW.trod_struct Try.underlying26 hf
  subst hn
  rw [coC] at hl
  obtain ⟨c0, c1, c2, c3, hc⟩ := list4 hl
  obtain ⟨y0, y1, y2, y3, rfl⟩ := list4 (show xs.length = 4 from hlen)
  rw [hc] at hh
  have h0 : DataW.trod enc Try.prog W 0 sp held n 3 [c0] = some y0 := by have := hh 0 _ rfl; simpa [coI, coW] using this
  have h1 : DataW.trod enc Try.prog W 0 sp held n 3 [c1] = some y1 := by have := hh 1 _ rfl; simpa [coI, coW] using this
  have h2 : DataW.trod enc Try.prog W 0 sp held n 24 [c2] = some y2 := by have := hh 2 _ rfl; simpa [coI, coW] using this
  have h3 : DataW.trod enc Try.prog W 0 sp held n 3 [c3] = some y3 := by have := hh 3 _ rfl; simpa [coI, coW] using this
  obtain ⟨z0, e0, _, w0⟩ := DataW.trod_int Try.underlying3 h0
  obtain ⟨z1, e1, _, w1⟩ := DataW.trod_int Try.underlying3 h1
  obtain ⟨z2, e2, _, w2⟩ := DataW.trod_int Try.underlying24 h2
  obtain ⟨z3, e3, _, w3⟩ := DataW.trod_int Try.underlying3 h3
  have q1 := bounds_i64 w1
  simp at e0 e1 e2 e3
  subst e0 e1 e2 e3
  exact ⟨z0, z1, z2, z3, by apply Array.ext'; exact hc, by omega, by omega⟩
end Go.Proofs.Ytdgockkcflhjoaa
