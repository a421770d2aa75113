/- Changes of the document's that come in. -/
import Derived.Test.YtbmfjcdafjknaaaEs
namespace Go.Proofs.Ytbmfjcdafjknaaa
open Go.RowKit Go.Joins Go.ChangeShapes Go.WideShapes
set_option linter.unusedVariables false

theorem coChr : Try.prog.cellsOf 89 = 5 := by kernel_rfl
theorem list5 {α : Type} {cs : List α} (h : cs.length = 5) : ∃ c0 c1 c2 c3 c4, cs = [c0, c1, c2, c3, c4] := by
  match cs, h with
  | [a, b, c, d, e], _ => exact ⟨a, b, c, d, e, rfl⟩
theorem chr_open {H : Type} {enc : TypeId × Value → H} {W : World} {sp : Nat → Bool} {held : Bool} {p : Option Addr} {n c : Nat} {d : DataW H} {ps : List MemPlace} (h : DataW.Trod enc Try.prog W 0 sp held 38 (.slice p n c) d ps) :
    ∃ l : List Ch, l.length = n ∧ ChAt W p l ∧ ∀ x ∈ l, x.small := by
  obtain ⟨fuel, hf⟩ := h
  obtain ⟨p', n', c', hcs, hb, h⟩ := slice_rows (Q := fun cs => ∃ x : Ch, cs = x.cells ∧ x.small) Try.underlying38 coChr (by decide) (fun fuel cs y hy => by
    obtain ⟨xs, n, rfl, rfl, hl, hlen, hh⟩ := DataW.trod_struct Try.underlying89 hy
    rw [coChr] at hl
    obtain ⟨c0, c1, c2, c3, c4, rfl⟩ := list5 hl
    obtain ⟨y0, y1, y2, y3, y4, rfl⟩ := list5 (show xs.length = 5 from hlen)
    have h0 : DataW.trod enc Try.prog W 0 sp held n 57 [c0] = some y0 := by have := hh 0 _ rfl; simpa [coU, coB] using this
    have h1 : DataW.trod enc Try.prog W 0 sp held n 4 [c1] = some y1 := by have := hh 1 _ rfl; simpa [coU, coB] using this
    have h2 : DataW.trod enc Try.prog W 0 sp held n 4 [c2] = some y2 := by have := hh 2 _ rfl; simpa [coU, coB] using this
    have h3 : DataW.trod enc Try.prog W 0 sp held n 57 [c3] = some y3 := by have := hh 3 _ rfl; simpa [coU, coB] using this
    have h4 : DataW.trod enc Try.prog W 0 sp held n 57 [c4] = some y4 := by have := hh 4 _ rfl; simpa [coU, coB] using this
    obtain ⟨z0, e0, _, w0⟩ := DataW.trod_int Try.underlying57 h0
    obtain ⟨b1, e1, _⟩ := DataW.trod_bool Try.underlying4 h1
    obtain ⟨b2, e2, _⟩ := DataW.trod_bool Try.underlying4 h2
    obtain ⟨z3, e3, _, w3⟩ := DataW.trod_int Try.underlying57 h3
    obtain ⟨z4, e4, _, w4⟩ := DataW.trod_int Try.underlying57 h4
    obtain ⟨k, rfl, hk⟩ := nat_u64 w0
    obtain ⟨o, rfl, ho⟩ := nat_u64 w3
    obtain ⟨m, rfl, hm⟩ := nat_u64 w4
    simp at e0 e1 e2 e3 e4
    subst e0 e1 e2 e3 e4
    exact ⟨⟨⟨k, b1, b2, o, m⟩, rfl, ⟨hk, ho, hm⟩⟩, rfl⟩) hf
  have e : p = p' ∧ n = n' ∧ c = c' := by simpa [Value.cells] using hcs
  obtain ⟨rfl, rfl, rfl⟩ := e
  rcases h with rfl | ⟨bk, off, rfl, hbk, h⟩
  · exact ⟨[], rfl, .inl rfl, by simp⟩
  · obtain ⟨l, hl, hp⟩ := choose_list (P := fun i (x : Ch) => x.small ∧ W.cell? ⟨bk, off + i * 5, none⟩ = some (.int .u64 (x.k : Int)) ∧ W.cell? ⟨bk, off + i * 5 + 1, none⟩ = some (.bool x.had) ∧ W.cell? ⟨bk, off + i * 5 + 2, none⟩ = some (.bool x.has) ∧ W.cell? ⟨bk, off + i * 5 + 3, none⟩ = some (.int .u64 (x.old : Int)) ∧ W.cell? ⟨bk, off + i * 5 + 4, none⟩ = some (.int .u64 (x.new : Int))) n (fun i hi => by
      obtain ⟨cs', ⟨x, rfl, hx⟩, ho⟩ := h i hi
      exact ⟨x, hx, by simpa [Nat.add_assoc, Ch.cells] using ho 0 _ rfl, by simpa [Nat.add_assoc, Ch.cells] using ho 1 _ rfl, by simpa [Nat.add_assoc, Ch.cells] using ho 2 _ rfl, by simpa [Nat.add_assoc, Ch.cells] using ho 3 _ rfl, by simpa [Nat.add_assoc, Ch.cells] using ho 4 _ rfl⟩)
    refine ⟨l, hl, .inr ⟨bk, off, rfl, hbk, fun i x e => (hp i x e).2⟩, fun x hx => ?_⟩
    obtain ⟨i, hi⟩ := List.mem_iff_getElem?.1 hx
    exact (hp i x hi).1
end Go.Proofs.Ytbmfjcdafjknaaa
