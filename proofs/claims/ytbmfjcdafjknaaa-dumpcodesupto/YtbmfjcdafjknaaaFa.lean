/- Bytes that come in. -/
import Derived.Test.YtbmfjcdafjknaaaEZ
namespace Go.Proofs.Ytbmfjcdafjknaaa
open Go.RowKit Go.Joins Go.ChangeShapes Go.WideShapes
set_option linter.unusedVariables false

theorem coU8 : Try.prog.cellsOf 5 = 1 := by kernel_rfl
theorem nat_u8 {n : Int} (h : (Lit.int .u8 n).wf = true) : ∃ m : Nat, n = (m : Int) ∧ m < 256 := by
  have h' : IntKind.u8.min ≤ n ∧ n ≤ IntKind.u8.max := by simpa [Lit.wf] using h
  have h1 : IntKind.u8.min = 0 := by decide
  have h2 : IntKind.u8.max = 255 := by decide
  rw [h1, h2] at h'
  exact ⟨n.toNat, by omega, by omega⟩
theorem bytes_open {H : Type} {enc : TypeId × Value → H} {W : World} {sp : Nat → Bool} {held : Bool} {p : Option Addr} {n c : Nat} {d : DataW H} {ps : List MemPlace} (h : DataW.Trod enc Try.prog W 0 sp held 23 (.slice p n c) d ps) :
    ∃ l : List Nat, l.length = n ∧ BytesAt W p l := by
  obtain ⟨fuel, hf⟩ := h
  obtain ⟨p', n', c', hcs, hb, h⟩ := slice_rows (Q := fun cs => ∃ k : Nat, cs = [.int .u8 (k : Int)] ∧ k < 256) Try.underlying23 coU8 (by decide) (fun fuel cs y hy => by
    obtain ⟨z, e, _, w⟩ := DataW.trod_int (by kernel_rfl : Try.prog.underlying 5 = some (.int .u8)) hy
    obtain ⟨m, rfl, hm⟩ := nat_u8 w
    subst e
    exact ⟨⟨m, rfl, hm⟩, rfl⟩) hf
  have e : p = p' ∧ n = n' ∧ c = c' := by simpa [Value.cells] using hcs
  obtain ⟨rfl, rfl, rfl⟩ := e
  rcases h with rfl | ⟨bk, off, rfl, hbk, h⟩
  · exact ⟨[], rfl, .inl rfl⟩
  · obtain ⟨l, hl, hp⟩ := choose_list (P := fun i (k : Nat) => k < 256 ∧ W.cell? ⟨bk, off + i, none⟩ = some (.int .u8 (k : Int))) n (fun i hi => by
      obtain ⟨cs', ⟨k, rfl, hk⟩, ho⟩ := h i hi
      exact ⟨k, hk, by simpa using ho 0 _ rfl⟩)
    exact ⟨l, hl, .inr ⟨bk, off, rfl, hbk, hp⟩⟩
end Go.Proofs.Ytbmfjcdafjknaaa
