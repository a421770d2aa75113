/- Picks that come in. -/
import Derived.Test.YtnhiodmigmmfgaaQ10YB
import Derived.Test.YtnhiodmigmmfgaaQ8Yk
namespace Go.Proofs.Ytnhiodmigmmfgaa
open Go.RowKit Go.Shelf Go.Joins Go.ChangeShapes Go.WideShapes Go.Deep
set_option linter.unusedVariables false

theorem coInt : Try.prog.cellsOf 3 = 1 := by kernel_rfl

set_option maxRecDepth 100000 in
theorem ints_open {H : Type} {enc : TypeId × Value → H} {W : World} {sp : Nat → Bool} {held : Bool} {p : Option Addr} {n c : Nat} {d : DataW H} {ps : List MemPlace} (h : DataW.Trod enc Try.prog W 0 sp held 23 (.slice p n c) d ps) :
    ∃ xs : List Int, xs.length = n ∧ IReads W p xs ∧ n ≤ Rows.uptoBulk d ∧ ∀ x ∈ xs, (Lit.int .i64 x).wf = true := by
  obtain ⟨fuel, hf⟩ := h
  rcases open_ints Try.underlying23 Try.underlying3 coInt hf with ⟨hcs, _⟩ | ⟨a, len, cap, zs, hcs, _, hl, hm, hme, hx, hi, hw⟩
  · simp [Value.cells] at hcs
    obtain ⟨rfl, rfl, rfl⟩ := hcs
    exact ⟨[], rfl, .inl rfl, Nat.zero_le _, fun x hx => by simp at hx⟩
  · simp [Value.cells] at hcs
    obtain ⟨rfl, rfl, rfl⟩ := hcs
    have hmn : n ≤ zs.length := by rw [hme]; split <;> omega
    have hb : n ≤ Rows.uptoBulk d := by
      simp only [Prod.mk.injEq] at hx
      rw [hx.1]
      have := bulk_length (H := H) (lits .i64 (zs.take n))
      simp only [Rows.uptoBulk]
      have e : (lits (H := H) .i64 (zs.take n)).length = n := by simp [lits]; omega
      omega
    refine ⟨zs.take n, by simp; omega, ?_, hb, fun x hx => hw x (List.mem_of_mem_take hx)⟩
    rcases Nat.eq_zero_or_pos n with h0 | h0
    · exact .inl (by rw [h0]; rfl)
    · obtain ⟨bk, off, spot⟩ := a
      have c0 := hi 0 (by omega)
      have hspot : spot = none := by simpa [Addr.add] using World.cell?_spot c0
      subst hspot
      have hbk : bk < W.heap.size := by
        by_cases cb : bk < W.heap.size
        · exact cb
        · simp [World.cell?, Addr.add, Array.getElem?_eq_none (show W.heap.size ≤ bk by omega)] at c0
      refine .inr ⟨bk, off, rfl, hbk, fun i x hx => ?_⟩
      have hin : i < n := by
        have := (List.getElem?_eq_some_iff.1 hx).1
        simp at this
        omega
      rw [List.getElem?_take, if_pos hin] at hx
      have e := hi i (by omega)
      rw [List.getD_eq_getElem?_getD, hx] at e
      have e3 : (⟨bk, off, none⟩ : Addr).add i = ⟨bk, off + i, none⟩ := by
        unfold Addr.add
        split <;> simp
      rw [← e3]
      simpa using e
end Go.Proofs.Ytnhiodmigmmfgaa
