/- The law's own cells, made; a trace's access, read; what its next place is at each access. -/
import Derived.Test.YtjnkefggmklaoaaATr6
namespace Go.Proofs.Ytjnkefggmklaoaa
open Go.RowKit Go.Shelf
set_option linter.unusedVariables false

theorem acc_cell {W : World} {g n c : Nat} {lk : List Acc} (h : W.ownsRow 0 46 8 (.slice (some ⟨g, 0, none⟩) n c) n (accRow lk)) (j f : Nat) (x : Acc) (hj : lk[j]? = some x) (hn : j < n) (hf : f < 8) (v : Value) (hv : x.cells[f]? = some v) : W.cell? ⟨g, j * 8 + f, none⟩ = some v := by
  rw [World.ownsRow.cellAt h (j * 8 + f) (by omega), accRow_get lk j f hf, hj]
  exact hv
theorem infoU64 : (Try.prog.info? 28).map (fun i => (i.zero, i.size, i.bytes)) = some (some (.int .u64 0), 1, 8) := by kernel_rfl
theorem make_u64s (n : Nat) (hn : n ≤ 4194304) (u : World) : ∃ w, (Instr.makeSlice 29 (.int .i64 (n : Int)) (.int .i64 (n : Int))).run Try.prog u = .ok (.slice (some ⟨u.heap.size, 0, none⟩) n n) w ∧ IsOwn w u.heap.size (List.replicate n 0) ∧ Chg (fun _ => False) u w := by
  obtain ⟨i0, hi, hz0, hz1, hz2⟩ := info_parts infoU64
  have h := run_make (P := Try.prog) u 29 28 i0 (.int .u64 0) Try.underlying29 hi hz0 .i64 .i64 (n : Int) (n : Int) (by omega) (Int.le_refl _) (by rw [hz2]; omega) (by omega)
  refine ⟨u.alloc (.cells (madeCells #[Value.int .u64 0] n) 28), by simpa [hz1, Value.cells] using h, ?_, (Chg.refl _ _).alloc _⟩
  have e : madeCells #[Value.int .u64 0] n = ((List.replicate n 0).map u64V).toArray := by
    apply Array.ext'
    rw [toList_madeCells_one]
    simp [u64V]
  unfold IsOwn
  rw [e]
  exact heap_alloc_new _ _
theorem own_zero (n : Nat) : Own (List.replicate n 0) [] n := by
  refine ⟨by simp, fun i hi => ?_, fun i hi => by simp [cellN]⟩
  simp only [cellN, List.getD_eq_getElem?_getD, List.getElem?_replicate]
  split <;> simp
theorem IsOwn.cell {W : World} {g : Nat} {os : List Nat} (h : IsOwn W g os) (i : Nat) (hi : i < os.length) : W.cell? ⟨g, i, none⟩ = some (.int .u64 (cellN os i : Int)) := by
  rw [cell_of h i]
  simp [cellN, u64V, List.getElem?_eq_getElem hi]
theorem IsOwn.chg {W X : World} {g : Nat} {os : List Nat} {F : Nat → Prop} (h : IsOwn W g os) (hc : Chg F W X) (hF : ¬ F g) : IsOwn X g os := (hc.block g (lt_of h) hF).trans h
theorem TR.next {W X : World} {m b n : Nat} {F : Nat → Prop} {cs : List Nat} {next : Nat} {l : List Acc} {st : Nat → List Nat × Nat} (h : TR W X m b n F cs next l st) (hn : 1 ≤ n) : 1 ≤ next ∧ next ≤ n := by
  have e := h.plays.nexts hn l.length (Nat.le_refl _)
  rw [h.plays.last] at e
  exact e
theorem TR.out {W X : World} {m b n : Nat} {F : Nat → Prop} {cs : List Nat} {next : Nat} {l : List Acc} {st : Nat → List Nat × Nat} (h : TR W X m b n F cs next l st) (v : Nat) (hv : X.heap.size ≤ v) : ¬ F v := fun e => by
  obtain ⟨_, _, B⟩ := h.bank
  have := B.lt v e
  omega
theorem alAt_small (n next k : Nat) (h : next ≤ n) (hn : n ≤ 4194304) : alAt n next k < 18446744073709551616 := by
  unfold alAt
  split <;> omega
end Go.Proofs.Ytjnkefggmklaoaa
