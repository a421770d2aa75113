/- Rows that are made; small laws for the run. -/
import Derived.Test.YtinhcphhdehmhaaCamW
namespace Go.Proofs.Ytinhcphhdehmhaa
open Go.RowKit Go.Shelf
set_option linter.unusedVariables false

theorem infoP : (Try.prog.info? 44).map (fun i => (i.zero, i.size, i.bytes)) = some (some (.pointer none), 1, 8) := by kernel_rfl
theorem infoI : (Try.prog.info? 3).map (fun i => (i.zero, i.size, i.bytes)) = some (some (.int .i64 0), 1, 8) := by kernel_rfl
theorem infoV : (Try.prog.info? 50).map (fun i => (i.zero, i.size, i.bytes)) = some (some (.pointer none), 1, 8) := by kernel_rfl
theorem make_row {T E : TypeId} {z : Value} (hz : z.cells = #[z]) (hT : Try.prog.underlying T = some (.slice E)) (hE : (Try.prog.info? E).map (fun i => (i.zero, i.size, i.bytes)) = some (some z, 1, 8)) (n : Nat) (hn : n ≤ 1048576) (u : World) :
    ∃ w, (Instr.makeSlice T (.int .i64 (n : Int)) (.int .i64 (n : Int))).run Try.prog u = .ok (.slice (some ⟨u.heap.size, 0, none⟩) n n) w ∧ IsRow w u.heap.size n (fun _ => z) E ∧ Chg (fun _ => False) u w ∧ w.heap.size = u.heap.size + 1 := by
  obtain ⟨i0, hi, hz0, hz1, hz2⟩ := info_parts hE
  have h := run_make (P := Try.prog) u T E i0 z hT hi hz0 .i64 .i64 (n : Int) (n : Int) (by omega) (Int.le_refl _) (by rw [hz2]; omega) (by omega)
  refine ⟨u.alloc (.cells (madeCells #[z] n) E), by simpa [hz1, hz] using h, ?_, (Chg.refl _ _).alloc _, by simp⟩
  have e : madeCells #[z] n = (rowF n (fun _ => z)).toArray := by
    apply Array.ext'
    rw [toList_madeCells_one]
    simp [rowF, List.map_const']
  unfold IsRow
  rw [← e]
  exact heap_alloc_new _ _
theorem cell_put {w : World} {a p : Addr} {v : Value} (h : w.cell? a = some v) (hne : a.block ≠ p.block) (u : Value) : (w.setCell p u).cell? a = some v := by
  have e : (w.setCell p u).heap[a.block]? = w.heap[a.block]? := Below.heap_setCell _ _ _ _ hne
  rw [← h]
  unfold World.cell?
  rw [e]
theorem rowI {W : World} {g n : Nat} {f : Nat → Value} {t : TypeId} (h : IsRow W g n f t) (i : Nat) : W.frozen? ⟨g, i, none⟩ = false := free_of h i
theorem like_bare {x : Acc} {vs : Value} {p : Option Addr} {c : Nat} (hv : vs = .slice p 0 c) : Like { x with vs := vs } x.bare := ⟨rfl, rfl, rfl, rfl, rfl, rfl, rfl, ⟨p, c, hv⟩, none, 0, rfl⟩
end Go.Proofs.Ytinhcphhdehmhaa
