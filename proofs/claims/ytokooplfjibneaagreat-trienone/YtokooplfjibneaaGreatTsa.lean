/- Two answers of nothing are the same. -/
import Derived.Test.YtokooplfjibneaaGreatTpo
namespace Go.Proofs.YtokooplfjibneaaGreat
open Go.RowKit Go.Shelf
set_option linter.unusedVariables false

set_option maxRecDepth 100000 in
theorem pairs11_nil (W : World) : Calls Tryz.prog 28 #[.slice none 0 0, .slice none 0 0] W fun e W' => e = .returned (.bool true) ∧ W' = W := by
  go_enter Tryz.func28, Tryz.ntmps28
  go_wp2_with fail
  refine wp_loop_rounds 1 ?_
  rw [rounds_succ]
  go_wp2_with fail
  go_ret
  exact ⟨by simp, rfl⟩
set_option maxRecDepth 100000 in
set_option maxHeartbeats 2000000 in
theorem same_zero (W : World) : Calls Tryz.prog 15 #[.agg #[.int .i64 0, .bool false, .int .u64 0, .bool false, .int .u64 0, .slice none 0 0, .int .u64 0], .agg #[.int .i64 0, .bool false, .int .u64 0, .bool false, .int .u64 0, .slice none 0 0, .int .u64 0]] W fun e W' => e = .returned (.bool true) ∧ Chg (fun _ => False) W W' := by
  obtain ⟨w0, hw0⟩ : ∃ w0, w0 = (W.alloc (.cells #[.int .i64 0, .bool false, .int .u64 0, .bool false, .int .u64 0, .slice none 0 0, .int .u64 0] 37)).alloc (.cells #[.int .i64 0, .bool false, .int .u64 0, .bool false, .int .u64 0, .slice none 0 0, .int .u64 0] 37) := ⟨_, rfl⟩
  have HC : Hid (Chg (fun _ => False) W w0) := by rw [hw0]; exact ((Chg.refl _ _).alloc _).alloc _
  have A1 : Blk w0 W.heap.size 37 (ansL false 0) := by rw [hw0]; exact alloc_of (heap_alloc_new _ _) _
  have A2 : Blk w0 (W.heap.size + 1) 37 (ansL false 0) := by
    have e := heap_alloc_new (W.alloc (.cells #[.int .i64 0, .bool false, .int .u64 0, .bool false, .int .u64 0, .slice none 0 0, .int .u64 0] 37)) (.cells #[.int .i64 0, .bool false, .int .u64 0, .bool false, .int .u64 0, .slice none 0 0, .int .u64 0] 37)
    rw [World.size_alloc] at e
    rw [hw0]
    exact e
  have r0 : w0.cell? ⟨W.heap.size, 0, none⟩ = some (.int .i64 0) := A1.cell 0
  have s0 : w0.cell? ⟨W.heap.size + 1, 0, none⟩ = some (.int .i64 0) := A2.cell 0
  have r1 : w0.cell? ⟨W.heap.size, 1, none⟩ = some (.bool false) := A1.cell 1
  have s1 : w0.cell? ⟨W.heap.size + 1, 1, none⟩ = some (.bool false) := A2.cell 1
  have r2 : w0.cell? ⟨W.heap.size, 2, none⟩ = some (.int .u64 0) := A1.cell 2
  have s2 : w0.cell? ⟨W.heap.size + 1, 2, none⟩ = some (.int .u64 0) := A2.cell 2
  have r3 : w0.cell? ⟨W.heap.size, 3, none⟩ = some (.bool false) := A1.cell 3
  have s3 : w0.cell? ⟨W.heap.size + 1, 3, none⟩ = some (.bool false) := A2.cell 3
  have r4 : w0.cell? ⟨W.heap.size, 4, none⟩ = some (.int .u64 0) := A1.cell 4
  have s4 : w0.cell? ⟨W.heap.size + 1, 4, none⟩ = some (.int .u64 0) := A2.cell 4
  have r5 : w0.cell? ⟨W.heap.size, 5, none⟩ = some (.slice none 0 0) := A1.cell 5
  have s5 : w0.cell? ⟨W.heap.size + 1, 5, none⟩ = some (.slice none 0 0) := A2.cell 5
  have r6 : w0.cell? ⟨W.heap.size, 6, none⟩ = some (.int .u64 0) := A1.cell 6
  have s6 : w0.cell? ⟨W.heap.size + 1, 6, none⟩ = some (.int .u64 0) := A2.cell 6
  clear A1 A2
  go_enter Tryz.func15, Tryz.ntmps15
  go_upto_region 1 with fail
  rw [← hw0]
  clear hw0
  go_wp2_with fail
  refine (pairs11_nil _).mono ?_
  rintro e w1 ⟨rfl, rfl⟩
  go_wp2_with fail
  go_ret
  exact ⟨by simp, HC.out⟩
end Go.Proofs.YtokooplfjibneaaGreat
