/- Nil models: the program's and the document's. -/
import Derived.Test.YtimlaamhjbhkmaaGreatZf
namespace Go.Proofs.YtimlaamhjbhkmaaGreat
open Go.RowKit
set_option linter.unusedVariables false

set_option maxRecDepth 100000 in
set_option maxHeartbeats 1000000 in
theorem nil_content  (W : World) : Calls Tryz.prog 22 #[.pointer none] W fun e W' => e = .returned (.slice none 0 0) ∧ Chg (fun _ => False) W W' := by
  have HC : Hid (Chg (fun _ => False) W W) := Chg.refl _ _
  go_enter Tryz.func22, Tryz.ntmps22
  go_wp2_with fail
  go_ret
  exact ⟨by first | rfl | simp, by first | exact HC.out | exact (HC.out.alloc _).alloc _ | exact HC.out.alloc _⟩
set_option maxRecDepth 100000 in
set_option maxHeartbeats 1000000 in
theorem nil_rcontent  (W : World) : Calls Tryz.prog 23 #[.pointer none] W fun e W' => e = .returned (.slice none 0 0) ∧ Chg (fun _ => False) W W' := by
  have HC : Hid (Chg (fun _ => False) W W) := Chg.refl _ _
  go_enter Tryz.func23, Tryz.ntmps23
  go_wp2_with fail
  go_ret
  exact ⟨by first | rfl | simp, by first | exact HC.out | exact (HC.out.alloc _).alloc _ | exact HC.out.alloc _⟩
set_option maxRecDepth 100000 in
set_option maxHeartbeats 1000000 in
theorem nil_handles  (W : World) : Calls Tryz.prog 25 #[.pointer none] W fun e W' => e = .returned (.slice none 0 0) ∧ Chg (fun _ => False) W W' := by
  have HC : Hid (Chg (fun _ => False) W W) := Chg.refl _ _
  go_enter Tryz.func25, Tryz.ntmps25
  go_wp2_with fail
  go_ret
  exact ⟨by first | rfl | simp, by first | exact HC.out | exact (HC.out.alloc _).alloc _ | exact HC.out.alloc _⟩
set_option maxRecDepth 100000 in
set_option maxHeartbeats 1000000 in
theorem nil_rhandles  (W : World) : Calls Tryz.prog 20 #[.pointer none] W fun e W' => e = .returned (.slice none 0 0) ∧ Chg (fun _ => False) W W' := by
  have HC : Hid (Chg (fun _ => False) W W) := Chg.refl _ _
  go_enter Tryz.func20, Tryz.ntmps20
  go_wp2_with fail
  refine wp_loop_rounds 1 ?_
  rw [rounds_succ]
  go_wp2_with fail
  go_ret
  exact ⟨by first | rfl | simp, by first | exact HC.out | exact (HC.out.alloc _).alloc _ | exact HC.out.alloc _⟩
set_option maxRecDepth 100000 in
set_option maxHeartbeats 1000000 in
theorem nil_held (h : Int) (W : World) : Calls Tryz.prog 11 #[.pointer none, .int .u64 h] W fun e W' => e = .returned (.tuple #[.slice none 0 0, .bool false]) ∧ Chg (fun _ => False) W W' := by
  have HC : Hid (Chg (fun _ => False) W W) := Chg.refl _ _
  go_enter Tryz.func11, Tryz.ntmps11
  go_wp2_with fail
  go_ret2
  exact ⟨by first | rfl | simp, by first | exact HC.out | exact (HC.out.alloc _).alloc _ | exact HC.out.alloc _⟩
set_option maxRecDepth 100000 in
set_option maxHeartbeats 1000000 in
theorem nil_fork  (W : World) : Calls Tryz.prog 8 #[.pointer none] W fun e W' => e = .returned (.pointer none) ∧ Chg (fun _ => False) W W' := by
  have HC : Hid (Chg (fun _ => False) W W) := Chg.refl _ _
  go_enter Tryz.func8, Tryz.ntmps8
  go_wp2_with fail
  go_ret
  exact ⟨by first | rfl | simp, by first | exact HC.out | exact (HC.out.alloc _).alloc _ | exact HC.out.alloc _⟩
set_option maxRecDepth 100000 in
set_option maxHeartbeats 1000000 in
theorem same_nn  (W : World) : Calls Tryz.prog 9 #[.pointer none, .pointer none] W fun e W' => e = .returned (.bool true) ∧ Chg (fun _ => False) W W' := by
  have HC : Hid (Chg (fun _ => False) W W) := Chg.refl _ _
  go_enter Tryz.func9, Tryz.ntmps9
  go_wp2_with fail
  go_ret
  exact ⟨by first | rfl | simp, by first | exact HC.out | exact (HC.out.alloc _).alloc _ | exact HC.out.alloc _⟩
set_option maxRecDepth 100000 in
set_option maxHeartbeats 1000000 in
theorem same_np (g : Nat) (W : World) : Calls Tryz.prog 9 #[.pointer none, .pointer (some ⟨g, 0, none⟩)] W fun e W' => e = .returned (.bool false) ∧ Chg (fun _ => False) W W' := by
  have hb : ∀ w : World, (binOp .eql 25 (.pointer none) (.pointer (some ⟨g, 0, none⟩))).run Tryz.prog w = .ok (.bool false) w := fun w => by kernel_rfl
  have HC : Hid (Chg (fun _ => False) W W) := Chg.refl _ _
  go_enter Tryz.func9, Tryz.ntmps9
  go_wp2_with fail
  go_ret
  exact ⟨by first | rfl | simp, by first | exact HC.out | exact (HC.out.alloc _).alloc _ | exact HC.out.alloc _⟩
set_option maxRecDepth 100000 in
set_option maxHeartbeats 1000000 in
theorem same_pn (g : Nat) (W : World) : Calls Tryz.prog 9 #[.pointer (some ⟨g, 0, none⟩), .pointer none] W fun e W' => e = .returned (.bool false) ∧ Chg (fun _ => False) W W' := by
  have HC : Hid (Chg (fun _ => False) W W) := Chg.refl _ _
  go_enter Tryz.func9, Tryz.ntmps9
  go_wp2_with fail
  go_ret
  exact ⟨by first | rfl | simp, by first | exact HC.out | exact (HC.out.alloc _).alloc _ | exact HC.out.alloc _⟩
set_option maxRecDepth 100000 in
set_option maxHeartbeats 1000000 in
theorem nil_take (os an : Array Value) (W : World) : Calls Tryz.prog 12 #[.pointer none, .agg os, .agg an] W fun e W' => e = .returned (.bool false) ∧ Chg (fun _ => False) W W' := by
  have HC : Hid (Chg (fun _ => False) W W) := Chg.refl _ _
  go_enter Tryz.func12, Tryz.ntmps12
  go_wp2_with fail
  go_ret
  exact ⟨by first | rfl | simp, by first | exact HC.out | exact (HC.out.alloc _).alloc _ | exact HC.out.alloc _⟩
set_option maxRecDepth 100000 in
set_option maxHeartbeats 1000000 in
theorem nil_rtake (os an : Array Value) (W : World) : Calls Tryz.prog 15 #[.pointer none, .agg os, .agg an] W fun e W' => e = .returned (.bool false) ∧ Chg (fun _ => False) W W' := by
  have HC : Hid (Chg (fun _ => False) W W) := Chg.refl _ _
  go_enter Tryz.func15, Tryz.ntmps15
  go_wp2_with fail
  go_ret
  exact ⟨by first | rfl | simp, by first | exact HC.out | exact (HC.out.alloc _).alloc _ | exact HC.out.alloc _⟩
set_option maxRecDepth 100000 in
set_option maxHeartbeats 2000000 in
theorem nil_do (os : Array Value) (h : Int) (W : World) : Calls Tryz.prog 10 #[.pointer none, .agg os, .int .u64 h] W fun e W' => e = .returned (.agg #[.int .i64 1, .bool false, .int .u64 0, .bool false, .int .u64 0, .slice none 0 0, .int .u64 0]) ∧ Chg (fun _ => False) W W' := by
  obtain ⟨w0, hw0⟩ : ∃ w0, w0 = (W.alloc (.cells os 36)).alloc (.cells #[.int .i64 0, .bool false, .int .u64 0, .bool false, .int .u64 0, .slice none 0 0, .int .u64 0] 40) := ⟨_, rfl⟩
  have C0 : Chg (fun _ => False) W w0 := by rw [hw0]; exact ((Chg.refl _ _).alloc _).alloc _
  have a0 : w0.heap[W.heap.size + 1]? = some (.cells #[.int .i64 0, .bool false, .int .u64 0, .bool false, .int .u64 0, .slice none 0 0, .int .u64 0] 40 (0, 0)) := by
    have e := heap_alloc_new (W.alloc (.cells os 36)) (.cells #[.int .i64 0, .bool false, .int .u64 0, .bool false, .int .u64 0, .slice none 0 0, .int .u64 0] 40)
    rw [World.size_alloc] at e
    rw [hw0]
    exact e
  obtain ⟨w9, hw9⟩ : ∃ w9, w9 = w0.setCells (W.heap.size + 1) 0 (#[.int .i64 1, .bool false, .int .u64 0, .bool false, .int .u64 0, .slice none 0 0, .int .u64 0] : Array Value).toList := ⟨_, rfl⟩
  have A9 : w9.heap[W.heap.size + 1]? = some (.cells #[.int .i64 1, .bool false, .int .u64 0, .bool false, .int .u64 0, .slice none 0 0, .int .u64 0] 40 (0, 0)) := by
    rw [hw9]
    exact setCells_of 40 (W.heap.size + 1) (#[.int .i64 1, .bool false, .int .u64 0, .bool false, .int .u64 0, .slice none 0 0, .int .u64 0] : Array Value).toList [] (#[.int .i64 0, .bool false, .int .u64 0, .bool false, .int .u64 0, .slice none 0 0, .int .u64 0] : Array Value).toList [] w0 a0 rfl
  have HC9 : Hid (Chg (fun _ => False) W w9) := by rw [hw9]; exact C0.trans (setCells_chg (W.heap.size + 1) _ 0 _) (fun _ _ x => x) (fun i hi e => by omega)
  have HTH : Hid (w0.there (W.heap.size + 1) 0 7) := fun j hj => ⟨by rw [cell_of a0]; match j, hj with | 0, _ => rfl | 1, _ => rfl | 2, _ => rfl | 3, _ => rfl | 4, _ => rfl | 5, _ => rfl | 6, _ => rfl, free_of a0 _⟩
  have HW := keepH hw9
  have q0 : w9.cell? ⟨W.heap.size + 1, 0, none⟩ = some (.int .i64 1) := cell_of A9 0
  have q1 : w9.cell? ⟨W.heap.size + 1, 1, none⟩ = some (.bool false) := cell_of A9 1
  have q2 : w9.cell? ⟨W.heap.size + 1, 2, none⟩ = some (.int .u64 0) := cell_of A9 2
  have q3 : w9.cell? ⟨W.heap.size + 1, 3, none⟩ = some (.bool false) := cell_of A9 3
  have q4 : w9.cell? ⟨W.heap.size + 1, 4, none⟩ = some (.int .u64 0) := cell_of A9 4
  have q5 : w9.cell? ⟨W.heap.size + 1, 5, none⟩ = some (.slice none 0 0) := cell_of A9 5
  have q6 : w9.cell? ⟨W.heap.size + 1, 6, none⟩ = some (.int .u64 0) := cell_of A9 6
  clear hw9 A9 C0 a0
  go_enter Tryz.func10, Tryz.ntmps10
  go_upto_region 1 with fail
  rw [← hw0]
  clear hw0
  go_wp2_with (refine wpList_store_mid rfl 40 (.tmp 6) (.tmp 10) rfl (W.heap.size + 1) 0 #[.int .i64 1, .bool false, .int .u64 0, .bool false, .int .u64 0, .slice none 0 0, .int .u64 0] rfl rfl HTH.out (by kernel_rfl) (by kernel_rfl) ?_; rw [← HW.out]; clear HW HTH)
  (try go_wp2_with fail)
  refine bodyPost_ret (v := .agg #[.int .i64 1, .bool false, .int .u64 0, .bool false, .int .u64 0, .slice none 0 0, .int .u64 0]) (by simp [results, Tryz.results10, go_sem, q0, q1, q2, q3, q4, q5, q6]) rfl ⟨rfl, HC9.out⟩
set_option maxRecDepth 100000 in
set_option maxHeartbeats 2000000 in
theorem nil_rdo (os : Array Value) (h : Int) (W : World) : Calls Tryz.prog 18 #[.pointer none, .agg os, .int .u64 h] W fun e W' => e = .returned (.agg #[.int .i64 1, .bool false, .int .u64 0, .bool false, .int .u64 0, .slice none 0 0, .int .u64 0]) ∧ Chg (fun _ => False) W W' := by
  obtain ⟨w0, hw0⟩ : ∃ w0, w0 = (W.alloc (.cells os 36)).alloc (.cells #[.int .i64 0, .bool false, .int .u64 0, .bool false, .int .u64 0, .slice none 0 0, .int .u64 0] 40) := ⟨_, rfl⟩
  have C0 : Chg (fun _ => False) W w0 := by rw [hw0]; exact ((Chg.refl _ _).alloc _).alloc _
  have a0 : w0.heap[W.heap.size + 1]? = some (.cells #[.int .i64 0, .bool false, .int .u64 0, .bool false, .int .u64 0, .slice none 0 0, .int .u64 0] 40 (0, 0)) := by
    have e := heap_alloc_new (W.alloc (.cells os 36)) (.cells #[.int .i64 0, .bool false, .int .u64 0, .bool false, .int .u64 0, .slice none 0 0, .int .u64 0] 40)
    rw [World.size_alloc] at e
    rw [hw0]
    exact e
  obtain ⟨w9, hw9⟩ : ∃ w9, w9 = w0.setCells (W.heap.size + 1) 0 (#[.int .i64 1, .bool false, .int .u64 0, .bool false, .int .u64 0, .slice none 0 0, .int .u64 0] : Array Value).toList := ⟨_, rfl⟩
  have A9 : w9.heap[W.heap.size + 1]? = some (.cells #[.int .i64 1, .bool false, .int .u64 0, .bool false, .int .u64 0, .slice none 0 0, .int .u64 0] 40 (0, 0)) := by
    rw [hw9]
    exact setCells_of 40 (W.heap.size + 1) (#[.int .i64 1, .bool false, .int .u64 0, .bool false, .int .u64 0, .slice none 0 0, .int .u64 0] : Array Value).toList [] (#[.int .i64 0, .bool false, .int .u64 0, .bool false, .int .u64 0, .slice none 0 0, .int .u64 0] : Array Value).toList [] w0 a0 rfl
  have HC9 : Hid (Chg (fun _ => False) W w9) := by rw [hw9]; exact C0.trans (setCells_chg (W.heap.size + 1) _ 0 _) (fun _ _ x => x) (fun i hi e => by omega)
  have HTH : Hid (w0.there (W.heap.size + 1) 0 7) := fun j hj => ⟨by rw [cell_of a0]; match j, hj with | 0, _ => rfl | 1, _ => rfl | 2, _ => rfl | 3, _ => rfl | 4, _ => rfl | 5, _ => rfl | 6, _ => rfl, free_of a0 _⟩
  have HW := keepH hw9
  have q0 : w9.cell? ⟨W.heap.size + 1, 0, none⟩ = some (.int .i64 1) := cell_of A9 0
  have q1 : w9.cell? ⟨W.heap.size + 1, 1, none⟩ = some (.bool false) := cell_of A9 1
  have q2 : w9.cell? ⟨W.heap.size + 1, 2, none⟩ = some (.int .u64 0) := cell_of A9 2
  have q3 : w9.cell? ⟨W.heap.size + 1, 3, none⟩ = some (.bool false) := cell_of A9 3
  have q4 : w9.cell? ⟨W.heap.size + 1, 4, none⟩ = some (.int .u64 0) := cell_of A9 4
  have q5 : w9.cell? ⟨W.heap.size + 1, 5, none⟩ = some (.slice none 0 0) := cell_of A9 5
  have q6 : w9.cell? ⟨W.heap.size + 1, 6, none⟩ = some (.int .u64 0) := cell_of A9 6
  clear hw9 A9 C0 a0
  go_enter Tryz.func18, Tryz.ntmps18
  go_upto_region 1 with fail
  rw [← hw0]
  clear hw0
  go_wp2_with (refine wpList_store_mid rfl 40 (.tmp 6) (.tmp 13) rfl (W.heap.size + 1) 0 #[.int .i64 1, .bool false, .int .u64 0, .bool false, .int .u64 0, .slice none 0 0, .int .u64 0] rfl rfl HTH.out (by kernel_rfl) (by kernel_rfl) ?_; rw [← HW.out]; clear HW HTH)
  (try go_wp2_with fail)
  refine bodyPost_ret (v := .agg #[.int .i64 1, .bool false, .int .u64 0, .bool false, .int .u64 0, .slice none 0 0, .int .u64 0]) (by simp [results, Tryz.results18, go_sem, q0, q1, q2, q3, q4, q5, q6]) rfl ⟨rfl, HC9.out⟩
end Go.Proofs.YtimlaamhjbhkmaaGreat
