/- The model's do and Do, of the operations that are asked for. -/
import Derived.Test.YtgaincicbgojjaaMsT
import Derived.Test.YtgaincicbgojjaaMsC
namespace Go.Proofs.Ytgaincicbgojjaa
open Go.RowKit
set_option linter.unusedVariables false

set_option maxRecDepth 100000 in
set_option maxHeartbeats 4000000 in
theorem do_put (v x : Nat) (th : Bool) {W : World} {m n h : Nat} (hm : IsModel W m n h) (hmn : m ≠ n) {es es' : Array MapEntry} {c c' : Nat} (hN : W.heap[n]? = some (.map es c)) (hup : ∀ w, w.heap[n]? = some (.map es c) → (Instr.mapUpdate 80 (.map (some n)) (.int .u64 7) (.int .u64 (v : Int))).run Try.prog w = .ok () (ChangeMaps.setBlock w n (.map es' c'))) :
    Calls Try.prog 28 #[.pointer (some ⟨m, 0, none⟩), .agg #[.int .u8 2, .int .u64 (7 : Int), .int .u64 (v : Int), .int .u64 0, .int .u64 0, .bool false, .int .i64 0, .int .i64 0, .slice none 0 0, .int .u64 0, .int .u64 0], .agg #[.int .i64 0, .bool th, .int .u64 (x : Int), .bool false, .int .u64 0, .slice none 0 0, .int .u64 0]] W fun e W' => e = .returned (.tuple #[]) ∧ W'.heap[n]? = some (.map es' c') ∧ Chg (fun k => k = n) W W' := by
  obtain ⟨w0, hw0⟩ : ∃ w0, w0 = (W.alloc (.cells #[.int .u8 2, .int .u64 (7 : Int), .int .u64 (v : Int), .int .u64 0, .int .u64 0, .bool false, .int .i64 0, .int .i64 0, .slice none 0 0, .int .u64 0, .int .u64 0] 28)).alloc (.cells #[.int .i64 0, .bool th, .int .u64 (x : Int), .bool false, .int .u64 0, .slice none 0 0, .int .u64 0] 33) := ⟨_, rfl⟩
  have C0 : Chg (fun _ => False) W w0 := by rw [hw0]; exact ((Chg.refl _ _).alloc _).alloc _
  have o0 : w0.heap[W.heap.size]? = some (.cells #[.int .u8 2, .int .u64 (7 : Int), .int .u64 (v : Int), .int .u64 0, .int .u64 0, .bool false, .int .i64 0, .int .i64 0, .slice none 0 0, .int .u64 0, .int .u64 0] 28 (0, 0)) := by rw [hw0]; exact alloc_of (heap_alloc_new _ _) _
  have a0 : w0.heap[W.heap.size + 1]? = some (.cells #[.int .i64 0, .bool th, .int .u64 (x : Int), .bool false, .int .u64 0, .slice none 0 0, .int .u64 0] 33 (0, 0)) := by
    have e := heap_alloc_new (W.alloc (.cells #[.int .u8 2, .int .u64 (7 : Int), .int .u64 (v : Int), .int .u64 0, .int .u64 0, .bool false, .int .i64 0, .int .i64 0, .slice none 0 0, .int .u64 0, .int .u64 0] 28)) (.cells #[.int .i64 0, .bool th, .int .u64 (x : Int), .bool false, .int .u64 0, .slice none 0 0, .int .u64 0] 33)
    rw [World.size_alloc] at e
    rw [hw0]
    exact e
  have m0 := hm.chg C0 (fun x => x)
  have n0 : w0.heap[n]? = some (.map es c) := (C0.block n (Array.getElem?_eq_some_iff.1 hN).1 (fun x => x)).trans hN
  have hnl := (Array.getElem?_eq_some_iff.1 hN).1
  have k0 : w0.cell? ⟨W.heap.size, 0, none⟩ = some (.int .u8 2) := cell_of o0 0
  have e0 : w0.cell? ⟨W.heap.size + 1, 0, none⟩ = some (.int .i64 0) := cell_of a0 0
  have HS0 : Hid (w0.cell? ⟨m, 1, none⟩ = some (.map (some n)) ∧ w0.cell? ⟨W.heap.size, 1, none⟩ = some (.int .u64 7) ∧ w0.cell? ⟨W.heap.size, 2, none⟩ = some (.int .u64 (v : Int))) := ⟨cell_of m0 1, cell_of o0 1, cell_of o0 2⟩
  have hu := hup w0.drew n0
  obtain ⟨w1, hw1⟩ : ∃ w1, w1 = ChangeMaps.setBlock w0.drew n (.map es' c') := ⟨_, rfl⟩
  have K1 : Chg (fun k => k = n) w0.drew w1 := by rw [hw1]; exact setBlock_chg (w := w0.drew) n0 _
  have N1 : Hid (w1.heap[n]? = some (.map es' c')) := by rw [hw1]; exact setBlock_at (w := w0.drew) n0 _
  have m1 : IsModel w1 m n h := (show IsModel w0.drew m n h from m0).chg K1 hmn
  have o1 : w1.heap[W.heap.size]? = some (.cells #[.int .u8 2, .int .u64 (7 : Int), .int .u64 (v : Int), .int .u64 0, .int .u64 0, .bool false, .int .i64 0, .int .i64 0, .slice none 0 0, .int .u64 0, .int .u64 0] 28 (0, 0)) := (K1.block W.heap.size (lt_of o0) (by omega)).trans o0
  have HC1 : Hid (Chg (fun k => k = n) W w1) := C0.drew.trans K1 (fun _ _ x => x.elim) (fun _ _ x => x)
  have hS6 : w1.cell? ⟨m, 1, none⟩ = some (.map (some n)) ∧ w1.cell? ⟨W.heap.size, 1, none⟩ = some (.int .u64 7) ∧ w1.cell? ⟨W.heap.size, 2, none⟩ = some (.int .u64 (v : Int)) := ⟨cell_of m1 1, cell_of o1 1, cell_of o1 2⟩
  rw [← hw1] at hu
  clear hm hN hup C0 o0 a0 m0 n0 hnl K1 m1 o1 hw1
  go_enter Try.func28, Try.ntmps28
  go_upto_region 1 with fail
  rw [← hw0]
  clear hw0
  go_upto_region 9 with fail
  go_region_held3 (fun w' => w'.cell? ⟨m, 1, none⟩ = some (.map (some n)) ∧ w'.cell? ⟨W.heap.size, 1, none⟩ = some (.int .u64 7) ∧ w'.cell? ⟨W.heap.size, 2, none⟩ = some (.int .u64 (v : Int))) (first | exact HS0.out | exact hS6) (fail)
  all_goals (
    (try go_wp2_with fail)
    go_end0
    exact ⟨rfl, N1.out, HC1.out⟩)
end Go.Proofs.Ytgaincicbgojjaa
