/- The trie's Pairs of no memory: the whole. -/
import Derived.Test.YtokooplfjibneaaGreatTpn
namespace Go.Proofs.YtokooplfjibneaaGreat
open Go.RowKit Go.Shelf
set_option linter.unusedVariables false

set_option maxRecDepth 100000 in
set_option maxHeartbeats 2000000 in
theorem pairs_nil (cam br : Nat) (W : World) : Calls Tryz.prog 16 #[.pointer none, .agg #[.int .u64 (cam : Int), .int .u64 (br : Int)]] W fun e W' => e = .returned (.slice none 0 0) ∧ Chg (fun _ => False) W W' := by
  have hmm := @run_makeMap Tryz.prog
  obtain ⟨w0, hw0⟩ : ∃ w0, w0 = W.alloc (.cells #[.int .u64 (cam : Int), .int .u64 (br : Int)] 24) := ⟨_, rfl⟩
  have C0 : Chg (fun _ => False) W w0 := by rw [hw0]; exact (Chg.refl _ _).alloc _
  have T0 : Blk w0 W.heap.size 24 [.int .u64 (cam : Int), .int .u64 (br : Int)] := by rw [hw0]; exact heap_alloc_new _ _
  obtain ⟨w1, hw1⟩ : ∃ w1, w1 = w0.alloc (.map #[] 0) := ⟨_, rfl⟩
  have B1 : w1.heap[w0.heap.size]? = some (.map #[] 0) := by rw [hw1]; exact heap_alloc_new _ _
  have T1 : Blk w1 W.heap.size 24 [.int .u64 (cam : Int), .int .u64 (br : Int)] := by rw [hw1]; exact alloc_of T0 _
  have z1 : w1.heap.size = w0.heap.size + 1 := by rw [hw1]; simp
  obtain ⟨w2, hw2⟩ : ∃ w2, w2 = w1.alloc (.cells #[.pointer none, .map (some w0.heap.size), .slice none 0 0] 73) := ⟨_, rfl⟩
  have G2 : Blk w2 w1.heap.size 73 [.pointer none, .map (some w0.heap.size), .slice none 0 0] := by rw [hw2]; exact heap_alloc_new _ _
  have B2 : w2.heap[w0.heap.size]? = some (.map #[] 0) := by rw [hw2]; exact alloc_of B1 _
  have T2 : Blk w2 W.heap.size 24 [.int .u64 (cam : Int), .int .u64 (br : Int)] := by rw [hw2]; exact alloc_of T1 _
  have C2 : Chg (fun _ => False) W w2 := by rw [hw2, hw1]; exact (C0.alloc _).alloc _
  have z0 := C0.size
  rw [z1] at G2
  have HBR := keepH (branch_nil G2 B2 (by omega) br)
  have HC2 := keepH C2
  have HZ : Hid (W.heap.size ≤ w0.heap.size) := z0
  have t1 : w2.cell? ⟨W.heap.size, 1, none⟩ = some (.int .u64 (br : Int)) := T2.cell 1
  clear C0 T0 B1 T1 G2 B2 T2 C2 z0 z1
  go_enter Tryz.func16, Tryz.ntmps16
  go_upto_region 1 with fail
  rw [← hw0]
  clear hw0
  go_upto_region 2 with fail
  rw [← hw1]
  rw [← hw2]
  clear hw1 hw2
  go_wp2_with fail
  refine HBR.out.mono ?_
  rintro e w3 ⟨rfl, G3, C3⟩
  have HC3 : Hid (Chg (fun _ => False) W w3) := HC2.out.trans C3 (fun _ _ x => x) (fun i hi e => by have := HZ.out; omega)
  have g2 : w3.cell? ⟨w0.heap.size + 1, 2, none⟩ = some (.slice none 0 0) := G3.cell 2
  clear G3 C3 HBR t1
  go_wp2_with fail
  refine (first_nil _).mono ?_
  rintro e w4 ⟨rfl, rfl⟩
  go_wp2_with fail
  go_ret
  exact ⟨by simp, HC3.out⟩
end Go.Proofs.YtokooplfjibneaaGreat
