/- Cut and Collect that are nil; how many versions are kept of no memory. -/
import Derived.Test.YtcnbngcmplkefaaGreatNils
import Derived.Test.YtcnbngcmplkefaaGreatKh
import Derived.Maps.Keyed
import Derived.Laws.EntriesVeiled
namespace Go.Proofs.YtcnbngcmplkefaaGreat
open Go.RowKit Go.Shelf
set_option linter.unusedVariables false

set_option maxRecDepth 100000 in
theorem nil_isv (W : World) : Calls Tryz.prog 38 #[.pointer none, .int .u64 0] W fun e W' => e = .returned (.bool false) ∧ W' = W := by
  go_enter Tryz.func38, Tryz.ntmps38
  go_wp2_with fail
  refine (nil_mcells _).mono ?_
  rintro e w ⟨rfl, rfl⟩
  go_wp2_with fail
  go_ret
  exact ⟨by simp, rfl⟩
set_option maxRecDepth 100000 in
theorem nil_versions (obj : Nat) (W : World) : Calls Tryz.prog 28 #[.pointer none, .int .u64 (obj : Int)] W fun e W' => e = .returned (.slice none 0 0) ∧ W' = W := by
  go_enter Tryz.func28, Tryz.ntmps28
  go_wp2_with fail
  refine (nil_mpeek _ _).mono ?_
  rintro e w ⟨rfl, rfl⟩
  go_wp2_with fail
  go_loopw [5, 6] (fun s5 s6 wr => s5 = .slice none 0 0 ∧ s6 = .int .u64 0 ∧ wr = w) (fun _ _ _ => 0)
  case atStart => exact ⟨rfl, rfl, rfl⟩
  case round =>
    obtain ⟨rfl, rfl, rfl⟩ := hrel
    go_wp2_with fail
    refine (nil_isv _).mono ?_
    rintro e w2 ⟨rfl, rfl⟩
    go_wp2_with fail
    go_ret
    exact ⟨by simp, rfl⟩

theorem ck_u64 (a : Int) (em : Bool) (w : World) : (Instr.checkKey em 10000 22 (.int .u64 a)).run Tryz.prog w = .ok () w := by kernel_rfl
theorem fk_none (x : Value) (w : World) : (Instr.findKey 22 x []).run Tryz.prog w = .ok none w := by kernel_rfl
theorem zero_unit (w : World) : (zeroValue 59).run Tryz.prog w = .ok (.agg #[]) w := by kernel_rfl
theorem lk_empty {w : World} {b : Nat} (hb : w.heap[b]? = some (.map #[] 0)) (a : Int) : (Instr.lookup 58 (.map (some b)) (.int .u64 a) true).run Tryz.prog w = .ok (.tuple #[.agg #[], .bool false]) w := by
  simp [Instr.lookup, run_underlying Tryz.underlying58, MapKept.run_getObj_map hb, ck_u64, fk_none, Result.andThen]
theorem up_empty {w : World} {b : Nat} (hb : w.heap[b]? = some (.map #[] 0)) (a : Int) : ∃ es c, (Instr.mapUpdate 58 (.map (some b)) (.int .u64 a) (.agg #[])).run Tryz.prog w = .ok () (ChangeMaps.setBlock w b (.map es c)) := by
  refine ⟨#[⟨.int .u64 a, .agg #[], 0⟩], 1, ?_⟩
  simp [Instr.mapUpdate, run_underlying Tryz.underlying58, MapKept.run_getObj_map hb, ck_u64, fk_none, MapKept.run_setObj_map _ hb, Result.andThen, ChangeMaps.setBlock]
theorem setBlock_chg {w : World} {b : Nat} {o : Obj} (hb : w.heap[b]? = some o) (o' : Obj) : Chg (fun k => k = b) w (ChangeMaps.setBlock w b o') :=
  ⟨rfl, rfl, rfl, by simp [ChangeMaps.setBlock], fun k _ hn => by
    show (w.heap.setIfInBounds b o')[k]? = w.heap[k]?
    rw [Array.getElem?_setIfInBounds_ne (fun e => hn e.symm)]⟩
set_option maxRecDepth 100000 in
theorem newest_nil (W : World) : Calls Tryz.prog 29 #[.slice none 0 0] W fun e W' => e = .returned (.tuple #[.int .u64 0, .bool false]) ∧ W' = W := by
  go_enter Tryz.func29, Tryz.ntmps29
  go_wp2_with fail
  go_ret2
  exact ⟨by simp, rfl⟩
set_option maxRecDepth 100000 in
theorem kstep_nil (v : Value) (W : World) : Calls Tryz.prog 5 #[.pointer none, v] W fun e W' => e = .returned (.bool true) ∧ W' = W := by
  go_enter Tryz.func5, Tryz.ntmps5
  go_wp2_with fail
  go_ret
  exact ⟨by simp, rfl⟩
set_option maxRecDepth 100000 in
theorem kcstep_nil (v : Value) (W : World) : Calls Tryz.prog 6 #[.pointer none, v] W fun e W' => e = .returned (.bool true) ∧ W' = W := by
  go_enter Tryz.func6, Tryz.ntmps6
  go_wp2_with fail
  go_ret
  exact ⟨by simp, rfl⟩
set_option maxRecDepth 100000 in
theorem kcount_nil (W : World) : Calls Tryz.prog 7 #[.pointer none] W fun e W' => e = .returned (.int .u64 0) ∧ W' = W := by
  go_enter Tryz.func7, Tryz.ntmps7
  go_wp2_with fail
  go_ret
  exact ⟨by simp, rfl⟩
set_option maxRecDepth 100000 in
theorem khead_nil (W : World) : Calls Tryz.prog 8 #[.pointer none] W fun e W' => e = .returned (.int .u64 0) ∧ W' = W := by
  go_enter Tryz.func8, Tryz.ntmps8
  go_wp2_with fail
  go_ret
  exact ⟨by simp, rfl⟩
set_option maxRecDepth 100000 in
theorem kccount_nil (W : World) : Calls Tryz.prog 9 #[.pointer none] W fun e W' => e = .returned (.int .u64 0) ∧ W' = W := by
  go_enter Tryz.func9, Tryz.ntmps9
  go_wp2_with fail
  go_ret
  exact ⟨by simp, rfl⟩

set_option maxRecDepth 100000 in
set_option maxHeartbeats 2000000 in
theorem kept_nil (cam br : Nat) (W : World) : Calls Tryz.prog 10 #[.pointer none, .agg #[.int .u64 (cam : Int), .int .u64 (br : Int)]] W fun e W' => e = .returned (.int .i64 0) ∧ Chg (fun _ => False) W W' := by
  have hmm := @run_makeMap Tryz.prog
  obtain ⟨w0, hw0⟩ : ∃ w0, w0 = W.alloc (.cells #[.int .u64 (cam : Int), .int .u64 (br : Int)] 24) := ⟨_, rfl⟩
  have T0 : w0.heap[W.heap.size]? = some (.cells #[.int .u64 (cam : Int), .int .u64 (br : Int)] 24 (0, 0)) := by rw [hw0]; exact heap_alloc_new _ _
  have C0 : Chg (fun _ => False) W w0 := by rw [hw0]; exact (Chg.refl _ _).alloc _
  have t1 : w0.cell? ⟨W.heap.size, 1, none⟩ = some (.int .u64 (br : Int)) := cell_of T0 1
  obtain ⟨w1, hw1⟩ : ∃ w1, w1 = w0.alloc (.cells #[.int .u64 (br : Int)] 22) := ⟨_, rfl⟩
  have L1 : w1.heap[w0.heap.size]? = some (.cells #[.int .u64 (br : Int)] 22 (0, 0)) := by rw [hw1]; exact heap_alloc_new _ _
  obtain ⟨w2, hw2⟩ : ∃ w2, w2 = w1.alloc (.map #[] 0) := ⟨_, rfl⟩
  have B2 : w2.heap[w1.heap.size]? = some (.map #[] 0) := by rw [hw2]; exact heap_alloc_new _ _
  have L2 : w2.heap[w0.heap.size]? = some (.cells #[.int .u64 (br : Int)] 22 (0, 0)) := by rw [hw2]; exact alloc_of L1 _
  have C2 : Chg (fun _ => False) W w2 := by rw [hw2, hw1]; exact (C0.alloc _).alloc _
  have l0 : w2.cell? ⟨w0.heap.size, 0, none⟩ = some (.int .u64 (br : Int)) := cell_of L2 0
  have hlk := lk_empty B2 (br : Int)
  obtain ⟨w3, hw3⟩ : ∃ w3, w3 = w2.alloc (.cells #[] 59) := ⟨_, rfl⟩
  have B3 : w3.heap[w1.heap.size]? = some (.map #[] 0) := by rw [hw3]; exact alloc_of B2 _
  obtain ⟨es, c, hup⟩ := up_empty B3 (br : Int)
  obtain ⟨w4, hw4⟩ : ∃ w4, w4 = ChangeMaps.setBlock w3 w1.heap.size (.map es c) := ⟨_, rfl⟩
  have C3 : Chg (fun _ => False) W w3 := by rw [hw3]; exact C2.alloc _
  have zz : W.heap.size ≤ w1.heap.size := by have e := C0.size; rw [hw1, World.size_alloc]; omega
  have C4 : Hid (Chg (fun _ => False) W w4) := by rw [hw4]; exact C3.trans (setBlock_chg B3 _) (fun _ _ x => x) (fun i hi e => by omega)
  rw [← hw4] at hup
  have HW0 := keepH hw0
  have HW1 := keepH hw1
  have HW2 := keepH hw2
  have HW3 := keepH hw3
  clear hw0 hw1 hw2 hw3 T0 C0 L1 B2 L2 C2 B3 C3 zz hw4
  go_enter Tryz.func10, Tryz.ntmps10
  go_upto_region 1 with fail
  rw [← HW0.out]
  clear HW0
  go_upto_region 3 with fail
  rw [← HW1.out]
  clear HW1
  go_wp2_with fail
  rw [← HW2.out]
  clear HW2
  refine wp_loop_rounds 2 ?_
  rw [rounds_succ]
  go_upto_region 9 with fail
  rw [← HW3.out]
  clear HW3
  go_wp2_with fail
  go_loopw [5, 6, 43] (fun s5 s6 sk wr => ∃ k : Nat, k ≤ 64 ∧ s5 = .int .i64 0 ∧ s6 = .slice (some ⟨w0.heap.size, 0, none⟩) 0 1 ∧ sk = .int .u64 (k : Int) ∧ wr = w4) (fun _ _ sk _ => 64 - (intOf sk).toNat)
  case atStart => exact ⟨0, by omega, rfl, rfl, rfl, rfl⟩
  case round =>
    obtain ⟨k, hk, rfl, rfl, rfl, rfl⟩ := hrel
    by_cases e : k = 64
    · subst e
      go_wp2_with fail
      rw [rounds_succ]
      go_wp2_with fail
      go_ret
      exact ⟨by simp, C4.out⟩
    · have i1 : (k : Int) < 64 := by omega
      have k1 : IntKind.u64.wrap ((k : Int) + 1) = ((k + 1 : Nat) : Int) := by rw [IntKind.wrap_u64]; omega
      have k2 : IntKind.u64.wrap ((br : Int) + (k : Int)) = (addP br k : Int) := wrap_addP br k
      go_wp2_with fail
      refine (nil_versions _ _).mono ?_
      rintro e' w ⟨rfl, rfl⟩
      go_wp2_with fail
      refine (newest_nil _).mono ?_
      rintro e' w ⟨rfl, rfl⟩
      go_wp2_with fail
      go_roundw
      case rel => exact ⟨k + 1, by omega, by first | rfl | trivial, by first | rfl | trivial, by first | rfl | exact congrArg _ k1 | go_num, by first | rfl | trivial⟩
      case measure => simp [intOf]; omega
end Go.Proofs.YtcnbngcmplkefaaGreat
