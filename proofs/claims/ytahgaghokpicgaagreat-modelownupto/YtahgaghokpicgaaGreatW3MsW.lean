/- The model's do and Do, of the operations that are asked for. -/
import Derived.Test.YtahgaghokpicgaaGreatW2MsD
import Derived.Maps.RangeWalk
import Derived.Maps.AppendAt
import Derived.OwnWalk
namespace Go.Proofs.YtahgaghokpicgaaGreat
open Go.RowKit
set_option linter.unusedVariables false
set_option maxHeartbeats 16000000
set_option maxRecDepth 100000 in
theorem Do_2 (v x : Nat) (th : Bool) {W : World} {m : Nat} (T : World → World → Prop)
    (hT : ∀ w, Chg (fun _ => False) W w → Calls Tryz.prog 40 #[.pointer (some ⟨m, 0, none⟩), .agg #[.int .u8 2, .int .u64 (7 : Int), .int .u64 v, .int .u64 0, .int .u64 0, .bool false, .int .i64 0, .int .i64 0, .slice none 0 0, .int .u64 0, .int .u64 0], .int .u64 0] w fun e W' => e = .returned (.agg #[.int .i64 0, .bool th, .int .u64 x, .bool false, .int .u64 0, .slice none 0 0, .int .u64 0]) ∧ Chg (fun _ => False) w W')
    (G : Nat) (hG : G < W.heap.size) (hD : ∀ w, Chg (fun _ => False) W w → Calls Tryz.prog 43 #[.pointer (some ⟨m, 0, none⟩), .agg #[.int .u8 2, .int .u64 (7 : Int), .int .u64 v, .int .u64 0, .int .u64 0, .bool false, .int .i64 0, .int .i64 0, .slice none 0 0, .int .u64 0, .int .u64 0], .agg #[.int .i64 0, .bool th, .int .u64 x, .bool false, .int .u64 0, .slice none 0 0, .int .u64 0]] w fun e W' => e = .returned (.tuple #[]) ∧ T w W' ∧ Chg (fun k => k = G) w W') :
    Calls Tryz.prog 17 #[.pointer (some ⟨m, 0, none⟩), .agg #[.int .u8 2, .int .u64 (7 : Int), .int .u64 v, .int .u64 0, .int .u64 0, .bool false, .int .i64 0, .int .i64 0, .slice none 0 0, .int .u64 0, .int .u64 0], .int .u64 0] W fun e W' => e = .returned (.agg #[.int .i64 0, .bool th, .int .u64 x, .bool false, .int .u64 0, .slice none 0 0, .int .u64 0]) ∧ ∃ w w', Chg (fun _ => False) W w ∧ W.heap.size + 1 < w.heap.size ∧ T w w' ∧ Chg (fun k => k = G) w w' ∧ Chg (fun k => k = W.heap.size + 1) w' W' := by
 obtain ⟨w0, hw0⟩ : ∃ w0, w0 = (W.alloc (.cells #[.int .u8 2, .int .u64 (7 : Int), .int .u64 v, .int .u64 0, .int .u64 0, .bool false, .int .i64 0, .int .i64 0, .slice none 0 0, .int .u64 0, .int .u64 0] 35)).alloc (.cells #[.int .i64 0, .bool false, .int .u64 0, .bool false, .int .u64 0, .slice none 0 0, .int .u64 0] 39) := ⟨_, rfl⟩
 have C0 : Chg (fun _ => False) W w0 := by rw [hw0]; exact ((Chg.refl _ _).alloc _).alloc _
 have o0 : w0.heap[W.heap.size]? = some (.cells #[.int .u8 2, .int .u64 (7 : Int), .int .u64 v, .int .u64 0, .int .u64 0, .bool false, .int .i64 0, .int .i64 0, .slice none 0 0, .int .u64 0, .int .u64 0] 35 (0, 0)) := by rw [hw0]; exact alloc_of (heap_alloc_new _ _) _
 have a0 : w0.heap[W.heap.size + 1]? = some (.cells #[.int .i64 0, .bool false, .int .u64 0, .bool false, .int .u64 0, .slice none 0 0, .int .u64 0] 39 (0, 0)) := by
  rw [hw0]
  exact al2
 have HC0 := keepH C0
 have HO0 := keepH o0
 have HA0 := keepH a0
 have c0 : w0.cell? ⟨W.heap.size, 0, none⟩ = some (.int .u8 2) := cell_of o0 0
 have c1 : w0.cell? ⟨W.heap.size, 1, none⟩ = some (.int .u64 (7 : Int)) := cell_of o0 1
 have c2 : w0.cell? ⟨W.heap.size, 2, none⟩ = some (.int .u64 v) := cell_of o0 2
 have c3 : w0.cell? ⟨W.heap.size, 3, none⟩ = some (.int .u64 0) := cell_of o0 3
 have c4 : w0.cell? ⟨W.heap.size, 4, none⟩ = some (.int .u64 0) := cell_of o0 4
 have c5 : w0.cell? ⟨W.heap.size, 5, none⟩ = some (.bool false) := cell_of o0 5
 have c6 : w0.cell? ⟨W.heap.size, 6, none⟩ = some (.int .i64 0) := cell_of o0 6
 have c7 : w0.cell? ⟨W.heap.size, 7, none⟩ = some (.int .i64 0) := cell_of o0 7
 have c8 : w0.cell? ⟨W.heap.size, 8, none⟩ = some (.slice none 0 0) := cell_of o0 8
 have c9 : w0.cell? ⟨W.heap.size, 9, none⟩ = some (.int .u64 0) := cell_of o0 9
 have c10 : w0.cell? ⟨W.heap.size, 10, none⟩ = some (.int .u64 0) := cell_of o0 10
 have HT := keepH hT
 have HD := keepH hD
 clear hT hD C0 o0 a0
 go_enter Tryz.func17, Tryz.ntmps17
 go_upto_region 1 with fail
 rw [← hw0]
 clear hw0
 go_wp2_with fail
 refine (HT.out _ HC0.out).mono ?_
 rintro e w1 ⟨rfl, C1⟩
 obtain ⟨w2, hw2⟩ : ∃ w2, w2 = w1.alloc (.cells #[.int .i64 0, .bool th, .int .u64 x, .bool false, .int .u64 0, .slice none 0 0, .int .u64 0] 39) := ⟨_, rfl⟩
 have C2 : Chg (fun _ => False) w0 w2 := by rw [hw2]; exact C1.alloc _
 have HT2 : Hid (w2.heap[w1.heap.size]? = some (.cells #[.int .i64 0, .bool th, .int .u64 x, .bool false, .int .u64 0, .slice none 0 0, .int .u64 0] 39 (0, 0))) := by rw [hw2]; exact heap_alloc_new _ _
 have HO2 : Hid (w2.heap[W.heap.size]? = some (.cells #[.int .u8 2, .int .u64 (7 : Int), .int .u64 v, .int .u64 0, .int .u64 0, .bool false, .int .i64 0, .int .i64 0, .slice none 0 0, .int .u64 0, .int .u64 0] 35 (0, 0))) := (C2.block _ (lt_of HO0.out) (fun x => x)).trans HO0.out
 have HA2 : Hid (w2.heap[W.heap.size + 1]? = some (.cells #[.int .i64 0, .bool false, .int .u64 0, .bool false, .int .u64 0, .slice none 0 0, .int .u64 0] 39 (0, 0))) := (C2.block _ (lt_of HA0.out) (fun x => x)).trans HA0.out
 have HC2 : Hid (Chg (fun _ => False) W w2) := HC0.out.trans C2 (fun _ _ x => x) (fun _ _ x => x)
 have HZ2 : Hid (w0.heap.size ≤ w1.heap.size) := C1.size
 have HZ0 : Hid (W.heap.size + 1 < w0.heap.size) := lt_of HA0.out
 clear C1 C2 c0 c1 c2 c3 c4 c5 c6 c7 c8 c9 c10
 go_upto_region 4 with fail
 rw [← hw2]
 clear hw2
 have c0 : w2.cell? ⟨W.heap.size, 0, none⟩ = some (.int .u8 2) := cell_of HO2.out 0
 have c1 : w2.cell? ⟨W.heap.size, 1, none⟩ = some (.int .u64 (7 : Int)) := cell_of HO2.out 1
 have c2 : w2.cell? ⟨W.heap.size, 2, none⟩ = some (.int .u64 v) := cell_of HO2.out 2
 have c3 : w2.cell? ⟨W.heap.size, 3, none⟩ = some (.int .u64 0) := cell_of HO2.out 3
 have c4 : w2.cell? ⟨W.heap.size, 4, none⟩ = some (.int .u64 0) := cell_of HO2.out 4
 have c5 : w2.cell? ⟨W.heap.size, 5, none⟩ = some (.bool false) := cell_of HO2.out 5
 have c6 : w2.cell? ⟨W.heap.size, 6, none⟩ = some (.int .i64 0) := cell_of HO2.out 6
 have c7 : w2.cell? ⟨W.heap.size, 7, none⟩ = some (.int .i64 0) := cell_of HO2.out 7
 have c8 : w2.cell? ⟨W.heap.size, 8, none⟩ = some (.slice none 0 0) := cell_of HO2.out 8
 have c9 : w2.cell? ⟨W.heap.size, 9, none⟩ = some (.int .u64 0) := cell_of HO2.out 9
 have c10 : w2.cell? ⟨W.heap.size, 10, none⟩ = some (.int .u64 0) := cell_of HO2.out 10
 have t0 : w2.cell? ⟨w1.heap.size, 0, none⟩ = some (.int .i64 0) := cell_of HT2.out 0
 have t1 : w2.cell? ⟨w1.heap.size, 1, none⟩ = some (.bool th) := cell_of HT2.out 1
 have t2 : w2.cell? ⟨w1.heap.size, 2, none⟩ = some (.int .u64 x) := cell_of HT2.out 2
 have t3 : w2.cell? ⟨w1.heap.size, 3, none⟩ = some (.bool false) := cell_of HT2.out 3
 have t4 : w2.cell? ⟨w1.heap.size, 4, none⟩ = some (.int .u64 0) := cell_of HT2.out 4
 have t5 : w2.cell? ⟨w1.heap.size, 5, none⟩ = some (.slice none 0 0) := cell_of HT2.out 5
 have t6 : w2.cell? ⟨w1.heap.size, 6, none⟩ = some (.int .u64 0) := cell_of HT2.out 6
 go_wp2_with fail
 refine (HD.out _ HC2.out).mono ?_
 rintro e w3 ⟨rfl, hT3, C3⟩
 have HT3 : Hid (w3.heap[w1.heap.size]? = some (.cells #[.int .i64 0, .bool th, .int .u64 x, .bool false, .int .u64 0, .slice none 0 0, .int .u64 0] 39 (0, 0))) := (C3.block _ (lt_of HT2.out) (by have := HZ2.out; have := HZ0.out; omega)).trans HT2.out
 have A3 : w3.heap[W.heap.size + 1]? = some (.cells #[.int .i64 0, .bool false, .int .u64 0, .bool false, .int .u64 0, .slice none 0 0, .int .u64 0] 39 (0, 0)) := (C3.block _ (lt_of HA2.out) (by omega)).trans HA2.out
 have HTT := keepH hT3
 have HKC := keepH C3
 have HC3 : Hid (Chg (fun k => k = G) W w3) := HC2.out.trans C3 (fun _ _ x => x.elim) (fun _ _ x => x)
 clear hT3 C3 c0 c1 c2 c3 c4 c5 c6 c7 c8 c9 c10 t0 t1 t2 t3 t4 t5 t6
 obtain ⟨w4, hw4⟩ : ∃ w4, w4 = w3.setCells (W.heap.size + 1) 0 (#[.int .i64 0, .bool th, .int .u64 x, .bool false, .int .u64 0, .slice none 0 0, .int .u64 0] : Array Value).toList := ⟨_, rfl⟩
 have A4 : w4.heap[W.heap.size + 1]? = some (.cells #[.int .i64 0, .bool th, .int .u64 x, .bool false, .int .u64 0, .slice none 0 0, .int .u64 0] 39 (0, 0)) := by
  rw [hw4]
  exact setCells_of 39 (W.heap.size + 1) (#[.int .i64 0, .bool th, .int .u64 x, .bool false, .int .u64 0, .slice none 0 0, .int .u64 0] : Array Value).toList [] (#[.int .i64 0, .bool false, .int .u64 0, .bool false, .int .u64 0, .slice none 0 0, .int .u64 0] : Array Value).toList [] w3 A3 rfl
 have HK4 : Hid (Chg (fun k => k = W.heap.size + 1) w3 w4) := by rw [hw4]; exact setCells_chg (W.heap.size + 1) _ 0 _
 have HTH : Hid (w3.there (W.heap.size + 1) 0 7) := fun j hj => ⟨by rw [cell_of A3]; match j, hj with | 0, _ => rfl | 1, _ => rfl | 2, _ => rfl | 3, _ => rfl | 4, _ => rfl | 5, _ => rfl | 6, _ => rfl, free_of A3 _⟩
 have HW := keepH hw4
 have q0 : w4.cell? ⟨W.heap.size + 1, 0, none⟩ = some (.int .i64 0) := cell_of A4 0
 have q1 : w4.cell? ⟨W.heap.size + 1, 1, none⟩ = some (.bool th) := cell_of A4 1
 have q2 : w4.cell? ⟨W.heap.size + 1, 2, none⟩ = some (.int .u64 x) := cell_of A4 2
 have q3 : w4.cell? ⟨W.heap.size + 1, 3, none⟩ = some (.bool false) := cell_of A4 3
 have q4 : w4.cell? ⟨W.heap.size + 1, 4, none⟩ = some (.int .u64 0) := cell_of A4 4
 have q5 : w4.cell? ⟨W.heap.size + 1, 5, none⟩ = some (.slice none 0 0) := cell_of A4 5
 have q6 : w4.cell? ⟨W.heap.size + 1, 6, none⟩ = some (.int .u64 0) := cell_of A4 6
 have t0 : w3.cell? ⟨w1.heap.size, 0, none⟩ = some (.int .i64 0) := cell_of HT3.out 0
 have t1 : w3.cell? ⟨w1.heap.size, 1, none⟩ = some (.bool th) := cell_of HT3.out 1
 have t2 : w3.cell? ⟨w1.heap.size, 2, none⟩ = some (.int .u64 x) := cell_of HT3.out 2
 have t3 : w3.cell? ⟨w1.heap.size, 3, none⟩ = some (.bool false) := cell_of HT3.out 3
 have t4 : w3.cell? ⟨w1.heap.size, 4, none⟩ = some (.int .u64 0) := cell_of HT3.out 4
 have t5 : w3.cell? ⟨w1.heap.size, 5, none⟩ = some (.slice none 0 0) := cell_of HT3.out 5
 have t6 : w3.cell? ⟨w1.heap.size, 6, none⟩ = some (.int .u64 0) := cell_of HT3.out 6
 clear hw4 A3 A4
 go_wp2_with (refine wpList_store_mid rfl 39 (.tmp 6) (.tmp 19) rfl (W.heap.size + 1) 0 #[.int .i64 0, .bool th, .int .u64 x, .bool false, .int .u64 0, .slice none 0 0, .int .u64 0] rfl rfl HTH.out (by kernel_rfl) (by kernel_rfl) ?_; rw [← HW.out]; clear HW HTH)
 (try go_wp2_with fail)
 refine bodyPost_ret (v := .agg #[.int .i64 0, .bool th, .int .u64 x, .bool false, .int .u64 0, .slice none 0 0, .int .u64 0]) (by simp [results, Tryz.results17, go_sem, q0, q1, q2, q3, q4, q5, q6]) rfl ⟨rfl, w2, w3, HC2.out, lt_of HA2.out, HTT.out, HKC.out, HK4.out⟩
set_option maxRecDepth 100000 in
theorem Do_5  {W : World} {m : Nat} (T : World → World → Prop)
    (hT : ∀ w, Chg (fun _ => False) W w → Calls Tryz.prog 40 #[.pointer (some ⟨m, 0, none⟩), .agg #[.int .u8 5, .int .u64 (0 : Int), .int .u64 (0 : Int), .int .u64 0, .int .u64 0, .bool false, .int .i64 0, .int .i64 0, .slice none 0 0, .int .u64 0, .int .u64 0], .int .u64 5] w fun e W' => e = .returned (.agg #[.int .i64 0, .bool false, .int .u64 0, .bool false, .int .u64 5, .slice none 0 0, .int .u64 0]) ∧ Chg (fun _ => False) w W')
    (G : Nat) (hG : G < W.heap.size) (hD : ∀ w, Chg (fun _ => False) W w → Calls Tryz.prog 43 #[.pointer (some ⟨m, 0, none⟩), .agg #[.int .u8 5, .int .u64 (0 : Int), .int .u64 (0 : Int), .int .u64 0, .int .u64 0, .bool false, .int .i64 0, .int .i64 0, .slice none 0 0, .int .u64 0, .int .u64 0], .agg #[.int .i64 0, .bool false, .int .u64 0, .bool false, .int .u64 5, .slice none 0 0, .int .u64 0]] w fun e W' => e = .returned (.tuple #[]) ∧ T w W' ∧ Chg (fun k => k = G) w W') :
    Calls Tryz.prog 17 #[.pointer (some ⟨m, 0, none⟩), .agg #[.int .u8 5, .int .u64 (0 : Int), .int .u64 (0 : Int), .int .u64 0, .int .u64 0, .bool false, .int .i64 0, .int .i64 0, .slice none 0 0, .int .u64 0, .int .u64 0], .int .u64 5] W fun e W' => e = .returned (.agg #[.int .i64 0, .bool false, .int .u64 0, .bool false, .int .u64 5, .slice none 0 0, .int .u64 0]) ∧ ∃ w w', Chg (fun _ => False) W w ∧ W.heap.size + 1 < w.heap.size ∧ T w w' ∧ Chg (fun k => k = G) w w' ∧ Chg (fun k => k = W.heap.size + 1) w' W' := by
 obtain ⟨w0, hw0⟩ : ∃ w0, w0 = (W.alloc (.cells #[.int .u8 5, .int .u64 (0 : Int), .int .u64 (0 : Int), .int .u64 0, .int .u64 0, .bool false, .int .i64 0, .int .i64 0, .slice none 0 0, .int .u64 0, .int .u64 0] 35)).alloc (.cells #[.int .i64 0, .bool false, .int .u64 0, .bool false, .int .u64 0, .slice none 0 0, .int .u64 0] 39) := ⟨_, rfl⟩
 have C0 : Chg (fun _ => False) W w0 := by rw [hw0]; exact ((Chg.refl _ _).alloc _).alloc _
 have o0 : w0.heap[W.heap.size]? = some (.cells #[.int .u8 5, .int .u64 (0 : Int), .int .u64 (0 : Int), .int .u64 0, .int .u64 0, .bool false, .int .i64 0, .int .i64 0, .slice none 0 0, .int .u64 0, .int .u64 0] 35 (0, 0)) := by rw [hw0]; exact alloc_of (heap_alloc_new _ _) _
 have a0 : w0.heap[W.heap.size + 1]? = some (.cells #[.int .i64 0, .bool false, .int .u64 0, .bool false, .int .u64 0, .slice none 0 0, .int .u64 0] 39 (0, 0)) := by
  rw [hw0]
  exact al2
 have HC0 := keepH C0
 have HO0 := keepH o0
 have HA0 := keepH a0
 have c0 : w0.cell? ⟨W.heap.size, 0, none⟩ = some (.int .u8 5) := cell_of o0 0
 have c1 : w0.cell? ⟨W.heap.size, 1, none⟩ = some (.int .u64 (0 : Int)) := cell_of o0 1
 have c2 : w0.cell? ⟨W.heap.size, 2, none⟩ = some (.int .u64 (0 : Int)) := cell_of o0 2
 have c3 : w0.cell? ⟨W.heap.size, 3, none⟩ = some (.int .u64 0) := cell_of o0 3
 have c4 : w0.cell? ⟨W.heap.size, 4, none⟩ = some (.int .u64 0) := cell_of o0 4
 have c5 : w0.cell? ⟨W.heap.size, 5, none⟩ = some (.bool false) := cell_of o0 5
 have c6 : w0.cell? ⟨W.heap.size, 6, none⟩ = some (.int .i64 0) := cell_of o0 6
 have c7 : w0.cell? ⟨W.heap.size, 7, none⟩ = some (.int .i64 0) := cell_of o0 7
 have c8 : w0.cell? ⟨W.heap.size, 8, none⟩ = some (.slice none 0 0) := cell_of o0 8
 have c9 : w0.cell? ⟨W.heap.size, 9, none⟩ = some (.int .u64 0) := cell_of o0 9
 have c10 : w0.cell? ⟨W.heap.size, 10, none⟩ = some (.int .u64 0) := cell_of o0 10
 have HT := keepH hT
 have HD := keepH hD
 clear hT hD C0 o0 a0
 go_enter Tryz.func17, Tryz.ntmps17
 go_upto_region 1 with fail
 rw [← hw0]
 clear hw0
 go_wp2_with fail
 refine (HT.out _ HC0.out).mono ?_
 rintro e w1 ⟨rfl, C1⟩
 obtain ⟨w2, hw2⟩ : ∃ w2, w2 = w1.alloc (.cells #[.int .i64 0, .bool false, .int .u64 0, .bool false, .int .u64 5, .slice none 0 0, .int .u64 0] 39) := ⟨_, rfl⟩
 have C2 : Chg (fun _ => False) w0 w2 := by rw [hw2]; exact C1.alloc _
 have HT2 : Hid (w2.heap[w1.heap.size]? = some (.cells #[.int .i64 0, .bool false, .int .u64 0, .bool false, .int .u64 5, .slice none 0 0, .int .u64 0] 39 (0, 0))) := by rw [hw2]; exact heap_alloc_new _ _
 have HO2 : Hid (w2.heap[W.heap.size]? = some (.cells #[.int .u8 5, .int .u64 (0 : Int), .int .u64 (0 : Int), .int .u64 0, .int .u64 0, .bool false, .int .i64 0, .int .i64 0, .slice none 0 0, .int .u64 0, .int .u64 0] 35 (0, 0))) := (C2.block _ (lt_of HO0.out) (fun x => x)).trans HO0.out
 have HA2 : Hid (w2.heap[W.heap.size + 1]? = some (.cells #[.int .i64 0, .bool false, .int .u64 0, .bool false, .int .u64 0, .slice none 0 0, .int .u64 0] 39 (0, 0))) := (C2.block _ (lt_of HA0.out) (fun x => x)).trans HA0.out
 have HC2 : Hid (Chg (fun _ => False) W w2) := HC0.out.trans C2 (fun _ _ x => x) (fun _ _ x => x)
 have HZ2 : Hid (w0.heap.size ≤ w1.heap.size) := C1.size
 have HZ0 : Hid (W.heap.size + 1 < w0.heap.size) := lt_of HA0.out
 clear C1 C2 c0 c1 c2 c3 c4 c5 c6 c7 c8 c9 c10
 go_upto_region 4 with fail
 rw [← hw2]
 clear hw2
 have c0 : w2.cell? ⟨W.heap.size, 0, none⟩ = some (.int .u8 5) := cell_of HO2.out 0
 have c1 : w2.cell? ⟨W.heap.size, 1, none⟩ = some (.int .u64 (0 : Int)) := cell_of HO2.out 1
 have c2 : w2.cell? ⟨W.heap.size, 2, none⟩ = some (.int .u64 (0 : Int)) := cell_of HO2.out 2
 have c3 : w2.cell? ⟨W.heap.size, 3, none⟩ = some (.int .u64 0) := cell_of HO2.out 3
 have c4 : w2.cell? ⟨W.heap.size, 4, none⟩ = some (.int .u64 0) := cell_of HO2.out 4
 have c5 : w2.cell? ⟨W.heap.size, 5, none⟩ = some (.bool false) := cell_of HO2.out 5
 have c6 : w2.cell? ⟨W.heap.size, 6, none⟩ = some (.int .i64 0) := cell_of HO2.out 6
 have c7 : w2.cell? ⟨W.heap.size, 7, none⟩ = some (.int .i64 0) := cell_of HO2.out 7
 have c8 : w2.cell? ⟨W.heap.size, 8, none⟩ = some (.slice none 0 0) := cell_of HO2.out 8
 have c9 : w2.cell? ⟨W.heap.size, 9, none⟩ = some (.int .u64 0) := cell_of HO2.out 9
 have c10 : w2.cell? ⟨W.heap.size, 10, none⟩ = some (.int .u64 0) := cell_of HO2.out 10
 have t0 : w2.cell? ⟨w1.heap.size, 0, none⟩ = some (.int .i64 0) := cell_of HT2.out 0
 have t1 : w2.cell? ⟨w1.heap.size, 1, none⟩ = some (.bool false) := cell_of HT2.out 1
 have t2 : w2.cell? ⟨w1.heap.size, 2, none⟩ = some (.int .u64 0) := cell_of HT2.out 2
 have t3 : w2.cell? ⟨w1.heap.size, 3, none⟩ = some (.bool false) := cell_of HT2.out 3
 have t4 : w2.cell? ⟨w1.heap.size, 4, none⟩ = some (.int .u64 5) := cell_of HT2.out 4
 have t5 : w2.cell? ⟨w1.heap.size, 5, none⟩ = some (.slice none 0 0) := cell_of HT2.out 5
 have t6 : w2.cell? ⟨w1.heap.size, 6, none⟩ = some (.int .u64 0) := cell_of HT2.out 6
 go_wp2_with fail
 refine (HD.out _ HC2.out).mono ?_
 rintro e w3 ⟨rfl, hT3, C3⟩
 have HT3 : Hid (w3.heap[w1.heap.size]? = some (.cells #[.int .i64 0, .bool false, .int .u64 0, .bool false, .int .u64 5, .slice none 0 0, .int .u64 0] 39 (0, 0))) := (C3.block _ (lt_of HT2.out) (by have := HZ2.out; have := HZ0.out; omega)).trans HT2.out
 have A3 : w3.heap[W.heap.size + 1]? = some (.cells #[.int .i64 0, .bool false, .int .u64 0, .bool false, .int .u64 0, .slice none 0 0, .int .u64 0] 39 (0, 0)) := (C3.block _ (lt_of HA2.out) (by omega)).trans HA2.out
 have HTT := keepH hT3
 have HKC := keepH C3
 have HC3 : Hid (Chg (fun k => k = G) W w3) := HC2.out.trans C3 (fun _ _ x => x.elim) (fun _ _ x => x)
 clear hT3 C3 c0 c1 c2 c3 c4 c5 c6 c7 c8 c9 c10 t0 t1 t2 t3 t4 t5 t6
 obtain ⟨w4, hw4⟩ : ∃ w4, w4 = w3.setCells (W.heap.size + 1) 0 (#[.int .i64 0, .bool false, .int .u64 0, .bool false, .int .u64 5, .slice none 0 0, .int .u64 0] : Array Value).toList := ⟨_, rfl⟩
 have A4 : w4.heap[W.heap.size + 1]? = some (.cells #[.int .i64 0, .bool false, .int .u64 0, .bool false, .int .u64 5, .slice none 0 0, .int .u64 0] 39 (0, 0)) := by
  rw [hw4]
  exact setCells_of 39 (W.heap.size + 1) (#[.int .i64 0, .bool false, .int .u64 0, .bool false, .int .u64 5, .slice none 0 0, .int .u64 0] : Array Value).toList [] (#[.int .i64 0, .bool false, .int .u64 0, .bool false, .int .u64 0, .slice none 0 0, .int .u64 0] : Array Value).toList [] w3 A3 rfl
 have HK4 : Hid (Chg (fun k => k = W.heap.size + 1) w3 w4) := by rw [hw4]; exact setCells_chg (W.heap.size + 1) _ 0 _
 have HTH : Hid (w3.there (W.heap.size + 1) 0 7) := fun j hj => ⟨by rw [cell_of A3]; match j, hj with | 0, _ => rfl | 1, _ => rfl | 2, _ => rfl | 3, _ => rfl | 4, _ => rfl | 5, _ => rfl | 6, _ => rfl, free_of A3 _⟩
 have HW := keepH hw4
 have q0 : w4.cell? ⟨W.heap.size + 1, 0, none⟩ = some (.int .i64 0) := cell_of A4 0
 have q1 : w4.cell? ⟨W.heap.size + 1, 1, none⟩ = some (.bool false) := cell_of A4 1
 have q2 : w4.cell? ⟨W.heap.size + 1, 2, none⟩ = some (.int .u64 0) := cell_of A4 2
 have q3 : w4.cell? ⟨W.heap.size + 1, 3, none⟩ = some (.bool false) := cell_of A4 3
 have q4 : w4.cell? ⟨W.heap.size + 1, 4, none⟩ = some (.int .u64 5) := cell_of A4 4
 have q5 : w4.cell? ⟨W.heap.size + 1, 5, none⟩ = some (.slice none 0 0) := cell_of A4 5
 have q6 : w4.cell? ⟨W.heap.size + 1, 6, none⟩ = some (.int .u64 0) := cell_of A4 6
 have t0 : w3.cell? ⟨w1.heap.size, 0, none⟩ = some (.int .i64 0) := cell_of HT3.out 0
 have t1 : w3.cell? ⟨w1.heap.size, 1, none⟩ = some (.bool false) := cell_of HT3.out 1
 have t2 : w3.cell? ⟨w1.heap.size, 2, none⟩ = some (.int .u64 0) := cell_of HT3.out 2
 have t3 : w3.cell? ⟨w1.heap.size, 3, none⟩ = some (.bool false) := cell_of HT3.out 3
 have t4 : w3.cell? ⟨w1.heap.size, 4, none⟩ = some (.int .u64 5) := cell_of HT3.out 4
 have t5 : w3.cell? ⟨w1.heap.size, 5, none⟩ = some (.slice none 0 0) := cell_of HT3.out 5
 have t6 : w3.cell? ⟨w1.heap.size, 6, none⟩ = some (.int .u64 0) := cell_of HT3.out 6
 clear hw4 A3 A4
 go_wp2_with (refine wpList_store_mid rfl 39 (.tmp 6) (.tmp 19) rfl (W.heap.size + 1) 0 #[.int .i64 0, .bool false, .int .u64 0, .bool false, .int .u64 5, .slice none 0 0, .int .u64 0] rfl rfl HTH.out (by kernel_rfl) (by kernel_rfl) ?_; rw [← HW.out]; clear HW HTH)
 (try go_wp2_with fail)
 refine bodyPost_ret (v := .agg #[.int .i64 0, .bool false, .int .u64 0, .bool false, .int .u64 5, .slice none 0 0, .int .u64 0]) (by simp [results, Tryz.results17, go_sem, q0, q1, q2, q3, q4, q5, q6]) rfl ⟨rfl, w2, w3, HC2.out, lt_of HA2.out, HTT.out, HKC.out, HK4.out⟩
end Go.Proofs.YtahgaghokpicgaaGreat
namespace Go.Proofs.YtahgaghokpicgaaGreat
open Go.RowKit Go.Maps
set_option linter.unusedVariables false
set_option maxHeartbeats 16000000
theorem cells_new (w : World) (g : Nat) (hg : w.heap.size = g) (cs : Array Value) (t : TypeId) : ∀ j u, cs.toList[j]? = some u → (w.alloc (.cells cs t)).cell? ((⟨g, 0, none⟩ : Addr).add j) = some u := by
 intro j u h
 subst hg
 have e : (⟨w.heap.size, 0, none⟩ : Addr).add j = ⟨w.heap.size, j, none⟩ := by unfold Addr.add; split <;> simp_all
 rw [e]
 have hh : (w.alloc (.cells cs t)).heap[w.heap.size]? = some (.cells cs t (0, 0)) := heap_alloc_new _ _
 rw [cell_of hh j]
 simpa using h
theorem infoPair : (Tryz.prog.info? 86).map (fun i => (i.zero, i.size, i.bytes)) = some (some (.agg #[.int .u64 0, .int .u64 0]), 2, 16) := by kernel_rfl
set_option maxRecDepth 100000 in
theorem len64_one (W : World) : Calls Tryz.prog 114 #[.int .u64 1] W fun e W' => (∃ k : Int, e = .returned (.int .i64 k)) ∧ W' = W := by
 go_enter Tryz.func114, Tryz.ntmps114
 go_wp2_with fail
 go_ret
 exact ⟨⟨_, rfl⟩, rfl⟩
set_option maxRecDepth 100000 in
theorem len_one (W : World) : Calls Tryz.prog 101 #[.int .u64 1] W fun e W' => (∃ k : Int, e = .returned (.int .i64 k)) ∧ W' = W := by
 go_enter Tryz.func101, Tryz.ntmps101
 go_wp2_with fail
 refine (len64_one _).mono ?_
 rintro e w1 ⟨⟨k, rfl⟩, rfl⟩
 go_wp2_with fail
 go_ret
 exact ⟨⟨k, by simp⟩, rfl⟩
set_option maxRecDepth 100000 in
theorem ins_one (p : Option Addr) (c : Nat) (f : Value) (W : World) : Calls Tryz.prog 115 #[.slice p 1 c, .int .i64 0, .int .i64 1, f] W fun e W' => e = .returned (.tuple #[]) ∧ W' = W := by
 go_enter Tryz.func115, Tryz.ntmps115
 go_wp2_with fail
 refine wp_loop_rounds 1 ?_
 rw [rounds_succ]
 go_wp2_with fail
 go_end0
 exact ⟨rfl, rfl⟩
set_option maxRecDepth 100000 in
theorem pdq_one (p : Option Addr) (c : Nat) (k : Int) (f : Value) (W : World) : Calls Tryz.prog 102 #[.slice p 1 c, .int .i64 0, .int .i64 1, .int .i64 k, f] W fun e W' => e = .returned (.tuple #[]) ∧ W' = W := by
 go_enter Tryz.func102, Tryz.ntmps102
 go_wp2_with fail
 refine wp_loop_rounds 1 ?_
 rw [rounds_succ]
 go_wp2_with fail
 refine (ins_one p c f _).mono ?_
 rintro e w1 ⟨rfl, rfl⟩
 go_wp2_with fail
 (try simp only [Exit.inBlock, Exit.then])
 refine bodyPost_ret (results_none rfl _ _ _) rfl ?_
 exact ⟨rfl, rfl⟩
set_option maxRecDepth 100000 in
theorem sort_one (p : Option Addr) (c : Nat) (f : Value) (W : World) : Calls Tryz.prog 97 #[.slice p 1 c, f] W fun e W' => e = .returned (.tuple #[]) ∧ W' = W := by
 go_enter Tryz.func97, Tryz.ntmps97
 go_wp2_with fail
 refine (len_one _).mono ?_
 rintro e w1 ⟨⟨k, rfl⟩, rfl⟩
 go_wp2_with fail
 refine (pdq_one p c k f _).mono ?_
 rintro e w1 ⟨rfl, rfl⟩
 go_wp2_with fail
 go_end0
 exact ⟨rfl, rfl⟩
set_option maxRecDepth 100000 in
theorem between_one {W : World} {b : Nat} (hB : W.heap[b]? = some (.map #[⟨.int .u64 7, .int .u64 1, 0⟩] 1)) :
    Calls Tryz.prog 89 #[.map (some b), .int .u64 0, .int .u64 18446744073709551615] W fun e W' => ∃ g c, e = .returned (.slice (some ⟨g, 0, none⟩) 1 c) ∧ W.heap.size ≤ g ∧ W'.cell? ⟨g, 0, none⟩ = some (.int .u64 7) ∧ W'.cell? ⟨g, 1, none⟩ = some (.int .u64 1) ∧ Chg (fun _ => False) W W' := by
 obtain ⟨i0, hi, hz0, hz1, hz2⟩ := info_parts infoPair
 have hown := own7 hB
 have hbl := (Array.getElem?_eq_some_iff.1 hB).1
 clear hB
 go_enter Tryz.func89, Tryz.ntmps89
 go_wp2_with (first | (at_range; refine wpList_range_own _ rfl _ 97 rfl 30 30 K64 Tryz.underlying97 _ b 1 _ rfl hown ?_; intro w1 hrg1 hg1 hs1))
 refine wp_loop_rounds 2 ?_
 rw [rounds_succ]
 go_wp2_with (first | (at_next; refine wpList_next_ranges_ii _ rfl _ rfl 30 30 .u64 .u64 K64 Tryz.underlying30 Tryz.underlying30 b W.heap.size 1 _ _ _ rfl hrg1 ?_ ?_))
 ·intro h0 _
  rw [d7_size] at h0
  omega
 ·intro x c w2 cnt2 hwx hwc hlx hat hrg2 hlt hg2 hs2 hen
  obtain rfl := d7_has x hlx
  obtain rfl := d7_at c hat
  rw [d7_size] at hlt
  have HG1 := keepH hg1
  have HG2 := keepH hg2
  have HR2 := keepH hrg2
  have HS : Hid (w2.heap.size = W.heap.size + 1 ∧ cnt2 < 1 ∧ b < W.heap.size) := by show _ ∧ _ ∧ _; omega
  clear hwx hwc hlx hat hg1 hg2 hrg1 hrg2 hown hs1 hs2 hlt hbl
  go_wp2_with (first | (at_builtin; go_loud (refine wpList_append_own_at _ rfl _ _ 37 rfl 0 86 i0 (.agg #[.int .u64 0, .int .u64 0]) 2 16 Tryz.underlying37 hi hz0 hz1 hz2 rfl (by decide) (.slice none 0 0) 0 [] rfl ⟨rfl, .inl ⟨rfl, rfl⟩⟩ ⟨w2.heap.size, 0, none⟩ 1 1 [.int .u64 7, .int .u64 1] rfl rfl (cells_new w2 _ rfl _ _) (by intro u hu; simp at hu; rcases hu with rfl | rfl <;> rfl) (by unfold maxLen; omega) (by omega) (Nat.zero_le _) ?_); intro v' w3 r1 r2 r3 r4; have R1 := keepH r1; have R2 := keepH r2; have R4 := keepH r4; clear r1 r2 r3 r4))
  have r1 := R1.out
  have r4 := R4.out
  obtain ⟨_, ⟨_, h⟩ | ⟨g, cap, cur, rfl, _, hg, _, _, _, ht⟩⟩ := r1
  ·simp at h
  have hgs : g = w2.heap.size + 1 := by
   rcases r4 with h | h
   ·simp [Value.ownBlock] at h
   ·simpa [Value.ownBlock] using h
  have e0 : cur[0]? = some (.int .u64 7) := by
   have q : (cur.toList.take 2)[0]? = some (.int .u64 7) := by
    have ht' : cur.toList.take 2 = [.int .u64 7, .int .u64 1] := ht
    rw [ht']
    rfl
   rw [List.getElem?_take_of_lt (by omega)] at q
   simpa using q
  have e1 : cur[1]? = some (.int .u64 1) := by
   have q : (cur.toList.take 2)[1]? = some (.int .u64 1) := by
    have ht' : cur.toList.take 2 = [.int .u64 7, .int .u64 1] := ht
    rw [ht']
    rfl
   rw [List.getElem?_take_of_lt (by omega)] at q
   simpa using q
  have HQ : Hid (w3.cell? ⟨g, 0, none⟩ = some (.int .u64 7) ∧ w3.cell? ⟨g, 1, none⟩ = some (.int .u64 1)) := ⟨(cell_of hg 0).trans e0, (cell_of hg 1).trans e1⟩
  have hrg3 := (HR2.out.alloc (.cells #[.int .u64 7, .int .u64 1] 86)).kept R2.out (by simp [Value.ownBlock]) (by simp [Value.ownBlock])
  have HCH : Hid (Chg (fun _ => False) W w3) := by
   have c1 : Chg (fun k => k = W.heap.size) W w1 := grown_chg HG1.out (fun k e => by simp at e)
   have c2 : Chg (fun k => k = W.heap.size) w1 w2 := grown_chg HG2.out (fun k e => by simpa using e.symm)
   have c3 : Chg (fun k => k = W.heap.size) (w2.alloc (.cells #[.int .u64 7, .int .u64 1] 86)) w3 := grown_chg R2.out (fun k e => by simp [Value.ownBlock] at e)
   exact (((c1.trans c2 (H := fun k => k = W.heap.size) (fun _ _ x => x) (fun _ _ x => x)).alloc _).trans c3 (H := fun k => k = W.heap.size) (fun _ _ x => x) (fun _ _ x => x)).mono (fun i hi e => by omega)
  have HGS : Hid (W.heap.size ≤ g) := by have := HS.out; show _ ≤ _; omega
  clear r4 hg ht hgs e0 e1 R1 R2 R4 HR2 HG1 HG2
  rw [rounds_succ]
  go_wp2_with (first | (at_next; refine wpList_next_ranges_ii _ rfl _ rfl 30 30 .u64 .u64 K64 Tryz.underlying30 Tryz.underlying30 b W.heap.size 1 _ _ _ rfl hrg3 ?_ ?_))
  ·intro h0 _
   go_wp2_with fail
   refine (sort_one _ _ _ _).mono ?_
   rintro e w4 ⟨rfl, rfl⟩
   go_wp2_with fail
   go_ret
   exact ⟨g, cap, by simp, HGS.out, HQ.out.1, HQ.out.2, HCH.out⟩
  ·intro x' c' w4 cnt4 _ _ _ _ _ hlt4 _ _ _
   have := HS.out
   omega
set_option maxRecDepth 100000 in
theorem all_one {W : World} {b : Nat} (hB : W.heap[b]? = some (.map #[⟨.int .u64 7, .int .u64 1, 0⟩] 1)) :
    Calls Tryz.prog 53 #[.map (some b)] W fun e W' => ∃ g c, e = .returned (.slice (some ⟨g, 0, none⟩) 1 c) ∧ W.heap.size ≤ g ∧ W'.cell? ⟨g, 0, none⟩ = some (.int .u64 7) ∧ W'.cell? ⟨g, 1, none⟩ = some (.int .u64 1) ∧ Chg (fun _ => False) W W' := by
 have HB := keepH (between_one hB)
 clear hB
 go_enter Tryz.func53, Tryz.ntmps53
 go_wp2_with fail
 refine HB.out.mono ?_
 rintro e w1 ⟨g, c, rfl, h1, h2, h3, h4⟩
 have HZ : Hid (W.heap.size ≤ g ∧ w1.cell? ⟨g, 0, none⟩ = some (.int .u64 7) ∧ w1.cell? ⟨g, 1, none⟩ = some (.int .u64 1) ∧ Chg (fun _ => False) W w1) := ⟨h1, h2, h3, h4⟩
 clear h1 h2 h3 h4
 go_wp2_with fail
 go_ret
 exact ⟨g, c, by simp, HZ.out⟩
set_option maxRecDepth 100000 in
theorem held_5 {W : World} {m n h cl : Nat} (hm : IsModel W m n h) (hH : W.heap[h]? = some (.map #[⟨.int .u64 5, .map (some cl), 0⟩] 1)) (hB : W.heap[cl]? = some (.map #[⟨.int .u64 7, .int .u64 1, 0⟩] 1)) :
    Calls Tryz.prog 22 #[.pointer (some ⟨m, 0, none⟩), .int .u64 5] W fun e W' => ∃ g c, e = .returned (.tuple #[.slice (some ⟨g, 0, none⟩) 1 c, .bool true]) ∧ W'.cell? ⟨g, 0, none⟩ = some (.int .u64 7) ∧ W'.cell? ⟨g, 1, none⟩ = some (.int .u64 1) ∧ Chg (fun _ => False) W W' := by
 have HH := keepH (holds_any (v := .bool false) hm true (.map (some cl)) (held_1 hH))
 have HA := keepH (all_one hB)
 have hl2 := held_2 hH
 have c2 : W.cell? ⟨m, 2, none⟩ = some (.map (some h)) := cell_of hm 2
 clear hm hH hB
 go_enter Tryz.func22, Tryz.ntmps22
 go_wp2_with fail
 refine HH.out.mono ?_
 rintro e w1 ⟨rfl, rfl⟩
 go_wp2_with fail
 refine HA.out.mono ?_
 rintro e w2 ⟨g, c, rfl, h1, h2, h3, h4⟩
 have HZ : Hid (w2.cell? ⟨g, 0, none⟩ = some (.int .u64 7) ∧ w2.cell? ⟨g, 1, none⟩ = some (.int .u64 1) ∧ Chg (fun _ => False) w1 w2) := ⟨h2, h3, h4⟩
 clear h1 h2 h3 h4
 go_wp2_with fail
 go_ret2
 exact ⟨g, c, by simp, HZ.out⟩
end Go.Proofs.YtahgaghokpicgaaGreat
namespace Go.Proofs.YtahgaghokpicgaaGreat
open Go.RowKit
set_option linter.unusedVariables false
set_option maxHeartbeats 16000000
set_option maxRecDepth 100000 in
theorem may_fail (W : World) : Calls Tryz.prog 41 #[.int .u8 1, .int .i64 0, .int .i64 0] W fun e W' => e = .returned (.bool false) ∧ W' = W := by
 go_enter Tryz.func41, Tryz.ntmps41
 go_wp2_with fail
 go_ret
 exact ⟨by simp, rfl⟩
set_option maxRecDepth 100000 in
theorem take_get {W : World} {m n h c : Nat} (hm : IsModel W m n h) (hN : W.heap[n]? = some (.map #[⟨.int .u64 7, .int .u64 2, 0⟩] c)) :
    Calls Tryz.prog 13 #[.pointer (some ⟨m, 0, none⟩), .agg #[.int .u8 1, .int .u64 (7 : Int), .int .u64 (0 : Int), .int .u64 0, .int .u64 0, .bool false, .int .i64 0, .int .i64 0, .slice none 0 0, .int .u64 0, .int .u64 0], .agg #[.int .i64 0, .bool false, .int .u64 0, .bool false, .int .u64 0, .slice none 0 0, .int .u64 0]] W fun e W' => e = .returned (.bool false) ∧ Chg (fun _ => False) W W' := by
 obtain ⟨w0, hw0⟩ : ∃ w0, w0 = (W.alloc (.cells #[.int .u8 1, .int .u64 (7 : Int), .int .u64 (0 : Int), .int .u64 0, .int .u64 0, .bool false, .int .i64 0, .int .i64 0, .slice none 0 0, .int .u64 0, .int .u64 0] 35)).alloc (.cells #[.int .i64 0, .bool false, .int .u64 0, .bool false, .int .u64 0, .slice none 0 0, .int .u64 0] 39) := ⟨_, rfl⟩
 have C0 : Chg (fun _ => False) W w0 := by rw [hw0]; exact ((Chg.refl _ _).alloc _).alloc _
 have o0 : w0.heap[W.heap.size]? = some (.cells #[.int .u8 1, .int .u64 (7 : Int), .int .u64 (0 : Int), .int .u64 0, .int .u64 0, .bool false, .int .i64 0, .int .i64 0, .slice none 0 0, .int .u64 0, .int .u64 0] 35 (0, 0)) := by rw [hw0]; exact alloc_of (heap_alloc_new _ _) _
 have a0 : w0.heap[W.heap.size + 1]? = some (.cells #[.int .i64 0, .bool false, .int .u64 0, .bool false, .int .u64 0, .slice none 0 0, .int .u64 0] 39 (0, 0)) := by
  rw [hw0]
  exact al2
 have hnl := (Array.getElem?_eq_some_iff.1 hN).1
 have m0 := hm.chg C0 (fun x => x)
 have n0 : w0.heap[n]? = some (.map #[⟨.int .u64 7, .int .u64 2, 0⟩] c) := (C0.block n hnl (fun x => x)).trans hN
 have HT := keepH (tells_1 0 m0 2 true (fun w cw => now_1 (x := 2) ((cw.block n (Array.getElem?_eq_some_iff.1 n0).1 (fun x => x)).trans n0)))
 have HC0 := keepH C0
 have HO0 := keepH o0
 have HA0 := keepH a0
 have c0 : w0.cell? ⟨W.heap.size, 0, none⟩ = some (.int .u8 1) := cell_of o0 0
 have c1 : w0.cell? ⟨W.heap.size, 1, none⟩ = some (.int .u64 7) := cell_of o0 1
 have c2 : w0.cell? ⟨W.heap.size, 2, none⟩ = some (.int .u64 0) := cell_of o0 2
 have c3 : w0.cell? ⟨W.heap.size, 3, none⟩ = some (.int .u64 0) := cell_of o0 3
 have c4 : w0.cell? ⟨W.heap.size, 4, none⟩ = some (.int .u64 0) := cell_of o0 4
 have c5 : w0.cell? ⟨W.heap.size, 5, none⟩ = some (.bool false) := cell_of o0 5
 have c6 : w0.cell? ⟨W.heap.size, 6, none⟩ = some (.int .i64 0) := cell_of o0 6
 have c7 : w0.cell? ⟨W.heap.size, 7, none⟩ = some (.int .i64 0) := cell_of o0 7
 have c8 : w0.cell? ⟨W.heap.size, 8, none⟩ = some (.slice none 0 0) := cell_of o0 8
 have c9 : w0.cell? ⟨W.heap.size, 9, none⟩ = some (.int .u64 0) := cell_of o0 9
 have c10 : w0.cell? ⟨W.heap.size, 10, none⟩ = some (.int .u64 0) := cell_of o0 10
 have d4 : w0.cell? ⟨W.heap.size + 1, 4, none⟩ = some (.int .u64 0) := cell_of a0 4
 clear hm hN C0 o0 a0 m0 n0 hnl
 go_enter Tryz.func13, Tryz.ntmps13
 go_upto_region 1 with fail
 rw [← hw0]
 clear hw0
 go_wp2_with fail
 refine HT.out.mono ?_
 rintro e w1 ⟨rfl, C1⟩
 obtain ⟨w2, hw2⟩ : ∃ w2, w2 = w1.alloc (.cells #[.int .i64 0, .bool true, .int .u64 2, .bool false, .int .u64 0, .slice none 0 0, .int .u64 0] 39) := ⟨_, rfl⟩
 have C2 : Chg (fun _ => False) w0 w2 := by rw [hw2]; exact C1.alloc _
 have HT2 : Hid (w2.heap[w1.heap.size]? = some (.cells #[.int .i64 0, .bool true, .int .u64 2, .bool false, .int .u64 0, .slice none 0 0, .int .u64 0] 39 (0, 0))) := by rw [hw2]; exact heap_alloc_new _ _
 have HO2 : Hid (w2.heap[W.heap.size]? = some (.cells #[.int .u8 1, .int .u64 (7 : Int), .int .u64 (0 : Int), .int .u64 0, .int .u64 0, .bool false, .int .i64 0, .int .i64 0, .slice none 0 0, .int .u64 0, .int .u64 0] 35 (0, 0))) := (C2.block _ (lt_of HO0.out) (fun x => x)).trans HO0.out
 have HA2 : Hid (w2.heap[W.heap.size + 1]? = some (.cells #[.int .i64 0, .bool false, .int .u64 0, .bool false, .int .u64 0, .slice none 0 0, .int .u64 0] 39 (0, 0))) := (C2.block _ (lt_of HA0.out) (fun x => x)).trans HA0.out
 have HC2 : Hid (Chg (fun _ => False) W w2) := HC0.out.trans C2 (fun _ _ x => x) (fun _ _ x => x)
 clear C1 C2 c0 c1 c2 c3 c4 c5 c6 c7 c8 c9 c10 d4
 go_upto_region 4 with fail
 rw [← hw2]
 clear hw2
 have c0 : w2.cell? ⟨W.heap.size, 0, none⟩ = some (.int .u8 1) := cell_of HO2.out 0
 have a0 : w2.cell? ⟨W.heap.size + 1, 0, none⟩ = some (.int .i64 0) := cell_of HA2.out 0
 have t0 : w2.cell? ⟨w1.heap.size, 0, none⟩ = some (.int .i64 0) := cell_of HT2.out 0
 have a1 : w2.cell? ⟨W.heap.size + 1, 1, none⟩ = some (.bool false) := cell_of HA2.out 1
 have t1 : w2.cell? ⟨w1.heap.size, 1, none⟩ = some (.bool true) := cell_of HT2.out 1
 have a2 : w2.cell? ⟨W.heap.size + 1, 2, none⟩ = some (.int .u64 0) := cell_of HA2.out 2
 have t2 : w2.cell? ⟨w1.heap.size, 2, none⟩ = some (.int .u64 2) := cell_of HT2.out 2
 have a3 : w2.cell? ⟨W.heap.size + 1, 3, none⟩ = some (.bool false) := cell_of HA2.out 3
 have t3 : w2.cell? ⟨w1.heap.size, 3, none⟩ = some (.bool false) := cell_of HT2.out 3
 have a4 : w2.cell? ⟨W.heap.size + 1, 4, none⟩ = some (.int .u64 0) := cell_of HA2.out 4
 have t4 : w2.cell? ⟨w1.heap.size, 4, none⟩ = some (.int .u64 0) := cell_of HT2.out 4
 have a5 : w2.cell? ⟨W.heap.size + 1, 5, none⟩ = some (.slice none 0 0) := cell_of HA2.out 5
 have t5 : w2.cell? ⟨w1.heap.size, 5, none⟩ = some (.slice none 0 0) := cell_of HT2.out 5
 have a6 : w2.cell? ⟨W.heap.size + 1, 6, none⟩ = some (.int .u64 0) := cell_of HA2.out 6
 have t6 : w2.cell? ⟨w1.heap.size, 6, none⟩ = some (.int .u64 0) := cell_of HT2.out 6
 go_wp2_with fail
 refine (may_fail _).mono ?_
 rintro e z ⟨rfl, rfl⟩
 go_wp2_with fail
 refine (m_same 0 0 false true false false 0 2 0 0 0 0 none none 0 0 [] [] _ (.inl rfl) (.inl rfl) (by simp) (by simp)).mono ?_
 rintro e w3 ⟨rfl, C3⟩
 rw [show decide ((⟨0, false, 0, false, 0, [], 0⟩ : Ans) = ⟨0, true, 2, false, 0, [], 0⟩) = false by decide]
 have HC3 : Hid (Chg (fun _ => False) W w3) := HC2.out.trans C3 (fun _ _ x => x) (fun _ _ x => x)
 clear C3
 go_wp2_with fail
 go_ret
 exact ⟨by simp, HC3.out⟩
structure LM (W w : World) (m n h : Nat) (es : Array MapEntry) (c : Nat) (ho : Obj) : Prop where
 md : IsModel w m n h
 nn : w.heap[n]? = some (.map es c)
 hh : w.heap[h]? = some ho
 mn : m ≠ n
 mh : m ≠ h
 nh : n ≠ h
 ch : Chg (fun _ => False) W w
theorem blk_lt {w : World} {k : Nat} {o : Obj} (h : w.heap[k]? = some o) : k < w.heap.size := (Array.getElem?_eq_some_iff.1 h).1
theorem LM.chg {W w w' : World} {m n h : Nat} {es : Array MapEntry} {c : Nat} {ho : Obj} (H : LM W w m n h es c ho) (k : Chg (fun _ => False) w w') : LM W w' m n h es c ho :=
 ⟨H.md.chg k (fun x => x), (k.block n (blk_lt H.nn) (fun x => x)).trans H.nn, (k.block h (blk_lt H.hh) (fun x => x)).trans H.hh, H.mn, H.mh, H.nh, H.ch.trans k (fun _ _ x => x) (fun _ _ x => x)⟩
theorem new_lm (W : World) : Calls Tryz.prog 24 #[.int .i64 4] W fun e W' => ∃ m n h, e = .returned (.tuple #[.pointer (some ⟨m, 0, none⟩), .int .i64 0]) ∧ LM W W' m n h #[] 0 (.map #[] 0) ∧ W.heap.size ≤ n ∧ W.heap.size ≤ h := by
 refine (new_4 W).mono ?_
 rintro e W' ⟨rfl, rfl⟩
 refine ⟨W.heap.size + 2, W.heap.size, W.heap.size + 1, rfl, ⟨?_, alloc_of (alloc_of (heap_alloc_new _ _) _) _, ?_, by omega, by omega, by omega, (((Chg.refl _ _).alloc _).alloc _).alloc _⟩, by omega, by omega⟩
 ·have e := heap_alloc_new ((W.alloc (.map #[] 0)).alloc (.map #[] 0)) (.cells #[.int .i64 4, .map (some W.heap.size), .map (some (W.heap.size + 1))] 100)
  rw [World.size_alloc, World.size_alloc] at e
  exact e
 ·have e := heap_alloc_new (W.alloc (.map #[] 0)) (.map #[] 0)
  rw [World.size_alloc] at e
  exact alloc_of e _
theorem put_live (v x : Nat) (th : Bool) {W w : World} {m n h : Nat} {es es' : Array MapEntry} {c c' : Nat} {ho : Obj} (H : LM W w m n h es c ho) (hn : W.heap.size ≤ n)
    (hlk : ∀ w : World, w.heap[n]? = some (.map es c) → (Instr.lookup 97 (.map (some n)) (.int .u64 7) true).run Tryz.prog w = .ok (.tuple #[.int .u64 x, .bool th]) w)
    (hup : ∀ w : World, w.heap[n]? = some (.map es c) → (Instr.mapUpdate 97 (.map (some n)) (.int .u64 7) (.int .u64 v)).run Tryz.prog w = .ok () (ChangeMaps.setBlock w n (.map es' c'))) :
    Calls Tryz.prog 17 #[.pointer (some ⟨m, 0, none⟩), .agg #[.int .u8 2, .int .u64 (7 : Int), .int .u64 v, .int .u64 0, .int .u64 0, .bool false, .int .i64 0, .int .i64 0, .slice none 0 0, .int .u64 0, .int .u64 0], .int .u64 0] w fun e w' => e = .returned (.agg #[.int .i64 0, .bool th, .int .u64 x, .bool false, .int .u64 0, .slice none 0 0, .int .u64 0]) ∧ LM W w' m n h es' c' ho ∧ ∀ k, k < w.heap.size → k ≠ n → w'.heap[k]? = w.heap[k]? := by
 refine (Do_2 v x th (T := fun a b => b.heap[n]? = some (.map es' c')) (fun a ca => tells_2 v (H.md.chg ca (fun x => x)) x th (fun w cw => hlk w ((cw.block n (blk_lt (H.chg ca).nn) (fun x => x)).trans (H.chg ca).nn))) n (blk_lt H.nn) (fun a ca => do_put v x th (H.chg ca).md H.mn (H.chg ca).nn hup)).mono ?_
 rintro e w' ⟨rfl, a, b, ca, hs, hT, cb, cw⟩
 have ln := blk_lt H.nn
 have lh := blk_lt H.hh
 have lm := lt_of H.md
 have za := ca.size
 have zb := cb.size
 have kk : ∀ k, k < w.heap.size → k ≠ n → w'.heap[k]? = w.heap[k]? := fun k hk hne => (cw.block k (by omega) (by omega)).trans ((cb.block k (by omega) hne).trans (ca.block k hk (fun x => x)))
 refine ⟨rfl, ⟨(kk m lm H.mn).trans H.md, (cw.block n (by omega) (by omega)).trans hT, (kk h lh (Ne.symm H.nh)).trans H.hh, H.mn, H.mh, H.nh, ?_⟩, kk⟩
 have c1 : Chg (fun k => k = n ∨ k = w.heap.size + 1) w w' := (ca.trans cb (H := fun k => k = n ∨ k = w.heap.size + 1) (fun _ _ x => x.elim) (fun _ _ x => .inl x)).trans cw (fun _ _ x => x) (fun _ _ x => .inr x)
 exact H.ch.trans c1 (fun _ _ x => x) (fun i hi e => by have := H.ch.size; omega)
theorem snap_live {W w : World} {m n h : Nat} (H : LM W w m n h #[⟨.int .u64 7, .int .u64 1, 0⟩] 1 (.map #[] 0)) (hh : W.heap.size ≤ h) :
    Calls Tryz.prog 17 #[.pointer (some ⟨m, 0, none⟩), .agg #[.int .u8 5, .int .u64 (0 : Int), .int .u64 (0 : Int), .int .u64 0, .int .u64 0, .bool false, .int .i64 0, .int .i64 0, .slice none 0 0, .int .u64 0, .int .u64 0], .int .u64 5] w fun e w' => e = .returned (.agg #[.int .i64 0, .bool false, .int .u64 0, .bool false, .int .u64 5, .slice none 0 0, .int .u64 0]) ∧ ∃ cl, w.heap.size ≤ cl ∧ LM W w' m n h #[⟨.int .u64 7, .int .u64 1, 0⟩] 1 (.map #[⟨.int .u64 5, .map (some cl), 0⟩] 1) ∧ w'.heap[cl]? = some (.map #[⟨.int .u64 7, .int .u64 1, 0⟩] 1) ∧ ∀ k, k < w.heap.size → k ≠ h → w'.heap[k]? = w.heap[k]? := by
 refine (Do_5 (T := fun a b => ∃ cl, a.heap.size ≤ cl ∧ b.heap[h]? = some (.map #[⟨.int .u64 5, .map (some cl), 0⟩] 1) ∧ b.heap[cl]? = some (.map #[⟨.int .u64 7, .int .u64 1, 0⟩] 1)) (fun a ca => tells_5 0 (H.md.chg ca (fun x => x)) (fun w cw => held_0 ((cw.block h (blk_lt (H.chg ca).hh) (fun x => x)).trans (H.chg ca).hh))) h (blk_lt H.hh) (fun a ca => (do_snap (H.chg ca).md H.mh H.nh (H.chg ca).nn (H.chg ca).hh).mono ?_)).mono ?_
 ·rintro e w' ⟨rfl, cl, h1, h2, h3, h4⟩
  exact ⟨rfl, ⟨cl, h1, h2, h3⟩, h4⟩
 rintro e w' ⟨rfl, a, b, ca, hs, ⟨cl, hcl, hT1, hT2⟩, cb, cw⟩
 have ln := blk_lt H.nn
 have lh := blk_lt H.hh
 have lm := lt_of H.md
 have lc := blk_lt hT2
 have za := ca.size
 have zb := cb.size
 have kk : ∀ k, k < w.heap.size → k ≠ h → w'.heap[k]? = w.heap[k]? := fun k hk hne => (cw.block k (by omega) (by omega)).trans ((cb.block k (by omega) hne).trans (ca.block k hk (fun x => x)))
 refine ⟨rfl, cl, by omega, ⟨(kk m lm H.mh).trans H.md, (kk n ln H.nh).trans H.nn, (cw.block h (by omega) (by omega)).trans hT1, H.mn, H.mh, H.nh, ?_⟩, (cw.block cl lc (by omega)).trans hT2, kk⟩
 have c1 : Chg (fun k => k = h ∨ k = w.heap.size + 1) w w' := (ca.trans cb (H := fun k => k = h ∨ k = w.heap.size + 1) (fun _ _ x => x.elim) (fun _ _ x => .inl x)).trans cw (fun _ _ x => x) (fun _ _ x => .inr x)
 exact H.ch.trans c1 (fun _ _ x => x) (fun i hi e => by have := H.ch.size; omega)
set_option maxRecDepth 100000 in
theorem live_06 (W : World) : Calls Tryz.prog 5 #[] W fun e W' => e = .returned (.bool true) ∧ Chg (fun _ => False) W W' := by
 go_enter Tryz.func5, Tryz.ntmps5
 go_wp2_with fail
 refine (new_lm W).mono ?_
 rintro e w1 ⟨m, n, h, rfl, L1, hn, hh⟩
 have HL1 := keepH L1
 have HB : Hid (W.heap.size ≤ n ∧ W.heap.size ≤ h) := ⟨hn, hh⟩
 clear L1 hn hh
 go_wp2_with fail
 refine (put_live 1 0 false HL1.out HB.out.1 (fun w hw => now_0 hw) (fun w hw => put_0 hw 1)).mono ?_
 rintro e w2 ⟨rfl, L2, _⟩
 obtain ⟨w3, hw3⟩ : ∃ w3, w3 = w2.alloc (.cells #[.int .i64 0, .bool false, .int .u64 0, .bool false, .int .u64 0, .slice none 0 0, .int .u64 0] 39) := ⟨_, rfl⟩
 have HA : Hid (w3.heap[w2.heap.size]? = some (.cells #[.int .i64 0, .bool false, .int .u64 0, .bool false, .int .u64 0, .slice none 0 0, .int .u64 0] 39 (0, 0))) := by rw [hw3]; exact heap_alloc_new _ _
 have HL3 : Hid (LM W w3 m n h #[⟨.int .u64 7, .int .u64 1, 0⟩] 1 (.map #[] 0)) := by rw [hw3]; exact L2.chg ((Chg.refl _ _).alloc _)
 have HGA0 : Hid (w2.heap.size ≠ n ∧ w2.heap.size ≠ h) := by
  have := blk_lt L2.nn
  have := blk_lt L2.hh
  show _ ∧ _
  omega
 clear L2 HL1
 go_upto_region 5 with fail
 rw [show w2.alloc (.cells #[.int .i64 0, .bool false, .int .u64 0, .bool false, .int .u64 0, .slice none 0 0, .int .u64 0] 39) = w3 from hw3.symm]
 clear hw3
 have HGA : Hid (w2.heap.size ≠ n ∧ w2.heap.size ≠ h) := HGA0.out
 obtain ⟨ga, hga⟩ : ∃ ga, ga = w2.heap.size := ⟨_, rfl⟩
 rw [← hga] at HA HGA ⊢
 clear hga HGA0
 go_wp2_with fail
 refine (snap_live HL3.out HB.out.2).mono ?_
 rintro e w4 ⟨rfl, cl, hcl, L4, N4, K4⟩
 have HA4 : Hid (w4.heap[ga]? = some (.cells #[.int .i64 0, .bool false, .int .u64 0, .bool false, .int .u64 0, .slice none 0 0, .int .u64 0] 39 (0, 0))) := (K4 ga (lt_of HA.out) HGA.out.2).trans HA.out
 have hz4 : n ≠ w4.heap.size ∧ h ≠ w4.heap.size ∧ cl ≠ n ∧ ga < w4.heap.size := by
  have := blk_lt L4.nn
  have := blk_lt L4.hh
  have := blk_lt HL3.out.nn
  have := lt_of HA4.out
  omega
 have HZ4 := keepH hz4
 obtain ⟨w5, hw5⟩ : ∃ w5, w5 = w4.alloc (.cells #[.int .i64 0, .bool false, .int .u64 0, .bool false, .int .u64 5, .slice none 0 0, .int .u64 0] 39) := ⟨_, rfl⟩
 have HBB : Hid (w5.heap[w4.heap.size]? = some (.cells #[.int .i64 0, .bool false, .int .u64 0, .bool false, .int .u64 5, .slice none 0 0, .int .u64 0] 39 (0, 0))) := by rw [hw5]; exact heap_alloc_new _ _
 have HL5 : Hid (LM W w5 m n h #[⟨.int .u64 7, .int .u64 1, 0⟩] 1 (.map #[⟨.int .u64 5, .map (some cl), 0⟩] 1)) := by rw [hw5]; exact L4.chg ((Chg.refl _ _).alloc _)
 have HN5 : Hid (w5.heap[cl]? = some (.map #[⟨.int .u64 7, .int .u64 1, 0⟩] 1)) := by rw [hw5]; exact alloc_of N4 _
 have HA5 : Hid (w5.heap[ga]? = some (.cells #[.int .i64 0, .bool false, .int .u64 0, .bool false, .int .u64 0, .slice none 0 0, .int .u64 0] 39 (0, 0))) := by rw [hw5]; exact alloc_of HA4.out _
 clear hz4 L4 N4 K4 hcl HA4 HA HL3
 go_upto_region 6 with fail
 rw [show w4.alloc (.cells #[.int .i64 0, .bool false, .int .u64 0, .bool false, .int .u64 5, .slice none 0 0, .int .u64 0] 39) = w5 from hw5.symm]
 clear hw5
 obtain ⟨gb, hgb⟩ : ∃ gb, gb = w4.heap.size := ⟨_, rfl⟩
 rw [← hgb] at HBB HZ4 ⊢
 clear hgb
 go_wp2_with fail
 refine (put_live 2 1 true HL5.out HB.out.1 (fun w hw => now_1 (x := 1) hw) (fun w hw => put_1 hw 2)).mono ?_
 rintro e w6 ⟨rfl, L6, K6⟩
 have HA6 : Hid (w6.heap[ga]? = some (.cells #[.int .i64 0, .bool false, .int .u64 0, .bool false, .int .u64 0, .slice none 0 0, .int .u64 0] 39 (0, 0))) := (K6 ga (lt_of HA5.out) HGA.out.1).trans HA5.out
 have HB6 : Hid (w6.heap[gb]? = some (.cells #[.int .i64 0, .bool false, .int .u64 0, .bool false, .int .u64 5, .slice none 0 0, .int .u64 0] 39 (0, 0))) := (K6 gb (lt_of HBB.out) (by have := HZ4.out; omega)).trans HBB.out
 have HN6 : Hid (w6.heap[cl]? = some (.map #[⟨.int .u64 7, .int .u64 1, 0⟩] 1)) := (K6 cl (blk_lt HN5.out) HZ4.out.2.2.1).trans HN5.out
 obtain ⟨w7, hw7⟩ : ∃ w7, w7 = w6.alloc (.cells #[.int .i64 0, .bool true, .int .u64 1, .bool false, .int .u64 0, .slice none 0 0, .int .u64 0] 39) := ⟨_, rfl⟩
 have HG7 : Hid (w7.heap[w6.heap.size]? = some (.cells #[.int .i64 0, .bool true, .int .u64 1, .bool false, .int .u64 0, .slice none 0 0, .int .u64 0] 39 (0, 0))) := by rw [hw7]; exact heap_alloc_new _ _
 have HL7 : Hid (LM W w7 m n h #[⟨.int .u64 7, .int .u64 2, 0⟩] 1 (.map #[⟨.int .u64 5, .map (some cl), 0⟩] 1)) := by rw [hw7]; exact L6.chg ((Chg.refl _ _).alloc _)
 have HN7 : Hid (w7.heap[cl]? = some (.map #[⟨.int .u64 7, .int .u64 1, 0⟩] 1)) := by rw [hw7]; exact alloc_of HN6.out _
 have HA7 : Hid (w7.heap[ga]? = some (.cells #[.int .i64 0, .bool false, .int .u64 0, .bool false, .int .u64 0, .slice none 0 0, .int .u64 0] 39 (0, 0))) := by rw [hw7]; exact alloc_of HA6.out _
 have HB7 : Hid (w7.heap[gb]? = some (.cells #[.int .i64 0, .bool false, .int .u64 0, .bool false, .int .u64 5, .slice none 0 0, .int .u64 0] 39 (0, 0))) := by rw [hw7]; exact alloc_of HB6.out _
 clear L6 K6 HA6 HB6 HN6 HA5 HBB HN5 HL5
 go_upto_region 7 with fail
 rw [show w6.alloc (.cells #[.int .i64 0, .bool true, .int .u64 1, .bool false, .int .u64 0, .slice none 0 0, .int .u64 0] 39) = w7 from hw7.symm]
 clear hw7
 obtain ⟨gc, hgc⟩ : ∃ gc, gc = w6.heap.size := ⟨_, rfl⟩
 rw [← hgc] at HG7 ⊢
 clear hgc
 go_wp2_with fail
 refine (held_5 HL7.out.md HL7.out.hh HN7.out).mono ?_
 rintro e w8 ⟨g, c, rfl, g0, g1, C8⟩
 have HL8 := keepH (HL7.out.chg C8)
 have a1 : w8.cell? ⟨ga, 1, none⟩ = some (.bool false) := cell_of ((C8.block _ (lt_of HA7.out) (fun x => x)).trans HA7.out) 1
 have b4 : w8.cell? ⟨gb, 4, none⟩ = some (.int .u64 5) := cell_of ((C8.block _ (lt_of HB7.out) (fun x => x)).trans HB7.out) 4
 have c1 : w8.cell? ⟨gc, 1, none⟩ = some (.bool true) := cell_of ((C8.block _ (lt_of HG7.out) (fun x => x)).trans HG7.out) 1
 have c2 : w8.cell? ⟨gc, 2, none⟩ = some (.int .u64 1) := cell_of ((C8.block _ (lt_of HG7.out) (fun x => x)).trans HG7.out) 2
 clear C8 HA7 HB7 HG7 HL7 HN7 g0
 have HTK := keepH (take_get HL8.out.md HL8.out.nn)
 go_wp2_with fail
 refine HTK.out.mono ?_
 rintro e w9 ⟨rfl, C9⟩
 have HC9 : Hid (Chg (fun _ => False) W w9) := HL8.out.ch.trans C9 (fun _ _ x => x) (fun _ _ x => x)
 clear C9
 go_wp2_with fail
 go_ret
 exact ⟨by simp, HC9.out⟩
end Go.Proofs.YtahgaghokpicgaaGreat
