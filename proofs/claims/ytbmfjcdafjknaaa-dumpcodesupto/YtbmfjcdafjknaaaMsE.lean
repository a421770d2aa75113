/- The model's do and Do, of the operations that are asked for. -/
import Derived.Test.YtbmfjcdafjknaaaMsD
import Derived.Test.YtbmfjcdafjknaaaMsC
namespace Go.Proofs.Ytbmfjcdafjknaaa
open Go.RowKit
set_option linter.unusedVariables false

set_option maxRecDepth 100000 in
set_option maxHeartbeats 4000000 in
theorem Do_2 (v x : Nat) (th : Bool) {W : World} {m : Nat} (T : World → World → Prop)
    (hT : ∀ w, Chg (fun _ => False) W w → Calls Try.prog 57 #[.pointer (some ⟨m, 0, none⟩), .agg #[.int .u8 2, .int .u64 (7 : Int), .int .u64 (v : Int), .int .u64 0, .int .u64 0, .bool false, .int .i64 0, .int .i64 0, .slice none 0 0, .int .u64 0, .int .u64 0], .int .u64 0] w fun e W' => e = .returned (.agg #[.int .i64 0, .bool th, .int .u64 (x : Int), .bool false, .int .u64 0, .slice none 0 0, .int .u64 0]) ∧ Chg (fun _ => False) w W')
    (G : Nat) (hG : G < W.heap.size) (hD : ∀ w, Chg (fun _ => False) W w → Calls Try.prog 58 #[.pointer (some ⟨m, 0, none⟩), .agg #[.int .u8 2, .int .u64 (7 : Int), .int .u64 (v : Int), .int .u64 0, .int .u64 0, .bool false, .int .i64 0, .int .i64 0, .slice none 0 0, .int .u64 0, .int .u64 0], .agg #[.int .i64 0, .bool th, .int .u64 (x : Int), .bool false, .int .u64 0, .slice none 0 0, .int .u64 0]] w fun e W' => e = .returned (.tuple #[]) ∧ T w W' ∧ Chg (fun k => k = G) w W') :
    Calls Try.prog 33 #[.pointer (some ⟨m, 0, none⟩), .agg #[.int .u8 2, .int .u64 (7 : Int), .int .u64 (v : Int), .int .u64 0, .int .u64 0, .bool false, .int .i64 0, .int .i64 0, .slice none 0 0, .int .u64 0, .int .u64 0], .int .u64 0] W fun e W' => e = .returned (.agg #[.int .i64 0, .bool th, .int .u64 (x : Int), .bool false, .int .u64 0, .slice none 0 0, .int .u64 0]) ∧ ∃ w w', Chg (fun _ => False) W w ∧ W.heap.size + 1 < w.heap.size ∧ T w w' ∧ Chg (fun k => k = G) w w' ∧ Chg (fun k => k = W.heap.size + 1) w' W' := by
  obtain ⟨w0, hw0⟩ : ∃ w0, w0 = (W.alloc (.cells #[.int .u8 2, .int .u64 (7 : Int), .int .u64 (v : Int), .int .u64 0, .int .u64 0, .bool false, .int .i64 0, .int .i64 0, .slice none 0 0, .int .u64 0, .int .u64 0] 66)).alloc (.cells #[.int .i64 0, .bool false, .int .u64 0, .bool false, .int .u64 0, .slice none 0 0, .int .u64 0] 59) := ⟨_, rfl⟩
  have C0 : Chg (fun _ => False) W w0 := by rw [hw0]; exact ((Chg.refl _ _).alloc _).alloc _
  have o0 : w0.heap[W.heap.size]? = some (.cells #[.int .u8 2, .int .u64 (7 : Int), .int .u64 (v : Int), .int .u64 0, .int .u64 0, .bool false, .int .i64 0, .int .i64 0, .slice none 0 0, .int .u64 0, .int .u64 0] 66 (0, 0)) := by rw [hw0]; exact alloc_of (heap_alloc_new _ _) _
  have a0 : w0.heap[W.heap.size + 1]? = some (.cells #[.int .i64 0, .bool false, .int .u64 0, .bool false, .int .u64 0, .slice none 0 0, .int .u64 0] 59 (0, 0)) := by
    have e := heap_alloc_new (W.alloc (.cells #[.int .u8 2, .int .u64 (7 : Int), .int .u64 (v : Int), .int .u64 0, .int .u64 0, .bool false, .int .i64 0, .int .i64 0, .slice none 0 0, .int .u64 0, .int .u64 0] 66)) (.cells #[.int .i64 0, .bool false, .int .u64 0, .bool false, .int .u64 0, .slice none 0 0, .int .u64 0] 59)
    rw [World.size_alloc] at e
    rw [hw0]
    exact e
  have HC0 := keepH C0
  have HO0 := keepH o0
  have HA0 := keepH a0
  have c0 : w0.cell? ⟨W.heap.size, 0, none⟩ = some (.int .u8 2) := cell_of o0 0
  have c1 : w0.cell? ⟨W.heap.size, 1, none⟩ = some (.int .u64 (7 : Int)) := cell_of o0 1
  have c2 : w0.cell? ⟨W.heap.size, 2, none⟩ = some (.int .u64 (v : Int)) := cell_of o0 2
  have c3 : w0.cell? ⟨W.heap.size, 3, none⟩ = some (.int .u64 0) := cell_of o0 3
  have c4 : w0.cell? ⟨W.heap.size, 4, none⟩ = some (.int .u64 0) := cell_of o0 4
  have c5 : w0.cell? ⟨W.heap.size, 5, none⟩ = some (.bool false) := cell_of o0 5
  have c6 : w0.cell? ⟨W.heap.size, 6, none⟩ = some (.int .i64 0) := cell_of o0 6
  have c7 : w0.cell? ⟨W.heap.size, 7, none⟩ = some (.int .i64 0) := cell_of o0 7
  have c8 : w0.cell? ⟨W.heap.size, 8, none⟩ = some (.slice none 0 0) := cell_of o0 8
  have c9 : w0.cell? ⟨W.heap.size, 9, none⟩ = some (.int .u64 0) := cell_of o0 9
  have c10 : w0.cell? ⟨W.heap.size, 10, none⟩ = some (.int .u64 0) := cell_of o0 10
  have HT := keepH hT
  have HD := keepH hD
  clear hT hD C0 o0 a0
  go_enter Try.func33, Try.ntmps33
  go_upto_region 1 with fail
  rw [← hw0]
  clear hw0
  go_wp2_with fail
  refine (HT.out _ HC0.out).mono ?_
  rintro e w1 ⟨rfl, C1⟩
  obtain ⟨w2, hw2⟩ : ∃ w2, w2 = w1.alloc (.cells #[.int .i64 0, .bool th, .int .u64 (x : Int), .bool false, .int .u64 0, .slice none 0 0, .int .u64 0] 59) := ⟨_, rfl⟩
  have C2 : Chg (fun _ => False) w0 w2 := by rw [hw2]; exact C1.alloc _
  have HT2 : Hid (w2.heap[w1.heap.size]? = some (.cells #[.int .i64 0, .bool th, .int .u64 (x : Int), .bool false, .int .u64 0, .slice none 0 0, .int .u64 0] 59 (0, 0))) := by rw [hw2]; exact heap_alloc_new _ _
  have HO2 : Hid (w2.heap[W.heap.size]? = some (.cells #[.int .u8 2, .int .u64 (7 : Int), .int .u64 (v : Int), .int .u64 0, .int .u64 0, .bool false, .int .i64 0, .int .i64 0, .slice none 0 0, .int .u64 0, .int .u64 0] 66 (0, 0))) := (C2.block _ (lt_of HO0.out) (fun x => x)).trans HO0.out
  have HA2 : Hid (w2.heap[W.heap.size + 1]? = some (.cells #[.int .i64 0, .bool false, .int .u64 0, .bool false, .int .u64 0, .slice none 0 0, .int .u64 0] 59 (0, 0))) := (C2.block _ (lt_of HA0.out) (fun x => x)).trans HA0.out
  have HC2 : Hid (Chg (fun _ => False) W w2) := HC0.out.trans C2 (fun _ _ x => x) (fun _ _ x => x)
  have HZ2 : Hid (w0.heap.size ≤ w1.heap.size) := C1.size
  have HZ0 : Hid (W.heap.size + 1 < w0.heap.size) := lt_of HA0.out
  clear C1 C2 c0 c1 c2 c3 c4 c5 c6 c7 c8 c9 c10
  go_upto_region 4 with fail
  rw [← hw2]
  clear hw2
  have c0 : w2.cell? ⟨W.heap.size, 0, none⟩ = some (.int .u8 2) := cell_of HO2.out 0
  have c1 : w2.cell? ⟨W.heap.size, 1, none⟩ = some (.int .u64 (7 : Int)) := cell_of HO2.out 1
  have c2 : w2.cell? ⟨W.heap.size, 2, none⟩ = some (.int .u64 (v : Int)) := cell_of HO2.out 2
  have c3 : w2.cell? ⟨W.heap.size, 3, none⟩ = some (.int .u64 0) := cell_of HO2.out 3
  have c4 : w2.cell? ⟨W.heap.size, 4, none⟩ = some (.int .u64 0) := cell_of HO2.out 4
  have c5 : w2.cell? ⟨W.heap.size, 5, none⟩ = some (.bool false) := cell_of HO2.out 5
  have c6 : w2.cell? ⟨W.heap.size, 6, none⟩ = some (.int .i64 0) := cell_of HO2.out 6
  have c7 : w2.cell? ⟨W.heap.size, 7, none⟩ = some (.int .i64 0) := cell_of HO2.out 7
  have c8 : w2.cell? ⟨W.heap.size, 8, none⟩ = some (.slice none 0 0) := cell_of HO2.out 8
  have c9 : w2.cell? ⟨W.heap.size, 9, none⟩ = some (.int .u64 0) := cell_of HO2.out 9
  have c10 : w2.cell? ⟨W.heap.size, 10, none⟩ = some (.int .u64 0) := cell_of HO2.out 10
  have t0 : w2.cell? ⟨w1.heap.size, 0, none⟩ = some (.int .i64 0) := cell_of HT2.out 0
  have t1 : w2.cell? ⟨w1.heap.size, 1, none⟩ = some (.bool th) := cell_of HT2.out 1
  have t2 : w2.cell? ⟨w1.heap.size, 2, none⟩ = some (.int .u64 (x : Int)) := cell_of HT2.out 2
  have t3 : w2.cell? ⟨w1.heap.size, 3, none⟩ = some (.bool false) := cell_of HT2.out 3
  have t4 : w2.cell? ⟨w1.heap.size, 4, none⟩ = some (.int .u64 0) := cell_of HT2.out 4
  have t5 : w2.cell? ⟨w1.heap.size, 5, none⟩ = some (.slice none 0 0) := cell_of HT2.out 5
  have t6 : w2.cell? ⟨w1.heap.size, 6, none⟩ = some (.int .u64 0) := cell_of HT2.out 6
  go_wp2_with fail
  refine (HD.out _ HC2.out).mono ?_
  rintro e w3 ⟨rfl, hT3, C3⟩
  have HT3 : Hid (w3.heap[w1.heap.size]? = some (.cells #[.int .i64 0, .bool th, .int .u64 (x : Int), .bool false, .int .u64 0, .slice none 0 0, .int .u64 0] 59 (0, 0))) := (C3.block _ (lt_of HT2.out) (by have := HZ2.out; have := HZ0.out; omega)).trans HT2.out
  have A3 : w3.heap[W.heap.size + 1]? = some (.cells #[.int .i64 0, .bool false, .int .u64 0, .bool false, .int .u64 0, .slice none 0 0, .int .u64 0] 59 (0, 0)) := (C3.block _ (lt_of HA2.out) (by omega)).trans HA2.out
  have HTT := keepH hT3
  have HKC := keepH C3
  have HC3 : Hid (Chg (fun k => k = G) W w3) := HC2.out.trans C3 (fun _ _ x => x.elim) (fun _ _ x => x)
  clear hT3 C3 c0 c1 c2 c3 c4 c5 c6 c7 c8 c9 c10 t0 t1 t2 t3 t4 t5 t6
  obtain ⟨w4, hw4⟩ : ∃ w4, w4 = w3.setCells (W.heap.size + 1) 0 (#[.int .i64 0, .bool th, .int .u64 (x : Int), .bool false, .int .u64 0, .slice none 0 0, .int .u64 0] : Array Value).toList := ⟨_, rfl⟩
  have A4 : w4.heap[W.heap.size + 1]? = some (.cells #[.int .i64 0, .bool th, .int .u64 (x : Int), .bool false, .int .u64 0, .slice none 0 0, .int .u64 0] 59 (0, 0)) := by
    rw [hw4]
    exact setCells_of 59 (W.heap.size + 1) (#[.int .i64 0, .bool th, .int .u64 (x : Int), .bool false, .int .u64 0, .slice none 0 0, .int .u64 0] : Array Value).toList [] (#[.int .i64 0, .bool false, .int .u64 0, .bool false, .int .u64 0, .slice none 0 0, .int .u64 0] : Array Value).toList [] w3 A3 rfl
  have HK4 : Hid (Chg (fun k => k = W.heap.size + 1) w3 w4) := by rw [hw4]; exact setCells_chg (W.heap.size + 1) _ 0 _
  have HTH : Hid (w3.there (W.heap.size + 1) 0 7) := fun j hj => ⟨by rw [cell_of A3]; match j, hj with | 0, _ => rfl | 1, _ => rfl | 2, _ => rfl | 3, _ => rfl | 4, _ => rfl | 5, _ => rfl | 6, _ => rfl, free_of A3 _⟩
  have HW := keepH hw4
  have q0 : w4.cell? ⟨W.heap.size + 1, 0, none⟩ = some (.int .i64 0) := cell_of A4 0
  have q1 : w4.cell? ⟨W.heap.size + 1, 1, none⟩ = some (.bool th) := cell_of A4 1
  have q2 : w4.cell? ⟨W.heap.size + 1, 2, none⟩ = some (.int .u64 (x : Int)) := cell_of A4 2
  have q3 : w4.cell? ⟨W.heap.size + 1, 3, none⟩ = some (.bool false) := cell_of A4 3
  have q4 : w4.cell? ⟨W.heap.size + 1, 4, none⟩ = some (.int .u64 0) := cell_of A4 4
  have q5 : w4.cell? ⟨W.heap.size + 1, 5, none⟩ = some (.slice none 0 0) := cell_of A4 5
  have q6 : w4.cell? ⟨W.heap.size + 1, 6, none⟩ = some (.int .u64 0) := cell_of A4 6
  have t0 : w3.cell? ⟨w1.heap.size, 0, none⟩ = some (.int .i64 0) := cell_of HT3.out 0
  have t1 : w3.cell? ⟨w1.heap.size, 1, none⟩ = some (.bool th) := cell_of HT3.out 1
  have t2 : w3.cell? ⟨w1.heap.size, 2, none⟩ = some (.int .u64 (x : Int)) := cell_of HT3.out 2
  have t3 : w3.cell? ⟨w1.heap.size, 3, none⟩ = some (.bool false) := cell_of HT3.out 3
  have t4 : w3.cell? ⟨w1.heap.size, 4, none⟩ = some (.int .u64 0) := cell_of HT3.out 4
  have t5 : w3.cell? ⟨w1.heap.size, 5, none⟩ = some (.slice none 0 0) := cell_of HT3.out 5
  have t6 : w3.cell? ⟨w1.heap.size, 6, none⟩ = some (.int .u64 0) := cell_of HT3.out 6
  clear hw4 A3 A4
  go_wp2_with (refine wpList_store_mid rfl 59 (.tmp 6) (.tmp 19) rfl (W.heap.size + 1) 0 #[.int .i64 0, .bool th, .int .u64 (x : Int), .bool false, .int .u64 0, .slice none 0 0, .int .u64 0] rfl rfl HTH.out (by kernel_rfl) (by kernel_rfl) ?_; rw [← HW.out]; clear HW HTH)
  (try go_wp2_with fail)
  refine bodyPost_ret (v := .agg #[.int .i64 0, .bool th, .int .u64 (x : Int), .bool false, .int .u64 0, .slice none 0 0, .int .u64 0]) (by simp [results, Try.results33, go_sem, q0, q1, q2, q3, q4, q5, q6]) rfl ⟨rfl, w2, w3, HC2.out, lt_of HA2.out, HTT.out, HKC.out, HK4.out⟩
set_option maxRecDepth 100000 in
set_option maxHeartbeats 4000000 in
theorem Do_5  {W : World} {m : Nat} (T : World → World → Prop)
    (hT : ∀ w, Chg (fun _ => False) W w → Calls Try.prog 57 #[.pointer (some ⟨m, 0, none⟩), .agg #[.int .u8 5, .int .u64 (0 : Int), .int .u64 (0 : Int), .int .u64 0, .int .u64 0, .bool false, .int .i64 0, .int .i64 0, .slice none 0 0, .int .u64 0, .int .u64 0], .int .u64 5] w fun e W' => e = .returned (.agg #[.int .i64 0, .bool false, .int .u64 0, .bool false, .int .u64 5, .slice none 0 0, .int .u64 0]) ∧ Chg (fun _ => False) w W')
    (G : Nat) (hG : G < W.heap.size) (hD : ∀ w, Chg (fun _ => False) W w → Calls Try.prog 58 #[.pointer (some ⟨m, 0, none⟩), .agg #[.int .u8 5, .int .u64 (0 : Int), .int .u64 (0 : Int), .int .u64 0, .int .u64 0, .bool false, .int .i64 0, .int .i64 0, .slice none 0 0, .int .u64 0, .int .u64 0], .agg #[.int .i64 0, .bool false, .int .u64 0, .bool false, .int .u64 5, .slice none 0 0, .int .u64 0]] w fun e W' => e = .returned (.tuple #[]) ∧ T w W' ∧ Chg (fun k => k = G) w W') :
    Calls Try.prog 33 #[.pointer (some ⟨m, 0, none⟩), .agg #[.int .u8 5, .int .u64 (0 : Int), .int .u64 (0 : Int), .int .u64 0, .int .u64 0, .bool false, .int .i64 0, .int .i64 0, .slice none 0 0, .int .u64 0, .int .u64 0], .int .u64 5] W fun e W' => e = .returned (.agg #[.int .i64 0, .bool false, .int .u64 0, .bool false, .int .u64 5, .slice none 0 0, .int .u64 0]) ∧ ∃ w w', Chg (fun _ => False) W w ∧ W.heap.size + 1 < w.heap.size ∧ T w w' ∧ Chg (fun k => k = G) w w' ∧ Chg (fun k => k = W.heap.size + 1) w' W' := by
  obtain ⟨w0, hw0⟩ : ∃ w0, w0 = (W.alloc (.cells #[.int .u8 5, .int .u64 (0 : Int), .int .u64 (0 : Int), .int .u64 0, .int .u64 0, .bool false, .int .i64 0, .int .i64 0, .slice none 0 0, .int .u64 0, .int .u64 0] 66)).alloc (.cells #[.int .i64 0, .bool false, .int .u64 0, .bool false, .int .u64 0, .slice none 0 0, .int .u64 0] 59) := ⟨_, rfl⟩
  have C0 : Chg (fun _ => False) W w0 := by rw [hw0]; exact ((Chg.refl _ _).alloc _).alloc _
  have o0 : w0.heap[W.heap.size]? = some (.cells #[.int .u8 5, .int .u64 (0 : Int), .int .u64 (0 : Int), .int .u64 0, .int .u64 0, .bool false, .int .i64 0, .int .i64 0, .slice none 0 0, .int .u64 0, .int .u64 0] 66 (0, 0)) := by rw [hw0]; exact alloc_of (heap_alloc_new _ _) _
  have a0 : w0.heap[W.heap.size + 1]? = some (.cells #[.int .i64 0, .bool false, .int .u64 0, .bool false, .int .u64 0, .slice none 0 0, .int .u64 0] 59 (0, 0)) := by
    have e := heap_alloc_new (W.alloc (.cells #[.int .u8 5, .int .u64 (0 : Int), .int .u64 (0 : Int), .int .u64 0, .int .u64 0, .bool false, .int .i64 0, .int .i64 0, .slice none 0 0, .int .u64 0, .int .u64 0] 66)) (.cells #[.int .i64 0, .bool false, .int .u64 0, .bool false, .int .u64 0, .slice none 0 0, .int .u64 0] 59)
    rw [World.size_alloc] at e
    rw [hw0]
    exact e
  have HC0 := keepH C0
  have HO0 := keepH o0
  have HA0 := keepH a0
  have c0 : w0.cell? ⟨W.heap.size, 0, none⟩ = some (.int .u8 5) := cell_of o0 0
  have c1 : w0.cell? ⟨W.heap.size, 1, none⟩ = some (.int .u64 (0 : Int)) := cell_of o0 1
  have c2 : w0.cell? ⟨W.heap.size, 2, none⟩ = some (.int .u64 (0 : Int)) := cell_of o0 2
  have c3 : w0.cell? ⟨W.heap.size, 3, none⟩ = some (.int .u64 0) := cell_of o0 3
  have c4 : w0.cell? ⟨W.heap.size, 4, none⟩ = some (.int .u64 0) := cell_of o0 4
  have c5 : w0.cell? ⟨W.heap.size, 5, none⟩ = some (.bool false) := cell_of o0 5
  have c6 : w0.cell? ⟨W.heap.size, 6, none⟩ = some (.int .i64 0) := cell_of o0 6
  have c7 : w0.cell? ⟨W.heap.size, 7, none⟩ = some (.int .i64 0) := cell_of o0 7
  have c8 : w0.cell? ⟨W.heap.size, 8, none⟩ = some (.slice none 0 0) := cell_of o0 8
  have c9 : w0.cell? ⟨W.heap.size, 9, none⟩ = some (.int .u64 0) := cell_of o0 9
  have c10 : w0.cell? ⟨W.heap.size, 10, none⟩ = some (.int .u64 0) := cell_of o0 10
  have HT := keepH hT
  have HD := keepH hD
  clear hT hD C0 o0 a0
  go_enter Try.func33, Try.ntmps33
  go_upto_region 1 with fail
  rw [← hw0]
  clear hw0
  go_wp2_with fail
  refine (HT.out _ HC0.out).mono ?_
  rintro e w1 ⟨rfl, C1⟩
  obtain ⟨w2, hw2⟩ : ∃ w2, w2 = w1.alloc (.cells #[.int .i64 0, .bool false, .int .u64 0, .bool false, .int .u64 5, .slice none 0 0, .int .u64 0] 59) := ⟨_, rfl⟩
  have C2 : Chg (fun _ => False) w0 w2 := by rw [hw2]; exact C1.alloc _
  have HT2 : Hid (w2.heap[w1.heap.size]? = some (.cells #[.int .i64 0, .bool false, .int .u64 0, .bool false, .int .u64 5, .slice none 0 0, .int .u64 0] 59 (0, 0))) := by rw [hw2]; exact heap_alloc_new _ _
  have HO2 : Hid (w2.heap[W.heap.size]? = some (.cells #[.int .u8 5, .int .u64 (0 : Int), .int .u64 (0 : Int), .int .u64 0, .int .u64 0, .bool false, .int .i64 0, .int .i64 0, .slice none 0 0, .int .u64 0, .int .u64 0] 66 (0, 0))) := (C2.block _ (lt_of HO0.out) (fun x => x)).trans HO0.out
  have HA2 : Hid (w2.heap[W.heap.size + 1]? = some (.cells #[.int .i64 0, .bool false, .int .u64 0, .bool false, .int .u64 0, .slice none 0 0, .int .u64 0] 59 (0, 0))) := (C2.block _ (lt_of HA0.out) (fun x => x)).trans HA0.out
  have HC2 : Hid (Chg (fun _ => False) W w2) := HC0.out.trans C2 (fun _ _ x => x) (fun _ _ x => x)
  have HZ2 : Hid (w0.heap.size ≤ w1.heap.size) := C1.size
  have HZ0 : Hid (W.heap.size + 1 < w0.heap.size) := lt_of HA0.out
  clear C1 C2 c0 c1 c2 c3 c4 c5 c6 c7 c8 c9 c10
  go_upto_region 4 with fail
  rw [← hw2]
  clear hw2
  have c0 : w2.cell? ⟨W.heap.size, 0, none⟩ = some (.int .u8 5) := cell_of HO2.out 0
  have c1 : w2.cell? ⟨W.heap.size, 1, none⟩ = some (.int .u64 (0 : Int)) := cell_of HO2.out 1
  have c2 : w2.cell? ⟨W.heap.size, 2, none⟩ = some (.int .u64 (0 : Int)) := cell_of HO2.out 2
  have c3 : w2.cell? ⟨W.heap.size, 3, none⟩ = some (.int .u64 0) := cell_of HO2.out 3
  have c4 : w2.cell? ⟨W.heap.size, 4, none⟩ = some (.int .u64 0) := cell_of HO2.out 4
  have c5 : w2.cell? ⟨W.heap.size, 5, none⟩ = some (.bool false) := cell_of HO2.out 5
  have c6 : w2.cell? ⟨W.heap.size, 6, none⟩ = some (.int .i64 0) := cell_of HO2.out 6
  have c7 : w2.cell? ⟨W.heap.size, 7, none⟩ = some (.int .i64 0) := cell_of HO2.out 7
  have c8 : w2.cell? ⟨W.heap.size, 8, none⟩ = some (.slice none 0 0) := cell_of HO2.out 8
  have c9 : w2.cell? ⟨W.heap.size, 9, none⟩ = some (.int .u64 0) := cell_of HO2.out 9
  have c10 : w2.cell? ⟨W.heap.size, 10, none⟩ = some (.int .u64 0) := cell_of HO2.out 10
  have t0 : w2.cell? ⟨w1.heap.size, 0, none⟩ = some (.int .i64 0) := cell_of HT2.out 0
  have t1 : w2.cell? ⟨w1.heap.size, 1, none⟩ = some (.bool false) := cell_of HT2.out 1
  have t2 : w2.cell? ⟨w1.heap.size, 2, none⟩ = some (.int .u64 0) := cell_of HT2.out 2
  have t3 : w2.cell? ⟨w1.heap.size, 3, none⟩ = some (.bool false) := cell_of HT2.out 3
  have t4 : w2.cell? ⟨w1.heap.size, 4, none⟩ = some (.int .u64 5) := cell_of HT2.out 4
  have t5 : w2.cell? ⟨w1.heap.size, 5, none⟩ = some (.slice none 0 0) := cell_of HT2.out 5
  have t6 : w2.cell? ⟨w1.heap.size, 6, none⟩ = some (.int .u64 0) := cell_of HT2.out 6
  go_wp2_with fail
  refine (HD.out _ HC2.out).mono ?_
  rintro e w3 ⟨rfl, hT3, C3⟩
  have HT3 : Hid (w3.heap[w1.heap.size]? = some (.cells #[.int .i64 0, .bool false, .int .u64 0, .bool false, .int .u64 5, .slice none 0 0, .int .u64 0] 59 (0, 0))) := (C3.block _ (lt_of HT2.out) (by have := HZ2.out; have := HZ0.out; omega)).trans HT2.out
  have A3 : w3.heap[W.heap.size + 1]? = some (.cells #[.int .i64 0, .bool false, .int .u64 0, .bool false, .int .u64 0, .slice none 0 0, .int .u64 0] 59 (0, 0)) := (C3.block _ (lt_of HA2.out) (by omega)).trans HA2.out
  have HTT := keepH hT3
  have HKC := keepH C3
  have HC3 : Hid (Chg (fun k => k = G) W w3) := HC2.out.trans C3 (fun _ _ x => x.elim) (fun _ _ x => x)
  clear hT3 C3 c0 c1 c2 c3 c4 c5 c6 c7 c8 c9 c10 t0 t1 t2 t3 t4 t5 t6
  obtain ⟨w4, hw4⟩ : ∃ w4, w4 = w3.setCells (W.heap.size + 1) 0 (#[.int .i64 0, .bool false, .int .u64 0, .bool false, .int .u64 5, .slice none 0 0, .int .u64 0] : Array Value).toList := ⟨_, rfl⟩
  have A4 : w4.heap[W.heap.size + 1]? = some (.cells #[.int .i64 0, .bool false, .int .u64 0, .bool false, .int .u64 5, .slice none 0 0, .int .u64 0] 59 (0, 0)) := by
    rw [hw4]
    exact setCells_of 59 (W.heap.size + 1) (#[.int .i64 0, .bool false, .int .u64 0, .bool false, .int .u64 5, .slice none 0 0, .int .u64 0] : Array Value).toList [] (#[.int .i64 0, .bool false, .int .u64 0, .bool false, .int .u64 0, .slice none 0 0, .int .u64 0] : Array Value).toList [] w3 A3 rfl
  have HK4 : Hid (Chg (fun k => k = W.heap.size + 1) w3 w4) := by rw [hw4]; exact setCells_chg (W.heap.size + 1) _ 0 _
  have HTH : Hid (w3.there (W.heap.size + 1) 0 7) := fun j hj => ⟨by rw [cell_of A3]; match j, hj with | 0, _ => rfl | 1, _ => rfl | 2, _ => rfl | 3, _ => rfl | 4, _ => rfl | 5, _ => rfl | 6, _ => rfl, free_of A3 _⟩
  have HW := keepH hw4
  have q0 : w4.cell? ⟨W.heap.size + 1, 0, none⟩ = some (.int .i64 0) := cell_of A4 0
  have q1 : w4.cell? ⟨W.heap.size + 1, 1, none⟩ = some (.bool false) := cell_of A4 1
  have q2 : w4.cell? ⟨W.heap.size + 1, 2, none⟩ = some (.int .u64 0) := cell_of A4 2
  have q3 : w4.cell? ⟨W.heap.size + 1, 3, none⟩ = some (.bool false) := cell_of A4 3
  have q4 : w4.cell? ⟨W.heap.size + 1, 4, none⟩ = some (.int .u64 5) := cell_of A4 4
  have q5 : w4.cell? ⟨W.heap.size + 1, 5, none⟩ = some (.slice none 0 0) := cell_of A4 5
  have q6 : w4.cell? ⟨W.heap.size + 1, 6, none⟩ = some (.int .u64 0) := cell_of A4 6
  have t0 : w3.cell? ⟨w1.heap.size, 0, none⟩ = some (.int .i64 0) := cell_of HT3.out 0
  have t1 : w3.cell? ⟨w1.heap.size, 1, none⟩ = some (.bool false) := cell_of HT3.out 1
  have t2 : w3.cell? ⟨w1.heap.size, 2, none⟩ = some (.int .u64 0) := cell_of HT3.out 2
  have t3 : w3.cell? ⟨w1.heap.size, 3, none⟩ = some (.bool false) := cell_of HT3.out 3
  have t4 : w3.cell? ⟨w1.heap.size, 4, none⟩ = some (.int .u64 5) := cell_of HT3.out 4
  have t5 : w3.cell? ⟨w1.heap.size, 5, none⟩ = some (.slice none 0 0) := cell_of HT3.out 5
  have t6 : w3.cell? ⟨w1.heap.size, 6, none⟩ = some (.int .u64 0) := cell_of HT3.out 6
  clear hw4 A3 A4
  go_wp2_with (refine wpList_store_mid rfl 59 (.tmp 6) (.tmp 19) rfl (W.heap.size + 1) 0 #[.int .i64 0, .bool false, .int .u64 0, .bool false, .int .u64 5, .slice none 0 0, .int .u64 0] rfl rfl HTH.out (by kernel_rfl) (by kernel_rfl) ?_; rw [← HW.out]; clear HW HTH)
  (try go_wp2_with fail)
  refine bodyPost_ret (v := .agg #[.int .i64 0, .bool false, .int .u64 0, .bool false, .int .u64 5, .slice none 0 0, .int .u64 0]) (by simp [results, Try.results33, go_sem, q0, q1, q2, q3, q4, q5, q6]) rfl ⟨rfl, w2, w3, HC2.out, lt_of HA2.out, HTT.out, HKC.out, HK4.out⟩
end Go.Proofs.Ytbmfjcdafjknaaa
