/- The model's tells of queries. -/
import Derived.Test.YtahgaghokpicgaaGreatW16Nh
import Derived.Test.YtahgaghokpicgaaGreatW13Npe
namespace Go.Proofs.YtahgaghokpicgaaGreat
open Go.RowKit Go.Maps
set_option linter.unusedVariables false
set_option maxHeartbeats 16000000
set_option maxRecDepth 100000 in
theorem tells_q8 {k v od hk lo hi kn kc : Nat} {r5 : Bool} {r6 r7 : Int} {kp : Option Addr} {th : Nat} {W : World} {m nw hd mu : Nat} {f h : Nat → Option Nat} {g : Nat → Nat → Option Nat} {n : Nat} (H : MoAt W m nw hd mu f h g n)  {Q : World → World → Int → Option Addr → Nat → Nat → Nat → Prop}
    (hA : ∀ w, Chg (fun _ => False) W w → Calls Tryz.prog 84 #[.pointer (some ⟨m, 0, none⟩), .agg #[.int .u8 8, .int .u64 k, .int .u64 v, .int .u64 od, .int .u64 hk, .bool r5, .int .i64 r6, .int .i64 r7, .slice kp kn kc, .int .u64 lo, .int .u64 hi]] w fun e w' => ∃ er p nl c, ∃ co : Nat, e = .returned (.agg #[.int .i64 er, .bool false, .int .u64 0, .bool false, .int .u64 0, .slice p nl c, .int .u64 co]) ∧ Q w w' er p nl c co ∧ Chg (fun _ => False) w w') :
    Calls Tryz.prog 40 #[.pointer (some ⟨m, 0, none⟩), .agg #[.int .u8 8, .int .u64 k, .int .u64 v, .int .u64 od, .int .u64 hk, .bool r5, .int .i64 r6, .int .i64 r7, .slice kp kn kc, .int .u64 lo, .int .u64 hi], .int .u64 th] W fun e W' => ∃ er p nl c, ∃ co : Nat, ∃ w w1, e = .returned (.agg #[.int .i64 er, .bool false, .int .u64 0, .bool false, .int .u64 0, .slice p nl c, .int .u64 co]) ∧ Chg (fun _ => False) W w ∧ w.heap.size = W.heap.size + 3 ∧ Q w w1 er p nl c co ∧ Chg (fun i => i = W.heap.size + 1) w1 W' ∧ Chg (fun _ => False) W W' := by
 obtain ⟨w0, hw0⟩ : ∃ w0, w0 = ((W.alloc (.cells #[.int .u8 8, .int .u64 k, .int .u64 v, .int .u64 od, .int .u64 hk, .bool r5, .int .i64 r6, .int .i64 r7, .slice kp kn kc, .int .u64 lo, .int .u64 hi] 35)).alloc (.cells #[.int .i64 0, .bool false, .int .u64 0, .bool false, .int .u64 0, .slice none 0 0, .int .u64 0] 39)).alloc (.cells #[.int .i64 0, .bool false, .int .u64 0, .bool false, .int .u64 0, .slice none 0 0, .int .u64 0] 39) := ⟨_, rfl⟩
 have C0 : Chg (fun _ => False) W w0 := by rw [hw0]; exact (((Chg.refl _ _).alloc _).alloc _).alloc _
 have o0 : w0.heap[W.heap.size]? = some (.cells #[.int .u8 8, .int .u64 k, .int .u64 v, .int .u64 od, .int .u64 hk, .bool r5, .int .i64 r6, .int .i64 r7, .slice kp kn kc, .int .u64 lo, .int .u64 hi] 35 (0, 0)) := by rw [hw0]; exact alloc_of (alloc_of (heap_alloc_new _ _) _) _
 have a0 : w0.heap[W.heap.size + 1]? = some (.cells #[.int .i64 0, .bool false, .int .u64 0, .bool false, .int .u64 0, .slice none 0 0, .int .u64 0] 39 (0, 0)) := by
  rw [hw0]
  exact alloc_of al2 _
 have HSZ : Hid (w0.heap.size = W.heap.size + 3) := by rw [hw0]; show _ = _; simp
 have k00 : w0.cell? ⟨W.heap.size, 0, none⟩ = some (.int .u8 8) := cell_of o0 0
 have M0 := H.quiet C0
 have c0 : w0.cell? ⟨W.heap.size, 0, none⟩ = some (.int .u8 8) := cell_of o0 0
 have c1 : w0.cell? ⟨W.heap.size, 1, none⟩ = some (.int .u64 k) := cell_of o0 1
 have c2 : w0.cell? ⟨W.heap.size, 2, none⟩ = some (.int .u64 v) := cell_of o0 2
 have c3 : w0.cell? ⟨W.heap.size, 3, none⟩ = some (.int .u64 od) := cell_of o0 3
 have c4 : w0.cell? ⟨W.heap.size, 4, none⟩ = some (.int .u64 hk) := cell_of o0 4
 have c5 : w0.cell? ⟨W.heap.size, 5, none⟩ = some (.bool r5) := cell_of o0 5
 have c6 : w0.cell? ⟨W.heap.size, 6, none⟩ = some (.int .i64 r6) := cell_of o0 6
 have c7 : w0.cell? ⟨W.heap.size, 7, none⟩ = some (.int .i64 r7) := cell_of o0 7
 have c8 : w0.cell? ⟨W.heap.size, 8, none⟩ = some (.slice kp kn kc) := cell_of o0 8
 have c9 : w0.cell? ⟨W.heap.size, 9, none⟩ = some (.int .u64 lo) := cell_of o0 9
 have c10 : w0.cell? ⟨W.heap.size, 10, none⟩ = some (.int .u64 hi) := cell_of o0 10
 have HF := keepH (hA w0 C0)
 have HAD := keepH a0
 have HCD := keepH C0
 clear H C0 M0 o0 a0 hA
 go_enter Tryz.func40, Tryz.ntmps40
 go_upto_region 2 with fail
 rw [← hw0]
 clear hw0
 go_wp2_with fail
 refine HF.out.mono ?_
 rintro e w1 ⟨er, p, nl, c, co, rfl, hQ, C1⟩
 have a1 := (C1.block _ (lt_of HAD.out) (fun x => x)).trans HAD.out
 obtain ⟨w9, hw9⟩ : ∃ w9, w9 = w1.setCells (W.heap.size + 1) 0 (#[.int .i64 er, .bool false, .int .u64 0, .bool false, .int .u64 0, .slice p nl c, .int .u64 co] : Array Value).toList := ⟨_, rfl⟩
 have A9 : w9.heap[W.heap.size + 1]? = some (.cells #[.int .i64 er, .bool false, .int .u64 0, .bool false, .int .u64 0, .slice p nl c, .int .u64 co] 39 (0, 0)) := by
  rw [hw9]
  exact setCells_of 39 (W.heap.size + 1) (#[.int .i64 er, .bool false, .int .u64 0, .bool false, .int .u64 0, .slice p nl c, .int .u64 co] : Array Value).toList [] (#[.int .i64 0, .bool false, .int .u64 0, .bool false, .int .u64 0, .slice none 0 0, .int .u64 0] : Array Value).toList [] w1 a1 rfl
 have HK9 : Hid (Chg (fun i => i = W.heap.size + 1) w1 w9) := by rw [hw9]; exact setCells_chg (W.heap.size + 1) _ 0 _
 have HC9 : Hid (Chg (fun _ => False) W w9) := (HCD.out.trans C1 (H := fun _ => False) (fun _ _ x => x) (fun _ _ x => x)).trans HK9.out (fun _ _ x => x) (fun i hi e => by omega)
 have HTH : Hid (w1.there (W.heap.size + 1) 0 7) := fun j hj => ⟨by rw [cell_of a1]; match j, hj with | 0, _ => rfl | 1, _ => rfl | 2, _ => rfl | 3, _ => rfl | 4, _ => rfl | 5, _ => rfl | 6, _ => rfl, free_of a1 _⟩
 have HW := keepH hw9
 have q0 : w9.cell? ⟨W.heap.size + 1, 0, none⟩ = some (.int .i64 er) := cell_of A9 0
 have q1 : w9.cell? ⟨W.heap.size + 1, 1, none⟩ = some (.bool false) := cell_of A9 1
 have q2 : w9.cell? ⟨W.heap.size + 1, 2, none⟩ = some (.int .u64 0) := cell_of A9 2
 have q3 : w9.cell? ⟨W.heap.size + 1, 3, none⟩ = some (.bool false) := cell_of A9 3
 have q4 : w9.cell? ⟨W.heap.size + 1, 4, none⟩ = some (.int .u64 0) := cell_of A9 4
 have q5 : w9.cell? ⟨W.heap.size + 1, 5, none⟩ = some (.slice p nl c) := cell_of A9 5
 have q6 : w9.cell? ⟨W.heap.size + 1, 6, none⟩ = some (.int .u64 co) := cell_of A9 6
 have HQ := keepH hQ
 clear hw9 A9 hQ C1 a1
 go_wp2_with (refine wpList_store_mid rfl 39 (.tmp 6) (.tmp 82) rfl (W.heap.size + 1) 0 #[.int .i64 er, .bool false, .int .u64 0, .bool false, .int .u64 0, .slice p nl c, .int .u64 co] rfl rfl HTH.out (by kernel_rfl) (by kernel_rfl) ?_; rw [← HW.out]; clear HW HTH)
 (try go_wp2_with fail)
 refine bodyPost_ret (v := .agg #[.int .i64 er, .bool false, .int .u64 0, .bool false, .int .u64 0, .slice p nl c, .int .u64 co]) (by simp [results, Tryz.results40, go_sem, q0, q1, q2, q3, q4, q5, q6]) rfl ⟨er, p, nl, c, co, _, w1, rfl, HCD.out, HSZ.out, HQ.out, HK9.out, HC9.out⟩
set_option maxRecDepth 100000 in
theorem tells_q9 {k v od hk lo hi kn kc : Nat} {r5 : Bool} {r6 r7 : Int} {kp : Option Addr} {th : Nat} {W : World} {m nw hd mu : Nat} {f h : Nat → Option Nat} {g : Nat → Nat → Option Nat} {n : Nat} (H : MoAt W m nw hd mu f h g n)  {Q : World → World → Int → Option Addr → Nat → Nat → Nat → Prop}
    (hA : ∀ w, Chg (fun _ => False) W w → Calls Tryz.prog 84 #[.pointer (some ⟨m, 0, none⟩), .agg #[.int .u8 9, .int .u64 k, .int .u64 v, .int .u64 od, .int .u64 hk, .bool r5, .int .i64 r6, .int .i64 r7, .slice kp kn kc, .int .u64 lo, .int .u64 hi]] w fun e w' => ∃ er p nl c, ∃ co : Nat, e = .returned (.agg #[.int .i64 er, .bool false, .int .u64 0, .bool false, .int .u64 0, .slice p nl c, .int .u64 co]) ∧ Q w w' er p nl c co ∧ Chg (fun _ => False) w w') :
    Calls Tryz.prog 40 #[.pointer (some ⟨m, 0, none⟩), .agg #[.int .u8 9, .int .u64 k, .int .u64 v, .int .u64 od, .int .u64 hk, .bool r5, .int .i64 r6, .int .i64 r7, .slice kp kn kc, .int .u64 lo, .int .u64 hi], .int .u64 th] W fun e W' => ∃ er p nl c, ∃ co : Nat, ∃ w w1, e = .returned (.agg #[.int .i64 er, .bool false, .int .u64 0, .bool false, .int .u64 0, .slice p nl c, .int .u64 co]) ∧ Chg (fun _ => False) W w ∧ w.heap.size = W.heap.size + 3 ∧ Q w w1 er p nl c co ∧ Chg (fun i => i = W.heap.size + 1) w1 W' ∧ Chg (fun _ => False) W W' := by
 obtain ⟨w0, hw0⟩ : ∃ w0, w0 = ((W.alloc (.cells #[.int .u8 9, .int .u64 k, .int .u64 v, .int .u64 od, .int .u64 hk, .bool r5, .int .i64 r6, .int .i64 r7, .slice kp kn kc, .int .u64 lo, .int .u64 hi] 35)).alloc (.cells #[.int .i64 0, .bool false, .int .u64 0, .bool false, .int .u64 0, .slice none 0 0, .int .u64 0] 39)).alloc (.cells #[.int .i64 0, .bool false, .int .u64 0, .bool false, .int .u64 0, .slice none 0 0, .int .u64 0] 39) := ⟨_, rfl⟩
 have C0 : Chg (fun _ => False) W w0 := by rw [hw0]; exact (((Chg.refl _ _).alloc _).alloc _).alloc _
 have o0 : w0.heap[W.heap.size]? = some (.cells #[.int .u8 9, .int .u64 k, .int .u64 v, .int .u64 od, .int .u64 hk, .bool r5, .int .i64 r6, .int .i64 r7, .slice kp kn kc, .int .u64 lo, .int .u64 hi] 35 (0, 0)) := by rw [hw0]; exact alloc_of (alloc_of (heap_alloc_new _ _) _) _
 have a0 : w0.heap[W.heap.size + 1]? = some (.cells #[.int .i64 0, .bool false, .int .u64 0, .bool false, .int .u64 0, .slice none 0 0, .int .u64 0] 39 (0, 0)) := by
  rw [hw0]
  exact alloc_of al2 _
 have HSZ : Hid (w0.heap.size = W.heap.size + 3) := by rw [hw0]; show _ = _; simp
 have k00 : w0.cell? ⟨W.heap.size, 0, none⟩ = some (.int .u8 9) := cell_of o0 0
 have M0 := H.quiet C0
 have c0 : w0.cell? ⟨W.heap.size, 0, none⟩ = some (.int .u8 9) := cell_of o0 0
 have c1 : w0.cell? ⟨W.heap.size, 1, none⟩ = some (.int .u64 k) := cell_of o0 1
 have c2 : w0.cell? ⟨W.heap.size, 2, none⟩ = some (.int .u64 v) := cell_of o0 2
 have c3 : w0.cell? ⟨W.heap.size, 3, none⟩ = some (.int .u64 od) := cell_of o0 3
 have c4 : w0.cell? ⟨W.heap.size, 4, none⟩ = some (.int .u64 hk) := cell_of o0 4
 have c5 : w0.cell? ⟨W.heap.size, 5, none⟩ = some (.bool r5) := cell_of o0 5
 have c6 : w0.cell? ⟨W.heap.size, 6, none⟩ = some (.int .i64 r6) := cell_of o0 6
 have c7 : w0.cell? ⟨W.heap.size, 7, none⟩ = some (.int .i64 r7) := cell_of o0 7
 have c8 : w0.cell? ⟨W.heap.size, 8, none⟩ = some (.slice kp kn kc) := cell_of o0 8
 have c9 : w0.cell? ⟨W.heap.size, 9, none⟩ = some (.int .u64 lo) := cell_of o0 9
 have c10 : w0.cell? ⟨W.heap.size, 10, none⟩ = some (.int .u64 hi) := cell_of o0 10
 have HF := keepH (hA w0 C0)
 have HAD := keepH a0
 have HCD := keepH C0
 clear H C0 M0 o0 a0 hA
 go_enter Tryz.func40, Tryz.ntmps40
 go_upto_region 2 with fail
 rw [← hw0]
 clear hw0
 go_wp2_with fail
 refine HF.out.mono ?_
 rintro e w1 ⟨er, p, nl, c, co, rfl, hQ, C1⟩
 have a1 := (C1.block _ (lt_of HAD.out) (fun x => x)).trans HAD.out
 obtain ⟨w9, hw9⟩ : ∃ w9, w9 = w1.setCells (W.heap.size + 1) 0 (#[.int .i64 er, .bool false, .int .u64 0, .bool false, .int .u64 0, .slice p nl c, .int .u64 co] : Array Value).toList := ⟨_, rfl⟩
 have A9 : w9.heap[W.heap.size + 1]? = some (.cells #[.int .i64 er, .bool false, .int .u64 0, .bool false, .int .u64 0, .slice p nl c, .int .u64 co] 39 (0, 0)) := by
  rw [hw9]
  exact setCells_of 39 (W.heap.size + 1) (#[.int .i64 er, .bool false, .int .u64 0, .bool false, .int .u64 0, .slice p nl c, .int .u64 co] : Array Value).toList [] (#[.int .i64 0, .bool false, .int .u64 0, .bool false, .int .u64 0, .slice none 0 0, .int .u64 0] : Array Value).toList [] w1 a1 rfl
 have HK9 : Hid (Chg (fun i => i = W.heap.size + 1) w1 w9) := by rw [hw9]; exact setCells_chg (W.heap.size + 1) _ 0 _
 have HC9 : Hid (Chg (fun _ => False) W w9) := (HCD.out.trans C1 (H := fun _ => False) (fun _ _ x => x) (fun _ _ x => x)).trans HK9.out (fun _ _ x => x) (fun i hi e => by omega)
 have HTH : Hid (w1.there (W.heap.size + 1) 0 7) := fun j hj => ⟨by rw [cell_of a1]; match j, hj with | 0, _ => rfl | 1, _ => rfl | 2, _ => rfl | 3, _ => rfl | 4, _ => rfl | 5, _ => rfl | 6, _ => rfl, free_of a1 _⟩
 have HW := keepH hw9
 have q0 : w9.cell? ⟨W.heap.size + 1, 0, none⟩ = some (.int .i64 er) := cell_of A9 0
 have q1 : w9.cell? ⟨W.heap.size + 1, 1, none⟩ = some (.bool false) := cell_of A9 1
 have q2 : w9.cell? ⟨W.heap.size + 1, 2, none⟩ = some (.int .u64 0) := cell_of A9 2
 have q3 : w9.cell? ⟨W.heap.size + 1, 3, none⟩ = some (.bool false) := cell_of A9 3
 have q4 : w9.cell? ⟨W.heap.size + 1, 4, none⟩ = some (.int .u64 0) := cell_of A9 4
 have q5 : w9.cell? ⟨W.heap.size + 1, 5, none⟩ = some (.slice p nl c) := cell_of A9 5
 have q6 : w9.cell? ⟨W.heap.size + 1, 6, none⟩ = some (.int .u64 co) := cell_of A9 6
 have HQ := keepH hQ
 clear hw9 A9 hQ C1 a1
 go_wp2_with (refine wpList_store_mid rfl 39 (.tmp 6) (.tmp 82) rfl (W.heap.size + 1) 0 #[.int .i64 er, .bool false, .int .u64 0, .bool false, .int .u64 0, .slice p nl c, .int .u64 co] rfl rfl HTH.out (by kernel_rfl) (by kernel_rfl) ?_; rw [← HW.out]; clear HW HTH)
 (try go_wp2_with fail)
 refine bodyPost_ret (v := .agg #[.int .i64 er, .bool false, .int .u64 0, .bool false, .int .u64 0, .slice p nl c, .int .u64 co]) (by simp [results, Tryz.results40, go_sem, q0, q1, q2, q3, q4, q5, q6]) rfl ⟨er, p, nl, c, co, _, w1, rfl, HCD.out, HSZ.out, HQ.out, HK9.out, HC9.out⟩
set_option maxRecDepth 100000 in
theorem tells_q7 {k v od hk lo hi kn kc : Nat} {r5 : Bool} {r6 r7 : Int} {kp : Option Addr} {th : Nat} {W : World} {m nw hd mu : Nat} {f h : Nat → Option Nat} {g : Nat → Nat → Option Nat} {n : Nat} (H : MoAt W m nw hd mu f h g n) (hl : kn ≤ mu) (hmu : mu ≤ 1024) {Q : World → World → Int → Option Addr → Nat → Nat → Nat → Prop}
    (hA : ∀ w, Chg (fun _ => False) W w → Calls Tryz.prog 84 #[.pointer (some ⟨m, 0, none⟩), .agg #[.int .u8 7, .int .u64 k, .int .u64 v, .int .u64 od, .int .u64 hk, .bool r5, .int .i64 r6, .int .i64 r7, .slice kp kn kc, .int .u64 lo, .int .u64 hi]] w fun e w' => ∃ er p nl c, ∃ co : Nat, e = .returned (.agg #[.int .i64 er, .bool false, .int .u64 0, .bool false, .int .u64 0, .slice p nl c, .int .u64 co]) ∧ Q w w' er p nl c co ∧ Chg (fun _ => False) w w') :
    Calls Tryz.prog 40 #[.pointer (some ⟨m, 0, none⟩), .agg #[.int .u8 7, .int .u64 k, .int .u64 v, .int .u64 od, .int .u64 hk, .bool r5, .int .i64 r6, .int .i64 r7, .slice kp kn kc, .int .u64 lo, .int .u64 hi], .int .u64 th] W fun e W' => ∃ er p nl c, ∃ co : Nat, ∃ w w1, e = .returned (.agg #[.int .i64 er, .bool false, .int .u64 0, .bool false, .int .u64 0, .slice p nl c, .int .u64 co]) ∧ Chg (fun _ => False) W w ∧ w.heap.size = W.heap.size + 3 ∧ Q w w1 er p nl c co ∧ Chg (fun i => i = W.heap.size + 1) w1 W' ∧ Chg (fun _ => False) W W' := by
 obtain ⟨w0, hw0⟩ : ∃ w0, w0 = ((W.alloc (.cells #[.int .u8 7, .int .u64 k, .int .u64 v, .int .u64 od, .int .u64 hk, .bool r5, .int .i64 r6, .int .i64 r7, .slice kp kn kc, .int .u64 lo, .int .u64 hi] 35)).alloc (.cells #[.int .i64 0, .bool false, .int .u64 0, .bool false, .int .u64 0, .slice none 0 0, .int .u64 0] 39)).alloc (.cells #[.int .i64 0, .bool false, .int .u64 0, .bool false, .int .u64 0, .slice none 0 0, .int .u64 0] 39) := ⟨_, rfl⟩
 have C0 : Chg (fun _ => False) W w0 := by rw [hw0]; exact (((Chg.refl _ _).alloc _).alloc _).alloc _
 have o0 : w0.heap[W.heap.size]? = some (.cells #[.int .u8 7, .int .u64 k, .int .u64 v, .int .u64 od, .int .u64 hk, .bool r5, .int .i64 r6, .int .i64 r7, .slice kp kn kc, .int .u64 lo, .int .u64 hi] 35 (0, 0)) := by rw [hw0]; exact alloc_of (alloc_of (heap_alloc_new _ _) _) _
 have a0 : w0.heap[W.heap.size + 1]? = some (.cells #[.int .i64 0, .bool false, .int .u64 0, .bool false, .int .u64 0, .slice none 0 0, .int .u64 0] 39 (0, 0)) := by
  rw [hw0]
  exact alloc_of al2 _
 have HSZ : Hid (w0.heap.size = W.heap.size + 3) := by rw [hw0]; show _ = _; simp
 have k00 : w0.cell? ⟨W.heap.size, 0, none⟩ = some (.int .u8 7) := cell_of o0 0
 have M0 := H.quiet C0
 have q : ¬ (mu : Int) < (kn : Int) := by omega
 have HS0 : Hid (w0.cell? ⟨m, 0, none⟩ = some (.int .i64 mu) ∧ w0.cell? ⟨W.heap.size, 8, none⟩ = some (.slice kp kn kc)) := ⟨cell_of M0.md 0, cell_of o0 8⟩
 obtain ⟨wd, hwd⟩ : ∃ wd, wd = w0.drew := ⟨_, rfl⟩
 have ad : wd.heap[W.heap.size + 1]? = some (.cells #[.int .i64 0, .bool false, .int .u64 0, .bool false, .int .u64 0, .slice none 0 0, .int .u64 0] 39 (0, 0)) := by rw [hwd]; exact a0
 have odd : wd.heap[W.heap.size]? = some (.cells #[.int .u8 7, .int .u64 k, .int .u64 v, .int .u64 od, .int .u64 hk, .bool r5, .int .i64 r6, .int .i64 r7, .slice kp kn kc, .int .u64 lo, .int .u64 hi] 35 (0, 0)) := by rw [hwd]; exact o0
 have Cd : Chg (fun _ => False) W wd := by rw [hwd]; exact C0.drew
 have HSZd : Hid (wd.heap.size = W.heap.size + 3) := by rw [hwd]; exact HSZ.out
 have c0 : wd.cell? ⟨W.heap.size, 0, none⟩ = some (.int .u8 7) := cell_of odd 0
 have c1 : wd.cell? ⟨W.heap.size, 1, none⟩ = some (.int .u64 k) := cell_of odd 1
 have c2 : wd.cell? ⟨W.heap.size, 2, none⟩ = some (.int .u64 v) := cell_of odd 2
 have c3 : wd.cell? ⟨W.heap.size, 3, none⟩ = some (.int .u64 od) := cell_of odd 3
 have c4 : wd.cell? ⟨W.heap.size, 4, none⟩ = some (.int .u64 hk) := cell_of odd 4
 have c5 : wd.cell? ⟨W.heap.size, 5, none⟩ = some (.bool r5) := cell_of odd 5
 have c6 : wd.cell? ⟨W.heap.size, 6, none⟩ = some (.int .i64 r6) := cell_of odd 6
 have c7 : wd.cell? ⟨W.heap.size, 7, none⟩ = some (.int .i64 r7) := cell_of odd 7
 have c8 : wd.cell? ⟨W.heap.size, 8, none⟩ = some (.slice kp kn kc) := cell_of odd 8
 have c9 : wd.cell? ⟨W.heap.size, 9, none⟩ = some (.int .u64 lo) := cell_of odd 9
 have c10 : wd.cell? ⟨W.heap.size, 10, none⟩ = some (.int .u64 hi) := cell_of odd 10
 have HF := keepH (hA wd Cd)
 have HAD := keepH ad
 have HCD := keepH Cd
 clear H C0 M0 o0 a0 hA Cd ad odd
 go_enter Tryz.func40, Tryz.ntmps40
 go_upto_region 2 with fail
 rw [← hw0]
 clear hw0
 go_upto_region 21 with fail
 go_region_held3 (fun w' => w'.cell? ⟨m, 0, none⟩ = some (.int .i64 mu) ∧ w'.cell? ⟨W.heap.size, 8, none⟩ = some (.slice kp kn kc)) (first | exact HS0.out) (fail)
 all_goals (
  rw [← hwd]
  clear hwd
  go_wp2_with fail
  refine HF.out.mono ?_
  rintro e w1 ⟨er, p, nl, c, co, rfl, hQ, C1⟩
  have a1 := (C1.block _ (lt_of HAD.out) (fun x => x)).trans HAD.out
  obtain ⟨w9, hw9⟩ : ∃ w9, w9 = w1.setCells (W.heap.size + 1) 0 (#[.int .i64 er, .bool false, .int .u64 0, .bool false, .int .u64 0, .slice p nl c, .int .u64 co] : Array Value).toList := ⟨_, rfl⟩
  have A9 : w9.heap[W.heap.size + 1]? = some (.cells #[.int .i64 er, .bool false, .int .u64 0, .bool false, .int .u64 0, .slice p nl c, .int .u64 co] 39 (0, 0)) := by
   rw [hw9]
   exact setCells_of 39 (W.heap.size + 1) (#[.int .i64 er, .bool false, .int .u64 0, .bool false, .int .u64 0, .slice p nl c, .int .u64 co] : Array Value).toList [] (#[.int .i64 0, .bool false, .int .u64 0, .bool false, .int .u64 0, .slice none 0 0, .int .u64 0] : Array Value).toList [] w1 a1 rfl
  have HK9 : Hid (Chg (fun i => i = W.heap.size + 1) w1 w9) := by rw [hw9]; exact setCells_chg (W.heap.size + 1) _ 0 _
  have HC9 : Hid (Chg (fun _ => False) W w9) := (HCD.out.trans C1 (H := fun _ => False) (fun _ _ x => x) (fun _ _ x => x)).trans HK9.out (fun _ _ x => x) (fun i hi e => by omega)
  have HTH : Hid (w1.there (W.heap.size + 1) 0 7) := fun j hj => ⟨by rw [cell_of a1]; match j, hj with | 0, _ => rfl | 1, _ => rfl | 2, _ => rfl | 3, _ => rfl | 4, _ => rfl | 5, _ => rfl | 6, _ => rfl, free_of a1 _⟩
  have HW := keepH hw9
  have q0 : w9.cell? ⟨W.heap.size + 1, 0, none⟩ = some (.int .i64 er) := cell_of A9 0
  have q1 : w9.cell? ⟨W.heap.size + 1, 1, none⟩ = some (.bool false) := cell_of A9 1
  have q2 : w9.cell? ⟨W.heap.size + 1, 2, none⟩ = some (.int .u64 0) := cell_of A9 2
  have q3 : w9.cell? ⟨W.heap.size + 1, 3, none⟩ = some (.bool false) := cell_of A9 3
  have q4 : w9.cell? ⟨W.heap.size + 1, 4, none⟩ = some (.int .u64 0) := cell_of A9 4
  have q5 : w9.cell? ⟨W.heap.size + 1, 5, none⟩ = some (.slice p nl c) := cell_of A9 5
  have q6 : w9.cell? ⟨W.heap.size + 1, 6, none⟩ = some (.int .u64 co) := cell_of A9 6
  have HQ := keepH hQ
  clear hw9 A9 hQ C1 a1
  go_wp2_with (refine wpList_store_mid rfl 39 (.tmp 6) (.tmp 82) rfl (W.heap.size + 1) 0 #[.int .i64 er, .bool false, .int .u64 0, .bool false, .int .u64 0, .slice p nl c, .int .u64 co] rfl rfl HTH.out (by kernel_rfl) (by kernel_rfl) ?_; rw [← HW.out]; clear HW HTH)
  (try go_wp2_with fail)
  refine bodyPost_ret (v := .agg #[.int .i64 er, .bool false, .int .u64 0, .bool false, .int .u64 0, .slice p nl c, .int .u64 co]) (by simp [results, Tryz.results40, go_sem, q0, q1, q2, q3, q4, q5, q6]) rfl ⟨er, p, nl, c, co, _, w1, rfl, HCD.out, HSZd.out, HQ.out, HK9.out, HC9.out⟩)
theorem tells_all {o : OpP} (ho : o.Ok) {r5 : Bool} {r6 r7 : Int} {kp : Option Addr} {kc th : Nat} (hth : th < 18446744073709551616) {W : World} {m nw hd mu : Nat} {f h : Nat → Option Nat} {g : Nat → Nat → Option Nat} {n : Nat} (H : MoAt W m nw hd mu f h g n) (hmu : mu ≤ 1024) (hn : n ≤ 8796093022000) (hks : KeysAt W kp o.ks) :
    Calls Tryz.prog 40 #[.pointer (some ⟨m, 0, none⟩), .agg (opC o r5 r6 r7 kp kc), .int .u64 th] W fun e W' => Told W W' (tellP mu f (pcs h g) o th) e ∧ Chg (fun _ => False) W W' := by
 obtain ⟨kd, k, v, od, hk, ks, lo, hi⟩ := o
 unfold tellP opC
 simp only
 by_cases k4 : kd = 4
 ·subst k4
  rw [if_pos rfl]
  cases hf : f k with
  | none =>
   refine (tells_s0 H ho.k hf).mono ?_
   rintro e W' ⟨rfl, c⟩
   exact ⟨told_plain rfl (by simp [ansC]), c⟩
  | some x =>
   by_cases hx : x = od
   ·refine (tells_s1 H ho.k hf hx).mono ?_
    rintro e W' ⟨rfl, c⟩
    exact ⟨told_plain rfl (by simp [ansC, hx]), c⟩
   ·refine (tells_s2 H ho.k hf hx).mono ?_
    rintro e W' ⟨rfl, c⟩
    exact ⟨told_plain rfl (by simp [ansC, hx]), c⟩
 rw [if_neg k4]
 by_cases k1 : kd = 1
 ·subst k1
  rw [if_pos (by simp)]
  refine (tells_r1 H ho.k).mono ?_
  rintro e W' ⟨rfl, c⟩
  exact ⟨told_plain rfl (by simp [ansC]), c⟩
 by_cases k2 : kd = 2
 ·subst k2
  rw [if_pos (by simp)]
  refine (tells_r2 H ho.k).mono ?_
  rintro e W' ⟨rfl, c⟩
  exact ⟨told_plain rfl (by simp [ansC]), c⟩
 by_cases k3 : kd = 3
 ·subst k3
  rw [if_pos (by simp)]
  refine (tells_r3 H ho.k).mono ?_
  rintro e W' ⟨rfl, c⟩
  exact ⟨told_plain rfl (by simp [ansC]), c⟩
 rw [if_neg (by simp [k1, k2, k3])]
 by_cases k5 : kd = 5
 ·subst k5
  rw [if_pos rfl]
  cases hh : h th with
  | none =>
   refine (tells_5F H hth hh).mono ?_
   rintro e W' ⟨rfl, c⟩
   exact ⟨told_plain (by simp [pcs, hh]) (by simp [ansC, pcs, hh]), c⟩
  | some b =>
   refine (tells_5T H hth hh).mono ?_
   rintro e W' ⟨rfl, c⟩
   exact ⟨told_plain (by simp [pcs, hh, errA]) (by simp [ansC, pcs, hh, errA]), c⟩
 rw [if_neg k5]
 by_cases k6 : kd = 6
 ·subst k6
  rw [if_pos rfl]
  cases hh : h hk with
  | none =>
   refine (tells_6F H ho.hk hh).mono ?_
   rintro e W' ⟨rfl, c⟩
   exact ⟨told_plain (by simp [pcs, hh, errA]) (by simp [ansC, pcs, hh, errA]), c⟩
  | some b =>
   refine (tells_6T H ho.hk hh).mono ?_
   rintro e W' ⟨rfl, c⟩
   exact ⟨told_plain (by simp [pcs, hh, errA]) (by simp [ansC, pcs, hh, errA]), c⟩
 rw [if_neg k6]
 by_cases k7 : kd = 7
 ·subst k7
  by_cases hl : mu < ks.length
  ·rw [if_pos ⟨rfl, hl⟩]
   refine (tells_7L H hl).mono ?_
   rintro e W' ⟨rfl, c⟩
   exact ⟨told_plain rfl (by simp [ansC, errA]), c⟩
  ·rw [if_neg (fun x => hl x.2), if_pos (.inl rfl)]
   cases hh : h hk with
   | none =>
    refine (tells_q7 H (by omega) hmu (Q := fun w w' er p nl c co => er = 33 ∧ p = none ∧ nl = 0 ∧ c = 0 ∧ co = 0) (fun w cw => ?_)).mono ?_
    ·refine (asks_no (H.quiet cw) ho.hk hh).mono ?_
     rintro e w' ⟨rfl, c⟩
     exact ⟨33, none, 0, 0, 0, rfl, ⟨rfl, rfl, rfl, rfl, rfl⟩, c⟩
    ·rintro e W' ⟨er, p, nl, c, co, w, w1, rfl, _, _, ⟨rfl, rfl, rfl, rfl, rfl⟩, _, c9⟩
     exact ⟨told_plain (by simp [pcs, hh, errA]) (by simp [ansC, pcs, hh, errA]), c9⟩
   | some b =>
    refine (tells_q7 H (by omega) hmu (Q := fun w w' er p nl c co => er = 0 ∧ nl = (pairsOf (g b) ks).length ∧ co = 0 ∧ OPairs w' p c (pairsOf (g b) ks) ∧ ∀ bk off, p = some ⟨bk, off, none⟩ → w.heap.size ≤ bk) (fun w cw => ?_)).mono ?_
    ·refine (asks_7 (H.quiet cw) ho.hk hh hn (hks.chg cw (fun _ _ _ x => x)) rfl (show ks.length ≤ 8796093022000 by omega)).mono ?_
     rintro e w' ⟨⟨p, c, l, rfl, rfl, h1, h2⟩, c9⟩
     exact ⟨0, p, _, c, 0, rfl, ⟨rfl, rfl, rfl, h1, h2⟩, c9⟩
    ·rintro e W' ⟨er, p, nl, c, co, w, w1, rfl, _, hs, ⟨rfl, rfl, rfl, h1, h2⟩, k9, c9⟩
     have e1 : pcs h g hk = some (g b) := by simp [pcs, hh]
     rw [e1]
     simp only [if_true]
     exact ⟨⟨p, c, rfl, h1.chgF k9 (fun bk off e => by have := h2 bk off e; omega), fun bk off e => by have := h2 bk off e; omega, Nat.le_trans (pairsOf_len _ _) (show ks.length ≤ 8796093022000 by omega)⟩, c9⟩
 rw [if_neg (fun x => k7 x.1)]
 by_cases k8 : kd = 8
 ·subst k8
  rw [if_pos (.inr (.inl rfl))]
  cases hh : h hk with
  | none =>
   refine (tells_q8 H (Q := fun w w' er p nl c co => er = 33 ∧ p = none ∧ nl = 0 ∧ c = 0 ∧ co = 0) (fun w cw => ?_)).mono ?_
   ·refine (asks_no (H.quiet cw) ho.hk hh).mono ?_
    rintro e w' ⟨rfl, c⟩
    exact ⟨33, none, 0, 0, 0, rfl, ⟨rfl, rfl, rfl, rfl, rfl⟩, c⟩
   ·rintro e W' ⟨er, p, nl, c, co, w, w1, rfl, _, _, ⟨rfl, rfl, rfl, rfl, rfl⟩, _, c9⟩
    exact ⟨told_plain (by simp [pcs, hh, errA]) (by simp [ansC, pcs, hh, errA]), c9⟩
  | some b =>
   refine (tells_q8 H (Q := fun w w' er p nl c co => er = 0 ∧ nl = (theL (g b) lo hi).length ∧ co = 0 ∧ OPairs w' p c (theL (g b) lo hi) ∧ (∀ bk off, p = some ⟨bk, off, none⟩ → w.heap.size ≤ bk) ∧ (theL (g b) lo hi).length ≤ n) (fun w cw => ?_)).mono ?_
   ·refine (asks_8 (H.quiet cw) ho.hk hh hn ho.lo ho.hi).mono ?_
    rintro e w' ⟨⟨p, c, l, rfl, ⟨h0, h00⟩, h1, h2⟩, c9⟩
    rw [theL_eq h0]
    exact ⟨0, p, _, c, 0, rfl, ⟨rfl, rfl, rfl, h1, h2, h00⟩, c9⟩
   ·rintro e W' ⟨er, p, nl, c, co, w, w1, rfl, _, hs, ⟨rfl, rfl, rfl, h1, h2, h3⟩, k9, c9⟩
    have e1 : pcs h g hk = some (g b) := by simp [pcs, hh]
    rw [e1]
    have n87 : ¬ (8 : Int) = 7 := by omega
    simp only [if_neg n87, if_true]
    exact ⟨⟨p, c, rfl, h1.chgF k9 (fun bk off e => by have := h2 bk off e; omega), fun bk off e => by have := h2 bk off e; omega, Nat.le_trans h3 hn⟩, c9⟩
 by_cases k9 : kd = 9
 ·subst k9
  rw [if_pos (.inr (.inr rfl))]
  cases hh : h hk with
  | none =>
   refine (tells_q9 H (Q := fun w w' er p nl c co => er = 33 ∧ p = none ∧ nl = 0 ∧ c = 0 ∧ co = 0) (fun w cw => ?_)).mono ?_
   ·refine (asks_no (H.quiet cw) ho.hk hh).mono ?_
    rintro e w' ⟨rfl, c⟩
    exact ⟨33, none, 0, 0, 0, rfl, ⟨rfl, rfl, rfl, rfl, rfl⟩, c⟩
   ·rintro e W' ⟨er, p, nl, c, co, w, w1, rfl, _, _, ⟨rfl, rfl, rfl, rfl, rfl⟩, _, c9⟩
    exact ⟨told_plain (by simp [pcs, hh, errA]) (by simp [ansC, pcs, hh, errA]), c9⟩
  | some b =>
   refine (tells_q9 H (Q := fun w w' er p nl c co => er = 0 ∧ p = none ∧ nl = 0 ∧ c = 0 ∧ co = (theL (g b) lo hi).length) (fun w cw => ?_)).mono ?_
   ·refine (asks_9 (H.quiet cw) ho.hk hh hn ho.lo ho.hi (by omega) (by omega)).mono ?_
    rintro e w' ⟨⟨l, rfl, h0, h00⟩, c9⟩
    rw [theL_eq h0]
    exact ⟨0, none, 0, 0, _, rfl, ⟨rfl, rfl, rfl, rfl, rfl⟩, c9⟩
   ·rintro e W' ⟨er, p, nl, c, co, w, w1, rfl, _, _, ⟨rfl, rfl, rfl, rfl, rfl⟩, _, c9⟩
    have e1 : pcs h g hk = some (g b) := by simp [pcs, hh]
    rw [e1]
    have n97 : ¬ (9 : Int) = 7 := by omega
    have n98 : ¬ (9 : Int) = 8 := by omega
    simp only [if_neg n97, if_neg n98]
    exact ⟨told_plain rfl rfl, c9⟩
 rw [if_neg (by simp [k7, k8, k9])]
 by_cases k10 : kd = 10
 ·subst k10
  rw [if_pos rfl]
  refine (tells_10 H).mono ?_
  rintro e W' ⟨rfl, c⟩
  exact ⟨told_plain rfl (by simp [ansC, errA]), c⟩
 rw [if_neg k10]
 refine (tells_no H k1 k2 k3 k4 k5 k6 k7 k8 k9 k10).mono ?_
 rintro e W' ⟨rfl, c⟩
 exact ⟨told_plain rfl (by simp [ansC, errA]), c⟩
theorem MoAt.idle {W W' : World} {m nw hd mu : Nat} {f h : Nat → Option Nat} {g : Nat → Nat → Option Nat} {n : Nat} (H : MoAt W m nw hd mu f h g n) (c : Chg (fun _ => False) W W') (cl : Nat) (hcl : W.heap.size ≤ cl) : MoAt W' m nw hd mu f h (setG g cl f) (n + 1) :=
 ((H.quiet c).fresh (fun k b hb => by have := H.blk.2.2.2 k b hb; omega) f).mono (Nat.le_succ n)
theorem do_all {o : OpP} (ho : o.Ok) {r5 : Bool} {r6 r7 : Int} {kp p : Option Addr} {kc c : Nat} {A : Ans} (hth : A.h < 18446744073709551616) {W : World} {m nw hd mu : Nat} {f h : Nat → Option Nat} {g : Nat → Nat → Option Nat} {n : Nat} (H : MoAt W m nw hd mu f h g n) (hn : n ≤ 8796093022000) :
    Calls Tryz.prog 43 #[.pointer (some ⟨m, 0, none⟩), .agg (opC o r5 r6 r7 kp kc), .agg (ansC A p c)] W fun e W' => e = .returned (.tuple #[]) ∧ (∃ cl, W.heap.size ≤ cl ∧ MoAt W' m nw hd mu (doF o A f) (doH o A cl h) (setG g cl f) (n + 1)) ∧ Chg (fun i => i = nw ∨ i = hd) W W' := by
 have hmx : n < maxLen := by unfold maxLen; omega
 have fr : ∀ k b, h k = some b → b ≠ W.heap.size := fun k b hb => by have := H.blk.2.2.2 k b hb; omega
 obtain ⟨kd, k, v, od, hk, ks, lo, hi⟩ := o
 obtain ⟨ae, af, ax, ad, ah, al, an⟩ := A
 unfold doF doH opC ansC
 simp only at hth ⊢
 by_cases e0 : ae = 0
 ·subst e0
  by_cases k2 : kd = 2
  ·subst k2
   refine (do_putG H hmx ho.k ho.v).mono ?_
   rintro e W' ⟨rfl, hM, hC⟩
   refine ⟨rfl, ⟨W.heap.size, Nat.le_refl _, ?_⟩, hC.mono (fun i _ x => .inl x)⟩
   simpa using hM.fresh fr f
  by_cases k3 : kd = 3
  ·subst k3
   refine (do_delG H ho.k).mono ?_
   rintro e W' ⟨rfl, hM, hC⟩
   refine ⟨rfl, ⟨W.heap.size, Nat.le_refl _, ?_⟩, hC.mono (fun i _ x => .inl x)⟩
   simpa using (hM.fresh fr f).mono (Nat.le_succ n)
  by_cases k4 : kd = 4
  ·subst k4
   cases ad
   ·refine (do_swapF H).mono ?_
    rintro e W' ⟨rfl, hC⟩
    refine ⟨rfl, ⟨W.heap.size, Nat.le_refl _, ?_⟩, hC.mono (fun i _ x => x.elim)⟩
    simpa using H.idle hC W.heap.size (Nat.le_refl _)
   ·refine (do_swapT H hmx ho.k ho.v).mono ?_
    rintro e W' ⟨rfl, hM, hC⟩
    refine ⟨rfl, ⟨W.heap.size, Nat.le_refl _, ?_⟩, hC.mono (fun i _ x => .inl x)⟩
    simpa using hM.fresh fr f
  by_cases k5 : kd = 5
  ·subst k5
   by_cases t0 : ah = 0
   ·subst t0
    refine (do_snap0 H).mono ?_
    rintro e W' ⟨rfl, hC⟩
    refine ⟨rfl, ⟨W.heap.size, Nat.le_refl _, ?_⟩, hC.mono (fun i _ x => x.elim)⟩
    simpa using H.idle hC W.heap.size (Nat.le_refl _)
   ·refine (do_snapG H hn hth t0).mono ?_
    rintro e W' ⟨rfl, cl, hcl, hM, hC⟩
    refine ⟨rfl, ⟨cl, hcl, ?_⟩, hC.mono (fun i _ x => .inr x)⟩
    simpa [t0] using hM
  by_cases k6 : kd = 6
  ·subst k6
   refine (do_relG H ho.hk).mono ?_
   rintro e W' ⟨rfl, hM, hC⟩
   refine ⟨rfl, ⟨W.heap.size, Nat.le_refl _, ?_⟩, hC.mono (fun i _ x => .inr x)⟩
   have := (hM.fresh (cl := W.heap.size) (fun k b hb => by
    by_cases q : k = hk
    ·subst q; rw [updO_same] at hb; cases hb
    ·rw [updO_other _ _ q] at hb; exact fr k b hb) f).mono (Nat.le_succ n)
   simpa using this
  refine (do_else H k2 k3 k4 k5 k6).mono ?_
  rintro e W' ⟨rfl, hC⟩
  refine ⟨rfl, ⟨W.heap.size, Nat.le_refl _, ?_⟩, hC.mono (fun i _ x => x.elim)⟩
  simpa [k2, k3, k4, k5, k6] using H.idle hC W.heap.size (Nat.le_refl _)
 ·refine (do_err H e0).mono ?_
  rintro e W' ⟨rfl, hC⟩
  refine ⟨rfl, ⟨W.heap.size, Nat.le_refl _, ?_⟩, hC.mono (fun i _ x => x.elim)⟩
  simpa [e0] using H.idle hC W.heap.size (Nat.le_refl _)
theorem tellP_h (mu : Nat) (f : Nat → Option Nat) (pc : Nat → Option (Nat → Option Nat)) (o : OpP) {th : Nat} (hth : th < 18446744073709551616) : (tellP mu f pc o th).h < 18446744073709551616 := by
 unfold tellP
 split
 ·exact Nat.zero_lt_succ _
 split
 ·exact Nat.zero_lt_succ _
 split
 ·split
  ·exact Nat.zero_lt_succ _
  ·exact hth
 split
 ·split <;> exact Nat.zero_lt_succ _
 split
 ·exact Nat.zero_lt_succ _
 split
 ·split
  ·exact Nat.zero_lt_succ _
  ·split
   ·exact Nat.zero_lt_succ _
   ·split <;> exact Nat.zero_lt_succ _
 split <;> exact Nat.zero_lt_succ _
set_option maxRecDepth 100000 in
theorem Do_all {o : OpP} (ho : o.Ok) {r5 : Bool} {r6 r7 : Int} {kp : Option Addr} {kc th : Nat} (hth : th < 18446744073709551616) {W : World} {m nw hd mu : Nat} {f h : Nat → Option Nat} {g : Nat → Nat → Option Nat} {n : Nat} (H : MoAt W m nw hd mu f h g n) (hmu : mu ≤ 1024) (hn : n ≤ 8796093022000) (hks : KeysAt W kp o.ks) {A : Ans} (hA : A = tellP mu f (pcs h g) o th) :
    Calls Tryz.prog 17 #[.pointer (some ⟨m, 0, none⟩), .agg #[.int .u8 o.kd, .int .u64 o.k, .int .u64 o.v, .int .u64 o.od, .int .u64 o.hk, .bool r5, .int .i64 r6, .int .i64 r7, .slice kp o.ks.length kc, .int .u64 o.lo, .int .u64 o.hi], .int .u64 th] W fun e W' => Told W W' A e ∧ (∃ cl, W.heap.size ≤ cl ∧ MoAt W' m nw hd mu (doF o A f) (doH o A cl h) (setG g cl f) (n + 1)) ∧ Chg (fun i => i = nw ∨ i = hd) W W' := by
 have hAh : A.h < 18446744073709551616 := by rw [hA]; exact tellP_h mu f _ o hth
 obtain ⟨w0, hw0⟩ : ∃ w0, w0 = (W.alloc (.cells #[.int .u8 o.kd, .int .u64 o.k, .int .u64 o.v, .int .u64 o.od, .int .u64 o.hk, .bool r5, .int .i64 r6, .int .i64 r7, .slice kp o.ks.length kc, .int .u64 o.lo, .int .u64 o.hi] 35)).alloc (.cells #[.int .i64 0, .bool false, .int .u64 0, .bool false, .int .u64 0, .slice none 0 0, .int .u64 0] 39) := ⟨_, rfl⟩
 have C0 : Chg (fun _ => False) W w0 := by rw [hw0]; exact ((Chg.refl _ _).alloc _).alloc _
 have o0 : w0.heap[W.heap.size]? = some (.cells #[.int .u8 o.kd, .int .u64 o.k, .int .u64 o.v, .int .u64 o.od, .int .u64 o.hk, .bool r5, .int .i64 r6, .int .i64 r7, .slice kp o.ks.length kc, .int .u64 o.lo, .int .u64 o.hi] 35 (0, 0)) := by rw [hw0]; exact alloc_of (heap_alloc_new _ _) _
 have a0 : w0.heap[W.heap.size + 1]? = some (.cells #[.int .i64 0, .bool false, .int .u64 0, .bool false, .int .u64 0, .slice none 0 0, .int .u64 0] 39 (0, 0)) := by
  rw [hw0]
  exact al2
 have HC0 := keepH C0
 have HO0 := keepH o0
 have HA0 := keepH a0
 have HM0 := keepH (H.quiet C0)
 have HBL := keepH H.blk
 have HK0 := keepH (hks.chg C0 (fun _ _ _ x => x))
 have HOK := keepH ho
 have HT := keepH (tells_all ho (r5 := r5) (r6 := r6) (r7 := r7) (kc := kc) hth HM0.out hmu hn HK0.out)
 rw [← hA] at HT
 have HSZ : Hid (w0.heap.size = W.heap.size + 2) := by rw [hw0]; show _ = _; simp
 have HN : Hid (n ≤ 8796093022000 ∧ A.h < 18446744073709551616) := ⟨hn, hAh⟩
 have c0 : w0.cell? ⟨W.heap.size, 0, none⟩ = some (.int .u8 o.kd) := cell_of o0 0
 have c1 : w0.cell? ⟨W.heap.size, 1, none⟩ = some (.int .u64 o.k) := cell_of o0 1
 have c2 : w0.cell? ⟨W.heap.size, 2, none⟩ = some (.int .u64 o.v) := cell_of o0 2
 have c3 : w0.cell? ⟨W.heap.size, 3, none⟩ = some (.int .u64 o.od) := cell_of o0 3
 have c4 : w0.cell? ⟨W.heap.size, 4, none⟩ = some (.int .u64 o.hk) := cell_of o0 4
 have c5 : w0.cell? ⟨W.heap.size, 5, none⟩ = some (.bool r5) := cell_of o0 5
 have c6 : w0.cell? ⟨W.heap.size, 6, none⟩ = some (.int .i64 r6) := cell_of o0 6
 have c7 : w0.cell? ⟨W.heap.size, 7, none⟩ = some (.int .i64 r7) := cell_of o0 7
 have c8 : w0.cell? ⟨W.heap.size, 8, none⟩ = some (.slice kp o.ks.length kc) := cell_of o0 8
 have c9 : w0.cell? ⟨W.heap.size, 9, none⟩ = some (.int .u64 o.lo) := cell_of o0 9
 have c10 : w0.cell? ⟨W.heap.size, 10, none⟩ = some (.int .u64 o.hi) := cell_of o0 10
 clear C0 o0 a0 H hks ho hth hmu hA hAh hn
 go_enter Tryz.func17, Tryz.ntmps17
 go_upto_region 1 with fail
 rw [← hw0]
 clear hw0
 go_wp2_with fail
 refine HT.out.mono ?_
 rintro e w1 ⟨⟨p, c, rfl, hP, hPB, hPL⟩, C1⟩
 unfold ansC
 obtain ⟨w2, hw2⟩ : ∃ w2, w2 = w1.alloc (.cells #[.int .i64 A.e, .bool A.f, .int .u64 A.x, .bool A.d, .int .u64 A.h, .slice p A.l.length c, .int .u64 A.n] 39) := ⟨_, rfl⟩
 have C2 : Chg (fun _ => False) w0 w2 := by rw [hw2]; exact C1.alloc _
 have HT2 : Hid (w2.heap[w1.heap.size]? = some (.cells #[.int .i64 A.e, .bool A.f, .int .u64 A.x, .bool A.d, .int .u64 A.h, .slice p A.l.length c, .int .u64 A.n] 39 (0, 0))) := by rw [hw2]; exact heap_alloc_new _ _
 have HO2 : Hid (w2.heap[W.heap.size]? = some (.cells #[.int .u8 o.kd, .int .u64 o.k, .int .u64 o.v, .int .u64 o.od, .int .u64 o.hk, .bool r5, .int .i64 r6, .int .i64 r7, .slice kp o.ks.length kc, .int .u64 o.lo, .int .u64 o.hi] 35 (0, 0))) := (C2.block _ (lt_of HO0.out) (fun x => x)).trans HO0.out
 have HA2 : Hid (w2.heap[W.heap.size + 1]? = some (.cells #[.int .i64 0, .bool false, .int .u64 0, .bool false, .int .u64 0, .slice none 0 0, .int .u64 0] 39 (0, 0))) := (C2.block _ (lt_of HA0.out) (fun x => x)).trans HA0.out
 have HM2 := keepH (HM0.out.quiet C2)
 have HP2 : Hid (OPairs w2 p c A.l ∧ (∀ bk off, p = some ⟨bk, off, none⟩ → w0.heap.size ≤ bk) ∧ A.l.length ≤ 8796093022000) := ⟨hP.chg (by rw [hw2]; exact (Chg.refl _ _).alloc _), hPB, hPL⟩
 have HC2 : Hid (Chg (fun _ => False) W w2) := HC0.out.trans C2 (fun _ _ x => x) (fun _ _ x => x)
 have HZ2 : Hid (w0.heap.size ≤ w1.heap.size) := C1.size
 clear C1 C2 hP hPB hPL c0 c1 c2 c3 c4 c5 c6 c7 c8 c9 c10
 go_upto_region 4 with fail
 rw [← hw2]
 clear hw2
 have c0 : w2.cell? ⟨W.heap.size, 0, none⟩ = some (.int .u8 o.kd) := cell_of HO2.out 0
 have c1 : w2.cell? ⟨W.heap.size, 1, none⟩ = some (.int .u64 o.k) := cell_of HO2.out 1
 have c2 : w2.cell? ⟨W.heap.size, 2, none⟩ = some (.int .u64 o.v) := cell_of HO2.out 2
 have c3 : w2.cell? ⟨W.heap.size, 3, none⟩ = some (.int .u64 o.od) := cell_of HO2.out 3
 have c4 : w2.cell? ⟨W.heap.size, 4, none⟩ = some (.int .u64 o.hk) := cell_of HO2.out 4
 have c5 : w2.cell? ⟨W.heap.size, 5, none⟩ = some (.bool r5) := cell_of HO2.out 5
 have c6 : w2.cell? ⟨W.heap.size, 6, none⟩ = some (.int .i64 r6) := cell_of HO2.out 6
 have c7 : w2.cell? ⟨W.heap.size, 7, none⟩ = some (.int .i64 r7) := cell_of HO2.out 7
 have c8 : w2.cell? ⟨W.heap.size, 8, none⟩ = some (.slice kp o.ks.length kc) := cell_of HO2.out 8
 have c9 : w2.cell? ⟨W.heap.size, 9, none⟩ = some (.int .u64 o.lo) := cell_of HO2.out 9
 have c10 : w2.cell? ⟨W.heap.size, 10, none⟩ = some (.int .u64 o.hi) := cell_of HO2.out 10
 have t0 : w2.cell? ⟨w1.heap.size, 0, none⟩ = some (.int .i64 A.e) := cell_of HT2.out 0
 have t1 : w2.cell? ⟨w1.heap.size, 1, none⟩ = some (.bool A.f) := cell_of HT2.out 1
 have t2 : w2.cell? ⟨w1.heap.size, 2, none⟩ = some (.int .u64 A.x) := cell_of HT2.out 2
 have t3 : w2.cell? ⟨w1.heap.size, 3, none⟩ = some (.bool A.d) := cell_of HT2.out 3
 have t4 : w2.cell? ⟨w1.heap.size, 4, none⟩ = some (.int .u64 A.h) := cell_of HT2.out 4
 have t5 : w2.cell? ⟨w1.heap.size, 5, none⟩ = some (.slice p A.l.length c) := cell_of HT2.out 5
 have t6 : w2.cell? ⟨w1.heap.size, 6, none⟩ = some (.int .u64 A.n) := cell_of HT2.out 6
 have HD := keepH (do_all HOK.out (r5 := r5) (r6 := r6) (r7 := r7) (kp := kp) (kc := kc) (p := p) (c := c) HN.out.2 HM2.out HN.out.1)
 go_wp2_with fail
 refine HD.out.mono ?_
 rintro e w3 ⟨rfl, ⟨cl, hcl, hM3⟩, C3⟩
 have B3 : ¬ (w1.heap.size = nw ∨ w1.heap.size = hd) ∧ ¬ (W.heap.size + 1 = nw ∨ W.heap.size + 1 = hd) := by
  have z1 := HBL.out.2.1
  have z2 := HBL.out.2.2.1
  have z3 := HZ2.out
  have z4 := HSZ.out
  omega
 have HT3 : Hid (w3.heap[w1.heap.size]? = some (.cells #[.int .i64 A.e, .bool A.f, .int .u64 A.x, .bool A.d, .int .u64 A.h, .slice p A.l.length c, .int .u64 A.n] 39 (0, 0))) := (C3.block _ (lt_of HT2.out) B3.1).trans HT2.out
 have A3 : w3.heap[W.heap.size + 1]? = some (.cells #[.int .i64 0, .bool false, .int .u64 0, .bool false, .int .u64 0, .slice none 0 0, .int .u64 0] 39 (0, 0)) := (C3.block _ (lt_of HA2.out) B3.2).trans HA2.out
 have HC3 : Hid (Chg (fun i => i = nw ∨ i = hd) W w3) := HC2.out.trans C3 (fun _ _ x => x.elim) (fun _ _ x => x)
 have HCL : Hid (W.heap.size ≤ cl) := Nat.le_trans HC2.out.size hcl
 have HCLW : Hid (W.heap.size + 2 ≤ cl) := by have z1 := HSZ.out; have z2 := HZ2.out; have z3 := lt_of HT2.out; show _ ≤ _; omega
 have HM3 := keepH hM3
 have HP3 : Hid (OPairs w3 p c A.l) := HP2.out.1.chgF C3 (fun bk off e => by
  have z1 := HBL.out.2.1
  have z2 := HBL.out.2.2.1
  have z4 := HSZ.out
  have z5 := HP2.out.2.1 bk off e
  omega)
 clear hM3 C3 B3 hcl c0 c1 c2 c3 c4 c5 c6 c7 c8 c9 c10 t0 t1 t2 t3 t4 t5 t6
 obtain ⟨w4, hw4⟩ : ∃ w4, w4 = w3.setCells (W.heap.size + 1) 0 (#[.int .i64 A.e, .bool A.f, .int .u64 A.x, .bool A.d, .int .u64 A.h, .slice p A.l.length c, .int .u64 A.n] : Array Value).toList := ⟨_, rfl⟩
 have A4 : w4.heap[W.heap.size + 1]? = some (.cells #[.int .i64 A.e, .bool A.f, .int .u64 A.x, .bool A.d, .int .u64 A.h, .slice p A.l.length c, .int .u64 A.n] 39 (0, 0)) := by
  rw [hw4]
  exact setCells_of 39 (W.heap.size + 1) (#[.int .i64 A.e, .bool A.f, .int .u64 A.x, .bool A.d, .int .u64 A.h, .slice p A.l.length c, .int .u64 A.n] : Array Value).toList [] (#[.int .i64 0, .bool false, .int .u64 0, .bool false, .int .u64 0, .slice none 0 0, .int .u64 0] : Array Value).toList [] w3 A3 rfl
 have HK4 : Hid (Chg (fun k => k = W.heap.size + 1) w3 w4) := by rw [hw4]; exact setCells_chg (W.heap.size + 1) _ 0 _
 have HTH : Hid (w3.there (W.heap.size + 1) 0 7) := fun j hj => ⟨by rw [cell_of A3]; match j, hj with | 0, _ => rfl | 1, _ => rfl | 2, _ => rfl | 3, _ => rfl | 4, _ => rfl | 5, _ => rfl | 6, _ => rfl, free_of A3 _⟩
 have HW := keepH hw4
 have q0 : w4.cell? ⟨W.heap.size + 1, 0, none⟩ = some (.int .i64 A.e) := cell_of A4 0
 have q1 : w4.cell? ⟨W.heap.size + 1, 1, none⟩ = some (.bool A.f) := cell_of A4 1
 have q2 : w4.cell? ⟨W.heap.size + 1, 2, none⟩ = some (.int .u64 A.x) := cell_of A4 2
 have q3 : w4.cell? ⟨W.heap.size + 1, 3, none⟩ = some (.bool A.d) := cell_of A4 3
 have q4 : w4.cell? ⟨W.heap.size + 1, 4, none⟩ = some (.int .u64 A.h) := cell_of A4 4
 have q5 : w4.cell? ⟨W.heap.size + 1, 5, none⟩ = some (.slice p A.l.length c) := cell_of A4 5
 have q6 : w4.cell? ⟨W.heap.size + 1, 6, none⟩ = some (.int .u64 A.n) := cell_of A4 6
 have t0 : w3.cell? ⟨w1.heap.size, 0, none⟩ = some (.int .i64 A.e) := cell_of HT3.out 0
 have t1 : w3.cell? ⟨w1.heap.size, 1, none⟩ = some (.bool A.f) := cell_of HT3.out 1
 have t2 : w3.cell? ⟨w1.heap.size, 2, none⟩ = some (.int .u64 A.x) := cell_of HT3.out 2
 have t3 : w3.cell? ⟨w1.heap.size, 3, none⟩ = some (.bool A.d) := cell_of HT3.out 3
 have t4 : w3.cell? ⟨w1.heap.size, 4, none⟩ = some (.int .u64 A.h) := cell_of HT3.out 4
 have t5 : w3.cell? ⟨w1.heap.size, 5, none⟩ = some (.slice p A.l.length c) := cell_of HT3.out 5
 have t6 : w3.cell? ⟨w1.heap.size, 6, none⟩ = some (.int .u64 A.n) := cell_of HT3.out 6
 clear hw4 A3 A4
 go_wp2_with (refine wpList_store_mid rfl 39 (.tmp 6) (.tmp 19) rfl (W.heap.size + 1) 0 #[.int .i64 A.e, .bool A.f, .int .u64 A.x, .bool A.d, .int .u64 A.h, .slice p A.l.length c, .int .u64 A.n] rfl rfl HTH.out (by kernel_rfl) (by kernel_rfl) ?_; rw [← HW.out]; clear HW HTH)
 (try go_wp2_with fail)
 refine bodyPost_ret (v := .agg #[.int .i64 A.e, .bool A.f, .int .u64 A.x, .bool A.d, .int .u64 A.h, .slice p A.l.length c, .int .u64 A.n]) (by simp [results, Tryz.results17, go_sem, q0, q1, q2, q3, q4, q5, q6]) rfl ?_
 have z1 := HBL.out
 have z4 := HSZ.out
 have z5 := HC3.out.size
 refine ⟨⟨p, c, rfl, ?_, ?_, HP2.out.2.2⟩, ⟨cl, HCL.out, ?_⟩, HC3.out.trans HK4.out (fun _ _ x => x) (fun i hi e => by omega)⟩
 ·exact HP3.out.chgF HK4.out (fun bk off e => by have := HP2.out.2.1 bk off e; omega)
 ·intro bk off e
  have := HP2.out.2.1 bk off e
  omega
 ·refine HM3.out.chg HK4.out (by omega) (by omega) (by omega) (fun k b hb => ?_)
  have hlt : b < W.heap.size ∨ b = cl := by
   unfold doH at hb
   split at hb
   ·by_cases q : k = A.h
    ·subst q; rw [updO_same] at hb; injection hb with hb; exact .inr hb.symm
    ·rw [updO_other _ _ q] at hb; exact .inl (z1.2.2.2 k b hb)
   ·split at hb
    ·by_cases q : k = o.hk
     ·subst q; rw [updO_same] at hb; cases hb
     ·rw [updO_other _ _ q] at hb; exact .inl (z1.2.2.2 k b hb)
    ·exact .inl (z1.2.2.2 k b hb)
  have z6 := HCLW.out
  omega
end Go.Proofs.YtahgaghokpicgaaGreat
