/- The model's tells of queries. -/
import Derived.Test.YtnhfpnhmdfgckaaNh
namespace Go.Proofs.Ytnhfpnhmdfgckaa
open Go.RowKit Go.Maps
set_option linter.unusedVariables false

set_option maxRecDepth 100000 in
set_option maxHeartbeats 4000000 in
theorem tells_q8 {k v od hk lo hi kn kc : Nat} {r5 : Bool} {r6 r7 : Int} {kp : Option Addr} {th : Nat} {W : World} {m nw hd mu : Nat} {f h : Nat → Option Nat} {g : Nat → Nat → Option Nat} {n : Nat} (H : MoAt W m nw hd mu f h g n)  {Q : World → World → Int → Option Addr → Nat → Nat → Nat → Prop}
    (hA : ∀ w, Chg (fun _ => False) W w → Calls Try.prog 69 #[.pointer (some ⟨m, 0, none⟩), .agg #[.int .u8 8, .int .u64 (k : Int), .int .u64 (v : Int), .int .u64 (od : Int), .int .u64 (hk : Int), .bool r5, .int .i64 r6, .int .i64 r7, .slice kp kn kc, .int .u64 (lo : Int), .int .u64 (hi : Int)]] w fun e w' => ∃ er p nl c, ∃ co : Nat, e = .returned (.agg #[.int .i64 er, .bool false, .int .u64 0, .bool false, .int .u64 0, .slice p nl c, .int .u64 (co : Int)]) ∧ Q w w' er p nl c co ∧ Chg (fun _ => False) w w') :
    Calls Try.prog 57 #[.pointer (some ⟨m, 0, none⟩), .agg #[.int .u8 8, .int .u64 (k : Int), .int .u64 (v : Int), .int .u64 (od : Int), .int .u64 (hk : Int), .bool r5, .int .i64 r6, .int .i64 r7, .slice kp kn kc, .int .u64 (lo : Int), .int .u64 (hi : Int)], .int .u64 (th : Int)] W fun e W' => ∃ er p nl c, ∃ co : Nat, ∃ w w1, e = .returned (.agg #[.int .i64 er, .bool false, .int .u64 0, .bool false, .int .u64 0, .slice p nl c, .int .u64 (co : Int)]) ∧ Chg (fun _ => False) W w ∧ w.heap.size = W.heap.size + 3 ∧ Q w w1 er p nl c co ∧ Chg (fun i => i = W.heap.size + 1) w1 W' ∧ Chg (fun _ => False) W W' := by
  obtain ⟨w0, hw0⟩ : ∃ w0, w0 = ((W.alloc (.cells #[.int .u8 8, .int .u64 (k : Int), .int .u64 (v : Int), .int .u64 (od : Int), .int .u64 (hk : Int), .bool r5, .int .i64 r6, .int .i64 r7, .slice kp kn kc, .int .u64 (lo : Int), .int .u64 (hi : Int)] 66)).alloc (.cells #[.int .i64 0, .bool false, .int .u64 0, .bool false, .int .u64 0, .slice none 0 0, .int .u64 0] 59)).alloc (.cells #[.int .i64 0, .bool false, .int .u64 0, .bool false, .int .u64 0, .slice none 0 0, .int .u64 0] 59) := ⟨_, rfl⟩
  have C0 : Chg (fun _ => False) W w0 := by rw [hw0]; exact (((Chg.refl _ _).alloc _).alloc _).alloc _
  have o0 : w0.heap[W.heap.size]? = some (.cells #[.int .u8 8, .int .u64 (k : Int), .int .u64 (v : Int), .int .u64 (od : Int), .int .u64 (hk : Int), .bool r5, .int .i64 r6, .int .i64 r7, .slice kp kn kc, .int .u64 (lo : Int), .int .u64 (hi : Int)] 66 (0, 0)) := by rw [hw0]; exact alloc_of (alloc_of (heap_alloc_new _ _) _) _
  have a0 : w0.heap[W.heap.size + 1]? = some (.cells #[.int .i64 0, .bool false, .int .u64 0, .bool false, .int .u64 0, .slice none 0 0, .int .u64 0] 59 (0, 0)) := by
    have e := heap_alloc_new (W.alloc (.cells #[.int .u8 8, .int .u64 (k : Int), .int .u64 (v : Int), .int .u64 (od : Int), .int .u64 (hk : Int), .bool r5, .int .i64 r6, .int .i64 r7, .slice kp kn kc, .int .u64 (lo : Int), .int .u64 (hi : Int)] 66)) (.cells #[.int .i64 0, .bool false, .int .u64 0, .bool false, .int .u64 0, .slice none 0 0, .int .u64 0] 59)
    rw [World.size_alloc] at e
    rw [hw0]
    exact alloc_of e _
  have HSZ : Hid (w0.heap.size = W.heap.size + 3) := by rw [hw0]; show _ = _; simp
  have k00 : w0.cell? ⟨W.heap.size, 0, none⟩ = some (.int .u8 8) := cell_of o0 0
  have M0 := H.quiet C0
  have c0 : w0.cell? ⟨W.heap.size, 0, none⟩ = some (.int .u8 8) := cell_of o0 0
  have c1 : w0.cell? ⟨W.heap.size, 1, none⟩ = some (.int .u64 (k : Int)) := cell_of o0 1
  have c2 : w0.cell? ⟨W.heap.size, 2, none⟩ = some (.int .u64 (v : Int)) := cell_of o0 2
  have c3 : w0.cell? ⟨W.heap.size, 3, none⟩ = some (.int .u64 (od : Int)) := cell_of o0 3
  have c4 : w0.cell? ⟨W.heap.size, 4, none⟩ = some (.int .u64 (hk : Int)) := cell_of o0 4
  have c5 : w0.cell? ⟨W.heap.size, 5, none⟩ = some (.bool r5) := cell_of o0 5
  have c6 : w0.cell? ⟨W.heap.size, 6, none⟩ = some (.int .i64 r6) := cell_of o0 6
  have c7 : w0.cell? ⟨W.heap.size, 7, none⟩ = some (.int .i64 r7) := cell_of o0 7
  have c8 : w0.cell? ⟨W.heap.size, 8, none⟩ = some (.slice kp kn kc) := cell_of o0 8
  have c9 : w0.cell? ⟨W.heap.size, 9, none⟩ = some (.int .u64 (lo : Int)) := cell_of o0 9
  have c10 : w0.cell? ⟨W.heap.size, 10, none⟩ = some (.int .u64 (hi : Int)) := cell_of o0 10
  have HF := keepH (hA w0 C0)
  have HAD := keepH a0
  have HCD := keepH C0
  clear H C0 M0 o0 a0 hA
  go_enter Try.func57, Try.ntmps57
  go_upto_region 2 with fail
  rw [← hw0]
  clear hw0
  go_wp2_with fail
  refine HF.out.mono ?_
  rintro e w1 ⟨er, p, nl, c, co, rfl, hQ, C1⟩
  have a1 := (C1.block _ (lt_of HAD.out) (fun x => x)).trans HAD.out
  obtain ⟨w9, hw9⟩ : ∃ w9, w9 = w1.setCells (W.heap.size + 1) 0 (#[.int .i64 er, .bool false, .int .u64 0, .bool false, .int .u64 0, .slice p nl c, .int .u64 (co : Int)] : Array Value).toList := ⟨_, rfl⟩
  have A9 : w9.heap[W.heap.size + 1]? = some (.cells #[.int .i64 er, .bool false, .int .u64 0, .bool false, .int .u64 0, .slice p nl c, .int .u64 (co : Int)] 59 (0, 0)) := by
    rw [hw9]
    exact setCells_of 59 (W.heap.size + 1) (#[.int .i64 er, .bool false, .int .u64 0, .bool false, .int .u64 0, .slice p nl c, .int .u64 (co : Int)] : Array Value).toList [] (#[.int .i64 0, .bool false, .int .u64 0, .bool false, .int .u64 0, .slice none 0 0, .int .u64 0] : Array Value).toList [] w1 a1 rfl
  have HK9 : Hid (Chg (fun i => i = W.heap.size + 1) w1 w9) := by rw [hw9]; exact setCells_chg (W.heap.size + 1) _ 0 _
  have HC9 : Hid (Chg (fun _ => False) W w9) := (HCD.out.trans C1 (H := fun _ => False) (fun _ _ x => x) (fun _ _ x => x)).trans HK9.out (fun _ _ x => x) (fun i hi e => by omega)
  have HTH : Hid (w1.there (W.heap.size + 1) 0 7) := fun j hj => ⟨by rw [cell_of a1]; match j, hj with | 0, _ => rfl | 1, _ => rfl | 2, _ => rfl | 3, _ => rfl | 4, _ => rfl | 5, _ => rfl | 6, _ => rfl, free_of a1 _⟩
  have HW := keepH hw9
  have q0 : w9.cell? ⟨W.heap.size + 1, 0, none⟩ = some (.int .i64 er) := cell_of A9 0
  have q1 : w9.cell? ⟨W.heap.size + 1, 1, none⟩ = some (.bool false) := cell_of A9 1
  have q2 : w9.cell? ⟨W.heap.size + 1, 2, none⟩ = some (.int .u64 0) := cell_of A9 2
  have q3 : w9.cell? ⟨W.heap.size + 1, 3, none⟩ = some (.bool false) := cell_of A9 3
  have q4 : w9.cell? ⟨W.heap.size + 1, 4, none⟩ = some (.int .u64 0) := cell_of A9 4
  have q5 : w9.cell? ⟨W.heap.size + 1, 5, none⟩ = some (.slice p nl c) := cell_of A9 5
  have q6 : w9.cell? ⟨W.heap.size + 1, 6, none⟩ = some (.int .u64 (co : Int)) := cell_of A9 6
  have HQ := keepH hQ
  clear hw9 A9 hQ C1 a1
  go_wp2_with (refine wpList_store_mid rfl 59 (.tmp 6) (.tmp 82) rfl (W.heap.size + 1) 0 #[.int .i64 er, .bool false, .int .u64 0, .bool false, .int .u64 0, .slice p nl c, .int .u64 (co : Int)] rfl rfl HTH.out (by kernel_rfl) (by kernel_rfl) ?_; rw [← HW.out]; clear HW HTH)
  (try go_wp2_with fail)
  refine bodyPost_ret (v := .agg #[.int .i64 er, .bool false, .int .u64 0, .bool false, .int .u64 0, .slice p nl c, .int .u64 (co : Int)]) (by simp [results, Try.results57, go_sem, q0, q1, q2, q3, q4, q5, q6]) rfl ⟨er, p, nl, c, co, _, w1, rfl, HCD.out, HSZ.out, HQ.out, HK9.out, HC9.out⟩
set_option maxRecDepth 100000 in
set_option maxHeartbeats 4000000 in
theorem tells_q9 {k v od hk lo hi kn kc : Nat} {r5 : Bool} {r6 r7 : Int} {kp : Option Addr} {th : Nat} {W : World} {m nw hd mu : Nat} {f h : Nat → Option Nat} {g : Nat → Nat → Option Nat} {n : Nat} (H : MoAt W m nw hd mu f h g n)  {Q : World → World → Int → Option Addr → Nat → Nat → Nat → Prop}
    (hA : ∀ w, Chg (fun _ => False) W w → Calls Try.prog 69 #[.pointer (some ⟨m, 0, none⟩), .agg #[.int .u8 9, .int .u64 (k : Int), .int .u64 (v : Int), .int .u64 (od : Int), .int .u64 (hk : Int), .bool r5, .int .i64 r6, .int .i64 r7, .slice kp kn kc, .int .u64 (lo : Int), .int .u64 (hi : Int)]] w fun e w' => ∃ er p nl c, ∃ co : Nat, e = .returned (.agg #[.int .i64 er, .bool false, .int .u64 0, .bool false, .int .u64 0, .slice p nl c, .int .u64 (co : Int)]) ∧ Q w w' er p nl c co ∧ Chg (fun _ => False) w w') :
    Calls Try.prog 57 #[.pointer (some ⟨m, 0, none⟩), .agg #[.int .u8 9, .int .u64 (k : Int), .int .u64 (v : Int), .int .u64 (od : Int), .int .u64 (hk : Int), .bool r5, .int .i64 r6, .int .i64 r7, .slice kp kn kc, .int .u64 (lo : Int), .int .u64 (hi : Int)], .int .u64 (th : Int)] W fun e W' => ∃ er p nl c, ∃ co : Nat, ∃ w w1, e = .returned (.agg #[.int .i64 er, .bool false, .int .u64 0, .bool false, .int .u64 0, .slice p nl c, .int .u64 (co : Int)]) ∧ Chg (fun _ => False) W w ∧ w.heap.size = W.heap.size + 3 ∧ Q w w1 er p nl c co ∧ Chg (fun i => i = W.heap.size + 1) w1 W' ∧ Chg (fun _ => False) W W' := by
  obtain ⟨w0, hw0⟩ : ∃ w0, w0 = ((W.alloc (.cells #[.int .u8 9, .int .u64 (k : Int), .int .u64 (v : Int), .int .u64 (od : Int), .int .u64 (hk : Int), .bool r5, .int .i64 r6, .int .i64 r7, .slice kp kn kc, .int .u64 (lo : Int), .int .u64 (hi : Int)] 66)).alloc (.cells #[.int .i64 0, .bool false, .int .u64 0, .bool false, .int .u64 0, .slice none 0 0, .int .u64 0] 59)).alloc (.cells #[.int .i64 0, .bool false, .int .u64 0, .bool false, .int .u64 0, .slice none 0 0, .int .u64 0] 59) := ⟨_, rfl⟩
  have C0 : Chg (fun _ => False) W w0 := by rw [hw0]; exact (((Chg.refl _ _).alloc _).alloc _).alloc _
  have o0 : w0.heap[W.heap.size]? = some (.cells #[.int .u8 9, .int .u64 (k : Int), .int .u64 (v : Int), .int .u64 (od : Int), .int .u64 (hk : Int), .bool r5, .int .i64 r6, .int .i64 r7, .slice kp kn kc, .int .u64 (lo : Int), .int .u64 (hi : Int)] 66 (0, 0)) := by rw [hw0]; exact alloc_of (alloc_of (heap_alloc_new _ _) _) _
  have a0 : w0.heap[W.heap.size + 1]? = some (.cells #[.int .i64 0, .bool false, .int .u64 0, .bool false, .int .u64 0, .slice none 0 0, .int .u64 0] 59 (0, 0)) := by
    have e := heap_alloc_new (W.alloc (.cells #[.int .u8 9, .int .u64 (k : Int), .int .u64 (v : Int), .int .u64 (od : Int), .int .u64 (hk : Int), .bool r5, .int .i64 r6, .int .i64 r7, .slice kp kn kc, .int .u64 (lo : Int), .int .u64 (hi : Int)] 66)) (.cells #[.int .i64 0, .bool false, .int .u64 0, .bool false, .int .u64 0, .slice none 0 0, .int .u64 0] 59)
    rw [World.size_alloc] at e
    rw [hw0]
    exact alloc_of e _
  have HSZ : Hid (w0.heap.size = W.heap.size + 3) := by rw [hw0]; show _ = _; simp
  have k00 : w0.cell? ⟨W.heap.size, 0, none⟩ = some (.int .u8 9) := cell_of o0 0
  have M0 := H.quiet C0
  have c0 : w0.cell? ⟨W.heap.size, 0, none⟩ = some (.int .u8 9) := cell_of o0 0
  have c1 : w0.cell? ⟨W.heap.size, 1, none⟩ = some (.int .u64 (k : Int)) := cell_of o0 1
  have c2 : w0.cell? ⟨W.heap.size, 2, none⟩ = some (.int .u64 (v : Int)) := cell_of o0 2
  have c3 : w0.cell? ⟨W.heap.size, 3, none⟩ = some (.int .u64 (od : Int)) := cell_of o0 3
  have c4 : w0.cell? ⟨W.heap.size, 4, none⟩ = some (.int .u64 (hk : Int)) := cell_of o0 4
  have c5 : w0.cell? ⟨W.heap.size, 5, none⟩ = some (.bool r5) := cell_of o0 5
  have c6 : w0.cell? ⟨W.heap.size, 6, none⟩ = some (.int .i64 r6) := cell_of o0 6
  have c7 : w0.cell? ⟨W.heap.size, 7, none⟩ = some (.int .i64 r7) := cell_of o0 7
  have c8 : w0.cell? ⟨W.heap.size, 8, none⟩ = some (.slice kp kn kc) := cell_of o0 8
  have c9 : w0.cell? ⟨W.heap.size, 9, none⟩ = some (.int .u64 (lo : Int)) := cell_of o0 9
  have c10 : w0.cell? ⟨W.heap.size, 10, none⟩ = some (.int .u64 (hi : Int)) := cell_of o0 10
  have HF := keepH (hA w0 C0)
  have HAD := keepH a0
  have HCD := keepH C0
  clear H C0 M0 o0 a0 hA
  go_enter Try.func57, Try.ntmps57
  go_upto_region 2 with fail
  rw [← hw0]
  clear hw0
  go_wp2_with fail
  refine HF.out.mono ?_
  rintro e w1 ⟨er, p, nl, c, co, rfl, hQ, C1⟩
  have a1 := (C1.block _ (lt_of HAD.out) (fun x => x)).trans HAD.out
  obtain ⟨w9, hw9⟩ : ∃ w9, w9 = w1.setCells (W.heap.size + 1) 0 (#[.int .i64 er, .bool false, .int .u64 0, .bool false, .int .u64 0, .slice p nl c, .int .u64 (co : Int)] : Array Value).toList := ⟨_, rfl⟩
  have A9 : w9.heap[W.heap.size + 1]? = some (.cells #[.int .i64 er, .bool false, .int .u64 0, .bool false, .int .u64 0, .slice p nl c, .int .u64 (co : Int)] 59 (0, 0)) := by
    rw [hw9]
    exact setCells_of 59 (W.heap.size + 1) (#[.int .i64 er, .bool false, .int .u64 0, .bool false, .int .u64 0, .slice p nl c, .int .u64 (co : Int)] : Array Value).toList [] (#[.int .i64 0, .bool false, .int .u64 0, .bool false, .int .u64 0, .slice none 0 0, .int .u64 0] : Array Value).toList [] w1 a1 rfl
  have HK9 : Hid (Chg (fun i => i = W.heap.size + 1) w1 w9) := by rw [hw9]; exact setCells_chg (W.heap.size + 1) _ 0 _
  have HC9 : Hid (Chg (fun _ => False) W w9) := (HCD.out.trans C1 (H := fun _ => False) (fun _ _ x => x) (fun _ _ x => x)).trans HK9.out (fun _ _ x => x) (fun i hi e => by omega)
  have HTH : Hid (w1.there (W.heap.size + 1) 0 7) := fun j hj => ⟨by rw [cell_of a1]; match j, hj with | 0, _ => rfl | 1, _ => rfl | 2, _ => rfl | 3, _ => rfl | 4, _ => rfl | 5, _ => rfl | 6, _ => rfl, free_of a1 _⟩
  have HW := keepH hw9
  have q0 : w9.cell? ⟨W.heap.size + 1, 0, none⟩ = some (.int .i64 er) := cell_of A9 0
  have q1 : w9.cell? ⟨W.heap.size + 1, 1, none⟩ = some (.bool false) := cell_of A9 1
  have q2 : w9.cell? ⟨W.heap.size + 1, 2, none⟩ = some (.int .u64 0) := cell_of A9 2
  have q3 : w9.cell? ⟨W.heap.size + 1, 3, none⟩ = some (.bool false) := cell_of A9 3
  have q4 : w9.cell? ⟨W.heap.size + 1, 4, none⟩ = some (.int .u64 0) := cell_of A9 4
  have q5 : w9.cell? ⟨W.heap.size + 1, 5, none⟩ = some (.slice p nl c) := cell_of A9 5
  have q6 : w9.cell? ⟨W.heap.size + 1, 6, none⟩ = some (.int .u64 (co : Int)) := cell_of A9 6
  have HQ := keepH hQ
  clear hw9 A9 hQ C1 a1
  go_wp2_with (refine wpList_store_mid rfl 59 (.tmp 6) (.tmp 82) rfl (W.heap.size + 1) 0 #[.int .i64 er, .bool false, .int .u64 0, .bool false, .int .u64 0, .slice p nl c, .int .u64 (co : Int)] rfl rfl HTH.out (by kernel_rfl) (by kernel_rfl) ?_; rw [← HW.out]; clear HW HTH)
  (try go_wp2_with fail)
  refine bodyPost_ret (v := .agg #[.int .i64 er, .bool false, .int .u64 0, .bool false, .int .u64 0, .slice p nl c, .int .u64 (co : Int)]) (by simp [results, Try.results57, go_sem, q0, q1, q2, q3, q4, q5, q6]) rfl ⟨er, p, nl, c, co, _, w1, rfl, HCD.out, HSZ.out, HQ.out, HK9.out, HC9.out⟩
set_option maxRecDepth 100000 in
set_option maxHeartbeats 4000000 in
theorem tells_q7 {k v od hk lo hi kn kc : Nat} {r5 : Bool} {r6 r7 : Int} {kp : Option Addr} {th : Nat} {W : World} {m nw hd mu : Nat} {f h : Nat → Option Nat} {g : Nat → Nat → Option Nat} {n : Nat} (H : MoAt W m nw hd mu f h g n) (hl : kn ≤ mu) (hmu : mu ≤ 1024) {Q : World → World → Int → Option Addr → Nat → Nat → Nat → Prop}
    (hA : ∀ w, Chg (fun _ => False) W w → Calls Try.prog 69 #[.pointer (some ⟨m, 0, none⟩), .agg #[.int .u8 7, .int .u64 (k : Int), .int .u64 (v : Int), .int .u64 (od : Int), .int .u64 (hk : Int), .bool r5, .int .i64 r6, .int .i64 r7, .slice kp kn kc, .int .u64 (lo : Int), .int .u64 (hi : Int)]] w fun e w' => ∃ er p nl c, ∃ co : Nat, e = .returned (.agg #[.int .i64 er, .bool false, .int .u64 0, .bool false, .int .u64 0, .slice p nl c, .int .u64 (co : Int)]) ∧ Q w w' er p nl c co ∧ Chg (fun _ => False) w w') :
    Calls Try.prog 57 #[.pointer (some ⟨m, 0, none⟩), .agg #[.int .u8 7, .int .u64 (k : Int), .int .u64 (v : Int), .int .u64 (od : Int), .int .u64 (hk : Int), .bool r5, .int .i64 r6, .int .i64 r7, .slice kp kn kc, .int .u64 (lo : Int), .int .u64 (hi : Int)], .int .u64 (th : Int)] W fun e W' => ∃ er p nl c, ∃ co : Nat, ∃ w w1, e = .returned (.agg #[.int .i64 er, .bool false, .int .u64 0, .bool false, .int .u64 0, .slice p nl c, .int .u64 (co : Int)]) ∧ Chg (fun _ => False) W w ∧ w.heap.size = W.heap.size + 3 ∧ Q w w1 er p nl c co ∧ Chg (fun i => i = W.heap.size + 1) w1 W' ∧ Chg (fun _ => False) W W' := by
  obtain ⟨w0, hw0⟩ : ∃ w0, w0 = ((W.alloc (.cells #[.int .u8 7, .int .u64 (k : Int), .int .u64 (v : Int), .int .u64 (od : Int), .int .u64 (hk : Int), .bool r5, .int .i64 r6, .int .i64 r7, .slice kp kn kc, .int .u64 (lo : Int), .int .u64 (hi : Int)] 66)).alloc (.cells #[.int .i64 0, .bool false, .int .u64 0, .bool false, .int .u64 0, .slice none 0 0, .int .u64 0] 59)).alloc (.cells #[.int .i64 0, .bool false, .int .u64 0, .bool false, .int .u64 0, .slice none 0 0, .int .u64 0] 59) := ⟨_, rfl⟩
  have C0 : Chg (fun _ => False) W w0 := by rw [hw0]; exact (((Chg.refl _ _).alloc _).alloc _).alloc _
  have o0 : w0.heap[W.heap.size]? = some (.cells #[.int .u8 7, .int .u64 (k : Int), .int .u64 (v : Int), .int .u64 (od : Int), .int .u64 (hk : Int), .bool r5, .int .i64 r6, .int .i64 r7, .slice kp kn kc, .int .u64 (lo : Int), .int .u64 (hi : Int)] 66 (0, 0)) := by rw [hw0]; exact alloc_of (alloc_of (heap_alloc_new _ _) _) _
  have a0 : w0.heap[W.heap.size + 1]? = some (.cells #[.int .i64 0, .bool false, .int .u64 0, .bool false, .int .u64 0, .slice none 0 0, .int .u64 0] 59 (0, 0)) := by
    have e := heap_alloc_new (W.alloc (.cells #[.int .u8 7, .int .u64 (k : Int), .int .u64 (v : Int), .int .u64 (od : Int), .int .u64 (hk : Int), .bool r5, .int .i64 r6, .int .i64 r7, .slice kp kn kc, .int .u64 (lo : Int), .int .u64 (hi : Int)] 66)) (.cells #[.int .i64 0, .bool false, .int .u64 0, .bool false, .int .u64 0, .slice none 0 0, .int .u64 0] 59)
    rw [World.size_alloc] at e
    rw [hw0]
    exact alloc_of e _
  have HSZ : Hid (w0.heap.size = W.heap.size + 3) := by rw [hw0]; show _ = _; simp
  have k00 : w0.cell? ⟨W.heap.size, 0, none⟩ = some (.int .u8 7) := cell_of o0 0
  have M0 := H.quiet C0
  have q : ¬ (mu : Int) < (kn : Int) := by omega
  have HS0 : Hid (w0.cell? ⟨m, 0, none⟩ = some (.int .i64 (mu : Int)) ∧ w0.cell? ⟨W.heap.size, 8, none⟩ = some (.slice kp kn kc)) := ⟨cell_of M0.md 0, cell_of o0 8⟩
  obtain ⟨wd, hwd⟩ : ∃ wd, wd = w0.drew := ⟨_, rfl⟩
  have ad : wd.heap[W.heap.size + 1]? = some (.cells #[.int .i64 0, .bool false, .int .u64 0, .bool false, .int .u64 0, .slice none 0 0, .int .u64 0] 59 (0, 0)) := by rw [hwd]; exact a0
  have odd : wd.heap[W.heap.size]? = some (.cells #[.int .u8 7, .int .u64 (k : Int), .int .u64 (v : Int), .int .u64 (od : Int), .int .u64 (hk : Int), .bool r5, .int .i64 r6, .int .i64 r7, .slice kp kn kc, .int .u64 (lo : Int), .int .u64 (hi : Int)] 66 (0, 0)) := by rw [hwd]; exact o0
  have Cd : Chg (fun _ => False) W wd := by rw [hwd]; exact C0.drew
  have HSZd : Hid (wd.heap.size = W.heap.size + 3) := by rw [hwd]; exact HSZ.out
  have c0 : wd.cell? ⟨W.heap.size, 0, none⟩ = some (.int .u8 7) := cell_of odd 0
  have c1 : wd.cell? ⟨W.heap.size, 1, none⟩ = some (.int .u64 (k : Int)) := cell_of odd 1
  have c2 : wd.cell? ⟨W.heap.size, 2, none⟩ = some (.int .u64 (v : Int)) := cell_of odd 2
  have c3 : wd.cell? ⟨W.heap.size, 3, none⟩ = some (.int .u64 (od : Int)) := cell_of odd 3
  have c4 : wd.cell? ⟨W.heap.size, 4, none⟩ = some (.int .u64 (hk : Int)) := cell_of odd 4
  have c5 : wd.cell? ⟨W.heap.size, 5, none⟩ = some (.bool r5) := cell_of odd 5
  have c6 : wd.cell? ⟨W.heap.size, 6, none⟩ = some (.int .i64 r6) := cell_of odd 6
  have c7 : wd.cell? ⟨W.heap.size, 7, none⟩ = some (.int .i64 r7) := cell_of odd 7
  have c8 : wd.cell? ⟨W.heap.size, 8, none⟩ = some (.slice kp kn kc) := cell_of odd 8
  have c9 : wd.cell? ⟨W.heap.size, 9, none⟩ = some (.int .u64 (lo : Int)) := cell_of odd 9
  have c10 : wd.cell? ⟨W.heap.size, 10, none⟩ = some (.int .u64 (hi : Int)) := cell_of odd 10
  have HF := keepH (hA wd Cd)
  have HAD := keepH ad
  have HCD := keepH Cd
  clear H C0 M0 o0 a0 hA Cd ad odd
  go_enter Try.func57, Try.ntmps57
  go_upto_region 2 with fail
  rw [← hw0]
  clear hw0
  go_upto_region 21 with fail
  go_region_held3 (fun w' => w'.cell? ⟨m, 0, none⟩ = some (.int .i64 (mu : Int)) ∧ w'.cell? ⟨W.heap.size, 8, none⟩ = some (.slice kp kn kc)) (first | exact HS0.out) (fail)
  all_goals (
    rw [← hwd]
    clear hwd
    go_wp2_with fail
    refine HF.out.mono ?_
    rintro e w1 ⟨er, p, nl, c, co, rfl, hQ, C1⟩
    have a1 := (C1.block _ (lt_of HAD.out) (fun x => x)).trans HAD.out
    obtain ⟨w9, hw9⟩ : ∃ w9, w9 = w1.setCells (W.heap.size + 1) 0 (#[.int .i64 er, .bool false, .int .u64 0, .bool false, .int .u64 0, .slice p nl c, .int .u64 (co : Int)] : Array Value).toList := ⟨_, rfl⟩
    have A9 : w9.heap[W.heap.size + 1]? = some (.cells #[.int .i64 er, .bool false, .int .u64 0, .bool false, .int .u64 0, .slice p nl c, .int .u64 (co : Int)] 59 (0, 0)) := by
      rw [hw9]
      exact setCells_of 59 (W.heap.size + 1) (#[.int .i64 er, .bool false, .int .u64 0, .bool false, .int .u64 0, .slice p nl c, .int .u64 (co : Int)] : Array Value).toList [] (#[.int .i64 0, .bool false, .int .u64 0, .bool false, .int .u64 0, .slice none 0 0, .int .u64 0] : Array Value).toList [] w1 a1 rfl
    have HK9 : Hid (Chg (fun i => i = W.heap.size + 1) w1 w9) := by rw [hw9]; exact setCells_chg (W.heap.size + 1) _ 0 _
    have HC9 : Hid (Chg (fun _ => False) W w9) := (HCD.out.trans C1 (H := fun _ => False) (fun _ _ x => x) (fun _ _ x => x)).trans HK9.out (fun _ _ x => x) (fun i hi e => by omega)
    have HTH : Hid (w1.there (W.heap.size + 1) 0 7) := fun j hj => ⟨by rw [cell_of a1]; match j, hj with | 0, _ => rfl | 1, _ => rfl | 2, _ => rfl | 3, _ => rfl | 4, _ => rfl | 5, _ => rfl | 6, _ => rfl, free_of a1 _⟩
    have HW := keepH hw9
    have q0 : w9.cell? ⟨W.heap.size + 1, 0, none⟩ = some (.int .i64 er) := cell_of A9 0
    have q1 : w9.cell? ⟨W.heap.size + 1, 1, none⟩ = some (.bool false) := cell_of A9 1
    have q2 : w9.cell? ⟨W.heap.size + 1, 2, none⟩ = some (.int .u64 0) := cell_of A9 2
    have q3 : w9.cell? ⟨W.heap.size + 1, 3, none⟩ = some (.bool false) := cell_of A9 3
    have q4 : w9.cell? ⟨W.heap.size + 1, 4, none⟩ = some (.int .u64 0) := cell_of A9 4
    have q5 : w9.cell? ⟨W.heap.size + 1, 5, none⟩ = some (.slice p nl c) := cell_of A9 5
    have q6 : w9.cell? ⟨W.heap.size + 1, 6, none⟩ = some (.int .u64 (co : Int)) := cell_of A9 6
    have HQ := keepH hQ
    clear hw9 A9 hQ C1 a1
    go_wp2_with (refine wpList_store_mid rfl 59 (.tmp 6) (.tmp 82) rfl (W.heap.size + 1) 0 #[.int .i64 er, .bool false, .int .u64 0, .bool false, .int .u64 0, .slice p nl c, .int .u64 (co : Int)] rfl rfl HTH.out (by kernel_rfl) (by kernel_rfl) ?_; rw [← HW.out]; clear HW HTH)
    (try go_wp2_with fail)
    refine bodyPost_ret (v := .agg #[.int .i64 er, .bool false, .int .u64 0, .bool false, .int .u64 0, .slice p nl c, .int .u64 (co : Int)]) (by simp [results, Try.results57, go_sem, q0, q1, q2, q3, q4, q5, q6]) rfl ⟨er, p, nl, c, co, _, w1, rfl, HCD.out, HSZd.out, HQ.out, HK9.out, HC9.out⟩)
end Go.Proofs.Ytnhfpnhmdfgckaa
