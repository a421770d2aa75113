/- The model's tells: what an operation tells. -/
import Derived.Test.YtahgaghokpicgaaGreatW5D6a
namespace Go.Proofs.YtahgaghokpicgaaGreat
open Go.RowKit Go.Maps
set_option linter.unusedVariables false
set_option maxHeartbeats 16000000
set_option maxRecDepth 100000 in
theorem tells_r (kd : Int) (hkd : kd = 1 ∨ kd = 2 ∨ kd = 3) {k v od hk lo hi kn kc : Nat} {r5 : Bool} {r6 r7 : Int} {kp : Option Addr} {th : Nat}  {W : World} {m nw hd mu : Nat} {f h : Nat → Option Nat} {g : Nat → Nat → Option Nat} {n : Nat} (H : MoAt W m nw hd mu f h g n) (hk64 : k < 18446744073709551616)  :
    Calls Tryz.prog 40 #[.pointer (some ⟨m, 0, none⟩), .agg #[.int .u8 kd, .int .u64 k, .int .u64 v, .int .u64 od, .int .u64 hk, .bool r5, .int .i64 r6, .int .i64 r7, .slice kp kn kc, .int .u64 lo, .int .u64 hi], .int .u64 th] W fun e W' => e = .returned (.agg #[.int .i64 0, .bool (f k).isSome, .int .u64 (((f k).getD 0 : Nat) : Int), .bool false, .int .u64 0, .slice none 0 0, .int .u64 0]) ∧ Chg (fun _ => False) W W' := by
 obtain ⟨w0, hw0⟩ : ∃ w0, w0 = ((W.alloc (.cells #[.int .u8 kd, .int .u64 k, .int .u64 v, .int .u64 od, .int .u64 hk, .bool r5, .int .i64 r6, .int .i64 r7, .slice kp kn kc, .int .u64 lo, .int .u64 hi] 35)).alloc (.cells #[.int .i64 0, .bool false, .int .u64 0, .bool false, .int .u64 0, .slice none 0 0, .int .u64 0] 39)).alloc (.cells #[.int .i64 0, .bool false, .int .u64 0, .bool false, .int .u64 0, .slice none 0 0, .int .u64 0] 39) := ⟨_, rfl⟩
 have C0 : Chg (fun _ => False) W w0 := by rw [hw0]; exact (((Chg.refl _ _).alloc _).alloc _).alloc _
 have o0 : w0.heap[W.heap.size]? = some (.cells #[.int .u8 kd, .int .u64 k, .int .u64 v, .int .u64 od, .int .u64 hk, .bool r5, .int .i64 r6, .int .i64 r7, .slice kp kn kc, .int .u64 lo, .int .u64 hi] 35 (0, 0)) := by rw [hw0]; exact alloc_of (alloc_of (heap_alloc_new _ _) _) _
 have a0 : w0.heap[W.heap.size + 1]? = some (.cells #[.int .i64 0, .bool false, .int .u64 0, .bool false, .int .u64 0, .slice none 0 0, .int .u64 0] 39 (0, 0)) := by
  rw [hw0]
  exact alloc_of al2 _
 have b0 : w0.heap[W.heap.size + 1 + 1]? = some (.cells #[.int .i64 0, .bool false, .int .u64 0, .bool false, .int .u64 0, .slice none 0 0, .int .u64 0] 39 (0, 0)) := by
  rw [hw0]
  exact al3
 have M0 := H.quiet C0
 have k0 : w0.cell? ⟨W.heap.size, 0, none⟩ = some (.int .u8 kd) := cell_of o0 0
 have hlm := H.blk.1
 have HS0 : Hid (w0.cell? ⟨m, 1, none⟩ = some (.map (some nw)) ∧ w0.cell? ⟨W.heap.size, 1, none⟩ = some (.int .u64 k)) := ⟨cell_of M0.md 1, cell_of o0 1⟩
 have hl1 := MapAt.look (W := w0.drew) (MapR.chg (F := fun _ => False) M0.now (Chg.refl _ _).drew (fun x => x)) hk64
 have e2 : w0.cell? ⟨W.heap.size + 1 + 1, 2, none⟩ = some (.int .u64 0) := cell_of b0 2
 have g2 := free_of b0 2
 have b1 := bset b0 2 (.int .u64 ((((f k).getD 0 : Nat) : Int)))
 have e1 : (w0.setCell ⟨W.heap.size + 1 + 1, 2, none⟩ (.int .u64 ((((f k).getD 0 : Nat) : Int)))).cell? ⟨W.heap.size + 1 + 1, 1, none⟩ = some (.bool false) := cell_of b1 1
 have g1 := free_of b1 1
 have e1' : w0.cell? ⟨W.heap.size + 1 + 1, 1, none⟩ = some (.bool false) := cell_of b0 1
 have b2 := bset b1 1 (.bool ((f k).isSome))
 have hm1 : m ≠ W.heap.size + 1 + 1 := by omega
 have ho1 : W.heap.size ≠ W.heap.size + 1 + 1 := by omega
 have m1 := (Below.heap_setCell w0 ⟨W.heap.size + 1 + 1, 2, none⟩ (.int .u64 ((((f k).getD 0 : Nat) : Int))) m hm1).trans M0.md
 have o1 := (Below.heap_setCell w0 ⟨W.heap.size + 1 + 1, 2, none⟩ (.int .u64 ((((f k).getD 0 : Nat) : Int))) W.heap.size ho1).trans o0
 have hS5 : (w0.setCell ⟨W.heap.size + 1 + 1, 2, none⟩ (.int .u64 ((((f k).getD 0 : Nat) : Int)))).cell? ⟨m, 1, none⟩ = some (.map (some nw)) ∧ (w0.setCell ⟨W.heap.size + 1 + 1, 2, none⟩ (.int .u64 ((((f k).getD 0 : Nat) : Int)))).cell? ⟨W.heap.size, 1, none⟩ = some (.int .u64 k) := ⟨cell_of m1 1, cell_of o1 1⟩
 have m2 := (Below.heap_setCell (w0.setCell ⟨W.heap.size + 1 + 1, 2, none⟩ (.int .u64 ((((f k).getD 0 : Nat) : Int)))) ⟨W.heap.size + 1 + 1, 1, none⟩ (.bool ((f k).isSome)) m hm1).trans m1
 have o2 := (Below.heap_setCell (w0.setCell ⟨W.heap.size + 1 + 1, 2, none⟩ (.int .u64 ((((f k).getD 0 : Nat) : Int)))) ⟨W.heap.size + 1 + 1, 1, none⟩ (.bool ((f k).isSome)) W.heap.size ho1).trans o1
 have hS6 : ((w0.setCell ⟨W.heap.size + 1 + 1, 2, none⟩ (.int .u64 ((((f k).getD 0 : Nat) : Int)))).setCell ⟨W.heap.size + 1 + 1, 1, none⟩ (.bool ((f k).isSome))).cell? ⟨m, 1, none⟩ = some (.map (some nw)) ∧ ((w0.setCell ⟨W.heap.size + 1 + 1, 2, none⟩ (.int .u64 ((((f k).getD 0 : Nat) : Int)))).setCell ⟨W.heap.size + 1 + 1, 1, none⟩ (.bool ((f k).isSome))).cell? ⟨W.heap.size, 1, none⟩ = some (.int .u64 k) := ⟨cell_of m2 1, cell_of o2 1⟩
 obtain ⟨w1, hw1⟩ : ∃ w1, w1 = ((w0.setCell ⟨W.heap.size + 1 + 1, 2, none⟩ (.int .u64 ((((f k).getD 0 : Nat) : Int)))).setCell ⟨W.heap.size + 1 + 1, 1, none⟩ (.bool ((f k).isSome))).drew := ⟨_, rfl⟩
 have B1 : w1.heap[W.heap.size + 1 + 1]? = some (.cells #[.int .i64 0, .bool (f k).isSome, .int .u64 (((f k).getD 0 : Nat) : Int), .bool false, .int .u64 0, .slice none 0 0, .int .u64 0] 39 (0, 0)) := by rw [hw1]; exact b2
 have A1 : w1.heap[W.heap.size + 1]? = some (.cells #[.int .i64 0, .bool false, .int .u64 0, .bool false, .int .u64 0, .slice none 0 0, .int .u64 0] 39 (0, 0)) := by
  rw [hw1]
  have ne : W.heap.size + 1 ≠ W.heap.size + 1 + 1 := by omega
  exact (Below.heap_setCell _ _ _ _ ne).trans ((Below.heap_setCell _ _ _ _ ne).trans a0)
 have C1 : Chg (fun _ => False) W w1 := by
  rw [hw1]
  exact ((C0.trans (setP _) (fun _ _ x => x) (fun i hi e => by omega)).trans (setP _) (fun _ _ x => x) (fun i hi e => by omega)).drew
 have r0 : w1.cell? ⟨W.heap.size + 1 + 1, 0, none⟩ = some (.int .i64 0) := cell_of B1 0
 have r1 : w1.cell? ⟨W.heap.size + 1 + 1, 1, none⟩ = some (.bool (f k).isSome) := cell_of B1 1
 have r2 : w1.cell? ⟨W.heap.size + 1 + 1, 2, none⟩ = some (.int .u64 (((f k).getD 0 : Nat) : Int)) := cell_of B1 2
 have r3 : w1.cell? ⟨W.heap.size + 1 + 1, 3, none⟩ = some (.bool false) := cell_of B1 3
 have r4 : w1.cell? ⟨W.heap.size + 1 + 1, 4, none⟩ = some (.int .u64 0) := cell_of B1 4
 have r5 : w1.cell? ⟨W.heap.size + 1 + 1, 5, none⟩ = some (.slice none 0 0) := cell_of B1 5
 have r6 : w1.cell? ⟨W.heap.size + 1 + 1, 6, none⟩ = some (.int .u64 0) := cell_of B1 6
 obtain ⟨w9, hw9⟩ : ∃ w9, w9 = w1.setCells (W.heap.size + 1) 0 (#[.int .i64 0, .bool (f k).isSome, .int .u64 (((f k).getD 0 : Nat) : Int), .bool false, .int .u64 0, .slice none 0 0, .int .u64 0] : Array Value).toList := ⟨_, rfl⟩
 have A9 : w9.heap[W.heap.size + 1]? = some (.cells #[.int .i64 0, .bool (f k).isSome, .int .u64 (((f k).getD 0 : Nat) : Int), .bool false, .int .u64 0, .slice none 0 0, .int .u64 0] 39 (0, 0)) := by
  rw [hw9]
  exact setCells_of 39 (W.heap.size + 1) (#[.int .i64 0, .bool (f k).isSome, .int .u64 (((f k).getD 0 : Nat) : Int), .bool false, .int .u64 0, .slice none 0 0, .int .u64 0] : Array Value).toList [] (#[.int .i64 0, .bool false, .int .u64 0, .bool false, .int .u64 0, .slice none 0 0, .int .u64 0] : Array Value).toList [] w1 A1 rfl
 have HC9 : Hid (Chg (fun _ => False) W w9) := by rw [hw9]; exact (C1).trans (setCells_chg (W.heap.size + 1) _ 0 _) (fun _ _ x => x) (fun i hi e => by omega)
 have HTH : Hid (w1.there (W.heap.size + 1) 0 7) := fun j hj => ⟨by rw [cell_of A1]; match j, hj with | 0, _ => rfl | 1, _ => rfl | 2, _ => rfl | 3, _ => rfl | 4, _ => rfl | 5, _ => rfl | 6, _ => rfl, free_of A1 _⟩
 have HW := keepH hw9
 have q0 : w9.cell? ⟨W.heap.size + 1, 0, none⟩ = some (.int .i64 0) := cell_of A9 0
 have q1 : w9.cell? ⟨W.heap.size + 1, 1, none⟩ = some (.bool (f k).isSome) := cell_of A9 1
 have q2 : w9.cell? ⟨W.heap.size + 1, 2, none⟩ = some (.int .u64 (((f k).getD 0 : Nat) : Int)) := cell_of A9 2
 have q3 : w9.cell? ⟨W.heap.size + 1, 3, none⟩ = some (.bool false) := cell_of A9 3
 have q4 : w9.cell? ⟨W.heap.size + 1, 4, none⟩ = some (.int .u64 0) := cell_of A9 4
 have q5 : w9.cell? ⟨W.heap.size + 1, 5, none⟩ = some (.slice none 0 0) := cell_of A9 5
 have q6 : w9.cell? ⟨W.heap.size + 1, 6, none⟩ = some (.int .u64 0) := cell_of A9 6
 clear hw9 A9
 clear b1 b2 m1 m2 o1 o2 hlm hm1 ho1 b0 a0 M0 o0 C0 H A1 B1 C1
 rcases hkd with rfl | rfl | rfl
 all_goals
  go_enter Tryz.func40, Tryz.ntmps40
  go_upto_region 2 with fail
  rw [← hw0]
  clear hw0
  go_upto_region 15 with fail
  go_region_held3 (fun w' => w'.cell? ⟨m, 1, none⟩ = some (.map (some nw)) ∧ w'.cell? ⟨W.heap.size, 1, none⟩ = some (.int .u64 k)) (first | exact HS0.out | exact hS5 | exact hS6) (fail)
  all_goals (
   rw [← hw1]
   clear hw1
   go_wp2_with (refine wpList_store_mid rfl 39 (.tmp 6) (.tmp 84) rfl (W.heap.size + 1) 0 #[.int .i64 0, .bool (f k).isSome, .int .u64 (((f k).getD 0 : Nat) : Int), .bool false, .int .u64 0, .slice none 0 0, .int .u64 0] rfl rfl HTH.out (by kernel_rfl) (by kernel_rfl) ?_; rw [← HW.out]; clear HW HTH)
   (try go_wp2_with fail)
   refine bodyPost_ret (v := .agg #[.int .i64 0, .bool (f k).isSome, .int .u64 (((f k).getD 0 : Nat) : Int), .bool false, .int .u64 0, .slice none 0 0, .int .u64 0]) (by simp [results, Tryz.results40, go_sem, q0, q1, q2, q3, q4, q5, q6]) rfl ⟨rfl, HC9.out⟩)
theorem tells_r1 {k v od hk lo hi kn kc : Nat} {r5 : Bool} {r6 r7 : Int} {kp : Option Addr} {th : Nat}  {W : World} {m nw hd mu : Nat} {f h : Nat → Option Nat} {g : Nat → Nat → Option Nat} {n : Nat} (H : MoAt W m nw hd mu f h g n) (hk64 : k < 18446744073709551616)  :
    Calls Tryz.prog 40 #[.pointer (some ⟨m, 0, none⟩), .agg #[.int .u8 1, .int .u64 k, .int .u64 v, .int .u64 od, .int .u64 hk, .bool r5, .int .i64 r6, .int .i64 r7, .slice kp kn kc, .int .u64 lo, .int .u64 hi], .int .u64 th] W fun e W' => e = .returned (.agg #[.int .i64 0, .bool (f k).isSome, .int .u64 (((f k).getD 0 : Nat) : Int), .bool false, .int .u64 0, .slice none 0 0, .int .u64 0]) ∧ Chg (fun _ => False) W W' := tells_r 1 (by simp) H hk64
theorem tells_r2 {k v od hk lo hi kn kc : Nat} {r5 : Bool} {r6 r7 : Int} {kp : Option Addr} {th : Nat}  {W : World} {m nw hd mu : Nat} {f h : Nat → Option Nat} {g : Nat → Nat → Option Nat} {n : Nat} (H : MoAt W m nw hd mu f h g n) (hk64 : k < 18446744073709551616)  :
    Calls Tryz.prog 40 #[.pointer (some ⟨m, 0, none⟩), .agg #[.int .u8 2, .int .u64 k, .int .u64 v, .int .u64 od, .int .u64 hk, .bool r5, .int .i64 r6, .int .i64 r7, .slice kp kn kc, .int .u64 lo, .int .u64 hi], .int .u64 th] W fun e W' => e = .returned (.agg #[.int .i64 0, .bool (f k).isSome, .int .u64 (((f k).getD 0 : Nat) : Int), .bool false, .int .u64 0, .slice none 0 0, .int .u64 0]) ∧ Chg (fun _ => False) W W' := tells_r 2 (by simp) H hk64
theorem tells_r3 {k v od hk lo hi kn kc : Nat} {r5 : Bool} {r6 r7 : Int} {kp : Option Addr} {th : Nat}  {W : World} {m nw hd mu : Nat} {f h : Nat → Option Nat} {g : Nat → Nat → Option Nat} {n : Nat} (H : MoAt W m nw hd mu f h g n) (hk64 : k < 18446744073709551616)  :
    Calls Tryz.prog 40 #[.pointer (some ⟨m, 0, none⟩), .agg #[.int .u8 3, .int .u64 k, .int .u64 v, .int .u64 od, .int .u64 hk, .bool r5, .int .i64 r6, .int .i64 r7, .slice kp kn kc, .int .u64 lo, .int .u64 hi], .int .u64 th] W fun e W' => e = .returned (.agg #[.int .i64 0, .bool (f k).isSome, .int .u64 (((f k).getD 0 : Nat) : Int), .bool false, .int .u64 0, .slice none 0 0, .int .u64 0]) ∧ Chg (fun _ => False) W W' := tells_r 3 (by simp) H hk64
set_option maxRecDepth 100000 in
theorem tells_s0 {k v od hk lo hi kn kc : Nat} {r5 : Bool} {r6 r7 : Int} {kp : Option Addr} {th : Nat}  {W : World} {m nw hd mu : Nat} {f h : Nat → Option Nat} {g : Nat → Nat → Option Nat} {n : Nat} (H : MoAt W m nw hd mu f h g n) (hk64 : k < 18446744073709551616) (hf : f k = none) :
    Calls Tryz.prog 40 #[.pointer (some ⟨m, 0, none⟩), .agg #[.int .u8 4, .int .u64 k, .int .u64 v, .int .u64 od, .int .u64 hk, .bool r5, .int .i64 r6, .int .i64 r7, .slice kp kn kc, .int .u64 lo, .int .u64 hi], .int .u64 th] W fun e W' => e = .returned (.agg #[.int .i64 0, .bool false, .int .u64 (0 : Int), .bool false, .int .u64 0, .slice none 0 0, .int .u64 0]) ∧ Chg (fun _ => False) W W' := by
 obtain ⟨w0, hw0⟩ : ∃ w0, w0 = ((W.alloc (.cells #[.int .u8 4, .int .u64 k, .int .u64 v, .int .u64 od, .int .u64 hk, .bool r5, .int .i64 r6, .int .i64 r7, .slice kp kn kc, .int .u64 lo, .int .u64 hi] 35)).alloc (.cells #[.int .i64 0, .bool false, .int .u64 0, .bool false, .int .u64 0, .slice none 0 0, .int .u64 0] 39)).alloc (.cells #[.int .i64 0, .bool false, .int .u64 0, .bool false, .int .u64 0, .slice none 0 0, .int .u64 0] 39) := ⟨_, rfl⟩
 have C0 : Chg (fun _ => False) W w0 := by rw [hw0]; exact (((Chg.refl _ _).alloc _).alloc _).alloc _
 have o0 : w0.heap[W.heap.size]? = some (.cells #[.int .u8 4, .int .u64 k, .int .u64 v, .int .u64 od, .int .u64 hk, .bool r5, .int .i64 r6, .int .i64 r7, .slice kp kn kc, .int .u64 lo, .int .u64 hi] 35 (0, 0)) := by rw [hw0]; exact alloc_of (alloc_of (heap_alloc_new _ _) _) _
 have a0 : w0.heap[W.heap.size + 1]? = some (.cells #[.int .i64 0, .bool false, .int .u64 0, .bool false, .int .u64 0, .slice none 0 0, .int .u64 0] 39 (0, 0)) := by
  rw [hw0]
  exact alloc_of al2 _
 have b0 : w0.heap[W.heap.size + 1 + 1]? = some (.cells #[.int .i64 0, .bool false, .int .u64 0, .bool false, .int .u64 0, .slice none 0 0, .int .u64 0] 39 (0, 0)) := by
  rw [hw0]
  exact al3
 have M0 := H.quiet C0
 have k0 : w0.cell? ⟨W.heap.size, 0, none⟩ = some (.int .u8 4) := cell_of o0 0
 have hlm := H.blk.1
 have HS0 : Hid (w0.cell? ⟨m, 1, none⟩ = some (.map (some nw)) ∧ w0.cell? ⟨W.heap.size, 1, none⟩ = some (.int .u64 k)) := ⟨cell_of M0.md 1, cell_of o0 1⟩
 have hl0 := MapAt.look (W := w0.drew) (MapR.chg (F := fun _ => False) M0.now (Chg.refl _ _).drew (fun x => x)) hk64
 rw [hf] at hl0
 have hlq : (Instr.lookup 97 (.map (some nw)) (.int .u64 k) true).run Tryz.prog w0 = _ := MapAt.look M0.now hk64
 rw [hf] at hlq
 have cm1 : w0.cell? ⟨m, 1, none⟩ = some (.map (some nw)) := HS0.out.1
 have ck1 : w0.cell? ⟨W.heap.size, 1, none⟩ = some (.int .u64 k) := HS0.out.2
 have co3 : w0.drew.cell? ⟨W.heap.size, 3, none⟩ = some (.int .u64 od) := cell_of (W := w0.drew) o0 3
 have co3' : w0.cell? ⟨W.heap.size, 3, none⟩ = some (.int .u64 od) := cell_of o0 3
 have e3' : w0.cell? ⟨W.heap.size + 1 + 1, 3, none⟩ = some (.bool false) := cell_of b0 3
 have g3' := free_of b0 3
 have e3 : w0.drew.cell? ⟨W.heap.size + 1 + 1, 3, none⟩ = some (.bool false) := cell_of (W := w0.drew) b0 3
 have g3 := free_of (W := w0.drew) b0 3
 obtain ⟨wb, hwb⟩ : ∃ wb, wb = (w0.setCell ⟨W.heap.size + 1 + 1, 3, none⟩ (.bool false)).drew := ⟨_, rfl⟩
 have bb : wb.heap[W.heap.size + 1 + 1]? = some (.cells #[.int .i64 0, .bool false, .int .u64 0, .bool false, .int .u64 0, .slice none 0 0, .int .u64 0] 39 (0, 0)) := by rw [hwb]; exact bset b0 3 _
 have KB : Chg (fun i => i = W.heap.size + 1 + 1) w0 wb := by rw [hwb]; exact (setP _).drew
 have CB : Chg (fun _ => False) W wb := C0.trans KB (fun _ _ x => x) (fun i hi e => by omega)
 have MB := H.quiet CB
 have ob : wb.heap[W.heap.size]? = some (.cells #[.int .u8 4, .int .u64 k, .int .u64 v, .int .u64 od, .int .u64 hk, .bool r5, .int .i64 r6, .int .i64 r7, .slice kp kn kc, .int .u64 lo, .int .u64 hi] 35 (0, 0)) := (KB.block _ (lt_of o0) (by omega)).trans o0
 have ab : wb.heap[W.heap.size + 1]? = some (.cells #[.int .i64 0, .bool false, .int .u64 0, .bool false, .int .u64 0, .slice none 0 0, .int .u64 0] 39 (0, 0)) := (KB.block _ (lt_of a0) (by omega)).trans a0
 have HSB : Hid (wb.cell? ⟨m, 1, none⟩ = some (.map (some nw)) ∧ wb.cell? ⟨W.heap.size, 1, none⟩ = some (.int .u64 k)) := ⟨cell_of MB.md 1, cell_of ob 1⟩
 have hl1 := MapAt.look (W := wb.drew) (MapR.chg (F := fun _ => False) MB.now (Chg.refl _ _).drew (fun x => x)) hk64
 rw [hf] at hl1
 have e2 : wb.cell? ⟨W.heap.size + 1 + 1, 2, none⟩ = some (.int .u64 0) := cell_of bb 2
 have g2 := free_of bb 2
 have b1 := bset bb 2 (.int .u64 (0 : Int))
 have e1 : (wb.setCell ⟨W.heap.size + 1 + 1, 2, none⟩ (.int .u64 (0 : Int))).cell? ⟨W.heap.size + 1 + 1, 1, none⟩ = some (.bool false) := cell_of b1 1
 have g1 := free_of b1 1
 have e1' : wb.cell? ⟨W.heap.size + 1 + 1, 1, none⟩ = some (.bool false) := cell_of bb 1
 have b2 := bset b1 1 (.bool false)
 have hm1 : m ≠ W.heap.size + 1 + 1 := by omega
 have ho1 : W.heap.size ≠ W.heap.size + 1 + 1 := by omega
 have m1 := (Below.heap_setCell wb ⟨W.heap.size + 1 + 1, 2, none⟩ (.int .u64 (0 : Int)) m hm1).trans MB.md
 have o1 := (Below.heap_setCell wb ⟨W.heap.size + 1 + 1, 2, none⟩ (.int .u64 (0 : Int)) W.heap.size ho1).trans ob
 have hS5 : (wb.setCell ⟨W.heap.size + 1 + 1, 2, none⟩ (.int .u64 (0 : Int))).cell? ⟨m, 1, none⟩ = some (.map (some nw)) ∧ (wb.setCell ⟨W.heap.size + 1 + 1, 2, none⟩ (.int .u64 (0 : Int))).cell? ⟨W.heap.size, 1, none⟩ = some (.int .u64 k) := ⟨cell_of m1 1, cell_of o1 1⟩
 have m2 := (Below.heap_setCell (wb.setCell ⟨W.heap.size + 1 + 1, 2, none⟩ (.int .u64 (0 : Int))) ⟨W.heap.size + 1 + 1, 1, none⟩ (.bool false) m hm1).trans m1
 have o2 := (Below.heap_setCell (wb.setCell ⟨W.heap.size + 1 + 1, 2, none⟩ (.int .u64 (0 : Int))) ⟨W.heap.size + 1 + 1, 1, none⟩ (.bool false) W.heap.size ho1).trans o1
 have hS6 : ((wb.setCell ⟨W.heap.size + 1 + 1, 2, none⟩ (.int .u64 (0 : Int))).setCell ⟨W.heap.size + 1 + 1, 1, none⟩ (.bool false)).cell? ⟨m, 1, none⟩ = some (.map (some nw)) ∧ ((wb.setCell ⟨W.heap.size + 1 + 1, 2, none⟩ (.int .u64 (0 : Int))).setCell ⟨W.heap.size + 1 + 1, 1, none⟩ (.bool false)).cell? ⟨W.heap.size, 1, none⟩ = some (.int .u64 k) := ⟨cell_of m2 1, cell_of o2 1⟩
 obtain ⟨w1, hw1⟩ : ∃ w1, w1 = ((wb.setCell ⟨W.heap.size + 1 + 1, 2, none⟩ (.int .u64 (0 : Int))).setCell ⟨W.heap.size + 1 + 1, 1, none⟩ (.bool false)).drew := ⟨_, rfl⟩
 have B1 : w1.heap[W.heap.size + 1 + 1]? = some (.cells #[.int .i64 0, .bool false, .int .u64 (0 : Int), .bool false, .int .u64 0, .slice none 0 0, .int .u64 0] 39 (0, 0)) := by rw [hw1]; exact b2
 have A1 : w1.heap[W.heap.size + 1]? = some (.cells #[.int .i64 0, .bool false, .int .u64 0, .bool false, .int .u64 0, .slice none 0 0, .int .u64 0] 39 (0, 0)) := by
  rw [hw1]
  have ne : W.heap.size + 1 ≠ W.heap.size + 1 + 1 := by omega
  exact (Below.heap_setCell _ _ _ _ ne).trans ((Below.heap_setCell _ _ _ _ ne).trans ab)
 have C1 : Chg (fun _ => False) W w1 := by
  rw [hw1]
  exact ((CB.trans (setP _) (fun _ _ x => x) (fun i hi e => by omega)).trans (setP _) (fun _ _ x => x) (fun i hi e => by omega)).drew
 have r0 : w1.cell? ⟨W.heap.size + 1 + 1, 0, none⟩ = some (.int .i64 0) := cell_of B1 0
 have r1 : w1.cell? ⟨W.heap.size + 1 + 1, 1, none⟩ = some (.bool false) := cell_of B1 1
 have r2 : w1.cell? ⟨W.heap.size + 1 + 1, 2, none⟩ = some (.int .u64 (0 : Int)) := cell_of B1 2
 have r3 : w1.cell? ⟨W.heap.size + 1 + 1, 3, none⟩ = some (.bool false) := cell_of B1 3
 have r4 : w1.cell? ⟨W.heap.size + 1 + 1, 4, none⟩ = some (.int .u64 0) := cell_of B1 4
 have r5 : w1.cell? ⟨W.heap.size + 1 + 1, 5, none⟩ = some (.slice none 0 0) := cell_of B1 5
 have r6 : w1.cell? ⟨W.heap.size + 1 + 1, 6, none⟩ = some (.int .u64 0) := cell_of B1 6
 obtain ⟨w9, hw9⟩ : ∃ w9, w9 = w1.setCells (W.heap.size + 1) 0 (#[.int .i64 0, .bool false, .int .u64 (0 : Int), .bool false, .int .u64 0, .slice none 0 0, .int .u64 0] : Array Value).toList := ⟨_, rfl⟩
 have A9 : w9.heap[W.heap.size + 1]? = some (.cells #[.int .i64 0, .bool false, .int .u64 (0 : Int), .bool false, .int .u64 0, .slice none 0 0, .int .u64 0] 39 (0, 0)) := by
  rw [hw9]
  exact setCells_of 39 (W.heap.size + 1) (#[.int .i64 0, .bool false, .int .u64 (0 : Int), .bool false, .int .u64 0, .slice none 0 0, .int .u64 0] : Array Value).toList [] (#[.int .i64 0, .bool false, .int .u64 0, .bool false, .int .u64 0, .slice none 0 0, .int .u64 0] : Array Value).toList [] w1 A1 rfl
 have HC9 : Hid (Chg (fun _ => False) W w9) := by rw [hw9]; exact (C1).trans (setCells_chg (W.heap.size + 1) _ 0 _) (fun _ _ x => x) (fun i hi e => by omega)
 have HTH : Hid (w1.there (W.heap.size + 1) 0 7) := fun j hj => ⟨by rw [cell_of A1]; match j, hj with | 0, _ => rfl | 1, _ => rfl | 2, _ => rfl | 3, _ => rfl | 4, _ => rfl | 5, _ => rfl | 6, _ => rfl, free_of A1 _⟩
 have HW := keepH hw9
 have q0 : w9.cell? ⟨W.heap.size + 1, 0, none⟩ = some (.int .i64 0) := cell_of A9 0
 have q1 : w9.cell? ⟨W.heap.size + 1, 1, none⟩ = some (.bool false) := cell_of A9 1
 have q2 : w9.cell? ⟨W.heap.size + 1, 2, none⟩ = some (.int .u64 (0 : Int)) := cell_of A9 2
 have q3 : w9.cell? ⟨W.heap.size + 1, 3, none⟩ = some (.bool false) := cell_of A9 3
 have q4 : w9.cell? ⟨W.heap.size + 1, 4, none⟩ = some (.int .u64 0) := cell_of A9 4
 have q5 : w9.cell? ⟨W.heap.size + 1, 5, none⟩ = some (.slice none 0 0) := cell_of A9 5
 have q6 : w9.cell? ⟨W.heap.size + 1, 6, none⟩ = some (.int .u64 0) := cell_of A9 6
 clear hw9 A9
 clear b1 b2 m1 m2 o1 o2 hlm hm1 ho1 b0 a0 M0 o0 C0 H A1 B1 C1
 clear bb KB CB MB ob ab
 go_enter Tryz.func40, Tryz.ntmps40
 go_upto_region 2 with fail
 rw [← hw0]
 clear hw0
 go_upto_region 13 with fail
 go_region_held3 (fun w' => w'.cell? ⟨m, 1, none⟩ = some (.map (some nw)) ∧ w'.cell? ⟨W.heap.size, 1, none⟩ = some (.int .u64 k)) (first | exact HS0.out) (fail)
 all_goals (
  go_upto_region 15 with fail
  rw [← hwb]
  clear hwb e3 g3 co3 hl0 cm1 ck1 hlq co3' e3' g3'
  go_region_held3 (fun w' => w'.cell? ⟨m, 1, none⟩ = some (.map (some nw)) ∧ w'.cell? ⟨W.heap.size, 1, none⟩ = some (.int .u64 k)) (first | exact HSB.out | exact hS5 | exact hS6) (fail)
  all_goals (
   rw [← hw1]
   clear hw1
   go_wp2_with (refine wpList_store_mid rfl 39 (.tmp 6) (.tmp 84) rfl (W.heap.size + 1) 0 #[.int .i64 0, .bool false, .int .u64 (0 : Int), .bool false, .int .u64 0, .slice none 0 0, .int .u64 0] rfl rfl HTH.out (by kernel_rfl) (by kernel_rfl) ?_; rw [← HW.out]; clear HW HTH)
   (try go_wp2_with fail)
   refine bodyPost_ret (v := .agg #[.int .i64 0, .bool false, .int .u64 (0 : Int), .bool false, .int .u64 0, .slice none 0 0, .int .u64 0]) (by simp [results, Tryz.results40, go_sem, q0, q1, q2, q3, q4, q5, q6]) rfl ⟨rfl, HC9.out⟩))
set_option maxRecDepth 100000 in
theorem tells_s1 {k v od hk lo hi kn kc : Nat} {r5 : Bool} {r6 r7 : Int} {kp : Option Addr} {th : Nat} {x : Nat} {W : World} {m nw hd mu : Nat} {f h : Nat → Option Nat} {g : Nat → Nat → Option Nat} {n : Nat} (H : MoAt W m nw hd mu f h g n) (hk64 : k < 18446744073709551616) (hf : f k = some x) (hx : x = od) :
    Calls Tryz.prog 40 #[.pointer (some ⟨m, 0, none⟩), .agg #[.int .u8 4, .int .u64 k, .int .u64 v, .int .u64 od, .int .u64 hk, .bool r5, .int .i64 r6, .int .i64 r7, .slice kp kn kc, .int .u64 lo, .int .u64 hi], .int .u64 th] W fun e W' => e = .returned (.agg #[.int .i64 0, .bool true, .int .u64 ((x : Nat) : Int), .bool true, .int .u64 0, .slice none 0 0, .int .u64 0]) ∧ Chg (fun _ => False) W W' := by
 obtain ⟨w0, hw0⟩ : ∃ w0, w0 = ((W.alloc (.cells #[.int .u8 4, .int .u64 k, .int .u64 v, .int .u64 od, .int .u64 hk, .bool r5, .int .i64 r6, .int .i64 r7, .slice kp kn kc, .int .u64 lo, .int .u64 hi] 35)).alloc (.cells #[.int .i64 0, .bool false, .int .u64 0, .bool false, .int .u64 0, .slice none 0 0, .int .u64 0] 39)).alloc (.cells #[.int .i64 0, .bool false, .int .u64 0, .bool false, .int .u64 0, .slice none 0 0, .int .u64 0] 39) := ⟨_, rfl⟩
 have C0 : Chg (fun _ => False) W w0 := by rw [hw0]; exact (((Chg.refl _ _).alloc _).alloc _).alloc _
 have o0 : w0.heap[W.heap.size]? = some (.cells #[.int .u8 4, .int .u64 k, .int .u64 v, .int .u64 od, .int .u64 hk, .bool r5, .int .i64 r6, .int .i64 r7, .slice kp kn kc, .int .u64 lo, .int .u64 hi] 35 (0, 0)) := by rw [hw0]; exact alloc_of (alloc_of (heap_alloc_new _ _) _) _
 have a0 : w0.heap[W.heap.size + 1]? = some (.cells #[.int .i64 0, .bool false, .int .u64 0, .bool false, .int .u64 0, .slice none 0 0, .int .u64 0] 39 (0, 0)) := by
  rw [hw0]
  exact alloc_of al2 _
 have b0 : w0.heap[W.heap.size + 1 + 1]? = some (.cells #[.int .i64 0, .bool false, .int .u64 0, .bool false, .int .u64 0, .slice none 0 0, .int .u64 0] 39 (0, 0)) := by
  rw [hw0]
  exact al3
 have M0 := H.quiet C0
 have k0 : w0.cell? ⟨W.heap.size, 0, none⟩ = some (.int .u8 4) := cell_of o0 0
 have hlm := H.blk.1
 have HS0 : Hid (w0.cell? ⟨m, 1, none⟩ = some (.map (some nw)) ∧ w0.cell? ⟨W.heap.size, 1, none⟩ = some (.int .u64 k)) := ⟨cell_of M0.md 1, cell_of o0 1⟩
 have hl0 := MapAt.look (W := w0.drew) (MapR.chg (F := fun _ => False) M0.now (Chg.refl _ _).drew (fun x => x)) hk64
 rw [hf] at hl0
 have qx : (((x : Nat) : Int) == (od : Int)) = true := by simp [hx]
 have HQX := keepH hx
 clear hx
 have hlq : (Instr.lookup 97 (.map (some nw)) (.int .u64 k) true).run Tryz.prog w0 = _ := MapAt.look M0.now hk64
 rw [hf] at hlq
 have cm1 : w0.cell? ⟨m, 1, none⟩ = some (.map (some nw)) := HS0.out.1
 have ck1 : w0.cell? ⟨W.heap.size, 1, none⟩ = some (.int .u64 k) := HS0.out.2
 have co3 : w0.drew.cell? ⟨W.heap.size, 3, none⟩ = some (.int .u64 od) := cell_of (W := w0.drew) o0 3
 have co3' : w0.cell? ⟨W.heap.size, 3, none⟩ = some (.int .u64 od) := cell_of o0 3
 have e3' : w0.cell? ⟨W.heap.size + 1 + 1, 3, none⟩ = some (.bool false) := cell_of b0 3
 have g3' := free_of b0 3
 have e3 : w0.drew.cell? ⟨W.heap.size + 1 + 1, 3, none⟩ = some (.bool false) := cell_of (W := w0.drew) b0 3
 have g3 := free_of (W := w0.drew) b0 3
 obtain ⟨wb, hwb⟩ : ∃ wb, wb = (w0.setCell ⟨W.heap.size + 1 + 1, 3, none⟩ (.bool true)).drew := ⟨_, rfl⟩
 have bb : wb.heap[W.heap.size + 1 + 1]? = some (.cells #[.int .i64 0, .bool false, .int .u64 0, .bool true, .int .u64 0, .slice none 0 0, .int .u64 0] 39 (0, 0)) := by rw [hwb]; exact bset b0 3 _
 have KB : Chg (fun i => i = W.heap.size + 1 + 1) w0 wb := by rw [hwb]; exact (setP _).drew
 have CB : Chg (fun _ => False) W wb := C0.trans KB (fun _ _ x => x) (fun i hi e => by omega)
 have MB := H.quiet CB
 have ob : wb.heap[W.heap.size]? = some (.cells #[.int .u8 4, .int .u64 k, .int .u64 v, .int .u64 od, .int .u64 hk, .bool r5, .int .i64 r6, .int .i64 r7, .slice kp kn kc, .int .u64 lo, .int .u64 hi] 35 (0, 0)) := (KB.block _ (lt_of o0) (by omega)).trans o0
 have ab : wb.heap[W.heap.size + 1]? = some (.cells #[.int .i64 0, .bool false, .int .u64 0, .bool false, .int .u64 0, .slice none 0 0, .int .u64 0] 39 (0, 0)) := (KB.block _ (lt_of a0) (by omega)).trans a0
 have HSB : Hid (wb.cell? ⟨m, 1, none⟩ = some (.map (some nw)) ∧ wb.cell? ⟨W.heap.size, 1, none⟩ = some (.int .u64 k)) := ⟨cell_of MB.md 1, cell_of ob 1⟩
 have hl1 := MapAt.look (W := wb.drew) (MapR.chg (F := fun _ => False) MB.now (Chg.refl _ _).drew (fun x => x)) hk64
 rw [hf] at hl1
 have e2 : wb.cell? ⟨W.heap.size + 1 + 1, 2, none⟩ = some (.int .u64 0) := cell_of bb 2
 have g2 := free_of bb 2
 have b1 := bset bb 2 (.int .u64 ((x : Nat) : Int))
 have e1 : (wb.setCell ⟨W.heap.size + 1 + 1, 2, none⟩ (.int .u64 ((x : Nat) : Int))).cell? ⟨W.heap.size + 1 + 1, 1, none⟩ = some (.bool false) := cell_of b1 1
 have g1 := free_of b1 1
 have e1' : wb.cell? ⟨W.heap.size + 1 + 1, 1, none⟩ = some (.bool false) := cell_of bb 1
 have b2 := bset b1 1 (.bool true)
 have hm1 : m ≠ W.heap.size + 1 + 1 := by omega
 have ho1 : W.heap.size ≠ W.heap.size + 1 + 1 := by omega
 have m1 := (Below.heap_setCell wb ⟨W.heap.size + 1 + 1, 2, none⟩ (.int .u64 ((x : Nat) : Int)) m hm1).trans MB.md
 have o1 := (Below.heap_setCell wb ⟨W.heap.size + 1 + 1, 2, none⟩ (.int .u64 ((x : Nat) : Int)) W.heap.size ho1).trans ob
 have hS5 : (wb.setCell ⟨W.heap.size + 1 + 1, 2, none⟩ (.int .u64 ((x : Nat) : Int))).cell? ⟨m, 1, none⟩ = some (.map (some nw)) ∧ (wb.setCell ⟨W.heap.size + 1 + 1, 2, none⟩ (.int .u64 ((x : Nat) : Int))).cell? ⟨W.heap.size, 1, none⟩ = some (.int .u64 k) := ⟨cell_of m1 1, cell_of o1 1⟩
 have m2 := (Below.heap_setCell (wb.setCell ⟨W.heap.size + 1 + 1, 2, none⟩ (.int .u64 ((x : Nat) : Int))) ⟨W.heap.size + 1 + 1, 1, none⟩ (.bool true) m hm1).trans m1
 have o2 := (Below.heap_setCell (wb.setCell ⟨W.heap.size + 1 + 1, 2, none⟩ (.int .u64 ((x : Nat) : Int))) ⟨W.heap.size + 1 + 1, 1, none⟩ (.bool true) W.heap.size ho1).trans o1
 have hS6 : ((wb.setCell ⟨W.heap.size + 1 + 1, 2, none⟩ (.int .u64 ((x : Nat) : Int))).setCell ⟨W.heap.size + 1 + 1, 1, none⟩ (.bool true)).cell? ⟨m, 1, none⟩ = some (.map (some nw)) ∧ ((wb.setCell ⟨W.heap.size + 1 + 1, 2, none⟩ (.int .u64 ((x : Nat) : Int))).setCell ⟨W.heap.size + 1 + 1, 1, none⟩ (.bool true)).cell? ⟨W.heap.size, 1, none⟩ = some (.int .u64 k) := ⟨cell_of m2 1, cell_of o2 1⟩
 obtain ⟨w1, hw1⟩ : ∃ w1, w1 = ((wb.setCell ⟨W.heap.size + 1 + 1, 2, none⟩ (.int .u64 ((x : Nat) : Int))).setCell ⟨W.heap.size + 1 + 1, 1, none⟩ (.bool true)).drew := ⟨_, rfl⟩
 have B1 : w1.heap[W.heap.size + 1 + 1]? = some (.cells #[.int .i64 0, .bool true, .int .u64 ((x : Nat) : Int), .bool true, .int .u64 0, .slice none 0 0, .int .u64 0] 39 (0, 0)) := by rw [hw1]; exact b2
 have A1 : w1.heap[W.heap.size + 1]? = some (.cells #[.int .i64 0, .bool false, .int .u64 0, .bool false, .int .u64 0, .slice none 0 0, .int .u64 0] 39 (0, 0)) := by
  rw [hw1]
  have ne : W.heap.size + 1 ≠ W.heap.size + 1 + 1 := by omega
  exact (Below.heap_setCell _ _ _ _ ne).trans ((Below.heap_setCell _ _ _ _ ne).trans ab)
 have C1 : Chg (fun _ => False) W w1 := by
  rw [hw1]
  exact ((CB.trans (setP _) (fun _ _ x => x) (fun i hi e => by omega)).trans (setP _) (fun _ _ x => x) (fun i hi e => by omega)).drew
 have r0 : w1.cell? ⟨W.heap.size + 1 + 1, 0, none⟩ = some (.int .i64 0) := cell_of B1 0
 have r1 : w1.cell? ⟨W.heap.size + 1 + 1, 1, none⟩ = some (.bool true) := cell_of B1 1
 have r2 : w1.cell? ⟨W.heap.size + 1 + 1, 2, none⟩ = some (.int .u64 ((x : Nat) : Int)) := cell_of B1 2
 have r3 : w1.cell? ⟨W.heap.size + 1 + 1, 3, none⟩ = some (.bool true) := cell_of B1 3
 have r4 : w1.cell? ⟨W.heap.size + 1 + 1, 4, none⟩ = some (.int .u64 0) := cell_of B1 4
 have r5 : w1.cell? ⟨W.heap.size + 1 + 1, 5, none⟩ = some (.slice none 0 0) := cell_of B1 5
 have r6 : w1.cell? ⟨W.heap.size + 1 + 1, 6, none⟩ = some (.int .u64 0) := cell_of B1 6
 obtain ⟨w9, hw9⟩ : ∃ w9, w9 = w1.setCells (W.heap.size + 1) 0 (#[.int .i64 0, .bool true, .int .u64 ((x : Nat) : Int), .bool true, .int .u64 0, .slice none 0 0, .int .u64 0] : Array Value).toList := ⟨_, rfl⟩
 have A9 : w9.heap[W.heap.size + 1]? = some (.cells #[.int .i64 0, .bool true, .int .u64 ((x : Nat) : Int), .bool true, .int .u64 0, .slice none 0 0, .int .u64 0] 39 (0, 0)) := by
  rw [hw9]
  exact setCells_of 39 (W.heap.size + 1) (#[.int .i64 0, .bool true, .int .u64 ((x : Nat) : Int), .bool true, .int .u64 0, .slice none 0 0, .int .u64 0] : Array Value).toList [] (#[.int .i64 0, .bool false, .int .u64 0, .bool false, .int .u64 0, .slice none 0 0, .int .u64 0] : Array Value).toList [] w1 A1 rfl
 have HC9 : Hid (Chg (fun _ => False) W w9) := by rw [hw9]; exact (C1).trans (setCells_chg (W.heap.size + 1) _ 0 _) (fun _ _ x => x) (fun i hi e => by omega)
 have HTH : Hid (w1.there (W.heap.size + 1) 0 7) := fun j hj => ⟨by rw [cell_of A1]; match j, hj with | 0, _ => rfl | 1, _ => rfl | 2, _ => rfl | 3, _ => rfl | 4, _ => rfl | 5, _ => rfl | 6, _ => rfl, free_of A1 _⟩
 have HW := keepH hw9
 have q0 : w9.cell? ⟨W.heap.size + 1, 0, none⟩ = some (.int .i64 0) := cell_of A9 0
 have q1 : w9.cell? ⟨W.heap.size + 1, 1, none⟩ = some (.bool true) := cell_of A9 1
 have q2 : w9.cell? ⟨W.heap.size + 1, 2, none⟩ = some (.int .u64 ((x : Nat) : Int)) := cell_of A9 2
 have q3 : w9.cell? ⟨W.heap.size + 1, 3, none⟩ = some (.bool true) := cell_of A9 3
 have q4 : w9.cell? ⟨W.heap.size + 1, 4, none⟩ = some (.int .u64 0) := cell_of A9 4
 have q5 : w9.cell? ⟨W.heap.size + 1, 5, none⟩ = some (.slice none 0 0) := cell_of A9 5
 have q6 : w9.cell? ⟨W.heap.size + 1, 6, none⟩ = some (.int .u64 0) := cell_of A9 6
 clear hw9 A9
 clear b1 b2 m1 m2 o1 o2 hlm hm1 ho1 b0 a0 M0 o0 C0 H A1 B1 C1
 clear bb KB CB MB ob ab
 go_enter Tryz.func40, Tryz.ntmps40
 go_upto_region 2 with fail
 rw [← hw0]
 clear hw0
 go_upto_region 13 with fail
 go_region_held3 (fun w' => w'.cell? ⟨m, 1, none⟩ = some (.map (some nw)) ∧ w'.cell? ⟨W.heap.size, 1, none⟩ = some (.int .u64 k)) (first | exact HS0.out) (fail)
 all_goals (
  go_upto_region 15 with fail
  rw [← hwb]
  clear hwb e3 g3 co3 hl0 cm1 ck1 hlq co3' e3' g3'
  go_region_held3 (fun w' => w'.cell? ⟨m, 1, none⟩ = some (.map (some nw)) ∧ w'.cell? ⟨W.heap.size, 1, none⟩ = some (.int .u64 k)) (first | exact HSB.out | exact hS5 | exact hS6) (fail)
  all_goals (
   rw [← hw1]
   clear hw1
   go_wp2_with (refine wpList_store_mid rfl 39 (.tmp 6) (.tmp 84) rfl (W.heap.size + 1) 0 #[.int .i64 0, .bool true, .int .u64 ((x : Nat) : Int), .bool true, .int .u64 0, .slice none 0 0, .int .u64 0] rfl rfl HTH.out (by kernel_rfl) (by kernel_rfl) ?_; rw [← HW.out]; clear HW HTH)
   (try go_wp2_with fail)
   refine bodyPost_ret (v := .agg #[.int .i64 0, .bool true, .int .u64 ((x : Nat) : Int), .bool true, .int .u64 0, .slice none 0 0, .int .u64 0]) (by simp [results, Tryz.results40, go_sem, q0, q1, q2, q3, q4, q5, q6]) rfl ⟨rfl, HC9.out⟩))
set_option maxRecDepth 100000 in
theorem tells_s2 {k v od hk lo hi kn kc : Nat} {r5 : Bool} {r6 r7 : Int} {kp : Option Addr} {th : Nat} {x : Nat} {W : World} {m nw hd mu : Nat} {f h : Nat → Option Nat} {g : Nat → Nat → Option Nat} {n : Nat} (H : MoAt W m nw hd mu f h g n) (hk64 : k < 18446744073709551616) (hf : f k = some x) (hx : ¬ x = od) :
    Calls Tryz.prog 40 #[.pointer (some ⟨m, 0, none⟩), .agg #[.int .u8 4, .int .u64 k, .int .u64 v, .int .u64 od, .int .u64 hk, .bool r5, .int .i64 r6, .int .i64 r7, .slice kp kn kc, .int .u64 lo, .int .u64 hi], .int .u64 th] W fun e W' => e = .returned (.agg #[.int .i64 0, .bool true, .int .u64 ((x : Nat) : Int), .bool false, .int .u64 0, .slice none 0 0, .int .u64 0]) ∧ Chg (fun _ => False) W W' := by
 obtain ⟨w0, hw0⟩ : ∃ w0, w0 = ((W.alloc (.cells #[.int .u8 4, .int .u64 k, .int .u64 v, .int .u64 od, .int .u64 hk, .bool r5, .int .i64 r6, .int .i64 r7, .slice kp kn kc, .int .u64 lo, .int .u64 hi] 35)).alloc (.cells #[.int .i64 0, .bool false, .int .u64 0, .bool false, .int .u64 0, .slice none 0 0, .int .u64 0] 39)).alloc (.cells #[.int .i64 0, .bool false, .int .u64 0, .bool false, .int .u64 0, .slice none 0 0, .int .u64 0] 39) := ⟨_, rfl⟩
 have C0 : Chg (fun _ => False) W w0 := by rw [hw0]; exact (((Chg.refl _ _).alloc _).alloc _).alloc _
 have o0 : w0.heap[W.heap.size]? = some (.cells #[.int .u8 4, .int .u64 k, .int .u64 v, .int .u64 od, .int .u64 hk, .bool r5, .int .i64 r6, .int .i64 r7, .slice kp kn kc, .int .u64 lo, .int .u64 hi] 35 (0, 0)) := by rw [hw0]; exact alloc_of (alloc_of (heap_alloc_new _ _) _) _
 have a0 : w0.heap[W.heap.size + 1]? = some (.cells #[.int .i64 0, .bool false, .int .u64 0, .bool false, .int .u64 0, .slice none 0 0, .int .u64 0] 39 (0, 0)) := by
  rw [hw0]
  exact alloc_of al2 _
 have b0 : w0.heap[W.heap.size + 1 + 1]? = some (.cells #[.int .i64 0, .bool false, .int .u64 0, .bool false, .int .u64 0, .slice none 0 0, .int .u64 0] 39 (0, 0)) := by
  rw [hw0]
  exact al3
 have M0 := H.quiet C0
 have k0 : w0.cell? ⟨W.heap.size, 0, none⟩ = some (.int .u8 4) := cell_of o0 0
 have hlm := H.blk.1
 have HS0 : Hid (w0.cell? ⟨m, 1, none⟩ = some (.map (some nw)) ∧ w0.cell? ⟨W.heap.size, 1, none⟩ = some (.int .u64 k)) := ⟨cell_of M0.md 1, cell_of o0 1⟩
 have hl0 := MapAt.look (W := w0.drew) (MapR.chg (F := fun _ => False) M0.now (Chg.refl _ _).drew (fun x => x)) hk64
 rw [hf] at hl0
 have qx : (((x : Nat) : Int) == (od : Int)) = false := by simp; omega
 have HQX := keepH hx
 clear hx
 have hlq : (Instr.lookup 97 (.map (some nw)) (.int .u64 k) true).run Tryz.prog w0 = _ := MapAt.look M0.now hk64
 rw [hf] at hlq
 have cm1 : w0.cell? ⟨m, 1, none⟩ = some (.map (some nw)) := HS0.out.1
 have ck1 : w0.cell? ⟨W.heap.size, 1, none⟩ = some (.int .u64 k) := HS0.out.2
 have co3 : w0.drew.cell? ⟨W.heap.size, 3, none⟩ = some (.int .u64 od) := cell_of (W := w0.drew) o0 3
 have co3' : w0.cell? ⟨W.heap.size, 3, none⟩ = some (.int .u64 od) := cell_of o0 3
 have e3' : w0.cell? ⟨W.heap.size + 1 + 1, 3, none⟩ = some (.bool false) := cell_of b0 3
 have g3' := free_of b0 3
 have e3 : w0.drew.cell? ⟨W.heap.size + 1 + 1, 3, none⟩ = some (.bool false) := cell_of (W := w0.drew) b0 3
 have g3 := free_of (W := w0.drew) b0 3
 obtain ⟨wb, hwb⟩ : ∃ wb, wb = (w0.setCell ⟨W.heap.size + 1 + 1, 3, none⟩ (.bool false)).drew := ⟨_, rfl⟩
 have bb : wb.heap[W.heap.size + 1 + 1]? = some (.cells #[.int .i64 0, .bool false, .int .u64 0, .bool false, .int .u64 0, .slice none 0 0, .int .u64 0] 39 (0, 0)) := by rw [hwb]; exact bset b0 3 _
 have KB : Chg (fun i => i = W.heap.size + 1 + 1) w0 wb := by rw [hwb]; exact (setP _).drew
 have CB : Chg (fun _ => False) W wb := C0.trans KB (fun _ _ x => x) (fun i hi e => by omega)
 have MB := H.quiet CB
 have ob : wb.heap[W.heap.size]? = some (.cells #[.int .u8 4, .int .u64 k, .int .u64 v, .int .u64 od, .int .u64 hk, .bool r5, .int .i64 r6, .int .i64 r7, .slice kp kn kc, .int .u64 lo, .int .u64 hi] 35 (0, 0)) := (KB.block _ (lt_of o0) (by omega)).trans o0
 have ab : wb.heap[W.heap.size + 1]? = some (.cells #[.int .i64 0, .bool false, .int .u64 0, .bool false, .int .u64 0, .slice none 0 0, .int .u64 0] 39 (0, 0)) := (KB.block _ (lt_of a0) (by omega)).trans a0
 have HSB : Hid (wb.cell? ⟨m, 1, none⟩ = some (.map (some nw)) ∧ wb.cell? ⟨W.heap.size, 1, none⟩ = some (.int .u64 k)) := ⟨cell_of MB.md 1, cell_of ob 1⟩
 have hl1 := MapAt.look (W := wb.drew) (MapR.chg (F := fun _ => False) MB.now (Chg.refl _ _).drew (fun x => x)) hk64
 rw [hf] at hl1
 have e2 : wb.cell? ⟨W.heap.size + 1 + 1, 2, none⟩ = some (.int .u64 0) := cell_of bb 2
 have g2 := free_of bb 2
 have b1 := bset bb 2 (.int .u64 ((x : Nat) : Int))
 have e1 : (wb.setCell ⟨W.heap.size + 1 + 1, 2, none⟩ (.int .u64 ((x : Nat) : Int))).cell? ⟨W.heap.size + 1 + 1, 1, none⟩ = some (.bool false) := cell_of b1 1
 have g1 := free_of b1 1
 have e1' : wb.cell? ⟨W.heap.size + 1 + 1, 1, none⟩ = some (.bool false) := cell_of bb 1
 have b2 := bset b1 1 (.bool true)
 have hm1 : m ≠ W.heap.size + 1 + 1 := by omega
 have ho1 : W.heap.size ≠ W.heap.size + 1 + 1 := by omega
 have m1 := (Below.heap_setCell wb ⟨W.heap.size + 1 + 1, 2, none⟩ (.int .u64 ((x : Nat) : Int)) m hm1).trans MB.md
 have o1 := (Below.heap_setCell wb ⟨W.heap.size + 1 + 1, 2, none⟩ (.int .u64 ((x : Nat) : Int)) W.heap.size ho1).trans ob
 have hS5 : (wb.setCell ⟨W.heap.size + 1 + 1, 2, none⟩ (.int .u64 ((x : Nat) : Int))).cell? ⟨m, 1, none⟩ = some (.map (some nw)) ∧ (wb.setCell ⟨W.heap.size + 1 + 1, 2, none⟩ (.int .u64 ((x : Nat) : Int))).cell? ⟨W.heap.size, 1, none⟩ = some (.int .u64 k) := ⟨cell_of m1 1, cell_of o1 1⟩
 have m2 := (Below.heap_setCell (wb.setCell ⟨W.heap.size + 1 + 1, 2, none⟩ (.int .u64 ((x : Nat) : Int))) ⟨W.heap.size + 1 + 1, 1, none⟩ (.bool true) m hm1).trans m1
 have o2 := (Below.heap_setCell (wb.setCell ⟨W.heap.size + 1 + 1, 2, none⟩ (.int .u64 ((x : Nat) : Int))) ⟨W.heap.size + 1 + 1, 1, none⟩ (.bool true) W.heap.size ho1).trans o1
 have hS6 : ((wb.setCell ⟨W.heap.size + 1 + 1, 2, none⟩ (.int .u64 ((x : Nat) : Int))).setCell ⟨W.heap.size + 1 + 1, 1, none⟩ (.bool true)).cell? ⟨m, 1, none⟩ = some (.map (some nw)) ∧ ((wb.setCell ⟨W.heap.size + 1 + 1, 2, none⟩ (.int .u64 ((x : Nat) : Int))).setCell ⟨W.heap.size + 1 + 1, 1, none⟩ (.bool true)).cell? ⟨W.heap.size, 1, none⟩ = some (.int .u64 k) := ⟨cell_of m2 1, cell_of o2 1⟩
 obtain ⟨w1, hw1⟩ : ∃ w1, w1 = ((wb.setCell ⟨W.heap.size + 1 + 1, 2, none⟩ (.int .u64 ((x : Nat) : Int))).setCell ⟨W.heap.size + 1 + 1, 1, none⟩ (.bool true)).drew := ⟨_, rfl⟩
 have B1 : w1.heap[W.heap.size + 1 + 1]? = some (.cells #[.int .i64 0, .bool true, .int .u64 ((x : Nat) : Int), .bool false, .int .u64 0, .slice none 0 0, .int .u64 0] 39 (0, 0)) := by rw [hw1]; exact b2
 have A1 : w1.heap[W.heap.size + 1]? = some (.cells #[.int .i64 0, .bool false, .int .u64 0, .bool false, .int .u64 0, .slice none 0 0, .int .u64 0] 39 (0, 0)) := by
  rw [hw1]
  have ne : W.heap.size + 1 ≠ W.heap.size + 1 + 1 := by omega
  exact (Below.heap_setCell _ _ _ _ ne).trans ((Below.heap_setCell _ _ _ _ ne).trans ab)
 have C1 : Chg (fun _ => False) W w1 := by
  rw [hw1]
  exact ((CB.trans (setP _) (fun _ _ x => x) (fun i hi e => by omega)).trans (setP _) (fun _ _ x => x) (fun i hi e => by omega)).drew
 have r0 : w1.cell? ⟨W.heap.size + 1 + 1, 0, none⟩ = some (.int .i64 0) := cell_of B1 0
 have r1 : w1.cell? ⟨W.heap.size + 1 + 1, 1, none⟩ = some (.bool true) := cell_of B1 1
 have r2 : w1.cell? ⟨W.heap.size + 1 + 1, 2, none⟩ = some (.int .u64 ((x : Nat) : Int)) := cell_of B1 2
 have r3 : w1.cell? ⟨W.heap.size + 1 + 1, 3, none⟩ = some (.bool false) := cell_of B1 3
 have r4 : w1.cell? ⟨W.heap.size + 1 + 1, 4, none⟩ = some (.int .u64 0) := cell_of B1 4
 have r5 : w1.cell? ⟨W.heap.size + 1 + 1, 5, none⟩ = some (.slice none 0 0) := cell_of B1 5
 have r6 : w1.cell? ⟨W.heap.size + 1 + 1, 6, none⟩ = some (.int .u64 0) := cell_of B1 6
 obtain ⟨w9, hw9⟩ : ∃ w9, w9 = w1.setCells (W.heap.size + 1) 0 (#[.int .i64 0, .bool true, .int .u64 ((x : Nat) : Int), .bool false, .int .u64 0, .slice none 0 0, .int .u64 0] : Array Value).toList := ⟨_, rfl⟩
 have A9 : w9.heap[W.heap.size + 1]? = some (.cells #[.int .i64 0, .bool true, .int .u64 ((x : Nat) : Int), .bool false, .int .u64 0, .slice none 0 0, .int .u64 0] 39 (0, 0)) := by
  rw [hw9]
  exact setCells_of 39 (W.heap.size + 1) (#[.int .i64 0, .bool true, .int .u64 ((x : Nat) : Int), .bool false, .int .u64 0, .slice none 0 0, .int .u64 0] : Array Value).toList [] (#[.int .i64 0, .bool false, .int .u64 0, .bool false, .int .u64 0, .slice none 0 0, .int .u64 0] : Array Value).toList [] w1 A1 rfl
 have HC9 : Hid (Chg (fun _ => False) W w9) := by rw [hw9]; exact (C1).trans (setCells_chg (W.heap.size + 1) _ 0 _) (fun _ _ x => x) (fun i hi e => by omega)
 have HTH : Hid (w1.there (W.heap.size + 1) 0 7) := fun j hj => ⟨by rw [cell_of A1]; match j, hj with | 0, _ => rfl | 1, _ => rfl | 2, _ => rfl | 3, _ => rfl | 4, _ => rfl | 5, _ => rfl | 6, _ => rfl, free_of A1 _⟩
 have HW := keepH hw9
 have q0 : w9.cell? ⟨W.heap.size + 1, 0, none⟩ = some (.int .i64 0) := cell_of A9 0
 have q1 : w9.cell? ⟨W.heap.size + 1, 1, none⟩ = some (.bool true) := cell_of A9 1
 have q2 : w9.cell? ⟨W.heap.size + 1, 2, none⟩ = some (.int .u64 ((x : Nat) : Int)) := cell_of A9 2
 have q3 : w9.cell? ⟨W.heap.size + 1, 3, none⟩ = some (.bool false) := cell_of A9 3
 have q4 : w9.cell? ⟨W.heap.size + 1, 4, none⟩ = some (.int .u64 0) := cell_of A9 4
 have q5 : w9.cell? ⟨W.heap.size + 1, 5, none⟩ = some (.slice none 0 0) := cell_of A9 5
 have q6 : w9.cell? ⟨W.heap.size + 1, 6, none⟩ = some (.int .u64 0) := cell_of A9 6
 clear hw9 A9
 clear b1 b2 m1 m2 o1 o2 hlm hm1 ho1 b0 a0 M0 o0 C0 H A1 B1 C1
 clear bb KB CB MB ob ab
 go_enter Tryz.func40, Tryz.ntmps40
 go_upto_region 2 with fail
 rw [← hw0]
 clear hw0
 go_upto_region 13 with fail
 go_region_held3 (fun w' => w'.cell? ⟨m, 1, none⟩ = some (.map (some nw)) ∧ w'.cell? ⟨W.heap.size, 1, none⟩ = some (.int .u64 k)) (first | exact HS0.out) (fail)
 all_goals (
  go_upto_region 15 with fail
  rw [← hwb]
  clear hwb e3 g3 co3 hl0 cm1 ck1 hlq co3' e3' g3'
  go_region_held3 (fun w' => w'.cell? ⟨m, 1, none⟩ = some (.map (some nw)) ∧ w'.cell? ⟨W.heap.size, 1, none⟩ = some (.int .u64 k)) (first | exact HSB.out | exact hS5 | exact hS6) (fail)
  all_goals (
   rw [← hw1]
   clear hw1
   go_wp2_with (refine wpList_store_mid rfl 39 (.tmp 6) (.tmp 84) rfl (W.heap.size + 1) 0 #[.int .i64 0, .bool true, .int .u64 ((x : Nat) : Int), .bool false, .int .u64 0, .slice none 0 0, .int .u64 0] rfl rfl HTH.out (by kernel_rfl) (by kernel_rfl) ?_; rw [← HW.out]; clear HW HTH)
   (try go_wp2_with fail)
   refine bodyPost_ret (v := .agg #[.int .i64 0, .bool true, .int .u64 ((x : Nat) : Int), .bool false, .int .u64 0, .slice none 0 0, .int .u64 0]) (by simp [results, Tryz.results40, go_sem, q0, q1, q2, q3, q4, q5, q6]) rfl ⟨rfl, HC9.out⟩))
set_option maxRecDepth 100000 in
theorem tells_5T {k v od hk lo hi kn kc : Nat} {r5 : Bool} {r6 r7 : Int} {kp : Option Addr} {th : Nat}  {W : World} {m nw hd mu : Nat} {f h : Nat → Option Nat} {g : Nat → Nat → Option Nat} {n : Nat} (H : MoAt W m nw hd mu f h g n) (ht64 : th < 18446744073709551616) {b : Nat} (hh : h th = some b) :
    Calls Tryz.prog 40 #[.pointer (some ⟨m, 0, none⟩), .agg #[.int .u8 5, .int .u64 k, .int .u64 v, .int .u64 od, .int .u64 hk, .bool r5, .int .i64 r6, .int .i64 r7, .slice kp kn kc, .int .u64 lo, .int .u64 hi], .int .u64 th] W fun e W' => e = .returned (.agg #[.int .i64 32, .bool false, .int .u64 0, .bool false, .int .u64 0, .slice none 0 0, .int .u64 0]) ∧ Chg (fun _ => False) W W' := by
 obtain ⟨w0, hw0⟩ : ∃ w0, w0 = ((W.alloc (.cells #[.int .u8 5, .int .u64 k, .int .u64 v, .int .u64 od, .int .u64 hk, .bool r5, .int .i64 r6, .int .i64 r7, .slice kp kn kc, .int .u64 lo, .int .u64 hi] 35)).alloc (.cells #[.int .i64 0, .bool false, .int .u64 0, .bool false, .int .u64 0, .slice none 0 0, .int .u64 0] 39)).alloc (.cells #[.int .i64 0, .bool false, .int .u64 0, .bool false, .int .u64 0, .slice none 0 0, .int .u64 0] 39) := ⟨_, rfl⟩
 have C0 : Chg (fun _ => False) W w0 := by rw [hw0]; exact (((Chg.refl _ _).alloc _).alloc _).alloc _
 have o0 : w0.heap[W.heap.size]? = some (.cells #[.int .u8 5, .int .u64 k, .int .u64 v, .int .u64 od, .int .u64 hk, .bool r5, .int .i64 r6, .int .i64 r7, .slice kp kn kc, .int .u64 lo, .int .u64 hi] 35 (0, 0)) := by rw [hw0]; exact alloc_of (alloc_of (heap_alloc_new _ _) _) _
 have a0 : w0.heap[W.heap.size + 1]? = some (.cells #[.int .i64 0, .bool false, .int .u64 0, .bool false, .int .u64 0, .slice none 0 0, .int .u64 0] 39 (0, 0)) := by
  rw [hw0]
  exact alloc_of al2 _
 have b0 : w0.heap[W.heap.size + 1 + 1]? = some (.cells #[.int .i64 0, .bool false, .int .u64 0, .bool false, .int .u64 0, .slice none 0 0, .int .u64 0] 39 (0, 0)) := by
  rw [hw0]
  exact al3
 have M0 := H.quiet C0
 have k0 : w0.cell? ⟨W.heap.size, 0, none⟩ = some (.int .u8 5) := cell_of o0 0
 have hlm := H.blk.1
 have HH := keepH (holds_g M0 ht64)
 rw [hh] at HH
 obtain ⟨w9, hw9⟩ : ∃ w9, w9 = w0.setCells (W.heap.size + 1) 0 (#[.int .i64 32, .bool false, .int .u64 0, .bool false, .int .u64 0, .slice none 0 0, .int .u64 0] : Array Value).toList := ⟨_, rfl⟩
 have A9 : w9.heap[W.heap.size + 1]? = some (.cells #[.int .i64 32, .bool false, .int .u64 0, .bool false, .int .u64 0, .slice none 0 0, .int .u64 0] 39 (0, 0)) := by
  rw [hw9]
  exact setCells_of 39 (W.heap.size + 1) (#[.int .i64 32, .bool false, .int .u64 0, .bool false, .int .u64 0, .slice none 0 0, .int .u64 0] : Array Value).toList [] (#[.int .i64 0, .bool false, .int .u64 0, .bool false, .int .u64 0, .slice none 0 0, .int .u64 0] : Array Value).toList [] w0 a0 rfl
 have HC9 : Hid (Chg (fun _ => False) W w9) := by rw [hw9]; exact (C0).trans (setCells_chg (W.heap.size + 1) _ 0 _) (fun _ _ x => x) (fun i hi e => by omega)
 have HTH : Hid (w0.there (W.heap.size + 1) 0 7) := fun j hj => ⟨by rw [cell_of a0]; match j, hj with | 0, _ => rfl | 1, _ => rfl | 2, _ => rfl | 3, _ => rfl | 4, _ => rfl | 5, _ => rfl | 6, _ => rfl, free_of a0 _⟩
 have HW := keepH hw9
 have q0 : w9.cell? ⟨W.heap.size + 1, 0, none⟩ = some (.int .i64 32) := cell_of A9 0
 have q1 : w9.cell? ⟨W.heap.size + 1, 1, none⟩ = some (.bool false) := cell_of A9 1
 have q2 : w9.cell? ⟨W.heap.size + 1, 2, none⟩ = some (.int .u64 0) := cell_of A9 2
 have q3 : w9.cell? ⟨W.heap.size + 1, 3, none⟩ = some (.bool false) := cell_of A9 3
 have q4 : w9.cell? ⟨W.heap.size + 1, 4, none⟩ = some (.int .u64 0) := cell_of A9 4
 have q5 : w9.cell? ⟨W.heap.size + 1, 5, none⟩ = some (.slice none 0 0) := cell_of A9 5
 have q6 : w9.cell? ⟨W.heap.size + 1, 6, none⟩ = some (.int .u64 0) := cell_of A9 6
 clear hw9 A9
 clear H C0 o0 a0 b0 M0 hlm
 go_enter Tryz.func40, Tryz.ntmps40
 go_upto_region 2 with fail
 rw [← hw0]
 clear hw0
 go_wp2_with fail
 refine HH.out.mono ?_
 rintro e z ⟨rfl, rfl⟩
 go_wp2_with (refine wpList_store_mid rfl 39 (.tmp 6) (.tmp 62) rfl (W.heap.size + 1) 0 #[.int .i64 32, .bool false, .int .u64 0, .bool false, .int .u64 0, .slice none 0 0, .int .u64 0] rfl rfl HTH.out (by kernel_rfl) (by kernel_rfl) ?_; rw [← HW.out]; clear HW HTH)
 (try go_wp2_with fail)
 refine bodyPost_ret (v := .agg #[.int .i64 32, .bool false, .int .u64 0, .bool false, .int .u64 0, .slice none 0 0, .int .u64 0]) (by simp [results, Tryz.results40, go_sem, q0, q1, q2, q3, q4, q5, q6]) rfl ⟨rfl, HC9.out⟩
set_option maxRecDepth 100000 in
theorem tells_5F {k v od hk lo hi kn kc : Nat} {r5 : Bool} {r6 r7 : Int} {kp : Option Addr} {th : Nat}  {W : World} {m nw hd mu : Nat} {f h : Nat → Option Nat} {g : Nat → Nat → Option Nat} {n : Nat} (H : MoAt W m nw hd mu f h g n) (ht64 : th < 18446744073709551616) (hh : h th = none) :
    Calls Tryz.prog 40 #[.pointer (some ⟨m, 0, none⟩), .agg #[.int .u8 5, .int .u64 k, .int .u64 v, .int .u64 od, .int .u64 hk, .bool r5, .int .i64 r6, .int .i64 r7, .slice kp kn kc, .int .u64 lo, .int .u64 hi], .int .u64 th] W fun e W' => e = .returned (.agg #[.int .i64 0, .bool false, .int .u64 0, .bool false, .int .u64 th, .slice none 0 0, .int .u64 0]) ∧ Chg (fun _ => False) W W' := by
 obtain ⟨w0, hw0⟩ : ∃ w0, w0 = ((W.alloc (.cells #[.int .u8 5, .int .u64 k, .int .u64 v, .int .u64 od, .int .u64 hk, .bool r5, .int .i64 r6, .int .i64 r7, .slice kp kn kc, .int .u64 lo, .int .u64 hi] 35)).alloc (.cells #[.int .i64 0, .bool false, .int .u64 0, .bool false, .int .u64 0, .slice none 0 0, .int .u64 0] 39)).alloc (.cells #[.int .i64 0, .bool false, .int .u64 0, .bool false, .int .u64 0, .slice none 0 0, .int .u64 0] 39) := ⟨_, rfl⟩
 have C0 : Chg (fun _ => False) W w0 := by rw [hw0]; exact (((Chg.refl _ _).alloc _).alloc _).alloc _
 have o0 : w0.heap[W.heap.size]? = some (.cells #[.int .u8 5, .int .u64 k, .int .u64 v, .int .u64 od, .int .u64 hk, .bool r5, .int .i64 r6, .int .i64 r7, .slice kp kn kc, .int .u64 lo, .int .u64 hi] 35 (0, 0)) := by rw [hw0]; exact alloc_of (alloc_of (heap_alloc_new _ _) _) _
 have a0 : w0.heap[W.heap.size + 1]? = some (.cells #[.int .i64 0, .bool false, .int .u64 0, .bool false, .int .u64 0, .slice none 0 0, .int .u64 0] 39 (0, 0)) := by
  rw [hw0]
  exact alloc_of al2 _
 have b0 : w0.heap[W.heap.size + 1 + 1]? = some (.cells #[.int .i64 0, .bool false, .int .u64 0, .bool false, .int .u64 0, .slice none 0 0, .int .u64 0] 39 (0, 0)) := by
  rw [hw0]
  exact al3
 have M0 := H.quiet C0
 have k0 : w0.cell? ⟨W.heap.size, 0, none⟩ = some (.int .u8 5) := cell_of o0 0
 have hlm := H.blk.1
 have HH := keepH (holds_g M0 ht64)
 rw [hh] at HH
 have e4 : w0.cell? ⟨W.heap.size + 1 + 1, 4, none⟩ = some (.int .u64 0) := cell_of b0 4
 have g4 := free_of b0 4
 obtain ⟨w1, hw1⟩ : ∃ w1, w1 = w0.setCell ⟨W.heap.size + 1 + 1, 4, none⟩ (.int .u64 th) := ⟨_, rfl⟩
 have B1 : w1.heap[W.heap.size + 1 + 1]? = some (.cells #[.int .i64 0, .bool false, .int .u64 0, .bool false, .int .u64 th, .slice none 0 0, .int .u64 0] 39 (0, 0)) := by rw [hw1]; exact bset b0 4 _
 have A1 : w1.heap[W.heap.size + 1]? = some (.cells #[.int .i64 0, .bool false, .int .u64 0, .bool false, .int .u64 0, .slice none 0 0, .int .u64 0] 39 (0, 0)) := by
  rw [hw1]
  have ne : W.heap.size + 1 ≠ W.heap.size + 1 + 1 := by omega
  exact (Below.heap_setCell _ _ _ _ ne).trans a0
 have C1 : Chg (fun _ => False) W w1 := by
  rw [hw1]
  exact C0.trans (setP _) (fun _ _ x => x) (fun i hi e => by omega)
 have r0 : w1.cell? ⟨W.heap.size + 1 + 1, 0, none⟩ = some (.int .i64 0) := cell_of B1 0
 have r1 : w1.cell? ⟨W.heap.size + 1 + 1, 1, none⟩ = some (.bool false) := cell_of B1 1
 have r2 : w1.cell? ⟨W.heap.size + 1 + 1, 2, none⟩ = some (.int .u64 0) := cell_of B1 2
 have r3 : w1.cell? ⟨W.heap.size + 1 + 1, 3, none⟩ = some (.bool false) := cell_of B1 3
 have r4 : w1.cell? ⟨W.heap.size + 1 + 1, 4, none⟩ = some (.int .u64 th) := cell_of B1 4
 have r5 : w1.cell? ⟨W.heap.size + 1 + 1, 5, none⟩ = some (.slice none 0 0) := cell_of B1 5
 have r6 : w1.cell? ⟨W.heap.size + 1 + 1, 6, none⟩ = some (.int .u64 0) := cell_of B1 6
 obtain ⟨w9, hw9⟩ : ∃ w9, w9 = w1.setCells (W.heap.size + 1) 0 (#[.int .i64 0, .bool false, .int .u64 0, .bool false, .int .u64 th, .slice none 0 0, .int .u64 0] : Array Value).toList := ⟨_, rfl⟩
 have A9 : w9.heap[W.heap.size + 1]? = some (.cells #[.int .i64 0, .bool false, .int .u64 0, .bool false, .int .u64 th, .slice none 0 0, .int .u64 0] 39 (0, 0)) := by
  rw [hw9]
  exact setCells_of 39 (W.heap.size + 1) (#[.int .i64 0, .bool false, .int .u64 0, .bool false, .int .u64 th, .slice none 0 0, .int .u64 0] : Array Value).toList [] (#[.int .i64 0, .bool false, .int .u64 0, .bool false, .int .u64 0, .slice none 0 0, .int .u64 0] : Array Value).toList [] w1 A1 rfl
 have HC9 : Hid (Chg (fun _ => False) W w9) := by rw [hw9]; exact (C1).trans (setCells_chg (W.heap.size + 1) _ 0 _) (fun _ _ x => x) (fun i hi e => by omega)
 have HTH : Hid (w1.there (W.heap.size + 1) 0 7) := fun j hj => ⟨by rw [cell_of A1]; match j, hj with | 0, _ => rfl | 1, _ => rfl | 2, _ => rfl | 3, _ => rfl | 4, _ => rfl | 5, _ => rfl | 6, _ => rfl, free_of A1 _⟩
 have HW := keepH hw9
 have q0 : w9.cell? ⟨W.heap.size + 1, 0, none⟩ = some (.int .i64 0) := cell_of A9 0
 have q1 : w9.cell? ⟨W.heap.size + 1, 1, none⟩ = some (.bool false) := cell_of A9 1
 have q2 : w9.cell? ⟨W.heap.size + 1, 2, none⟩ = some (.int .u64 0) := cell_of A9 2
 have q3 : w9.cell? ⟨W.heap.size + 1, 3, none⟩ = some (.bool false) := cell_of A9 3
 have q4 : w9.cell? ⟨W.heap.size + 1, 4, none⟩ = some (.int .u64 th) := cell_of A9 4
 have q5 : w9.cell? ⟨W.heap.size + 1, 5, none⟩ = some (.slice none 0 0) := cell_of A9 5
 have q6 : w9.cell? ⟨W.heap.size + 1, 6, none⟩ = some (.int .u64 0) := cell_of A9 6
 clear hw9 A9
 clear H C0 o0 a0 b0 M0 hlm A1 B1 C1
 go_enter Tryz.func40, Tryz.ntmps40
 go_upto_region 2 with fail
 rw [← hw0]
 clear hw0
 go_wp2_with fail
 refine HH.out.mono ?_
 rintro e z ⟨rfl, rfl⟩
 go_upto_region 25 with fail
 rw [← hw1]
 clear hw1
 go_wp2_with (refine wpList_store_mid rfl 39 (.tmp 6) (.tmp 84) rfl (W.heap.size + 1) 0 #[.int .i64 0, .bool false, .int .u64 0, .bool false, .int .u64 th, .slice none 0 0, .int .u64 0] rfl rfl HTH.out (by kernel_rfl) (by kernel_rfl) ?_; rw [← HW.out]; clear HW HTH)
 (try go_wp2_with fail)
 refine bodyPost_ret (v := .agg #[.int .i64 0, .bool false, .int .u64 0, .bool false, .int .u64 th, .slice none 0 0, .int .u64 0]) (by simp [results, Tryz.results40, go_sem, q0, q1, q2, q3, q4, q5, q6]) rfl ⟨rfl, HC9.out⟩
set_option maxRecDepth 100000 in
theorem tells_6F {k v od hk lo hi kn kc : Nat} {r5 : Bool} {r6 r7 : Int} {kp : Option Addr} {th : Nat}  {W : World} {m nw hd mu : Nat} {f h : Nat → Option Nat} {g : Nat → Nat → Option Nat} {n : Nat} (H : MoAt W m nw hd mu f h g n) (hk64 : hk < 18446744073709551616) (hh : h hk = none) :
    Calls Tryz.prog 40 #[.pointer (some ⟨m, 0, none⟩), .agg #[.int .u8 6, .int .u64 k, .int .u64 v, .int .u64 od, .int .u64 hk, .bool r5, .int .i64 r6, .int .i64 r7, .slice kp kn kc, .int .u64 lo, .int .u64 hi], .int .u64 th] W fun e W' => e = .returned (.agg #[.int .i64 33, .bool false, .int .u64 0, .bool false, .int .u64 0, .slice none 0 0, .int .u64 0]) ∧ Chg (fun _ => False) W W' := by
 obtain ⟨w0, hw0⟩ : ∃ w0, w0 = ((W.alloc (.cells #[.int .u8 6, .int .u64 k, .int .u64 v, .int .u64 od, .int .u64 hk, .bool r5, .int .i64 r6, .int .i64 r7, .slice kp kn kc, .int .u64 lo, .int .u64 hi] 35)).alloc (.cells #[.int .i64 0, .bool false, .int .u64 0, .bool false, .int .u64 0, .slice none 0 0, .int .u64 0] 39)).alloc (.cells #[.int .i64 0, .bool false, .int .u64 0, .bool false, .int .u64 0, .slice none 0 0, .int .u64 0] 39) := ⟨_, rfl⟩
 have C0 : Chg (fun _ => False) W w0 := by rw [hw0]; exact (((Chg.refl _ _).alloc _).alloc _).alloc _
 have o0 : w0.heap[W.heap.size]? = some (.cells #[.int .u8 6, .int .u64 k, .int .u64 v, .int .u64 od, .int .u64 hk, .bool r5, .int .i64 r6, .int .i64 r7, .slice kp kn kc, .int .u64 lo, .int .u64 hi] 35 (0, 0)) := by rw [hw0]; exact alloc_of (alloc_of (heap_alloc_new _ _) _) _
 have a0 : w0.heap[W.heap.size + 1]? = some (.cells #[.int .i64 0, .bool false, .int .u64 0, .bool false, .int .u64 0, .slice none 0 0, .int .u64 0] 39 (0, 0)) := by
  rw [hw0]
  exact alloc_of al2 _
 have b0 : w0.heap[W.heap.size + 1 + 1]? = some (.cells #[.int .i64 0, .bool false, .int .u64 0, .bool false, .int .u64 0, .slice none 0 0, .int .u64 0] 39 (0, 0)) := by
  rw [hw0]
  exact al3
 have M0 := H.quiet C0
 have k0 : w0.cell? ⟨W.heap.size, 0, none⟩ = some (.int .u8 6) := cell_of o0 0
 have hlm := H.blk.1
 have HH := keepH (holds_g M0 hk64)
 rw [hh] at HH
 have c4 : w0.cell? ⟨W.heap.size, 4, none⟩ = some (.int .u64 hk) := cell_of o0 4
 obtain ⟨w9, hw9⟩ : ∃ w9, w9 = w0.setCells (W.heap.size + 1) 0 (#[.int .i64 33, .bool false, .int .u64 0, .bool false, .int .u64 0, .slice none 0 0, .int .u64 0] : Array Value).toList := ⟨_, rfl⟩
 have A9 : w9.heap[W.heap.size + 1]? = some (.cells #[.int .i64 33, .bool false, .int .u64 0, .bool false, .int .u64 0, .slice none 0 0, .int .u64 0] 39 (0, 0)) := by
  rw [hw9]
  exact setCells_of 39 (W.heap.size + 1) (#[.int .i64 33, .bool false, .int .u64 0, .bool false, .int .u64 0, .slice none 0 0, .int .u64 0] : Array Value).toList [] (#[.int .i64 0, .bool false, .int .u64 0, .bool false, .int .u64 0, .slice none 0 0, .int .u64 0] : Array Value).toList [] w0 a0 rfl
 have HC9 : Hid (Chg (fun _ => False) W w9) := by rw [hw9]; exact (C0).trans (setCells_chg (W.heap.size + 1) _ 0 _) (fun _ _ x => x) (fun i hi e => by omega)
 have HTH : Hid (w0.there (W.heap.size + 1) 0 7) := fun j hj => ⟨by rw [cell_of a0]; match j, hj with | 0, _ => rfl | 1, _ => rfl | 2, _ => rfl | 3, _ => rfl | 4, _ => rfl | 5, _ => rfl | 6, _ => rfl, free_of a0 _⟩
 have HW := keepH hw9
 have q0 : w9.cell? ⟨W.heap.size + 1, 0, none⟩ = some (.int .i64 33) := cell_of A9 0
 have q1 : w9.cell? ⟨W.heap.size + 1, 1, none⟩ = some (.bool false) := cell_of A9 1
 have q2 : w9.cell? ⟨W.heap.size + 1, 2, none⟩ = some (.int .u64 0) := cell_of A9 2
 have q3 : w9.cell? ⟨W.heap.size + 1, 3, none⟩ = some (.bool false) := cell_of A9 3
 have q4 : w9.cell? ⟨W.heap.size + 1, 4, none⟩ = some (.int .u64 0) := cell_of A9 4
 have q5 : w9.cell? ⟨W.heap.size + 1, 5, none⟩ = some (.slice none 0 0) := cell_of A9 5
 have q6 : w9.cell? ⟨W.heap.size + 1, 6, none⟩ = some (.int .u64 0) := cell_of A9 6
 clear hw9 A9
 clear H C0 o0 a0 b0 M0 hlm
 go_enter Tryz.func40, Tryz.ntmps40
 go_upto_region 2 with fail
 rw [← hw0]
 clear hw0
 go_wp2_with fail
 refine HH.out.mono ?_
 rintro e z ⟨rfl, rfl⟩
 go_wp2_with (refine wpList_store_mid rfl 39 (.tmp 6) (.tmp 70) rfl (W.heap.size + 1) 0 #[.int .i64 33, .bool false, .int .u64 0, .bool false, .int .u64 0, .slice none 0 0, .int .u64 0] rfl rfl HTH.out (by kernel_rfl) (by kernel_rfl) ?_; rw [← HW.out]; clear HW HTH)
 (try go_wp2_with fail)
 refine bodyPost_ret (v := .agg #[.int .i64 33, .bool false, .int .u64 0, .bool false, .int .u64 0, .slice none 0 0, .int .u64 0]) (by simp [results, Tryz.results40, go_sem, q0, q1, q2, q3, q4, q5, q6]) rfl ⟨rfl, HC9.out⟩
set_option maxRecDepth 100000 in
theorem tells_6T {k v od hk lo hi kn kc : Nat} {r5 : Bool} {r6 r7 : Int} {kp : Option Addr} {th : Nat}  {W : World} {m nw hd mu : Nat} {f h : Nat → Option Nat} {g : Nat → Nat → Option Nat} {n : Nat} (H : MoAt W m nw hd mu f h g n) (hk64 : hk < 18446744073709551616) {b : Nat} (hh : h hk = some b) :
    Calls Tryz.prog 40 #[.pointer (some ⟨m, 0, none⟩), .agg #[.int .u8 6, .int .u64 k, .int .u64 v, .int .u64 od, .int .u64 hk, .bool r5, .int .i64 r6, .int .i64 r7, .slice kp kn kc, .int .u64 lo, .int .u64 hi], .int .u64 th] W fun e W' => e = .returned (.agg #[.int .i64 0, .bool false, .int .u64 0, .bool false, .int .u64 0, .slice none 0 0, .int .u64 0]) ∧ Chg (fun _ => False) W W' := by
 obtain ⟨w0, hw0⟩ : ∃ w0, w0 = ((W.alloc (.cells #[.int .u8 6, .int .u64 k, .int .u64 v, .int .u64 od, .int .u64 hk, .bool r5, .int .i64 r6, .int .i64 r7, .slice kp kn kc, .int .u64 lo, .int .u64 hi] 35)).alloc (.cells #[.int .i64 0, .bool false, .int .u64 0, .bool false, .int .u64 0, .slice none 0 0, .int .u64 0] 39)).alloc (.cells #[.int .i64 0, .bool false, .int .u64 0, .bool false, .int .u64 0, .slice none 0 0, .int .u64 0] 39) := ⟨_, rfl⟩
 have C0 : Chg (fun _ => False) W w0 := by rw [hw0]; exact (((Chg.refl _ _).alloc _).alloc _).alloc _
 have o0 : w0.heap[W.heap.size]? = some (.cells #[.int .u8 6, .int .u64 k, .int .u64 v, .int .u64 od, .int .u64 hk, .bool r5, .int .i64 r6, .int .i64 r7, .slice kp kn kc, .int .u64 lo, .int .u64 hi] 35 (0, 0)) := by rw [hw0]; exact alloc_of (alloc_of (heap_alloc_new _ _) _) _
 have a0 : w0.heap[W.heap.size + 1]? = some (.cells #[.int .i64 0, .bool false, .int .u64 0, .bool false, .int .u64 0, .slice none 0 0, .int .u64 0] 39 (0, 0)) := by
  rw [hw0]
  exact alloc_of al2 _
 have b0 : w0.heap[W.heap.size + 1 + 1]? = some (.cells #[.int .i64 0, .bool false, .int .u64 0, .bool false, .int .u64 0, .slice none 0 0, .int .u64 0] 39 (0, 0)) := by
  rw [hw0]
  exact al3
 have M0 := H.quiet C0
 have k0 : w0.cell? ⟨W.heap.size, 0, none⟩ = some (.int .u8 6) := cell_of o0 0
 have hlm := H.blk.1
 have HH := keepH (holds_g M0 hk64)
 rw [hh] at HH
 have c4 : w0.cell? ⟨W.heap.size, 4, none⟩ = some (.int .u64 hk) := cell_of o0 4
 have r0 : w0.cell? ⟨W.heap.size + 1 + 1, 0, none⟩ = some (.int .i64 0) := cell_of b0 0
 have r1 : w0.cell? ⟨W.heap.size + 1 + 1, 1, none⟩ = some (.bool false) := cell_of b0 1
 have r2 : w0.cell? ⟨W.heap.size + 1 + 1, 2, none⟩ = some (.int .u64 0) := cell_of b0 2
 have r3 : w0.cell? ⟨W.heap.size + 1 + 1, 3, none⟩ = some (.bool false) := cell_of b0 3
 have r4 : w0.cell? ⟨W.heap.size + 1 + 1, 4, none⟩ = some (.int .u64 0) := cell_of b0 4
 have r5 : w0.cell? ⟨W.heap.size + 1 + 1, 5, none⟩ = some (.slice none 0 0) := cell_of b0 5
 have r6 : w0.cell? ⟨W.heap.size + 1 + 1, 6, none⟩ = some (.int .u64 0) := cell_of b0 6
 obtain ⟨w9, hw9⟩ : ∃ w9, w9 = w0.setCells (W.heap.size + 1) 0 (#[.int .i64 0, .bool false, .int .u64 0, .bool false, .int .u64 0, .slice none 0 0, .int .u64 0] : Array Value).toList := ⟨_, rfl⟩
 have A9 : w9.heap[W.heap.size + 1]? = some (.cells #[.int .i64 0, .bool false, .int .u64 0, .bool false, .int .u64 0, .slice none 0 0, .int .u64 0] 39 (0, 0)) := by
  rw [hw9]
  exact setCells_of 39 (W.heap.size + 1) (#[.int .i64 0, .bool false, .int .u64 0, .bool false, .int .u64 0, .slice none 0 0, .int .u64 0] : Array Value).toList [] (#[.int .i64 0, .bool false, .int .u64 0, .bool false, .int .u64 0, .slice none 0 0, .int .u64 0] : Array Value).toList [] w0 a0 rfl
 have HC9 : Hid (Chg (fun _ => False) W w9) := by rw [hw9]; exact (C0).trans (setCells_chg (W.heap.size + 1) _ 0 _) (fun _ _ x => x) (fun i hi e => by omega)
 have HTH : Hid (w0.there (W.heap.size + 1) 0 7) := fun j hj => ⟨by rw [cell_of a0]; match j, hj with | 0, _ => rfl | 1, _ => rfl | 2, _ => rfl | 3, _ => rfl | 4, _ => rfl | 5, _ => rfl | 6, _ => rfl, free_of a0 _⟩
 have HW := keepH hw9
 have q0 : w9.cell? ⟨W.heap.size + 1, 0, none⟩ = some (.int .i64 0) := cell_of A9 0
 have q1 : w9.cell? ⟨W.heap.size + 1, 1, none⟩ = some (.bool false) := cell_of A9 1
 have q2 : w9.cell? ⟨W.heap.size + 1, 2, none⟩ = some (.int .u64 0) := cell_of A9 2
 have q3 : w9.cell? ⟨W.heap.size + 1, 3, none⟩ = some (.bool false) := cell_of A9 3
 have q4 : w9.cell? ⟨W.heap.size + 1, 4, none⟩ = some (.int .u64 0) := cell_of A9 4
 have q5 : w9.cell? ⟨W.heap.size + 1, 5, none⟩ = some (.slice none 0 0) := cell_of A9 5
 have q6 : w9.cell? ⟨W.heap.size + 1, 6, none⟩ = some (.int .u64 0) := cell_of A9 6
 clear hw9 A9
 clear H C0 o0 a0 b0 M0 hlm
 go_enter Tryz.func40, Tryz.ntmps40
 go_upto_region 2 with fail
 rw [← hw0]
 clear hw0
 go_wp2_with fail
 refine HH.out.mono ?_
 rintro e z ⟨rfl, rfl⟩
 go_wp2_with (refine wpList_store_mid rfl 39 (.tmp 6) (.tmp 84) rfl (W.heap.size + 1) 0 #[.int .i64 0, .bool false, .int .u64 0, .bool false, .int .u64 0, .slice none 0 0, .int .u64 0] rfl rfl HTH.out (by kernel_rfl) (by kernel_rfl) ?_; rw [← HW.out]; clear HW HTH)
 (try go_wp2_with fail)
 refine bodyPost_ret (v := .agg #[.int .i64 0, .bool false, .int .u64 0, .bool false, .int .u64 0, .slice none 0 0, .int .u64 0]) (by simp [results, Tryz.results40, go_sem, q0, q1, q2, q3, q4, q5, q6]) rfl ⟨rfl, HC9.out⟩
set_option maxRecDepth 100000 in
theorem tells_7L {k v od hk lo hi kn kc : Nat} {r5 : Bool} {r6 r7 : Int} {kp : Option Addr} {th : Nat}  {W : World} {m nw hd mu : Nat} {f h : Nat → Option Nat} {g : Nat → Nat → Option Nat} {n : Nat} (H : MoAt W m nw hd mu f h g n) (hl : mu < kn) :
    Calls Tryz.prog 40 #[.pointer (some ⟨m, 0, none⟩), .agg #[.int .u8 7, .int .u64 k, .int .u64 v, .int .u64 od, .int .u64 hk, .bool r5, .int .i64 r6, .int .i64 r7, .slice kp kn kc, .int .u64 lo, .int .u64 hi], .int .u64 th] W fun e W' => e = .returned (.agg #[.int .i64 6, .bool false, .int .u64 0, .bool false, .int .u64 0, .slice none 0 0, .int .u64 0]) ∧ Chg (fun _ => False) W W' := by
 obtain ⟨w0, hw0⟩ : ∃ w0, w0 = ((W.alloc (.cells #[.int .u8 7, .int .u64 k, .int .u64 v, .int .u64 od, .int .u64 hk, .bool r5, .int .i64 r6, .int .i64 r7, .slice kp kn kc, .int .u64 lo, .int .u64 hi] 35)).alloc (.cells #[.int .i64 0, .bool false, .int .u64 0, .bool false, .int .u64 0, .slice none 0 0, .int .u64 0] 39)).alloc (.cells #[.int .i64 0, .bool false, .int .u64 0, .bool false, .int .u64 0, .slice none 0 0, .int .u64 0] 39) := ⟨_, rfl⟩
 have C0 : Chg (fun _ => False) W w0 := by rw [hw0]; exact (((Chg.refl _ _).alloc _).alloc _).alloc _
 have o0 : w0.heap[W.heap.size]? = some (.cells #[.int .u8 7, .int .u64 k, .int .u64 v, .int .u64 od, .int .u64 hk, .bool r5, .int .i64 r6, .int .i64 r7, .slice kp kn kc, .int .u64 lo, .int .u64 hi] 35 (0, 0)) := by rw [hw0]; exact alloc_of (alloc_of (heap_alloc_new _ _) _) _
 have a0 : w0.heap[W.heap.size + 1]? = some (.cells #[.int .i64 0, .bool false, .int .u64 0, .bool false, .int .u64 0, .slice none 0 0, .int .u64 0] 39 (0, 0)) := by
  rw [hw0]
  exact alloc_of al2 _
 have b0 : w0.heap[W.heap.size + 1 + 1]? = some (.cells #[.int .i64 0, .bool false, .int .u64 0, .bool false, .int .u64 0, .slice none 0 0, .int .u64 0] 39 (0, 0)) := by
  rw [hw0]
  exact al3
 have M0 := H.quiet C0
 have k0 : w0.cell? ⟨W.heap.size, 0, none⟩ = some (.int .u8 7) := cell_of o0 0
 have hlm := H.blk.1
 have q : (mu : Int) < (kn : Int) := by omega
 have HS0 : Hid (w0.cell? ⟨m, 0, none⟩ = some (.int .i64 mu) ∧ w0.cell? ⟨W.heap.size, 8, none⟩ = some (.slice kp kn kc)) := ⟨cell_of M0.md 0, cell_of o0 8⟩
 obtain ⟨wd, hwd⟩ : ∃ wd, wd = w0.drew := ⟨_, rfl⟩
 have ad : wd.heap[W.heap.size + 1]? = some (.cells #[.int .i64 0, .bool false, .int .u64 0, .bool false, .int .u64 0, .slice none 0 0, .int .u64 0] 39 (0, 0)) := by rw [hwd]; exact a0
 have Cd : Chg (fun _ => False) W wd := by rw [hwd]; exact C0.drew
 obtain ⟨w9, hw9⟩ : ∃ w9, w9 = wd.setCells (W.heap.size + 1) 0 (#[.int .i64 6, .bool false, .int .u64 0, .bool false, .int .u64 0, .slice none 0 0, .int .u64 0] : Array Value).toList := ⟨_, rfl⟩
 have A9 : w9.heap[W.heap.size + 1]? = some (.cells #[.int .i64 6, .bool false, .int .u64 0, .bool false, .int .u64 0, .slice none 0 0, .int .u64 0] 39 (0, 0)) := by
  rw [hw9]
  exact setCells_of 39 (W.heap.size + 1) (#[.int .i64 6, .bool false, .int .u64 0, .bool false, .int .u64 0, .slice none 0 0, .int .u64 0] : Array Value).toList [] (#[.int .i64 0, .bool false, .int .u64 0, .bool false, .int .u64 0, .slice none 0 0, .int .u64 0] : Array Value).toList [] wd ad rfl
 have HC9 : Hid (Chg (fun _ => False) W w9) := by rw [hw9]; exact (Cd).trans (setCells_chg (W.heap.size + 1) _ 0 _) (fun _ _ x => x) (fun i hi e => by omega)
 have HTH : Hid (wd.there (W.heap.size + 1) 0 7) := fun j hj => ⟨by rw [cell_of ad]; match j, hj with | 0, _ => rfl | 1, _ => rfl | 2, _ => rfl | 3, _ => rfl | 4, _ => rfl | 5, _ => rfl | 6, _ => rfl, free_of ad _⟩
 have HW := keepH hw9
 have q0 : w9.cell? ⟨W.heap.size + 1, 0, none⟩ = some (.int .i64 6) := cell_of A9 0
 have q1 : w9.cell? ⟨W.heap.size + 1, 1, none⟩ = some (.bool false) := cell_of A9 1
 have q2 : w9.cell? ⟨W.heap.size + 1, 2, none⟩ = some (.int .u64 0) := cell_of A9 2
 have q3 : w9.cell? ⟨W.heap.size + 1, 3, none⟩ = some (.bool false) := cell_of A9 3
 have q4 : w9.cell? ⟨W.heap.size + 1, 4, none⟩ = some (.int .u64 0) := cell_of A9 4
 have q5 : w9.cell? ⟨W.heap.size + 1, 5, none⟩ = some (.slice none 0 0) := cell_of A9 5
 have q6 : w9.cell? ⟨W.heap.size + 1, 6, none⟩ = some (.int .u64 0) := cell_of A9 6
 clear hw9 A9
 clear H C0 o0 a0 b0 M0 hlm ad Cd
 go_enter Tryz.func40, Tryz.ntmps40
 go_upto_region 2 with fail
 rw [← hw0]
 clear hw0
 go_upto_region 21 with fail
 go_region_held3 (fun w' => w'.cell? ⟨m, 0, none⟩ = some (.int .i64 mu) ∧ w'.cell? ⟨W.heap.size, 8, none⟩ = some (.slice kp kn kc)) (first | exact HS0.out) (fail)
 all_goals (
  rw [← hwd]
  clear hwd
  go_wp2_with (refine wpList_store_mid rfl 39 (.tmp 6) (.tmp 79) rfl (W.heap.size + 1) 0 #[.int .i64 6, .bool false, .int .u64 0, .bool false, .int .u64 0, .slice none 0 0, .int .u64 0] rfl rfl HTH.out (by kernel_rfl) (by kernel_rfl) ?_; rw [← HW.out]; clear HW HTH)
  (try go_wp2_with fail)
  refine bodyPost_ret (v := .agg #[.int .i64 6, .bool false, .int .u64 0, .bool false, .int .u64 0, .slice none 0 0, .int .u64 0]) (by simp [results, Tryz.results40, go_sem, q0, q1, q2, q3, q4, q5, q6]) rfl ⟨rfl, HC9.out⟩)
set_option maxRecDepth 100000 in
theorem tells_10 {k v od hk lo hi kn kc : Nat} {r5 : Bool} {r6 r7 : Int} {kp : Option Addr} {th : Nat}  {W : World} {m nw hd mu : Nat} {f h : Nat → Option Nat} {g : Nat → Nat → Option Nat} {n : Nat} (H : MoAt W m nw hd mu f h g n)  :
    Calls Tryz.prog 40 #[.pointer (some ⟨m, 0, none⟩), .agg #[.int .u8 10, .int .u64 k, .int .u64 v, .int .u64 od, .int .u64 hk, .bool r5, .int .i64 r6, .int .i64 r7, .slice kp kn kc, .int .u64 lo, .int .u64 hi], .int .u64 th] W fun e W' => e = .returned (.agg #[.int .i64 0, .bool false, .int .u64 0, .bool false, .int .u64 0, .slice none 0 0, .int .u64 0]) ∧ Chg (fun _ => False) W W' := by
 obtain ⟨w0, hw0⟩ : ∃ w0, w0 = ((W.alloc (.cells #[.int .u8 10, .int .u64 k, .int .u64 v, .int .u64 od, .int .u64 hk, .bool r5, .int .i64 r6, .int .i64 r7, .slice kp kn kc, .int .u64 lo, .int .u64 hi] 35)).alloc (.cells #[.int .i64 0, .bool false, .int .u64 0, .bool false, .int .u64 0, .slice none 0 0, .int .u64 0] 39)).alloc (.cells #[.int .i64 0, .bool false, .int .u64 0, .bool false, .int .u64 0, .slice none 0 0, .int .u64 0] 39) := ⟨_, rfl⟩
 have C0 : Chg (fun _ => False) W w0 := by rw [hw0]; exact (((Chg.refl _ _).alloc _).alloc _).alloc _
 have o0 : w0.heap[W.heap.size]? = some (.cells #[.int .u8 10, .int .u64 k, .int .u64 v, .int .u64 od, .int .u64 hk, .bool r5, .int .i64 r6, .int .i64 r7, .slice kp kn kc, .int .u64 lo, .int .u64 hi] 35 (0, 0)) := by rw [hw0]; exact alloc_of (alloc_of (heap_alloc_new _ _) _) _
 have a0 : w0.heap[W.heap.size + 1]? = some (.cells #[.int .i64 0, .bool false, .int .u64 0, .bool false, .int .u64 0, .slice none 0 0, .int .u64 0] 39 (0, 0)) := by
  rw [hw0]
  exact alloc_of al2 _
 have b0 : w0.heap[W.heap.size + 1 + 1]? = some (.cells #[.int .i64 0, .bool false, .int .u64 0, .bool false, .int .u64 0, .slice none 0 0, .int .u64 0] 39 (0, 0)) := by
  rw [hw0]
  exact al3
 have M0 := H.quiet C0
 have k0 : w0.cell? ⟨W.heap.size, 0, none⟩ = some (.int .u8 10) := cell_of o0 0
 have hlm := H.blk.1
 have r0 : w0.cell? ⟨W.heap.size + 1 + 1, 0, none⟩ = some (.int .i64 0) := cell_of b0 0
 have r1 : w0.cell? ⟨W.heap.size + 1 + 1, 1, none⟩ = some (.bool false) := cell_of b0 1
 have r2 : w0.cell? ⟨W.heap.size + 1 + 1, 2, none⟩ = some (.int .u64 0) := cell_of b0 2
 have r3 : w0.cell? ⟨W.heap.size + 1 + 1, 3, none⟩ = some (.bool false) := cell_of b0 3
 have r4 : w0.cell? ⟨W.heap.size + 1 + 1, 4, none⟩ = some (.int .u64 0) := cell_of b0 4
 have r5 : w0.cell? ⟨W.heap.size + 1 + 1, 5, none⟩ = some (.slice none 0 0) := cell_of b0 5
 have r6 : w0.cell? ⟨W.heap.size + 1 + 1, 6, none⟩ = some (.int .u64 0) := cell_of b0 6
 obtain ⟨w9, hw9⟩ : ∃ w9, w9 = w0.setCells (W.heap.size + 1) 0 (#[.int .i64 0, .bool false, .int .u64 0, .bool false, .int .u64 0, .slice none 0 0, .int .u64 0] : Array Value).toList := ⟨_, rfl⟩
 have A9 : w9.heap[W.heap.size + 1]? = some (.cells #[.int .i64 0, .bool false, .int .u64 0, .bool false, .int .u64 0, .slice none 0 0, .int .u64 0] 39 (0, 0)) := by
  rw [hw9]
  exact setCells_of 39 (W.heap.size + 1) (#[.int .i64 0, .bool false, .int .u64 0, .bool false, .int .u64 0, .slice none 0 0, .int .u64 0] : Array Value).toList [] (#[.int .i64 0, .bool false, .int .u64 0, .bool false, .int .u64 0, .slice none 0 0, .int .u64 0] : Array Value).toList [] w0 a0 rfl
 have HC9 : Hid (Chg (fun _ => False) W w9) := by rw [hw9]; exact (C0).trans (setCells_chg (W.heap.size + 1) _ 0 _) (fun _ _ x => x) (fun i hi e => by omega)
 have HTH : Hid (w0.there (W.heap.size + 1) 0 7) := fun j hj => ⟨by rw [cell_of a0]; match j, hj with | 0, _ => rfl | 1, _ => rfl | 2, _ => rfl | 3, _ => rfl | 4, _ => rfl | 5, _ => rfl | 6, _ => rfl, free_of a0 _⟩
 have HW := keepH hw9
 have q0 : w9.cell? ⟨W.heap.size + 1, 0, none⟩ = some (.int .i64 0) := cell_of A9 0
 have q1 : w9.cell? ⟨W.heap.size + 1, 1, none⟩ = some (.bool false) := cell_of A9 1
 have q2 : w9.cell? ⟨W.heap.size + 1, 2, none⟩ = some (.int .u64 0) := cell_of A9 2
 have q3 : w9.cell? ⟨W.heap.size + 1, 3, none⟩ = some (.bool false) := cell_of A9 3
 have q4 : w9.cell? ⟨W.heap.size + 1, 4, none⟩ = some (.int .u64 0) := cell_of A9 4
 have q5 : w9.cell? ⟨W.heap.size + 1, 5, none⟩ = some (.slice none 0 0) := cell_of A9 5
 have q6 : w9.cell? ⟨W.heap.size + 1, 6, none⟩ = some (.int .u64 0) := cell_of A9 6
 clear hw9 A9
 clear H C0 o0 a0 b0 M0 hlm
 go_enter Tryz.func40, Tryz.ntmps40
 go_upto_region 2 with fail
 rw [← hw0]
 clear hw0
 go_wp2_with (refine wpList_store_mid rfl 39 (.tmp 6) (.tmp 84) rfl (W.heap.size + 1) 0 #[.int .i64 0, .bool false, .int .u64 0, .bool false, .int .u64 0, .slice none 0 0, .int .u64 0] rfl rfl HTH.out (by kernel_rfl) (by kernel_rfl) ?_; rw [← HW.out]; clear HW HTH)
 (try go_wp2_with fail)
 refine bodyPost_ret (v := .agg #[.int .i64 0, .bool false, .int .u64 0, .bool false, .int .u64 0, .slice none 0 0, .int .u64 0]) (by simp [results, Tryz.results40, go_sem, q0, q1, q2, q3, q4, q5, q6]) rfl ⟨rfl, HC9.out⟩
set_option maxRecDepth 100000 in
theorem tells_no {k v od hk lo hi kn kc : Nat} {r5 : Bool} {r6 r7 : Int} {kp : Option Addr} {th : Nat} {kd : Int} {W : World} {m nw hd mu : Nat} {f h : Nat → Option Nat} {g : Nat → Nat → Option Nat} {n : Nat} (H : MoAt W m nw hd mu f h g n) (n1 : ¬ kd = 1) (n2 : ¬ kd = 2) (n3 : ¬ kd = 3) (n4 : ¬ kd = 4) (n5 : ¬ kd = 5) (n6 : ¬ kd = 6) (n7 : ¬ kd = 7) (n8 : ¬ kd = 8) (n9 : ¬ kd = 9) (n10 : ¬ kd = 10) :
    Calls Tryz.prog 40 #[.pointer (some ⟨m, 0, none⟩), .agg #[.int .u8 kd, .int .u64 k, .int .u64 v, .int .u64 od, .int .u64 hk, .bool r5, .int .i64 r6, .int .i64 r7, .slice kp kn kc, .int .u64 lo, .int .u64 hi], .int .u64 th] W fun e W' => e = .returned (.agg #[.int .i64 160, .bool false, .int .u64 0, .bool false, .int .u64 0, .slice none 0 0, .int .u64 0]) ∧ Chg (fun _ => False) W W' := by
 obtain ⟨w0, hw0⟩ : ∃ w0, w0 = ((W.alloc (.cells #[.int .u8 kd, .int .u64 k, .int .u64 v, .int .u64 od, .int .u64 hk, .bool r5, .int .i64 r6, .int .i64 r7, .slice kp kn kc, .int .u64 lo, .int .u64 hi] 35)).alloc (.cells #[.int .i64 0, .bool false, .int .u64 0, .bool false, .int .u64 0, .slice none 0 0, .int .u64 0] 39)).alloc (.cells #[.int .i64 0, .bool false, .int .u64 0, .bool false, .int .u64 0, .slice none 0 0, .int .u64 0] 39) := ⟨_, rfl⟩
 have C0 : Chg (fun _ => False) W w0 := by rw [hw0]; exact (((Chg.refl _ _).alloc _).alloc _).alloc _
 have o0 : w0.heap[W.heap.size]? = some (.cells #[.int .u8 kd, .int .u64 k, .int .u64 v, .int .u64 od, .int .u64 hk, .bool r5, .int .i64 r6, .int .i64 r7, .slice kp kn kc, .int .u64 lo, .int .u64 hi] 35 (0, 0)) := by rw [hw0]; exact alloc_of (alloc_of (heap_alloc_new _ _) _) _
 have a0 : w0.heap[W.heap.size + 1]? = some (.cells #[.int .i64 0, .bool false, .int .u64 0, .bool false, .int .u64 0, .slice none 0 0, .int .u64 0] 39 (0, 0)) := by
  rw [hw0]
  exact alloc_of al2 _
 have b0 : w0.heap[W.heap.size + 1 + 1]? = some (.cells #[.int .i64 0, .bool false, .int .u64 0, .bool false, .int .u64 0, .slice none 0 0, .int .u64 0] 39 (0, 0)) := by
  rw [hw0]
  exact al3
 have M0 := H.quiet C0
 have k0 : w0.cell? ⟨W.heap.size, 0, none⟩ = some (.int .u8 kd) := cell_of o0 0
 have hlm := H.blk.1
 have z1 : (kd == 1) = false := by simpa using n1
 have z2 : (kd == 2) = false := by simpa using n2
 have z3 : (kd == 3) = false := by simpa using n3
 have z4 : (kd == 4) = false := by simpa using n4
 have z5 : (kd == 5) = false := by simpa using n5
 have z6 : (kd == 6) = false := by simpa using n6
 have z7 : (kd == 7) = false := by simpa using n7
 have z8 : (kd == 8) = false := by simpa using n8
 have z9 : (kd == 9) = false := by simpa using n9
 have z10 : (kd == 10) = false := by simpa using n10
 obtain ⟨w9, hw9⟩ : ∃ w9, w9 = w0.setCells (W.heap.size + 1) 0 (#[.int .i64 160, .bool false, .int .u64 0, .bool false, .int .u64 0, .slice none 0 0, .int .u64 0] : Array Value).toList := ⟨_, rfl⟩
 have A9 : w9.heap[W.heap.size + 1]? = some (.cells #[.int .i64 160, .bool false, .int .u64 0, .bool false, .int .u64 0, .slice none 0 0, .int .u64 0] 39 (0, 0)) := by
  rw [hw9]
  exact setCells_of 39 (W.heap.size + 1) (#[.int .i64 160, .bool false, .int .u64 0, .bool false, .int .u64 0, .slice none 0 0, .int .u64 0] : Array Value).toList [] (#[.int .i64 0, .bool false, .int .u64 0, .bool false, .int .u64 0, .slice none 0 0, .int .u64 0] : Array Value).toList [] w0 a0 rfl
 have HC9 : Hid (Chg (fun _ => False) W w9) := by rw [hw9]; exact (C0).trans (setCells_chg (W.heap.size + 1) _ 0 _) (fun _ _ x => x) (fun i hi e => by omega)
 have HTH : Hid (w0.there (W.heap.size + 1) 0 7) := fun j hj => ⟨by rw [cell_of a0]; match j, hj with | 0, _ => rfl | 1, _ => rfl | 2, _ => rfl | 3, _ => rfl | 4, _ => rfl | 5, _ => rfl | 6, _ => rfl, free_of a0 _⟩
 have HW := keepH hw9
 have q0 : w9.cell? ⟨W.heap.size + 1, 0, none⟩ = some (.int .i64 160) := cell_of A9 0
 have q1 : w9.cell? ⟨W.heap.size + 1, 1, none⟩ = some (.bool false) := cell_of A9 1
 have q2 : w9.cell? ⟨W.heap.size + 1, 2, none⟩ = some (.int .u64 0) := cell_of A9 2
 have q3 : w9.cell? ⟨W.heap.size + 1, 3, none⟩ = some (.bool false) := cell_of A9 3
 have q4 : w9.cell? ⟨W.heap.size + 1, 4, none⟩ = some (.int .u64 0) := cell_of A9 4
 have q5 : w9.cell? ⟨W.heap.size + 1, 5, none⟩ = some (.slice none 0 0) := cell_of A9 5
 have q6 : w9.cell? ⟨W.heap.size + 1, 6, none⟩ = some (.int .u64 0) := cell_of A9 6
 clear hw9 A9
 clear H C0 o0 a0 b0 M0 hlm
 go_enter Tryz.func40, Tryz.ntmps40
 go_upto_region 2 with fail
 rw [← hw0]
 clear hw0
 go_wp2_with (refine wpList_store_mid rfl 39 (.tmp 6) (.tmp 83) rfl (W.heap.size + 1) 0 #[.int .i64 160, .bool false, .int .u64 0, .bool false, .int .u64 0, .slice none 0 0, .int .u64 0] rfl rfl HTH.out (by kernel_rfl) (by kernel_rfl) ?_; rw [← HW.out]; clear HW HTH)
 (try go_wp2_with fail)
 refine bodyPost_ret (v := .agg #[.int .i64 160, .bool false, .int .u64 0, .bool false, .int .u64 0, .slice none 0 0, .int .u64 0]) (by simp [results, Tryz.results40, go_sem, q0, q1, q2, q3, q4, q5, q6]) rfl ⟨rfl, HC9.out⟩
end Go.Proofs.YtahgaghokpicgaaGreat
