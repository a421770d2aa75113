/- Vcas's procs that are made. -/
import Derived.Test.YtadbgmcfjemkeaaVe
namespace Go.Proofs.Ytadbgmcfjemkeaa
open Go.RowKit Go.Shelf

set_option maxRecDepth 100000 in
set_option maxHeartbeats 1000000 in
theorem newf_any (cam obj : Nat) (W : World) : Calls Try.prog 34 #[.int .u64 (cam : Int), .int .u64 (obj : Int)] W fun e W' => e = .returned (.agg #[.int .u64 (cam : Int), .int .u64 0, .int .u8 0, .pointer none, .int .u64 (obj : Int), .int .u8 0, .int .u64 0]) ∧ Chg (fun _ => False) W W' := by
  obtain ⟨x0, hx0⟩ : ∃ x0, x0 = W.alloc (.cells #[.int .u64 0, .int .u64 0, .int .u8 0, .pointer none, .int .u64 0, .int .u8 0, .int .u64 0] 91) := ⟨_, rfl⟩
  have P0 : Blk x0 W.heap.size 91 [.int .u64 0, .int .u64 0, .int .u8 0, .pointer none, .int .u64 0, .int .u8 0, .int .u64 0] := by rw [hx0]; exact heap_alloc_new _ _
  have HC : Hid (Chg (fun _ => False) W x0) := by rw [hx0]; exact (Chg.refl _ _).alloc _
  have r0 : x0.cell? ⟨W.heap.size, 0, none⟩ = some (.int .u64 0) := P0.cell 0
  have f0 := P0.free 0
  have r1 : x0.cell? ⟨W.heap.size, 1, none⟩ = some (.int .u64 0) := P0.cell 1
  have f1 := P0.free 1
  have r2 : x0.cell? ⟨W.heap.size, 2, none⟩ = some (.int .u8 0) := P0.cell 2
  have f2 := P0.free 2
  have r3 : x0.cell? ⟨W.heap.size, 3, none⟩ = some (.pointer none) := P0.cell 3
  have f3 := P0.free 3
  have r4 : x0.cell? ⟨W.heap.size, 4, none⟩ = some (.int .u64 0) := P0.cell 4
  have f4 := P0.free 4
  have r5 : x0.cell? ⟨W.heap.size, 5, none⟩ = some (.int .u8 0) := P0.cell 5
  have f5 := P0.free 5
  have r6 : x0.cell? ⟨W.heap.size, 6, none⟩ = some (.int .u64 0) := P0.cell 6
  have f6 := P0.free 6
  have q0 : (x0.setCell ⟨W.heap.size, 0, none⟩ (.int .u64 (cam : Int))).cell? ⟨W.heap.size, 0, none⟩ = some (.int .u64 (cam : Int)) := set_same P0 0 _ _ rfl
  have P1 := P0.set 0 (.int .u64 (cam : Int))
  have q1 : ((x0.setCell ⟨W.heap.size, 0, none⟩ (.int .u64 (cam : Int))).setCell ⟨W.heap.size, 1, none⟩ (.int .u64 0)).cell? ⟨W.heap.size, 1, none⟩ = some (.int .u64 0) := set_same P1 1 _ _ rfl
  have P2 := P1.set 1 (.int .u64 0)
  have q2 : (((x0.setCell ⟨W.heap.size, 0, none⟩ (.int .u64 (cam : Int))).setCell ⟨W.heap.size, 1, none⟩ (.int .u64 0)).setCell ⟨W.heap.size, 2, none⟩ (.int .u8 0)).cell? ⟨W.heap.size, 2, none⟩ = some (.int .u8 0) := set_same P2 2 _ _ rfl
  have P3 := P2.set 2 (.int .u8 0)
  have q3 : ((((x0.setCell ⟨W.heap.size, 0, none⟩ (.int .u64 (cam : Int))).setCell ⟨W.heap.size, 1, none⟩ (.int .u64 0)).setCell ⟨W.heap.size, 2, none⟩ (.int .u8 0)).setCell ⟨W.heap.size, 3, none⟩ (.pointer none)).cell? ⟨W.heap.size, 3, none⟩ = some (.pointer none) := set_same P3 3 _ _ rfl
  have P4 := P3.set 3 (.pointer none)
  have q4 : (((((x0.setCell ⟨W.heap.size, 0, none⟩ (.int .u64 (cam : Int))).setCell ⟨W.heap.size, 1, none⟩ (.int .u64 0)).setCell ⟨W.heap.size, 2, none⟩ (.int .u8 0)).setCell ⟨W.heap.size, 3, none⟩ (.pointer none)).setCell ⟨W.heap.size, 4, none⟩ (.int .u64 (obj : Int))).cell? ⟨W.heap.size, 4, none⟩ = some (.int .u64 (obj : Int)) := set_same P4 4 _ _ rfl
  have P5 := P4.set 4 (.int .u64 (obj : Int))
  have q5 : ((((((x0.setCell ⟨W.heap.size, 0, none⟩ (.int .u64 (cam : Int))).setCell ⟨W.heap.size, 1, none⟩ (.int .u64 0)).setCell ⟨W.heap.size, 2, none⟩ (.int .u8 0)).setCell ⟨W.heap.size, 3, none⟩ (.pointer none)).setCell ⟨W.heap.size, 4, none⟩ (.int .u64 (obj : Int))).setCell ⟨W.heap.size, 5, none⟩ (.int .u8 0)).cell? ⟨W.heap.size, 5, none⟩ = some (.int .u8 0) := set_same P5 5 _ _ rfl
  have P6 := P5.set 5 (.int .u8 0)
  have q6 : (((((((x0.setCell ⟨W.heap.size, 0, none⟩ (.int .u64 (cam : Int))).setCell ⟨W.heap.size, 1, none⟩ (.int .u64 0)).setCell ⟨W.heap.size, 2, none⟩ (.int .u8 0)).setCell ⟨W.heap.size, 3, none⟩ (.pointer none)).setCell ⟨W.heap.size, 4, none⟩ (.int .u64 (obj : Int))).setCell ⟨W.heap.size, 5, none⟩ (.int .u8 0)).setCell ⟨W.heap.size, 6, none⟩ (.int .u64 0)).cell? ⟨W.heap.size, 6, none⟩ = some (.int .u64 0) := set_same P6 6 _ _ rfl
  clear P0 P1 P2 P3 P4 P5 P6
  go_enter Try.func34, Try.ntmps34
  go_upto_region 1 with fail
  rw [← hx0]
  clear hx0
  go_wp2_with fail
  refine bodyPost_ret (v := .agg #[.int .u64 (cam : Int), .int .u64 0, .int .u8 0, .pointer none, .int .u64 (obj : Int), .int .u8 0, .int .u64 0]) (by simp [results, Try.results34, go_sem, q0, q1, q2, q3, q4, q5, q6]) rfl ⟨rfl, ?_⟩
  exact (((((((HC.out.setCell (fun e => (Nat.lt_irrefl _ e).elim) _).setCell (fun e => (Nat.lt_irrefl _ e).elim) _).setCell (fun e => (Nat.lt_irrefl _ e).elim) _).setCell (fun e => (Nat.lt_irrefl _ e).elim) _).setCell (fun e => (Nat.lt_irrefl _ e).elim) _).setCell (fun e => (Nat.lt_irrefl _ e).elim) _).setCell (fun e => (Nat.lt_irrefl _ e).elim) _)
set_option maxRecDepth 100000 in
set_option maxHeartbeats 1000000 in
theorem newr_any (cam obj : Nat) (W : World) : Calls Try.prog 39 #[.int .u64 (cam : Int), .int .u64 (obj : Int)] W fun e W' => e = .returned (.agg #[.int .u64 (cam : Int), .int .u64 0, .int .u8 0, .pointer none, .int .u64 (obj : Int), .int .u8 0, .int .u64 0, .int .u8 0, .int .u64 0]) ∧ Chg (fun _ => False) W W' := by
  obtain ⟨x0, hx0⟩ : ∃ x0, x0 = W.alloc (.cells #[.int .u64 0, .int .u64 0, .int .u8 0, .pointer none, .int .u64 0, .int .u8 0, .int .u64 0, .int .u8 0, .int .u64 0] 93) := ⟨_, rfl⟩
  have P0 : Blk x0 W.heap.size 93 [.int .u64 0, .int .u64 0, .int .u8 0, .pointer none, .int .u64 0, .int .u8 0, .int .u64 0, .int .u8 0, .int .u64 0] := by rw [hx0]; exact heap_alloc_new _ _
  have HC : Hid (Chg (fun _ => False) W x0) := by rw [hx0]; exact (Chg.refl _ _).alloc _
  have HP0 := keepH P0
  clear P0
  go_enter Try.func39, Try.ntmps39
  go_upto_region 1 with fail
  rw [← hx0]
  clear hx0
  go_wp2_with fail
  refine (newf_any cam obj _).mono ?_
  rintro e y0 ⟨rfl, CY⟩
  have P0 : Blk y0 W.heap.size 93 [.int .u64 0, .int .u64 0, .int .u8 0, .pointer none, .int .u64 0, .int .u8 0, .int .u64 0, .int .u8 0, .int .u64 0] := HP0.out.chg CY (fun x => x)
  have HCY : Hid (Chg (fun _ => False) W y0) := HC.out.trans CY (fun _ _ x => x) (fun _ _ x => x)
  clear CY HP0
  have r0 : y0.cell? ⟨W.heap.size, 0, none⟩ = some (.int .u64 0) := P0.cell 0
  have f0 := P0.free 0
  have r1 : y0.cell? ⟨W.heap.size, 1, none⟩ = some (.int .u64 0) := P0.cell 1
  have f1 := P0.free 1
  have r2 : y0.cell? ⟨W.heap.size, 2, none⟩ = some (.int .u8 0) := P0.cell 2
  have f2 := P0.free 2
  have r3 : y0.cell? ⟨W.heap.size, 3, none⟩ = some (.pointer none) := P0.cell 3
  have f3 := P0.free 3
  have r4 : y0.cell? ⟨W.heap.size, 4, none⟩ = some (.int .u64 0) := P0.cell 4
  have f4 := P0.free 4
  have r5 : y0.cell? ⟨W.heap.size, 5, none⟩ = some (.int .u8 0) := P0.cell 5
  have f5 := P0.free 5
  have r6 : y0.cell? ⟨W.heap.size, 6, none⟩ = some (.int .u64 0) := P0.cell 6
  have f6 := P0.free 6
  have r7 : y0.cell? ⟨W.heap.size, 7, none⟩ = some (.int .u8 0) := P0.cell 7
  have f7 := P0.free 7
  have r8 : y0.cell? ⟨W.heap.size, 8, none⟩ = some (.int .u64 0) := P0.cell 8
  have f8 := P0.free 8
  have q0 : (y0.setCell ⟨W.heap.size, 0, none⟩ (.int .u64 (cam : Int))).cell? ⟨W.heap.size, 0, none⟩ = some (.int .u64 (cam : Int)) := set_same P0 0 _ _ rfl
  have P1 := P0.set 0 (.int .u64 (cam : Int))
  have q1 : ((y0.setCell ⟨W.heap.size, 0, none⟩ (.int .u64 (cam : Int))).setCell ⟨W.heap.size, 1, none⟩ (.int .u64 0)).cell? ⟨W.heap.size, 1, none⟩ = some (.int .u64 0) := set_same P1 1 _ _ rfl
  have P2 := P1.set 1 (.int .u64 0)
  have q2 : (((y0.setCell ⟨W.heap.size, 0, none⟩ (.int .u64 (cam : Int))).setCell ⟨W.heap.size, 1, none⟩ (.int .u64 0)).setCell ⟨W.heap.size, 2, none⟩ (.int .u8 0)).cell? ⟨W.heap.size, 2, none⟩ = some (.int .u8 0) := set_same P2 2 _ _ rfl
  have P3 := P2.set 2 (.int .u8 0)
  have q3 : ((((y0.setCell ⟨W.heap.size, 0, none⟩ (.int .u64 (cam : Int))).setCell ⟨W.heap.size, 1, none⟩ (.int .u64 0)).setCell ⟨W.heap.size, 2, none⟩ (.int .u8 0)).setCell ⟨W.heap.size, 3, none⟩ (.pointer none)).cell? ⟨W.heap.size, 3, none⟩ = some (.pointer none) := set_same P3 3 _ _ rfl
  have P4 := P3.set 3 (.pointer none)
  have q4 : (((((y0.setCell ⟨W.heap.size, 0, none⟩ (.int .u64 (cam : Int))).setCell ⟨W.heap.size, 1, none⟩ (.int .u64 0)).setCell ⟨W.heap.size, 2, none⟩ (.int .u8 0)).setCell ⟨W.heap.size, 3, none⟩ (.pointer none)).setCell ⟨W.heap.size, 4, none⟩ (.int .u64 (obj : Int))).cell? ⟨W.heap.size, 4, none⟩ = some (.int .u64 (obj : Int)) := set_same P4 4 _ _ rfl
  have P5 := P4.set 4 (.int .u64 (obj : Int))
  have q5 : ((((((y0.setCell ⟨W.heap.size, 0, none⟩ (.int .u64 (cam : Int))).setCell ⟨W.heap.size, 1, none⟩ (.int .u64 0)).setCell ⟨W.heap.size, 2, none⟩ (.int .u8 0)).setCell ⟨W.heap.size, 3, none⟩ (.pointer none)).setCell ⟨W.heap.size, 4, none⟩ (.int .u64 (obj : Int))).setCell ⟨W.heap.size, 5, none⟩ (.int .u8 0)).cell? ⟨W.heap.size, 5, none⟩ = some (.int .u8 0) := set_same P5 5 _ _ rfl
  have P6 := P5.set 5 (.int .u8 0)
  have q6 : (((((((y0.setCell ⟨W.heap.size, 0, none⟩ (.int .u64 (cam : Int))).setCell ⟨W.heap.size, 1, none⟩ (.int .u64 0)).setCell ⟨W.heap.size, 2, none⟩ (.int .u8 0)).setCell ⟨W.heap.size, 3, none⟩ (.pointer none)).setCell ⟨W.heap.size, 4, none⟩ (.int .u64 (obj : Int))).setCell ⟨W.heap.size, 5, none⟩ (.int .u8 0)).setCell ⟨W.heap.size, 6, none⟩ (.int .u64 0)).cell? ⟨W.heap.size, 6, none⟩ = some (.int .u64 0) := set_same P6 6 _ _ rfl
  have P7 := P6.set 6 (.int .u64 0)
  have q7 : ((((((((y0.setCell ⟨W.heap.size, 0, none⟩ (.int .u64 (cam : Int))).setCell ⟨W.heap.size, 1, none⟩ (.int .u64 0)).setCell ⟨W.heap.size, 2, none⟩ (.int .u8 0)).setCell ⟨W.heap.size, 3, none⟩ (.pointer none)).setCell ⟨W.heap.size, 4, none⟩ (.int .u64 (obj : Int))).setCell ⟨W.heap.size, 5, none⟩ (.int .u8 0)).setCell ⟨W.heap.size, 6, none⟩ (.int .u64 0)).setCell ⟨W.heap.size, 7, none⟩ (.int .u8 0)).cell? ⟨W.heap.size, 7, none⟩ = some (.int .u8 0) := set_same P7 7 _ _ rfl
  have P8 := P7.set 7 (.int .u8 0)
  have q8 : (((((((((y0.setCell ⟨W.heap.size, 0, none⟩ (.int .u64 (cam : Int))).setCell ⟨W.heap.size, 1, none⟩ (.int .u64 0)).setCell ⟨W.heap.size, 2, none⟩ (.int .u8 0)).setCell ⟨W.heap.size, 3, none⟩ (.pointer none)).setCell ⟨W.heap.size, 4, none⟩ (.int .u64 (obj : Int))).setCell ⟨W.heap.size, 5, none⟩ (.int .u8 0)).setCell ⟨W.heap.size, 6, none⟩ (.int .u64 0)).setCell ⟨W.heap.size, 7, none⟩ (.int .u8 0)).setCell ⟨W.heap.size, 8, none⟩ (.int .u64 0)).cell? ⟨W.heap.size, 8, none⟩ = some (.int .u64 0) := set_same P8 8 _ _ rfl
  clear P0 P1 P2 P3 P4 P5 P6 P7 P8
  go_wp2_with fail
  refine bodyPost_ret (v := .agg #[.int .u64 (cam : Int), .int .u64 0, .int .u8 0, .pointer none, .int .u64 (obj : Int), .int .u8 0, .int .u64 0, .int .u8 0, .int .u64 0]) (by simp [results, Try.results39, go_sem, q0, q1, q2, q3, q4, q5, q6, q7, q8]) rfl ⟨rfl, ?_⟩
  exact (((((((((HCY.out.setCell (fun e => (Nat.lt_irrefl _ e).elim) _).setCell (fun e => (Nat.lt_irrefl _ e).elim) _).setCell (fun e => (Nat.lt_irrefl _ e).elim) _).setCell (fun e => (Nat.lt_irrefl _ e).elim) _).setCell (fun e => (Nat.lt_irrefl _ e).elim) _).setCell (fun e => (Nat.lt_irrefl _ e).elim) _).setCell (fun e => (Nat.lt_irrefl _ e).elim) _).setCell (fun e => (Nat.lt_irrefl _ e).elim) _).setCell (fun e => (Nat.lt_irrefl _ e).elim) _)
def rest0 (old now : Nat) : List Value := [.int .u8 0, .int .u64 0, .int .u64 (old : Int), .int .u64 (now : Int), .int .u8 0, .int .u64 0, .bool false, .int .i64 0]
set_option maxRecDepth 100000 in
theorem rd_new (cam obj : Nat) (W : World) : Calls Try.prog 25 #[.int .u64 (cam : Int), .int .u64 (obj : Int)] W fun e W' => ∃ p, W.heap.size ≤ p ∧ e = .returned (.pointer (some ⟨p, 0, none⟩)) ∧ Blk W' p 107 (fndL cam 0 0 (.pointer none) obj 0 0 [.int .u8 0, .int .u64 0]) ∧ Chg (fun _ => False) W W' ∧ W'.heap.size = p + 1 := by
  go_enter Try.func25, Try.ntmps25
  go_wp2_with fail
  refine (newr_any cam obj _).mono ?_
  rintro e w1 ⟨rfl, C1⟩
  have HC1 := keepH C1
  clear C1
  go_wp2_with fail
  go_ret
  exact ⟨w1.heap.size, HC1.out.size, by simp, (heap_alloc_new _ _).trans (by rfl), HC1.out.alloc _, by simp⟩
set_option maxRecDepth 100000 in
theorem cs_new (cam obj old now : Nat) (W : World) : Calls Try.prog 24 #[.int .u64 (cam : Int), .int .u64 (obj : Int), .int .u64 (old : Int), .int .u64 (now : Int)] W fun e W' => ∃ p, W.heap.size ≤ p ∧ e = .returned (.pointer (some ⟨p, 0, none⟩)) ∧ Blk W' p 95 (fndL cam 0 0 (.pointer none) obj 0 0 (rest0 old now)) ∧ Chg (fun _ => False) W W' ∧ W'.heap.size = p + 1 := by
  go_enter Try.func24, Try.ntmps24
  go_wp2_with fail
  refine (newr_any cam obj _).mono ?_
  rintro e w1 ⟨rfl, C1⟩
  have HC1 := keepH C1
  clear C1
  go_wp2_with fail
  go_ret
  exact ⟨w1.heap.size, HC1.out.size, by simp, (heap_alloc_new _ _).trans (by rfl), HC1.out.alloc _, by simp⟩
set_option maxRecDepth 100000 in
theorem at_new (cam obj st : Nat) (W : World) : Calls Try.prog 18 #[.int .u64 (cam : Int), .int .u64 (obj : Int), .int .u64 (st : Int)] W fun e W' => ∃ p, W.heap.size ≤ p ∧ e = .returned (.pointer (some ⟨p, 0, none⟩)) ∧ Blk W' p 104 (fndL cam 0 0 (.pointer none) obj 0 0 [.int .u64 (st : Int), .int .u8 0, .int .u64 0]) ∧ Chg (fun _ => False) W W' ∧ W'.heap.size = p + 1 := by
  go_enter Try.func18, Try.ntmps18
  go_wp2_with fail
  refine (newf_any cam obj _).mono ?_
  rintro e w1 ⟨rfl, C1⟩
  have HC1 := keepH C1
  clear C1
  go_wp2_with fail
  go_ret
  exact ⟨w1.heap.size, HC1.out.size, by simp, (heap_alloc_new _ _).trans (by rfl), HC1.out.alloc _, by simp⟩
set_option maxRecDepth 100000 in
theorem in_new (cam ver : Nat) (W : World) : Calls Try.prog 41 #[.int .u64 (cam : Int), .int .u64 (ver : Int)] W fun e W' => e = .returned (.pointer (some ⟨W.heap.size, 0, none⟩)) ∧ Blk W' W.heap.size 150 (stpL cam ver 0 (.pointer none) []) ∧ Chg (fun _ => False) W W' := by
  obtain ⟨w1, hw1⟩ : ∃ w1, w1 = W.alloc (.cells #[.int .u64 (cam : Int), .int .u64 0, .int .u8 0, .pointer none] 150) := ⟨_, rfl⟩
  have P1 : Hid (Blk w1 W.heap.size 150 (stpL cam 0 0 (.pointer none) [])) := by rw [hw1]; exact heap_alloc_new _ _
  have HC1 : Hid (Chg (fun _ => False) W w1) := by rw [hw1]; exact (Chg.refl _ _).alloc _
  go_enter Try.func41, Try.ntmps41
  go_upto_region 2 with fail
  rw [← hw1]
  clear hw1
  go_wp2_with fail
  refine (aim_any P1.out ver).mono ?_
  rintro e w2 ⟨rfl, P2, C2⟩
  have HP2 := keepH P2
  have HC2 : Hid (Chg (fun _ => False) W w2) := HC1.out.trans C2 (fun _ _ x => x) (fun i hi e => by omega)
  clear P2 C2
  go_wp2_with fail
  go_ret
  exact ⟨by simp, HP2.out, HC2.out⟩
end Go.Proofs.Ytadbgmcfjemkeaa
