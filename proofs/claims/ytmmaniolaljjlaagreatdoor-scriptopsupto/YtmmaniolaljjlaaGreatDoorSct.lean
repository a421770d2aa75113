/- The document's words, and what is wrong with an operation. (mkSct.py) -/
import Derived.Test.YtmmaniolaljjlaaGreatDoorSco
namespace Go.Proofs.YtmmaniolaljjlaaGreatDoor
open Go.RowKit Go.Shelf
set_option linter.unusedVariables false

theorem lit_cell (k : Nat) (hk : k < 11) : (#[.string ⟨#[]⟩, .string ⟨#[103, 101, 116]⟩, .string ⟨#[112, 117, 116]⟩, .string ⟨#[100, 101, 108, 101, 116, 101]⟩, .string ⟨#[115, 119, 97, 112]⟩, .string ⟨#[115, 110, 97, 112, 115, 104, 111, 116]⟩, .string ⟨#[114, 101, 108, 101, 97, 115, 101]⟩, .string ⟨#[109, 117, 108, 116, 105, 103, 101, 116]⟩, .string ⟨#[114, 97, 110, 103, 101]⟩, .string ⟨#[99, 111, 117, 110, 116]⟩, .string ⟨#[99, 111, 108, 108, 101, 99, 116]⟩] : Array Value)[k]? = some (.string (mkS (opW k))) := by
  have : k = 0 ∨ k = 1 ∨ k = 2 ∨ k = 3 ∨ k = 4 ∨ k = 5 ∨ k = 6 ∨ k = 7 ∨ k = 8 ∨ k = 9 ∨ k = 10 := by omega
  rcases this with rfl | rfl | rfl | rfl | rfl | rfl | rfl | rfl | rfl | rfl | rfl <;> rfl
set_option maxRecDepth 100000 in
set_option maxHeartbeats 2000000 in
theorem dWord_any (k : Nat) (hk : k < 256) (W : World) : Calls Tryz.prog 27 #[.int .u8 (k : Int)] W fun e W' => e = .returned (.string (mkS (opW k))) ∧ Below W.heap.size W W' := by
  obtain ⟨w1, hw1⟩ : ∃ w1, w1 = W.alloc (.cells #[.string ⟨#[]⟩, .string ⟨#[103, 101, 116]⟩, .string ⟨#[112, 117, 116]⟩, .string ⟨#[100, 101, 108, 101, 116, 101]⟩, .string ⟨#[115, 119, 97, 112]⟩, .string ⟨#[115, 110, 97, 112, 115, 104, 111, 116]⟩, .string ⟨#[114, 101, 108, 101, 97, 115, 101]⟩, .string ⟨#[109, 117, 108, 116, 105, 103, 101, 116]⟩, .string ⟨#[114, 97, 110, 103, 101]⟩, .string ⟨#[99, 111, 117, 110, 116]⟩, .string ⟨#[99, 111, 108, 108, 101, 99, 116]⟩] 119) := ⟨_, rfl⟩
  obtain ⟨P, hP⟩ : ∃ P, P = W.heap.size := ⟨_, rfl⟩
  have B1 : Below W.heap.size W w1 := by rw [hw1]; exact below_alloc _ _
  have X1 : w1.heap[P]? = some (.cells #[.string ⟨#[]⟩, .string ⟨#[103, 101, 116]⟩, .string ⟨#[112, 117, 116]⟩, .string ⟨#[100, 101, 108, 101, 116, 101]⟩, .string ⟨#[115, 119, 97, 112]⟩, .string ⟨#[115, 110, 97, 112, 115, 104, 111, 116]⟩, .string ⟨#[114, 101, 108, 101, 97, 115, 101]⟩, .string ⟨#[109, 117, 108, 116, 105, 103, 101, 116]⟩, .string ⟨#[114, 97, 110, 103, 101]⟩, .string ⟨#[99, 111, 117, 110, 116]⟩, .string ⟨#[99, 111, 108, 108, 101, 99, 116]⟩] 119 (0, 0)) := by rw [hw1, hP]; exact heap_alloc_new _ _
  have HW1 := keepH hw1
  have HP := keepH hP
  have HB1 := keepH B1
  by_cases h11 : k < 11
  · have c0 : w1.cell? ⟨P, k, none⟩ = some (.string (mkS (opW k))) := (cell_of X1 k).trans (lit_cell k h11)
    have t1 : ¬ ((k : Int) ≥ 11) := by omega
    have t0 : (0 : Int) ≤ (k : Int) := by omega
    have t2 : (k : Int) < 11 := by omega
    obtain ⟨s, hs⟩ : ∃ s, s = mkS (opW k) := ⟨_, rfl⟩
    rw [← hs] at c0 ⊢
    clear hs X1 B1 hw1 hP
    go_enter Tryz.func27, Tryz.ntmps27
    go_upto_region 2 with fail
    rw [← HW1.out, ← HP.out]
    go_wp2_with fail
    go_ret
    exact ⟨by simp, HB1.out⟩
  · have t1 : ((k : Int) ≥ 11) := by omega
    have e : opW k = [] := by
      unfold opW
      rw [List.getD, List.getElem?_eq_none (by show 11 ≤ k; omega)]
      rfl
    rw [e]
    clear e X1 B1 hw1 hP
    go_enter Tryz.func27, Tryz.ntmps27
    go_upto_region 2 with fail
    rw [← HW1.out, ← HP.out]
    go_wp2_with fail
    go_ret
    exact ⟨by simp, HB1.out⟩
set_option maxRecDepth 100000 in
theorem dHandled_any (k : Nat) (W : World) : Calls Tryz.prog 28 #[.int .u8 (k : Int)] W fun e W' => e = .returned (.bool (hndK k)) ∧ W' = W := by
  by_cases h6 : 6 ≤ k
  · have t1 : ((k : Int) ≥ 6) := by omega
    have e : hndK k = decide ((k : Int) ≤ 9) := by unfold hndK; rw [decide_eq_decide]; omega
    rw [e]
    clear e
    go_enter Tryz.func28, Tryz.ntmps28
    go_wp2_with fail
    go_ret
    exact ⟨by simp, rfl⟩
  · have t1 : ¬ ((k : Int) ≥ 6) := by omega
    have e : hndK k = false := by unfold hndK; simp; omega
    rw [e]
    clear e
    go_enter Tryz.func28, Tryz.ntmps28
    go_wp2_with fail
    go_ret
    exact ⟨by simp, rfl⟩
def bareR (k key val old hnd : Nat) (set : Bool) (rt ri : Int) (lo hi : Nat) : Array Value := opR k (zk k 1 key) (zk k 2 val) (zk k 3 old) (if hndK k = true then 0 else hnd) (if hndK k = true then false else set) (if hndK k = true then 0 else rt) (if hndK k = true then 0 else ri) (.slice none 0 0) (zk k 9 lo) (zk k 10 hi)
set_option maxRecDepth 100000 in
set_option maxHeartbeats 4000000 in
theorem bare_1 (key val old hnd : Nat) (set : Bool) (rt ri : Int) (kp : Option Addr) (n kc lo hi : Nat) (W : World) : Calls Tryz.prog 94 #[.agg (opR 1 key val old hnd set rt ri (.slice kp n kc) lo hi)] W fun e W' => e = .returned (.agg (opR 1 0 val old hnd set rt ri (.slice none 0 0) lo hi)) ∧ Below W.heap.size W W' := by
  have HH := keepH (fun w => dHandled_any 1 w)
  rw [show hndK 1 = false from rfl] at HH
  go_enter Tryz.func94, Tryz.ntmps94
  go_wp2_with fail
  refine (HH.out _).mono ?_
  rintro e w ⟨rfl, rfl⟩
  go_wp2_with fail
  exact bodyPost_ret (v := .agg (opR 1 0 val old hnd set rt ri (.slice none 0 0) lo hi)) (by simp [results, Tryz.results94, go_sem]) rfl ⟨rfl, (below_alloc _ _).trans ((below_alloc _ _).mono (by simp))⟩
set_option maxRecDepth 100000 in
set_option maxHeartbeats 4000000 in
theorem bare_2 (key val old hnd : Nat) (set : Bool) (rt ri : Int) (kp : Option Addr) (n kc lo hi : Nat) (W : World) : Calls Tryz.prog 94 #[.agg (opR 2 key val old hnd set rt ri (.slice kp n kc) lo hi)] W fun e W' => e = .returned (.agg (opR 2 0 0 old hnd set rt ri (.slice none 0 0) lo hi)) ∧ Below W.heap.size W W' := by
  have HH := keepH (fun w => dHandled_any 2 w)
  rw [show hndK 2 = false from rfl] at HH
  go_enter Tryz.func94, Tryz.ntmps94
  go_wp2_with fail
  refine (HH.out _).mono ?_
  rintro e w ⟨rfl, rfl⟩
  go_wp2_with fail
  exact bodyPost_ret (v := .agg (opR 2 0 0 old hnd set rt ri (.slice none 0 0) lo hi)) (by simp [results, Tryz.results94, go_sem]) rfl ⟨rfl, (below_alloc _ _).trans ((below_alloc _ _).mono (by simp))⟩
set_option maxRecDepth 100000 in
set_option maxHeartbeats 4000000 in
theorem bare_3 (key val old hnd : Nat) (set : Bool) (rt ri : Int) (kp : Option Addr) (n kc lo hi : Nat) (W : World) : Calls Tryz.prog 94 #[.agg (opR 3 key val old hnd set rt ri (.slice kp n kc) lo hi)] W fun e W' => e = .returned (.agg (opR 3 0 val old hnd set rt ri (.slice none 0 0) lo hi)) ∧ Below W.heap.size W W' := by
  have HH := keepH (fun w => dHandled_any 3 w)
  rw [show hndK 3 = false from rfl] at HH
  go_enter Tryz.func94, Tryz.ntmps94
  go_wp2_with fail
  refine (HH.out _).mono ?_
  rintro e w ⟨rfl, rfl⟩
  go_wp2_with fail
  exact bodyPost_ret (v := .agg (opR 3 0 val old hnd set rt ri (.slice none 0 0) lo hi)) (by simp [results, Tryz.results94, go_sem]) rfl ⟨rfl, (below_alloc _ _).trans ((below_alloc _ _).mono (by simp))⟩
set_option maxRecDepth 100000 in
set_option maxHeartbeats 4000000 in
theorem bare_4 (key val old hnd : Nat) (set : Bool) (rt ri : Int) (kp : Option Addr) (n kc lo hi : Nat) (W : World) : Calls Tryz.prog 94 #[.agg (opR 4 key val old hnd set rt ri (.slice kp n kc) lo hi)] W fun e W' => e = .returned (.agg (opR 4 0 0 0 hnd set rt ri (.slice none 0 0) lo hi)) ∧ Below W.heap.size W W' := by
  have HH := keepH (fun w => dHandled_any 4 w)
  rw [show hndK 4 = false from rfl] at HH
  go_enter Tryz.func94, Tryz.ntmps94
  go_wp2_with fail
  refine (HH.out _).mono ?_
  rintro e w ⟨rfl, rfl⟩
  go_wp2_with fail
  exact bodyPost_ret (v := .agg (opR 4 0 0 0 hnd set rt ri (.slice none 0 0) lo hi)) (by simp [results, Tryz.results94, go_sem]) rfl ⟨rfl, (below_alloc _ _).trans ((below_alloc _ _).mono (by simp))⟩
set_option maxRecDepth 100000 in
set_option maxHeartbeats 4000000 in
theorem bare_6 (key val old hnd : Nat) (set : Bool) (rt ri : Int) (kp : Option Addr) (n kc lo hi : Nat) (W : World) : Calls Tryz.prog 94 #[.agg (opR 6 key val old hnd set rt ri (.slice kp n kc) lo hi)] W fun e W' => e = .returned (.agg (opR 6 key val old 0 false 0 0 (.slice none 0 0) lo hi)) ∧ Below W.heap.size W W' := by
  have HH := keepH (fun w => dHandled_any 6 w)
  rw [show hndK 6 = true from rfl] at HH
  go_enter Tryz.func94, Tryz.ntmps94
  go_wp2_with fail
  refine (HH.out _).mono ?_
  rintro e w ⟨rfl, rfl⟩
  go_wp2_with fail
  exact bodyPost_ret (v := .agg (opR 6 key val old 0 false 0 0 (.slice none 0 0) lo hi)) (by simp [results, Tryz.results94, go_sem]) rfl ⟨rfl, (below_alloc _ _).trans ((below_alloc _ _).mono (by simp))⟩
set_option maxRecDepth 100000 in
set_option maxHeartbeats 4000000 in
theorem bare_7 (key val old hnd : Nat) (set : Bool) (rt ri : Int) (kp : Option Addr) (n kc lo hi : Nat) (W : World) : Calls Tryz.prog 94 #[.agg (opR 7 key val old hnd set rt ri (.slice kp n kc) lo hi)] W fun e W' => e = .returned (.agg (opR 7 key val old 0 false 0 0 (.slice none 0 0) lo hi)) ∧ Below W.heap.size W W' := by
  have HH := keepH (fun w => dHandled_any 7 w)
  rw [show hndK 7 = true from rfl] at HH
  go_enter Tryz.func94, Tryz.ntmps94
  go_wp2_with fail
  refine (HH.out _).mono ?_
  rintro e w ⟨rfl, rfl⟩
  go_wp2_with fail
  exact bodyPost_ret (v := .agg (opR 7 key val old 0 false 0 0 (.slice none 0 0) lo hi)) (by simp [results, Tryz.results94, go_sem]) rfl ⟨rfl, (below_alloc _ _).trans ((below_alloc _ _).mono (by simp))⟩
set_option maxRecDepth 100000 in
set_option maxHeartbeats 4000000 in
theorem bare_8 (key val old hnd : Nat) (set : Bool) (rt ri : Int) (kp : Option Addr) (n kc lo hi : Nat) (W : World) : Calls Tryz.prog 94 #[.agg (opR 8 key val old hnd set rt ri (.slice kp n kc) lo hi)] W fun e W' => e = .returned (.agg (opR 8 key val old 0 false 0 0 (.slice none 0 0) 0 0)) ∧ Below W.heap.size W W' := by
  have HH := keepH (fun w => dHandled_any 8 w)
  rw [show hndK 8 = true from rfl] at HH
  go_enter Tryz.func94, Tryz.ntmps94
  go_wp2_with fail
  refine (HH.out _).mono ?_
  rintro e w ⟨rfl, rfl⟩
  go_wp2_with fail
  exact bodyPost_ret (v := .agg (opR 8 key val old 0 false 0 0 (.slice none 0 0) 0 0)) (by simp [results, Tryz.results94, go_sem]) rfl ⟨rfl, (below_alloc _ _).trans ((below_alloc _ _).mono (by simp))⟩
set_option maxRecDepth 100000 in
set_option maxHeartbeats 4000000 in
theorem bare_9 (key val old hnd : Nat) (set : Bool) (rt ri : Int) (kp : Option Addr) (n kc lo hi : Nat) (W : World) : Calls Tryz.prog 94 #[.agg (opR 9 key val old hnd set rt ri (.slice kp n kc) lo hi)] W fun e W' => e = .returned (.agg (opR 9 key val old 0 false 0 0 (.slice none 0 0) 0 0)) ∧ Below W.heap.size W W' := by
  have HH := keepH (fun w => dHandled_any 9 w)
  rw [show hndK 9 = true from rfl] at HH
  go_enter Tryz.func94, Tryz.ntmps94
  go_wp2_with fail
  refine (HH.out _).mono ?_
  rintro e w ⟨rfl, rfl⟩
  go_wp2_with fail
  exact bodyPost_ret (v := .agg (opR 9 key val old 0 false 0 0 (.slice none 0 0) 0 0)) (by simp [results, Tryz.results94, go_sem]) rfl ⟨rfl, (below_alloc _ _).trans ((below_alloc _ _).mono (by simp))⟩
set_option maxRecDepth 100000 in
set_option maxHeartbeats 4000000 in
theorem bare_x (k key val old hnd : Nat) (set : Bool) (rt ri : Int) (kp : Option Addr) (n kc lo hi : Nat) (hn : k ≠ 1 ∧ k ≠ 2 ∧ k ≠ 3 ∧ k ≠ 4 ∧ ¬ (6 ≤ k ∧ k ≤ 9)) (W : World) : Calls Tryz.prog 94 #[.agg (opR k key val old hnd set rt ri (.slice kp n kc) lo hi)] W fun e W' => e = .returned (.agg (opR k key val old hnd set rt ri (.slice none 0 0) lo hi)) ∧ Below W.heap.size W W' := by
  have HH := keepH (fun w => dHandled_any k w)
  rw [show hndK k = false by unfold hndK; simp; omega] at HH
  have t1 : ¬ ((k : Int) = 1) := by omega
  have u1 : ((k : Int) == 1) = false := by simpa using t1
  have t2 : ¬ ((k : Int) = 2) := by omega
  have u2 : ((k : Int) == 2) = false := by simpa using t2
  have t3 : ¬ ((k : Int) = 3) := by omega
  have u3 : ((k : Int) == 3) = false := by simpa using t3
  have t4 : ¬ ((k : Int) = 4) := by omega
  have u4 : ((k : Int) == 4) = false := by simpa using t4
  have t8 : ¬ ((k : Int) = 8) := by omega
  have u8 : ((k : Int) == 8) = false := by simpa using t8
  have t9 : ¬ ((k : Int) = 9) := by omega
  have u9 : ((k : Int) == 9) = false := by simpa using t9
  clear hn
  go_enter Tryz.func94, Tryz.ntmps94
  go_wp2_with fail
  refine (HH.out _).mono ?_
  rintro e w ⟨rfl, rfl⟩
  go_wp2_with fail
  exact bodyPost_ret (v := .agg (opR k key val old hnd set rt ri (.slice none 0 0) lo hi)) (by simp [results, Tryz.results94, go_sem]) rfl ⟨rfl, (below_alloc _ _).trans ((below_alloc _ _).mono (by simp))⟩
theorem bare_any (k key val old hnd : Nat) (set : Bool) (rt ri : Int) (kp : Option Addr) (n kc lo hi : Nat) (W : World) : Calls Tryz.prog 94 #[.agg (opR k key val old hnd set rt ri (.slice kp n kc) lo hi)] W fun e W' => e = .returned (.agg (bareR k key val old hnd set rt ri lo hi)) ∧ Below W.heap.size W W' := by
  by_cases hn : k ≠ 1 ∧ k ≠ 2 ∧ k ≠ 3 ∧ k ≠ 4 ∧ ¬ (6 ≤ k ∧ k ≤ 9)
  · have h := bare_x k key val old hnd set rt ri kp n kc lo hi hn W
    have e : bareR k key val old hnd set rt ri lo hi = opR k key val old hnd set rt ri (.slice none 0 0) lo hi := by
      have hk : numK k = [] := by
        unfold numK
        split <;> first | rfl | (exfalso; omega)
      have hh : hndK k = false := by unfold hndK; simp; omega
      unfold bareR zk
      rw [hk, hh]
      simp
    rw [e]
    exact h
  · have : k = 1 ∨ k = 2 ∨ k = 3 ∨ k = 4 ∨ k = 6 ∨ k = 7 ∨ k = 8 ∨ k = 9 := by omega
    rcases this with rfl | rfl | rfl | rfl | rfl | rfl | rfl | rfl
    · exact bare_1 key val old hnd set rt ri kp n kc lo hi W
    · exact bare_2 key val old hnd set rt ri kp n kc lo hi W
    · exact bare_3 key val old hnd set rt ri kp n kc lo hi W
    · exact bare_4 key val old hnd set rt ri kp n kc lo hi W
    · exact bare_6 key val old hnd set rt ri kp n kc lo hi W
    · exact bare_7 key val old hnd set rt ri kp n kc lo hi W
    · exact bare_8 key val old hnd set rt ri kp n kc lo hi W
    · exact bare_9 key val old hnd set rt ri kp n kc lo hi W
end Go.Proofs.YtmmaniolaljjlaaGreatDoor
