/- The document's words, and what is wrong with an operation. (mkSct.py) -/
import Derived.Test.YtmmaniolaljjlaaGreatDoorP8Store
import Derived.Test.YtmmaniolaljjlaaGreatDoorP11Seb
namespace Go.Proofs.YtmmaniolaljjlaaGreatDoor
open Go.RowKit Go.Shelf
set_option linter.unusedVariables false

theorem lit_cell (k : Nat) (hk : k < 11) : (#[.string ⟨#[]⟩, .string ⟨#[103, 101, 116]⟩, .string ⟨#[112, 117, 116]⟩, .string ⟨#[100, 101, 108, 101, 116, 101]⟩, .string ⟨#[115, 119, 97, 112]⟩, .string ⟨#[115, 110, 97, 112, 115, 104, 111, 116]⟩, .string ⟨#[114, 101, 108, 101, 97, 115, 101]⟩, .string ⟨#[109, 117, 108, 116, 105, 103, 101, 116]⟩, .string ⟨#[114, 97, 110, 103, 101]⟩, .string ⟨#[99, 111, 117, 110, 116]⟩, .string ⟨#[99, 111, 108, 108, 101, 99, 116]⟩] : Array Value)[k]? = some (.string (mkS (opW k))) := by
  have : k = 0 ∨ k = 1 ∨ k = 2 ∨ k = 3 ∨ k = 4 ∨ k = 5 ∨ k = 6 ∨ k = 7 ∨ k = 8 ∨ k = 9 ∨ k = 10 := by omega
  rcases this with rfl | rfl | rfl | rfl | rfl | rfl | rfl | rfl | rfl | rfl | rfl <;> rfl
set_option maxRecDepth 100000 in
set_option maxHeartbeats 2000000 in
theorem dWord_any (k : Nat) (hk : k < 256) (W : World) : Calls Tryz.prog 27 #[.int .u8 (k : Int)] W fun e W' => e = .returned (.string (mkS (opW k))) ∧ Below W.heap.size W W' := by
  obtain ⟨w1, hw1⟩ : ∃ w1, w1 = W.alloc (.cells #[.string ⟨#[]⟩, .string ⟨#[103, 101, 116]⟩, .string ⟨#[112, 117, 116]⟩, .string ⟨#[100, 101, 108, 101, 116, 101]⟩, .string ⟨#[115, 119, 97, 112]⟩, .string ⟨#[115, 110, 97, 112, 115, 104, 111, 116]⟩, .string ⟨#[114, 101, 108, 101, 97, 115, 101]⟩, .string ⟨#[109, 117, 108, 116, 105, 103, 101, 116]⟩, .string ⟨#[114, 97, 110, 103, 101]⟩, .string ⟨#[99, 111, 117, 110, 116]⟩, .string ⟨#[99, 111, 108, 108, 101, 99, 116]⟩] 119) := ⟨_, rfl⟩
  obtain ⟨P, hP⟩ : ∃ P, P = W.heap.size := ⟨_, rfl⟩
  have B1 : Below W.heap.size W w1 := by rw [hw1]; exact below_alloc _ _
  have X1 : w1.heap[P]? = some (.cells #[.string ⟨#[]⟩, .string ⟨#[103, 101, 116]⟩, .string ⟨#[112, 117, 116]⟩, .string ⟨#[100, 101, 108, 101, 116, 101]⟩, .string ⟨#[115, 119, 97, 112]⟩, .string ⟨#[115, 110, 97, 112, 115, 104, 111, 116]⟩, .string ⟨#[114, 101, 108, 101, 97, 115, 101]⟩, .string ⟨#[109, 117, 108, 116, 105, 103, 101, 116]⟩, .string ⟨#[114, 97, 110, 103, 101]⟩, .string ⟨#[99, 111, 117, 110, 116]⟩, .string ⟨#[99, 111, 108, 108, 101, 99, 116]⟩] 119 (0, 0)) := by rw [hw1, hP]; exact heap_alloc_new _ _
  have HW1 := keepH hw1
  have HP := keepH hP
  have HB1 := keepH B1
  by_cases h11 : k < 11
  · have c0 : w1.cell? ⟨P, k, none⟩ = some (.string (mkS (opW k))) := (cell_of X1 k).trans (lit_cell k h11)
    have t1 : ¬ ((k : Int) ≥ 11) := by omega
    have t0 : (0 : Int) ≤ (k : Int) := by omega
    have t2 : (k : Int) < 11 := by omega
    obtain ⟨s, hs⟩ : ∃ s, s = mkS (opW k) := ⟨_, rfl⟩
    rw [← hs] at c0 ⊢
    clear hs X1 B1 hw1 hP
    go_enter Tryz.func27, Tryz.ntmps27
    go_upto_region 2 with fail
    rw [← HW1.out, ← HP.out]
    go_wp2_with fail
    go_ret
    exact ⟨by simp, HB1.out⟩
  · have t1 : ((k : Int) ≥ 11) := by omega
    have e : opW k = [] := by
      unfold opW
      rw [List.getD, List.getElem?_eq_none (by show 11 ≤ k; omega)]
      rfl
    rw [e]
    clear e X1 B1 hw1 hP
    go_enter Tryz.func27, Tryz.ntmps27
    go_upto_region 2 with fail
    rw [← HW1.out, ← HP.out]
    go_wp2_with fail
    go_ret
    exact ⟨by simp, HB1.out⟩
set_option maxRecDepth 100000 in
theorem dHandled_any (k : Nat) (W : World) : Calls Tryz.prog 28 #[.int .u8 (k : Int)] W fun e W' => e = .returned (.bool (hndK k)) ∧ W' = W := by
  by_cases h6 : 6 ≤ k
  · have t1 : ((k : Int) ≥ 6) := by omega
    have e : hndK k = decide ((k : Int) ≤ 9) := by unfold hndK; rw [decide_eq_decide]; omega
    rw [e]
    clear e
    go_enter Tryz.func28, Tryz.ntmps28
    go_wp2_with fail
    go_ret
    exact ⟨by simp, rfl⟩
  · have t1 : ¬ ((k : Int) ≥ 6) := by omega
    have e : hndK k = false := by unfold hndK; simp; omega
    rw [e]
    clear e
    go_enter Tryz.func28, Tryz.ntmps28
    go_wp2_with fail
    go_ret
    exact ⟨by simp, rfl⟩
def bareR (k key val old hnd : Nat) (set : Bool) (rt ri : Int) (lo hi : Nat) : Array Value := opR k (zk k 1 key) (zk k 2 val) (zk k 3 old) (if hndK k = true then 0 else hnd) (if hndK k = true then false else set) (if hndK k = true then 0 else rt) (if hndK k = true then 0 else ri) (.slice none 0 0) (zk k 9 lo) (zk k 10 hi)
set_option maxRecDepth 100000 in
set_option maxHeartbeats 4000000 in
theorem bare_1 (key val old hnd : Nat) (set : Bool) (rt ri : Int) (kp : Option Addr) (n kc lo hi : Nat) (W : World) : Calls Tryz.prog 94 #[.agg (opR 1 key val old hnd set rt ri (.slice kp n kc) lo hi)] W fun e W' => e = .returned (.agg (opR 1 0 val old hnd set rt ri (.slice none 0 0) lo hi)) ∧ Below W.heap.size W W' := by
  have HH := keepH (fun w => dHandled_any 1 w)
  rw [show hndK 1 = false from rfl] at HH
  go_enter Tryz.func94, Tryz.ntmps94
  go_wp2_with fail
  refine (HH.out _).mono ?_
  rintro e w ⟨rfl, rfl⟩
  go_wp2_with fail
  exact bodyPost_ret (v := .agg (opR 1 0 val old hnd set rt ri (.slice none 0 0) lo hi)) (by simp [results, Tryz.results94, go_sem]) rfl ⟨rfl, (below_alloc _ _).trans ((below_alloc _ _).mono (by simp))⟩
set_option maxRecDepth 100000 in
set_option maxHeartbeats 4000000 in
theorem bare_2 (key val old hnd : Nat) (set : Bool) (rt ri : Int) (kp : Option Addr) (n kc lo hi : Nat) (W : World) : Calls Tryz.prog 94 #[.agg (opR 2 key val old hnd set rt ri (.slice kp n kc) lo hi)] W fun e W' => e = .returned (.agg (opR 2 0 0 old hnd set rt ri (.slice none 0 0) lo hi)) ∧ Below W.heap.size W W' := by
  have HH := keepH (fun w => dHandled_any 2 w)
  rw [show hndK 2 = false from rfl] at HH
  go_enter Tryz.func94, Tryz.ntmps94
  go_wp2_with fail
  refine (HH.out _).mono ?_
  rintro e w ⟨rfl, rfl⟩
  go_wp2_with fail
  exact bodyPost_ret (v := .agg (opR 2 0 0 old hnd set rt ri (.slice none 0 0) lo hi)) (by simp [results, Tryz.results94, go_sem]) rfl ⟨rfl, (below_alloc _ _).trans ((below_alloc _ _).mono (by simp))⟩
set_option maxRecDepth 100000 in
set_option maxHeartbeats 4000000 in
theorem bare_3 (key val old hnd : Nat) (set : Bool) (rt ri : Int) (kp : Option Addr) (n kc lo hi : Nat) (W : World) : Calls Tryz.prog 94 #[.agg (opR 3 key val old hnd set rt ri (.slice kp n kc) lo hi)] W fun e W' => e = .returned (.agg (opR 3 0 val old hnd set rt ri (.slice none 0 0) lo hi)) ∧ Below W.heap.size W W' := by
  have HH := keepH (fun w => dHandled_any 3 w)
  rw [show hndK 3 = false from rfl] at HH
  go_enter Tryz.func94, Tryz.ntmps94
  go_wp2_with fail
  refine (HH.out _).mono ?_
  rintro e w ⟨rfl, rfl⟩
  go_wp2_with fail
  exact bodyPost_ret (v := .agg (opR 3 0 val old hnd set rt ri (.slice none 0 0) lo hi)) (by simp [results, Tryz.results94, go_sem]) rfl ⟨rfl, (below_alloc _ _).trans ((below_alloc _ _).mono (by simp))⟩
set_option maxRecDepth 100000 in
set_option maxHeartbeats 4000000 in
theorem bare_4 (key val old hnd : Nat) (set : Bool) (rt ri : Int) (kp : Option Addr) (n kc lo hi : Nat) (W : World) : Calls Tryz.prog 94 #[.agg (opR 4 key val old hnd set rt ri (.slice kp n kc) lo hi)] W fun e W' => e = .returned (.agg (opR 4 0 0 0 hnd set rt ri (.slice none 0 0) lo hi)) ∧ Below W.heap.size W W' := by
  have HH := keepH (fun w => dHandled_any 4 w)
  rw [show hndK 4 = false from rfl] at HH
  go_enter Tryz.func94, Tryz.ntmps94
  go_wp2_with fail
  refine (HH.out _).mono ?_
  rintro e w ⟨rfl, rfl⟩
  go_wp2_with fail
  exact bodyPost_ret (v := .agg (opR 4 0 0 0 hnd set rt ri (.slice none 0 0) lo hi)) (by simp [results, Tryz.results94, go_sem]) rfl ⟨rfl, (below_alloc _ _).trans ((below_alloc _ _).mono (by simp))⟩
set_option maxRecDepth 100000 in
set_option maxHeartbeats 4000000 in
theorem bare_6 (key val old hnd : Nat) (set : Bool) (rt ri : Int) (kp : Option Addr) (n kc lo hi : Nat) (W : World) : Calls Tryz.prog 94 #[.agg (opR 6 key val old hnd set rt ri (.slice kp n kc) lo hi)] W fun e W' => e = .returned (.agg (opR 6 key val old 0 false 0 0 (.slice none 0 0) lo hi)) ∧ Below W.heap.size W W' := by
  have HH := keepH (fun w => dHandled_any 6 w)
  rw [show hndK 6 = true from rfl] at HH
  go_enter Tryz.func94, Tryz.ntmps94
  go_wp2_with fail
  refine (HH.out _).mono ?_
  rintro e w ⟨rfl, rfl⟩
  go_wp2_with fail
  exact bodyPost_ret (v := .agg (opR 6 key val old 0 false 0 0 (.slice none 0 0) lo hi)) (by simp [results, Tryz.results94, go_sem]) rfl ⟨rfl, (below_alloc _ _).trans ((below_alloc _ _).mono (by simp))⟩
set_option maxRecDepth 100000 in
set_option maxHeartbeats 4000000 in
theorem bare_7 (key val old hnd : Nat) (set : Bool) (rt ri : Int) (kp : Option Addr) (n kc lo hi : Nat) (W : World) : Calls Tryz.prog 94 #[.agg (opR 7 key val old hnd set rt ri (.slice kp n kc) lo hi)] W fun e W' => e = .returned (.agg (opR 7 key val old 0 false 0 0 (.slice none 0 0) lo hi)) ∧ Below W.heap.size W W' := by
  have HH := keepH (fun w => dHandled_any 7 w)
  rw [show hndK 7 = true from rfl] at HH
  go_enter Tryz.func94, Tryz.ntmps94
  go_wp2_with fail
  refine (HH.out _).mono ?_
  rintro e w ⟨rfl, rfl⟩
  go_wp2_with fail
  exact bodyPost_ret (v := .agg (opR 7 key val old 0 false 0 0 (.slice none 0 0) lo hi)) (by simp [results, Tryz.results94, go_sem]) rfl ⟨rfl, (below_alloc _ _).trans ((below_alloc _ _).mono (by simp))⟩
set_option maxRecDepth 100000 in
set_option maxHeartbeats 4000000 in
theorem bare_8 (key val old hnd : Nat) (set : Bool) (rt ri : Int) (kp : Option Addr) (n kc lo hi : Nat) (W : World) : Calls Tryz.prog 94 #[.agg (opR 8 key val old hnd set rt ri (.slice kp n kc) lo hi)] W fun e W' => e = .returned (.agg (opR 8 key val old 0 false 0 0 (.slice none 0 0) 0 0)) ∧ Below W.heap.size W W' := by
  have HH := keepH (fun w => dHandled_any 8 w)
  rw [show hndK 8 = true from rfl] at HH
  go_enter Tryz.func94, Tryz.ntmps94
  go_wp2_with fail
  refine (HH.out _).mono ?_
  rintro e w ⟨rfl, rfl⟩
  go_wp2_with fail
  exact bodyPost_ret (v := .agg (opR 8 key val old 0 false 0 0 (.slice none 0 0) 0 0)) (by simp [results, Tryz.results94, go_sem]) rfl ⟨rfl, (below_alloc _ _).trans ((below_alloc _ _).mono (by simp))⟩
set_option maxRecDepth 100000 in
set_option maxHeartbeats 4000000 in
theorem bare_9 (key val old hnd : Nat) (set : Bool) (rt ri : Int) (kp : Option Addr) (n kc lo hi : Nat) (W : World) : Calls Tryz.prog 94 #[.agg (opR 9 key val old hnd set rt ri (.slice kp n kc) lo hi)] W fun e W' => e = .returned (.agg (opR 9 key val old 0 false 0 0 (.slice none 0 0) 0 0)) ∧ Below W.heap.size W W' := by
  have HH := keepH (fun w => dHandled_any 9 w)
  rw [show hndK 9 = true from rfl] at HH
  go_enter Tryz.func94, Tryz.ntmps94
  go_wp2_with fail
  refine (HH.out _).mono ?_
  rintro e w ⟨rfl, rfl⟩
  go_wp2_with fail
  exact bodyPost_ret (v := .agg (opR 9 key val old 0 false 0 0 (.slice none 0 0) 0 0)) (by simp [results, Tryz.results94, go_sem]) rfl ⟨rfl, (below_alloc _ _).trans ((below_alloc _ _).mono (by simp))⟩
set_option maxRecDepth 100000 in
set_option maxHeartbeats 4000000 in
theorem bare_x (k key val old hnd : Nat) (set : Bool) (rt ri : Int) (kp : Option Addr) (n kc lo hi : Nat) (hn : k ≠ 1 ∧ k ≠ 2 ∧ k ≠ 3 ∧ k ≠ 4 ∧ ¬ (6 ≤ k ∧ k ≤ 9)) (W : World) : Calls Tryz.prog 94 #[.agg (opR k key val old hnd set rt ri (.slice kp n kc) lo hi)] W fun e W' => e = .returned (.agg (opR k key val old hnd set rt ri (.slice none 0 0) lo hi)) ∧ Below W.heap.size W W' := by
  have HH := keepH (fun w => dHandled_any k w)
  rw [show hndK k = false by unfold hndK; simp; omega] at HH
  have t1 : ¬ ((k : Int) = 1) := by omega
  have u1 : ((k : Int) == 1) = false := by simpa using t1
  have t2 : ¬ ((k : Int) = 2) := by omega
  have u2 : ((k : Int) == 2) = false := by simpa using t2
  have t3 : ¬ ((k : Int) = 3) := by omega
  have u3 : ((k : Int) == 3) = false := by simpa using t3
  have t4 : ¬ ((k : Int) = 4) := by omega
  have u4 : ((k : Int) == 4) = false := by simpa using t4
  have t8 : ¬ ((k : Int) = 8) := by omega
  have u8 : ((k : Int) == 8) = false := by simpa using t8
  have t9 : ¬ ((k : Int) = 9) := by omega
  have u9 : ((k : Int) == 9) = false := by simpa using t9
  clear hn
  go_enter Tryz.func94, Tryz.ntmps94
  go_wp2_with fail
  refine (HH.out _).mono ?_
  rintro e w ⟨rfl, rfl⟩
  go_wp2_with fail
  exact bodyPost_ret (v := .agg (opR k key val old hnd set rt ri (.slice none 0 0) lo hi)) (by simp [results, Tryz.results94, go_sem]) rfl ⟨rfl, (below_alloc _ _).trans ((below_alloc _ _).mono (by simp))⟩
theorem bare_any (k key val old hnd : Nat) (set : Bool) (rt ri : Int) (kp : Option Addr) (n kc lo hi : Nat) (W : World) : Calls Tryz.prog 94 #[.agg (opR k key val old hnd set rt ri (.slice kp n kc) lo hi)] W fun e W' => e = .returned (.agg (bareR k key val old hnd set rt ri lo hi)) ∧ Below W.heap.size W W' := by
  by_cases hn : k ≠ 1 ∧ k ≠ 2 ∧ k ≠ 3 ∧ k ≠ 4 ∧ ¬ (6 ≤ k ∧ k ≤ 9)
  · have h := bare_x k key val old hnd set rt ri kp n kc lo hi hn W
    have e : bareR k key val old hnd set rt ri lo hi = opR k key val old hnd set rt ri (.slice none 0 0) lo hi := by
      have hk : numK k = [] := by
        unfold numK
        split <;> first | rfl | (exfalso; omega)
      have hh : hndK k = false := by unfold hndK; simp; omega
      unfold bareR zk
      rw [hk, hh]
      simp
    rw [e]
    exact h
  · have : k = 1 ∨ k = 2 ∨ k = 3 ∨ k = 4 ∨ k = 6 ∨ k = 7 ∨ k = 8 ∨ k = 9 := by omega
    rcases this with rfl | rfl | rfl | rfl | rfl | rfl | rfl | rfl
    · exact bare_1 key val old hnd set rt ri kp n kc lo hi W
    · exact bare_2 key val old hnd set rt ri kp n kc lo hi W
    · exact bare_3 key val old hnd set rt ri kp n kc lo hi W
    · exact bare_4 key val old hnd set rt ri kp n kc lo hi W
    · exact bare_6 key val old hnd set rt ri kp n kc lo hi W
    · exact bare_7 key val old hnd set rt ri kp n kc lo hi W
    · exact bare_8 key val old hnd set rt ri kp n kc lo hi W
    · exact bare_9 key val old hnd set rt ri kp n kc lo hi W
end Go.Proofs.YtmmaniolaljjlaaGreatDoor
/- What is wrong with an operation, by the document. (mkScv.py) -/
namespace Go.Proofs.YtmmaniolaljjlaaGreatDoor
open Go.RowKit Go.Shelf
set_option linter.unusedVariables false

def formB (k key val old hnd : Nat) (set : Bool) (rt ri : Int) (kp : Option Addr) (n kc lo hi : Nat) : Bool := blB (zk k 1 key) (zk k 2 val) (zk k 3 old) (if hndK k = true then 0 else hnd) (zk k 9 lo) (zk k 10 hi) (if hndK k = true then false else set) (if hndK k = true then 0 else rt) (if hndK k = true then 0 else ri) (if kysK k = true then 0 else n) && rhB hnd set rt ri
set_option maxRecDepth 100000 in
set_option maxHeartbeats 8000000 in
theorem form_any (k key val old hnd : Nat) (set : Bool) (rt ri : Int) (kp : Option Addr) (n kc lo hi : Nat) (hk : k < 256) (h1 : isU key) (h2 : isU val) (h3 : isU old) (h4 : isU hnd) (h5 : isU lo) (h6 : isU hi) (ha : isI rt) (hb : isI ri) (W : World) :
    Calls Tryz.prog 71 #[.agg (opR k key val old hnd set rt ri (.slice kp n kc) lo hi)] W fun e W' => e = .returned (.bool (formB k key val old hnd set rt ri kp n kc lo hi)) ∧ Below W.heap.size W W' := by
  have hba := fun w => bare_any k key val old hnd set rt ri kp n kc lo hi w
  unfold bareR at hba
  have HF : Hid (formB k key val old hnd set rt ri kp n kc lo hi = (blB (zk k 1 key) (zk k 2 val) (zk k 3 old) (if hndK k = true then 0 else hnd) (zk k 9 lo) (zk k 10 hi) (if hndK k = true then false else set) (if hndK k = true then 0 else rt) (if hndK k = true then 0 else ri) (if kysK k = true then 0 else n) && rhB hnd set rt ri)) := keepH rfl
  obtain ⟨x1, e1⟩ : ∃ x, x = zk k 1 key := ⟨_, rfl⟩
  obtain ⟨x2, e2⟩ : ∃ x, x = zk k 2 val := ⟨_, rfl⟩
  obtain ⟨x3, e3⟩ : ∃ x, x = zk k 3 old := ⟨_, rfl⟩
  obtain ⟨xh, eh⟩ : ∃ x, x = (if hndK k = true then 0 else hnd) := ⟨_, rfl⟩
  obtain ⟨xs, es⟩ : ∃ x, x = (if hndK k = true then false else set) := ⟨_, rfl⟩
  obtain ⟨xt, et⟩ : ∃ x, x = (if hndK k = true then 0 else rt) := ⟨_, rfl⟩
  obtain ⟨xi, ei⟩ : ∃ x, x = (if hndK k = true then 0 else ri) := ⟨_, rfl⟩
  obtain ⟨x9, e9⟩ : ∃ x, x = zk k 9 lo := ⟨_, rfl⟩
  obtain ⟨x10, e10⟩ : ∃ x, x = zk k 10 hi := ⟨_, rfl⟩
  rw [← e1, ← e2, ← e3, ← eh, ← es, ← et, ← ei, ← e9, ← e10] at hba HF
  have it : isI xt := by rw [et]; split; exact ⟨by omega, by omega⟩; exact ha
  have ii : isI xi := by rw [ei]; split; exact ⟨by omega, by omega⟩; exact hb
  have he := fun w => ref_eq0 xs xt xi it ii w
  have hr := fun w => ref_eq0 set rt ri ha hb w
  obtain ⟨V, hV⟩ : ∃ V, V = formB k key val old hnd set rt ri kp n kc lo hi := ⟨_, rfl⟩
  rw [← hV] at HF ⊢
  obtain ⟨w1, hw1⟩ : ∃ w1, w1 = W.alloc (.cells (opR k key val old hnd set rt ri (.slice kp n kc) lo hi) 28) := ⟨_, rfl⟩
  obtain ⟨P, hP⟩ : ∃ P, P = W.heap.size := ⟨_, rfl⟩
  have B1 : Below W.heap.size W w1 := by rw [hw1]; exact below_alloc _ _
  have X1 : w1.heap[P]? = some (.cells (opR k key val old hnd set rt ri (.slice kp n kc) lo hi) 28 (0, 0)) := by rw [hw1, hP]; exact heap_alloc_new _ _
  have HW1 := keepH hw1
  have HP := keepH hP
  have HB1 := keepH B1
  have HX1 := keepH X1
  have HBA := keepH hba
  have hk7 : (if kysK k = true then 0 else n) = 0 ↔ (k = 7 ∨ n = 0) := by
    unfold kysK
    by_cases h : k = 7
    · simp [h]
    · simp [h]
  have HK7 := keepH hk7
  clear e1 e2 e3 eh es et ei e9 e10 it ii ha hb h1 h2 h3 h4 h5 h6 hw1 hP B1 X1 hba hV hk7
  go_enter Tryz.func71, Tryz.ntmps71
  go_upto_region 1 with fail
  rw [← HW1.out, ← HP.out]
  have c0' : w1.cell? ⟨P, 0, none⟩ = _ := cell_of HX1.out 0
  have c1' : w1.cell? ⟨P, 1, none⟩ = _ := cell_of HX1.out 1
  have c2' : w1.cell? ⟨P, 2, none⟩ = _ := cell_of HX1.out 2
  have c3' : w1.cell? ⟨P, 3, none⟩ = _ := cell_of HX1.out 3
  have c4' : w1.cell? ⟨P, 4, none⟩ = _ := cell_of HX1.out 4
  have c5' : w1.cell? ⟨P, 5, none⟩ = _ := cell_of HX1.out 5
  have c6' : w1.cell? ⟨P, 6, none⟩ = _ := cell_of HX1.out 6
  have c7' : w1.cell? ⟨P, 7, none⟩ = _ := cell_of HX1.out 7
  have c8' : w1.cell? ⟨P, 8, none⟩ = _ := cell_of HX1.out 8
  have c9' : w1.cell? ⟨P, 9, none⟩ = _ := cell_of HX1.out 9
  have c10' : w1.cell? ⟨P, 10, none⟩ = _ := cell_of HX1.out 10
  go_wp2_with fail
  refine (HBA.out w1).mono ?_
  rintro e w2 ⟨rfl, B2⟩
  obtain ⟨w3, hw3⟩ : ∃ w3, w3 = w2.alloc (.cells (opR k x1 x2 x3 xh xs xt xi (.slice none 0 0) x9 x10) 28) := ⟨_, rfl⟩
  obtain ⟨Q, hQ⟩ : ∃ Q, Q = w2.heap.size := ⟨_, rfl⟩
  have B3 : Below w2.heap.size w2 w3 := by rw [hw3]; exact below_alloc _ _
  have X3 : w3.heap[Q]? = some (.cells (opR k x1 x2 x3 xh xs xt xi (.slice none 0 0) x9 x10) 28 (0, 0)) := by rw [hw3, hQ]; exact heap_alloc_new _ _
  have Y3 := heap_below (heap_below HX1.out B2) B3
  have HB3 := keepH (below_chain (below_chain HB1.out B2) B3)
  have HW3 := keepH hw3
  have HQ := keepH hQ
  have p0 : w3.cell? ⟨P, 0, none⟩ = _ := cell_of Y3 0
  have p4 : w3.cell? ⟨P, 4, none⟩ = _ := cell_of Y3 4
  have p5 : w3.cell? ⟨P, 5, none⟩ = _ := cell_of Y3 5
  have p6 : w3.cell? ⟨P, 6, none⟩ = _ := cell_of Y3 6
  have p7 : w3.cell? ⟨P, 7, none⟩ = _ := cell_of Y3 7
  have p8 : w3.cell? ⟨P, 8, none⟩ = _ := cell_of Y3 8
  have q1 : w3.cell? ⟨Q, 1, none⟩ = _ := cell_of X3 1
  have q2 : w3.cell? ⟨Q, 2, none⟩ = _ := cell_of X3 2
  have q3 : w3.cell? ⟨Q, 3, none⟩ = _ := cell_of X3 3
  have q4 : w3.cell? ⟨Q, 4, none⟩ = _ := cell_of X3 4
  have q5 : w3.cell? ⟨Q, 5, none⟩ = _ := cell_of X3 5
  have q6 : w3.cell? ⟨Q, 6, none⟩ = _ := cell_of X3 6
  have q7 : w3.cell? ⟨Q, 7, none⟩ = _ := cell_of X3 7
  have q9 : w3.cell? ⟨Q, 9, none⟩ = _ := cell_of X3 9
  have q10 : w3.cell? ⟨Q, 10, none⟩ = _ := cell_of X3 10
  clear c0' c1' c2' c3' c4' c5' c6' c7' c8' c9' c10' B2 B3 X3 Y3 hw3 hQ
  go_upto_region 2 with fail
  rw [← HW3.out, ← HQ.out]
  by_cases c1 : x1 = 0
  · have ux1 : ((x1 : Int) == 0) = true := by simp [c1]
    by_cases c2 : x2 = 0
    · have ux2 : ((x2 : Int) == 0) = true := by simp [c2]
      by_cases c3 : x3 = 0
      · have ux3 : ((x3 : Int) == 0) = true := by simp [c3]
        by_cases c4 : xh = 0
        · have uxh : ((xh : Int) == 0) = true := by simp [c4]
          by_cases c5 : xs = false ∧ xt = 0 ∧ xi = 0
          · have g5 : decide (xs = false ∧ xt = 0 ∧ xi = 0) = true := by simpa using c5
            simp only [g5] at he
            by_cases c6 : x9 = 0
            · have ux9 : ((x9 : Int) == 0) = true := by simp [c6]
              by_cases c7 : x10 = 0
              · have ux10 : ((x10 : Int) == 0) = true := by simp [c7]
                by_cases c8 : k = 7
                · have u8 : ((k : Int) == 7) = true := by simp [c8]
                  have HV : Hid (V = rhB hnd set rt ri) := keepH (by rw [HF.out]; unfold blB; rw [decide_eq_true (by exact ⟨⟨c1, c2, c3, c4, c6, c7⟩, c5, HK7.out.2 (.inl c8)⟩)]; simp)
                  clear c8 c1 c2 c3 c4 c6 c7
                  cases set with
                  | false =>
                    have HV2 : Hid (V = (decide (rt = 0) && decide (ri = 0))) := keepH (by rw [HV.out]; simp [rhB])
                    go_wp2_with fail
                    go_ret
                    exact ⟨by first | (simp [HV2.out]; done) | (rw [HV2.out]; rfl) | (rw [HV2.out]; simp; done) | (rw [HV2.out]; simp; omega), HB3.out⟩
                  | true =>
                    by_cases k1 : hnd = 0
                    · have v1 : ((hnd : Int) == 0) = true := by simp [k1]
                      by_cases k2 : 0 ≤ rt
                      · have HV2 : Hid (V = decide (0 ≤ ri)) := keepH (by rw [HV.out]; simp [rhB, k1, k2])
                        clear k1
                        go_wp2_with fail
                        go_ret
                        exact ⟨by first | (simp [HV2.out]; done) | (rw [HV2.out]; rfl) | (rw [HV2.out]; simp; done) | (rw [HV2.out]; simp; omega), HB3.out⟩
                      · have HV2 : Hid (V = false) := keepH (by rw [HV.out]; simp [rhB, k2])
                        clear k1
                        go_wp2_with fail
                        go_ret
                        exact ⟨by first | (simp [HV2.out]; done) | (rw [HV2.out]; rfl) | (rw [HV2.out]; simp; done) | (rw [HV2.out]; simp; omega), HB3.out⟩
                    · have v1 : ((hnd : Int) == 0) = false := by simp; omega
                      have HV2 : Hid (V = false) := keepH (by rw [HV.out]; simp [rhB, k1])
                      clear k1
                      go_wp2_with fail
                      go_ret
                      exact ⟨by first | (simp [HV2.out]; done) | (rw [HV2.out]; rfl) | (rw [HV2.out]; simp; done) | (rw [HV2.out]; simp; omega), HB3.out⟩
                · have u8 : ((k : Int) == 7) = false := by simp; omega
                  by_cases c9 : n = 0
                  · have u9 : ((n : Int) == 0) = true := by simp [c9]
                    have HV : Hid (V = rhB hnd set rt ri) := keepH (by rw [HF.out]; unfold blB; rw [decide_eq_true (by exact ⟨⟨c1, c2, c3, c4, c6, c7⟩, c5, HK7.out.2 (.inr c9)⟩)]; simp)
                    clear c9 c8 c1 c2 c3 c4 c6 c7
                    cases set with
                    | false =>
                      have HV2 : Hid (V = (decide (rt = 0) && decide (ri = 0))) := keepH (by rw [HV.out]; simp [rhB])
                      go_wp2_with fail
                      go_ret
                      exact ⟨by first | (simp [HV2.out]; done) | (rw [HV2.out]; rfl) | (rw [HV2.out]; simp; done) | (rw [HV2.out]; simp; omega), HB3.out⟩
                    | true =>
                      by_cases k1 : hnd = 0
                      · have v1 : ((hnd : Int) == 0) = true := by simp [k1]
                        by_cases k2 : 0 ≤ rt
                        · have HV2 : Hid (V = decide (0 ≤ ri)) := keepH (by rw [HV.out]; simp [rhB, k1, k2])
                          clear k1
                          go_wp2_with fail
                          go_ret
                          exact ⟨by first | (simp [HV2.out]; done) | (rw [HV2.out]; rfl) | (rw [HV2.out]; simp; done) | (rw [HV2.out]; simp; omega), HB3.out⟩
                        · have HV2 : Hid (V = false) := keepH (by rw [HV.out]; simp [rhB, k2])
                          clear k1
                          go_wp2_with fail
                          go_ret
                          exact ⟨by first | (simp [HV2.out]; done) | (rw [HV2.out]; rfl) | (rw [HV2.out]; simp; done) | (rw [HV2.out]; simp; omega), HB3.out⟩
                      · have v1 : ((hnd : Int) == 0) = false := by simp; omega
                        have HV2 : Hid (V = false) := keepH (by rw [HV.out]; simp [rhB, k1])
                        clear k1
                        go_wp2_with fail
                        go_ret
                        exact ⟨by first | (simp [HV2.out]; done) | (rw [HV2.out]; rfl) | (rw [HV2.out]; simp; done) | (rw [HV2.out]; simp; omega), HB3.out⟩
                  · have u9 : ((n : Int) == 0) = false := by simp; omega
                    have HV : Hid (V = false) := keepH (by rw [HF.out]; unfold blB; rw [decide_eq_false (by rintro ⟨_, _, h⟩; rcases HK7.out.1 h with h | h; exact c8 h; exact c9 h)]; simp)
                    clear c9 c8 c1 c2 c3 c4 c6 c7
                    cases set with
                    | false =>
                      go_wp2_with fail
                      go_ret
                      exact ⟨by first | rfl | simp [HV.out] | (rw [HV.out]; simp), HB3.out⟩
                    | true =>
                      go_wp2_with fail
                      go_ret
                      exact ⟨by first | rfl | simp [HV.out] | (rw [HV.out]; simp), HB3.out⟩
              · have tx10 : ¬ ((x10 : Int) = 0) := by omega
                have ux10 : ((x10 : Int) == 0) = false := by simpa using tx10
                have HV : Hid (V = false) := keepH (by rw [HF.out]; unfold blB; rw [decide_eq_false (by rintro ⟨⟨_, _, _, _, _, h⟩, _⟩; exact c7 h)]; simp)
                clear c1 c2 c3 c4 c5 c6 c7
                cases set with
                | false =>
                  go_wp2_with fail
                  go_ret
                  exact ⟨by first | rfl | simp [HV.out] | (rw [HV.out]; simp), HB3.out⟩
                | true =>
                  go_wp2_with fail
                  go_ret
                  exact ⟨by first | rfl | simp [HV.out] | (rw [HV.out]; simp), HB3.out⟩
            · have tx9 : ¬ ((x9 : Int) = 0) := by omega
              have ux9 : ((x9 : Int) == 0) = false := by simpa using tx9
              have HV : Hid (V = false) := keepH (by rw [HF.out]; unfold blB; rw [decide_eq_false (by rintro ⟨⟨_, _, _, _, h, _⟩, _⟩; exact c6 h)]; simp)
              clear c1 c2 c3 c4 c5 c6
              cases set with
              | false =>
                go_wp2_with fail
                go_ret
                exact ⟨by first | rfl | simp [HV.out] | (rw [HV.out]; simp), HB3.out⟩
              | true =>
                go_wp2_with fail
                go_ret
                exact ⟨by first | rfl | simp [HV.out] | (rw [HV.out]; simp), HB3.out⟩
          · have g5 : decide (xs = false ∧ xt = 0 ∧ xi = 0) = false := by simpa using c5
            simp only [g5] at he
            have HV : Hid (V = false) := keepH (by rw [HF.out]; unfold blB; rw [decide_eq_false (by rintro ⟨_, h, _⟩; exact c5 h)]; simp)
            clear c1 c2 c3 c4 c5
            cases set with
            | false =>
              go_wp2_with fail
              go_ret
              exact ⟨by first | rfl | simp [HV.out] | (rw [HV.out]; simp), HB3.out⟩
            | true =>
              go_wp2_with fail
              go_ret
              exact ⟨by first | rfl | simp [HV.out] | (rw [HV.out]; simp), HB3.out⟩
        · have txh : ¬ ((xh : Int) = 0) := by omega
          have uxh : ((xh : Int) == 0) = false := by simpa using txh
          have HV : Hid (V = false) := keepH (by rw [HF.out]; unfold blB; rw [decide_eq_false (by rintro ⟨⟨_, _, _, h, _⟩, _⟩; exact c4 h)]; simp)
          clear c1 c2 c3 c4
          cases set with
          | false =>
            go_wp2_with fail
            go_ret
            exact ⟨by first | rfl | simp [HV.out] | (rw [HV.out]; simp), HB3.out⟩
          | true =>
            go_wp2_with fail
            go_ret
            exact ⟨by first | rfl | simp [HV.out] | (rw [HV.out]; simp), HB3.out⟩
      · have tx3 : ¬ ((x3 : Int) = 0) := by omega
        have ux3 : ((x3 : Int) == 0) = false := by simpa using tx3
        have HV : Hid (V = false) := keepH (by rw [HF.out]; unfold blB; rw [decide_eq_false (by rintro ⟨⟨_, _, h, _⟩, _⟩; exact c3 h)]; simp)
        clear c1 c2 c3
        cases set with
        | false =>
          go_wp2_with fail
          go_ret
          exact ⟨by first | rfl | simp [HV.out] | (rw [HV.out]; simp), HB3.out⟩
        | true =>
          go_wp2_with fail
          go_ret
          exact ⟨by first | rfl | simp [HV.out] | (rw [HV.out]; simp), HB3.out⟩
    · have tx2 : ¬ ((x2 : Int) = 0) := by omega
      have ux2 : ((x2 : Int) == 0) = false := by simpa using tx2
      have HV : Hid (V = false) := keepH (by rw [HF.out]; unfold blB; rw [decide_eq_false (by rintro ⟨⟨_, h, _⟩, _⟩; exact c2 h)]; simp)
      clear c1 c2
      cases set with
      | false =>
        go_wp2_with fail
        go_ret
        exact ⟨by first | rfl | simp [HV.out] | (rw [HV.out]; simp), HB3.out⟩
      | true =>
        go_wp2_with fail
        go_ret
        exact ⟨by first | rfl | simp [HV.out] | (rw [HV.out]; simp), HB3.out⟩
  · have tx1 : ¬ ((x1 : Int) = 0) := by omega
    have ux1 : ((x1 : Int) == 0) = false := by simpa using tx1
    have HV : Hid (V = false) := keepH (by rw [HF.out]; unfold blB; rw [decide_eq_false (by rintro ⟨⟨h, _⟩, _⟩; exact c1 h)]; simp)
    clear c1
    cases set with
    | false =>
      go_wp2_with fail
      go_ret
      exact ⟨by first | rfl | simp [HV.out] | (rw [HV.out]; simp), HB3.out⟩
    | true =>
      go_wp2_with fail
      go_ret
      exact ⟨by first | rfl | simp [HV.out] | (rw [HV.out]; simp), HB3.out⟩
end Go.Proofs.YtmmaniolaljjlaaGreatDoor
/- What is wrong with an operation: the document says the same. (mkScw.py) -/
namespace Go.Proofs.YtmmaniolaljjlaaGreatDoor
open Go.RowKit Go.Shelf
set_option linter.unusedVariables false

set_option maxRecDepth 100000 in
theorem dNum_any (u : Nat) (h : isU u) (w : World) (T : Tb w) :
    Calls Tryz.prog 30 #[.int .u64 (u : Int)] w fun e w' => e = .returned (.string (mkS (Lib.decDigits u))) ∧ Below w.heap.size w w' := by
  have hf := fmtU u h w T.tab
  obtain ⟨s, hs⟩ : ∃ s, s = mkS (Lib.decDigits u) := ⟨_, rfl⟩
  go_enter Tryz.func30, Tryz.ntmps30
  go_wp2_with fail
  refine hf.mono ?_
  rintro e w1 ⟨rfl, hb⟩
  go_wp2
  go_ret
  exact ⟨rfl, hb⟩
theorem opW_empty (k : Nat) : (mkS (opW k)).toList.isEmpty = !hasK k := by
  rw [mkS_toList]
  by_cases h : 1 ≤ k ∧ k ≤ 10
  · have hk : hasK k = true := by unfold hasK; simpa using h
    rw [hk]
    have : k = 1 ∨ k = 2 ∨ k = 3 ∨ k = 4 ∨ k = 5 ∨ k = 6 ∨ k = 7 ∨ k = 8 ∨ k = 9 ∨ k = 10 := by omega
    rcases this with rfl | rfl | rfl | rfl | rfl | rfl | rfl | rfl | rfl | rfl <;> rfl
  · have hk : hasK k = false := by unfold hasK; simpa using h
    have e : opW k = [] := by
      rcases Nat.lt_or_ge k 1 with h0 | h0
      · obtain rfl : k = 0 := by omega
        rfl
      · unfold opW
        rw [List.getD, List.getElem?_eq_none (by show 11 ≤ k; omega)]
        rfl
    rw [hk, e]
    rfl
theorem fault_form (k key val old hnd : Nat) (set : Bool) (rt ri : Int) (kp : Option Addr) (n kc lo hi : Nat) : faultN k key val old hnd set rt ri kp n kc lo hi = (if hasK k = false then 160 else if k = 7 ∧ 1024 < n then 6 else if formB k key val old hnd set rt ri kp n kc lo hi = true then 0 else 52) := by
  unfold faultN formB
  by_cases a : hasK k = false
  · rw [if_pos a, if_pos a]
  rw [if_neg a, if_neg a]
  by_cases b : k = 7 ∧ 1024 < n
  · rw [if_pos b, if_pos b]
  rw [if_neg b, if_neg b]
  cases hh : hndK k with
  | true =>
    cases hr : rhB hnd set rt ri with
    | true => simp
    | false => simp
  | false =>
    rw [if_neg (by simp)]
    by_cases hb : blB (zk k 1 key) (zk k 2 val) (zk k 3 old) hnd (zk k 9 lo) (zk k 10 hi) set rt ri (if kysK k = true then 0 else n) = true
    · have hq := hb
      unfold blB at hq
      simp only [decide_eq_true_eq] at hq
      obtain ⟨_, ⟨q1, q2, q3⟩, _⟩ := hq
      have : rhB hnd set rt ri = true := by unfold rhB; rw [q1, q2, q3]; simp
      simp [hb, this]
    · simp at hb
      simp [hb]
set_option maxRecDepth 100000 in
set_option maxHeartbeats 4000000 in
theorem dOp_any (k key val old hnd : Nat) (set : Bool) (rt ri : Int) (kp : Option Addr) (n kc lo hi : Nat) (hk : k < 256) (h1 : isU key) (h2 : isU val) (h3 : isU old) (h4 : isU hnd) (h5 : isU lo) (h6 : isU hi) (ha : isI rt) (hb : isI ri) (W : World) :
    Calls Tryz.prog 26 #[.agg (opR k key val old hnd set rt ri (.slice kp n kc) lo hi)] W fun e W' => e = .returned (.int .i64 (faultN k key val old hnd set rt ri kp n kc lo hi : Int)) ∧ Below W.heap.size W W' := by
  have HFO := keepH (fun w => form_any k key val old hnd set rt ri kp n kc lo hi hk h1 h2 h3 h4 h5 h6 ha hb w)
  have HWO := keepH (fun w => dWord_any k hk w)
  have HFF := keepH (fault_form k key val old hnd set rt ri kp n kc lo hi)
  have he := opW_empty k
  obtain ⟨s, hs⟩ : ∃ s, s = mkS (opW k) := ⟨_, rfl⟩
  rw [← hs] at HWO he
  obtain ⟨w1, hw1⟩ : ∃ w1, w1 = W.alloc (.cells (opR k key val old hnd set rt ri (.slice kp n kc) lo hi) 28) := ⟨_, rfl⟩
  obtain ⟨P, hP⟩ : ∃ P, P = W.heap.size := ⟨_, rfl⟩
  have B1 : Below W.heap.size W w1 := by rw [hw1]; exact below_alloc _ _
  have X1 : w1.heap[P]? = some (.cells (opR k key val old hnd set rt ri (.slice kp n kc) lo hi) 28 (0, 0)) := by rw [hw1, hP]; exact heap_alloc_new _ _
  have HW1 := keepH hw1
  have HP := keepH hP
  have HB1 := keepH B1
  have HX1 := keepH X1
  obtain ⟨E, hE⟩ : ∃ E, E = faultN k key val old hnd set rt ri kp n kc lo hi := ⟨_, rfl⟩
  rw [← hE] at HFF ⊢
  obtain ⟨V, hV⟩ : ∃ V, V = formB k key val old hnd set rt ri kp n kc lo hi := ⟨_, rfl⟩
  rw [← hV] at HFF HFO
  obtain ⟨hd, hhd⟩ : ∃ d, d = hasK k := ⟨_, rfl⟩
  rw [← hhd] at HFF he
  clear hs hw1 hP B1 X1 hE hV hhd h1 h2 h3 h4 h5 h6 ha hb hk
  have c0 : w1.cell? ⟨P, 0, none⟩ = _ := cell_of HX1.out 0
  go_enter Tryz.func26, Tryz.ntmps26
  go_upto_region 1 with fail
  rw [← HW1.out, ← HP.out]
  go_wp2_with fail
  refine (HWO.out w1).mono ?_
  rintro e w2 ⟨rfl, B2⟩
  have HX2 := keepH (heap_below HX1.out B2)
  have HB2 := keepH (below_chain HB1.out B2)
  clear B2 c0
  cases hd with
  | false =>
    have he2 : s.toList.isEmpty = true := by simpa using he
    have HEE : Hid (E = 160) := keepH (by rw [HFF.out]; simp)
    clear he
    go_wp2_with fail
    go_ret
    exact ⟨by rw [HEE.out]; rfl, HB2.out⟩
  | true =>
    have he2 : s.toList.isEmpty = false := by simpa using he
    clear he
    have c0 : w2.cell? ⟨P, 0, none⟩ = _ := cell_of HX2.out 0
    have c1 : w2.cell? ⟨P, 1, none⟩ = _ := cell_of HX2.out 1
    have c2 : w2.cell? ⟨P, 2, none⟩ = _ := cell_of HX2.out 2
    have c3 : w2.cell? ⟨P, 3, none⟩ = _ := cell_of HX2.out 3
    have c4 : w2.cell? ⟨P, 4, none⟩ = _ := cell_of HX2.out 4
    have c5 : w2.cell? ⟨P, 5, none⟩ = _ := cell_of HX2.out 5
    have c6 : w2.cell? ⟨P, 6, none⟩ = _ := cell_of HX2.out 6
    have c7 : w2.cell? ⟨P, 7, none⟩ = _ := cell_of HX2.out 7
    have c8 : w2.cell? ⟨P, 8, none⟩ = _ := cell_of HX2.out 8
    have c9 : w2.cell? ⟨P, 9, none⟩ = _ := cell_of HX2.out 9
    have c10 : w2.cell? ⟨P, 10, none⟩ = _ := cell_of HX2.out 10
    by_cases h7 : k = 7
    · have u7 : ((k : Int) == 7) = true := by simp [h7]
      by_cases hl : 1024 < n
      · have tl : (n : Int) > 1024 := by omega
        have HEE : Hid (E = 6) := keepH (by rw [HFF.out, if_neg (by simp), if_pos ⟨h7, hl⟩])
        clear h7
        go_wp2_with fail
        go_ret
        exact ⟨by rw [HEE.out]; rfl, HB2.out⟩
      · have tl : ¬ ((n : Int) > 1024) := by omega
        have HEE : Hid (E = if V = true then 0 else 52) := keepH (by rw [HFF.out, if_neg (by simp), if_neg (fun h => hl h.2)])
        clear h7
        go_wp2_with fail
        refine (HFO.out w2).mono ?_
        rintro e w3 ⟨rfl, B3⟩
        have HB3 := keepH (below_chain HB2.out B3)
        clear B3 c0 c1 c2 c3 c4 c5 c6 c7 c8 c9 c10
        cases V with
        | true =>
          go_wp2_with fail
          go_ret
          exact ⟨by rw [HEE.out]; rfl, HB3.out⟩
        | false =>
          go_wp2_with fail
          go_ret
          exact ⟨by rw [HEE.out]; rfl, HB3.out⟩
    · have u7 : ((k : Int) == 7) = false := by simp; omega
      have HEE : Hid (E = if V = true then 0 else 52) := keepH (by rw [HFF.out, if_neg (by simp), if_neg (fun h => h7 h.1)])
      clear h7
      go_wp2_with fail
      refine (HFO.out w2).mono ?_
      rintro e w3 ⟨rfl, B3⟩
      have HB3 := keepH (below_chain HB2.out B3)
      clear B3 c0 c1 c2 c3 c4 c5 c6 c7 c8 c9 c10
      cases V with
      | true =>
        go_wp2_with fail
        go_ret
        exact ⟨by rw [HEE.out]; rfl, HB3.out⟩
      | false =>
        go_wp2_with fail
        go_ret
        exact ⟨by rw [HEE.out]; rfl, HB3.out⟩
end Go.Proofs.YtmmaniolaljjlaaGreatDoor
/- Is anything of a script too long, has it an operation with this error? By the document. (mkSec.py) -/
namespace Go.Proofs.YtmmaniolaljjlaaGreatDoor
open Go.RowKit Go.Shelf
set_option linter.unusedVariables false

set_option maxRecDepth 100000 in
set_option maxHeartbeats 4000000 in
theorem dLong_any (ce sl : Int) (stp : Nat) (mu : Int) (tp : Option Addr) (tc : Nat) (pp : Option Addr) (pc : Nat) (ts : List (List Opx)) (ps : List Int) (hS : SOk ts ps) (W : World) (hT : TRd W tp ts) :
    Calls Tryz.prog 50 #[.agg (scR ce sl stp mu (.slice tp ts.length tc) (.slice pp ps.length pc))] W fun e W' => e = .returned (.bool (decide (longT ts ps ∨ anyO tooO ts))) ∧ Below W.heap.size W W' := by
  obtain ⟨L, hL⟩ : ∃ L, L = decide (longT ts ps ∨ anyO tooO ts) := ⟨_, rfl⟩
  rw [← hL]
  have HLG := keepH hL
  obtain ⟨n, hn⟩ : ∃ n, n = ts.length := ⟨_, rfl⟩
  obtain ⟨m, hm⟩ : ∃ m, m = ps.length := ⟨_, rfl⟩
  have hn1 := hS.tl
  have hm1 := hS.pl
  rw [← hn] at hn1 ⊢
  rw [← hm] at hm1 ⊢
  obtain ⟨w1, hw1⟩ : ∃ w1, w1 = W.alloc (.cells (scR ce sl stp mu (.slice tp n tc) (.slice pp m pc)) 46) := ⟨_, rfl⟩
  obtain ⟨P, hP⟩ : ∃ P, P = W.heap.size := ⟨_, rfl⟩
  have B1 : Below W.heap.size W w1 := by rw [hw1]; exact below_alloc _ _
  have X1 : w1.heap[P]? = some (.cells (scR ce sl stp mu (.slice tp n tc) (.slice pp m pc)) 46 (0, 0)) := by rw [hw1, hP]; exact heap_alloc_new _ _
  have p4 : w1.cell? ⟨P, 4, none⟩ = _ := cell_of X1 4
  have p5 : w1.cell? ⟨P, 5, none⟩ = _ := cell_of X1 5
  have HP4 : Hid (∀ w, Below w1.heap.size w1 w → w.cell? ⟨P, 4, none⟩ = some (.slice tp n tc)) := keepH (fun w hb => cell_below p4 hb)
  have HN := keepH hn
  have HM := keepH hm
  have HW1 := keepH hw1
  have HP := keepH hP
  have HB1 := keepH B1
  have HT := keepH (hT.on B1)
  have HS := keepH hS
  clear hn hm hw1 hP B1 X1 hT hS hL
  go_enter Tryz.func50, Tryz.ntmps50
  go_upto_region 1 with fail
  rw [← HW1.out, ← HP.out]
  by_cases h6 : 64 < n
  · have q6 : (n : Int) > 64 := by omega
    have HE : Hid (L = true) := keepH (by rw [HLG.out]; exact decide_eq_true (.inl (.inr (.inl (by rw [← HN.out]; exact h6)))))
    clear h6
    go_wp2_with fail
    go_ret
    exact ⟨by rw [HE.out]; rfl, HB1.out⟩
  have q6 : ¬ (n : Int) > 64 := by omega
  by_cases h7 : 1048576 < m
  · have q7 : (m : Int) > 1048576 := by omega
    have HE : Hid (L = true) := keepH (by rw [HLG.out]; exact decide_eq_true (.inl (.inr (.inr (by rw [← HM.out]; exact h7)))))
    clear h6 h7
    go_wp2_with fail
    go_ret
    exact ⟨by rw [HE.out]; rfl, HB1.out⟩
  have q7 : ¬ (m : Int) > 1048576 := by omega
  have H67 : Hid (¬ 64 < n ∧ ¬ 1048576 < m) := keepH ⟨h6, h7⟩
  clear h6 h7
  go_wp2_with fail
  go_loopw [3, 4, 5] (fun s3 s4 s5 wr => ∃ i : Nat, i ≤ n ∧ s3 = .int .i64 (i : Int) ∧ Hid (Below w1.heap.size w1 wr) ∧ Hid (noT tooO ts i ∧ ∀ l ∈ ts.take i, l.length ≤ 4096)) (fun s3 _ _ _ => n - (intOf s3).toNat)
  case atStart => exact ⟨0, by omega, rfl, keepH (Below.refl _ _), keepH ⟨noT.zero _ _, fun l hl => by simp at hl⟩⟩
  case round =>
    clear p4 p5
    obtain ⟨i, hi, rfl, HBW, HA⟩ := hrel
    have p4 := HP4.out wr HBW.out
    by_cases hlt : i < n
    · have q1 : (i : Int) < (n : Int) := by omega
      have q0 : (0 : Int) ≤ (i : Int) := by omega
      obtain ⟨l, hl⟩ : ∃ l, ts[i]? = some l := ⟨ts[i]'(by have := HN.out; omega), List.getElem?_eq_getElem _⟩
      obtain ⟨bk, off, lp, lc, rfl, hbk, hO, c0⟩ := (HT.out.on HBW.out).get i l hl
      obtain ⟨k, hk⟩ : ∃ k, k = l.length := ⟨_, rfl⟩
      have hk1 := HS.out.ll l (List.mem_of_getElem? hl)
      rw [← hk] at c0 hk1
      have HX := keepH hl
      have HK := keepH hk
      have HO := keepH hO
      clear hl hk hbk hO
      obtain ⟨wo, hwo⟩ : ∃ wo, wo = wr := ⟨_, rfl⟩
      subst hwo
      have HC0 : Hid (∀ w, Below wo.heap.size wo w → w.cell? ⟨bk, off + i, none⟩ = some (.slice lp k lc)) := keepH (fun w hb => cell_below c0 hb)
      by_cases h4 : 4096 < k
      · have q4 : (k : Int) > 4096 := by omega
        have HE : Hid (L = true) := keepH (by rw [HLG.out]; exact decide_eq_true (.inl (.inl ⟨l, List.mem_of_getElem? HX.out, by have := HK.out; omega⟩)))
        have HB4 := keepH (below_chain HB1.out HBW.out)
        clear h4
        go_wp2_with fail
        go_ret
        exact ⟨by rw [HE.out]; rfl, HB4.out⟩
      have q4 : ¬ (k : Int) > 4096 := by omega
      have HN4 : Hid (∀ l ∈ ts.take (i + 1), l.length ≤ 4096) := keepH (fun x hx => by
        rw [List.take_add_one, HX.out] at hx
        rcases List.mem_append.1 hx with hx | hx
        · exact HA.out.2 x hx
        · simp at hx; subst hx; have := HK.out; omega)
      clear h4
      go_wp2_with fail
      go_loopw [4, 5] (fun s4 s5 wr => ∃ j : Nat, j ≤ k ∧ s4 = .int .i64 (j : Int) ∧ Hid (Below wo.heap.size wo wr) ∧ Hid (noL tooO l j)) (fun s4 _ _ => k - (intOf s4).toNat)
      case atStart => exact ⟨0, by omega, rfl, keepH (Below.refl _ _), keepH (noL.zero _ _)⟩
      case round =>
        clear p4 c0
        obtain ⟨j, hj, rfl, HBX, HAL⟩ := hrel
        have p4 := HP4.out wr (below_chain HBW.out HBX.out)
        have c0 := HC0.out wr HBX.out
        by_cases hlj : j < k
        · have r1 : (j : Int) < (k : Int) := by omega
          have r0 : (0 : Int) ≤ (j : Int) := by omega
          obtain ⟨o, ho⟩ : ∃ o, l[j]? = some o := ⟨l[j]'(by have := HK.out; omega), List.getElem?_eq_getElem _⟩
          obtain ⟨bk2, off2, kp, kc, rfl, hbk2, hKR, a0, a1, a2, a3, a4, a5, a6, a7, a8, a9, a10⟩ := (HO.out.on HBX.out).get j o ho
          have HY := keepH ho
          have hoo := (HS.out.ok l (List.mem_of_getElem? HX.out) o (List.mem_of_getElem? ho)).1
          obtain ⟨ok, key, val, old, hnd, set, rt, ri, keys, lo, hi2⟩ := o
          simp only at a0 a1 a2 a3 a4 a5 a6 a7 a8 a9 a10
          obtain ⟨nk, hnk⟩ : ∃ nk, nk = keys.length := ⟨_, rfl⟩
          rw [← hnk] at a8
          obtain ⟨w3, hw3⟩ : ∃ w3, w3 = wr.alloc (.cells (opR ok key val old hnd set rt ri (.slice kp nk kc) lo hi2) 28) := ⟨_, rfl⟩
          obtain ⟨D, hD⟩ : ∃ D, D = wr.heap.size := ⟨_, rfl⟩
          have C3 : Below wr.heap.size wr w3 := by rw [hw3]; exact below_alloc _ _
          have X3 : w3.heap[D]? = some (.cells (opR ok key val old hnd set rt ri (.slice kp nk kc) lo hi2) 28 (0, 0)) := by rw [hw3, hD]; exact heap_alloc_new _ _
          have HB3 := keepH (below_chain HBX.out C3)
          have HBB : Hid (tooO ⟨ok, key, val, old, hnd, set, rt, ri, keys, lo, hi2⟩ ↔ ok = 7 ∧ 1024 < nk) := keepH (by rw [hnk]; exact Iff.rfl)
          have d0 : w3.cell? ⟨D, 0, none⟩ = _ := cell_of X3 0
          have d8 : w3.cell? ⟨D, 8, none⟩ = _ := cell_of X3 8
          have HW3 := keepH hw3
          have HD := keepH hD
          clear ho hKR hbk2 hnk hw3 hD C3 X3 hoo
          go_upto_region 12 with fail
          rw [← HW3.out, ← HD.out]
          clear HW3 HD a0 a1 a2 a3 a4 a5 a6 a7 a8 a9 a10 p4 c0
          by_cases h7 : ok = 7
          · subst h7
            by_cases hk9 : 1024 < nk
            · have q9 : (nk : Int) > 1024 := by omega
              have HE : Hid (L = true) := keepH (by rw [HLG.out]; exact decide_eq_true (.inr (anyO_at HX.out HY.out (HBB.out.2 ⟨rfl, hk9⟩))))
              have HB4 := keepH (below_chain (below_chain HB1.out HBW.out) HB3.out)
              clear hk9
              go_wp2_with fail
              go_ret
              exact ⟨by rw [HE.out]; rfl, HB4.out⟩
            · have q9 : ¬ (nk : Int) > 1024 := by omega
              have HNX : Hid (noL tooO l (j + 1)) := keepH (HAL.out.next HY.out (fun h => hk9 (HBB.out.1 h).2))
              clear hk9
              go_wp2_with fail
              go_roundw
              case rel => exact ⟨j + 1, by omega, by first | rfl | go_num, HB3, HNX⟩
              case measure => simp [intOf]; omega
          · have q8 : ¬ (ok : Int) = 7 := by omega
            have b8 : ((ok : Int) == 7) = false := by simp; omega
            have HNX : Hid (noL tooO l (j + 1)) := keepH (HAL.out.next HY.out (fun h => h7 (HBB.out.1 h).1))
            clear h7
            go_wp2_with fail
            go_roundw
            case rel => exact ⟨j + 1, by omega, by first | rfl | go_num, HB3, HNX⟩
            case measure => simp [intOf]; omega
        · obtain rfl : j = k := by omega
          have r1 : ¬ (j : Int) < (j : Int) := by omega
          have HNX : Hid (noT tooO ts (i + 1)) := keepH (HA.out.1.next HX.out (by rw [← HK.out]; exact HAL.out))
          have HB4 := keepH (below_chain HBW.out HBX.out)
          go_wp2_with fail
          go_roundw
          case rel => exact ⟨i + 1, by omega, by first | rfl | go_num, HB4, keepH ⟨HNX.out, HN4.out⟩⟩
          case measure => simp [intOf]; omega
    · obtain rfl : i = n := by omega
      have q1 : ¬ (i : Int) < (i : Int) := by omega
      have HE : Hid (L = false) := keepH (by
        rw [HLG.out]
        refine decide_eq_false ?_
        rintro ((⟨l, hl, h4⟩ | h | h) | h)
        · have := HA.out.2 l (by rw [HN.out, List.take_length]; exact hl)
          omega
        · exact H67.out.1 (by rw [HN.out]; exact h)
        · exact H67.out.2 (by rw [HM.out]; exact h)
        · exact noT.all (by rw [← HN.out]; exact HA.out.1) h)
      have HB4 := keepH (below_chain HB1.out HBW.out)
      go_wp2_with fail
      go_ret
      exact ⟨by rw [HE.out]; rfl, HB4.out⟩
set_option maxRecDepth 100000 in
set_option maxHeartbeats 4000000 in
theorem dSome_any (E : Nat) (ce sl : Int) (stp : Nat) (mu : Int) (tp : Option Addr) (tc : Nat) (pp : Option Addr) (pc : Nat) (ts : List (List Opx)) (ps : List Int) (hS : SOk ts ps) (W : World) (hT : TRd W tp ts) :
    Calls Tryz.prog 51 #[.agg (scR ce sl stp mu (.slice tp ts.length tc) (.slice pp ps.length pc)), .int .i64 (E : Int)] W fun e W' => e = .returned (.bool (decide (anyO (fun o => faultO o = E) ts))) ∧ Below W.heap.size W W' := by
  obtain ⟨L, hL⟩ : ∃ L, L = decide (anyO (fun o => faultO o = E) ts) := ⟨_, rfl⟩
  rw [← hL]
  have HLG := keepH hL
  obtain ⟨n, hn⟩ : ∃ n, n = ts.length := ⟨_, rfl⟩
  obtain ⟨m, hm⟩ : ∃ m, m = ps.length := ⟨_, rfl⟩
  have hn1 := hS.tl
  have hm1 := hS.pl
  rw [← hn] at hn1 ⊢
  rw [← hm] at hm1 ⊢
  obtain ⟨w1, hw1⟩ : ∃ w1, w1 = W.alloc (.cells (scR ce sl stp mu (.slice tp n tc) (.slice pp m pc)) 46) := ⟨_, rfl⟩
  obtain ⟨P, hP⟩ : ∃ P, P = W.heap.size := ⟨_, rfl⟩
  have B1 : Below W.heap.size W w1 := by rw [hw1]; exact below_alloc _ _
  have X1 : w1.heap[P]? = some (.cells (scR ce sl stp mu (.slice tp n tc) (.slice pp m pc)) 46 (0, 0)) := by rw [hw1, hP]; exact heap_alloc_new _ _
  have p4 : w1.cell? ⟨P, 4, none⟩ = _ := cell_of X1 4
  have p5 : w1.cell? ⟨P, 5, none⟩ = _ := cell_of X1 5
  have HP4 : Hid (∀ w, Below w1.heap.size w1 w → w.cell? ⟨P, 4, none⟩ = some (.slice tp n tc)) := keepH (fun w hb => cell_below p4 hb)
  have HN := keepH hn
  have HM := keepH hm
  have HW1 := keepH hw1
  have HP := keepH hP
  have HB1 := keepH B1
  have HT := keepH (hT.on B1)
  have HS := keepH hS
  clear hn hm hw1 hP B1 X1 hT hS hL
  go_enter Tryz.func51, Tryz.ntmps51
  go_upto_region 1 with fail
  rw [← HW1.out, ← HP.out]
  go_wp2_with fail
  go_loopw [5, 6] (fun s5 s6 wr => ∃ i : Nat, i ≤ n ∧ s5 = .int .i64 (i : Int) ∧ Hid (Below w1.heap.size w1 wr) ∧ Hid (noT (fun o => faultO o = E) ts i)) (fun s5 _ _ => n - (intOf s5).toNat)
  case atStart => exact ⟨0, by omega, rfl, keepH (Below.refl _ _), keepH (noT.zero _ _)⟩
  case round =>
    clear p4 p5
    obtain ⟨i, hi, rfl, HBW, HA⟩ := hrel
    have p4 := HP4.out wr HBW.out
    by_cases hlt : i < n
    · have q1 : (i : Int) < (n : Int) := by omega
      have q0 : (0 : Int) ≤ (i : Int) := by omega
      obtain ⟨l, hl⟩ : ∃ l, ts[i]? = some l := ⟨ts[i]'(by have := HN.out; omega), List.getElem?_eq_getElem _⟩
      obtain ⟨bk, off, lp, lc, rfl, hbk, hO, c0⟩ := (HT.out.on HBW.out).get i l hl
      obtain ⟨k, hk⟩ : ∃ k, k = l.length := ⟨_, rfl⟩
      have hk1 := HS.out.ll l (List.mem_of_getElem? hl)
      rw [← hk] at c0 hk1
      have HX := keepH hl
      have HK := keepH hk
      have HO := keepH hO
      clear hl hk hbk hO
      obtain ⟨wo, hwo⟩ : ∃ wo, wo = wr := ⟨_, rfl⟩
      subst hwo
      have HC0 : Hid (∀ w, Below wo.heap.size wo w → w.cell? ⟨bk, off + i, none⟩ = some (.slice lp k lc)) := keepH (fun w hb => cell_below c0 hb)
      go_wp2_with fail
      go_loopw [6] (fun s6 wr => ∃ j : Nat, j ≤ k ∧ s6 = .int .i64 (j : Int) ∧ Hid (Below wo.heap.size wo wr) ∧ Hid (noL (fun o => faultO o = E) l j)) (fun s6 _ => k - (intOf s6).toNat)
      case atStart => exact ⟨0, by omega, rfl, keepH (Below.refl _ _), keepH (noL.zero _ _)⟩
      case round =>
        clear p4 c0
        obtain ⟨j, hj, rfl, HBX, HAL⟩ := hrel
        have p4 := HP4.out wr (below_chain HBW.out HBX.out)
        have c0 := HC0.out wr HBX.out
        by_cases hlj : j < k
        · have r1 : (j : Int) < (k : Int) := by omega
          have r0 : (0 : Int) ≤ (j : Int) := by omega
          obtain ⟨o, ho⟩ : ∃ o, l[j]? = some o := ⟨l[j]'(by have := HK.out; omega), List.getElem?_eq_getElem _⟩
          obtain ⟨bk2, off2, kp, kc, rfl, hbk2, hKR, a0, a1, a2, a3, a4, a5, a6, a7, a8, a9, a10⟩ := (HO.out.on HBX.out).get j o ho
          have HY := keepH ho
          have hoo := (HS.out.ok l (List.mem_of_getElem? HX.out) o (List.mem_of_getElem? ho)).1
          obtain ⟨ok, key, val, old, hnd, set, rt, ri, keys, lo, hi2⟩ := o
          simp only at a0 a1 a2 a3 a4 a5 a6 a7 a8 a9 a10
          obtain ⟨nk, hnk⟩ : ∃ nk, nk = keys.length := ⟨_, rfl⟩
          rw [← hnk] at a8
          have HOP := keepH (dOp_any ok key val old hnd set rt ri kp nk kc lo hi2 hoo.k hoo.key hoo.val hoo.old hoo.hnd hoo.lo hoo.hi hoo.rt hoo.ri wr)
          obtain ⟨fa, hfa⟩ : ∃ fa, fa = faultN ok key val old hnd set rt ri kp nk kc lo hi2 := ⟨_, rfl⟩
          rw [← hfa] at HOP
          have HFA : Hid (faultO ⟨ok, key, val, old, hnd, set, rt, ri, keys, lo, hi2⟩ = fa) := keepH (by rw [hfa, hnk]; rfl)
          clear ho hKR hbk2 hnk hoo hfa
          by_cases hf : fa = E
          · subst hf
            have HE : Hid (L = true) := keepH (by rw [HLG.out]; exact decide_eq_true (anyO_at HX.out HY.out HFA.out))
            go_wp2_with fail
            refine HOP.out.mono ?_
            rintro e w4 ⟨rfl, C4⟩
            have HB4 := keepH (below_chain (below_chain (below_chain HB1.out HBW.out) HBX.out) C4)
            clear C4
            go_wp2_with fail
            go_ret
            exact ⟨by rw [HE.out]; rfl, HB4.out⟩
          · have q8 : ¬ (fa : Int) = (E : Int) := by omega
            have b8 : ((fa : Int) == (E : Int)) = false := by simp; omega
            have HNX : Hid (noL (fun o => faultO o = E) l (j + 1)) := keepH (HAL.out.next HY.out (fun h => hf (HFA.out.symm.trans h)))
            clear hf
            go_wp2_with fail
            refine HOP.out.mono ?_
            rintro e w4 ⟨rfl, C4⟩
            have HB4 := keepH (below_chain HBX.out C4)
            clear C4
            go_wp2_with fail
            go_roundw
            case rel => exact ⟨j + 1, by omega, by first | rfl | go_num, HB4, HNX⟩
            case measure => simp [intOf]; omega
        · obtain rfl : j = k := by omega
          have r1 : ¬ (j : Int) < (j : Int) := by omega
          have HNX : Hid (noT (fun o => faultO o = E) ts (i + 1)) := keepH (HA.out.next HX.out (by rw [← HK.out]; exact HAL.out))
          have HB4 := keepH (below_chain HBW.out HBX.out)
          go_wp2_with fail
          go_roundw
          case rel => exact ⟨i + 1, by omega, by first | rfl | go_num, HB4, HNX⟩
          case measure => simp [intOf]; omega
    · obtain rfl : i = n := by omega
      have q1 : ¬ (i : Int) < (i : Int) := by omega
      have HE : Hid (L = false) := keepH (by rw [HLG.out]; exact decide_eq_false (noT.all (by rw [← HN.out]; exact HA.out)))
      have HB4 := keepH (below_chain HB1.out HBW.out)
      go_wp2_with fail
      go_ret
      exact ⟨by rw [HE.out]; rfl, HB4.out⟩
end Go.Proofs.YtmmaniolaljjlaaGreatDoor
