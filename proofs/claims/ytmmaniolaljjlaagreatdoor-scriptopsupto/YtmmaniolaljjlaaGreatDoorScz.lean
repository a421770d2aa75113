/- PrintOp, by the document. (mkScz.py) -/
import Derived.Test.YtmmaniolaljjlaaGreatDoorScy
namespace Go.Proofs.YtmmaniolaljjlaaGreatDoor
open Go.RowKit Go.Shelf
set_option linter.unusedVariables false

set_option maxRecDepth 100000 in
set_option maxHeartbeats 4000000 in
theorem dPrint_err (k key val old hnd : Nat) (set : Bool) (rt ri : Int) (kp : Option Addr) (n kc lo hi : Nat) (hk : k < 256) (h1 : isU key) (h2 : isU val) (h3 : isU old) (h4 : isU hnd) (h5 : isU lo) (h6 : isU hi) (ha : isI rt) (hb : isI ri) (hf : faultN k key val old hnd set rt ri kp n kc lo hi ≠ 0) (W : World) :
    Calls Tryz.prog 8 #[.agg (opR k key val old hnd set rt ri (.slice kp n kc) lo hi)] W fun e W' => e = .returned (.tuple #[.string (mkS []), .int .i64 (faultN k key val old hnd set rt ri kp n kc lo hi : Int)]) ∧ Below W.heap.size W W' := by
  have HOP := keepH (fun w => dOp_any k key val old hnd set rt ri kp n kc lo hi hk h1 h2 h3 h4 h5 h6 ha hb w)
  obtain ⟨E, hE⟩ : ∃ E, E = faultN k key val old hnd set rt ri kp n kc lo hi := ⟨_, rfl⟩
  rw [← hE] at HOP hf ⊢
  obtain ⟨w1, hw1⟩ : ∃ w1, w1 = W.alloc (.cells (opR k key val old hnd set rt ri (.slice kp n kc) lo hi) 28) := ⟨_, rfl⟩
  obtain ⟨P, hP⟩ : ∃ P, P = W.heap.size := ⟨_, rfl⟩
  have B1 : Below W.heap.size W w1 := by rw [hw1]; exact below_alloc _ _
  have X1 : w1.heap[P]? = some (.cells (opR k key val old hnd set rt ri (.slice kp n kc) lo hi) 28 (0, 0)) := by rw [hw1, hP]; exact heap_alloc_new _ _
  have HW1 := keepH hw1
  have HP := keepH hP
  have HB1 := keepH B1
  have c0 : w1.cell? ⟨P, 0, none⟩ = _ := cell_of X1 0
  have c1 : w1.cell? ⟨P, 1, none⟩ = _ := cell_of X1 1
  have c2 : w1.cell? ⟨P, 2, none⟩ = _ := cell_of X1 2
  have c3 : w1.cell? ⟨P, 3, none⟩ = _ := cell_of X1 3
  have c4 : w1.cell? ⟨P, 4, none⟩ = _ := cell_of X1 4
  have c5 : w1.cell? ⟨P, 5, none⟩ = _ := cell_of X1 5
  have c6 : w1.cell? ⟨P, 6, none⟩ = _ := cell_of X1 6
  have c7 : w1.cell? ⟨P, 7, none⟩ = _ := cell_of X1 7
  have c8 : w1.cell? ⟨P, 8, none⟩ = _ := cell_of X1 8
  have c9 : w1.cell? ⟨P, 9, none⟩ = _ := cell_of X1 9
  have c10 : w1.cell? ⟨P, 10, none⟩ = _ := cell_of X1 10
  have t0 : ¬ ((E : Int) = 0) := by omega
  have u0 : ((E : Int) != 0) = true := by simpa using t0
  clear hw1 hP B1 X1 hE h1 h2 h3 h4 h5 h6 ha hb hk hf
  go_enter Tryz.func8, Tryz.ntmps8
  go_upto_region 1 with fail
  rw [← HW1.out, ← HP.out]
  go_wp2_with fail
  refine (HOP.out w1).mono ?_
  rintro e w2 ⟨rfl, B2⟩
  have HB2 := keepH (below_chain HB1.out B2)
  clear B2 c0 c1 c2 c3 c4 c5 c6 c7 c8 c9 c10
  go_wp2_with fail
  go_ret2
  exact ⟨by simp, HB2.out⟩
theorem dPrintOp_any (k key val old hnd : Nat) (set : Bool) (rt ri : Int) (kp : Option Addr) (kc lo hi : Nat) (keys : List Nat) (hk : k < 256) (h1 : isU key) (h2 : isU val) (h3 : isU old) (h4 : isU hnd) (h5 : isU lo) (h6 : isU hi) (ha : isI rt) (hb : isI ri) (hks : ∀ u ∈ keys, isU u) (hkl : keys.length ≤ 10000000) (W : World) (T : Tb W) (hK : KRd W kp keys) :
    Calls Tryz.prog 8 #[.agg (opR k key val old hnd set rt ri (.slice kp keys.length kc) lo hi)] W fun e W' => ∃ E : Nat, E = faultN k key val old hnd set rt ri kp keys.length kc lo hi ∧ e = .returned (.tuple #[.string (mkS (if E = 0 then opT k key val old hnd set rt ri keys lo hi else [])), .int .i64 (E : Int)]) ∧ Below W.heap.size W W' := by
  by_cases hf : faultN k key val old hnd set rt ri kp keys.length kc lo hi = 0
  · have hh := fault_has hf
    have go : Calls Tryz.prog 8 #[.agg (opR k key val old hnd set rt ri (.slice kp keys.length kc) lo hi)] W fun e W' => e = .returned (.tuple #[.string (mkS (opT k key val old hnd set rt ri keys lo hi)), .int .i64 0]) ∧ Below W.heap.size W W' := by
      have : k = 1 ∨ k = 2 ∨ k = 3 ∨ k = 4 ∨ k = 5 ∨ k = 6 ∨ k = 7 ∨ k = 8 ∨ k = 9 ∨ k = 10 := by simp [hasK] at hh; omega
      rcases this with rfl | rfl | rfl | rfl | rfl | rfl | rfl | rfl | rfl | rfl
      · exact dPrint_1 key val old hnd set rt ri kp kc lo hi keys h1 h2 h3 h4 h5 h6 ha hb hf W T
      · exact dPrint_2 key val old hnd set rt ri kp kc lo hi keys h1 h2 h3 h4 h5 h6 ha hb hf W T
      · exact dPrint_3 key val old hnd set rt ri kp kc lo hi keys h1 h2 h3 h4 h5 h6 ha hb hf W T
      · exact dPrint_4 key val old hnd set rt ri kp kc lo hi keys h1 h2 h3 h4 h5 h6 ha hb hf W T
      · exact dPrint_5 key val old hnd set rt ri kp kc lo hi keys h1 h2 h3 h4 h5 h6 ha hb hf W T
      · cases set with
        | true => exact dPrint_6t key val old hnd rt ri kp kc lo hi keys h1 h2 h3 h4 h5 h6 ha hb hf W T
        | false => exact dPrint_6f key val old hnd rt ri kp kc lo hi keys h1 h2 h3 h4 h5 h6 ha hb hf W T
      · cases set with
        | true => exact dPrint_7t key val old hnd rt ri kp kc lo hi keys h1 h2 h3 h4 h5 h6 ha hb hks hkl hf W T hK
        | false => exact dPrint_7f key val old hnd rt ri kp kc lo hi keys h1 h2 h3 h4 h5 h6 ha hb hks hkl hf W T hK
      · cases set with
        | true => exact dPrint_8t key val old hnd rt ri kp kc lo hi keys h1 h2 h3 h4 h5 h6 ha hb hf W T
        | false => exact dPrint_8f key val old hnd rt ri kp kc lo hi keys h1 h2 h3 h4 h5 h6 ha hb hf W T
      · cases set with
        | true => exact dPrint_9t key val old hnd rt ri kp kc lo hi keys h1 h2 h3 h4 h5 h6 ha hb hf W T
        | false => exact dPrint_9f key val old hnd rt ri kp kc lo hi keys h1 h2 h3 h4 h5 h6 ha hb hf W T
      · exact dPrint_10 key val old hnd set rt ri kp kc lo hi keys h1 h2 h3 h4 h5 h6 ha hb hf W T
    refine go.mono ?_
    rintro e W' ⟨rfl, hB⟩
    exact ⟨0, hf.symm, by simp, hB⟩
  · refine (dPrint_err k key val old hnd set rt ri kp keys.length kc lo hi hk h1 h2 h3 h4 h5 h6 ha hb hf W).mono ?_
    rintro e W' ⟨rfl, hB⟩
    exact ⟨_, rfl, by rw [if_neg hf], hB⟩
end Go.Proofs.YtmmaniolaljjlaaGreatDoor
