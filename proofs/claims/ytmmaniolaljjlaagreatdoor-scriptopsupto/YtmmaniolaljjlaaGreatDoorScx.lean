/- Two operations that are the same, by the document. -/
import Derived.Test.YtmmaniolaljjlaaGreatDoorSco
namespace Go.Proofs.YtmmaniolaljjlaaGreatDoor
open Go.RowKit Go.Shelf
set_option linter.unusedVariables false

theorem ref_neq (s : Bool) (a b : Int) (ha : isI a) (hb : isI b) (w : World) :
    (binOp .neq 25 (refV s a b) (refV s a b)).run Tryz.prog w = .ok (.bool false) w := by
  have h := ref_eql s a b s a b ha hb ha hb w
  simp only [binOp, go_sem]
  simp [h, Result.andThen]
set_option maxRecDepth 100000 in
set_option maxHeartbeats 4000000 in
theorem sameOp_any (k key val old hnd : Nat) (set : Bool) (rt ri : Int) (kp kp' : Option Addr) (kc kc' lo hi : Nat) (keys : List Nat) (ha : isI rt) (hb : isI ri) (hl : keys.length ≤ 10000000) (W : World) (hK : KRd W kp keys) (hK' : KRd W kp' keys) :
    Calls Tryz.prog 12 #[.agg (opR k key val old hnd set rt ri (.slice kp keys.length kc) lo hi), .agg (opR k key val old hnd set rt ri (.slice kp' keys.length kc') lo hi)] W fun e W' => e = .returned (.bool true) ∧ Below W.heap.size W W' := by
  have hr := fun w => ref_neq set rt ri ha hb w
  obtain ⟨n, hn⟩ : ∃ n, n = keys.length := ⟨_, rfl⟩
  rw [← hn] at hl ⊢
  obtain ⟨w1, hw1⟩ : ∃ w1, w1 = W.alloc (.cells (opR k key val old hnd set rt ri (.slice kp n kc) lo hi) 28) := ⟨_, rfl⟩
  obtain ⟨P, hP⟩ : ∃ P, P = W.heap.size := ⟨_, rfl⟩
  have B1 : Below W.heap.size W w1 := by rw [hw1]; exact below_alloc _ _
  have X1 : w1.heap[P]? = some (.cells (opR k key val old hnd set rt ri (.slice kp n kc) lo hi) 28 (0, 0)) := by rw [hw1, hP]; exact heap_alloc_new _ _
  obtain ⟨w2, hw2⟩ : ∃ w2, w2 = w1.alloc (.cells (opR k key val old hnd set rt ri (.slice kp' n kc') lo hi) 28) := ⟨_, rfl⟩
  obtain ⟨Q, hQ⟩ : ∃ Q, Q = w1.heap.size := ⟨_, rfl⟩
  have B2 : Below w1.heap.size w1 w2 := by rw [hw2]; exact below_alloc _ _
  have X2 : w2.heap[Q]? = some (.cells (opR k key val old hnd set rt ri (.slice kp' n kc') lo hi) 28 (0, 0)) := by rw [hw2, hQ]; exact heap_alloc_new _ _
  have Y2 := heap_below X1 B2
  have hQ2 : Q = W.heap.size + 1 := by rw [hQ, hw1]; simp
  have HQ2 := keepH hQ2
  have HW2 : Hid (w2 = (W.alloc (.cells (opR k key val old hnd set rt ri (.slice kp n kc) lo hi) 28)).alloc (.cells (opR k key val old hnd set rt ri (.slice kp' n kc') lo hi) 28)) := keepH (by rw [hw2, hw1])
  have HP := keepH hP
  have HB2 := keepH (below_chain B1 B2)
  have HK := keepH (hK.on (below_chain B1 B2))
  have HK' := keepH (hK'.on (below_chain B1 B2))
  have HX2 := keepH X2
  have HY2 := keepH Y2
  have HN := keepH hn
  have p0 : w2.cell? ⟨P, 0, none⟩ = _ := cell_of Y2 0
  have p1 : w2.cell? ⟨P, 1, none⟩ = _ := cell_of Y2 1
  have p2 : w2.cell? ⟨P, 2, none⟩ = _ := cell_of Y2 2
  have p3 : w2.cell? ⟨P, 3, none⟩ = _ := cell_of Y2 3
  have p4 : w2.cell? ⟨P, 4, none⟩ = _ := cell_of Y2 4
  have p5 : w2.cell? ⟨P, 5, none⟩ = _ := cell_of Y2 5
  have p6 : w2.cell? ⟨P, 6, none⟩ = _ := cell_of Y2 6
  have p7 : w2.cell? ⟨P, 7, none⟩ = _ := cell_of Y2 7
  have p8 : w2.cell? ⟨P, 8, none⟩ = _ := cell_of Y2 8
  have p9 : w2.cell? ⟨P, 9, none⟩ = _ := cell_of Y2 9
  have p10 : w2.cell? ⟨P, 10, none⟩ = _ := cell_of Y2 10
  have q0 : w2.cell? ⟨Q, 0, none⟩ = _ := cell_of X2 0
  have q1 : w2.cell? ⟨Q, 1, none⟩ = _ := cell_of X2 1
  have q2 : w2.cell? ⟨Q, 2, none⟩ = _ := cell_of X2 2
  have q3 : w2.cell? ⟨Q, 3, none⟩ = _ := cell_of X2 3
  have q4 : w2.cell? ⟨Q, 4, none⟩ = _ := cell_of X2 4
  have q5 : w2.cell? ⟨Q, 5, none⟩ = _ := cell_of X2 5
  have q6 : w2.cell? ⟨Q, 6, none⟩ = _ := cell_of X2 6
  have q7 : w2.cell? ⟨Q, 7, none⟩ = _ := cell_of X2 7
  have q8 : w2.cell? ⟨Q, 8, none⟩ = _ := cell_of X2 8
  have q9 : w2.cell? ⟨Q, 9, none⟩ = _ := cell_of X2 9
  have q10 : w2.cell? ⟨Q, 10, none⟩ = _ := cell_of X2 10
  clear hw1 hP B1 X1 hw2 hQ B2 X2 Y2 hQ2 hn hK hK' ha hb
  go_enter Tryz.func12, Tryz.ntmps12
  go_upto_region 1 with fail
  rw [← HW2.out, ← HQ2.out, ← HP.out]
  go_wp2_with fail
  clear p0 p1 p2 p3 p4 p5 p6 p7 p9 p10 q0 q1 q2 q3 q4 q5 q6 q7 q9 q10 p8 q8 hr
  go_loopw [5] (fun s wr => ∃ i : Nat, i ≤ n ∧ s = .int .i64 (i : Int) ∧ Hid (Below w2.heap.size w2 wr)) (fun s _ => n - (intOf s).toNat)
  case atStart => exact ⟨0, by omega, rfl, keepH (Below.refl _ _)⟩
  case round =>
    obtain ⟨i, him, rfl, HR⟩ := hrel
    have p8 : wr.cell? ⟨P, 8, none⟩ = _ := cell_of (heap_below HY2.out HR.out) 8
    have q8 : wr.cell? ⟨Q, 8, none⟩ = _ := cell_of (heap_below HX2.out HR.out) 8
    by_cases hlt : i < n
    · have t1 : (i : Int) < (n : Int) := by omega
      have t0 : (0 : Int) ≤ (i : Int) := by omega
      obtain ⟨x, hx⟩ : ∃ x, keys[i]? = some x := ⟨keys[i]'(by have := HN.out; omega), List.getElem?_eq_getElem _⟩
      obtain ⟨bk, off, rfl, _, c0⟩ := (HK.out.on HR.out).get i x hx
      obtain ⟨bk', off', rfl, _, d0⟩ := (HK'.out.on HR.out).get i x hx
      obtain ⟨z, hz⟩ : ∃ z : Int, z = (x : Int) := ⟨_, rfl⟩
      rw [← hz] at c0 d0
      clear hx hz
      go_wp2_with fail
      go_quiet (fail)
      go_wp2_with fail
      go_roundw
      case rel => exact ⟨i + 1, by omega, by first | rfl | go_num, keepH (HR.out.trans ⟨rfl, rfl, rfl, Nat.le_refl _, fun _ _ => rfl⟩)⟩
      case measure => simp [intOf]; omega
    · obtain rfl : i = n := by omega
      have t1 : ¬ (i : Int) < (i : Int) := by omega
      go_wp2_with fail
      go_ret
      exact ⟨by simp, below_chain HB2.out HR.out⟩
end Go.Proofs.YtmmaniolaljjlaaGreatDoor
