/- The vocabulary that the program makes; the fields of an operation of each kind. (mkScb.py) -/
import Derived.Test.YtmmaniolaljjlaaGreatDoorSca
import Derived.Deep.RegionHeld
import Derived.Deep.RegionHeld3
import Derived.Laws.Tables
import Derived.BigQuiet
namespace Go.Proofs.YtmmaniolaljjlaaGreatDoor
open Go.RowKit Go.Shelf
set_option linter.unusedVariables false

set_option maxRecDepth 100000 in
set_option maxHeartbeats 2000000 in
theorem voc_new (W : World) : Calls Tryz.prog 23 #[] W fun e W' => e = .returned (.map (some W.heap.size)) ∧ IsVoc W' W.heap.size ∧ Below W.heap.size W W' := by
  have h0 : (W.alloc (.map #[] 0)).heap[W.heap.size]? = some (.map (vocN 0) 0) := heap_alloc_new _ _
  have b0 : Below W.heap.size W (W.alloc (.map #[] 0)) := below_alloc _ _
  obtain ⟨w1, q1, h1, b1'⟩ := voc_put h0 (voc_find 0 (by omega))
  have p1 : (Instr.mapUpdate 57 (.map (some W.heap.size)) (.string ⟨#[103, 101, 116]⟩) (.func (.func 59) #[] #[])).run Tryz.prog (W.alloc (.map #[] 0)) = .ok () w1 := q1
  have b1 := b0.trans (b1' W.heap.size (Nat.le_refl _))
  obtain ⟨w2, q2, h2, b2'⟩ := voc_put h1 (voc_find 1 (by omega))
  have p2 : (Instr.mapUpdate 57 (.map (some W.heap.size)) (.string ⟨#[112, 117, 116]⟩) (.func (.func 61) #[] #[])).run Tryz.prog w1 = .ok () w2 := q2
  have b2 := b1.trans (b2' W.heap.size (Nat.le_refl _))
  obtain ⟨w3, q3, h3, b3'⟩ := voc_put h2 (voc_find 2 (by omega))
  have p3 : (Instr.mapUpdate 57 (.map (some W.heap.size)) (.string ⟨#[100, 101, 108, 101, 116, 101]⟩) (.func (.func 59) #[] #[])).run Tryz.prog w2 = .ok () w3 := q3
  have b3 := b2.trans (b3' W.heap.size (Nat.le_refl _))
  obtain ⟨w4, q4, h4, b4'⟩ := voc_put h3 (voc_find 3 (by omega))
  have p4 : (Instr.mapUpdate 57 (.map (some W.heap.size)) (.string ⟨#[115, 119, 97, 112]⟩) (.func (.func 62) #[] #[])).run Tryz.prog w3 = .ok () w4 := q4
  have b4 := b3.trans (b4' W.heap.size (Nat.le_refl _))
  obtain ⟨w5, q5, h5, b5'⟩ := voc_put h4 (voc_find 4 (by omega))
  have p5 : (Instr.mapUpdate 57 (.map (some W.heap.size)) (.string ⟨#[115, 110, 97, 112, 115, 104, 111, 116]⟩) (.func (.func 58) #[] #[])).run Tryz.prog w4 = .ok () w5 := q5
  have b5 := b4.trans (b5' W.heap.size (Nat.le_refl _))
  obtain ⟨w6, q6, h6, b6'⟩ := voc_put h5 (voc_find 5 (by omega))
  have p6 : (Instr.mapUpdate 57 (.map (some W.heap.size)) (.string ⟨#[114, 101, 108, 101, 97, 115, 101]⟩) (.func (.func 63) #[] #[])).run Tryz.prog w5 = .ok () w6 := q6
  have b6 := b5.trans (b6' W.heap.size (Nat.le_refl _))
  obtain ⟨w7, q7, h7, b7'⟩ := voc_put h6 (voc_find 6 (by omega))
  have p7 : (Instr.mapUpdate 57 (.map (some W.heap.size)) (.string ⟨#[109, 117, 108, 116, 105, 103, 101, 116]⟩) (.func (.func 64) #[] #[])).run Tryz.prog w6 = .ok () w7 := q7
  have b7 := b6.trans (b7' W.heap.size (Nat.le_refl _))
  obtain ⟨w8, q8, h8, b8'⟩ := voc_put h7 (voc_find 7 (by omega))
  have p8 : (Instr.mapUpdate 57 (.map (some W.heap.size)) (.string ⟨#[114, 97, 110, 103, 101]⟩) (.func (.func 60) #[] #[])).run Tryz.prog w7 = .ok () w8 := q8
  have b8 := b7.trans (b8' W.heap.size (Nat.le_refl _))
  obtain ⟨w9, q9, h9, b9'⟩ := voc_put h8 (voc_find 8 (by omega))
  have p9 : (Instr.mapUpdate 57 (.map (some W.heap.size)) (.string ⟨#[99, 111, 117, 110, 116]⟩) (.func (.func 60) #[] #[])).run Tryz.prog w8 = .ok () w9 := q9
  have b9 := b8.trans (b9' W.heap.size (Nat.le_refl _))
  obtain ⟨w10, q10, h10, b10'⟩ := voc_put h9 (voc_find 9 (by omega))
  have p10 : (Instr.mapUpdate 57 (.map (some W.heap.size)) (.string ⟨#[99, 111, 108, 108, 101, 99, 116]⟩) (.func (.func 58) #[] #[])).run Tryz.prog w9 = .ok () w10 := q10
  have b10 := b9.trans (b10' W.heap.size (Nat.le_refl _))
  have HH := keepH h10
  have HB := keepH b10
  have hmm := @run_makeMap Tryz.prog
  clear h1 q1 b1 b1' h2 q2 b2 b2' h3 q3 b3 b3' h4 q4 b4 b4' h5 q5 b5 b5' h6 q6 b6 b6' h7 q7 b7 b7' h8 q8 b8 b8' h9 q9 b9 b9' h10 q10 b10 b10' h0 b0
  go_enter Tryz.func23, Tryz.ntmps23
  go_upto_region 4 with fail
  go_wp2_with fail
  go_ret
  exact ⟨by simp, HH.out, HB.out⟩
end Go.Proofs.YtmmaniolaljjlaaGreatDoor
