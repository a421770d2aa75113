/- An answer as a line: what was found, what was done. (mkSdc.py) -/
import Derived.Test.YtmmaniolaljjlaaGreatDoorSdb
namespace Go.Proofs.YtmmaniolaljjlaaGreatDoor
open Go.RowKit Go.Shelf
set_option linter.unusedVariables false

set_option maxRecDepth 100000 in
set_option maxHeartbeats 4000000 in
theorem pa_done (f : Bool) (v h : Nat) (pp : Option Addr) (m pc ct : Nat) (hv : isU v) (W : World) (T : Tb W): Calls Tryz.prog 13 #[.int .u8 4, .agg (ansR 0 f v true h pp m pc ct)] W fun e' W' => e' = .returned (.string (mkS ([100, 111, 110, 101, 32] ++ Lib.decDigits v))) ∧ Below W.heap.size W W' := by
  have hl := dec_len hv
  have k1 := add_str [102, 111, 117, 110, 100, 32] (Lib.decDigits v) (by simp; omega)
  have k2 := add_str [32] (Lib.decDigits v) (by simp; omega)
  have k3 := add_str [100, 111, 110, 101] ([32] ++ Lib.decDigits v) (by simp; omega)
  have k4 := add_str [100, 111, 110, 101, 32] (Lib.decDigits v) (by simp; omega)
  have HD := keepH (fun w (hb : Below W.heap.size W w) => dNum_any v hv w (T.on hb))
  have HDE := keepH (fun w (hb : Below W.heap.size W w) => dec_any v hv w (T.on hb))
  rw [show mkS [102, 111, 117, 110, 100, 32] = ⟨#[102, 111, 117, 110, 100, 32]⟩ from rfl] at k1
  rw [show mkS [32] = ⟨#[32]⟩ from rfl] at k2
  rw [show mkS [100, 111, 110, 101] = ⟨#[100, 111, 110, 101]⟩ from rfl] at k3
  rw [show mkS [100, 111, 110, 101, 32] = ⟨#[100, 111, 110, 101, 32]⟩ from rfl] at k4
  obtain ⟨s, hs⟩ : ∃ s, s = mkS (Lib.decDigits v) := ⟨_, rfl⟩
  obtain ⟨g1, hg1⟩ : ∃ g, g = mkS ([102, 111, 117, 110, 100, 32] ++ Lib.decDigits v) := ⟨_, rfl⟩
  obtain ⟨g2, hg2⟩ : ∃ g, g = mkS ([32] ++ Lib.decDigits v) := ⟨_, rfl⟩
  obtain ⟨g3, hg3⟩ : ∃ g, g = mkS ([100, 111, 110, 101, 32] ++ Lib.decDigits v) := ⟨_, rfl⟩
  rw [show mkS ([100, 111, 110, 101] ++ ([32] ++ Lib.decDigits v)) = g3 by rw [hg3]; rfl] at k3
  rw [← hs, ← hg1] at k1
  rw [← hs, ← hg2] at k2
  rw [← hg2] at k3
  rw [← hs, ← hg3] at k4
  rw [← hs] at HD HDE
  rw [← hg3]
  clear hs hg1 hg2 hg3 hl T hv
  obtain ⟨w1, hw1⟩ : ∃ w1, w1 = W.alloc (.cells (ansR 0 f v true h pp m pc ct) 32) := ⟨_, rfl⟩
  obtain ⟨P, hP⟩ : ∃ P, P = W.heap.size := ⟨_, rfl⟩
  have B1 : Below W.heap.size W w1 := by rw [hw1]; exact below_alloc _ _
  have X1 : w1.heap[P]? = some (.cells (ansR 0 f v true h pp m pc ct) 32 (0, 0)) := by rw [hw1, hP]; exact heap_alloc_new _ _
  have HW1 := keepH hw1
  have HP := keepH hP
  have HB1 := keepH B1
  have HX1 := keepH X1
  have c0 : w1.cell? ⟨P, 0, none⟩ = _ := cell_of X1 0
  have c1 : w1.cell? ⟨P, 1, none⟩ = _ := cell_of X1 1
  have c2 : w1.cell? ⟨P, 2, none⟩ = _ := cell_of X1 2
  have c3 : w1.cell? ⟨P, 3, none⟩ = _ := cell_of X1 3
  have c4 : w1.cell? ⟨P, 4, none⟩ = _ := cell_of X1 4
  have c5 : w1.cell? ⟨P, 5, none⟩ = _ := cell_of X1 5
  have c6 : w1.cell? ⟨P, 6, none⟩ = _ := cell_of X1 6
  clear hw1 hP B1 X1
  go_enter Tryz.func13, Tryz.ntmps13
  go_upto_region 1 with fail
  rw [← HW1.out, ← HP.out]
  go_wp2_with fail
  refine (HDE.out w1 HB1.out).mono ?_
  rintro e' w2 ⟨rfl, B2⟩
  have HB2 := keepH (below_chain HB1.out B2)
  have HX2 := keepH (heap_below HX1.out B2)
  clear B2 c0 c1 c2 c3 c4 c5 c6
  have c0 : w2.cell? ⟨P, 0, none⟩ = _ := cell_of HX2.out 0
  have c1 : w2.cell? ⟨P, 1, none⟩ = _ := cell_of HX2.out 1
  have c2 : w2.cell? ⟨P, 2, none⟩ = _ := cell_of HX2.out 2
  have c3 : w2.cell? ⟨P, 3, none⟩ = _ := cell_of HX2.out 3
  have c4 : w2.cell? ⟨P, 4, none⟩ = _ := cell_of HX2.out 4
  have c5 : w2.cell? ⟨P, 5, none⟩ = _ := cell_of HX2.out 5
  have c6 : w2.cell? ⟨P, 6, none⟩ = _ := cell_of HX2.out 6
  go_wp2_with fail
  go_ret
  exact ⟨by simp, HB2.out⟩
set_option maxRecDepth 100000 in
set_option maxHeartbeats 4000000 in
theorem da_fnd1t (dn : Bool) (v h : Nat) (pp : Option Addr) (m pc ct : Nat) (hv : isU v) (W : World) (T : Tb W): Calls Tryz.prog 14 #[.int .u8 1, .agg (ansR 0 true v dn h pp m pc ct)] W fun e' W' => e' = .returned (.string (mkS ([102, 111, 117, 110, 100, 32] ++ Lib.decDigits v))) ∧ Below W.heap.size W W' := by
  have hl := dec_len hv
  have k1 := add_str [102, 111, 117, 110, 100, 32] (Lib.decDigits v) (by simp; omega)
  have k2 := add_str [32] (Lib.decDigits v) (by simp; omega)
  have k3 := add_str [100, 111, 110, 101] ([32] ++ Lib.decDigits v) (by simp; omega)
  have k4 := add_str [100, 111, 110, 101, 32] (Lib.decDigits v) (by simp; omega)
  have HD := keepH (fun w (hb : Below W.heap.size W w) => dNum_any v hv w (T.on hb))
  have HDE := keepH (fun w (hb : Below W.heap.size W w) => dec_any v hv w (T.on hb))
  rw [show mkS [102, 111, 117, 110, 100, 32] = ⟨#[102, 111, 117, 110, 100, 32]⟩ from rfl] at k1
  rw [show mkS [32] = ⟨#[32]⟩ from rfl] at k2
  rw [show mkS [100, 111, 110, 101] = ⟨#[100, 111, 110, 101]⟩ from rfl] at k3
  rw [show mkS [100, 111, 110, 101, 32] = ⟨#[100, 111, 110, 101, 32]⟩ from rfl] at k4
  obtain ⟨s, hs⟩ : ∃ s, s = mkS (Lib.decDigits v) := ⟨_, rfl⟩
  obtain ⟨g1, hg1⟩ : ∃ g, g = mkS ([102, 111, 117, 110, 100, 32] ++ Lib.decDigits v) := ⟨_, rfl⟩
  obtain ⟨g2, hg2⟩ : ∃ g, g = mkS ([32] ++ Lib.decDigits v) := ⟨_, rfl⟩
  obtain ⟨g3, hg3⟩ : ∃ g, g = mkS ([100, 111, 110, 101, 32] ++ Lib.decDigits v) := ⟨_, rfl⟩
  rw [show mkS ([100, 111, 110, 101] ++ ([32] ++ Lib.decDigits v)) = g3 by rw [hg3]; rfl] at k3
  rw [← hs, ← hg1] at k1
  rw [← hs, ← hg2] at k2
  rw [← hg2] at k3
  rw [← hs, ← hg3] at k4
  rw [← hs] at HD HDE
  rw [← hg1]
  clear hs hg1 hg2 hg3 hl T hv
  obtain ⟨w1, hw1⟩ : ∃ w1, w1 = W.alloc (.cells (ansR 0 true v dn h pp m pc ct) 32) := ⟨_, rfl⟩
  obtain ⟨P, hP⟩ : ∃ P, P = W.heap.size := ⟨_, rfl⟩
  have B1 : Below W.heap.size W w1 := by rw [hw1]; exact below_alloc _ _
  have X1 : w1.heap[P]? = some (.cells (ansR 0 true v dn h pp m pc ct) 32 (0, 0)) := by rw [hw1, hP]; exact heap_alloc_new _ _
  have HW1 := keepH hw1
  have HP := keepH hP
  have HB1 := keepH B1
  have HX1 := keepH X1
  have c0 : w1.cell? ⟨P, 0, none⟩ = _ := cell_of X1 0
  have c1 : w1.cell? ⟨P, 1, none⟩ = _ := cell_of X1 1
  have c2 : w1.cell? ⟨P, 2, none⟩ = _ := cell_of X1 2
  have c3 : w1.cell? ⟨P, 3, none⟩ = _ := cell_of X1 3
  have c4 : w1.cell? ⟨P, 4, none⟩ = _ := cell_of X1 4
  have c5 : w1.cell? ⟨P, 5, none⟩ = _ := cell_of X1 5
  have c6 : w1.cell? ⟨P, 6, none⟩ = _ := cell_of X1 6
  clear hw1 hP B1 X1
  go_enter Tryz.func14, Tryz.ntmps14
  go_upto_region 1 with fail
  rw [← HW1.out, ← HP.out]
  go_wp2_with fail
  refine (HD.out w1 HB1.out).mono ?_
  rintro e' w2 ⟨rfl, B2⟩
  have HB2 := keepH (below_chain HB1.out B2)
  have HX2 := keepH (heap_below HX1.out B2)
  clear B2 c0 c1 c2 c3 c4 c5 c6
  have c0 : w2.cell? ⟨P, 0, none⟩ = _ := cell_of HX2.out 0
  have c1 : w2.cell? ⟨P, 1, none⟩ = _ := cell_of HX2.out 1
  have c2 : w2.cell? ⟨P, 2, none⟩ = _ := cell_of HX2.out 2
  have c3 : w2.cell? ⟨P, 3, none⟩ = _ := cell_of HX2.out 3
  have c4 : w2.cell? ⟨P, 4, none⟩ = _ := cell_of HX2.out 4
  have c5 : w2.cell? ⟨P, 5, none⟩ = _ := cell_of HX2.out 5
  have c6 : w2.cell? ⟨P, 6, none⟩ = _ := cell_of HX2.out 6
  go_wp2_with fail
  go_ret
  exact ⟨by simp, HB2.out⟩
set_option maxRecDepth 100000 in
set_option maxHeartbeats 4000000 in
theorem da_fnd1f (dn : Bool) (v h : Nat) (pp : Option Addr) (m pc ct : Nat) (hv : isU v) (W : World) (T : Tb W): Calls Tryz.prog 14 #[.int .u8 1, .agg (ansR 0 false v dn h pp m pc ct)] W fun e' W' => e' = .returned (.string (mkS [110, 111, 110, 101])) ∧ Below W.heap.size W W' := by
  have hl := dec_len hv
  have k1 := add_str [102, 111, 117, 110, 100, 32] (Lib.decDigits v) (by simp; omega)
  have k2 := add_str [32] (Lib.decDigits v) (by simp; omega)
  have k3 := add_str [100, 111, 110, 101] ([32] ++ Lib.decDigits v) (by simp; omega)
  have k4 := add_str [100, 111, 110, 101, 32] (Lib.decDigits v) (by simp; omega)
  have HD := keepH (fun w (hb : Below W.heap.size W w) => dNum_any v hv w (T.on hb))
  have HDE := keepH (fun w (hb : Below W.heap.size W w) => dec_any v hv w (T.on hb))
  rw [show mkS [102, 111, 117, 110, 100, 32] = ⟨#[102, 111, 117, 110, 100, 32]⟩ from rfl] at k1
  rw [show mkS [32] = ⟨#[32]⟩ from rfl] at k2
  rw [show mkS [100, 111, 110, 101] = ⟨#[100, 111, 110, 101]⟩ from rfl] at k3
  rw [show mkS [100, 111, 110, 101, 32] = ⟨#[100, 111, 110, 101, 32]⟩ from rfl] at k4
  obtain ⟨s, hs⟩ : ∃ s, s = mkS (Lib.decDigits v) := ⟨_, rfl⟩
  obtain ⟨g1, hg1⟩ : ∃ g, g = mkS ([102, 111, 117, 110, 100, 32] ++ Lib.decDigits v) := ⟨_, rfl⟩
  obtain ⟨g2, hg2⟩ : ∃ g, g = mkS ([32] ++ Lib.decDigits v) := ⟨_, rfl⟩
  obtain ⟨g3, hg3⟩ : ∃ g, g = mkS ([100, 111, 110, 101, 32] ++ Lib.decDigits v) := ⟨_, rfl⟩
  rw [show mkS ([100, 111, 110, 101] ++ ([32] ++ Lib.decDigits v)) = g3 by rw [hg3]; rfl] at k3
  rw [← hs, ← hg1] at k1
  rw [← hs, ← hg2] at k2
  rw [← hg2] at k3
  rw [← hs, ← hg3] at k4
  rw [← hs] at HD HDE
  clear hs hg1 hg2 hg3 hl T hv
  obtain ⟨w1, hw1⟩ : ∃ w1, w1 = W.alloc (.cells (ansR 0 false v dn h pp m pc ct) 32) := ⟨_, rfl⟩
  obtain ⟨P, hP⟩ : ∃ P, P = W.heap.size := ⟨_, rfl⟩
  have B1 : Below W.heap.size W w1 := by rw [hw1]; exact below_alloc _ _
  have X1 : w1.heap[P]? = some (.cells (ansR 0 false v dn h pp m pc ct) 32 (0, 0)) := by rw [hw1, hP]; exact heap_alloc_new _ _
  have HW1 := keepH hw1
  have HP := keepH hP
  have HB1 := keepH B1
  have HX1 := keepH X1
  have c0 : w1.cell? ⟨P, 0, none⟩ = _ := cell_of X1 0
  have c1 : w1.cell? ⟨P, 1, none⟩ = _ := cell_of X1 1
  have c2 : w1.cell? ⟨P, 2, none⟩ = _ := cell_of X1 2
  have c3 : w1.cell? ⟨P, 3, none⟩ = _ := cell_of X1 3
  have c4 : w1.cell? ⟨P, 4, none⟩ = _ := cell_of X1 4
  have c5 : w1.cell? ⟨P, 5, none⟩ = _ := cell_of X1 5
  have c6 : w1.cell? ⟨P, 6, none⟩ = _ := cell_of X1 6
  clear hw1 hP B1 X1
  go_enter Tryz.func14, Tryz.ntmps14
  go_upto_region 1 with fail
  rw [← HW1.out, ← HP.out]
  go_wp2_with fail
  go_ret
  exact ⟨rfl, HB1.out⟩
set_option maxRecDepth 100000 in
set_option maxHeartbeats 4000000 in
theorem da_fnd2t (dn : Bool) (v h : Nat) (pp : Option Addr) (m pc ct : Nat) (hv : isU v) (W : World) (T : Tb W): Calls Tryz.prog 14 #[.int .u8 2, .agg (ansR 0 true v dn h pp m pc ct)] W fun e' W' => e' = .returned (.string (mkS ([102, 111, 117, 110, 100, 32] ++ Lib.decDigits v))) ∧ Below W.heap.size W W' := by
  have hl := dec_len hv
  have k1 := add_str [102, 111, 117, 110, 100, 32] (Lib.decDigits v) (by simp; omega)
  have k2 := add_str [32] (Lib.decDigits v) (by simp; omega)
  have k3 := add_str [100, 111, 110, 101] ([32] ++ Lib.decDigits v) (by simp; omega)
  have k4 := add_str [100, 111, 110, 101, 32] (Lib.decDigits v) (by simp; omega)
  have HD := keepH (fun w (hb : Below W.heap.size W w) => dNum_any v hv w (T.on hb))
  have HDE := keepH (fun w (hb : Below W.heap.size W w) => dec_any v hv w (T.on hb))
  rw [show mkS [102, 111, 117, 110, 100, 32] = ⟨#[102, 111, 117, 110, 100, 32]⟩ from rfl] at k1
  rw [show mkS [32] = ⟨#[32]⟩ from rfl] at k2
  rw [show mkS [100, 111, 110, 101] = ⟨#[100, 111, 110, 101]⟩ from rfl] at k3
  rw [show mkS [100, 111, 110, 101, 32] = ⟨#[100, 111, 110, 101, 32]⟩ from rfl] at k4
  obtain ⟨s, hs⟩ : ∃ s, s = mkS (Lib.decDigits v) := ⟨_, rfl⟩
  obtain ⟨g1, hg1⟩ : ∃ g, g = mkS ([102, 111, 117, 110, 100, 32] ++ Lib.decDigits v) := ⟨_, rfl⟩
  obtain ⟨g2, hg2⟩ : ∃ g, g = mkS ([32] ++ Lib.decDigits v) := ⟨_, rfl⟩
  obtain ⟨g3, hg3⟩ : ∃ g, g = mkS ([100, 111, 110, 101, 32] ++ Lib.decDigits v) := ⟨_, rfl⟩
  rw [show mkS ([100, 111, 110, 101] ++ ([32] ++ Lib.decDigits v)) = g3 by rw [hg3]; rfl] at k3
  rw [← hs, ← hg1] at k1
  rw [← hs, ← hg2] at k2
  rw [← hg2] at k3
  rw [← hs, ← hg3] at k4
  rw [← hs] at HD HDE
  rw [← hg1]
  clear hs hg1 hg2 hg3 hl T hv
  obtain ⟨w1, hw1⟩ : ∃ w1, w1 = W.alloc (.cells (ansR 0 true v dn h pp m pc ct) 32) := ⟨_, rfl⟩
  obtain ⟨P, hP⟩ : ∃ P, P = W.heap.size := ⟨_, rfl⟩
  have B1 : Below W.heap.size W w1 := by rw [hw1]; exact below_alloc _ _
  have X1 : w1.heap[P]? = some (.cells (ansR 0 true v dn h pp m pc ct) 32 (0, 0)) := by rw [hw1, hP]; exact heap_alloc_new _ _
  have HW1 := keepH hw1
  have HP := keepH hP
  have HB1 := keepH B1
  have HX1 := keepH X1
  have c0 : w1.cell? ⟨P, 0, none⟩ = _ := cell_of X1 0
  have c1 : w1.cell? ⟨P, 1, none⟩ = _ := cell_of X1 1
  have c2 : w1.cell? ⟨P, 2, none⟩ = _ := cell_of X1 2
  have c3 : w1.cell? ⟨P, 3, none⟩ = _ := cell_of X1 3
  have c4 : w1.cell? ⟨P, 4, none⟩ = _ := cell_of X1 4
  have c5 : w1.cell? ⟨P, 5, none⟩ = _ := cell_of X1 5
  have c6 : w1.cell? ⟨P, 6, none⟩ = _ := cell_of X1 6
  clear hw1 hP B1 X1
  go_enter Tryz.func14, Tryz.ntmps14
  go_upto_region 1 with fail
  rw [← HW1.out, ← HP.out]
  go_wp2_with fail
  refine (HD.out w1 HB1.out).mono ?_
  rintro e' w2 ⟨rfl, B2⟩
  have HB2 := keepH (below_chain HB1.out B2)
  have HX2 := keepH (heap_below HX1.out B2)
  clear B2 c0 c1 c2 c3 c4 c5 c6
  have c0 : w2.cell? ⟨P, 0, none⟩ = _ := cell_of HX2.out 0
  have c1 : w2.cell? ⟨P, 1, none⟩ = _ := cell_of HX2.out 1
  have c2 : w2.cell? ⟨P, 2, none⟩ = _ := cell_of HX2.out 2
  have c3 : w2.cell? ⟨P, 3, none⟩ = _ := cell_of HX2.out 3
  have c4 : w2.cell? ⟨P, 4, none⟩ = _ := cell_of HX2.out 4
  have c5 : w2.cell? ⟨P, 5, none⟩ = _ := cell_of HX2.out 5
  have c6 : w2.cell? ⟨P, 6, none⟩ = _ := cell_of HX2.out 6
  go_wp2_with fail
  go_ret
  exact ⟨by simp, HB2.out⟩
set_option maxRecDepth 100000 in
set_option maxHeartbeats 4000000 in
theorem da_fnd2f (dn : Bool) (v h : Nat) (pp : Option Addr) (m pc ct : Nat) (hv : isU v) (W : World) (T : Tb W): Calls Tryz.prog 14 #[.int .u8 2, .agg (ansR 0 false v dn h pp m pc ct)] W fun e' W' => e' = .returned (.string (mkS [110, 111, 110, 101])) ∧ Below W.heap.size W W' := by
  have hl := dec_len hv
  have k1 := add_str [102, 111, 117, 110, 100, 32] (Lib.decDigits v) (by simp; omega)
  have k2 := add_str [32] (Lib.decDigits v) (by simp; omega)
  have k3 := add_str [100, 111, 110, 101] ([32] ++ Lib.decDigits v) (by simp; omega)
  have k4 := add_str [100, 111, 110, 101, 32] (Lib.decDigits v) (by simp; omega)
  have HD := keepH (fun w (hb : Below W.heap.size W w) => dNum_any v hv w (T.on hb))
  have HDE := keepH (fun w (hb : Below W.heap.size W w) => dec_any v hv w (T.on hb))
  rw [show mkS [102, 111, 117, 110, 100, 32] = ⟨#[102, 111, 117, 110, 100, 32]⟩ from rfl] at k1
  rw [show mkS [32] = ⟨#[32]⟩ from rfl] at k2
  rw [show mkS [100, 111, 110, 101] = ⟨#[100, 111, 110, 101]⟩ from rfl] at k3
  rw [show mkS [100, 111, 110, 101, 32] = ⟨#[100, 111, 110, 101, 32]⟩ from rfl] at k4
  obtain ⟨s, hs⟩ : ∃ s, s = mkS (Lib.decDigits v) := ⟨_, rfl⟩
  obtain ⟨g1, hg1⟩ : ∃ g, g = mkS ([102, 111, 117, 110, 100, 32] ++ Lib.decDigits v) := ⟨_, rfl⟩
  obtain ⟨g2, hg2⟩ : ∃ g, g = mkS ([32] ++ Lib.decDigits v) := ⟨_, rfl⟩
  obtain ⟨g3, hg3⟩ : ∃ g, g = mkS ([100, 111, 110, 101, 32] ++ Lib.decDigits v) := ⟨_, rfl⟩
  rw [show mkS ([100, 111, 110, 101] ++ ([32] ++ Lib.decDigits v)) = g3 by rw [hg3]; rfl] at k3
  rw [← hs, ← hg1] at k1
  rw [← hs, ← hg2] at k2
  rw [← hg2] at k3
  rw [← hs, ← hg3] at k4
  rw [← hs] at HD HDE
  clear hs hg1 hg2 hg3 hl T hv
  obtain ⟨w1, hw1⟩ : ∃ w1, w1 = W.alloc (.cells (ansR 0 false v dn h pp m pc ct) 32) := ⟨_, rfl⟩
  obtain ⟨P, hP⟩ : ∃ P, P = W.heap.size := ⟨_, rfl⟩
  have B1 : Below W.heap.size W w1 := by rw [hw1]; exact below_alloc _ _
  have X1 : w1.heap[P]? = some (.cells (ansR 0 false v dn h pp m pc ct) 32 (0, 0)) := by rw [hw1, hP]; exact heap_alloc_new _ _
  have HW1 := keepH hw1
  have HP := keepH hP
  have HB1 := keepH B1
  have HX1 := keepH X1
  have c0 : w1.cell? ⟨P, 0, none⟩ = _ := cell_of X1 0
  have c1 : w1.cell? ⟨P, 1, none⟩ = _ := cell_of X1 1
  have c2 : w1.cell? ⟨P, 2, none⟩ = _ := cell_of X1 2
  have c3 : w1.cell? ⟨P, 3, none⟩ = _ := cell_of X1 3
  have c4 : w1.cell? ⟨P, 4, none⟩ = _ := cell_of X1 4
  have c5 : w1.cell? ⟨P, 5, none⟩ = _ := cell_of X1 5
  have c6 : w1.cell? ⟨P, 6, none⟩ = _ := cell_of X1 6
  clear hw1 hP B1 X1
  go_enter Tryz.func14, Tryz.ntmps14
  go_upto_region 1 with fail
  rw [← HW1.out, ← HP.out]
  go_wp2_with fail
  go_ret
  exact ⟨rfl, HB1.out⟩
set_option maxRecDepth 100000 in
set_option maxHeartbeats 4000000 in
theorem da_fnd3t (dn : Bool) (v h : Nat) (pp : Option Addr) (m pc ct : Nat) (hv : isU v) (W : World) (T : Tb W): Calls Tryz.prog 14 #[.int .u8 3, .agg (ansR 0 true v dn h pp m pc ct)] W fun e' W' => e' = .returned (.string (mkS ([102, 111, 117, 110, 100, 32] ++ Lib.decDigits v))) ∧ Below W.heap.size W W' := by
  have hl := dec_len hv
  have k1 := add_str [102, 111, 117, 110, 100, 32] (Lib.decDigits v) (by simp; omega)
  have k2 := add_str [32] (Lib.decDigits v) (by simp; omega)
  have k3 := add_str [100, 111, 110, 101] ([32] ++ Lib.decDigits v) (by simp; omega)
  have k4 := add_str [100, 111, 110, 101, 32] (Lib.decDigits v) (by simp; omega)
  have HD := keepH (fun w (hb : Below W.heap.size W w) => dNum_any v hv w (T.on hb))
  have HDE := keepH (fun w (hb : Below W.heap.size W w) => dec_any v hv w (T.on hb))
  rw [show mkS [102, 111, 117, 110, 100, 32] = ⟨#[102, 111, 117, 110, 100, 32]⟩ from rfl] at k1
  rw [show mkS [32] = ⟨#[32]⟩ from rfl] at k2
  rw [show mkS [100, 111, 110, 101] = ⟨#[100, 111, 110, 101]⟩ from rfl] at k3
  rw [show mkS [100, 111, 110, 101, 32] = ⟨#[100, 111, 110, 101, 32]⟩ from rfl] at k4
  obtain ⟨s, hs⟩ : ∃ s, s = mkS (Lib.decDigits v) := ⟨_, rfl⟩
  obtain ⟨g1, hg1⟩ : ∃ g, g = mkS ([102, 111, 117, 110, 100, 32] ++ Lib.decDigits v) := ⟨_, rfl⟩
  obtain ⟨g2, hg2⟩ : ∃ g, g = mkS ([32] ++ Lib.decDigits v) := ⟨_, rfl⟩
  obtain ⟨g3, hg3⟩ : ∃ g, g = mkS ([100, 111, 110, 101, 32] ++ Lib.decDigits v) := ⟨_, rfl⟩
  rw [show mkS ([100, 111, 110, 101] ++ ([32] ++ Lib.decDigits v)) = g3 by rw [hg3]; rfl] at k3
  rw [← hs, ← hg1] at k1
  rw [← hs, ← hg2] at k2
  rw [← hg2] at k3
  rw [← hs, ← hg3] at k4
  rw [← hs] at HD HDE
  rw [← hg1]
  clear hs hg1 hg2 hg3 hl T hv
  obtain ⟨w1, hw1⟩ : ∃ w1, w1 = W.alloc (.cells (ansR 0 true v dn h pp m pc ct) 32) := ⟨_, rfl⟩
  obtain ⟨P, hP⟩ : ∃ P, P = W.heap.size := ⟨_, rfl⟩
  have B1 : Below W.heap.size W w1 := by rw [hw1]; exact below_alloc _ _
  have X1 : w1.heap[P]? = some (.cells (ansR 0 true v dn h pp m pc ct) 32 (0, 0)) := by rw [hw1, hP]; exact heap_alloc_new _ _
  have HW1 := keepH hw1
  have HP := keepH hP
  have HB1 := keepH B1
  have HX1 := keepH X1
  have c0 : w1.cell? ⟨P, 0, none⟩ = _ := cell_of X1 0
  have c1 : w1.cell? ⟨P, 1, none⟩ = _ := cell_of X1 1
  have c2 : w1.cell? ⟨P, 2, none⟩ = _ := cell_of X1 2
  have c3 : w1.cell? ⟨P, 3, none⟩ = _ := cell_of X1 3
  have c4 : w1.cell? ⟨P, 4, none⟩ = _ := cell_of X1 4
  have c5 : w1.cell? ⟨P, 5, none⟩ = _ := cell_of X1 5
  have c6 : w1.cell? ⟨P, 6, none⟩ = _ := cell_of X1 6
  clear hw1 hP B1 X1
  go_enter Tryz.func14, Tryz.ntmps14
  go_upto_region 1 with fail
  rw [← HW1.out, ← HP.out]
  go_wp2_with fail
  refine (HD.out w1 HB1.out).mono ?_
  rintro e' w2 ⟨rfl, B2⟩
  have HB2 := keepH (below_chain HB1.out B2)
  have HX2 := keepH (heap_below HX1.out B2)
  clear B2 c0 c1 c2 c3 c4 c5 c6
  have c0 : w2.cell? ⟨P, 0, none⟩ = _ := cell_of HX2.out 0
  have c1 : w2.cell? ⟨P, 1, none⟩ = _ := cell_of HX2.out 1
  have c2 : w2.cell? ⟨P, 2, none⟩ = _ := cell_of HX2.out 2
  have c3 : w2.cell? ⟨P, 3, none⟩ = _ := cell_of HX2.out 3
  have c4 : w2.cell? ⟨P, 4, none⟩ = _ := cell_of HX2.out 4
  have c5 : w2.cell? ⟨P, 5, none⟩ = _ := cell_of HX2.out 5
  have c6 : w2.cell? ⟨P, 6, none⟩ = _ := cell_of HX2.out 6
  go_wp2_with fail
  go_ret
  exact ⟨by simp, HB2.out⟩
set_option maxRecDepth 100000 in
set_option maxHeartbeats 4000000 in
theorem da_fnd3f (dn : Bool) (v h : Nat) (pp : Option Addr) (m pc ct : Nat) (hv : isU v) (W : World) (T : Tb W): Calls Tryz.prog 14 #[.int .u8 3, .agg (ansR 0 false v dn h pp m pc ct)] W fun e' W' => e' = .returned (.string (mkS [110, 111, 110, 101])) ∧ Below W.heap.size W W' := by
  have hl := dec_len hv
  have k1 := add_str [102, 111, 117, 110, 100, 32] (Lib.decDigits v) (by simp; omega)
  have k2 := add_str [32] (Lib.decDigits v) (by simp; omega)
  have k3 := add_str [100, 111, 110, 101] ([32] ++ Lib.decDigits v) (by simp; omega)
  have k4 := add_str [100, 111, 110, 101, 32] (Lib.decDigits v) (by simp; omega)
  have HD := keepH (fun w (hb : Below W.heap.size W w) => dNum_any v hv w (T.on hb))
  have HDE := keepH (fun w (hb : Below W.heap.size W w) => dec_any v hv w (T.on hb))
  rw [show mkS [102, 111, 117, 110, 100, 32] = ⟨#[102, 111, 117, 110, 100, 32]⟩ from rfl] at k1
  rw [show mkS [32] = ⟨#[32]⟩ from rfl] at k2
  rw [show mkS [100, 111, 110, 101] = ⟨#[100, 111, 110, 101]⟩ from rfl] at k3
  rw [show mkS [100, 111, 110, 101, 32] = ⟨#[100, 111, 110, 101, 32]⟩ from rfl] at k4
  obtain ⟨s, hs⟩ : ∃ s, s = mkS (Lib.decDigits v) := ⟨_, rfl⟩
  obtain ⟨g1, hg1⟩ : ∃ g, g = mkS ([102, 111, 117, 110, 100, 32] ++ Lib.decDigits v) := ⟨_, rfl⟩
  obtain ⟨g2, hg2⟩ : ∃ g, g = mkS ([32] ++ Lib.decDigits v) := ⟨_, rfl⟩
  obtain ⟨g3, hg3⟩ : ∃ g, g = mkS ([100, 111, 110, 101, 32] ++ Lib.decDigits v) := ⟨_, rfl⟩
  rw [show mkS ([100, 111, 110, 101] ++ ([32] ++ Lib.decDigits v)) = g3 by rw [hg3]; rfl] at k3
  rw [← hs, ← hg1] at k1
  rw [← hs, ← hg2] at k2
  rw [← hg2] at k3
  rw [← hs, ← hg3] at k4
  rw [← hs] at HD HDE
  clear hs hg1 hg2 hg3 hl T hv
  obtain ⟨w1, hw1⟩ : ∃ w1, w1 = W.alloc (.cells (ansR 0 false v dn h pp m pc ct) 32) := ⟨_, rfl⟩
  obtain ⟨P, hP⟩ : ∃ P, P = W.heap.size := ⟨_, rfl⟩
  have B1 : Below W.heap.size W w1 := by rw [hw1]; exact below_alloc _ _
  have X1 : w1.heap[P]? = some (.cells (ansR 0 false v dn h pp m pc ct) 32 (0, 0)) := by rw [hw1, hP]; exact heap_alloc_new _ _
  have HW1 := keepH hw1
  have HP := keepH hP
  have HB1 := keepH B1
  have HX1 := keepH X1
  have c0 : w1.cell? ⟨P, 0, none⟩ = _ := cell_of X1 0
  have c1 : w1.cell? ⟨P, 1, none⟩ = _ := cell_of X1 1
  have c2 : w1.cell? ⟨P, 2, none⟩ = _ := cell_of X1 2
  have c3 : w1.cell? ⟨P, 3, none⟩ = _ := cell_of X1 3
  have c4 : w1.cell? ⟨P, 4, none⟩ = _ := cell_of X1 4
  have c5 : w1.cell? ⟨P, 5, none⟩ = _ := cell_of X1 5
  have c6 : w1.cell? ⟨P, 6, none⟩ = _ := cell_of X1 6
  clear hw1 hP B1 X1
  go_enter Tryz.func14, Tryz.ntmps14
  go_upto_region 1 with fail
  rw [← HW1.out, ← HP.out]
  go_wp2_with fail
  go_ret
  exact ⟨rfl, HB1.out⟩
set_option maxRecDepth 100000 in
set_option maxHeartbeats 4000000 in
theorem da_4tf  (v h : Nat) (pp : Option Addr) (m pc ct : Nat) (hv : isU v) (W : World) (T : Tb W): Calls Tryz.prog 14 #[.int .u8 4, .agg (ansR 0 true v false h pp m pc ct)] W fun e' W' => e' = .returned (.string (mkS ([102, 111, 117, 110, 100, 32] ++ Lib.decDigits v))) ∧ Below W.heap.size W W' := by
  have hl := dec_len hv
  have k1 := add_str [102, 111, 117, 110, 100, 32] (Lib.decDigits v) (by simp; omega)
  have k2 := add_str [32] (Lib.decDigits v) (by simp; omega)
  have k3 := add_str [100, 111, 110, 101] ([32] ++ Lib.decDigits v) (by simp; omega)
  have k4 := add_str [100, 111, 110, 101, 32] (Lib.decDigits v) (by simp; omega)
  have HD := keepH (fun w (hb : Below W.heap.size W w) => dNum_any v hv w (T.on hb))
  have HDE := keepH (fun w (hb : Below W.heap.size W w) => dec_any v hv w (T.on hb))
  rw [show mkS [102, 111, 117, 110, 100, 32] = ⟨#[102, 111, 117, 110, 100, 32]⟩ from rfl] at k1
  rw [show mkS [32] = ⟨#[32]⟩ from rfl] at k2
  rw [show mkS [100, 111, 110, 101] = ⟨#[100, 111, 110, 101]⟩ from rfl] at k3
  rw [show mkS [100, 111, 110, 101, 32] = ⟨#[100, 111, 110, 101, 32]⟩ from rfl] at k4
  obtain ⟨s, hs⟩ : ∃ s, s = mkS (Lib.decDigits v) := ⟨_, rfl⟩
  obtain ⟨g1, hg1⟩ : ∃ g, g = mkS ([102, 111, 117, 110, 100, 32] ++ Lib.decDigits v) := ⟨_, rfl⟩
  obtain ⟨g2, hg2⟩ : ∃ g, g = mkS ([32] ++ Lib.decDigits v) := ⟨_, rfl⟩
  obtain ⟨g3, hg3⟩ : ∃ g, g = mkS ([100, 111, 110, 101, 32] ++ Lib.decDigits v) := ⟨_, rfl⟩
  rw [show mkS ([100, 111, 110, 101] ++ ([32] ++ Lib.decDigits v)) = g3 by rw [hg3]; rfl] at k3
  rw [← hs, ← hg1] at k1
  rw [← hs, ← hg2] at k2
  rw [← hg2] at k3
  rw [← hs, ← hg3] at k4
  rw [← hs] at HD HDE
  rw [← hg1]
  clear hs hg1 hg2 hg3 hl T hv
  obtain ⟨w1, hw1⟩ : ∃ w1, w1 = W.alloc (.cells (ansR 0 true v false h pp m pc ct) 32) := ⟨_, rfl⟩
  obtain ⟨P, hP⟩ : ∃ P, P = W.heap.size := ⟨_, rfl⟩
  have B1 : Below W.heap.size W w1 := by rw [hw1]; exact below_alloc _ _
  have X1 : w1.heap[P]? = some (.cells (ansR 0 true v false h pp m pc ct) 32 (0, 0)) := by rw [hw1, hP]; exact heap_alloc_new _ _
  have HW1 := keepH hw1
  have HP := keepH hP
  have HB1 := keepH B1
  have HX1 := keepH X1
  have c0 : w1.cell? ⟨P, 0, none⟩ = _ := cell_of X1 0
  have c1 : w1.cell? ⟨P, 1, none⟩ = _ := cell_of X1 1
  have c2 : w1.cell? ⟨P, 2, none⟩ = _ := cell_of X1 2
  have c3 : w1.cell? ⟨P, 3, none⟩ = _ := cell_of X1 3
  have c4 : w1.cell? ⟨P, 4, none⟩ = _ := cell_of X1 4
  have c5 : w1.cell? ⟨P, 5, none⟩ = _ := cell_of X1 5
  have c6 : w1.cell? ⟨P, 6, none⟩ = _ := cell_of X1 6
  clear hw1 hP B1 X1
  go_enter Tryz.func14, Tryz.ntmps14
  go_upto_region 1 with fail
  rw [← HW1.out, ← HP.out]
  go_wp2_with fail
  refine (HD.out w1 HB1.out).mono ?_
  rintro e' w2 ⟨rfl, B2⟩
  have HB2 := keepH (below_chain HB1.out B2)
  have HX2 := keepH (heap_below HX1.out B2)
  clear B2 c0 c1 c2 c3 c4 c5 c6
  have c0 : w2.cell? ⟨P, 0, none⟩ = _ := cell_of HX2.out 0
  have c1 : w2.cell? ⟨P, 1, none⟩ = _ := cell_of HX2.out 1
  have c2 : w2.cell? ⟨P, 2, none⟩ = _ := cell_of HX2.out 2
  have c3 : w2.cell? ⟨P, 3, none⟩ = _ := cell_of HX2.out 3
  have c4 : w2.cell? ⟨P, 4, none⟩ = _ := cell_of HX2.out 4
  have c5 : w2.cell? ⟨P, 5, none⟩ = _ := cell_of HX2.out 5
  have c6 : w2.cell? ⟨P, 6, none⟩ = _ := cell_of HX2.out 6
  go_wp2_with fail
  go_ret
  exact ⟨by simp, HB2.out⟩
set_option maxRecDepth 100000 in
set_option maxHeartbeats 4000000 in
theorem da_4ff  (v h : Nat) (pp : Option Addr) (m pc ct : Nat) (hv : isU v) (W : World) (T : Tb W): Calls Tryz.prog 14 #[.int .u8 4, .agg (ansR 0 false v false h pp m pc ct)] W fun e' W' => e' = .returned (.string (mkS [110, 111, 110, 101])) ∧ Below W.heap.size W W' := by
  have hl := dec_len hv
  have k1 := add_str [102, 111, 117, 110, 100, 32] (Lib.decDigits v) (by simp; omega)
  have k2 := add_str [32] (Lib.decDigits v) (by simp; omega)
  have k3 := add_str [100, 111, 110, 101] ([32] ++ Lib.decDigits v) (by simp; omega)
  have k4 := add_str [100, 111, 110, 101, 32] (Lib.decDigits v) (by simp; omega)
  have HD := keepH (fun w (hb : Below W.heap.size W w) => dNum_any v hv w (T.on hb))
  have HDE := keepH (fun w (hb : Below W.heap.size W w) => dec_any v hv w (T.on hb))
  rw [show mkS [102, 111, 117, 110, 100, 32] = ⟨#[102, 111, 117, 110, 100, 32]⟩ from rfl] at k1
  rw [show mkS [32] = ⟨#[32]⟩ from rfl] at k2
  rw [show mkS [100, 111, 110, 101] = ⟨#[100, 111, 110, 101]⟩ from rfl] at k3
  rw [show mkS [100, 111, 110, 101, 32] = ⟨#[100, 111, 110, 101, 32]⟩ from rfl] at k4
  obtain ⟨s, hs⟩ : ∃ s, s = mkS (Lib.decDigits v) := ⟨_, rfl⟩
  obtain ⟨g1, hg1⟩ : ∃ g, g = mkS ([102, 111, 117, 110, 100, 32] ++ Lib.decDigits v) := ⟨_, rfl⟩
  obtain ⟨g2, hg2⟩ : ∃ g, g = mkS ([32] ++ Lib.decDigits v) := ⟨_, rfl⟩
  obtain ⟨g3, hg3⟩ : ∃ g, g = mkS ([100, 111, 110, 101, 32] ++ Lib.decDigits v) := ⟨_, rfl⟩
  rw [show mkS ([100, 111, 110, 101] ++ ([32] ++ Lib.decDigits v)) = g3 by rw [hg3]; rfl] at k3
  rw [← hs, ← hg1] at k1
  rw [← hs, ← hg2] at k2
  rw [← hg2] at k3
  rw [← hs, ← hg3] at k4
  rw [← hs] at HD HDE
  clear hs hg1 hg2 hg3 hl T hv
  obtain ⟨w1, hw1⟩ : ∃ w1, w1 = W.alloc (.cells (ansR 0 false v false h pp m pc ct) 32) := ⟨_, rfl⟩
  obtain ⟨P, hP⟩ : ∃ P, P = W.heap.size := ⟨_, rfl⟩
  have B1 : Below W.heap.size W w1 := by rw [hw1]; exact below_alloc _ _
  have X1 : w1.heap[P]? = some (.cells (ansR 0 false v false h pp m pc ct) 32 (0, 0)) := by rw [hw1, hP]; exact heap_alloc_new _ _
  have HW1 := keepH hw1
  have HP := keepH hP
  have HB1 := keepH B1
  have HX1 := keepH X1
  have c0 : w1.cell? ⟨P, 0, none⟩ = _ := cell_of X1 0
  have c1 : w1.cell? ⟨P, 1, none⟩ = _ := cell_of X1 1
  have c2 : w1.cell? ⟨P, 2, none⟩ = _ := cell_of X1 2
  have c3 : w1.cell? ⟨P, 3, none⟩ = _ := cell_of X1 3
  have c4 : w1.cell? ⟨P, 4, none⟩ = _ := cell_of X1 4
  have c5 : w1.cell? ⟨P, 5, none⟩ = _ := cell_of X1 5
  have c6 : w1.cell? ⟨P, 6, none⟩ = _ := cell_of X1 6
  clear hw1 hP B1 X1
  go_enter Tryz.func14, Tryz.ntmps14
  go_upto_region 1 with fail
  rw [← HW1.out, ← HP.out]
  go_wp2_with fail
  go_ret
  exact ⟨rfl, HB1.out⟩
set_option maxRecDepth 100000 in
set_option maxHeartbeats 4000000 in
theorem da_4tt  (v h : Nat) (pp : Option Addr) (m pc ct : Nat) (hv : isU v) (W : World) (T : Tb W): Calls Tryz.prog 14 #[.int .u8 4, .agg (ansR 0 true v true h pp m pc ct)] W fun e' W' => e' = .returned (.string (mkS ([100, 111, 110, 101, 32] ++ Lib.decDigits v))) ∧ Below W.heap.size W W' := by
  have hl := dec_len hv
  have k1 := add_str [102, 111, 117, 110, 100, 32] (Lib.decDigits v) (by simp; omega)
  have k2 := add_str [32] (Lib.decDigits v) (by simp; omega)
  have k3 := add_str [100, 111, 110, 101] ([32] ++ Lib.decDigits v) (by simp; omega)
  have k4 := add_str [100, 111, 110, 101, 32] (Lib.decDigits v) (by simp; omega)
  have HD := keepH (fun w (hb : Below W.heap.size W w) => dNum_any v hv w (T.on hb))
  have HDE := keepH (fun w (hb : Below W.heap.size W w) => dec_any v hv w (T.on hb))
  rw [show mkS [102, 111, 117, 110, 100, 32] = ⟨#[102, 111, 117, 110, 100, 32]⟩ from rfl] at k1
  rw [show mkS [32] = ⟨#[32]⟩ from rfl] at k2
  rw [show mkS [100, 111, 110, 101] = ⟨#[100, 111, 110, 101]⟩ from rfl] at k3
  rw [show mkS [100, 111, 110, 101, 32] = ⟨#[100, 111, 110, 101, 32]⟩ from rfl] at k4
  obtain ⟨s, hs⟩ : ∃ s, s = mkS (Lib.decDigits v) := ⟨_, rfl⟩
  obtain ⟨g1, hg1⟩ : ∃ g, g = mkS ([102, 111, 117, 110, 100, 32] ++ Lib.decDigits v) := ⟨_, rfl⟩
  obtain ⟨g2, hg2⟩ : ∃ g, g = mkS ([32] ++ Lib.decDigits v) := ⟨_, rfl⟩
  obtain ⟨g3, hg3⟩ : ∃ g, g = mkS ([100, 111, 110, 101, 32] ++ Lib.decDigits v) := ⟨_, rfl⟩
  rw [show mkS ([100, 111, 110, 101] ++ ([32] ++ Lib.decDigits v)) = g3 by rw [hg3]; rfl] at k3
  rw [← hs, ← hg1] at k1
  rw [← hs, ← hg2] at k2
  rw [← hg2] at k3
  rw [← hs, ← hg3] at k4
  rw [← hs] at HD HDE
  rw [← hg3]
  clear hs hg1 hg2 hg3 hl T hv
  obtain ⟨w1, hw1⟩ : ∃ w1, w1 = W.alloc (.cells (ansR 0 true v true h pp m pc ct) 32) := ⟨_, rfl⟩
  obtain ⟨P, hP⟩ : ∃ P, P = W.heap.size := ⟨_, rfl⟩
  have B1 : Below W.heap.size W w1 := by rw [hw1]; exact below_alloc _ _
  have X1 : w1.heap[P]? = some (.cells (ansR 0 true v true h pp m pc ct) 32 (0, 0)) := by rw [hw1, hP]; exact heap_alloc_new _ _
  have HW1 := keepH hw1
  have HP := keepH hP
  have HB1 := keepH B1
  have HX1 := keepH X1
  have c0 : w1.cell? ⟨P, 0, none⟩ = _ := cell_of X1 0
  have c1 : w1.cell? ⟨P, 1, none⟩ = _ := cell_of X1 1
  have c2 : w1.cell? ⟨P, 2, none⟩ = _ := cell_of X1 2
  have c3 : w1.cell? ⟨P, 3, none⟩ = _ := cell_of X1 3
  have c4 : w1.cell? ⟨P, 4, none⟩ = _ := cell_of X1 4
  have c5 : w1.cell? ⟨P, 5, none⟩ = _ := cell_of X1 5
  have c6 : w1.cell? ⟨P, 6, none⟩ = _ := cell_of X1 6
  clear hw1 hP B1 X1
  go_enter Tryz.func14, Tryz.ntmps14
  go_upto_region 1 with fail
  rw [← HW1.out, ← HP.out]
  go_wp2_with fail
  refine (HD.out w1 HB1.out).mono ?_
  rintro e' w2 ⟨rfl, B2⟩
  have HB2 := keepH (below_chain HB1.out B2)
  have HX2 := keepH (heap_below HX1.out B2)
  clear B2 c0 c1 c2 c3 c4 c5 c6
  have c0 : w2.cell? ⟨P, 0, none⟩ = _ := cell_of HX2.out 0
  have c1 : w2.cell? ⟨P, 1, none⟩ = _ := cell_of HX2.out 1
  have c2 : w2.cell? ⟨P, 2, none⟩ = _ := cell_of HX2.out 2
  have c3 : w2.cell? ⟨P, 3, none⟩ = _ := cell_of HX2.out 3
  have c4 : w2.cell? ⟨P, 4, none⟩ = _ := cell_of HX2.out 4
  have c5 : w2.cell? ⟨P, 5, none⟩ = _ := cell_of HX2.out 5
  have c6 : w2.cell? ⟨P, 6, none⟩ = _ := cell_of HX2.out 6
  go_wp2_with fail
  refine (HD.out w2 HB2.out).mono ?_
  rintro e' w3 ⟨rfl, B3⟩
  have HB3 := keepH (below_chain HB2.out B3)
  have HX3 := keepH (heap_below HX2.out B3)
  clear B3 c0 c1 c2 c3 c4 c5 c6
  have c0 : w3.cell? ⟨P, 0, none⟩ = _ := cell_of HX3.out 0
  have c1 : w3.cell? ⟨P, 1, none⟩ = _ := cell_of HX3.out 1
  have c2 : w3.cell? ⟨P, 2, none⟩ = _ := cell_of HX3.out 2
  have c3 : w3.cell? ⟨P, 3, none⟩ = _ := cell_of HX3.out 3
  have c4 : w3.cell? ⟨P, 4, none⟩ = _ := cell_of HX3.out 4
  have c5 : w3.cell? ⟨P, 5, none⟩ = _ := cell_of HX3.out 5
  have c6 : w3.cell? ⟨P, 6, none⟩ = _ := cell_of HX3.out 6
  go_wp2_with fail
  go_ret
  exact ⟨by simp, HB3.out⟩
set_option maxRecDepth 100000 in
set_option maxHeartbeats 4000000 in
theorem da_4ft  (v h : Nat) (pp : Option Addr) (m pc ct : Nat) (hv : isU v) (W : World) (T : Tb W): Calls Tryz.prog 14 #[.int .u8 4, .agg (ansR 0 false v true h pp m pc ct)] W fun e' W' => e' = .returned (.string (mkS ([100, 111, 110, 101, 32] ++ Lib.decDigits v))) ∧ Below W.heap.size W W' := by
  have hl := dec_len hv
  have k1 := add_str [102, 111, 117, 110, 100, 32] (Lib.decDigits v) (by simp; omega)
  have k2 := add_str [32] (Lib.decDigits v) (by simp; omega)
  have k3 := add_str [100, 111, 110, 101] ([32] ++ Lib.decDigits v) (by simp; omega)
  have k4 := add_str [100, 111, 110, 101, 32] (Lib.decDigits v) (by simp; omega)
  have HD := keepH (fun w (hb : Below W.heap.size W w) => dNum_any v hv w (T.on hb))
  have HDE := keepH (fun w (hb : Below W.heap.size W w) => dec_any v hv w (T.on hb))
  rw [show mkS [102, 111, 117, 110, 100, 32] = ⟨#[102, 111, 117, 110, 100, 32]⟩ from rfl] at k1
  rw [show mkS [32] = ⟨#[32]⟩ from rfl] at k2
  rw [show mkS [100, 111, 110, 101] = ⟨#[100, 111, 110, 101]⟩ from rfl] at k3
  rw [show mkS [100, 111, 110, 101, 32] = ⟨#[100, 111, 110, 101, 32]⟩ from rfl] at k4
  obtain ⟨s, hs⟩ : ∃ s, s = mkS (Lib.decDigits v) := ⟨_, rfl⟩
  obtain ⟨g1, hg1⟩ : ∃ g, g = mkS ([102, 111, 117, 110, 100, 32] ++ Lib.decDigits v) := ⟨_, rfl⟩
  obtain ⟨g2, hg2⟩ : ∃ g, g = mkS ([32] ++ Lib.decDigits v) := ⟨_, rfl⟩
  obtain ⟨g3, hg3⟩ : ∃ g, g = mkS ([100, 111, 110, 101, 32] ++ Lib.decDigits v) := ⟨_, rfl⟩
  rw [show mkS ([100, 111, 110, 101] ++ ([32] ++ Lib.decDigits v)) = g3 by rw [hg3]; rfl] at k3
  rw [← hs, ← hg1] at k1
  rw [← hs, ← hg2] at k2
  rw [← hg2] at k3
  rw [← hs, ← hg3] at k4
  rw [← hs] at HD HDE
  rw [← hg3]
  clear hs hg1 hg2 hg3 hl T hv
  obtain ⟨w1, hw1⟩ : ∃ w1, w1 = W.alloc (.cells (ansR 0 false v true h pp m pc ct) 32) := ⟨_, rfl⟩
  obtain ⟨P, hP⟩ : ∃ P, P = W.heap.size := ⟨_, rfl⟩
  have B1 : Below W.heap.size W w1 := by rw [hw1]; exact below_alloc _ _
  have X1 : w1.heap[P]? = some (.cells (ansR 0 false v true h pp m pc ct) 32 (0, 0)) := by rw [hw1, hP]; exact heap_alloc_new _ _
  have HW1 := keepH hw1
  have HP := keepH hP
  have HB1 := keepH B1
  have HX1 := keepH X1
  have c0 : w1.cell? ⟨P, 0, none⟩ = _ := cell_of X1 0
  have c1 : w1.cell? ⟨P, 1, none⟩ = _ := cell_of X1 1
  have c2 : w1.cell? ⟨P, 2, none⟩ = _ := cell_of X1 2
  have c3 : w1.cell? ⟨P, 3, none⟩ = _ := cell_of X1 3
  have c4 : w1.cell? ⟨P, 4, none⟩ = _ := cell_of X1 4
  have c5 : w1.cell? ⟨P, 5, none⟩ = _ := cell_of X1 5
  have c6 : w1.cell? ⟨P, 6, none⟩ = _ := cell_of X1 6
  clear hw1 hP B1 X1
  go_enter Tryz.func14, Tryz.ntmps14
  go_upto_region 1 with fail
  rw [← HW1.out, ← HP.out]
  go_wp2_with fail
  refine (HD.out w1 HB1.out).mono ?_
  rintro e' w2 ⟨rfl, B2⟩
  have HB2 := keepH (below_chain HB1.out B2)
  have HX2 := keepH (heap_below HX1.out B2)
  clear B2 c0 c1 c2 c3 c4 c5 c6
  have c0 : w2.cell? ⟨P, 0, none⟩ = _ := cell_of HX2.out 0
  have c1 : w2.cell? ⟨P, 1, none⟩ = _ := cell_of HX2.out 1
  have c2 : w2.cell? ⟨P, 2, none⟩ = _ := cell_of HX2.out 2
  have c3 : w2.cell? ⟨P, 3, none⟩ = _ := cell_of HX2.out 3
  have c4 : w2.cell? ⟨P, 4, none⟩ = _ := cell_of HX2.out 4
  have c5 : w2.cell? ⟨P, 5, none⟩ = _ := cell_of HX2.out 5
  have c6 : w2.cell? ⟨P, 6, none⟩ = _ := cell_of HX2.out 6
  go_wp2_with fail
  go_ret
  exact ⟨by simp, HB2.out⟩
end Go.Proofs.YtmmaniolaljjlaaGreatDoor
