/- An answer as a line: what was found, what was done. (mkSdc.py) -/
import Derived.Test.YtmmaniolaljjlaaGreatDoorSdb
import Derived.Maps.AppendAt
namespace Go.Proofs.YtmmaniolaljjlaaGreatDoor
open Go.RowKit Go.Shelf
set_option linter.unusedVariables false

set_option maxRecDepth 100000 in
set_option maxHeartbeats 4000000 in
theorem pa_done (f : Bool) (v h : Nat) (pp : Option Addr) (m pc ct : Nat) (hv : isU v) (W : World) (T : Tb W): Calls Tryz.prog 13 #[.int .u8 4, .agg (ansR 0 f v true h pp m pc ct)] W fun e' W' => e' = .returned (.string (mkS ([100, 111, 110, 101, 32] ++ Lib.decDigits v))) ∧ Below W.heap.size W W' := by
  have hl := dec_len hv
  have k1 := add_str [102, 111, 117, 110, 100, 32] (Lib.decDigits v) (by simp; omega)
  have k2 := add_str [32] (Lib.decDigits v) (by simp; omega)
  have k3 := add_str [100, 111, 110, 101] ([32] ++ Lib.decDigits v) (by simp; omega)
  have k4 := add_str [100, 111, 110, 101, 32] (Lib.decDigits v) (by simp; omega)
  have HD := keepH (fun w (hb : Below W.heap.size W w) => dNum_any v hv w (T.on hb))
  have HDE := keepH (fun w (hb : Below W.heap.size W w) => dec_any v hv w (T.on hb))
  rw [show mkS [102, 111, 117, 110, 100, 32] = ⟨#[102, 111, 117, 110, 100, 32]⟩ from rfl] at k1
  rw [show mkS [32] = ⟨#[32]⟩ from rfl] at k2
  rw [show mkS [100, 111, 110, 101] = ⟨#[100, 111, 110, 101]⟩ from rfl] at k3
  rw [show mkS [100, 111, 110, 101, 32] = ⟨#[100, 111, 110, 101, 32]⟩ from rfl] at k4
  obtain ⟨s, hs⟩ : ∃ s, s = mkS (Lib.decDigits v) := ⟨_, rfl⟩
  obtain ⟨g1, hg1⟩ : ∃ g, g = mkS ([102, 111, 117, 110, 100, 32] ++ Lib.decDigits v) := ⟨_, rfl⟩
  obtain ⟨g2, hg2⟩ : ∃ g, g = mkS ([32] ++ Lib.decDigits v) := ⟨_, rfl⟩
  obtain ⟨g3, hg3⟩ : ∃ g, g = mkS ([100, 111, 110, 101, 32] ++ Lib.decDigits v) := ⟨_, rfl⟩
  rw [show mkS ([100, 111, 110, 101] ++ ([32] ++ Lib.decDigits v)) = g3 by rw [hg3]; rfl] at k3
  rw [← hs, ← hg1] at k1
  rw [← hs, ← hg2] at k2
  rw [← hg2] at k3
  rw [← hs, ← hg3] at k4
  rw [← hs] at HD HDE
  rw [← hg3]
  clear hs hg1 hg2 hg3 hl T hv
  obtain ⟨w1, hw1⟩ : ∃ w1, w1 = W.alloc (.cells (ansR 0 f v true h pp m pc ct) 32) := ⟨_, rfl⟩
  obtain ⟨P, hP⟩ : ∃ P, P = W.heap.size := ⟨_, rfl⟩
  have B1 : Below W.heap.size W w1 := by rw [hw1]; exact below_alloc _ _
  have X1 : w1.heap[P]? = some (.cells (ansR 0 f v true h pp m pc ct) 32 (0, 0)) := by rw [hw1, hP]; exact heap_alloc_new _ _
  have HW1 := keepH hw1
  have HP := keepH hP
  have HB1 := keepH B1
  have HX1 := keepH X1
  have c0 : w1.cell? ⟨P, 0, none⟩ = _ := cell_of X1 0
  have c1 : w1.cell? ⟨P, 1, none⟩ = _ := cell_of X1 1
  have c2 : w1.cell? ⟨P, 2, none⟩ = _ := cell_of X1 2
  have c3 : w1.cell? ⟨P, 3, none⟩ = _ := cell_of X1 3
  have c4 : w1.cell? ⟨P, 4, none⟩ = _ := cell_of X1 4
  have c5 : w1.cell? ⟨P, 5, none⟩ = _ := cell_of X1 5
  have c6 : w1.cell? ⟨P, 6, none⟩ = _ := cell_of X1 6
  clear hw1 hP B1 X1
  go_enter Tryz.func13, Tryz.ntmps13
  go_upto_region 1 with fail
  rw [← HW1.out, ← HP.out]
  go_wp2_with fail
  refine (HDE.out w1 HB1.out).mono ?_
  rintro e' w2 ⟨rfl, B2⟩
  have HB2 := keepH (below_chain HB1.out B2)
  have HX2 := keepH (heap_below HX1.out B2)
  clear B2 c0 c1 c2 c3 c4 c5 c6
  have c0 : w2.cell? ⟨P, 0, none⟩ = _ := cell_of HX2.out 0
  have c1 : w2.cell? ⟨P, 1, none⟩ = _ := cell_of HX2.out 1
  have c2 : w2.cell? ⟨P, 2, none⟩ = _ := cell_of HX2.out 2
  have c3 : w2.cell? ⟨P, 3, none⟩ = _ := cell_of HX2.out 3
  have c4 : w2.cell? ⟨P, 4, none⟩ = _ := cell_of HX2.out 4
  have c5 : w2.cell? ⟨P, 5, none⟩ = _ := cell_of HX2.out 5
  have c6 : w2.cell? ⟨P, 6, none⟩ = _ := cell_of HX2.out 6
  go_wp2_with fail
  go_ret
  exact ⟨by simp, HB2.out⟩
set_option maxRecDepth 100000 in
set_option maxHeartbeats 4000000 in
theorem da_fnd1t (dn : Bool) (v h : Nat) (pp : Option Addr) (m pc ct : Nat) (hv : isU v) (W : World) (T : Tb W): Calls Tryz.prog 14 #[.int .u8 1, .agg (ansR 0 true v dn h pp m pc ct)] W fun e' W' => e' = .returned (.string (mkS ([102, 111, 117, 110, 100, 32] ++ Lib.decDigits v))) ∧ Below W.heap.size W W' := by
  have hl := dec_len hv
  have k1 := add_str [102, 111, 117, 110, 100, 32] (Lib.decDigits v) (by simp; omega)
  have k2 := add_str [32] (Lib.decDigits v) (by simp; omega)
  have k3 := add_str [100, 111, 110, 101] ([32] ++ Lib.decDigits v) (by simp; omega)
  have k4 := add_str [100, 111, 110, 101, 32] (Lib.decDigits v) (by simp; omega)
  have HD := keepH (fun w (hb : Below W.heap.size W w) => dNum_any v hv w (T.on hb))
  have HDE := keepH (fun w (hb : Below W.heap.size W w) => dec_any v hv w (T.on hb))
  rw [show mkS [102, 111, 117, 110, 100, 32] = ⟨#[102, 111, 117, 110, 100, 32]⟩ from rfl] at k1
  rw [show mkS [32] = ⟨#[32]⟩ from rfl] at k2
  rw [show mkS [100, 111, 110, 101] = ⟨#[100, 111, 110, 101]⟩ from rfl] at k3
  rw [show mkS [100, 111, 110, 101, 32] = ⟨#[100, 111, 110, 101, 32]⟩ from rfl] at k4
  obtain ⟨s, hs⟩ : ∃ s, s = mkS (Lib.decDigits v) := ⟨_, rfl⟩
  obtain ⟨g1, hg1⟩ : ∃ g, g = mkS ([102, 111, 117, 110, 100, 32] ++ Lib.decDigits v) := ⟨_, rfl⟩
  obtain ⟨g2, hg2⟩ : ∃ g, g = mkS ([32] ++ Lib.decDigits v) := ⟨_, rfl⟩
  obtain ⟨g3, hg3⟩ : ∃ g, g = mkS ([100, 111, 110, 101, 32] ++ Lib.decDigits v) := ⟨_, rfl⟩
  rw [show mkS ([100, 111, 110, 101] ++ ([32] ++ Lib.decDigits v)) = g3 by rw [hg3]; rfl] at k3
  rw [← hs, ← hg1] at k1
  rw [← hs, ← hg2] at k2
  rw [← hg2] at k3
  rw [← hs, ← hg3] at k4
  rw [← hs] at HD HDE
  rw [← hg1]
  clear hs hg1 hg2 hg3 hl T hv
  obtain ⟨w1, hw1⟩ : ∃ w1, w1 = W.alloc (.cells (ansR 0 true v dn h pp m pc ct) 32) := ⟨_, rfl⟩
  obtain ⟨P, hP⟩ : ∃ P, P = W.heap.size := ⟨_, rfl⟩
  have B1 : Below W.heap.size W w1 := by rw [hw1]; exact below_alloc _ _
  have X1 : w1.heap[P]? = some (.cells (ansR 0 true v dn h pp m pc ct) 32 (0, 0)) := by rw [hw1, hP]; exact heap_alloc_new _ _
  have HW1 := keepH hw1
  have HP := keepH hP
  have HB1 := keepH B1
  have HX1 := keepH X1
  have c0 : w1.cell? ⟨P, 0, none⟩ = _ := cell_of X1 0
  have c1 : w1.cell? ⟨P, 1, none⟩ = _ := cell_of X1 1
  have c2 : w1.cell? ⟨P, 2, none⟩ = _ := cell_of X1 2
  have c3 : w1.cell? ⟨P, 3, none⟩ = _ := cell_of X1 3
  have c4 : w1.cell? ⟨P, 4, none⟩ = _ := cell_of X1 4
  have c5 : w1.cell? ⟨P, 5, none⟩ = _ := cell_of X1 5
  have c6 : w1.cell? ⟨P, 6, none⟩ = _ := cell_of X1 6
  clear hw1 hP B1 X1
  go_enter Tryz.func14, Tryz.ntmps14
  go_upto_region 1 with fail
  rw [← HW1.out, ← HP.out]
  go_wp2_with fail
  refine (HD.out w1 HB1.out).mono ?_
  rintro e' w2 ⟨rfl, B2⟩
  have HB2 := keepH (below_chain HB1.out B2)
  have HX2 := keepH (heap_below HX1.out B2)
  clear B2 c0 c1 c2 c3 c4 c5 c6
  have c0 : w2.cell? ⟨P, 0, none⟩ = _ := cell_of HX2.out 0
  have c1 : w2.cell? ⟨P, 1, none⟩ = _ := cell_of HX2.out 1
  have c2 : w2.cell? ⟨P, 2, none⟩ = _ := cell_of HX2.out 2
  have c3 : w2.cell? ⟨P, 3, none⟩ = _ := cell_of HX2.out 3
  have c4 : w2.cell? ⟨P, 4, none⟩ = _ := cell_of HX2.out 4
  have c5 : w2.cell? ⟨P, 5, none⟩ = _ := cell_of HX2.out 5
  have c6 : w2.cell? ⟨P, 6, none⟩ = _ := cell_of HX2.out 6
  go_wp2_with fail
  go_ret
  exact ⟨by simp, HB2.out⟩
set_option maxRecDepth 100000 in
set_option maxHeartbeats 4000000 in
theorem da_fnd1f (dn : Bool) (v h : Nat) (pp : Option Addr) (m pc ct : Nat) (hv : isU v) (W : World) (T : Tb W): Calls Tryz.prog 14 #[.int .u8 1, .agg (ansR 0 false v dn h pp m pc ct)] W fun e' W' => e' = .returned (.string (mkS [110, 111, 110, 101])) ∧ Below W.heap.size W W' := by
  have hl := dec_len hv
  have k1 := add_str [102, 111, 117, 110, 100, 32] (Lib.decDigits v) (by simp; omega)
  have k2 := add_str [32] (Lib.decDigits v) (by simp; omega)
  have k3 := add_str [100, 111, 110, 101] ([32] ++ Lib.decDigits v) (by simp; omega)
  have k4 := add_str [100, 111, 110, 101, 32] (Lib.decDigits v) (by simp; omega)
  have HD := keepH (fun w (hb : Below W.heap.size W w) => dNum_any v hv w (T.on hb))
  have HDE := keepH (fun w (hb : Below W.heap.size W w) => dec_any v hv w (T.on hb))
  rw [show mkS [102, 111, 117, 110, 100, 32] = ⟨#[102, 111, 117, 110, 100, 32]⟩ from rfl] at k1
  rw [show mkS [32] = ⟨#[32]⟩ from rfl] at k2
  rw [show mkS [100, 111, 110, 101] = ⟨#[100, 111, 110, 101]⟩ from rfl] at k3
  rw [show mkS [100, 111, 110, 101, 32] = ⟨#[100, 111, 110, 101, 32]⟩ from rfl] at k4
  obtain ⟨s, hs⟩ : ∃ s, s = mkS (Lib.decDigits v) := ⟨_, rfl⟩
  obtain ⟨g1, hg1⟩ : ∃ g, g = mkS ([102, 111, 117, 110, 100, 32] ++ Lib.decDigits v) := ⟨_, rfl⟩
  obtain ⟨g2, hg2⟩ : ∃ g, g = mkS ([32] ++ Lib.decDigits v) := ⟨_, rfl⟩
  obtain ⟨g3, hg3⟩ : ∃ g, g = mkS ([100, 111, 110, 101, 32] ++ Lib.decDigits v) := ⟨_, rfl⟩
  rw [show mkS ([100, 111, 110, 101] ++ ([32] ++ Lib.decDigits v)) = g3 by rw [hg3]; rfl] at k3
  rw [← hs, ← hg1] at k1
  rw [← hs, ← hg2] at k2
  rw [← hg2] at k3
  rw [← hs, ← hg3] at k4
  rw [← hs] at HD HDE
  clear hs hg1 hg2 hg3 hl T hv
  obtain ⟨w1, hw1⟩ : ∃ w1, w1 = W.alloc (.cells (ansR 0 false v dn h pp m pc ct) 32) := ⟨_, rfl⟩
  obtain ⟨P, hP⟩ : ∃ P, P = W.heap.size := ⟨_, rfl⟩
  have B1 : Below W.heap.size W w1 := by rw [hw1]; exact below_alloc _ _
  have X1 : w1.heap[P]? = some (.cells (ansR 0 false v dn h pp m pc ct) 32 (0, 0)) := by rw [hw1, hP]; exact heap_alloc_new _ _
  have HW1 := keepH hw1
  have HP := keepH hP
  have HB1 := keepH B1
  have HX1 := keepH X1
  have c0 : w1.cell? ⟨P, 0, none⟩ = _ := cell_of X1 0
  have c1 : w1.cell? ⟨P, 1, none⟩ = _ := cell_of X1 1
  have c2 : w1.cell? ⟨P, 2, none⟩ = _ := cell_of X1 2
  have c3 : w1.cell? ⟨P, 3, none⟩ = _ := cell_of X1 3
  have c4 : w1.cell? ⟨P, 4, none⟩ = _ := cell_of X1 4
  have c5 : w1.cell? ⟨P, 5, none⟩ = _ := cell_of X1 5
  have c6 : w1.cell? ⟨P, 6, none⟩ = _ := cell_of X1 6
  clear hw1 hP B1 X1
  go_enter Tryz.func14, Tryz.ntmps14
  go_upto_region 1 with fail
  rw [← HW1.out, ← HP.out]
  go_wp2_with fail
  go_ret
  exact ⟨rfl, HB1.out⟩
set_option maxRecDepth 100000 in
set_option maxHeartbeats 4000000 in
theorem da_fnd2t (dn : Bool) (v h : Nat) (pp : Option Addr) (m pc ct : Nat) (hv : isU v) (W : World) (T : Tb W): Calls Tryz.prog 14 #[.int .u8 2, .agg (ansR 0 true v dn h pp m pc ct)] W fun e' W' => e' = .returned (.string (mkS ([102, 111, 117, 110, 100, 32] ++ Lib.decDigits v))) ∧ Below W.heap.size W W' := by
  have hl := dec_len hv
  have k1 := add_str [102, 111, 117, 110, 100, 32] (Lib.decDigits v) (by simp; omega)
  have k2 := add_str [32] (Lib.decDigits v) (by simp; omega)
  have k3 := add_str [100, 111, 110, 101] ([32] ++ Lib.decDigits v) (by simp; omega)
  have k4 := add_str [100, 111, 110, 101, 32] (Lib.decDigits v) (by simp; omega)
  have HD := keepH (fun w (hb : Below W.heap.size W w) => dNum_any v hv w (T.on hb))
  have HDE := keepH (fun w (hb : Below W.heap.size W w) => dec_any v hv w (T.on hb))
  rw [show mkS [102, 111, 117, 110, 100, 32] = ⟨#[102, 111, 117, 110, 100, 32]⟩ from rfl] at k1
  rw [show mkS [32] = ⟨#[32]⟩ from rfl] at k2
  rw [show mkS [100, 111, 110, 101] = ⟨#[100, 111, 110, 101]⟩ from rfl] at k3
  rw [show mkS [100, 111, 110, 101, 32] = ⟨#[100, 111, 110, 101, 32]⟩ from rfl] at k4
  obtain ⟨s, hs⟩ : ∃ s, s = mkS (Lib.decDigits v) := ⟨_, rfl⟩
  obtain ⟨g1, hg1⟩ : ∃ g, g = mkS ([102, 111, 117, 110, 100, 32] ++ Lib.decDigits v) := ⟨_, rfl⟩
  obtain ⟨g2, hg2⟩ : ∃ g, g = mkS ([32] ++ Lib.decDigits v) := ⟨_, rfl⟩
  obtain ⟨g3, hg3⟩ : ∃ g, g = mkS ([100, 111, 110, 101, 32] ++ Lib.decDigits v) := ⟨_, rfl⟩
  rw [show mkS ([100, 111, 110, 101] ++ ([32] ++ Lib.decDigits v)) = g3 by rw [hg3]; rfl] at k3
  rw [← hs, ← hg1] at k1
  rw [← hs, ← hg2] at k2
  rw [← hg2] at k3
  rw [← hs, ← hg3] at k4
  rw [← hs] at HD HDE
  rw [← hg1]
  clear hs hg1 hg2 hg3 hl T hv
  obtain ⟨w1, hw1⟩ : ∃ w1, w1 = W.alloc (.cells (ansR 0 true v dn h pp m pc ct) 32) := ⟨_, rfl⟩
  obtain ⟨P, hP⟩ : ∃ P, P = W.heap.size := ⟨_, rfl⟩
  have B1 : Below W.heap.size W w1 := by rw [hw1]; exact below_alloc _ _
  have X1 : w1.heap[P]? = some (.cells (ansR 0 true v dn h pp m pc ct) 32 (0, 0)) := by rw [hw1, hP]; exact heap_alloc_new _ _
  have HW1 := keepH hw1
  have HP := keepH hP
  have HB1 := keepH B1
  have HX1 := keepH X1
  have c0 : w1.cell? ⟨P, 0, none⟩ = _ := cell_of X1 0
  have c1 : w1.cell? ⟨P, 1, none⟩ = _ := cell_of X1 1
  have c2 : w1.cell? ⟨P, 2, none⟩ = _ := cell_of X1 2
  have c3 : w1.cell? ⟨P, 3, none⟩ = _ := cell_of X1 3
  have c4 : w1.cell? ⟨P, 4, none⟩ = _ := cell_of X1 4
  have c5 : w1.cell? ⟨P, 5, none⟩ = _ := cell_of X1 5
  have c6 : w1.cell? ⟨P, 6, none⟩ = _ := cell_of X1 6
  clear hw1 hP B1 X1
  go_enter Tryz.func14, Tryz.ntmps14
  go_upto_region 1 with fail
  rw [← HW1.out, ← HP.out]
  go_wp2_with fail
  refine (HD.out w1 HB1.out).mono ?_
  rintro e' w2 ⟨rfl, B2⟩
  have HB2 := keepH (below_chain HB1.out B2)
  have HX2 := keepH (heap_below HX1.out B2)
  clear B2 c0 c1 c2 c3 c4 c5 c6
  have c0 : w2.cell? ⟨P, 0, none⟩ = _ := cell_of HX2.out 0
  have c1 : w2.cell? ⟨P, 1, none⟩ = _ := cell_of HX2.out 1
  have c2 : w2.cell? ⟨P, 2, none⟩ = _ := cell_of HX2.out 2
  have c3 : w2.cell? ⟨P, 3, none⟩ = _ := cell_of HX2.out 3
  have c4 : w2.cell? ⟨P, 4, none⟩ = _ := cell_of HX2.out 4
  have c5 : w2.cell? ⟨P, 5, none⟩ = _ := cell_of HX2.out 5
  have c6 : w2.cell? ⟨P, 6, none⟩ = _ := cell_of HX2.out 6
  go_wp2_with fail
  go_ret
  exact ⟨by simp, HB2.out⟩
set_option maxRecDepth 100000 in
set_option maxHeartbeats 4000000 in
theorem da_fnd2f (dn : Bool) (v h : Nat) (pp : Option Addr) (m pc ct : Nat) (hv : isU v) (W : World) (T : Tb W): Calls Tryz.prog 14 #[.int .u8 2, .agg (ansR 0 false v dn h pp m pc ct)] W fun e' W' => e' = .returned (.string (mkS [110, 111, 110, 101])) ∧ Below W.heap.size W W' := by
  have hl := dec_len hv
  have k1 := add_str [102, 111, 117, 110, 100, 32] (Lib.decDigits v) (by simp; omega)
  have k2 := add_str [32] (Lib.decDigits v) (by simp; omega)
  have k3 := add_str [100, 111, 110, 101] ([32] ++ Lib.decDigits v) (by simp; omega)
  have k4 := add_str [100, 111, 110, 101, 32] (Lib.decDigits v) (by simp; omega)
  have HD := keepH (fun w (hb : Below W.heap.size W w) => dNum_any v hv w (T.on hb))
  have HDE := keepH (fun w (hb : Below W.heap.size W w) => dec_any v hv w (T.on hb))
  rw [show mkS [102, 111, 117, 110, 100, 32] = ⟨#[102, 111, 117, 110, 100, 32]⟩ from rfl] at k1
  rw [show mkS [32] = ⟨#[32]⟩ from rfl] at k2
  rw [show mkS [100, 111, 110, 101] = ⟨#[100, 111, 110, 101]⟩ from rfl] at k3
  rw [show mkS [100, 111, 110, 101, 32] = ⟨#[100, 111, 110, 101, 32]⟩ from rfl] at k4
  obtain ⟨s, hs⟩ : ∃ s, s = mkS (Lib.decDigits v) := ⟨_, rfl⟩
  obtain ⟨g1, hg1⟩ : ∃ g, g = mkS ([102, 111, 117, 110, 100, 32] ++ Lib.decDigits v) := ⟨_, rfl⟩
  obtain ⟨g2, hg2⟩ : ∃ g, g = mkS ([32] ++ Lib.decDigits v) := ⟨_, rfl⟩
  obtain ⟨g3, hg3⟩ : ∃ g, g = mkS ([100, 111, 110, 101, 32] ++ Lib.decDigits v) := ⟨_, rfl⟩
  rw [show mkS ([100, 111, 110, 101] ++ ([32] ++ Lib.decDigits v)) = g3 by rw [hg3]; rfl] at k3
  rw [← hs, ← hg1] at k1
  rw [← hs, ← hg2] at k2
  rw [← hg2] at k3
  rw [← hs, ← hg3] at k4
  rw [← hs] at HD HDE
  clear hs hg1 hg2 hg3 hl T hv
  obtain ⟨w1, hw1⟩ : ∃ w1, w1 = W.alloc (.cells (ansR 0 false v dn h pp m pc ct) 32) := ⟨_, rfl⟩
  obtain ⟨P, hP⟩ : ∃ P, P = W.heap.size := ⟨_, rfl⟩
  have B1 : Below W.heap.size W w1 := by rw [hw1]; exact below_alloc _ _
  have X1 : w1.heap[P]? = some (.cells (ansR 0 false v dn h pp m pc ct) 32 (0, 0)) := by rw [hw1, hP]; exact heap_alloc_new _ _
  have HW1 := keepH hw1
  have HP := keepH hP
  have HB1 := keepH B1
  have HX1 := keepH X1
  have c0 : w1.cell? ⟨P, 0, none⟩ = _ := cell_of X1 0
  have c1 : w1.cell? ⟨P, 1, none⟩ = _ := cell_of X1 1
  have c2 : w1.cell? ⟨P, 2, none⟩ = _ := cell_of X1 2
  have c3 : w1.cell? ⟨P, 3, none⟩ = _ := cell_of X1 3
  have c4 : w1.cell? ⟨P, 4, none⟩ = _ := cell_of X1 4
  have c5 : w1.cell? ⟨P, 5, none⟩ = _ := cell_of X1 5
  have c6 : w1.cell? ⟨P, 6, none⟩ = _ := cell_of X1 6
  clear hw1 hP B1 X1
  go_enter Tryz.func14, Tryz.ntmps14
  go_upto_region 1 with fail
  rw [← HW1.out, ← HP.out]
  go_wp2_with fail
  go_ret
  exact ⟨rfl, HB1.out⟩
set_option maxRecDepth 100000 in
set_option maxHeartbeats 4000000 in
theorem da_fnd3t (dn : Bool) (v h : Nat) (pp : Option Addr) (m pc ct : Nat) (hv : isU v) (W : World) (T : Tb W): Calls Tryz.prog 14 #[.int .u8 3, .agg (ansR 0 true v dn h pp m pc ct)] W fun e' W' => e' = .returned (.string (mkS ([102, 111, 117, 110, 100, 32] ++ Lib.decDigits v))) ∧ Below W.heap.size W W' := by
  have hl := dec_len hv
  have k1 := add_str [102, 111, 117, 110, 100, 32] (Lib.decDigits v) (by simp; omega)
  have k2 := add_str [32] (Lib.decDigits v) (by simp; omega)
  have k3 := add_str [100, 111, 110, 101] ([32] ++ Lib.decDigits v) (by simp; omega)
  have k4 := add_str [100, 111, 110, 101, 32] (Lib.decDigits v) (by simp; omega)
  have HD := keepH (fun w (hb : Below W.heap.size W w) => dNum_any v hv w (T.on hb))
  have HDE := keepH (fun w (hb : Below W.heap.size W w) => dec_any v hv w (T.on hb))
  rw [show mkS [102, 111, 117, 110, 100, 32] = ⟨#[102, 111, 117, 110, 100, 32]⟩ from rfl] at k1
  rw [show mkS [32] = ⟨#[32]⟩ from rfl] at k2
  rw [show mkS [100, 111, 110, 101] = ⟨#[100, 111, 110, 101]⟩ from rfl] at k3
  rw [show mkS [100, 111, 110, 101, 32] = ⟨#[100, 111, 110, 101, 32]⟩ from rfl] at k4
  obtain ⟨s, hs⟩ : ∃ s, s = mkS (Lib.decDigits v) := ⟨_, rfl⟩
  obtain ⟨g1, hg1⟩ : ∃ g, g = mkS ([102, 111, 117, 110, 100, 32] ++ Lib.decDigits v) := ⟨_, rfl⟩
  obtain ⟨g2, hg2⟩ : ∃ g, g = mkS ([32] ++ Lib.decDigits v) := ⟨_, rfl⟩
  obtain ⟨g3, hg3⟩ : ∃ g, g = mkS ([100, 111, 110, 101, 32] ++ Lib.decDigits v) := ⟨_, rfl⟩
  rw [show mkS ([100, 111, 110, 101] ++ ([32] ++ Lib.decDigits v)) = g3 by rw [hg3]; rfl] at k3
  rw [← hs, ← hg1] at k1
  rw [← hs, ← hg2] at k2
  rw [← hg2] at k3
  rw [← hs, ← hg3] at k4
  rw [← hs] at HD HDE
  rw [← hg1]
  clear hs hg1 hg2 hg3 hl T hv
  obtain ⟨w1, hw1⟩ : ∃ w1, w1 = W.alloc (.cells (ansR 0 true v dn h pp m pc ct) 32) := ⟨_, rfl⟩
  obtain ⟨P, hP⟩ : ∃ P, P = W.heap.size := ⟨_, rfl⟩
  have B1 : Below W.heap.size W w1 := by rw [hw1]; exact below_alloc _ _
  have X1 : w1.heap[P]? = some (.cells (ansR 0 true v dn h pp m pc ct) 32 (0, 0)) := by rw [hw1, hP]; exact heap_alloc_new _ _
  have HW1 := keepH hw1
  have HP := keepH hP
  have HB1 := keepH B1
  have HX1 := keepH X1
  have c0 : w1.cell? ⟨P, 0, none⟩ = _ := cell_of X1 0
  have c1 : w1.cell? ⟨P, 1, none⟩ = _ := cell_of X1 1
  have c2 : w1.cell? ⟨P, 2, none⟩ = _ := cell_of X1 2
  have c3 : w1.cell? ⟨P, 3, none⟩ = _ := cell_of X1 3
  have c4 : w1.cell? ⟨P, 4, none⟩ = _ := cell_of X1 4
  have c5 : w1.cell? ⟨P, 5, none⟩ = _ := cell_of X1 5
  have c6 : w1.cell? ⟨P, 6, none⟩ = _ := cell_of X1 6
  clear hw1 hP B1 X1
  go_enter Tryz.func14, Tryz.ntmps14
  go_upto_region 1 with fail
  rw [← HW1.out, ← HP.out]
  go_wp2_with fail
  refine (HD.out w1 HB1.out).mono ?_
  rintro e' w2 ⟨rfl, B2⟩
  have HB2 := keepH (below_chain HB1.out B2)
  have HX2 := keepH (heap_below HX1.out B2)
  clear B2 c0 c1 c2 c3 c4 c5 c6
  have c0 : w2.cell? ⟨P, 0, none⟩ = _ := cell_of HX2.out 0
  have c1 : w2.cell? ⟨P, 1, none⟩ = _ := cell_of HX2.out 1
  have c2 : w2.cell? ⟨P, 2, none⟩ = _ := cell_of HX2.out 2
  have c3 : w2.cell? ⟨P, 3, none⟩ = _ := cell_of HX2.out 3
  have c4 : w2.cell? ⟨P, 4, none⟩ = _ := cell_of HX2.out 4
  have c5 : w2.cell? ⟨P, 5, none⟩ = _ := cell_of HX2.out 5
  have c6 : w2.cell? ⟨P, 6, none⟩ = _ := cell_of HX2.out 6
  go_wp2_with fail
  go_ret
  exact ⟨by simp, HB2.out⟩
set_option maxRecDepth 100000 in
set_option maxHeartbeats 4000000 in
theorem da_fnd3f (dn : Bool) (v h : Nat) (pp : Option Addr) (m pc ct : Nat) (hv : isU v) (W : World) (T : Tb W): Calls Tryz.prog 14 #[.int .u8 3, .agg (ansR 0 false v dn h pp m pc ct)] W fun e' W' => e' = .returned (.string (mkS [110, 111, 110, 101])) ∧ Below W.heap.size W W' := by
  have hl := dec_len hv
  have k1 := add_str [102, 111, 117, 110, 100, 32] (Lib.decDigits v) (by simp; omega)
  have k2 := add_str [32] (Lib.decDigits v) (by simp; omega)
  have k3 := add_str [100, 111, 110, 101] ([32] ++ Lib.decDigits v) (by simp; omega)
  have k4 := add_str [100, 111, 110, 101, 32] (Lib.decDigits v) (by simp; omega)
  have HD := keepH (fun w (hb : Below W.heap.size W w) => dNum_any v hv w (T.on hb))
  have HDE := keepH (fun w (hb : Below W.heap.size W w) => dec_any v hv w (T.on hb))
  rw [show mkS [102, 111, 117, 110, 100, 32] = ⟨#[102, 111, 117, 110, 100, 32]⟩ from rfl] at k1
  rw [show mkS [32] = ⟨#[32]⟩ from rfl] at k2
  rw [show mkS [100, 111, 110, 101] = ⟨#[100, 111, 110, 101]⟩ from rfl] at k3
  rw [show mkS [100, 111, 110, 101, 32] = ⟨#[100, 111, 110, 101, 32]⟩ from rfl] at k4
  obtain ⟨s, hs⟩ : ∃ s, s = mkS (Lib.decDigits v) := ⟨_, rfl⟩
  obtain ⟨g1, hg1⟩ : ∃ g, g = mkS ([102, 111, 117, 110, 100, 32] ++ Lib.decDigits v) := ⟨_, rfl⟩
  obtain ⟨g2, hg2⟩ : ∃ g, g = mkS ([32] ++ Lib.decDigits v) := ⟨_, rfl⟩
  obtain ⟨g3, hg3⟩ : ∃ g, g = mkS ([100, 111, 110, 101, 32] ++ Lib.decDigits v) := ⟨_, rfl⟩
  rw [show mkS ([100, 111, 110, 101] ++ ([32] ++ Lib.decDigits v)) = g3 by rw [hg3]; rfl] at k3
  rw [← hs, ← hg1] at k1
  rw [← hs, ← hg2] at k2
  rw [← hg2] at k3
  rw [← hs, ← hg3] at k4
  rw [← hs] at HD HDE
  clear hs hg1 hg2 hg3 hl T hv
  obtain ⟨w1, hw1⟩ : ∃ w1, w1 = W.alloc (.cells (ansR 0 false v dn h pp m pc ct) 32) := ⟨_, rfl⟩
  obtain ⟨P, hP⟩ : ∃ P, P = W.heap.size := ⟨_, rfl⟩
  have B1 : Below W.heap.size W w1 := by rw [hw1]; exact below_alloc _ _
  have X1 : w1.heap[P]? = some (.cells (ansR 0 false v dn h pp m pc ct) 32 (0, 0)) := by rw [hw1, hP]; exact heap_alloc_new _ _
  have HW1 := keepH hw1
  have HP := keepH hP
  have HB1 := keepH B1
  have HX1 := keepH X1
  have c0 : w1.cell? ⟨P, 0, none⟩ = _ := cell_of X1 0
  have c1 : w1.cell? ⟨P, 1, none⟩ = _ := cell_of X1 1
  have c2 : w1.cell? ⟨P, 2, none⟩ = _ := cell_of X1 2
  have c3 : w1.cell? ⟨P, 3, none⟩ = _ := cell_of X1 3
  have c4 : w1.cell? ⟨P, 4, none⟩ = _ := cell_of X1 4
  have c5 : w1.cell? ⟨P, 5, none⟩ = _ := cell_of X1 5
  have c6 : w1.cell? ⟨P, 6, none⟩ = _ := cell_of X1 6
  clear hw1 hP B1 X1
  go_enter Tryz.func14, Tryz.ntmps14
  go_upto_region 1 with fail
  rw [← HW1.out, ← HP.out]
  go_wp2_with fail
  go_ret
  exact ⟨rfl, HB1.out⟩
set_option maxRecDepth 100000 in
set_option maxHeartbeats 4000000 in
theorem da_4tf  (v h : Nat) (pp : Option Addr) (m pc ct : Nat) (hv : isU v) (W : World) (T : Tb W): Calls Tryz.prog 14 #[.int .u8 4, .agg (ansR 0 true v false h pp m pc ct)] W fun e' W' => e' = .returned (.string (mkS ([102, 111, 117, 110, 100, 32] ++ Lib.decDigits v))) ∧ Below W.heap.size W W' := by
  have hl := dec_len hv
  have k1 := add_str [102, 111, 117, 110, 100, 32] (Lib.decDigits v) (by simp; omega)
  have k2 := add_str [32] (Lib.decDigits v) (by simp; omega)
  have k3 := add_str [100, 111, 110, 101] ([32] ++ Lib.decDigits v) (by simp; omega)
  have k4 := add_str [100, 111, 110, 101, 32] (Lib.decDigits v) (by simp; omega)
  have HD := keepH (fun w (hb : Below W.heap.size W w) => dNum_any v hv w (T.on hb))
  have HDE := keepH (fun w (hb : Below W.heap.size W w) => dec_any v hv w (T.on hb))
  rw [show mkS [102, 111, 117, 110, 100, 32] = ⟨#[102, 111, 117, 110, 100, 32]⟩ from rfl] at k1
  rw [show mkS [32] = ⟨#[32]⟩ from rfl] at k2
  rw [show mkS [100, 111, 110, 101] = ⟨#[100, 111, 110, 101]⟩ from rfl] at k3
  rw [show mkS [100, 111, 110, 101, 32] = ⟨#[100, 111, 110, 101, 32]⟩ from rfl] at k4
  obtain ⟨s, hs⟩ : ∃ s, s = mkS (Lib.decDigits v) := ⟨_, rfl⟩
  obtain ⟨g1, hg1⟩ : ∃ g, g = mkS ([102, 111, 117, 110, 100, 32] ++ Lib.decDigits v) := ⟨_, rfl⟩
  obtain ⟨g2, hg2⟩ : ∃ g, g = mkS ([32] ++ Lib.decDigits v) := ⟨_, rfl⟩
  obtain ⟨g3, hg3⟩ : ∃ g, g = mkS ([100, 111, 110, 101, 32] ++ Lib.decDigits v) := ⟨_, rfl⟩
  rw [show mkS ([100, 111, 110, 101] ++ ([32] ++ Lib.decDigits v)) = g3 by rw [hg3]; rfl] at k3
  rw [← hs, ← hg1] at k1
  rw [← hs, ← hg2] at k2
  rw [← hg2] at k3
  rw [← hs, ← hg3] at k4
  rw [← hs] at HD HDE
  rw [← hg1]
  clear hs hg1 hg2 hg3 hl T hv
  obtain ⟨w1, hw1⟩ : ∃ w1, w1 = W.alloc (.cells (ansR 0 true v false h pp m pc ct) 32) := ⟨_, rfl⟩
  obtain ⟨P, hP⟩ : ∃ P, P = W.heap.size := ⟨_, rfl⟩
  have B1 : Below W.heap.size W w1 := by rw [hw1]; exact below_alloc _ _
  have X1 : w1.heap[P]? = some (.cells (ansR 0 true v false h pp m pc ct) 32 (0, 0)) := by rw [hw1, hP]; exact heap_alloc_new _ _
  have HW1 := keepH hw1
  have HP := keepH hP
  have HB1 := keepH B1
  have HX1 := keepH X1
  have c0 : w1.cell? ⟨P, 0, none⟩ = _ := cell_of X1 0
  have c1 : w1.cell? ⟨P, 1, none⟩ = _ := cell_of X1 1
  have c2 : w1.cell? ⟨P, 2, none⟩ = _ := cell_of X1 2
  have c3 : w1.cell? ⟨P, 3, none⟩ = _ := cell_of X1 3
  have c4 : w1.cell? ⟨P, 4, none⟩ = _ := cell_of X1 4
  have c5 : w1.cell? ⟨P, 5, none⟩ = _ := cell_of X1 5
  have c6 : w1.cell? ⟨P, 6, none⟩ = _ := cell_of X1 6
  clear hw1 hP B1 X1
  go_enter Tryz.func14, Tryz.ntmps14
  go_upto_region 1 with fail
  rw [← HW1.out, ← HP.out]
  go_wp2_with fail
  refine (HD.out w1 HB1.out).mono ?_
  rintro e' w2 ⟨rfl, B2⟩
  have HB2 := keepH (below_chain HB1.out B2)
  have HX2 := keepH (heap_below HX1.out B2)
  clear B2 c0 c1 c2 c3 c4 c5 c6
  have c0 : w2.cell? ⟨P, 0, none⟩ = _ := cell_of HX2.out 0
  have c1 : w2.cell? ⟨P, 1, none⟩ = _ := cell_of HX2.out 1
  have c2 : w2.cell? ⟨P, 2, none⟩ = _ := cell_of HX2.out 2
  have c3 : w2.cell? ⟨P, 3, none⟩ = _ := cell_of HX2.out 3
  have c4 : w2.cell? ⟨P, 4, none⟩ = _ := cell_of HX2.out 4
  have c5 : w2.cell? ⟨P, 5, none⟩ = _ := cell_of HX2.out 5
  have c6 : w2.cell? ⟨P, 6, none⟩ = _ := cell_of HX2.out 6
  go_wp2_with fail
  go_ret
  exact ⟨by simp, HB2.out⟩
set_option maxRecDepth 100000 in
set_option maxHeartbeats 4000000 in
theorem da_4ff  (v h : Nat) (pp : Option Addr) (m pc ct : Nat) (hv : isU v) (W : World) (T : Tb W): Calls Tryz.prog 14 #[.int .u8 4, .agg (ansR 0 false v false h pp m pc ct)] W fun e' W' => e' = .returned (.string (mkS [110, 111, 110, 101])) ∧ Below W.heap.size W W' := by
  have hl := dec_len hv
  have k1 := add_str [102, 111, 117, 110, 100, 32] (Lib.decDigits v) (by simp; omega)
  have k2 := add_str [32] (Lib.decDigits v) (by simp; omega)
  have k3 := add_str [100, 111, 110, 101] ([32] ++ Lib.decDigits v) (by simp; omega)
  have k4 := add_str [100, 111, 110, 101, 32] (Lib.decDigits v) (by simp; omega)
  have HD := keepH (fun w (hb : Below W.heap.size W w) => dNum_any v hv w (T.on hb))
  have HDE := keepH (fun w (hb : Below W.heap.size W w) => dec_any v hv w (T.on hb))
  rw [show mkS [102, 111, 117, 110, 100, 32] = ⟨#[102, 111, 117, 110, 100, 32]⟩ from rfl] at k1
  rw [show mkS [32] = ⟨#[32]⟩ from rfl] at k2
  rw [show mkS [100, 111, 110, 101] = ⟨#[100, 111, 110, 101]⟩ from rfl] at k3
  rw [show mkS [100, 111, 110, 101, 32] = ⟨#[100, 111, 110, 101, 32]⟩ from rfl] at k4
  obtain ⟨s, hs⟩ : ∃ s, s = mkS (Lib.decDigits v) := ⟨_, rfl⟩
  obtain ⟨g1, hg1⟩ : ∃ g, g = mkS ([102, 111, 117, 110, 100, 32] ++ Lib.decDigits v) := ⟨_, rfl⟩
  obtain ⟨g2, hg2⟩ : ∃ g, g = mkS ([32] ++ Lib.decDigits v) := ⟨_, rfl⟩
  obtain ⟨g3, hg3⟩ : ∃ g, g = mkS ([100, 111, 110, 101, 32] ++ Lib.decDigits v) := ⟨_, rfl⟩
  rw [show mkS ([100, 111, 110, 101] ++ ([32] ++ Lib.decDigits v)) = g3 by rw [hg3]; rfl] at k3
  rw [← hs, ← hg1] at k1
  rw [← hs, ← hg2] at k2
  rw [← hg2] at k3
  rw [← hs, ← hg3] at k4
  rw [← hs] at HD HDE
  clear hs hg1 hg2 hg3 hl T hv
  obtain ⟨w1, hw1⟩ : ∃ w1, w1 = W.alloc (.cells (ansR 0 false v false h pp m pc ct) 32) := ⟨_, rfl⟩
  obtain ⟨P, hP⟩ : ∃ P, P = W.heap.size := ⟨_, rfl⟩
  have B1 : Below W.heap.size W w1 := by rw [hw1]; exact below_alloc _ _
  have X1 : w1.heap[P]? = some (.cells (ansR 0 false v false h pp m pc ct) 32 (0, 0)) := by rw [hw1, hP]; exact heap_alloc_new _ _
  have HW1 := keepH hw1
  have HP := keepH hP
  have HB1 := keepH B1
  have HX1 := keepH X1
  have c0 : w1.cell? ⟨P, 0, none⟩ = _ := cell_of X1 0
  have c1 : w1.cell? ⟨P, 1, none⟩ = _ := cell_of X1 1
  have c2 : w1.cell? ⟨P, 2, none⟩ = _ := cell_of X1 2
  have c3 : w1.cell? ⟨P, 3, none⟩ = _ := cell_of X1 3
  have c4 : w1.cell? ⟨P, 4, none⟩ = _ := cell_of X1 4
  have c5 : w1.cell? ⟨P, 5, none⟩ = _ := cell_of X1 5
  have c6 : w1.cell? ⟨P, 6, none⟩ = _ := cell_of X1 6
  clear hw1 hP B1 X1
  go_enter Tryz.func14, Tryz.ntmps14
  go_upto_region 1 with fail
  rw [← HW1.out, ← HP.out]
  go_wp2_with fail
  go_ret
  exact ⟨rfl, HB1.out⟩
set_option maxRecDepth 100000 in
set_option maxHeartbeats 4000000 in
theorem da_4tt  (v h : Nat) (pp : Option Addr) (m pc ct : Nat) (hv : isU v) (W : World) (T : Tb W): Calls Tryz.prog 14 #[.int .u8 4, .agg (ansR 0 true v true h pp m pc ct)] W fun e' W' => e' = .returned (.string (mkS ([100, 111, 110, 101, 32] ++ Lib.decDigits v))) ∧ Below W.heap.size W W' := by
  have hl := dec_len hv
  have k1 := add_str [102, 111, 117, 110, 100, 32] (Lib.decDigits v) (by simp; omega)
  have k2 := add_str [32] (Lib.decDigits v) (by simp; omega)
  have k3 := add_str [100, 111, 110, 101] ([32] ++ Lib.decDigits v) (by simp; omega)
  have k4 := add_str [100, 111, 110, 101, 32] (Lib.decDigits v) (by simp; omega)
  have HD := keepH (fun w (hb : Below W.heap.size W w) => dNum_any v hv w (T.on hb))
  have HDE := keepH (fun w (hb : Below W.heap.size W w) => dec_any v hv w (T.on hb))
  rw [show mkS [102, 111, 117, 110, 100, 32] = ⟨#[102, 111, 117, 110, 100, 32]⟩ from rfl] at k1
  rw [show mkS [32] = ⟨#[32]⟩ from rfl] at k2
  rw [show mkS [100, 111, 110, 101] = ⟨#[100, 111, 110, 101]⟩ from rfl] at k3
  rw [show mkS [100, 111, 110, 101, 32] = ⟨#[100, 111, 110, 101, 32]⟩ from rfl] at k4
  obtain ⟨s, hs⟩ : ∃ s, s = mkS (Lib.decDigits v) := ⟨_, rfl⟩
  obtain ⟨g1, hg1⟩ : ∃ g, g = mkS ([102, 111, 117, 110, 100, 32] ++ Lib.decDigits v) := ⟨_, rfl⟩
  obtain ⟨g2, hg2⟩ : ∃ g, g = mkS ([32] ++ Lib.decDigits v) := ⟨_, rfl⟩
  obtain ⟨g3, hg3⟩ : ∃ g, g = mkS ([100, 111, 110, 101, 32] ++ Lib.decDigits v) := ⟨_, rfl⟩
  rw [show mkS ([100, 111, 110, 101] ++ ([32] ++ Lib.decDigits v)) = g3 by rw [hg3]; rfl] at k3
  rw [← hs, ← hg1] at k1
  rw [← hs, ← hg2] at k2
  rw [← hg2] at k3
  rw [← hs, ← hg3] at k4
  rw [← hs] at HD HDE
  rw [← hg3]
  clear hs hg1 hg2 hg3 hl T hv
  obtain ⟨w1, hw1⟩ : ∃ w1, w1 = W.alloc (.cells (ansR 0 true v true h pp m pc ct) 32) := ⟨_, rfl⟩
  obtain ⟨P, hP⟩ : ∃ P, P = W.heap.size := ⟨_, rfl⟩
  have B1 : Below W.heap.size W w1 := by rw [hw1]; exact below_alloc _ _
  have X1 : w1.heap[P]? = some (.cells (ansR 0 true v true h pp m pc ct) 32 (0, 0)) := by rw [hw1, hP]; exact heap_alloc_new _ _
  have HW1 := keepH hw1
  have HP := keepH hP
  have HB1 := keepH B1
  have HX1 := keepH X1
  have c0 : w1.cell? ⟨P, 0, none⟩ = _ := cell_of X1 0
  have c1 : w1.cell? ⟨P, 1, none⟩ = _ := cell_of X1 1
  have c2 : w1.cell? ⟨P, 2, none⟩ = _ := cell_of X1 2
  have c3 : w1.cell? ⟨P, 3, none⟩ = _ := cell_of X1 3
  have c4 : w1.cell? ⟨P, 4, none⟩ = _ := cell_of X1 4
  have c5 : w1.cell? ⟨P, 5, none⟩ = _ := cell_of X1 5
  have c6 : w1.cell? ⟨P, 6, none⟩ = _ := cell_of X1 6
  clear hw1 hP B1 X1
  go_enter Tryz.func14, Tryz.ntmps14
  go_upto_region 1 with fail
  rw [← HW1.out, ← HP.out]
  go_wp2_with fail
  refine (HD.out w1 HB1.out).mono ?_
  rintro e' w2 ⟨rfl, B2⟩
  have HB2 := keepH (below_chain HB1.out B2)
  have HX2 := keepH (heap_below HX1.out B2)
  clear B2 c0 c1 c2 c3 c4 c5 c6
  have c0 : w2.cell? ⟨P, 0, none⟩ = _ := cell_of HX2.out 0
  have c1 : w2.cell? ⟨P, 1, none⟩ = _ := cell_of HX2.out 1
  have c2 : w2.cell? ⟨P, 2, none⟩ = _ := cell_of HX2.out 2
  have c3 : w2.cell? ⟨P, 3, none⟩ = _ := cell_of HX2.out 3
  have c4 : w2.cell? ⟨P, 4, none⟩ = _ := cell_of HX2.out 4
  have c5 : w2.cell? ⟨P, 5, none⟩ = _ := cell_of HX2.out 5
  have c6 : w2.cell? ⟨P, 6, none⟩ = _ := cell_of HX2.out 6
  go_wp2_with fail
  refine (HD.out w2 HB2.out).mono ?_
  rintro e' w3 ⟨rfl, B3⟩
  have HB3 := keepH (below_chain HB2.out B3)
  have HX3 := keepH (heap_below HX2.out B3)
  clear B3 c0 c1 c2 c3 c4 c5 c6
  have c0 : w3.cell? ⟨P, 0, none⟩ = _ := cell_of HX3.out 0
  have c1 : w3.cell? ⟨P, 1, none⟩ = _ := cell_of HX3.out 1
  have c2 : w3.cell? ⟨P, 2, none⟩ = _ := cell_of HX3.out 2
  have c3 : w3.cell? ⟨P, 3, none⟩ = _ := cell_of HX3.out 3
  have c4 : w3.cell? ⟨P, 4, none⟩ = _ := cell_of HX3.out 4
  have c5 : w3.cell? ⟨P, 5, none⟩ = _ := cell_of HX3.out 5
  have c6 : w3.cell? ⟨P, 6, none⟩ = _ := cell_of HX3.out 6
  go_wp2_with fail
  go_ret
  exact ⟨by simp, HB3.out⟩
set_option maxRecDepth 100000 in
set_option maxHeartbeats 4000000 in
theorem da_4ft  (v h : Nat) (pp : Option Addr) (m pc ct : Nat) (hv : isU v) (W : World) (T : Tb W): Calls Tryz.prog 14 #[.int .u8 4, .agg (ansR 0 false v true h pp m pc ct)] W fun e' W' => e' = .returned (.string (mkS ([100, 111, 110, 101, 32] ++ Lib.decDigits v))) ∧ Below W.heap.size W W' := by
  have hl := dec_len hv
  have k1 := add_str [102, 111, 117, 110, 100, 32] (Lib.decDigits v) (by simp; omega)
  have k2 := add_str [32] (Lib.decDigits v) (by simp; omega)
  have k3 := add_str [100, 111, 110, 101] ([32] ++ Lib.decDigits v) (by simp; omega)
  have k4 := add_str [100, 111, 110, 101, 32] (Lib.decDigits v) (by simp; omega)
  have HD := keepH (fun w (hb : Below W.heap.size W w) => dNum_any v hv w (T.on hb))
  have HDE := keepH (fun w (hb : Below W.heap.size W w) => dec_any v hv w (T.on hb))
  rw [show mkS [102, 111, 117, 110, 100, 32] = ⟨#[102, 111, 117, 110, 100, 32]⟩ from rfl] at k1
  rw [show mkS [32] = ⟨#[32]⟩ from rfl] at k2
  rw [show mkS [100, 111, 110, 101] = ⟨#[100, 111, 110, 101]⟩ from rfl] at k3
  rw [show mkS [100, 111, 110, 101, 32] = ⟨#[100, 111, 110, 101, 32]⟩ from rfl] at k4
  obtain ⟨s, hs⟩ : ∃ s, s = mkS (Lib.decDigits v) := ⟨_, rfl⟩
  obtain ⟨g1, hg1⟩ : ∃ g, g = mkS ([102, 111, 117, 110, 100, 32] ++ Lib.decDigits v) := ⟨_, rfl⟩
  obtain ⟨g2, hg2⟩ : ∃ g, g = mkS ([32] ++ Lib.decDigits v) := ⟨_, rfl⟩
  obtain ⟨g3, hg3⟩ : ∃ g, g = mkS ([100, 111, 110, 101, 32] ++ Lib.decDigits v) := ⟨_, rfl⟩
  rw [show mkS ([100, 111, 110, 101] ++ ([32] ++ Lib.decDigits v)) = g3 by rw [hg3]; rfl] at k3
  rw [← hs, ← hg1] at k1
  rw [← hs, ← hg2] at k2
  rw [← hg2] at k3
  rw [← hs, ← hg3] at k4
  rw [← hs] at HD HDE
  rw [← hg3]
  clear hs hg1 hg2 hg3 hl T hv
  obtain ⟨w1, hw1⟩ : ∃ w1, w1 = W.alloc (.cells (ansR 0 false v true h pp m pc ct) 32) := ⟨_, rfl⟩
  obtain ⟨P, hP⟩ : ∃ P, P = W.heap.size := ⟨_, rfl⟩
  have B1 : Below W.heap.size W w1 := by rw [hw1]; exact below_alloc _ _
  have X1 : w1.heap[P]? = some (.cells (ansR 0 false v true h pp m pc ct) 32 (0, 0)) := by rw [hw1, hP]; exact heap_alloc_new _ _
  have HW1 := keepH hw1
  have HP := keepH hP
  have HB1 := keepH B1
  have HX1 := keepH X1
  have c0 : w1.cell? ⟨P, 0, none⟩ = _ := cell_of X1 0
  have c1 : w1.cell? ⟨P, 1, none⟩ = _ := cell_of X1 1
  have c2 : w1.cell? ⟨P, 2, none⟩ = _ := cell_of X1 2
  have c3 : w1.cell? ⟨P, 3, none⟩ = _ := cell_of X1 3
  have c4 : w1.cell? ⟨P, 4, none⟩ = _ := cell_of X1 4
  have c5 : w1.cell? ⟨P, 5, none⟩ = _ := cell_of X1 5
  have c6 : w1.cell? ⟨P, 6, none⟩ = _ := cell_of X1 6
  clear hw1 hP B1 X1
  go_enter Tryz.func14, Tryz.ntmps14
  go_upto_region 1 with fail
  rw [← HW1.out, ← HP.out]
  go_wp2_with fail
  refine (HD.out w1 HB1.out).mono ?_
  rintro e' w2 ⟨rfl, B2⟩
  have HB2 := keepH (below_chain HB1.out B2)
  have HX2 := keepH (heap_below HX1.out B2)
  clear B2 c0 c1 c2 c3 c4 c5 c6
  have c0 : w2.cell? ⟨P, 0, none⟩ = _ := cell_of HX2.out 0
  have c1 : w2.cell? ⟨P, 1, none⟩ = _ := cell_of HX2.out 1
  have c2 : w2.cell? ⟨P, 2, none⟩ = _ := cell_of HX2.out 2
  have c3 : w2.cell? ⟨P, 3, none⟩ = _ := cell_of HX2.out 3
  have c4 : w2.cell? ⟨P, 4, none⟩ = _ := cell_of HX2.out 4
  have c5 : w2.cell? ⟨P, 5, none⟩ = _ := cell_of HX2.out 5
  have c6 : w2.cell? ⟨P, 6, none⟩ = _ := cell_of HX2.out 6
  go_wp2_with fail
  go_ret
  exact ⟨by simp, HB2.out⟩
end Go.Proofs.YtmmaniolaljjlaaGreatDoor
/- The pairs of an answer as a line, by the program. (mkSdd.py) -/
namespace Go.Proofs.YtmmaniolaljjlaaGreatDoor
open Go.RowKit Go.Shelf Go.Maps
set_option linter.unusedVariables false

theorem step_append_run {P : Program} {ops : Array Oper} {o : Oper} {a : Act} {w : World} {K : Act → World → Prop} {Q : Exit → Act → World → Prop} {E : Prop}
    (hgd : o.guard = none) (s x : Operand) (t : TypeId) (ho : o.op = Op.call { callee := Callee.builtin Builtin.append, args := #[s, x], argTypes := #[t, t] }) (v y v' : Value) (w' : World) (hs : a.eval s = v) (hx : a.eval x = y)
    (hr : (Builtin.append_ #[t, t] o.type #[v, y]).run P w = .ok v' w') (h : K (a.put o.dst v') w') :
    if Region.wanted o (yielded ops a.tmps) = true then Oper.wp P o a w K Q else E := by
  have hw : Region.wanted o (yielded ops a.tmps) = true := by simp [Region.wanted, hgd]
  rw [if_pos hw]
  unfold Oper.wp execOp
  simp only [ho, resolve, invoke, builtin, Sem.run_bind, Sem.run_pure, Result.andThen_ok, List.map_toArray, List.map_cons, List.map_nil, hs, hx, hr]
  exact h
def prT (p : Nat × Nat) : List UInt8 := Lib.decDigits p.1 ++ [58] ++ Lib.decDigits p.2
def prsT (l : List (Nat × Nat)) : List UInt8 := Lib.join ([112, 97, 105, 114, 115] :: l.map prT) [32]
def PRd (W : World) (p : Option Addr) (l : List (Nat × Nat)) : Prop :=
  l = [] ∨ ∃ bk off, p = some ⟨bk, off, none⟩ ∧ bk < W.heap.size ∧ ∀ (i x y : Nat), l[i]? = some (x, y) → W.cell? ⟨bk, off + i * 2, none⟩ = some (.int .u64 (x : Int)) ∧ W.cell? ⟨bk, off + i * 2 + 1, none⟩ = some (.int .u64 (y : Int))
theorem PRd.get {W : World} {p : Option Addr} {l : List (Nat × Nat)} (h : PRd W p l) (i x y : Nat) (hx : l[i]? = some (x, y)) : ∃ bk off, p = some ⟨bk, off, none⟩ ∧ bk < W.heap.size ∧ W.cell? ⟨bk, off + i * 2, none⟩ = some (.int .u64 (x : Int)) ∧ W.cell? ⟨bk, off + i * 2 + 1, none⟩ = some (.int .u64 (y : Int)) := by
  rcases h with rfl | ⟨bk, off, rfl, hb, h⟩
  · simp at hx
  · exact ⟨bk, off, rfl, hb, h i x y hx⟩
theorem PRd.on {W X : World} {p : Option Addr} {l : List (Nat × Nat)} (h : PRd W p l) (hb : Below W.heap.size W X) : PRd X p l := by
  rcases h with rfl | ⟨bk, off, rfl, hl, h⟩
  · exact .inl rfl
  · exact .inr ⟨bk, off, rfl, Nat.lt_of_lt_of_le hl hb.size, fun i x y hx => ⟨cell_below (h i x y hx).1 hb, cell_below (h i x y hx).2 hb⟩⟩
theorem StR.on2 {Z : World} {ls : List (List UInt8)} {v : Value} {wr X : World} (h : StR Z ls v wr) (hb : Below wr.heap.size wr X) : StR Z ls v X := h.on hb
set_option maxRecDepth 100000 in
set_option maxHeartbeats 8000000 in
theorem pairs_any (p : Option Addr) (c : Nat) (l : List (Nat × Nat)) (hl : l.length ≤ 10000000) (hu : ∀ q ∈ l, isU q.1 ∧ isU q.2) (W : World) (T : Tb W) (hP : PRd W p l) :
    Calls Tryz.prog 37 #[.slice p l.length c] W fun e W' => e = .returned (.string (mkS (prsT l))) ∧ Below W.heap.size W W' := by
  have HDC := keepH (fun u (hu : isU u) w (hb : Below W.heap.size W w) => dec_any u hu w (T.on hb))
  have HU := keepH hu
  have HR := keepH hP
  obtain ⟨n, hn⟩ : ∃ n, n = l.length := ⟨_, rfl⟩
  have HN := keepH hn
  rw [← hn] at hl ⊢
  obtain ⟨i0, hi0, hz0, hz1, hz2⟩ := info_parts infoStr
  have HI := keepH hi0
  have HJN := keepH (fun (bk c : Nat) (fs : List (List UInt8)) (w : World) => join_any bk c fs w)
  clear hu hP T hn hi0
  obtain ⟨wa, hwa⟩ : ∃ wa, wa = W.alloc (.cells #[.string ⟨#[112, 97, 105, 114, 115]⟩] 9) := ⟨_, rfl⟩
  have HRa : Hid (StR W [[112, 97, 105, 114, 115]] (.slice (some ⟨W.heap.size, 0, none⟩) 1 1) wa) := keepH (by rw [hwa]; exact StR.one W W (Below.refl _ _) [112, 97, 105, 114, 115])
  have HWA := keepH hwa
  clear hwa
  go_enter Tryz.func37, Tryz.ntmps37
  go_upto_region 2 with fail
  rw [← HWA.out]
  go_wp2_with fail
  go_loopw [3, 9] (fun v s wr => ∃ i : Nat, i ≤ n ∧ s = .int .i64 (i : Int) ∧ Hid (StR W ([112, 97, 105, 114, 115] :: (l.take i).map prT) v wr)) (fun _ s _ => n - (intOf s).toNat)
  case atStart => exact ⟨0, by omega, rfl, keepH (by simpa using HRa.out)⟩
  case round =>
    obtain ⟨i, him, rfl, HST⟩ := hrel
    by_cases hlt : i < n
    · have t1 : (i : Int) < (n : Int) := by omega
      have t0 : (0 : Int) ≤ (i : Int) := by omega
      obtain ⟨⟨x, y⟩, hx⟩ : ∃ q, l[i]? = some q := ⟨l[i]'(by have := HN.out; omega), List.getElem?_eq_getElem _⟩
      obtain ⟨bk, off, rfl, hbk, c0, c1⟩ := (HR.out.on HST.out.bel).get i x y hx
      obtain ⟨hux, huy⟩ := HU.out (x, y) (List.mem_of_getElem? hx)
      simp only at hux huy
      obtain ⟨w2, hw2⟩ : ∃ w2, w2 = wr.alloc (.cells #[.int .u64 (x : Int), .int .u64 (y : Int)] 74) := ⟨_, rfl⟩
      obtain ⟨D, hD⟩ : ∃ D, D = wr.heap.size := ⟨_, rfl⟩
      have A2 : Below wr.heap.size wr w2 := by rw [hw2]; exact below_alloc _ _
      have X2 : w2.heap[D]? = some (.cells #[.int .u64 (x : Int), .int .u64 (y : Int)] 74 (0, 0)) := by rw [hw2, hD]; exact heap_alloc_new _ _
      have HS0 : Hid (w2.drew.cell? ⟨D, 0, none⟩ = some (.int .u64 (x : Int)) ∧ w2.drew.cell? ⟨D, 1, none⟩ = some (.int .u64 (y : Int))) := keepH ⟨cell_of X2 0, cell_of X2 1⟩
      have HA2 := keepH A2
      have HB2 := keepH (below_chain HST.out.bel A2)
      have HD1 := keepH (fun w (hb : Below W.heap.size W w) => HDC.out x hux w hb)
      have HD2 := keepH (fun w (hb : Below W.heap.size W w) => HDC.out y huy w hb)
      have lx := dec_len hux
      have ly := dec_len huy
      have k1 := add_str (Lib.decDigits x) [58] (by simp; omega)
      have k2 := add_str (Lib.decDigits x ++ [58]) (Lib.decDigits y) (by simp; omega)
      rw [show mkS [58] = ⟨#[58]⟩ from rfl] at k1
      obtain ⟨sx, hsx⟩ : ∃ s, s = mkS (Lib.decDigits x) := ⟨_, rfl⟩
      obtain ⟨sy, hsy⟩ : ∃ s, s = mkS (Lib.decDigits y) := ⟨_, rfl⟩
      obtain ⟨g1, hg1⟩ : ∃ s, s = mkS (Lib.decDigits x ++ [58]) := ⟨_, rfl⟩
      obtain ⟨g2, hg2⟩ : ∃ s, s = mkS (Lib.decDigits x ++ [58] ++ Lib.decDigits y) := ⟨_, rfl⟩
      rw [← hsx, ← hg1] at k1
      rw [← hg1, ← hsy, ← hg2] at k2
      rw [← hsx] at HD1
      rw [← hsy] at HD2
      have HG2 : Hid (g2 = mkS (prT (x, y))) := keepH hg2
      obtain ⟨ls, hls⟩ : ∃ ls, ls = [112, 97, 105, 114, 115] :: (l.take i).map prT := ⟨_, rfl⟩
      have HLN : Hid ([112, 97, 105, 114, 115] :: (l.take (i + 1)).map prT = ls ++ [prT (x, y)]) := keepH (by rw [hls, List.take_add_one, hx]; simp)
      rw [← hls] at HST
      obtain ⟨fl, hfl⟩ : ∃ fl, fl = ls.length := ⟨_, rfl⟩
      have hfl2 : fl ≤ 10000001 := by rw [hfl, hls]; simp; omega
      have HFL := keepH hfl
      have HDD := keepH hD
      have HW2 := keepH hw2
      clear hx hux huy hw2 hD A2 X2 lx ly hsx hsy hg1 hg2 hls hfl
      go_upto_region 5 with fail
      rw [← HW2.out, ← HDD.out]
      clear c0 c1
      refine wp_region_held_drew (S := fun w => w.cell? ⟨D, 0, none⟩ = some (.int .u64 (x : Int)) ∧ w.cell? ⟨D, 1, none⟩ = some (.int .u64 (y : Int))) (by kernel_rfl) (HS0.out) ?_
      intro hHeld
      refine wpAnyH_take (i := 0) (v := ?_) rfl (by kernel_rfl) (by kernel_rfl) (by kernel_rfl) (fun _ _ _ h => h) (Or.inl ⟨by rfl, ?_⟩) hHeld ?_
      rotate_left
      · intro w hSw
        (try dsimp only at hSw)
        go_simp
        try with_reducible rfl
      (try simp only [Act.put]); (try simp only [List.setIfInBounds_toArray]); (try simp only [List.getElem_toArray]); (repeat (first | simp only [List.getElem_cons_succ] | simp only [List.getElem_cons_zero])); (repeat (first | simp only [List.set_cons_succ] | simp only [List.set_cons_zero]))
      refine wpAnyH_take (i := 1) (v := ?_) rfl (by kernel_rfl) (by kernel_rfl) (by kernel_rfl) (fun _ _ _ h => h) (Or.inl ⟨by rfl, ?_⟩) hHeld ?_
      rotate_left
      · intro w hSw
        (try dsimp only at hSw)
        go_simp
        try with_reducible rfl
      (try simp only [Act.put]); (try simp only [List.setIfInBounds_toArray]); (try simp only [List.getElem_toArray]); (repeat (first | simp only [List.getElem_cons_succ] | simp only [List.getElem_cons_zero])); (repeat (first | simp only [List.set_cons_succ] | simp only [List.set_cons_zero]))
      refine wpAnyH_take (i := 2) (v := ?_) rfl (by kernel_rfl) (by kernel_rfl) (by kernel_rfl) (fun _ _ _ h => h) (Or.inl ⟨by rfl, ?_⟩) hHeld ?_
      rotate_left
      · intro w hSw
        (try dsimp only at hSw)
        have y0 := hSw.1
        go_simp
        try with_reducible rfl
      (try simp only [Act.put]); (try simp only [List.setIfInBounds_toArray]); (try simp only [List.getElem_toArray]); (repeat (first | simp only [List.getElem_cons_succ] | simp only [List.getElem_cons_zero])); (repeat (first | simp only [List.set_cons_succ] | simp only [List.set_cons_zero]))
      refine wpAnyH_take (i := 5) (v := ?_) rfl (by kernel_rfl) (by kernel_rfl) (by kernel_rfl) (fun _ _ _ h => h) (Or.inl ⟨by rfl, ?_⟩) hHeld ?_
      rotate_left
      · intro w hSw
        (try dsimp only at hSw)
        go_simp
        try with_reducible rfl
      (try simp only [Act.put]); (try simp only [List.setIfInBounds_toArray]); (try simp only [List.getElem_toArray]); (repeat (first | simp only [List.getElem_cons_succ] | simp only [List.getElem_cons_zero])); (repeat (first | simp only [List.set_cons_succ] | simp only [List.set_cons_zero]))
      refine wpAnyH_take (i := 6) (v := ?_) rfl (by kernel_rfl) (by kernel_rfl) (by kernel_rfl) (fun _ _ _ h => h) (Or.inl ⟨by rfl, ?_⟩) hHeld ?_
      rotate_left
      · intro w hSw
        (try dsimp only at hSw)
        have y1 := hSw.2
        go_simp
        try with_reducible rfl
      (try simp only [Act.put]); (try simp only [List.setIfInBounds_toArray]); (try simp only [List.getElem_toArray]); (repeat (first | simp only [List.getElem_cons_succ] | simp only [List.getElem_cons_zero])); (repeat (first | simp only [List.set_cons_succ] | simp only [List.set_cons_zero]))
      refine wpAnyH_ready (rs := [3]) (by kernel_rfl) (by simp) ?_
      refine AllReadyH.cons rfl (fun KK hKK => ?_) AllReadyH.nil
      go_simp
      refine (HD1.out _ (below_drewN HB2.out 1)).mono ?_
      rintro e w3 ⟨rfl, D3⟩
      have HB3 := keepH (below_chain (below_drewN HB2.out 1) D3)
      have HS3 := keepH (HST.out.on2 (below_chain (below_drewN HA2.out 1) D3))
      have hc3 := And.intro (cell_below hHeld.1 D3) (cell_below hHeld.2 D3)
      clear D3
      refine hKK.out _ _ ?_ (fun hHeld => ?_)
      · exact hc3
      clear hKK KK
      (try simp only [Act.put]); (try simp only [List.setIfInBounds_toArray]); (try simp only [List.getElem_toArray]); (repeat (first | simp only [List.getElem_cons_succ] | simp only [List.getElem_cons_zero])); (repeat (first | simp only [List.set_cons_succ] | simp only [List.set_cons_zero]))
      refine wpAnyH_take (i := 4) (v := ?_) rfl (by kernel_rfl) (by kernel_rfl) (by kernel_rfl) (fun _ _ _ h => h) (Or.inl ⟨by rfl, ?_⟩) hHeld ?_
      rotate_left
      · intro w hSw
        (try dsimp only at hSw)
        go_simp
        try with_reducible rfl
      (try simp only [Act.put]); (try simp only [List.setIfInBounds_toArray]); (try simp only [List.getElem_toArray]); (repeat (first | simp only [List.getElem_cons_succ] | simp only [List.getElem_cons_zero])); (repeat (first | simp only [List.set_cons_succ] | simp only [List.set_cons_zero]))
      refine wpAnyH_ready (rs := [7]) (by kernel_rfl) (by simp) ?_
      refine AllReadyH.cons rfl (fun KK hKK => ?_) AllReadyH.nil
      go_simp
      refine (HD2.out _ HB3.out).mono ?_
      rintro e w4 ⟨rfl, D4⟩
      have HB4 := keepH (below_chain HB3.out D4)
      have HS4 := keepH (HS3.out.on D4)
      have hc4 := And.intro (cell_below hHeld.1 D4) (cell_below hHeld.2 D4)
      have HC4 := keepH hc4
      clear D4
      refine hKK.out _ _ ?_ (fun hHeld => ?_)
      · exact hc4
      clear hKK KK
      (try simp only [Act.put]); (try simp only [List.setIfInBounds_toArray]); (try simp only [List.getElem_toArray]); (repeat (first | simp only [List.getElem_cons_succ] | simp only [List.getElem_cons_zero])); (repeat (first | simp only [List.set_cons_succ] | simp only [List.set_cons_zero]))
      refine wpAnyH_take (i := 8) (v := ?_) rfl (by kernel_rfl) (by kernel_rfl) (by kernel_rfl) (fun _ _ _ h => h) (Or.inl ⟨by rfl, ?_⟩) hHeld ?_
      rotate_left
      · intro w hSw
        (try dsimp only at hSw)
        go_simp
        try with_reducible rfl
      (try simp only [Act.put]); (try simp only [List.setIfInBounds_toArray]); (try simp only [List.getElem_toArray]); (repeat (first | simp only [List.getElem_cons_succ] | simp only [List.getElem_cons_zero])); (repeat (first | simp only [List.set_cons_succ] | simp only [List.set_cons_zero]))
      refine wpAnyH_ready (rs := [9]) (by kernel_rfl) (by simp) ?_
      refine AllReadyH.cons rfl (fun KK hKK => ?_) AllReadyH.nil
      go_simp
      refine hKK.out _ _ ?_ (fun hHeld => ?_)
      · exact ⟨cell_below HC4.out.1 (below_alloc _ _), cell_below HC4.out.2 (below_alloc _ _)⟩
      clear hKK KK
      (try simp only [Act.put]); (try simp only [List.setIfInBounds_toArray]); (try simp only [List.getElem_toArray]); (repeat (first | simp only [List.getElem_cons_succ] | simp only [List.getElem_cons_zero])); (repeat (first | simp only [List.set_cons_succ] | simp only [List.set_cons_zero]))
      refine wpAnyH_ready (rs := [10]) (by kernel_rfl) (by simp) ?_
      refine AllReadyH.cons rfl (fun KK hKK => ?_) AllReadyH.nil
      have hi0 := HI.out
      have HRW : Hid (w4.ownsRow 0 9 1 u3 fl (strsRow ls)) := keepH (by rw [HFL.out]; exact HS4.out.row)
      obtain ⟨va, w9, hrun, hrow, hgr, _, hob⟩ := run_append_own_at (P := Tryz.prog) (w4.alloc (.cells #[.string g2] 9)) 0 67 67 9 i0 (.string ⟨#[]⟩) 1 16 Tryz.underlying67 hi0 hz0 hz1 hz2 rfl (by decide) u3 fl (strsRow ls) (HRW.out.alloc _) ⟨w4.heap.size, 0, none⟩ 1 1 [.string g2] rfl (cells_newR _ _ rfl _ _) (by intro u hu; simp at hu; rcases hu with rfl; rfl) (by unfold maxLen; omega) (by omega) (Nat.zero_le _)
      have HNX := keepH (HS4.out.more (r := prT (x, y)) (by rw [← HG2.out, ← HFL.out]; exact hrow) hgr hob)
      have hD9 : w9.heap[D]? = (w4.alloc (.cells #[.string g2] 9)).heap[D]? := hgr.block D (by have hq : D < w4.heap.size := World.block_lt_of_cell? w4 ⟨D, 0, none⟩ HC4.out.1; simp; omega) (fun hq => by have := row_lt HST.out.row D hq.symm; have := HDD.out; omega)
      have hc9 : w9.cell? ⟨D, 0, none⟩ = some (.int .u64 (x : Int)) ∧ w9.cell? ⟨D, 1, none⟩ = some (.int .u64 (y : Int)) := ⟨(World.cell?_of_block (w := w4.alloc (.cells #[.string g2] 9)) hD9).trans (cell_below HC4.out.1 (below_alloc _ _)), (World.cell?_of_block (w := w4.alloc (.cells #[.string g2] 9)) hD9).trans (cell_below HC4.out.2 (below_alloc _ _))⟩
      refine step_append_run rfl (.tmp 13) (.tmp 22) 67 rfl _ _ _ _ rfl rfl hrun ?_
      clear hrun hrow hgr hob hD9
      refine hKK.out _ _ ?_ (fun hHeld => ?_)
      · exact hc9
      clear hKK KK
      (try simp only [Act.put]); (try simp only [List.setIfInBounds_toArray]); (try simp only [List.getElem_toArray]); (repeat (first | simp only [List.getElem_cons_succ] | simp only [List.getElem_cons_zero])); (repeat (first | simp only [List.set_cons_succ] | simp only [List.set_cons_zero]))
      refine wpAnyH_take (i := 11) (v := ?_) rfl (by kernel_rfl) (by kernel_rfl) (by kernel_rfl) (fun _ _ _ h => h) (Or.inl ⟨by rfl, ?_⟩) hHeld ?_
      rotate_left
      · intro w hSw
        (try dsimp only at hSw)
        go_simp
        try with_reducible rfl
      (try simp only [Act.put]); (try simp only [List.setIfInBounds_toArray]); (try simp only [List.getElem_toArray]); (repeat (first | simp only [List.getElem_cons_succ] | simp only [List.getElem_cons_zero])); (repeat (first | simp only [List.set_cons_succ] | simp only [List.set_cons_zero]))
      refine wpAnyH_done (by kernel_rfl) ?_ _
      go_simp
      rw [← HLN.out] at HNX
      go_wp2_with fail
      go_roundw
      case rel => exact ⟨i + 1, by omega, by first | rfl | go_num, HNX⟩
      case measure => simp [intOf]; omega
    · obtain rfl : i = n := by omega
      have t1 : ¬ (i : Int) < (i : Int) := by omega
      have hg := HST.out
      rw [HN.out, List.take_length] at hg
      obtain ⟨g9, c9, hv9, hg9, hc9, hcl9⟩ := hg.slice (by simp)
      have hle : ∀ f ∈ [112, 97, 105, 114, 115] :: l.map prT, f.length ≤ 100 := fun f hf => by
        rcases List.mem_cons.1 hf with rfl | hf
        · simp
        · obtain ⟨q, hq, rfl⟩ := List.mem_map.1 hf
          have h1 := dec_len (HU.out q hq).1
          have h2 := dec_len (HU.out q hq).2
          simp [prT]
          omega
      have hll : ([112, 97, 105, 114, 115] :: l.map prT : List (List UInt8)).length = i + 1 := by simp [HN.out]
      have hjn := HJN.out g9 c9 _ wr hcl9 hg9 (by rw [hll]; omega) hc9 (by have := join_len _ hle; rw [hll] at this; omega)
      rw [hll] at hjn hv9
      rw [show Lib.join ([112, 97, 105, 114, 115] :: l.map prT) [32] = prsT l from rfl] at hjn
      subst hv9
      have HJ2 := keepH hjn
      have HBZ := keepH hg.bel
      clear hjn hcl9 hc9 hg9 hg hle hll
      go_wp2_with fail
      refine HJ2.out.mono ?_
      rintro e wz ⟨rfl, Dz⟩
      have HDZ := keepH (below_chain HBZ.out Dz)
      clear Dz
      go_wp2_with fail
      go_ret
      exact ⟨by simp, HDZ.out⟩
end Go.Proofs.YtmmaniolaljjlaaGreatDoor
