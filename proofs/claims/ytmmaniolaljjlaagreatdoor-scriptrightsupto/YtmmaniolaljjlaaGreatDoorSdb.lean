/- An answer as a line. (mkSdb.py) -/
import Derived.Test.YtmmaniolaljjlaaGreatDoorG13Sej
namespace Go.Proofs.YtmmaniolaljjlaaGreatDoor
open Go.RowKit Go.Shelf
set_option linter.unusedVariables false

abbrev ansR (e : Int) (f : Bool) (v : Nat) (dn : Bool) (h : Nat) (pp : Option Addr) (m pc ct : Nat) : Array Value := #[.int .i64 e, .bool f, .int .u64 (v : Int), .bool dn, .int .u64 (h : Int), .slice pp m pc, .int .u64 (ct : Int)]
def fndT (f : Bool) (v : Nat) : List UInt8 := if f then [102, 111, 117, 110, 100, 32] ++ Lib.decDigits v else [110, 111, 110, 101]
set_option maxRecDepth 100000 in
theorem found_any (e : Int) (f : Bool) (v : Nat) (dn : Bool) (h : Nat) (pp : Option Addr) (m pc ct : Nat) (hv : isU v) (W : World) (T : Tb W) : Calls Tryz.prog 35 #[.agg (ansR e f v dn h pp m pc ct)] W fun e' W' => e' = .returned (.string (mkS (fndT f v))) ∧ Below W.heap.size W W' := by
  have hl := dec_len hv
  have k1 := add_str [102, 111, 117, 110, 100, 32] (Lib.decDigits v) (by simp; omega)
  rw [show mkS [102, 111, 117, 110, 100, 32] = ⟨#[102, 111, 117, 110, 100, 32]⟩ from rfl] at k1
  have HD := keepH (fun w (hb : Below W.heap.size W w) => dec_any v hv w (T.on hb))
  obtain ⟨s, hs⟩ : ∃ s, s = mkS (Lib.decDigits v) := ⟨_, rfl⟩
  obtain ⟨g, hg⟩ : ∃ g, g = mkS ([102, 111, 117, 110, 100, 32] ++ Lib.decDigits v) := ⟨_, rfl⟩
  rw [← hs, ← hg] at k1
  rw [← hs] at HD
  have HG := keepH hg
  clear hs hg hl T hv
  obtain ⟨w1, hw1⟩ : ∃ w1, w1 = W.alloc (.cells (ansR e f v dn h pp m pc ct) 32) := ⟨_, rfl⟩
  obtain ⟨P, hP⟩ : ∃ P, P = W.heap.size := ⟨_, rfl⟩
  have B1 : Below W.heap.size W w1 := by rw [hw1]; exact below_alloc _ _
  have X1 : w1.heap[P]? = some (.cells (ansR e f v dn h pp m pc ct) 32 (0, 0)) := by rw [hw1, hP]; exact heap_alloc_new _ _
  have HW1 := keepH hw1
  have HP := keepH hP
  have HB1 := keepH B1
  have c0 : w1.cell? ⟨P, 0, none⟩ = _ := cell_of X1 0
  have c1 : w1.cell? ⟨P, 1, none⟩ = _ := cell_of X1 1
  have c2 : w1.cell? ⟨P, 2, none⟩ = _ := cell_of X1 2
  have c3 : w1.cell? ⟨P, 3, none⟩ = _ := cell_of X1 3
  have c4 : w1.cell? ⟨P, 4, none⟩ = _ := cell_of X1 4
  have c5 : w1.cell? ⟨P, 5, none⟩ = _ := cell_of X1 5
  have c6 : w1.cell? ⟨P, 6, none⟩ = _ := cell_of X1 6
  clear hw1 hP B1 X1
  cases f with
  | true =>
    rw [show mkS (fndT true v) = g from HG.out.symm]
    go_enter Tryz.func35, Tryz.ntmps35
    go_upto_region 1 with fail
    rw [← HW1.out, ← HP.out]
    go_wp2_with fail
    refine (HD.out w1 HB1.out).mono ?_
    rintro e' w2 ⟨rfl, B2⟩
    have HB2 := keepH (below_chain HB1.out B2)
    clear B2 c0 c1 c2 c3 c4 c5 c6
    go_wp2_with fail
    go_ret
    exact ⟨by simp, HB2.out⟩
  | false =>
    clear k1
    go_enter Tryz.func35, Tryz.ntmps35
    go_upto_region 1 with fail
    rw [← HW1.out, ← HP.out]
    go_wp2_with fail
    go_ret
    exact ⟨rfl, HB1.out⟩
set_option maxRecDepth 100000 in
set_option maxHeartbeats 4000000 in
theorem pa_err (k : Nat) (e : Int) (f : Bool) (v : Nat) (dn : Bool) (h : Nat) (pp : Option Addr) (m pc ct : Nat) (he : e ≠ 0) (hk : k < 256) (he0 : -9223372036854775808 ≤ e ∧ e < 9223372036854775808) (hv : isU v) (hh : isU h) (hct : isU ct) (W : World) (T : Tb W) : Calls Tryz.prog 13 #[.int .u8 (k : Int), .agg (ansR e f v dn h pp m pc ct)] W fun e' W' => e' = .returned (.string (mkS ([101, 114, 114, 110, 111, 32] ++ Lib.itoa e))) ∧ Below W.heap.size W W' := by
  have hl := itoa_len (show isI e from he0)
  have k1 := add_str [101, 114, 114, 110, 111, 32] (Lib.itoa e) (by simp; omega)
  rw [show mkS [101, 114, 114, 110, 111, 32] = ⟨#[101, 114, 114, 110, 111, 32]⟩ from rfl] at k1
  have HD := keepH (fun w (hb : Below W.heap.size W w) => itoa_any e he0.1 he0.2 w (T.on hb))
  obtain ⟨s, hs⟩ : ∃ s, s = mkS (Lib.itoa e) := ⟨_, rfl⟩
  obtain ⟨g, hg⟩ : ∃ g, g = mkS ([101, 114, 114, 110, 111, 32] ++ (Lib.itoa e)) := ⟨_, rfl⟩
  rw [← hs, ← hg] at k1
  rw [← hs] at HD
  rw [← hg]
  have u0 : (e != 0) = true := by simpa using he
  clear hs hg hl T
  obtain ⟨w1, hw1⟩ : ∃ w1, w1 = W.alloc (.cells (ansR e f v dn h pp m pc ct) 32) := ⟨_, rfl⟩
  obtain ⟨P, hP⟩ : ∃ P, P = W.heap.size := ⟨_, rfl⟩
  have B1 : Below W.heap.size W w1 := by rw [hw1]; exact below_alloc _ _
  have X1 : w1.heap[P]? = some (.cells (ansR e f v dn h pp m pc ct) 32 (0, 0)) := by rw [hw1, hP]; exact heap_alloc_new _ _
  have HW1 := keepH hw1
  have HP := keepH hP
  have HB1 := keepH B1
  have c0 : w1.cell? ⟨P, 0, none⟩ = _ := cell_of X1 0
  have c1 : w1.cell? ⟨P, 1, none⟩ = _ := cell_of X1 1
  have c2 : w1.cell? ⟨P, 2, none⟩ = _ := cell_of X1 2
  have c3 : w1.cell? ⟨P, 3, none⟩ = _ := cell_of X1 3
  have c4 : w1.cell? ⟨P, 4, none⟩ = _ := cell_of X1 4
  have c5 : w1.cell? ⟨P, 5, none⟩ = _ := cell_of X1 5
  have c6 : w1.cell? ⟨P, 6, none⟩ = _ := cell_of X1 6
  clear hw1 hP B1 X1
  go_enter Tryz.func13, Tryz.ntmps13
  go_upto_region 1 with fail
  rw [← HW1.out, ← HP.out]
  go_wp2_with fail
  refine (HD.out w1 HB1.out).mono ?_
  rintro e' w2 ⟨rfl, B2⟩
  have HB2 := keepH (below_chain HB1.out B2)
  clear B2 c0 c1 c2 c3 c4 c5 c6
  go_wp2_with fail
  go_ret
  exact ⟨by simp, HB2.out⟩
set_option maxRecDepth 100000 in
set_option maxHeartbeats 4000000 in
theorem pa_hnd (k : Nat) (e : Int) (f : Bool) (v : Nat) (dn : Bool) (h : Nat) (pp : Option Addr) (m pc ct : Nat) (he : e = 0) (hk5 : k = 5) (hk : k < 256) (he0 : -9223372036854775808 ≤ e ∧ e < 9223372036854775808) (hv : isU v) (hh : isU h) (hct : isU ct) (W : World) (T : Tb W) : Calls Tryz.prog 13 #[.int .u8 (k : Int), .agg (ansR e f v dn h pp m pc ct)] W fun e' W' => e' = .returned (.string (mkS ([104, 97, 110, 100, 108, 101, 32] ++ Lib.decDigits h))) ∧ Below W.heap.size W W' := by
  subst he hk5
  have hl := dec_len hh
  have k1 := add_str [104, 97, 110, 100, 108, 101, 32] (Lib.decDigits h) (by simp; omega)
  rw [show mkS [104, 97, 110, 100, 108, 101, 32] = ⟨#[104, 97, 110, 100, 108, 101, 32]⟩ from rfl] at k1
  have HD := keepH (fun w (hb : Below W.heap.size W w) => dec_any h hh w (T.on hb))
  obtain ⟨s, hs⟩ : ∃ s, s = mkS (Lib.decDigits h) := ⟨_, rfl⟩
  obtain ⟨g, hg⟩ : ∃ g, g = mkS ([104, 97, 110, 100, 108, 101, 32] ++ (Lib.decDigits h)) := ⟨_, rfl⟩
  rw [← hs, ← hg] at k1
  rw [← hs] at HD
  rw [← hg]
  clear hs hg hl T
  obtain ⟨w1, hw1⟩ : ∃ w1, w1 = W.alloc (.cells (ansR 0 f v dn h pp m pc ct) 32) := ⟨_, rfl⟩
  obtain ⟨P, hP⟩ : ∃ P, P = W.heap.size := ⟨_, rfl⟩
  have B1 : Below W.heap.size W w1 := by rw [hw1]; exact below_alloc _ _
  have X1 : w1.heap[P]? = some (.cells (ansR 0 f v dn h pp m pc ct) 32 (0, 0)) := by rw [hw1, hP]; exact heap_alloc_new _ _
  have HW1 := keepH hw1
  have HP := keepH hP
  have HB1 := keepH B1
  have c0 : w1.cell? ⟨P, 0, none⟩ = _ := cell_of X1 0
  have c1 : w1.cell? ⟨P, 1, none⟩ = _ := cell_of X1 1
  have c2 : w1.cell? ⟨P, 2, none⟩ = _ := cell_of X1 2
  have c3 : w1.cell? ⟨P, 3, none⟩ = _ := cell_of X1 3
  have c4 : w1.cell? ⟨P, 4, none⟩ = _ := cell_of X1 4
  have c5 : w1.cell? ⟨P, 5, none⟩ = _ := cell_of X1 5
  have c6 : w1.cell? ⟨P, 6, none⟩ = _ := cell_of X1 6
  clear hw1 hP B1 X1
  go_enter Tryz.func13, Tryz.ntmps13
  go_upto_region 1 with fail
  rw [← HW1.out, ← HP.out]
  go_wp2_with fail
  refine (HD.out w1 HB1.out).mono ?_
  rintro e' w2 ⟨rfl, B2⟩
  have HB2 := keepH (below_chain HB1.out B2)
  clear B2 c0 c1 c2 c3 c4 c5 c6
  go_wp2_with fail
  go_ret
  exact ⟨by simp, HB2.out⟩
set_option maxRecDepth 100000 in
set_option maxHeartbeats 4000000 in
theorem pa_cnt9 (k : Nat) (e : Int) (f : Bool) (v : Nat) (dn : Bool) (h : Nat) (pp : Option Addr) (m pc ct : Nat) (he : e = 0) (hk5 : k = 9) (hk : k < 256) (he0 : -9223372036854775808 ≤ e ∧ e < 9223372036854775808) (hv : isU v) (hh : isU h) (hct : isU ct) (W : World) (T : Tb W) : Calls Tryz.prog 13 #[.int .u8 (k : Int), .agg (ansR e f v dn h pp m pc ct)] W fun e' W' => e' = .returned (.string (mkS ([99, 111, 117, 110, 116, 32] ++ Lib.decDigits ct))) ∧ Below W.heap.size W W' := by
  subst he hk5
  have hl := dec_len hct
  have k1 := add_str [99, 111, 117, 110, 116, 32] (Lib.decDigits ct) (by simp; omega)
  rw [show mkS [99, 111, 117, 110, 116, 32] = ⟨#[99, 111, 117, 110, 116, 32]⟩ from rfl] at k1
  have HD := keepH (fun w (hb : Below W.heap.size W w) => dec_any ct hct w (T.on hb))
  obtain ⟨s, hs⟩ : ∃ s, s = mkS (Lib.decDigits ct) := ⟨_, rfl⟩
  obtain ⟨g, hg⟩ : ∃ g, g = mkS ([99, 111, 117, 110, 116, 32] ++ (Lib.decDigits ct)) := ⟨_, rfl⟩
  rw [← hs, ← hg] at k1
  rw [← hs] at HD
  rw [← hg]
  clear hs hg hl T
  obtain ⟨w1, hw1⟩ : ∃ w1, w1 = W.alloc (.cells (ansR 0 f v dn h pp m pc ct) 32) := ⟨_, rfl⟩
  obtain ⟨P, hP⟩ : ∃ P, P = W.heap.size := ⟨_, rfl⟩
  have B1 : Below W.heap.size W w1 := by rw [hw1]; exact below_alloc _ _
  have X1 : w1.heap[P]? = some (.cells (ansR 0 f v dn h pp m pc ct) 32 (0, 0)) := by rw [hw1, hP]; exact heap_alloc_new _ _
  have HW1 := keepH hw1
  have HP := keepH hP
  have HB1 := keepH B1
  have c0 : w1.cell? ⟨P, 0, none⟩ = _ := cell_of X1 0
  have c1 : w1.cell? ⟨P, 1, none⟩ = _ := cell_of X1 1
  have c2 : w1.cell? ⟨P, 2, none⟩ = _ := cell_of X1 2
  have c3 : w1.cell? ⟨P, 3, none⟩ = _ := cell_of X1 3
  have c4 : w1.cell? ⟨P, 4, none⟩ = _ := cell_of X1 4
  have c5 : w1.cell? ⟨P, 5, none⟩ = _ := cell_of X1 5
  have c6 : w1.cell? ⟨P, 6, none⟩ = _ := cell_of X1 6
  clear hw1 hP B1 X1
  go_enter Tryz.func13, Tryz.ntmps13
  go_upto_region 1 with fail
  rw [← HW1.out, ← HP.out]
  go_wp2_with fail
  refine (HD.out w1 HB1.out).mono ?_
  rintro e' w2 ⟨rfl, B2⟩
  have HB2 := keepH (below_chain HB1.out B2)
  clear B2 c0 c1 c2 c3 c4 c5 c6
  go_wp2_with fail
  go_ret
  exact ⟨by simp, HB2.out⟩
set_option maxRecDepth 100000 in
set_option maxHeartbeats 4000000 in
theorem pa_cnt10 (k : Nat) (e : Int) (f : Bool) (v : Nat) (dn : Bool) (h : Nat) (pp : Option Addr) (m pc ct : Nat) (he : e = 0) (hk5 : k = 10) (hk : k < 256) (he0 : -9223372036854775808 ≤ e ∧ e < 9223372036854775808) (hv : isU v) (hh : isU h) (hct : isU ct) (W : World) (T : Tb W) : Calls Tryz.prog 13 #[.int .u8 (k : Int), .agg (ansR e f v dn h pp m pc ct)] W fun e' W' => e' = .returned (.string (mkS ([99, 111, 117, 110, 116, 32] ++ Lib.decDigits ct))) ∧ Below W.heap.size W W' := by
  subst he hk5
  have hl := dec_len hct
  have k1 := add_str [99, 111, 117, 110, 116, 32] (Lib.decDigits ct) (by simp; omega)
  rw [show mkS [99, 111, 117, 110, 116, 32] = ⟨#[99, 111, 117, 110, 116, 32]⟩ from rfl] at k1
  have HD := keepH (fun w (hb : Below W.heap.size W w) => dec_any ct hct w (T.on hb))
  obtain ⟨s, hs⟩ : ∃ s, s = mkS (Lib.decDigits ct) := ⟨_, rfl⟩
  obtain ⟨g, hg⟩ : ∃ g, g = mkS ([99, 111, 117, 110, 116, 32] ++ (Lib.decDigits ct)) := ⟨_, rfl⟩
  rw [← hs, ← hg] at k1
  rw [← hs] at HD
  rw [← hg]
  clear hs hg hl T
  obtain ⟨w1, hw1⟩ : ∃ w1, w1 = W.alloc (.cells (ansR 0 f v dn h pp m pc ct) 32) := ⟨_, rfl⟩
  obtain ⟨P, hP⟩ : ∃ P, P = W.heap.size := ⟨_, rfl⟩
  have B1 : Below W.heap.size W w1 := by rw [hw1]; exact below_alloc _ _
  have X1 : w1.heap[P]? = some (.cells (ansR 0 f v dn h pp m pc ct) 32 (0, 0)) := by rw [hw1, hP]; exact heap_alloc_new _ _
  have HW1 := keepH hw1
  have HP := keepH hP
  have HB1 := keepH B1
  have c0 : w1.cell? ⟨P, 0, none⟩ = _ := cell_of X1 0
  have c1 : w1.cell? ⟨P, 1, none⟩ = _ := cell_of X1 1
  have c2 : w1.cell? ⟨P, 2, none⟩ = _ := cell_of X1 2
  have c3 : w1.cell? ⟨P, 3, none⟩ = _ := cell_of X1 3
  have c4 : w1.cell? ⟨P, 4, none⟩ = _ := cell_of X1 4
  have c5 : w1.cell? ⟨P, 5, none⟩ = _ := cell_of X1 5
  have c6 : w1.cell? ⟨P, 6, none⟩ = _ := cell_of X1 6
  clear hw1 hP B1 X1
  go_enter Tryz.func13, Tryz.ntmps13
  go_upto_region 1 with fail
  rw [← HW1.out, ← HP.out]
  go_wp2_with fail
  refine (HD.out w1 HB1.out).mono ?_
  rintro e' w2 ⟨rfl, B2⟩
  have HB2 := keepH (below_chain HB1.out B2)
  clear B2 c0 c1 c2 c3 c4 c5 c6
  go_wp2_with fail
  go_ret
  exact ⟨by simp, HB2.out⟩
set_option maxRecDepth 100000 in
set_option maxHeartbeats 4000000 in
theorem pa_ok (k : Nat) (e : Int) (f : Bool) (v : Nat) (dn : Bool) (h : Nat) (pp : Option Addr) (m pc ct : Nat) (he : e = 0) (hn : k ≠ 1 ∧ k ≠ 2 ∧ k ≠ 3 ∧ k ≠ 4 ∧ k ≠ 5 ∧ k ≠ 7 ∧ k ≠ 8 ∧ k ≠ 9 ∧ k ≠ 10) (hk : k < 256) (he0 : -9223372036854775808 ≤ e ∧ e < 9223372036854775808) (hv : isU v) (hh : isU h) (hct : isU ct) (W : World) (T : Tb W) : Calls Tryz.prog 13 #[.int .u8 (k : Int), .agg (ansR e f v dn h pp m pc ct)] W fun e' W' => e' = .returned (.string (mkS [111, 107])) ∧ Below W.heap.size W W' := by
  subst he
  have t1 : ¬ ((k : Int) = 1) := by omega
  have u1 : ((k : Int) == 1) = false := by simpa using t1
  have t2 : ¬ ((k : Int) = 2) := by omega
  have u2 : ((k : Int) == 2) = false := by simpa using t2
  have t3 : ¬ ((k : Int) = 3) := by omega
  have u3 : ((k : Int) == 3) = false := by simpa using t3
  have t4 : ¬ ((k : Int) = 4) := by omega
  have u4 : ((k : Int) == 4) = false := by simpa using t4
  have t5 : ¬ ((k : Int) = 5) := by omega
  have u5 : ((k : Int) == 5) = false := by simpa using t5
  have t7 : ¬ ((k : Int) = 7) := by omega
  have u7 : ((k : Int) == 7) = false := by simpa using t7
  have t8 : ¬ ((k : Int) = 8) := by omega
  have u8 : ((k : Int) == 8) = false := by simpa using t8
  have t9 : ¬ ((k : Int) = 9) := by omega
  have u9 : ((k : Int) == 9) = false := by simpa using t9
  have t10 : ¬ ((k : Int) = 10) := by omega
  have u10 : ((k : Int) == 10) = false := by simpa using t10
  clear hn
  obtain ⟨w1, hw1⟩ : ∃ w1, w1 = W.alloc (.cells (ansR 0 f v dn h pp m pc ct) 32) := ⟨_, rfl⟩
  obtain ⟨P, hP⟩ : ∃ P, P = W.heap.size := ⟨_, rfl⟩
  have B1 : Below W.heap.size W w1 := by rw [hw1]; exact below_alloc _ _
  have X1 : w1.heap[P]? = some (.cells (ansR 0 f v dn h pp m pc ct) 32 (0, 0)) := by rw [hw1, hP]; exact heap_alloc_new _ _
  have HW1 := keepH hw1
  have HP := keepH hP
  have HB1 := keepH B1
  have c0 : w1.cell? ⟨P, 0, none⟩ = _ := cell_of X1 0
  have c1 : w1.cell? ⟨P, 1, none⟩ = _ := cell_of X1 1
  have c2 : w1.cell? ⟨P, 2, none⟩ = _ := cell_of X1 2
  have c3 : w1.cell? ⟨P, 3, none⟩ = _ := cell_of X1 3
  have c4 : w1.cell? ⟨P, 4, none⟩ = _ := cell_of X1 4
  have c5 : w1.cell? ⟨P, 5, none⟩ = _ := cell_of X1 5
  have c6 : w1.cell? ⟨P, 6, none⟩ = _ := cell_of X1 6
  clear hw1 hP B1 X1
  go_enter Tryz.func13, Tryz.ntmps13
  go_upto_region 1 with fail
  rw [← HW1.out, ← HP.out]
  go_wp2_with fail
  go_ret
  exact ⟨rfl, HB1.out⟩
set_option maxRecDepth 100000 in
set_option maxHeartbeats 4000000 in
theorem da_err (k : Nat) (e : Int) (f : Bool) (v : Nat) (dn : Bool) (h : Nat) (pp : Option Addr) (m pc ct : Nat) (he : e ≠ 0) (hk : k < 256) (he0 : -9223372036854775808 ≤ e ∧ e < 9223372036854775808) (hv : isU v) (hh : isU h) (hct : isU ct) (W : World) (T : Tb W) : Calls Tryz.prog 14 #[.int .u8 (k : Int), .agg (ansR e f v dn h pp m pc ct)] W fun e' W' => e' = .returned (.string (mkS ([101, 114, 114, 110, 111, 32] ++ Lib.itoa e))) ∧ Below W.heap.size W W' := by
  have hl := itoa_len (show isI e from he0)
  have k1 := add_str [101, 114, 114, 110, 111, 32] (Lib.itoa e) (by simp; omega)
  rw [show mkS [101, 114, 114, 110, 111, 32] = ⟨#[101, 114, 114, 110, 111, 32]⟩ from rfl] at k1
  have HD := keepH (fun w (hb : Below W.heap.size W w) => itoa_any e he0.1 he0.2 w (T.on hb))
  obtain ⟨s, hs⟩ : ∃ s, s = mkS (Lib.itoa e) := ⟨_, rfl⟩
  obtain ⟨g, hg⟩ : ∃ g, g = mkS ([101, 114, 114, 110, 111, 32] ++ (Lib.itoa e)) := ⟨_, rfl⟩
  rw [← hs, ← hg] at k1
  rw [← hs] at HD
  rw [← hg]
  have u0 : (e != 0) = true := by simpa using he
  clear hs hg hl T
  obtain ⟨w1, hw1⟩ : ∃ w1, w1 = W.alloc (.cells (ansR e f v dn h pp m pc ct) 32) := ⟨_, rfl⟩
  obtain ⟨P, hP⟩ : ∃ P, P = W.heap.size := ⟨_, rfl⟩
  have B1 : Below W.heap.size W w1 := by rw [hw1]; exact below_alloc _ _
  have X1 : w1.heap[P]? = some (.cells (ansR e f v dn h pp m pc ct) 32 (0, 0)) := by rw [hw1, hP]; exact heap_alloc_new _ _
  have HW1 := keepH hw1
  have HP := keepH hP
  have HB1 := keepH B1
  have c0 : w1.cell? ⟨P, 0, none⟩ = _ := cell_of X1 0
  have c1 : w1.cell? ⟨P, 1, none⟩ = _ := cell_of X1 1
  have c2 : w1.cell? ⟨P, 2, none⟩ = _ := cell_of X1 2
  have c3 : w1.cell? ⟨P, 3, none⟩ = _ := cell_of X1 3
  have c4 : w1.cell? ⟨P, 4, none⟩ = _ := cell_of X1 4
  have c5 : w1.cell? ⟨P, 5, none⟩ = _ := cell_of X1 5
  have c6 : w1.cell? ⟨P, 6, none⟩ = _ := cell_of X1 6
  clear hw1 hP B1 X1
  go_enter Tryz.func14, Tryz.ntmps14
  go_upto_region 1 with fail
  rw [← HW1.out, ← HP.out]
  go_wp2_with fail
  refine (HD.out w1 HB1.out).mono ?_
  rintro e' w2 ⟨rfl, B2⟩
  have HB2 := keepH (below_chain HB1.out B2)
  clear B2 c0 c1 c2 c3 c4 c5 c6
  go_wp2_with fail
  go_ret
  exact ⟨by simp, HB2.out⟩
set_option maxRecDepth 100000 in
set_option maxHeartbeats 4000000 in
theorem da_hnd (k : Nat) (e : Int) (f : Bool) (v : Nat) (dn : Bool) (h : Nat) (pp : Option Addr) (m pc ct : Nat) (he : e = 0) (hk5 : k = 5) (hk : k < 256) (he0 : -9223372036854775808 ≤ e ∧ e < 9223372036854775808) (hv : isU v) (hh : isU h) (hct : isU ct) (W : World) (T : Tb W) : Calls Tryz.prog 14 #[.int .u8 (k : Int), .agg (ansR e f v dn h pp m pc ct)] W fun e' W' => e' = .returned (.string (mkS ([104, 97, 110, 100, 108, 101, 32] ++ Lib.decDigits h))) ∧ Below W.heap.size W W' := by
  subst he hk5
  have hl := dec_len hh
  have k1 := add_str [104, 97, 110, 100, 108, 101, 32] (Lib.decDigits h) (by simp; omega)
  rw [show mkS [104, 97, 110, 100, 108, 101, 32] = ⟨#[104, 97, 110, 100, 108, 101, 32]⟩ from rfl] at k1
  have HD := keepH (fun w (hb : Below W.heap.size W w) => dNum_any h hh w (T.on hb))
  obtain ⟨s, hs⟩ : ∃ s, s = mkS (Lib.decDigits h) := ⟨_, rfl⟩
  obtain ⟨g, hg⟩ : ∃ g, g = mkS ([104, 97, 110, 100, 108, 101, 32] ++ (Lib.decDigits h)) := ⟨_, rfl⟩
  rw [← hs, ← hg] at k1
  rw [← hs] at HD
  rw [← hg]
  clear hs hg hl T
  obtain ⟨w1, hw1⟩ : ∃ w1, w1 = W.alloc (.cells (ansR 0 f v dn h pp m pc ct) 32) := ⟨_, rfl⟩
  obtain ⟨P, hP⟩ : ∃ P, P = W.heap.size := ⟨_, rfl⟩
  have B1 : Below W.heap.size W w1 := by rw [hw1]; exact below_alloc _ _
  have X1 : w1.heap[P]? = some (.cells (ansR 0 f v dn h pp m pc ct) 32 (0, 0)) := by rw [hw1, hP]; exact heap_alloc_new _ _
  have HW1 := keepH hw1
  have HP := keepH hP
  have HB1 := keepH B1
  have c0 : w1.cell? ⟨P, 0, none⟩ = _ := cell_of X1 0
  have c1 : w1.cell? ⟨P, 1, none⟩ = _ := cell_of X1 1
  have c2 : w1.cell? ⟨P, 2, none⟩ = _ := cell_of X1 2
  have c3 : w1.cell? ⟨P, 3, none⟩ = _ := cell_of X1 3
  have c4 : w1.cell? ⟨P, 4, none⟩ = _ := cell_of X1 4
  have c5 : w1.cell? ⟨P, 5, none⟩ = _ := cell_of X1 5
  have c6 : w1.cell? ⟨P, 6, none⟩ = _ := cell_of X1 6
  clear hw1 hP B1 X1
  go_enter Tryz.func14, Tryz.ntmps14
  go_upto_region 1 with fail
  rw [← HW1.out, ← HP.out]
  go_wp2_with fail
  refine (HD.out w1 HB1.out).mono ?_
  rintro e' w2 ⟨rfl, B2⟩
  have HB2 := keepH (below_chain HB1.out B2)
  clear B2 c0 c1 c2 c3 c4 c5 c6
  go_wp2_with fail
  go_ret
  exact ⟨by simp, HB2.out⟩
set_option maxRecDepth 100000 in
set_option maxHeartbeats 4000000 in
theorem da_cnt9 (k : Nat) (e : Int) (f : Bool) (v : Nat) (dn : Bool) (h : Nat) (pp : Option Addr) (m pc ct : Nat) (he : e = 0) (hk5 : k = 9) (hk : k < 256) (he0 : -9223372036854775808 ≤ e ∧ e < 9223372036854775808) (hv : isU v) (hh : isU h) (hct : isU ct) (W : World) (T : Tb W) : Calls Tryz.prog 14 #[.int .u8 (k : Int), .agg (ansR e f v dn h pp m pc ct)] W fun e' W' => e' = .returned (.string (mkS ([99, 111, 117, 110, 116, 32] ++ Lib.decDigits ct))) ∧ Below W.heap.size W W' := by
  subst he hk5
  have hl := dec_len hct
  have k1 := add_str [99, 111, 117, 110, 116, 32] (Lib.decDigits ct) (by simp; omega)
  rw [show mkS [99, 111, 117, 110, 116, 32] = ⟨#[99, 111, 117, 110, 116, 32]⟩ from rfl] at k1
  have HD := keepH (fun w (hb : Below W.heap.size W w) => dNum_any ct hct w (T.on hb))
  obtain ⟨s, hs⟩ : ∃ s, s = mkS (Lib.decDigits ct) := ⟨_, rfl⟩
  obtain ⟨g, hg⟩ : ∃ g, g = mkS ([99, 111, 117, 110, 116, 32] ++ (Lib.decDigits ct)) := ⟨_, rfl⟩
  rw [← hs, ← hg] at k1
  rw [← hs] at HD
  rw [← hg]
  clear hs hg hl T
  obtain ⟨w1, hw1⟩ : ∃ w1, w1 = W.alloc (.cells (ansR 0 f v dn h pp m pc ct) 32) := ⟨_, rfl⟩
  obtain ⟨P, hP⟩ : ∃ P, P = W.heap.size := ⟨_, rfl⟩
  have B1 : Below W.heap.size W w1 := by rw [hw1]; exact below_alloc _ _
  have X1 : w1.heap[P]? = some (.cells (ansR 0 f v dn h pp m pc ct) 32 (0, 0)) := by rw [hw1, hP]; exact heap_alloc_new _ _
  have HW1 := keepH hw1
  have HP := keepH hP
  have HB1 := keepH B1
  have c0 : w1.cell? ⟨P, 0, none⟩ = _ := cell_of X1 0
  have c1 : w1.cell? ⟨P, 1, none⟩ = _ := cell_of X1 1
  have c2 : w1.cell? ⟨P, 2, none⟩ = _ := cell_of X1 2
  have c3 : w1.cell? ⟨P, 3, none⟩ = _ := cell_of X1 3
  have c4 : w1.cell? ⟨P, 4, none⟩ = _ := cell_of X1 4
  have c5 : w1.cell? ⟨P, 5, none⟩ = _ := cell_of X1 5
  have c6 : w1.cell? ⟨P, 6, none⟩ = _ := cell_of X1 6
  clear hw1 hP B1 X1
  go_enter Tryz.func14, Tryz.ntmps14
  go_upto_region 1 with fail
  rw [← HW1.out, ← HP.out]
  go_wp2_with fail
  refine (HD.out w1 HB1.out).mono ?_
  rintro e' w2 ⟨rfl, B2⟩
  have HB2 := keepH (below_chain HB1.out B2)
  clear B2 c0 c1 c2 c3 c4 c5 c6
  go_wp2_with fail
  go_ret
  exact ⟨by simp, HB2.out⟩
set_option maxRecDepth 100000 in
set_option maxHeartbeats 4000000 in
theorem da_cnt10 (k : Nat) (e : Int) (f : Bool) (v : Nat) (dn : Bool) (h : Nat) (pp : Option Addr) (m pc ct : Nat) (he : e = 0) (hk5 : k = 10) (hk : k < 256) (he0 : -9223372036854775808 ≤ e ∧ e < 9223372036854775808) (hv : isU v) (hh : isU h) (hct : isU ct) (W : World) (T : Tb W) : Calls Tryz.prog 14 #[.int .u8 (k : Int), .agg (ansR e f v dn h pp m pc ct)] W fun e' W' => e' = .returned (.string (mkS ([99, 111, 117, 110, 116, 32] ++ Lib.decDigits ct))) ∧ Below W.heap.size W W' := by
  subst he hk5
  have hl := dec_len hct
  have k1 := add_str [99, 111, 117, 110, 116, 32] (Lib.decDigits ct) (by simp; omega)
  rw [show mkS [99, 111, 117, 110, 116, 32] = ⟨#[99, 111, 117, 110, 116, 32]⟩ from rfl] at k1
  have HD := keepH (fun w (hb : Below W.heap.size W w) => dNum_any ct hct w (T.on hb))
  obtain ⟨s, hs⟩ : ∃ s, s = mkS (Lib.decDigits ct) := ⟨_, rfl⟩
  obtain ⟨g, hg⟩ : ∃ g, g = mkS ([99, 111, 117, 110, 116, 32] ++ (Lib.decDigits ct)) := ⟨_, rfl⟩
  rw [← hs, ← hg] at k1
  rw [← hs] at HD
  rw [← hg]
  clear hs hg hl T
  obtain ⟨w1, hw1⟩ : ∃ w1, w1 = W.alloc (.cells (ansR 0 f v dn h pp m pc ct) 32) := ⟨_, rfl⟩
  obtain ⟨P, hP⟩ : ∃ P, P = W.heap.size := ⟨_, rfl⟩
  have B1 : Below W.heap.size W w1 := by rw [hw1]; exact below_alloc _ _
  have X1 : w1.heap[P]? = some (.cells (ansR 0 f v dn h pp m pc ct) 32 (0, 0)) := by rw [hw1, hP]; exact heap_alloc_new _ _
  have HW1 := keepH hw1
  have HP := keepH hP
  have HB1 := keepH B1
  have c0 : w1.cell? ⟨P, 0, none⟩ = _ := cell_of X1 0
  have c1 : w1.cell? ⟨P, 1, none⟩ = _ := cell_of X1 1
  have c2 : w1.cell? ⟨P, 2, none⟩ = _ := cell_of X1 2
  have c3 : w1.cell? ⟨P, 3, none⟩ = _ := cell_of X1 3
  have c4 : w1.cell? ⟨P, 4, none⟩ = _ := cell_of X1 4
  have c5 : w1.cell? ⟨P, 5, none⟩ = _ := cell_of X1 5
  have c6 : w1.cell? ⟨P, 6, none⟩ = _ := cell_of X1 6
  clear hw1 hP B1 X1
  go_enter Tryz.func14, Tryz.ntmps14
  go_upto_region 1 with fail
  rw [← HW1.out, ← HP.out]
  go_wp2_with fail
  refine (HD.out w1 HB1.out).mono ?_
  rintro e' w2 ⟨rfl, B2⟩
  have HB2 := keepH (below_chain HB1.out B2)
  clear B2 c0 c1 c2 c3 c4 c5 c6
  go_wp2_with fail
  go_ret
  exact ⟨by simp, HB2.out⟩
set_option maxRecDepth 100000 in
set_option maxHeartbeats 4000000 in
theorem da_ok (k : Nat) (e : Int) (f : Bool) (v : Nat) (dn : Bool) (h : Nat) (pp : Option Addr) (m pc ct : Nat) (he : e = 0) (hn : k ≠ 1 ∧ k ≠ 2 ∧ k ≠ 3 ∧ k ≠ 4 ∧ k ≠ 5 ∧ k ≠ 7 ∧ k ≠ 8 ∧ k ≠ 9 ∧ k ≠ 10) (hk : k < 256) (he0 : -9223372036854775808 ≤ e ∧ e < 9223372036854775808) (hv : isU v) (hh : isU h) (hct : isU ct) (W : World) (T : Tb W) : Calls Tryz.prog 14 #[.int .u8 (k : Int), .agg (ansR e f v dn h pp m pc ct)] W fun e' W' => e' = .returned (.string (mkS [111, 107])) ∧ Below W.heap.size W W' := by
  subst he
  have t1 : ¬ ((k : Int) = 1) := by omega
  have u1 : ((k : Int) == 1) = false := by simpa using t1
  have t2 : ¬ ((k : Int) = 2) := by omega
  have u2 : ((k : Int) == 2) = false := by simpa using t2
  have t3 : ¬ ((k : Int) = 3) := by omega
  have u3 : ((k : Int) == 3) = false := by simpa using t3
  have t4 : ¬ ((k : Int) = 4) := by omega
  have u4 : ((k : Int) == 4) = false := by simpa using t4
  have t5 : ¬ ((k : Int) = 5) := by omega
  have u5 : ((k : Int) == 5) = false := by simpa using t5
  have t7 : ¬ ((k : Int) = 7) := by omega
  have u7 : ((k : Int) == 7) = false := by simpa using t7
  have t8 : ¬ ((k : Int) = 8) := by omega
  have u8 : ((k : Int) == 8) = false := by simpa using t8
  have t9 : ¬ ((k : Int) = 9) := by omega
  have u9 : ((k : Int) == 9) = false := by simpa using t9
  have t10 : ¬ ((k : Int) = 10) := by omega
  have u10 : ((k : Int) == 10) = false := by simpa using t10
  clear hn
  obtain ⟨w1, hw1⟩ : ∃ w1, w1 = W.alloc (.cells (ansR 0 f v dn h pp m pc ct) 32) := ⟨_, rfl⟩
  obtain ⟨P, hP⟩ : ∃ P, P = W.heap.size := ⟨_, rfl⟩
  have B1 : Below W.heap.size W w1 := by rw [hw1]; exact below_alloc _ _
  have X1 : w1.heap[P]? = some (.cells (ansR 0 f v dn h pp m pc ct) 32 (0, 0)) := by rw [hw1, hP]; exact heap_alloc_new _ _
  have HW1 := keepH hw1
  have HP := keepH hP
  have HB1 := keepH B1
  have c0 : w1.cell? ⟨P, 0, none⟩ = _ := cell_of X1 0
  have c1 : w1.cell? ⟨P, 1, none⟩ = _ := cell_of X1 1
  have c2 : w1.cell? ⟨P, 2, none⟩ = _ := cell_of X1 2
  have c3 : w1.cell? ⟨P, 3, none⟩ = _ := cell_of X1 3
  have c4 : w1.cell? ⟨P, 4, none⟩ = _ := cell_of X1 4
  have c5 : w1.cell? ⟨P, 5, none⟩ = _ := cell_of X1 5
  have c6 : w1.cell? ⟨P, 6, none⟩ = _ := cell_of X1 6
  clear hw1 hP B1 X1
  go_enter Tryz.func14, Tryz.ntmps14
  go_upto_region 1 with fail
  rw [← HW1.out, ← HP.out]
  go_wp2_with fail
  go_ret
  exact ⟨rfl, HB1.out⟩
set_option maxRecDepth 100000 in
set_option maxHeartbeats 4000000 in
theorem pa_fnd1 (e : Int) (f : Bool) (v : Nat) (dn : Bool) (h : Nat) (pp : Option Addr) (m pc ct : Nat) (he : e = 0) (hv : isU v) (W : World) (T : Tb W) : Calls Tryz.prog 13 #[.int .u8 1, .agg (ansR e f v dn h pp m pc ct)] W fun e' W' => e' = .returned (.string (mkS (fndT f v))) ∧ Below W.heap.size W W' := by
  subst he
  have HD := keepH (fun w (hb : Below W.heap.size W w) => found_any 0 f v dn h pp m pc ct hv w (T.on hb))
  obtain ⟨g, hg⟩ : ∃ g, g = mkS (fndT f v) := ⟨_, rfl⟩
  rw [← hg] at HD ⊢
  clear hg T
  obtain ⟨w1, hw1⟩ : ∃ w1, w1 = W.alloc (.cells (ansR 0 f v dn h pp m pc ct) 32) := ⟨_, rfl⟩
  obtain ⟨P, hP⟩ : ∃ P, P = W.heap.size := ⟨_, rfl⟩
  have B1 : Below W.heap.size W w1 := by rw [hw1]; exact below_alloc _ _
  have X1 : w1.heap[P]? = some (.cells (ansR 0 f v dn h pp m pc ct) 32 (0, 0)) := by rw [hw1, hP]; exact heap_alloc_new _ _
  have HW1 := keepH hw1
  have HP := keepH hP
  have HB1 := keepH B1
  have c0 : w1.cell? ⟨P, 0, none⟩ = _ := cell_of X1 0
  have c1 : w1.cell? ⟨P, 1, none⟩ = _ := cell_of X1 1
  have c2 : w1.cell? ⟨P, 2, none⟩ = _ := cell_of X1 2
  have c3 : w1.cell? ⟨P, 3, none⟩ = _ := cell_of X1 3
  have c4 : w1.cell? ⟨P, 4, none⟩ = _ := cell_of X1 4
  have c5 : w1.cell? ⟨P, 5, none⟩ = _ := cell_of X1 5
  have c6 : w1.cell? ⟨P, 6, none⟩ = _ := cell_of X1 6
  clear hw1 hP B1 X1
  go_enter Tryz.func13, Tryz.ntmps13
  go_upto_region 1 with fail
  rw [← HW1.out, ← HP.out]
  go_wp2_with fail
  refine (HD.out w1 HB1.out).mono ?_
  rintro e' w2 ⟨rfl, B2⟩
  have HB2 := keepH (below_chain HB1.out B2)
  clear B2 c0 c1 c2 c3 c4 c5 c6
  go_wp2_with fail
  go_ret
  exact ⟨by simp, HB2.out⟩
set_option maxRecDepth 100000 in
set_option maxHeartbeats 4000000 in
theorem pa_fnd2 (e : Int) (f : Bool) (v : Nat) (dn : Bool) (h : Nat) (pp : Option Addr) (m pc ct : Nat) (he : e = 0) (hv : isU v) (W : World) (T : Tb W) : Calls Tryz.prog 13 #[.int .u8 2, .agg (ansR e f v dn h pp m pc ct)] W fun e' W' => e' = .returned (.string (mkS (fndT f v))) ∧ Below W.heap.size W W' := by
  subst he
  have HD := keepH (fun w (hb : Below W.heap.size W w) => found_any 0 f v dn h pp m pc ct hv w (T.on hb))
  obtain ⟨g, hg⟩ : ∃ g, g = mkS (fndT f v) := ⟨_, rfl⟩
  rw [← hg] at HD ⊢
  clear hg T
  obtain ⟨w1, hw1⟩ : ∃ w1, w1 = W.alloc (.cells (ansR 0 f v dn h pp m pc ct) 32) := ⟨_, rfl⟩
  obtain ⟨P, hP⟩ : ∃ P, P = W.heap.size := ⟨_, rfl⟩
  have B1 : Below W.heap.size W w1 := by rw [hw1]; exact below_alloc _ _
  have X1 : w1.heap[P]? = some (.cells (ansR 0 f v dn h pp m pc ct) 32 (0, 0)) := by rw [hw1, hP]; exact heap_alloc_new _ _
  have HW1 := keepH hw1
  have HP := keepH hP
  have HB1 := keepH B1
  have c0 : w1.cell? ⟨P, 0, none⟩ = _ := cell_of X1 0
  have c1 : w1.cell? ⟨P, 1, none⟩ = _ := cell_of X1 1
  have c2 : w1.cell? ⟨P, 2, none⟩ = _ := cell_of X1 2
  have c3 : w1.cell? ⟨P, 3, none⟩ = _ := cell_of X1 3
  have c4 : w1.cell? ⟨P, 4, none⟩ = _ := cell_of X1 4
  have c5 : w1.cell? ⟨P, 5, none⟩ = _ := cell_of X1 5
  have c6 : w1.cell? ⟨P, 6, none⟩ = _ := cell_of X1 6
  clear hw1 hP B1 X1
  go_enter Tryz.func13, Tryz.ntmps13
  go_upto_region 1 with fail
  rw [← HW1.out, ← HP.out]
  go_wp2_with fail
  refine (HD.out w1 HB1.out).mono ?_
  rintro e' w2 ⟨rfl, B2⟩
  have HB2 := keepH (below_chain HB1.out B2)
  clear B2 c0 c1 c2 c3 c4 c5 c6
  go_wp2_with fail
  go_ret
  exact ⟨by simp, HB2.out⟩
set_option maxRecDepth 100000 in
set_option maxHeartbeats 4000000 in
theorem pa_fnd3 (e : Int) (f : Bool) (v : Nat) (dn : Bool) (h : Nat) (pp : Option Addr) (m pc ct : Nat) (he : e = 0) (hv : isU v) (W : World) (T : Tb W) : Calls Tryz.prog 13 #[.int .u8 3, .agg (ansR e f v dn h pp m pc ct)] W fun e' W' => e' = .returned (.string (mkS (fndT f v))) ∧ Below W.heap.size W W' := by
  subst he
  have HD := keepH (fun w (hb : Below W.heap.size W w) => found_any 0 f v dn h pp m pc ct hv w (T.on hb))
  obtain ⟨g, hg⟩ : ∃ g, g = mkS (fndT f v) := ⟨_, rfl⟩
  rw [← hg] at HD ⊢
  clear hg T
  obtain ⟨w1, hw1⟩ : ∃ w1, w1 = W.alloc (.cells (ansR 0 f v dn h pp m pc ct) 32) := ⟨_, rfl⟩
  obtain ⟨P, hP⟩ : ∃ P, P = W.heap.size := ⟨_, rfl⟩
  have B1 : Below W.heap.size W w1 := by rw [hw1]; exact below_alloc _ _
  have X1 : w1.heap[P]? = some (.cells (ansR 0 f v dn h pp m pc ct) 32 (0, 0)) := by rw [hw1, hP]; exact heap_alloc_new _ _
  have HW1 := keepH hw1
  have HP := keepH hP
  have HB1 := keepH B1
  have c0 : w1.cell? ⟨P, 0, none⟩ = _ := cell_of X1 0
  have c1 : w1.cell? ⟨P, 1, none⟩ = _ := cell_of X1 1
  have c2 : w1.cell? ⟨P, 2, none⟩ = _ := cell_of X1 2
  have c3 : w1.cell? ⟨P, 3, none⟩ = _ := cell_of X1 3
  have c4 : w1.cell? ⟨P, 4, none⟩ = _ := cell_of X1 4
  have c5 : w1.cell? ⟨P, 5, none⟩ = _ := cell_of X1 5
  have c6 : w1.cell? ⟨P, 6, none⟩ = _ := cell_of X1 6
  clear hw1 hP B1 X1
  go_enter Tryz.func13, Tryz.ntmps13
  go_upto_region 1 with fail
  rw [← HW1.out, ← HP.out]
  go_wp2_with fail
  refine (HD.out w1 HB1.out).mono ?_
  rintro e' w2 ⟨rfl, B2⟩
  have HB2 := keepH (below_chain HB1.out B2)
  clear B2 c0 c1 c2 c3 c4 c5 c6
  go_wp2_with fail
  go_ret
  exact ⟨by simp, HB2.out⟩
set_option maxRecDepth 100000 in
set_option maxHeartbeats 4000000 in
theorem pa_fnd4 (e : Int) (f : Bool) (v : Nat) (dn : Bool) (h : Nat) (pp : Option Addr) (m pc ct : Nat) (he : e = 0) (hdn : dn = false) (hv : isU v) (W : World) (T : Tb W) : Calls Tryz.prog 13 #[.int .u8 4, .agg (ansR e f v dn h pp m pc ct)] W fun e' W' => e' = .returned (.string (mkS (fndT f v))) ∧ Below W.heap.size W W' := by
  subst he hdn
  have HD := keepH (fun w (hb : Below W.heap.size W w) => found_any 0 f v false h pp m pc ct hv w (T.on hb))
  obtain ⟨g, hg⟩ : ∃ g, g = mkS (fndT f v) := ⟨_, rfl⟩
  rw [← hg] at HD ⊢
  clear hg T
  obtain ⟨w1, hw1⟩ : ∃ w1, w1 = W.alloc (.cells (ansR 0 f v false h pp m pc ct) 32) := ⟨_, rfl⟩
  obtain ⟨P, hP⟩ : ∃ P, P = W.heap.size := ⟨_, rfl⟩
  have B1 : Below W.heap.size W w1 := by rw [hw1]; exact below_alloc _ _
  have X1 : w1.heap[P]? = some (.cells (ansR 0 f v false h pp m pc ct) 32 (0, 0)) := by rw [hw1, hP]; exact heap_alloc_new _ _
  have HW1 := keepH hw1
  have HP := keepH hP
  have HB1 := keepH B1
  have c0 : w1.cell? ⟨P, 0, none⟩ = _ := cell_of X1 0
  have c1 : w1.cell? ⟨P, 1, none⟩ = _ := cell_of X1 1
  have c2 : w1.cell? ⟨P, 2, none⟩ = _ := cell_of X1 2
  have c3 : w1.cell? ⟨P, 3, none⟩ = _ := cell_of X1 3
  have c4 : w1.cell? ⟨P, 4, none⟩ = _ := cell_of X1 4
  have c5 : w1.cell? ⟨P, 5, none⟩ = _ := cell_of X1 5
  have c6 : w1.cell? ⟨P, 6, none⟩ = _ := cell_of X1 6
  clear hw1 hP B1 X1
  go_enter Tryz.func13, Tryz.ntmps13
  go_upto_region 1 with fail
  rw [← HW1.out, ← HP.out]
  go_wp2_with fail
  refine (HD.out w1 HB1.out).mono ?_
  rintro e' w2 ⟨rfl, B2⟩
  have HB2 := keepH (below_chain HB1.out B2)
  clear B2 c0 c1 c2 c3 c4 c5 c6
  go_wp2_with fail
  go_ret
  exact ⟨by simp, HB2.out⟩
end Go.Proofs.YtmmaniolaljjlaaGreatDoor
