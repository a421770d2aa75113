/- kindOf, decimal; Print, the program's and the document's. -/
import Derived.Test.YtoldkjlcfgpnoaaDoorWr
namespace Go.Proofs.YtoldkjlcfgpnoaaDoor
open Go.RowKit Go.Shelf
set_option linter.unusedVariables false

theorem below_alloc (w : World) (o : Obj) : Below w.heap.size w (w.alloc o) := (Below.refl _ w).alloc (Nat.le_refl _) o
theorem below_drew {B : Nat} {w w' : World} (h : Below B w w') : Below B w w'.drew := below_drewN h 1

theorem dec_any (u : Nat) (hu64 : u < 18446744073709551616) (w : World) (htab : Lib.TabIs Tryd.prog w "internal/strconv.uint64pow10" .u64 Lib.pow10Tab) :
    Calls Tryd.prog 17 #[.int .u64 u] w fun e w' => e = .returned (.string (mkS (Lib.decDigits u))) ∧ Below w.heap.size w w' := by
  go_enter Tryd.func17, Tryd.ntmps17
  go_wp2_with fail
  refine (fmtU u hu64 w htab).mono ?_
  rintro e w1 ⟨rfl, hb⟩
  go_wp2
  go_ret
  exact ⟨rfl, hb⟩

def ktk (l : List UInt8) : Nat := if l = ktL 0 then 0 else if l = ktL 1 then 1 else if l = ktL 2 then 2 else if l = ktL 3 then 3 else 4
theorem ktk_of {k : Nat} (h : k ≤ 3) : ktk (ktL k) = k := by
  have h' : k = 0 ∨ k = 1 ∨ k = 2 ∨ k = 3 := by omega
  rcases h' with rfl | rfl | rfl | rfl <;> decide
theorem ktk_is {l : List UInt8} (h : ktk l ≤ 3) : l = ktL (ktk l) := by
  unfold ktk at h ⊢
  (repeat' split) <;> first | assumption | (exfalso; simp_all)

theorem idx0 (a b c d : Value) (W : World) : (Instr.index 48 (.agg #[a, b, c, d]) (.int .i64 0)).run Tryd.prog W = .ok a W := by
  simp [Instr.index, asIntOf, part, go_sem]
theorem idx1 (a b c d : Value) (W : World) : (Instr.index 48 (.agg #[a, b, c, d]) (.int .i64 1)).run Tryd.prog W = .ok b W := by
  simp [Instr.index, asIntOf, part, go_sem]
theorem idx2 (a b c d : Value) (W : World) : (Instr.index 48 (.agg #[a, b, c, d]) (.int .i64 2)).run Tryd.prog W = .ok c W := by
  simp [Instr.index, asIntOf, part, go_sem]
theorem idx3 (a b c d : Value) (W : World) : (Instr.index 48 (.agg #[a, b, c, d]) (.int .i64 3)).run Tryd.prog W = .ok d W := by
  simp [Instr.index, asIntOf, part, go_sem]

set_option maxHeartbeats 1000000 in
theorem kindOf_0 (s s0 s1 s2 s3 : ByteArray) (w : World) (t0 : w.cell? ⟨0, 0, none⟩ = some (.string s0)) (t1 : w.cell? ⟨0, 1, none⟩ = some (.string s1)) (t2 : w.cell? ⟨0, 2, none⟩ = some (.string s2)) (t3 : w.cell? ⟨0, 3, none⟩ = some (.string s3)) (q0 : (s.toList == s0.toList) = true) :
    Calls Tryd.prog 15 #[.string s] w fun e w' => e = .returned (.tuple #[.int .u8 0, .bool true]) ∧ w' = w := by
  have hx0 := idx0 (.string s0) (.string s1) (.string s2) (.string s3)
  have hx1 := idx1 (.string s0) (.string s1) (.string s2) (.string s3)
  have hx2 := idx2 (.string s0) (.string s1) (.string s2) (.string s3)
  have hx3 := idx3 (.string s0) (.string s1) (.string s2) (.string s3)
  go_enter Tryd.func15, Tryd.ntmps15
  go_wp2_with fail
  refine wp_loop_rounds 1 ?_
  rw [rounds_succ]
  go_wp2_with fail
  go_ret2
  exact ⟨rfl, rfl⟩
set_option maxHeartbeats 1000000 in
theorem kindOf_1 (s s0 s1 s2 s3 : ByteArray) (w : World) (t0 : w.cell? ⟨0, 0, none⟩ = some (.string s0)) (t1 : w.cell? ⟨0, 1, none⟩ = some (.string s1)) (t2 : w.cell? ⟨0, 2, none⟩ = some (.string s2)) (t3 : w.cell? ⟨0, 3, none⟩ = some (.string s3)) (q0 : (s.toList == s0.toList) = false) (q1 : (s.toList == s1.toList) = true) :
    Calls Tryd.prog 15 #[.string s] w fun e w' => e = .returned (.tuple #[.int .u8 1, .bool true]) ∧ w' = w := by
  have hx0 := idx0 (.string s0) (.string s1) (.string s2) (.string s3)
  have hx1 := idx1 (.string s0) (.string s1) (.string s2) (.string s3)
  have hx2 := idx2 (.string s0) (.string s1) (.string s2) (.string s3)
  have hx3 := idx3 (.string s0) (.string s1) (.string s2) (.string s3)
  go_enter Tryd.func15, Tryd.ntmps15
  go_wp2_with fail
  refine wp_loop_rounds 2 ?_
  rw [rounds_succ]
  go_wp2_with fail
  rw [rounds_succ]
  go_wp2_with fail
  go_ret2
  exact ⟨rfl, rfl⟩
set_option maxHeartbeats 1000000 in
theorem kindOf_2 (s s0 s1 s2 s3 : ByteArray) (w : World) (t0 : w.cell? ⟨0, 0, none⟩ = some (.string s0)) (t1 : w.cell? ⟨0, 1, none⟩ = some (.string s1)) (t2 : w.cell? ⟨0, 2, none⟩ = some (.string s2)) (t3 : w.cell? ⟨0, 3, none⟩ = some (.string s3)) (q0 : (s.toList == s0.toList) = false) (q1 : (s.toList == s1.toList) = false) (q2 : (s.toList == s2.toList) = true) :
    Calls Tryd.prog 15 #[.string s] w fun e w' => e = .returned (.tuple #[.int .u8 2, .bool true]) ∧ w' = w := by
  have hx0 := idx0 (.string s0) (.string s1) (.string s2) (.string s3)
  have hx1 := idx1 (.string s0) (.string s1) (.string s2) (.string s3)
  have hx2 := idx2 (.string s0) (.string s1) (.string s2) (.string s3)
  have hx3 := idx3 (.string s0) (.string s1) (.string s2) (.string s3)
  go_enter Tryd.func15, Tryd.ntmps15
  go_wp2_with fail
  refine wp_loop_rounds 3 ?_
  rw [rounds_succ]
  go_wp2_with fail
  rw [rounds_succ]
  go_wp2_with fail
  rw [rounds_succ]
  go_wp2_with fail
  go_ret2
  exact ⟨rfl, rfl⟩
set_option maxHeartbeats 1000000 in
theorem kindOf_3 (s s0 s1 s2 s3 : ByteArray) (w : World) (t0 : w.cell? ⟨0, 0, none⟩ = some (.string s0)) (t1 : w.cell? ⟨0, 1, none⟩ = some (.string s1)) (t2 : w.cell? ⟨0, 2, none⟩ = some (.string s2)) (t3 : w.cell? ⟨0, 3, none⟩ = some (.string s3)) (q0 : (s.toList == s0.toList) = false) (q1 : (s.toList == s1.toList) = false) (q2 : (s.toList == s2.toList) = false) (q3 : (s.toList == s3.toList) = true) :
    Calls Tryd.prog 15 #[.string s] w fun e w' => e = .returned (.tuple #[.int .u8 3, .bool true]) ∧ w' = w := by
  have hx0 := idx0 (.string s0) (.string s1) (.string s2) (.string s3)
  have hx1 := idx1 (.string s0) (.string s1) (.string s2) (.string s3)
  have hx2 := idx2 (.string s0) (.string s1) (.string s2) (.string s3)
  have hx3 := idx3 (.string s0) (.string s1) (.string s2) (.string s3)
  go_enter Tryd.func15, Tryd.ntmps15
  go_wp2_with fail
  refine wp_loop_rounds 4 ?_
  rw [rounds_succ]
  go_wp2_with fail
  rw [rounds_succ]
  go_wp2_with fail
  rw [rounds_succ]
  go_wp2_with fail
  rw [rounds_succ]
  go_wp2_with fail
  go_ret2
  exact ⟨rfl, rfl⟩
set_option maxHeartbeats 1000000 in
theorem kindOf_none (s s0 s1 s2 s3 : ByteArray) (w : World) (t0 : w.cell? ⟨0, 0, none⟩ = some (.string s0)) (t1 : w.cell? ⟨0, 1, none⟩ = some (.string s1)) (t2 : w.cell? ⟨0, 2, none⟩ = some (.string s2)) (t3 : w.cell? ⟨0, 3, none⟩ = some (.string s3)) (q0 : (s.toList == s0.toList) = false) (q1 : (s.toList == s1.toList) = false) (q2 : (s.toList == s2.toList) = false) (q3 : (s.toList == s3.toList) = false) :
    Calls Tryd.prog 15 #[.string s] w fun e w' => e = .returned (.tuple #[.int .u8 0, .bool false]) ∧ w' = w := by
  have hx0 := idx0 (.string s0) (.string s1) (.string s2) (.string s3)
  have hx1 := idx1 (.string s0) (.string s1) (.string s2) (.string s3)
  have hx2 := idx2 (.string s0) (.string s1) (.string s2) (.string s3)
  have hx3 := idx3 (.string s0) (.string s1) (.string s2) (.string s3)
  go_enter Tryd.func15, Tryd.ntmps15
  go_wp2_with fail
  refine wp_loop_rounds 5 ?_
  rw [rounds_succ]
  go_wp2_with fail
  rw [rounds_succ]
  go_wp2_with fail
  rw [rounds_succ]
  go_wp2_with fail
  rw [rounds_succ]
  go_wp2_with fail
  rw [rounds_succ]
  go_wp2_with fail
  go_ret2
  exact ⟨rfl, rfl⟩
theorem mkS_toList (l : List UInt8) : (mkS l).toList = l := by
  exact Lib.toList_data _
theorem beq_mkS (l r : List UInt8) : ((mkS l).toList == (mkS r).toList) = decide (l = r) := by
  rw [mkS_toList, mkS_toList]
  by_cases h : l = r
  · simp [h]
  · simp [h]
theorem kindOf_any (l : List UInt8) (w : World) (T : Tb w) :
    Calls Tryd.prog 15 #[.string (mkS l)] w fun e w' => e = .returned (.tuple #[.int .u8 (if ktk l ≤ 3 then (ktk l : Int) else 0), .bool (decide (ktk l ≤ 3))]) ∧ w' = w := by
  have t0 := T.kt 0 (by omega)
  have t1 := T.kt 1 (by omega)
  have t2 := T.kt 2 (by omega)
  have t3 := T.kt 3 (by omega)
  have yes : ∀ k, l = ktL k → ((mkS l).toList == (mkS (ktL k)).toList) = true := fun k h => by rw [beq_mkS]; simpa using h
  have no : ∀ k, ¬ l = ktL k → ((mkS l).toList == (mkS (ktL k)).toList) = false := fun k h => by rw [beq_mkS]; simpa using h
  by_cases q0 : l = ktL 0
  · have e : ktk l = 0 := by rw [q0]; exact ktk_of (by omega)
    rw [e]
    exact kindOf_0 _ _ _ _ _ w t0 t1 t2 t3 (yes 0 q0)
  · by_cases q1 : l = ktL 1
    · have e : ktk l = 1 := by rw [q1]; exact ktk_of (by omega)
      rw [e]
      exact kindOf_1 _ _ _ _ _ w t0 t1 t2 t3 (no 0 q0) (yes 1 q1)
    · by_cases q2 : l = ktL 2
      · have e : ktk l = 2 := by rw [q2]; exact ktk_of (by omega)
        rw [e]
        exact kindOf_2 _ _ _ _ _ w t0 t1 t2 t3 (no 0 q0) (no 1 q1) (yes 2 q2)
      · by_cases q3 : l = ktL 3
        · have e : ktk l = 3 := by rw [q3]; exact ktk_of (by omega)
          rw [e]
          exact kindOf_3 _ _ _ _ _ w t0 t1 t2 t3 (no 0 q0) (no 1 q1) (no 2 q2) (yes 3 q3)
        · have e : ktk l = 4 := by unfold ktk; rw [if_neg q0, if_neg q1, if_neg q2, if_neg q3]
          rw [e]
          exact kindOf_none _ _ _ _ _ w t0 t1 t2 t3 (no 0 q0) (no 1 q1) (no 2 q2) (no 3 q3)
end Go.Proofs.YtoldkjlcfgpnoaaDoor
