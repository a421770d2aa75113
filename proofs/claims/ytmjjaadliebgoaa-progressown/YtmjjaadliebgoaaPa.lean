/- Amounts: sums and products up to the greatest int. -/
import Derived.Test.YtmjjaadliebgoaaFr
import Derived.WalkKit
namespace Go.Proofs.Ytmjjaadliebgoaa
open Go.RowKit
set_option linter.unusedVariables false

def mxA : Nat := 9223372036854775807
def plN (a b : Nat) : Nat := if mxA - b < a then mxA else a + b
def tiN (a b : Nat) : Nat := if mxA < a * b then mxA else a * b
def moN (a b : Nat) : Nat := if a < b then b else a
theorem plN_le {a b : Nat} (ha : a ≤ mxA) (hb : b ≤ mxA) : plN a b ≤ mxA := by unfold plN; split <;> omega
theorem tiN_le (a b : Nat) : tiN a b ≤ mxA := by unfold tiN; split <;> omega
theorem moN_le {a b : Nat} (ha : a ≤ mxA) (hb : b ≤ mxA) : moN a b ≤ mxA := by unfold moN; split <;> omega
theorem quo_lt {a b : Nat} (hb : 0 < b) : mxA / b < a ↔ mxA < a * b := Nat.div_lt_iff_lt_mul hb
set_option maxRecDepth 100000 in
theorem am_plus (a b : Nat) (W : World) (ha : a ≤ mxA) (hb : b ≤ mxA) : Calls Try.prog 29 #[.int .i64 (a : Int), .int .i64 (b : Int)] W fun e w => e = .returned (.int .i64 ((plN a b : Nat) : Int)) ∧ w = W := by
  unfold mxA at ha hb
  have k1 : IntKind.i64.wrap (9223372036854775807 - (b : Int)) = 9223372036854775807 - (b : Int) := by rw [IntKind.wrap_i64]; omega
  by_cases c : mxA - b < a
  · have e1 : plN a b = 9223372036854775807 := if_pos c
    unfold mxA at c
    have t : 9223372036854775807 - (b : Int) < (a : Int) := by omega
    go_enter Try.func29, Try.ntmps29
    go_wp2_with fail
    go_ret
    refine ⟨?_, rfl⟩; first | (rw [e1]; simp; done) | (simp; done)
  · have e1 : plN a b = a + b := if_neg c
    unfold mxA at c
    have t : ¬ 9223372036854775807 - (b : Int) < (a : Int) := by omega
    have k2 : IntKind.i64.wrap ((a : Int) + (b : Int)) = ((a + b : Nat) : Int) := by rw [IntKind.wrap_i64]; omega
    go_enter Try.func29, Try.ntmps29
    go_wp2_with fail
    go_ret
    refine ⟨?_, rfl⟩; first | (rw [e1]; simp; done) | (simp; done)
set_option maxRecDepth 100000 in
theorem am_times (a b : Nat) (W : World) (ha : a ≤ mxA) (hb : b ≤ mxA) : Calls Try.prog 28 #[.int .i64 (a : Int), .int .i64 (b : Int)] W fun e w => e = .returned (.int .i64 ((tiN a b : Nat) : Int)) ∧ w = W := by
  unfold mxA at ha hb
  by_cases z : b = 0
  · subst z
    have e1 : tiN a 0 = 0 := by unfold tiN mxA; simp
    have k2 : IntKind.i64.wrap ((a : Int) * 0) = 0 := by rw [IntKind.wrap_i64]; omega
    go_enter Try.func28, Try.ntmps28
    go_wp2_with fail
    go_ret
    refine ⟨?_, rfl⟩; first | (rw [e1]; simp; done) | (simp; done)
  · obtain ⟨q, hq⟩ : ∃ q, q = mxA / b := ⟨_, rfl⟩
    have tb : (0 : Int) < (b : Int) := by omega
    have zb : ¬ (b : Int) = 0 := by omega
    have zbb : ((b : Int) == 0) = false := by simpa using z
    have hqd : Int.tdiv 9223372036854775807 (b : Int) = (q : Int) := by rw [hq]; rfl
    have hqm : q ≤ 9223372036854775807 := by rw [hq]; exact Nat.div_le_self _ _
    have k1 : IntKind.i64.wrap (q : Int) = (q : Int) := by rw [IntKind.wrap_i64]; omega
    by_cases c : mxA < a * b
    · have e1 : tiN a b = 9223372036854775807 := if_pos c
      have t0 : q < a := by rw [hq]; exact (quo_lt (by omega)).2 c
      have t : (q : Int) < (a : Int) := by omega
      clear hq c
      go_enter Try.func28, Try.ntmps28
      go_wp2_with fail
      go_ret
      refine ⟨?_, rfl⟩; first | (rw [e1]; simp; done) | (simp; done)
    · have e1 : tiN a b = a * b := if_neg c
      have t0 : ¬ q < a := by rw [hq]; exact fun h => c ((quo_lt (by omega)).1 h)
      have t : ¬ (q : Int) < (a : Int) := by omega
      have k2 : IntKind.i64.wrap ((a : Int) * (b : Int)) = ((a * b : Nat) : Int) := by
        unfold mxA at c
        rw [IntKind.wrap_i64, show (a : Int) * (b : Int) = ((a * b : Nat) : Int) by simp]; omega
      clear hq c
      go_enter Try.func28, Try.ntmps28
      go_wp2_with fail
      go_ret
      refine ⟨?_, rfl⟩; first | (rw [e1]; simp; done) | (simp; done)
set_option maxRecDepth 100000 in
theorem am_more (a b : Nat) (W : World) (ha : a ≤ mxA) (hb : b ≤ mxA) : Calls Try.prog 45 #[.int .i64 (a : Int), .int .i64 (b : Int)] W fun e w => e = .returned (.int .i64 ((moN a b : Nat) : Int)) ∧ w = W := by
  by_cases c : a < b
  · have e1 : moN a b = b := if_pos c
    have t : (a : Int) < (b : Int) := by omega
    go_enter Try.func45, Try.ntmps45
    go_wp2_with fail
    all_goals go_ret
    all_goals (refine ⟨?_, rfl⟩; first | (rw [e1]; simp; done) | (simp; done))
  · have e1 : moN a b = a := if_neg c
    have t : ¬ (a : Int) < (b : Int) := by omega
    go_enter Try.func45, Try.ntmps45
    go_wp2_with fail
    all_goals go_ret
    all_goals (refine ⟨?_, rfl⟩; first | (rw [e1]; simp; done) | (simp; done))
set_option maxRecDepth 100000 in
theorem am_counted (n : Int) (W : World) : Calls Try.prog 19 #[.int .i64 n] W fun e w => e = .returned (.int .i64 ((n.toNat : Nat) : Int)) ∧ w = W := by
  by_cases c : n < 0
  · have e1 : ((n.toNat : Nat) : Int) = 0 := by omega
    go_enter Try.func19, Try.ntmps19
    go_wp2_with fail
    all_goals go_ret
    all_goals (refine ⟨?_, rfl⟩; first | (rw [e1]; simp; done) | (simp; done))
  · have e1 : ((n.toNat : Nat) : Int) = n := by omega
    go_enter Try.func19, Try.ntmps19
    go_wp2_with fail
    all_goals go_ret
    all_goals (refine ⟨?_, rfl⟩; first | (rw [e1]; simp; done) | (simp; done))
/- The document's. -/
set_option maxRecDepth 100000 in
theorem r_most (a b : Nat) (W : World) : Calls Try.prog 18 #[.int .i64 (a : Int), .int .i64 (b : Int)] W fun e w => e = .returned (.int .i64 ((moN a b : Nat) : Int)) ∧ w = W := by
  by_cases c : b < a
  · have e1 : moN a b = a := by unfold moN; split <;> omega
    have t : (b : Int) < (a : Int) := by omega
    go_enter Try.func18, Try.ntmps18
    go_wp2_with fail
    all_goals go_ret
    all_goals (refine ⟨?_, rfl⟩; first | (rw [e1]; simp; done) | (simp; done))
  · have e1 : moN a b = b := by unfold moN; split <;> omega
    have t : ¬ (b : Int) < (a : Int) := by omega
    go_enter Try.func18, Try.ntmps18
    go_wp2_with fail
    all_goals go_ret
    all_goals (refine ⟨?_, rfl⟩; first | (rw [e1]; simp; done) | (simp; done))
end Go.Proofs.Ytmjjaadliebgoaa
