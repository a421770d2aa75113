/- Contracts of the functions of package word and of their references: each returns what its plain function says, and leaves the world as it was. -/
import Derived.Test.YtoopbacnnkmpbaaChecked
import Derived.WalkKit
import Derived.WalkLawsBesides
import Derived.OpenShut
namespace Go.Proofs.Ytoopbacnnkmpbaa
open Go.RowKit

def childW (k a : Int) : Int := if a = 0 ∨ 4611686018427387904 < a then 0 else if k = 1 then 2 * a + 1 else if k = 2 then 2 * a else 0
def childE (k a : Int) : Int := if a = 0 then (if k = 0 then 0 else 2) else if 4611686018427387904 < a then 2 else if k = 1 then 0 else if k = 2 then 0 else 2
def splitK (v : Int) : Int := if v = 0 then 0 else if v % 2 = 1 then 1 else 2

theorem ret2 {p q : IntKind} {a b c d : Int} (h : a = c) (g : b = d) : Ending.returned (.tuple #[.int p a, .int q b]) = .returned (.tuple #[.int p c, .int q d]) := by rw [h, g]

set_option maxHeartbeats 400000 in
theorem child_any (k a : Int) (w : World) (ha : 0 ≤ a) (hb : a < 18446744073709551616) :
    Calls Try.prog 7 #[.int .u8 k, .int .u64 a] w fun e w' => e = .returned (.tuple #[.int .u64 (childW k a), .int .i64 (childE k a)]) ∧ w' = w := by
  by_cases h0 : k = 0
  · subst h0
    by_cases h1 : a = 0
    · subst h1
      go_enter Try.func7, Try.ntmps7
      go_wp2
      go_ret2
      exact ⟨ret2 (by unfold childW; (repeat' split) <;> omega) (by unfold childE; (repeat' split) <;> omega), rfl⟩
    · have g1 : (a == 0) = false := by simp [h1]
      by_cases h2 : 4611686018427387904 < a
      · go_enter Try.func7, Try.ntmps7
        go_wp2
        go_ret2
        exact ⟨ret2 (by unfold childW; (repeat' split) <;> omega) (by unfold childE; (repeat' split) <;> omega), rfl⟩
      · go_enter Try.func7, Try.ntmps7
        go_wp2
        go_ret2
        exact ⟨ret2 (by unfold childW; (repeat' split) <;> omega) (by unfold childE; (repeat' split) <;> omega), rfl⟩
  · have g0 : (k == 0) = false := by simp [h0]
    by_cases h1 : a = 0
    · subst h1
      go_enter Try.func7, Try.ntmps7
      go_wp2
      go_ret2
      exact ⟨ret2 (by unfold childW; (repeat' split) <;> omega) (by unfold childE; (repeat' split) <;> omega), rfl⟩
    · have g1 : (a == 0) = false := by simp [h1]
      by_cases h2 : 4611686018427387904 < a
      · go_enter Try.func7, Try.ntmps7
        go_wp2
        go_ret2
        exact ⟨ret2 (by unfold childW; (repeat' split) <;> omega) (by unfold childE; (repeat' split) <;> omega), rfl⟩
      · by_cases h3 : k = 1
        · subst h3
          go_enter Try.func7, Try.ntmps7
          go_wp2
          go_ret2
          exact ⟨ret2 (by unfold childW; (repeat' split) <;> omega) (by unfold childE; (repeat' split) <;> omega), rfl⟩
        · have g3 : (k == 1) = false := by simp [h3]
          by_cases h4 : k = 2
          · subst h4
            go_enter Try.func7, Try.ntmps7
            go_wp2
            go_ret2
            exact ⟨ret2 (by unfold childW; (repeat' split) <;> omega) (by unfold childE; (repeat' split) <;> omega), rfl⟩
          · have g4 : (k == 2) = false := by simp [h4]
            go_enter Try.func7, Try.ntmps7
            go_wp2
            go_ret2
            exact ⟨ret2 (by unfold childW; (repeat' split) <;> omega) (by unfold childE; (repeat' split) <;> omega), rfl⟩

set_option maxHeartbeats 400000 in
theorem refChild_any (k a : Int) (w : World) (ha : 0 ≤ a) (hb : a < 18446744073709551616) :
    Calls Try.prog 8 #[.int .u8 k, .int .u64 a] w fun e w' => e = .returned (.tuple #[.int .u64 (childW k a), .int .i64 (childE k a)]) ∧ w' = w := by
  by_cases h1 : a = 0
  · subst h1
    by_cases h0 : k = 0
    · subst h0
      go_enter Try.func8, Try.ntmps8
      go_wp2
      go_ret2
      exact ⟨ret2 (by unfold childW; (repeat' split) <;> omega) (by unfold childE; (repeat' split) <;> omega), rfl⟩
    · have g0 : (k == 0) = false := by simp [h0]
      go_enter Try.func8, Try.ntmps8
      go_wp2
      all_goals go_ret2
      all_goals exact ⟨ret2 (by unfold childW; (repeat' split) <;> omega) (by unfold childE; (repeat' split) <;> omega), rfl⟩
  · have g1 : (a == 0) = false := by simp [h1]
    have i1 : 1 ≤ a := by omega
    by_cases h2 : 4611686018427387904 < a
    · have i2 : ¬ a ≤ 4611686018427387904 := by omega
      go_enter Try.func8, Try.ntmps8
      go_wp2
      all_goals go_ret2
      all_goals exact ⟨ret2 (by unfold childW; (repeat' split) <;> omega) (by unfold childE; (repeat' split) <;> omega), rfl⟩
    · have i2 : a ≤ 4611686018427387904 := by omega
      by_cases h3 : k = 1
      · subst h3
        go_enter Try.func8, Try.ntmps8
        go_wp2
        go_ret2
        exact ⟨ret2 (by unfold childW; (repeat' split) <;> omega) (by unfold childE; (repeat' split) <;> omega), rfl⟩
      · have g3 : (k == 1) = false := by simp [h3]
        by_cases h4 : k = 2
        · subst h4
          go_enter Try.func8, Try.ntmps8
          go_wp2
          go_ret2
          exact ⟨ret2 (by unfold childW; (repeat' split) <;> omega) (by unfold childE; (repeat' split) <;> omega), rfl⟩
        · have g4 : (k == 2) = false := by simp [h4]
          by_cases h0 : k = 0
          · subst h0
            go_enter Try.func8, Try.ntmps8
            go_wp2
            all_goals go_ret2
            all_goals exact ⟨ret2 (by unfold childW; (repeat' split) <;> omega) (by unfold childE; (repeat' split) <;> omega), rfl⟩
          · have g0 : (k == 0) = false := by simp [h0]
            go_enter Try.func8, Try.ntmps8
            go_wp2
            all_goals go_ret2
            all_goals exact ⟨ret2 (by unfold childW; (repeat' split) <;> omega) (by unfold childE; (repeat' split) <;> omega), rfl⟩

set_option maxHeartbeats 400000 in
theorem split_any (v : Int) (w : World) (ha : 0 ≤ v) (hb : v < 18446744073709551616) :
    Calls Try.prog 9 #[.int .u64 v] w fun e w' => e = .returned (.tuple #[.int .u8 (splitK v), .int .u64 (v / 2)]) ∧ w' = w := by
  by_cases h1 : v = 0
  · subst h1
    go_enter Try.func9, Try.ntmps9
    go_wp2
    go_ret2
    exact ⟨ret2 (by unfold splitK; (repeat' split) <;> omega) (by omega), rfl⟩
  · have g1 : (v == 0) = false := by simp [h1]
    by_cases h2 : v % 2 = 1
    · have g2 : (v % 2 == 1) = true := by simp [h2]
      have H : Hid (v % 2 = 1) := h2
      clear h2
      go_enter Try.func9, Try.ntmps9
      go_wp2
      go_ret2
      exact ⟨ret2 (by have := H.out; unfold splitK; (repeat' split) <;> omega) (by omega), rfl⟩
    · have g2 : (v % 2 == 1) = false := by simp [h2]
      go_enter Try.func9, Try.ntmps9
      go_wp2
      go_ret2
      exact ⟨ret2 (by unfold splitK; (repeat' split) <;> omega) (by omega), rfl⟩

set_option maxHeartbeats 400000 in
theorem refSplit_any (v : Int) (w : World) (ha : 0 ≤ v) (hb : v < 18446744073709551616) :
    Calls Try.prog 10 #[.int .u64 v] w fun e w' => e = .returned (.tuple #[.int .u8 (splitK v), .int .u64 (v / 2)]) ∧ w' = w := by
  by_cases h1 : v = 0
  · subst h1
    go_enter Try.func10, Try.ntmps10
    go_wp2
    go_ret2
    exact ⟨ret2 (by unfold splitK; (repeat' split) <;> omega) (by omega), rfl⟩
  · have g1 : (v == 0) = false := by simp [h1]
    by_cases h2 : v % 2 = 1
    · have g2 : (v % 2 == 1) = true := by simp [h2]
      have H : Hid (v % 2 = 1) := h2
      clear h2
      go_enter Try.func10, Try.ntmps10
      go_wp2
      go_ret2
      exact ⟨ret2 (by have := H.out; unfold splitK; (repeat' split) <;> omega) (by omega), rfl⟩
    · have g2 : (v % 2 == 1) = false := by simp [h2]
      go_enter Try.func10, Try.ntmps10
      go_wp2
      go_ret2
      exact ⟨ret2 (by unfold splitK; (repeat' split) <;> omega) (by omega), rfl⟩

theorem live_any (w : World) : Calls Try.prog 11 #[] w fun e w' => e = .returned (.bool true) ∧ w' = w := by
  go_enter Try.func11, Try.ntmps11
  go_wp2
  go_ret
  exact ⟨rfl, rfl⟩
end Go.Proofs.Ytoopbacnnkmpbaa
