/- The references of turning and of counting ones. -/
import Derived.Test.YtoopbacnnkmpbabRot
import Derived.Test.YtoopbacnnkmpbabMixB
namespace Go.Proofs.Ytoopbacnnkmpbab
open Go.RowKit

theorem turn_mod (l : Int) : l.tmod 64 = l % 64 ∨ l.tmod 64 = l % 64 - 64 := by
  have := Int.tmod_eq_emod (a := l) (b := 64)
  split at this <;> omega
theorem rot_step (v i : Nat) (h : v < 18446744073709551616) (hi : i < 64) : bits .or .u64 (IntKind.u64.wrap (((rotN v i : Nat) : Int) * 2)) (((rotN v i : Nat) : Int) / 9223372036854775808) = ((rotN v (i + 1) : Nat) : Int) := by
  have r := rot_int (rotN v i) 1 (rotN_lt _ h)
  rw [rot_rot i 1 h (by omega) (by omega)] at r
  have e : rotN v ((i + 1) % 64) = rotN v (i + 1) := by
    by_cases c : i + 1 < 64
    · rw [Nat.mod_eq_of_lt c]
    · have : i + 1 = 64 := by omega
      rw [this]
      refine eq_of_bits (rotN_lt _ h) (rotN_lt _ h) fun j hj => ?_
      rw [rotN_bit _ j h (by omega) hj, rotN_bit _ j h (by omega) hj]
      congr 1
      omega
  rw [e] at r
  exact r
set_option maxHeartbeats 1000000 in
theorem refTurn_nat (v : Nat) (l : Int) (w : World) (h1 : v < 18446744073709551616) :
    Calls Try.prog 29 #[.int .u64 (v : Int), .int .i64 l] w fun e w' => e = .returned (.int .u64 ((rotN v (l % 64).toNat : Nat) : Int)) ∧ w' = w := by
  by_cases c : l.tmod 64 < 0
  · have q : l.tmod 64 = l % 64 - 64 := by have := turn_mod l; omega
    have c' : l % 64 - 64 < 0 := by omega
    clear c
    go_enter Try.func29, Try.ntmps29
    go_wp2
    go_loop [0, 5] (fun x i => ∃ k : Nat, (k : Int) ≤ l % 64 ∧ i = .int .i64 (k : Int) ∧ x = .int .u64 ((rotN v k : Nat) : Int)) (fun _ i => (l % 64 - intOf i).toNat)
    case atStart => exact ⟨0, by omega, rfl, by rw [rot_0 h1]⟩
    case round =>
      obtain ⟨k, hk, rfl, rfl⟩ := hrel
      by_cases hlt : (k : Int) < l % 64
      · have r := rot_step v k h1 (by omega)
        go_wp2
        go_round
        case rel => exact ⟨k + 1, by omega, by go_num, rfl⟩
        case measure => simp [intOf]; omega
      · go_wp2
        go_ret
        exact ⟨oneI (by rw [show (l % 64).toNat = k by omega]), rfl⟩
  · have q : l.tmod 64 = l % 64 := by have := turn_mod l; omega
    have c' : ¬ l % 64 < 0 := by omega
    clear c
    go_enter Try.func29, Try.ntmps29
    go_wp2
    go_loop [0, 5] (fun x i => ∃ k : Nat, (k : Int) ≤ l % 64 ∧ i = .int .i64 (k : Int) ∧ x = .int .u64 ((rotN v k : Nat) : Int)) (fun _ i => (l % 64 - intOf i).toNat)
    case atStart => exact ⟨0, by omega, rfl, by rw [rot_0 h1]⟩
    case round =>
      obtain ⟨k, hk, rfl, rfl⟩ := hrel
      by_cases hlt : (k : Int) < l % 64
      · have r := rot_step v k h1 (by omega)
        go_wp2
        go_round
        case rel => exact ⟨k + 1, by omega, by go_num, rfl⟩
        case measure => simp [intOf]; omega
      · go_wp2
        go_ret
        exact ⟨oneI (by rw [show (l % 64).toNat = k by omega]), rfl⟩
set_option maxHeartbeats 1000000 in
theorem refOnes_nat (v : Nat) (w : World) (h1 : v < 18446744073709551616) :
    Calls Try.prog 31 #[.int .u64 (v : Int)] w fun e w' => e = .returned (.int .i64 ((onesN v : Nat) : Int)) ∧ w' = w := by
  go_enter Try.func31, Try.ntmps31
  go_wp2
  go_loop [3, 4] (fun n i => ∃ k : Nat, k ≤ 64 ∧ i = .int .i64 (k : Int) ∧ n = .int .i64 ((bitsum v.testBit k : Nat) : Int)) (fun _ i => 64 - (intOf i).toNat)
  case atStart => exact ⟨0, by omega, rfl, rfl⟩
  case round =>
    obtain ⟨k, hk, rfl, rfl⟩ := hrel
    have b := bitsum_le v.testBit k
    by_cases hlt : k < 64
    · have r := and1 v k h1
      have bl := bitN_lt v k
      have e : bitsum v.testBit (k + 1) = bitsum v.testBit k + bitN v k := by rw [bitN_eq]; rfl
      have E : Hid (((bitsum v.testBit (k + 1) : Nat) : Int) = ((bitsum v.testBit k : Nat) : Int) + ((bitN v k : Nat) : Int)) := by show _ = _; omega
      clear e
      go_wp2
      go_round
      case rel => exact ⟨k + 1, by omega, by go_num, by rw [E.out]⟩
      case measure => simp [intOf]; omega
    · obtain rfl : k = 64 := by omega
      go_wp2
      go_ret
      exact ⟨rfl, rfl⟩
end Go.Proofs.Ytoopbacnnkmpbab
