/- Insertion sort over any part of a row: the same numbers. -/
import Derived.Test.YtomdnmmghdmpgaaUa
namespace Go.Proofs.Ytomdnmmghdmpgaa
open Go.RowKit
set_option linter.unusedVariables false

theorem less_is {x y : Nat} {b : Bool} (h : decide (x < y) = b) (W : World) : Calls Try.prog 46 #[.int .u64 (x : Int), .int .u64 (y : Int)] W fun e W' => e = .returned (.bool b) ∧ W' = W := by
  rw [← h]
  exact less_u x y W
set_option maxRecDepth 100000 in
set_option maxHeartbeats 4000000 in
theorem ins_g {W : World} {g c a b : Nat} {zs : List Nat} (hr : RowU W g zs) (hb : b ≤ zs.length) (hz : zs.length ≤ 4611686018427387903) (ha : a ≤ zs.length) :
    Calls Try.prog 40 #[.slice (some ⟨g, 0, none⟩) zs.length c, .int .i64 (a : Int), .int .i64 (b : Int)] W fun e W' => e = .returned (.tuple #[]) ∧ Same W g zs W' := by
  have HS := keepH (Same.refl hr)
  clear hr
  obtain ⟨n, hn⟩ : ∃ n, n = zs.length := ⟨_, rfl⟩
  rw [← hn] at hz hb ha ⊢
  have HN := keepH hn
  clear hn
  have wa : IntKind.i64.wrap ((a : Int) + 1) = ((a + 1 : Nat) : Int) := by rw [IntKind.wrap_i64]; omega
  go_enter Try.func40, Try.ntmps40
  go_wp2_with fail
  clear wa
  go_loopw [6] (fun s6 wr => ∃ i : Nat, a + 1 ≤ i ∧ i ≤ n + 1 ∧ s6 = .int .i64 (i : Int) ∧ Hid (Same W g zs wr)) (fun s6 _ => n + 2 - (intOf s6).toNat)
  case atStart => exact ⟨a + 1, by omega, by omega, by first | rfl | go_num, HS⟩
  case round =>
    obtain ⟨i, hi1, hi2, rfl, HI⟩ := hrel
    by_cases hin : i < b
    · have t1 : (i : Int) < (b : Int) := by omega
      have wi : IntKind.i64.wrap ((i : Int) + 1) = ((i + 1 : Nat) : Int) := by rw [IntKind.wrap_i64]; omega
      go_wp2_with fail
      go_loopw [7] (fun s7 wr => ∃ j : Nat, a ≤ j ∧ j ≤ i ∧ s7 = .int .i64 (j : Int) ∧ Hid (Same W g zs wr)) (fun s7 _ => (intOf s7).toNat)
      case atStart => exact ⟨i, by omega, by omega, rfl, HI⟩
      case round =>
        obtain ⟨j, hja, hj, rfl, HJ⟩ := hrel
        by_cases hj0 : j = a
        · subst hj0
          go_upto_region 4 with fail
          go_quiet (fail)
          obtain ⟨w3, hw3⟩ : ∃ w3, w3 = wr.drewN nq := ⟨_, rfl⟩
          have HJ3 : Hid (Same W g zs w3) := by rw [hw3]; exact HJ.out.quiet (drewN_chg wr nq)
          rw [← hw3]
          clear hw3 HJ
          go_wp2_with fail
          go_roundw
          case rel => exact ⟨i + 1, by omega, by omega, by first | rfl | go_num, HJ3⟩
          case measure => simp [intOf]; omega
        · obtain ⟨j0, hj00⟩ : ∃ j0, j = j0 + 1 := ⟨j - 1, by omega⟩
          obtain ⟨x, y, hT⟩ := HJ.out.two (i := j) (j := j0) (by rw [← HN.out]; omega) (by rw [← HN.out]; omega)
          have HT := keepH hT
          have cx := (hT wr (Chg.refl _ _)).out.1
          have cy := (hT wr (Chg.refl _ _)).out.2.1
          have b1 : j < n := by omega
          have b0 : j0 < n := by omega
          have t2 : (a : Int) < (j : Int) := by omega
          have t3 : a < j := by omega
          have t4 : decide (a < j) = true := decide_eq_true t3
          have w1 : IntKind.i64.wrap ((j : Int) - 1) = (j0 : Int) := by rw [IntKind.wrap_i64]; omega
          have HJ0 : Hid (j = j0 + 1 ∧ j ≤ i ∧ i < n ∧ a ≤ j0) := ⟨hj00, hj, by omega, by omega⟩
          have hne : j ≠ j0 := by omega
          clear hj00 hj0 hT
          cases hlt : decide (x < y) with
          | true =>
            have HLS := keepH (less_is hlt)
            clear hlt
            go_upto_region 4 with fail
            go_quiet (first | (go_at_call 46; refine (HLS.out _).mono ?_; rintro q r ⟨rfl, rfl⟩; exact ⟨rfl, _, rfl⟩))
            obtain ⟨w3, hw3⟩ : ∃ w3, w3 = wr.drewN nq := ⟨_, rfl⟩
            obtain ⟨k1, k2, k3, k4, k5, k6, k7⟩ : _ := (HT.out w3 (by rw [hw3]; exact drewN_chg wr nq)).out
            rw [← hw3]
            have k5 := k5 hne (.int .u64 (y : Int))
            have k4 := k4 (.int .u64 (y : Int))
            obtain ⟨w5, hw5⟩ : ∃ w5, w5 = ((w3.setCell ⟨g, j, none⟩ (.int .u64 (y : Int))).setCell ⟨g, j0, none⟩ (.int .u64 (x : Int))).drew := ⟨_, rfl⟩
            have HJ5 : Hid (Same W g zs w5) := by rw [hw5]; exact k7.quiet (Chg.refl _ _).drew
            clear hw3 k6 k7 cx cy HJ HT HLS hne
            go_upto_region 6 with fail
            go_region
            all_goals (
              rw [← hw5]
              clear hw5 k1 k2 k3 k4 k5
              go_wp2_with fail
              go_roundw
              case rel => exact ⟨j0, by have := HJ0.out; omega, by have := HJ0.out; omega, by first | rfl | go_num, HJ5⟩
              case measure => have := HJ0.out; simp [intOf]; omega)
          | false =>
            have HLS := keepH (less_is hlt)
            clear hlt
            go_upto_region 4 with fail
            go_quiet (first | (go_at_call 46; refine (HLS.out _).mono ?_; rintro q r ⟨rfl, rfl⟩; exact ⟨rfl, _, rfl⟩))
            obtain ⟨w3, hw3⟩ : ∃ w3, w3 = wr.drewN nq := ⟨_, rfl⟩
            have HJ3 : Hid (Same W g zs w3) := by rw [hw3]; exact HJ.out.quiet (drewN_chg wr nq)
            rw [← hw3]
            clear hw3 HJ cx cy HT HLS
            go_wp2_with fail
            go_roundw
            case rel => exact ⟨i + 1, by omega, by omega, by first | rfl | go_num, HJ3⟩
            case measure => simp [intOf]; omega
    · have t1 : ¬ (i : Int) < (b : Int) := by omega
      go_wp2_with fail
      go_end0
      exact ⟨rfl, HI.out⟩
end Go.Proofs.Ytomdnmmghdmpgaa
