/- Parted by a pivot: the same numbers. -/
import Derived.Test.YtomdnmmghdmpgaaUe
namespace Go.Proofs.Ytomdnmmghdmpgaa
open Go.RowKit
set_option linter.unusedVariables false

set_option maxRecDepth 100000 in
set_option maxHeartbeats 32000000 in
theorem part_g {W : World} {g c a b pv : Nat} {zs : List Nat} (hr : RowU W g zs) (hb : b ≤ zs.length) (hz : zs.length ≤ 1152921504606846976) (ha : a < b) (hp : pv < b) (hpa : a ≤ pv) :
    Calls Try.prog 48 #[.slice (some ⟨g, 0, none⟩) zs.length c, .int .i64 (a : Int), .int .i64 (b : Int), .int .i64 (pv : Int)] W fun e W' => (∃ (m : Nat) (t : Bool), e = .returned (.tuple #[.int .i64 (m : Int), .bool t]) ∧ a ≤ m ∧ m < b) ∧ Same W g zs W' := by
  have HS := keepH (Same.refl hr)
  clear hr
  obtain ⟨n, hn⟩ : ∃ n, n = zs.length := ⟨_, rfl⟩
  rw [← hn] at hz hb ⊢
  have HN := keepH hn
  clear hn
  obtain ⟨b1, hb1⟩ : ∃ b1, b = b1 + 1 := ⟨b - 1, by omega⟩
  have wb : IntKind.i64.wrap ((b : Int) - 1) = (b1 : Int) := by rw [IntKind.wrap_i64]; omega
  have wa : IntKind.i64.wrap ((a : Int) + 1) = ((a + 1 : Nat) : Int) := by rw [IntKind.wrap_i64]; omega
  have hbb : b1 + 1 = b := by omega
  have HBB : Hid (b1 + 1 = b) := hbb
  have pvn : pv < n := by omega
  have an0 : a < n := by omega
  clear hb1 hbb
  go_enter Try.func48, Try.ntmps48
  go_upto_region 1 with fail
  obtain ⟨x, y, hT⟩ := HS.out.any (i := a) (j := pv) (by rw [← HN.out]; omega) (by rw [← HN.out]; omega)
  have HT := keepH hT
  clear hT
  go_cut [] from 12 to 29 (fun wz => Hid (Same W g zs wz))
  case first =>
    obtain ⟨k1, k2, k3, k4, k5, k7⟩ : _ := (HT.out W (Chg.refl _ _)).out
    have k4 := k4 (.int .u64 (y : Int))
    obtain ⟨u, k5⟩ := k5 (.int .u64 (y : Int))
    obtain ⟨w9, hw9⟩ : ∃ w9, w9 = ((W.setCell ⟨g, a, none⟩ (.int .u64 (y : Int))).setCell ⟨g, pv, none⟩ (.int .u64 (x : Int))).drew := ⟨_, rfl⟩
    have H9 : Hid (Same W g zs w9) := by rw [hw9]; exact k7.quiet (Chg.refl _ _).drew
    clear k7 HT
    go_region
    all_goals (
      rw [← hw9]
      clear hw9 k1 k2 k3 k4 k5
      go_wp2_with fail
      go_meet
      exact H9)
  case rest =>
    have Hs1 := hcut
    clear hcut HT
    have hbb := HBB.out
    obtain ⟨i0, hi0⟩ : ∃ i0, i0 = a + 1 := ⟨_, rfl⟩
    obtain ⟨j1, hj1⟩ : ∃ j1, j1 = b1 := ⟨_, rfl⟩
    have hii : a + 1 ≤ i0 := by omega
    have hii2 : i0 ≤ b := by omega
    have hjj : a ≤ j1 := by omega
    have hjj2 : j1 < b := by omega
    have wa' : IntKind.i64.wrap ((a : Int) + 1) = (i0 : Int) := by rw [wa]; omega
    have wb' : IntKind.i64.wrap ((b : Int) - 1) = (j1 : Int) := by rw [wb]; omega
    clear wa wb hi0 hj1
    go_wp2_with fail
    clear wa' wb'
    go_loopw [10] (fun sI wr => ∃ i : Nat, i0 ≤ i ∧ i ≤ b ∧ sI = .int .i64 (i : Int) ∧ Hid (Same W g zs wr)) (fun sI _ => n + 1 - (intOf sI).toNat)
    case atStart => exact ⟨i0, by omega, by omega, by first | rfl | go_num, Hs1⟩
    case round =>
      obtain ⟨i, hi1, hi2, rfl, HI⟩ := hrel
      go_upto_region 3 with fail
      go_cut [43] from 30 to 45 (fun sr wz => ∃ t : Bool, sr = .bool t ∧ (t = true → i ≤ j1) ∧ Hid (Same W g zs wz))
      case first =>
        by_cases hij : i ≤ j1
        · have t1 : (i : Int) ≤ (j1 : Int) := by omega
          have pn : i < n := by omega
          have qn : a < n := by omega
          obtain ⟨x, y, hT⟩ := HI.out.any (i := i) (j := a) (by rw [← HN.out]; omega) (by rw [← HN.out]; omega)
          have cx := (hT wr (Chg.refl _ _)).out.1
          have cy := (hT wr (Chg.refl _ _)).out.2.1
          clear hT
          cases hlt : decide (x < y) with
          | true =>
            have HLS := keepH (less_is hlt)
            clear hlt
            go_quiet (first | (go_at_call 46; refine (HLS.out _).mono ?_; rintro q r ⟨rfl, rfl⟩; exact ⟨rfl, _, rfl⟩))
            obtain ⟨w9, hw9⟩ : ∃ z : World, z = wr.drewN nq := ⟨_, rfl⟩
            have H9 : Hid (Same W g zs w9) := by rw [hw9]; exact HI.out.quiet (drewN_chg wr nq)
            rw [← hw9]
            clear hw9 cx cy HLS
            go_wp2_with fail
            go_meet
            exact ⟨true, rfl, fun _ => hij, H9⟩
          | false =>
            have HLS := keepH (less_is hlt)
            clear hlt
            go_quiet (first | (go_at_call 46; refine (HLS.out _).mono ?_; rintro q r ⟨rfl, rfl⟩; exact ⟨rfl, _, rfl⟩))
            obtain ⟨w9, hw9⟩ : ∃ z : World, z = wr.drewN nq := ⟨_, rfl⟩
            have H9 : Hid (Same W g zs w9) := by rw [hw9]; exact HI.out.quiet (drewN_chg wr nq)
            rw [← hw9]
            clear hw9 cx cy HLS
            go_wp2_with fail
            go_meet
            exact ⟨false, rfl, fun _ => hij, H9⟩
        · have t1 : ¬ (i : Int) ≤ (j1 : Int) := by omega
          go_quiet (fail)
          obtain ⟨w9, hw9⟩ : ∃ z : World, z = wr.drewN nq := ⟨_, rfl⟩
          have H9 : Hid (Same W g zs w9) := by rw [hw9]; exact HI.out.quiet (drewN_chg wr nq)
          rw [← hw9]
          clear hw9
          go_wp2_with fail
          go_meet
          exact ⟨false, rfl, fun h => by simp at h, H9⟩
      case rest =>
        obtain ⟨t, rfl, hij, Hs3⟩ := hcut
        cases t with
        | true =>
          have hij : i ≤ j1 := hij rfl
          have wi : IntKind.i64.wrap ((i : Int) + 1) = ((i + 1 : Nat) : Int) := by rw [IntKind.wrap_i64]; omega
          go_wp2_with fail
          go_roundw
          case rel => exact ⟨i + 1, by omega, by omega, by first | rfl | go_num, Hs3⟩
          case measure => simp [intOf]; omega
        | false =>
          clear hij
          go_wp2_with fail
          go_loopw [11] (fun sJ wr => ∃ j : Nat, a ≤ j ∧ j ≤ j1 ∧ sJ = .int .i64 (j : Int) ∧ Hid (Same W g zs wr)) (fun sJ _ => (intOf sJ).toNat)
          case atStart => exact ⟨j1, by omega, by omega, by first | rfl | go_num, Hs3⟩
          case round =>
            obtain ⟨j, hj1, hj2, rfl, HJ⟩ := hrel
            go_upto_region 5 with fail
            go_cut [60] from 46 to 62 (fun sr wz => ∃ t : Bool, sr = .bool t ∧ (t = true → i ≤ j) ∧ Hid (Same W g zs wz))
            case first =>
              by_cases hij : i ≤ j
              · have t1 : (i : Int) ≤ (j : Int) := by omega
                have pn : j < n := by omega
                have qn : a < n := by omega
                obtain ⟨x, y, hT⟩ := HJ.out.any (i := j) (j := a) (by rw [← HN.out]; omega) (by rw [← HN.out]; omega)
                have cx := (hT wr (Chg.refl _ _)).out.1
                have cy := (hT wr (Chg.refl _ _)).out.2.1
                clear hT
                cases hlt : decide (x < y) with
                | true =>
                  have HLS := keepH (less_is hlt)
                  clear hlt
                  go_quiet (first | (go_at_call 46; refine (HLS.out _).mono ?_; rintro q r ⟨rfl, rfl⟩; exact ⟨rfl, _, rfl⟩))
                  obtain ⟨w9, hw9⟩ : ∃ z : World, z = wr.drewN nq := ⟨_, rfl⟩
                  have H9 : Hid (Same W g zs w9) := by rw [hw9]; exact HJ.out.quiet (drewN_chg wr nq)
                  rw [← hw9]
                  clear hw9 cx cy HLS
                  go_wp2_with fail
                  go_meet
                  exact ⟨false, rfl, fun _ => hij, H9⟩
                | false =>
                  have HLS := keepH (less_is hlt)
                  clear hlt
                  go_quiet (first | (go_at_call 46; refine (HLS.out _).mono ?_; rintro q r ⟨rfl, rfl⟩; exact ⟨rfl, _, rfl⟩))
                  obtain ⟨w9, hw9⟩ : ∃ z : World, z = wr.drewN nq := ⟨_, rfl⟩
                  have H9 : Hid (Same W g zs w9) := by rw [hw9]; exact HJ.out.quiet (drewN_chg wr nq)
                  rw [← hw9]
                  clear hw9 cx cy HLS
                  go_wp2_with fail
                  go_meet
                  exact ⟨true, rfl, fun _ => hij, H9⟩
              · have t1 : ¬ (i : Int) ≤ (j : Int) := by omega
                go_quiet (fail)
                obtain ⟨w9, hw9⟩ : ∃ z : World, z = wr.drewN nq := ⟨_, rfl⟩
                have H9 : Hid (Same W g zs w9) := by rw [hw9]; exact HJ.out.quiet (drewN_chg wr nq)
                rw [← hw9]
                clear hw9
                go_wp2_with fail
                go_meet
                exact ⟨false, rfl, fun h => by simp at h, H9⟩
            case rest =>
              obtain ⟨t, rfl, hij, Hs5⟩ := hcut
              cases t with
              | true =>
                have hij : i ≤ j := hij rfl
                obtain ⟨j0, hj0⟩ : ∃ j0, j = j0 + 1 := ⟨j - 1, by omega⟩
                have wj : IntKind.i64.wrap ((j : Int) - 1) = (j0 : Int) := by rw [IntKind.wrap_i64]; omega
                have HJ0 : Hid (j = j0 + 1) := hj0
                clear hj0
                go_wp2_with fail
                go_roundw
                case rel => exact ⟨j0, by have := HJ0.out; omega, by have := HJ0.out; omega, by first | rfl | go_num, Hs5⟩
                case measure => have := HJ0.out; simp [intOf]; omega
              | false =>
                clear hij
                by_cases hgt : j < i
                · have t2 : (j : Int) < (i : Int) := by omega
                  have jn : j < n := by omega
                  have an : a < n := by omega
                  go_upto_region 8 with fail
                  obtain ⟨x, y, hT⟩ := Hs5.out.any (i := j) (j := a) (by rw [← HN.out]; omega) (by rw [← HN.out]; omega)
                  have HT := keepH hT
                  clear hT
                  go_cut [] from 66 to 79 (fun wz => Hid (Same W g zs wz))
                  case first =>
                    obtain ⟨k1, k2, k3, k4, k5, k7⟩ : _ := (HT.out wc (Chg.refl _ _)).out
                    have k4 := k4 (.int .u64 (y : Int))
                    obtain ⟨u, k5⟩ := k5 (.int .u64 (y : Int))
                    obtain ⟨w9, hw9⟩ : ∃ w9, w9 = ((wc.setCell ⟨g, j, none⟩ (.int .u64 (y : Int))).setCell ⟨g, a, none⟩ (.int .u64 (x : Int))).drew := ⟨_, rfl⟩
                    have H9 : Hid (Same W g zs w9) := by rw [hw9]; exact k7.quiet (Chg.refl _ _).drew
                    clear k7 HT
                    go_region
                    all_goals (
                      rw [← hw9]
                      clear hw9 k1 k2 k3 k4 k5
                      go_wp2_with fail
                      go_meet
                      exact H9)
                  case rest =>
                    have Hs8 := hcut
                    clear hcut HT
                    go_wp2_with fail
                    exact bodyPost_ret (results_tmp2 rfl _ _ _) rfl ⟨⟨j, true, rfl, by omega, by omega⟩, Hs8.out⟩
                · have t2 : ¬ (j : Int) < (i : Int) := by omega
                  have jn : j < n := by omega
                  have i_n : i < n := by omega
                  have wi : IntKind.i64.wrap ((i : Int) + 1) = ((i + 1 : Nat) : Int) := by rw [IntKind.wrap_i64]; omega
                  obtain ⟨j0, hj0⟩ : ∃ j0, j = j0 + 1 := ⟨j - 1, by omega⟩
                  have wj : IntKind.i64.wrap ((j : Int) - 1) = (j0 : Int) := by rw [IntKind.wrap_i64]; omega
                  have HJ0 : Hid (j = j0 + 1) := hj0
                  clear hj0
                  go_upto_region 10 with fail
                  obtain ⟨x, y, hT⟩ := Hs5.out.any (i := i) (j := j) (by rw [← HN.out]; omega) (by rw [← HN.out]; omega)
                  have HT := keepH hT
                  clear hT
                  go_cut [] from 81 to 98 (fun wz => Hid (Same W g zs wz))
                  case first =>
                    obtain ⟨k1, k2, k3, k4, k5, k7⟩ : _ := (HT.out wc (Chg.refl _ _)).out
                    have k4 := k4 (.int .u64 (y : Int))
                    obtain ⟨u, k5⟩ := k5 (.int .u64 (y : Int))
                    obtain ⟨w9, hw9⟩ : ∃ w9, w9 = ((wc.setCell ⟨g, i, none⟩ (.int .u64 (y : Int))).setCell ⟨g, j, none⟩ (.int .u64 (x : Int))).drew := ⟨_, rfl⟩
                    have H9 : Hid (Same W g zs w9) := by rw [hw9]; exact k7.quiet (Chg.refl _ _).drew
                    clear k7 HT
                    go_region
                    all_goals (
                      rw [← hw9]
                      clear hw9 k1 k2 k3 k4 k5
                      go_wp2_with fail
                      go_meet
                      exact H9)
                  case rest =>
                    have Hs10 := hcut
                    clear hcut HT
                    go_wp2_with fail
                    have hq1 : a ≤ j0 := by have := HJ0.out; omega
                    have hq2 : j0 < b := by have := HJ0.out; omega
                    go_loopw [10, 11] (fun sI sJ wr => ∃ i j : Nat, a + 1 ≤ i ∧ i ≤ b ∧ a ≤ j ∧ j < b ∧ sI = .int .i64 (i : Int) ∧ sJ = .int .i64 (j : Int) ∧ Hid (Same W g zs wr)) (fun sI _ _ => n + 1 - (intOf sI).toNat)
                    case atStart => exact ⟨(i + 1), j0, by omega, by omega, by omega, by omega, by first | rfl | go_num, by first | rfl | go_num, Hs10⟩
                    case round =>
                      obtain ⟨i0, j1, hi01, hi02, hj11, hj12, rfl, rfl, HO⟩ := hrel
                      go_wp2_with fail
                      go_loopw [10] (fun sI wr => ∃ i : Nat, i0 ≤ i ∧ i ≤ b ∧ sI = .int .i64 (i : Int) ∧ Hid (Same W g zs wr)) (fun sI _ => n + 1 - (intOf sI).toNat)
                      case atStart => exact ⟨i0, by omega, by omega, by first | rfl | go_num, HO⟩
                      case round =>
                        obtain ⟨i, hi1, hi2, rfl, HI⟩ := hrel
                        go_upto_region 13 with fail
                        go_cut [112] from 99 to 114 (fun sr wz => ∃ t : Bool, sr = .bool t ∧ (t = true → i ≤ j1) ∧ Hid (Same W g zs wz))
                        case first =>
                          by_cases hij : i ≤ j1
                          · have t1 : (i : Int) ≤ (j1 : Int) := by omega
                            have pn : i < n := by omega
                            have qn : a < n := by omega
                            obtain ⟨x, y, hT⟩ := HI.out.any (i := i) (j := a) (by rw [← HN.out]; omega) (by rw [← HN.out]; omega)
                            have cx := (hT wr (Chg.refl _ _)).out.1
                            have cy := (hT wr (Chg.refl _ _)).out.2.1
                            clear hT
                            cases hlt : decide (x < y) with
                            | true =>
                              have HLS := keepH (less_is hlt)
                              clear hlt
                              go_quiet (first | (go_at_call 46; refine (HLS.out _).mono ?_; rintro q r ⟨rfl, rfl⟩; exact ⟨rfl, _, rfl⟩))
                              obtain ⟨w9, hw9⟩ : ∃ z : World, z = wr.drewN nq := ⟨_, rfl⟩
                              have H9 : Hid (Same W g zs w9) := by rw [hw9]; exact HI.out.quiet (drewN_chg wr nq)
                              rw [← hw9]
                              clear hw9 cx cy HLS
                              go_wp2_with fail
                              go_meet
                              exact ⟨true, rfl, fun _ => hij, H9⟩
                            | false =>
                              have HLS := keepH (less_is hlt)
                              clear hlt
                              go_quiet (first | (go_at_call 46; refine (HLS.out _).mono ?_; rintro q r ⟨rfl, rfl⟩; exact ⟨rfl, _, rfl⟩))
                              obtain ⟨w9, hw9⟩ : ∃ z : World, z = wr.drewN nq := ⟨_, rfl⟩
                              have H9 : Hid (Same W g zs w9) := by rw [hw9]; exact HI.out.quiet (drewN_chg wr nq)
                              rw [← hw9]
                              clear hw9 cx cy HLS
                              go_wp2_with fail
                              go_meet
                              exact ⟨false, rfl, fun _ => hij, H9⟩
                          · have t1 : ¬ (i : Int) ≤ (j1 : Int) := by omega
                            go_quiet (fail)
                            obtain ⟨w9, hw9⟩ : ∃ z : World, z = wr.drewN nq := ⟨_, rfl⟩
                            have H9 : Hid (Same W g zs w9) := by rw [hw9]; exact HI.out.quiet (drewN_chg wr nq)
                            rw [← hw9]
                            clear hw9
                            go_wp2_with fail
                            go_meet
                            exact ⟨false, rfl, fun h => by simp at h, H9⟩
                        case rest =>
                          obtain ⟨t, rfl, hij, Hs13⟩ := hcut
                          cases t with
                          | true =>
                            have hij : i ≤ j1 := hij rfl
                            have wi : IntKind.i64.wrap ((i : Int) + 1) = ((i + 1 : Nat) : Int) := by rw [IntKind.wrap_i64]; omega
                            go_wp2_with fail
                            go_roundw
                            case rel => exact ⟨i + 1, by omega, by omega, by first | rfl | go_num, Hs13⟩
                            case measure => simp [intOf]; omega
                          | false =>
                            clear hij
                            go_wp2_with fail
                            go_loopw [11] (fun sJ wr => ∃ j : Nat, a ≤ j ∧ j ≤ j1 ∧ sJ = .int .i64 (j : Int) ∧ Hid (Same W g zs wr)) (fun sJ _ => (intOf sJ).toNat)
                            case atStart => exact ⟨j1, by omega, by omega, by first | rfl | go_num, Hs13⟩
                            case round =>
                              obtain ⟨j, hj1, hj2, rfl, HJ⟩ := hrel
                              go_upto_region 15 with fail
                              go_cut [129] from 115 to 131 (fun sr wz => ∃ t : Bool, sr = .bool t ∧ (t = true → i ≤ j) ∧ Hid (Same W g zs wz))
                              case first =>
                                by_cases hij : i ≤ j
                                · have t1 : (i : Int) ≤ (j : Int) := by omega
                                  have pn : j < n := by omega
                                  have qn : a < n := by omega
                                  obtain ⟨x, y, hT⟩ := HJ.out.any (i := j) (j := a) (by rw [← HN.out]; omega) (by rw [← HN.out]; omega)
                                  have cx := (hT wr (Chg.refl _ _)).out.1
                                  have cy := (hT wr (Chg.refl _ _)).out.2.1
                                  clear hT
                                  cases hlt : decide (x < y) with
                                  | true =>
                                    have HLS := keepH (less_is hlt)
                                    clear hlt
                                    go_quiet (first | (go_at_call 46; refine (HLS.out _).mono ?_; rintro q r ⟨rfl, rfl⟩; exact ⟨rfl, _, rfl⟩))
                                    obtain ⟨w9, hw9⟩ : ∃ z : World, z = wr.drewN nq := ⟨_, rfl⟩
                                    have H9 : Hid (Same W g zs w9) := by rw [hw9]; exact HJ.out.quiet (drewN_chg wr nq)
                                    rw [← hw9]
                                    clear hw9 cx cy HLS
                                    go_wp2_with fail
                                    go_meet
                                    exact ⟨false, rfl, fun _ => hij, H9⟩
                                  | false =>
                                    have HLS := keepH (less_is hlt)
                                    clear hlt
                                    go_quiet (first | (go_at_call 46; refine (HLS.out _).mono ?_; rintro q r ⟨rfl, rfl⟩; exact ⟨rfl, _, rfl⟩))
                                    obtain ⟨w9, hw9⟩ : ∃ z : World, z = wr.drewN nq := ⟨_, rfl⟩
                                    have H9 : Hid (Same W g zs w9) := by rw [hw9]; exact HJ.out.quiet (drewN_chg wr nq)
                                    rw [← hw9]
                                    clear hw9 cx cy HLS
                                    go_wp2_with fail
                                    go_meet
                                    exact ⟨true, rfl, fun _ => hij, H9⟩
                                · have t1 : ¬ (i : Int) ≤ (j : Int) := by omega
                                  go_quiet (fail)
                                  obtain ⟨w9, hw9⟩ : ∃ z : World, z = wr.drewN nq := ⟨_, rfl⟩
                                  have H9 : Hid (Same W g zs w9) := by rw [hw9]; exact HJ.out.quiet (drewN_chg wr nq)
                                  rw [← hw9]
                                  clear hw9
                                  go_wp2_with fail
                                  go_meet
                                  exact ⟨false, rfl, fun h => by simp at h, H9⟩
                              case rest =>
                                obtain ⟨t, rfl, hij, Hs15⟩ := hcut
                                cases t with
                                | true =>
                                  have hij : i ≤ j := hij rfl
                                  obtain ⟨j0, hj0⟩ : ∃ j0, j = j0 + 1 := ⟨j - 1, by omega⟩
                                  have wj : IntKind.i64.wrap ((j : Int) - 1) = (j0 : Int) := by rw [IntKind.wrap_i64]; omega
                                  have HJ0 : Hid (j = j0 + 1) := hj0
                                  clear hj0
                                  go_wp2_with fail
                                  go_roundw
                                  case rel => exact ⟨j0, by have := HJ0.out; omega, by have := HJ0.out; omega, by first | rfl | go_num, Hs15⟩
                                  case measure => have := HJ0.out; simp [intOf]; omega
                                | false =>
                                  clear hij
                                  by_cases hgt : j < i
                                  · have t2 : (j : Int) < (i : Int) := by omega
                                    have jn : j < n := by omega
                                    have an : a < n := by omega
                                    go_upto_region 21 with fail
                                    obtain ⟨x, y, hT⟩ := Hs15.out.any (i := j) (j := a) (by rw [← HN.out]; omega) (by rw [← HN.out]; omega)
                                    have HT := keepH hT
                                    clear hT
                                    go_cut [] from 153 to 166 (fun wz => Hid (Same W g zs wz))
                                    case first =>
                                      obtain ⟨k1, k2, k3, k4, k5, k7⟩ : _ := (HT.out wc (Chg.refl _ _)).out
                                      have k4 := k4 (.int .u64 (y : Int))
                                      obtain ⟨u, k5⟩ := k5 (.int .u64 (y : Int))
                                      obtain ⟨w9, hw9⟩ : ∃ w9, w9 = ((wc.setCell ⟨g, j, none⟩ (.int .u64 (y : Int))).setCell ⟨g, a, none⟩ (.int .u64 (x : Int))).drew := ⟨_, rfl⟩
                                      have H9 : Hid (Same W g zs w9) := by rw [hw9]; exact k7.quiet (Chg.refl _ _).drew
                                      clear k7 HT
                                      go_region
                                      all_goals (
                                        rw [← hw9]
                                        clear hw9 k1 k2 k3 k4 k5
                                        go_wp2_with fail
                                        go_meet
                                        exact H9)
                                    case rest =>
                                      have Hs21 := hcut
                                      clear hcut HT
                                      go_wp2_with fail
                                      exact bodyPost_ret (results_tmp2 rfl _ _ _) rfl ⟨⟨j, false, rfl, by omega, by omega⟩, Hs21.out⟩
                                  · have t2 : ¬ (j : Int) < (i : Int) := by omega
                                    have jn : j < n := by omega
                                    have i_n : i < n := by omega
                                    have wi : IntKind.i64.wrap ((i : Int) + 1) = ((i + 1 : Nat) : Int) := by rw [IntKind.wrap_i64]; omega
                                    obtain ⟨j0, hj0⟩ : ∃ j0, j = j0 + 1 := ⟨j - 1, by omega⟩
                                    have wj : IntKind.i64.wrap ((j : Int) - 1) = (j0 : Int) := by rw [IntKind.wrap_i64]; omega
                                    have HJ0 : Hid (j = j0 + 1) := hj0
                                    clear hj0
                                    go_upto_region 18 with fail
                                    obtain ⟨x, y, hT⟩ := Hs15.out.any (i := i) (j := j) (by rw [← HN.out]; omega) (by rw [← HN.out]; omega)
                                    have HT := keepH hT
                                    clear hT
                                    go_cut [] from 135 to 152 (fun wz => Hid (Same W g zs wz))
                                    case first =>
                                      obtain ⟨k1, k2, k3, k4, k5, k7⟩ : _ := (HT.out wc (Chg.refl _ _)).out
                                      have k4 := k4 (.int .u64 (y : Int))
                                      obtain ⟨u, k5⟩ := k5 (.int .u64 (y : Int))
                                      obtain ⟨w9, hw9⟩ : ∃ w9, w9 = ((wc.setCell ⟨g, i, none⟩ (.int .u64 (y : Int))).setCell ⟨g, j, none⟩ (.int .u64 (x : Int))).drew := ⟨_, rfl⟩
                                      have H9 : Hid (Same W g zs w9) := by rw [hw9]; exact k7.quiet (Chg.refl _ _).drew
                                      clear k7 HT
                                      go_region
                                      all_goals (
                                        rw [← hw9]
                                        clear hw9 k1 k2 k3 k4 k5
                                        go_wp2_with fail
                                        go_meet
                                        exact H9)
                                    case rest =>
                                      have Hs18 := hcut
                                      clear hcut HT
                                      go_wp2_with fail
                                      go_roundw
                                      case rel => exact ⟨i + 1, j0, by omega, by omega, by have := HJ0.out; omega, by have := HJ0.out; omega, by first | rfl | go_num, by first | rfl | go_num, Hs18⟩
                                      case measure => simp [intOf]; omega
end Go.Proofs.Ytomdnmmghdmpgaa
