/- Partial insertion: the same numbers. -/
import Derived.Test.YtomdnmmghdmpgaaUh
namespace Go.Proofs.Ytomdnmmghdmpgaa
open Go.RowKit
set_option linter.unusedVariables false

set_option maxRecDepth 100000 in
set_option maxHeartbeats 32000000 in
theorem pins_g {W : World} {g c a b : Nat} {zs : List Nat} (hr : RowU W g zs) (hb : b ≤ zs.length) (hz : zs.length ≤ 1152921504606846976) (ha : a < b) :
    Calls Try.prog 45 #[.slice (some ⟨g, 0, none⟩) zs.length c, .int .i64 (a : Int), .int .i64 (b : Int)] W fun e W' => (∃ t : Bool, e = .returned (.bool t)) ∧ Same W g zs W' := by
  have HS := keepH (Same.refl hr)
  clear hr
  obtain ⟨n, hn⟩ : ∃ n, n = zs.length := ⟨_, rfl⟩
  rw [← hn] at hz hb ⊢
  have HN := keepH hn
  clear hn
  obtain ⟨ba, hba0⟩ : ∃ ba, ba = b - a := ⟨_, rfl⟩
  have wba : IntKind.i64.wrap ((b : Int) - (a : Int)) = (ba : Int) := by rw [IntKind.wrap_i64]; omega
  have wa : IntKind.i64.wrap ((a : Int) + 1) = ((a + 1 : Nat) : Int) := by rw [IntKind.wrap_i64]; omega
  clear hba0
  go_enter Try.func45, Try.ntmps45
  go_wp2_with fail
  clear wa
  go_loopw [7, 8] (fun sI sJ wr => ∃ i jj : Nat, a + 1 ≤ i ∧ i ≤ b ∧ jj ≤ 5 ∧ sI = .int .i64 (i : Int) ∧ sJ = .int .i64 (jj : Int) ∧ Hid (Same W g zs wr)) (fun _ sJ _ => 5 - (intOf sJ).toNat)
  case atStart => exact ⟨a + 1, 0, by omega, by omega, by omega, by first | rfl | go_num, by first | rfl | go_num, HS⟩
  case round =>
    obtain ⟨i0, jj, hi01, hi02, hjj, rfl, rfl, HO⟩ := hrel
    by_cases hj5 : jj < 5
    · have t0 : (jj : Int) < 5 := by omega
      go_wp2_with fail
      go_loopw [7] (fun sI wr => ∃ i : Nat, i0 ≤ i ∧ i ≤ b ∧ sI = .int .i64 (i : Int) ∧ Hid (Same W g zs wr)) (fun sI _ => n + 1 - (intOf sI).toNat)
      case atStart => exact ⟨i0, by omega, by omega, by first | rfl | go_num, HO⟩
      case round =>
        obtain ⟨i, hi1, hi2, rfl, HI⟩ := hrel
        obtain ⟨l, hl⟩ : ∃ l, i = l + 1 := ⟨i - 1, by omega⟩
        have wl : IntKind.i64.wrap ((i : Int) - 1) = (l : Int) := by rw [IntKind.wrap_i64]; omega
        have hli : l < i := by omega
        clear hl
        go_upto_region 5 with fail
        go_cut [32] from 17 to 34 (fun sr wz => ∃ t : Bool, sr = .bool t ∧ (t = true → i < b) ∧ Hid (Same W g zs wz))
        case first =>
          by_cases hij : i < b
          · have t1 : (i : Int) < (b : Int) := by omega
            have pn : i < n := by omega
            have qn : l < n := by omega
            obtain ⟨x, y, hT⟩ := HI.out.any (i := i) (j := l) (by rw [← HN.out]; omega) (by rw [← HN.out]; omega)
            have cx := (hT wr (Chg.refl _ _)).out.1
            have cy := (hT wr (Chg.refl _ _)).out.2.1
            clear hT
            cases hlt : decide (x < y) with
            | true =>
              have HLS := keepH (less_is hlt)
              clear hlt
              go_quiet (first | (go_at_call 46; refine (HLS.out _).mono ?_; rintro q r ⟨rfl, rfl⟩; exact ⟨rfl, _, rfl⟩))
              obtain ⟨w5, hw5⟩ : ∃ z : World, z = wr.drewN nq := ⟨_, rfl⟩
              have Ht5 : Hid (Same W g zs w5) := by rw [hw5]; exact HI.out.quiet (drewN_chg wr nq)
              rw [← hw5]
              clear hw5 cx cy HLS HI
              go_wp2_with fail
              go_meet
              exact ⟨false, rfl, fun _ => hij, Ht5⟩
            | false =>
              have HLS := keepH (less_is hlt)
              clear hlt
              go_quiet (first | (go_at_call 46; refine (HLS.out _).mono ?_; rintro q r ⟨rfl, rfl⟩; exact ⟨rfl, _, rfl⟩))
              obtain ⟨w5, hw5⟩ : ∃ z : World, z = wr.drewN nq := ⟨_, rfl⟩
              have Ht5 : Hid (Same W g zs w5) := by rw [hw5]; exact HI.out.quiet (drewN_chg wr nq)
              rw [← hw5]
              clear hw5 cx cy HLS HI
              go_wp2_with fail
              go_meet
              exact ⟨true, rfl, fun _ => hij, Ht5⟩
          · have t1 : ¬ (i : Int) < (b : Int) := by omega
            go_quiet (fail)
            obtain ⟨w9, hw9⟩ : ∃ z : World, z = wr.drewN nq := ⟨_, rfl⟩
            have H9 : Hid (Same W g zs w9) := by rw [hw9]; exact HI.out.quiet (drewN_chg wr nq)
            rw [← hw9]
            clear hw9
            go_wp2_with fail
            go_meet
            exact ⟨false, rfl, fun h => by simp at h, H9⟩
        case rest =>
          obtain ⟨t, rfl, hij, Hs5⟩ := hcut
          cases t with
          | true =>
            have hij : i < b := hij rfl
            have wi : IntKind.i64.wrap ((i : Int) + 1) = ((i + 1 : Nat) : Int) := by rw [IntKind.wrap_i64]; omega
            go_wp2_with fail
            go_roundw
            case rel => exact ⟨i + 1, by omega, by omega, by first | rfl | go_num, Hs5⟩
            case measure => simp [intOf]; omega
          | false =>
            clear hij
            by_cases hib : i = b
            · subst hib
              go_wp2_with fail
              exact bodyPost_ret (results_tmp rfl _ _ _) rfl ⟨⟨true, rfl⟩, Hs5.out⟩
            · have t3 : ((i : Int) == (b : Int)) = false := by simp; omega
              have t3' : ¬ (i : Int) = (b : Int) := by omega
              by_cases hba : ba < 50
              · have t4 : (ba : Int) < 50 := by omega
                go_wp2_with fail
                exact bodyPost_ret (results_tmp rfl _ _ _) rfl ⟨⟨false, rfl⟩, Hs5.out⟩
              · have t4 : ¬ (ba : Int) < 50 := by omega
                obtain ⟨ia, hia0⟩ : ∃ ia, ia = i - a := ⟨_, rfl⟩
                obtain ⟨bi, hbi0⟩ : ∃ bi, bi = b - i := ⟨_, rfl⟩
                have wia : IntKind.i64.wrap ((i : Int) - (a : Int)) = (ia : Int) := by rw [IntKind.wrap_i64]; omega
                have wbi : IntKind.i64.wrap ((b : Int) - (i : Int)) = (bi : Int) := by rw [IntKind.wrap_i64]; omega
                have wi : IntKind.i64.wrap ((i : Int) + 1) = ((i + 1 : Nat) : Int) := by rw [IntKind.wrap_i64]; omega
                have HBI : Hid (bi = b - i) := hbi0
                have i_n : i < n := by omega
                have l_n : l < n := by omega
                have ib : i < b := by omega
                clear hia0 hbi0 hib
                go_upto_region 11 with fail
                obtain ⟨x, y, hT⟩ := Hs5.out.any (i := i) (j := l) (by rw [← HN.out]; omega) (by rw [← HN.out]; omega)
                have HT := keepH hT
                clear hT
                go_cut [] from 42 to 57 (fun wz => Hid (Same W g zs wz))
                case first =>
                  obtain ⟨k1, k2, k3, k4, k5, k7⟩ : _ := (HT.out wc (Chg.refl _ _)).out
                  have k4 := k4 (.int .u64 (y : Int))
                  obtain ⟨u, k5⟩ := k5 (.int .u64 (y : Int))
                  obtain ⟨w9, hw9⟩ : ∃ w9, w9 = ((wc.setCell ⟨g, i, none⟩ (.int .u64 (y : Int))).setCell ⟨g, l, none⟩ (.int .u64 (x : Int))).drew := ⟨_, rfl⟩
                  have H9 : Hid (Same W g zs w9) := by rw [hw9]; exact k7.quiet (Chg.refl _ _).drew
                  clear k7 HT
                  go_region
                  all_goals (
                    rw [← hw9]
                    clear hw9 k1 k2 k3 k4 k5
                    go_wp2_with fail
                    go_meet
                    exact H9)
                case rest =>
                  have Hs11 := hcut
                  clear hcut HT
                  by_cases hia : 2 ≤ ia
                  · have t5 : (2 : Int) ≤ (ia : Int) := by omega
                    go_wp2_with fail
                    go_loopw [9] (fun sK wr => ∃ k : Nat, k ≤ l ∧ sK = .int .i64 (k : Int) ∧ Hid (Same W g zs wr)) (fun sK _ => (intOf sK).toNat)
                    case atStart => exact ⟨l, by omega, by first | rfl | go_num, Hs11⟩
                    case round =>
                      obtain ⟨k, hk, rfl, HK⟩ := hrel
                      by_cases hk1 : 1 ≤ k
                      · have t6 : (1 : Int) ≤ (k : Int) := by omega
                        obtain ⟨kl, hkl⟩ : ∃ kl, k = kl + 1 := ⟨k - 1, by omega⟩
                        have wkl : IntKind.i64.wrap ((k : Int) - 1) = (kl : Int) := by rw [IntKind.wrap_i64]; omega
                        have kn : k < n := by omega
                        have kln : kl < n := by omega
                        have HKL : Hid (k = kl + 1) := hkl
                        clear hkl
                        obtain ⟨x, y, hT⟩ := HK.out.any (i := k) (j := kl) (by rw [← HN.out]; omega) (by rw [← HN.out]; omega)
                        have cx := (hT wr (Chg.refl _ _)).out.1
                        have cy := (hT wr (Chg.refl _ _)).out.2.1
                        clear hT
                        cases hlt : decide (x < y) with
                        | true =>
                          have HLS := keepH (less_is hlt)
                          clear hlt
                          go_upto_region 16 with fail
                          go_quiet (first | (go_at_call 46; refine (HLS.out _).mono ?_; rintro q r ⟨rfl, rfl⟩; exact ⟨rfl, _, rfl⟩))
                          obtain ⟨w16, hw16⟩ : ∃ z : World, z = wr.drewN nq := ⟨_, rfl⟩
                          have Ht16 : Hid (Same W g zs w16) := by rw [hw16]; exact HK.out.quiet (drewN_chg wr nq)
                          rw [← hw16]
                          clear hw16 cx cy HLS HK
                          go_upto_region 17 with fail
                          obtain ⟨x, y, hT⟩ := Ht16.out.any (i := k) (j := kl) (by rw [← HN.out]; omega) (by rw [← HN.out]; omega)
                          obtain ⟨k1, k2, k3, k4, k5, k7⟩ : _ := (hT w16 (Chg.refl _ _)).out
                          have k4 := k4 (.int .u64 (y : Int))
                          obtain ⟨u, k5⟩ := k5 (.int .u64 (y : Int))
                          obtain ⟨w9, hw9⟩ : ∃ w9, w9 = ((w16.setCell ⟨g, k, none⟩ (.int .u64 (y : Int))).setCell ⟨g, kl, none⟩ (.int .u64 (x : Int))).drew := ⟨_, rfl⟩
                          have Hs17 : Hid (Same W g zs w9) := by rw [hw9]; exact k7.quiet (Chg.refl _ _).drew
                          clear k7 hT
                          go_region
                          all_goals (
                            rw [← hw9]
                            clear hw9 k1 k2 k3 k4 k5
                            go_wp2_with fail
                            go_roundw
                            case rel => exact ⟨kl, by have := HKL.out; omega, by first | rfl | go_num, Hs17⟩
                            case measure => have := HKL.out; simp [intOf]; omega)
                        | false =>
                          have HLS := keepH (less_is hlt)
                          clear hlt
                          go_upto_region 16 with fail
                          go_quiet (first | (go_at_call 46; refine (HLS.out _).mono ?_; rintro q r ⟨rfl, rfl⟩; exact ⟨rfl, _, rfl⟩))
                          obtain ⟨w16, hw16⟩ : ∃ z : World, z = wr.drewN nq := ⟨_, rfl⟩
                          have Ht16 : Hid (Same W g zs w16) := by rw [hw16]; exact HK.out.quiet (drewN_chg wr nq)
                          rw [← hw16]
                          clear hw16 cx cy HLS HK
                          by_cases hbi : 2 ≤ bi
                          · have t7 : (2 : Int) ≤ (bi : Int) := by omega
                            go_wp2_with fail
                            go_loopw [10] (fun sM wr => ∃ m : Nat, i + 1 ≤ m ∧ m ≤ b ∧ sM = .int .i64 (m : Int) ∧ Hid (Same W g zs wr)) (fun sM _ => n + 1 - (intOf sM).toNat)
                            case atStart => exact ⟨i + 1, by omega, by have := HBI.out; omega, by first | rfl | go_num, Ht16⟩
                            case round =>
                              obtain ⟨m, hm1, hm2, rfl, HM⟩ := hrel
                              by_cases hmb : m < b
                              · have t8 : (m : Int) < (b : Int) := by omega
                                obtain ⟨ml, hml⟩ : ∃ ml, m = ml + 1 := ⟨m - 1, by omega⟩
                                have wml : IntKind.i64.wrap ((m : Int) - 1) = (ml : Int) := by rw [IntKind.wrap_i64]; omega
                                have wmu : IntKind.i64.wrap ((m : Int) + 1) = ((m + 1 : Nat) : Int) := by rw [IntKind.wrap_i64]; omega
                                have mn : m < n := by omega
                                have mln : ml < n := by omega
                                clear hml
                                obtain ⟨x, y, hT⟩ := HM.out.any (i := m) (j := ml) (by rw [← HN.out]; omega) (by rw [← HN.out]; omega)
                                have cx := (hT wr (Chg.refl _ _)).out.1
                                have cy := (hT wr (Chg.refl _ _)).out.2.1
                                clear hT
                                cases hlt : decide (x < y) with
                                | true =>
                                  have HLS := keepH (less_is hlt)
                                  clear hlt
                                  go_upto_region 22 with fail
                                  go_quiet (first | (go_at_call 46; refine (HLS.out _).mono ?_; rintro q r ⟨rfl, rfl⟩; exact ⟨rfl, _, rfl⟩))
                                  obtain ⟨w22, hw22⟩ : ∃ z : World, z = wr.drewN nq := ⟨_, rfl⟩
                                  have Ht22 : Hid (Same W g zs w22) := by rw [hw22]; exact HM.out.quiet (drewN_chg wr nq)
                                  rw [← hw22]
                                  clear hw22 cx cy HLS HM
                                  go_upto_region 23 with fail
                                  obtain ⟨x, y, hT⟩ := Ht22.out.any (i := m) (j := ml) (by rw [← HN.out]; omega) (by rw [← HN.out]; omega)
                                  obtain ⟨k1, k2, k3, k4, k5, k7⟩ : _ := (hT w22 (Chg.refl _ _)).out
                                  have k4 := k4 (.int .u64 (y : Int))
                                  obtain ⟨u, k5⟩ := k5 (.int .u64 (y : Int))
                                  obtain ⟨w9, hw9⟩ : ∃ w9, w9 = ((w22.setCell ⟨g, m, none⟩ (.int .u64 (y : Int))).setCell ⟨g, ml, none⟩ (.int .u64 (x : Int))).drew := ⟨_, rfl⟩
                                  have Hs23 : Hid (Same W g zs w9) := by rw [hw9]; exact k7.quiet (Chg.refl _ _).drew
                                  clear k7 hT
                                  go_region
                                  all_goals (
                                    rw [← hw9]
                                    clear hw9 k1 k2 k3 k4 k5
                                    go_wp2_with fail
                                    go_roundw
                                    case rel => exact ⟨m + 1, by omega, by omega, by first | rfl | go_num, Hs23⟩
                                    case measure => simp [intOf]; omega)
                                | false =>
                                  have HLS := keepH (less_is hlt)
                                  clear hlt
                                  go_upto_region 22 with fail
                                  go_quiet (first | (go_at_call 46; refine (HLS.out _).mono ?_; rintro q r ⟨rfl, rfl⟩; exact ⟨rfl, _, rfl⟩))
                                  obtain ⟨w22, hw22⟩ : ∃ z : World, z = wr.drewN nq := ⟨_, rfl⟩
                                  have Ht22 : Hid (Same W g zs w22) := by rw [hw22]; exact HM.out.quiet (drewN_chg wr nq)
                                  rw [← hw22]
                                  clear hw22 cx cy HLS HM
                                  have wjj : IntKind.i64.wrap ((jj : Int) + 1) = ((jj + 1 : Nat) : Int) := by rw [IntKind.wrap_i64]; omega
                                  go_wp2_with fail
                                  go_roundw
                                  case rel => exact ⟨i, jj + 1, by omega, by omega, by omega, by first | rfl | go_num, by first | rfl | go_num, Ht22⟩
                                  case measure => simp [intOf]; omega
                              · have t8 : ¬ (m : Int) < (b : Int) := by omega
                                have wjj : IntKind.i64.wrap ((jj : Int) + 1) = ((jj + 1 : Nat) : Int) := by rw [IntKind.wrap_i64]; omega
                                go_wp2_with fail
                                go_roundw
                                case rel => exact ⟨i, jj + 1, by omega, by omega, by omega, by first | rfl | go_num, by first | rfl | go_num, HM⟩
                                case measure => simp [intOf]; omega
                          · have t7 : ¬ (2 : Int) ≤ (bi : Int) := by omega
                            have wjj : IntKind.i64.wrap ((jj : Int) + 1) = ((jj + 1 : Nat) : Int) := by rw [IntKind.wrap_i64]; omega
                            go_wp2_with fail
                            go_roundw
                            case rel => exact ⟨i, jj + 1, by omega, by omega, by omega, by first | rfl | go_num, by first | rfl | go_num, Ht16⟩
                            case measure => simp [intOf]; omega
                      · have t6 : ¬ (1 : Int) ≤ (k : Int) := by omega
                        by_cases hbi : 2 ≤ bi
                        · have t7 : (2 : Int) ≤ (bi : Int) := by omega
                          go_wp2_with fail
                          go_loopw [10] (fun sM wr => ∃ m : Nat, i + 1 ≤ m ∧ m ≤ b ∧ sM = .int .i64 (m : Int) ∧ Hid (Same W g zs wr)) (fun sM _ => n + 1 - (intOf sM).toNat)
                          case atStart => exact ⟨i + 1, by omega, by have := HBI.out; omega, by first | rfl | go_num, HK⟩
                          case round =>
                            obtain ⟨m, hm1, hm2, rfl, HM⟩ := hrel
                            by_cases hmb : m < b
                            · have t8 : (m : Int) < (b : Int) := by omega
                              obtain ⟨ml, hml⟩ : ∃ ml, m = ml + 1 := ⟨m - 1, by omega⟩
                              have wml : IntKind.i64.wrap ((m : Int) - 1) = (ml : Int) := by rw [IntKind.wrap_i64]; omega
                              have wmu : IntKind.i64.wrap ((m : Int) + 1) = ((m + 1 : Nat) : Int) := by rw [IntKind.wrap_i64]; omega
                              have mn : m < n := by omega
                              have mln : ml < n := by omega
                              clear hml
                              obtain ⟨x, y, hT⟩ := HM.out.any (i := m) (j := ml) (by rw [← HN.out]; omega) (by rw [← HN.out]; omega)
                              have cx := (hT wr (Chg.refl _ _)).out.1
                              have cy := (hT wr (Chg.refl _ _)).out.2.1
                              clear hT
                              cases hlt : decide (x < y) with
                              | true =>
                                have HLS := keepH (less_is hlt)
                                clear hlt
                                go_upto_region 22 with fail
                                go_quiet (first | (go_at_call 46; refine (HLS.out _).mono ?_; rintro q r ⟨rfl, rfl⟩; exact ⟨rfl, _, rfl⟩))
                                obtain ⟨w22, hw22⟩ : ∃ z : World, z = wr.drewN nq := ⟨_, rfl⟩
                                have Ht22 : Hid (Same W g zs w22) := by rw [hw22]; exact HM.out.quiet (drewN_chg wr nq)
                                rw [← hw22]
                                clear hw22 cx cy HLS HM
                                go_upto_region 23 with fail
                                obtain ⟨x, y, hT⟩ := Ht22.out.any (i := m) (j := ml) (by rw [← HN.out]; omega) (by rw [← HN.out]; omega)
                                obtain ⟨k1, k2, k3, k4, k5, k7⟩ : _ := (hT w22 (Chg.refl _ _)).out
                                have k4 := k4 (.int .u64 (y : Int))
                                obtain ⟨u, k5⟩ := k5 (.int .u64 (y : Int))
                                obtain ⟨w9, hw9⟩ : ∃ w9, w9 = ((w22.setCell ⟨g, m, none⟩ (.int .u64 (y : Int))).setCell ⟨g, ml, none⟩ (.int .u64 (x : Int))).drew := ⟨_, rfl⟩
                                have Hs23 : Hid (Same W g zs w9) := by rw [hw9]; exact k7.quiet (Chg.refl _ _).drew
                                clear k7 hT
                                go_region
                                all_goals (
                                  rw [← hw9]
                                  clear hw9 k1 k2 k3 k4 k5
                                  go_wp2_with fail
                                  go_roundw
                                  case rel => exact ⟨m + 1, by omega, by omega, by first | rfl | go_num, Hs23⟩
                                  case measure => simp [intOf]; omega)
                              | false =>
                                have HLS := keepH (less_is hlt)
                                clear hlt
                                go_upto_region 22 with fail
                                go_quiet (first | (go_at_call 46; refine (HLS.out _).mono ?_; rintro q r ⟨rfl, rfl⟩; exact ⟨rfl, _, rfl⟩))
                                obtain ⟨w22, hw22⟩ : ∃ z : World, z = wr.drewN nq := ⟨_, rfl⟩
                                have Ht22 : Hid (Same W g zs w22) := by rw [hw22]; exact HM.out.quiet (drewN_chg wr nq)
                                rw [← hw22]
                                clear hw22 cx cy HLS HM
                                have wjj : IntKind.i64.wrap ((jj : Int) + 1) = ((jj + 1 : Nat) : Int) := by rw [IntKind.wrap_i64]; omega
                                go_wp2_with fail
                                go_roundw
                                case rel => exact ⟨i, jj + 1, by omega, by omega, by omega, by first | rfl | go_num, by first | rfl | go_num, Ht22⟩
                                case measure => simp [intOf]; omega
                            · have t8 : ¬ (m : Int) < (b : Int) := by omega
                              have wjj : IntKind.i64.wrap ((jj : Int) + 1) = ((jj + 1 : Nat) : Int) := by rw [IntKind.wrap_i64]; omega
                              go_wp2_with fail
                              go_roundw
                              case rel => exact ⟨i, jj + 1, by omega, by omega, by omega, by first | rfl | go_num, by first | rfl | go_num, HM⟩
                              case measure => simp [intOf]; omega
                        · have t7 : ¬ (2 : Int) ≤ (bi : Int) := by omega
                          have wjj : IntKind.i64.wrap ((jj : Int) + 1) = ((jj + 1 : Nat) : Int) := by rw [IntKind.wrap_i64]; omega
                          go_wp2_with fail
                          go_roundw
                          case rel => exact ⟨i, jj + 1, by omega, by omega, by omega, by first | rfl | go_num, by first | rfl | go_num, HK⟩
                          case measure => simp [intOf]; omega
                  · have t5 : ¬ (2 : Int) ≤ (ia : Int) := by omega
                    by_cases hbi : 2 ≤ bi
                    · have t7 : (2 : Int) ≤ (bi : Int) := by omega
                      go_wp2_with fail
                      go_loopw [10] (fun sM wr => ∃ m : Nat, i + 1 ≤ m ∧ m ≤ b ∧ sM = .int .i64 (m : Int) ∧ Hid (Same W g zs wr)) (fun sM _ => n + 1 - (intOf sM).toNat)
                      case atStart => exact ⟨i + 1, by omega, by have := HBI.out; omega, by first | rfl | go_num, Hs11⟩
                      case round =>
                        obtain ⟨m, hm1, hm2, rfl, HM⟩ := hrel
                        by_cases hmb : m < b
                        · have t8 : (m : Int) < (b : Int) := by omega
                          obtain ⟨ml, hml⟩ : ∃ ml, m = ml + 1 := ⟨m - 1, by omega⟩
                          have wml : IntKind.i64.wrap ((m : Int) - 1) = (ml : Int) := by rw [IntKind.wrap_i64]; omega
                          have wmu : IntKind.i64.wrap ((m : Int) + 1) = ((m + 1 : Nat) : Int) := by rw [IntKind.wrap_i64]; omega
                          have mn : m < n := by omega
                          have mln : ml < n := by omega
                          clear hml
                          obtain ⟨x, y, hT⟩ := HM.out.any (i := m) (j := ml) (by rw [← HN.out]; omega) (by rw [← HN.out]; omega)
                          have cx := (hT wr (Chg.refl _ _)).out.1
                          have cy := (hT wr (Chg.refl _ _)).out.2.1
                          clear hT
                          cases hlt : decide (x < y) with
                          | true =>
                            have HLS := keepH (less_is hlt)
                            clear hlt
                            go_upto_region 22 with fail
                            go_quiet (first | (go_at_call 46; refine (HLS.out _).mono ?_; rintro q r ⟨rfl, rfl⟩; exact ⟨rfl, _, rfl⟩))
                            obtain ⟨w22, hw22⟩ : ∃ z : World, z = wr.drewN nq := ⟨_, rfl⟩
                            have Ht22 : Hid (Same W g zs w22) := by rw [hw22]; exact HM.out.quiet (drewN_chg wr nq)
                            rw [← hw22]
                            clear hw22 cx cy HLS HM
                            go_upto_region 23 with fail
                            obtain ⟨x, y, hT⟩ := Ht22.out.any (i := m) (j := ml) (by rw [← HN.out]; omega) (by rw [← HN.out]; omega)
                            obtain ⟨k1, k2, k3, k4, k5, k7⟩ : _ := (hT w22 (Chg.refl _ _)).out
                            have k4 := k4 (.int .u64 (y : Int))
                            obtain ⟨u, k5⟩ := k5 (.int .u64 (y : Int))
                            obtain ⟨w9, hw9⟩ : ∃ w9, w9 = ((w22.setCell ⟨g, m, none⟩ (.int .u64 (y : Int))).setCell ⟨g, ml, none⟩ (.int .u64 (x : Int))).drew := ⟨_, rfl⟩
                            have Hs23 : Hid (Same W g zs w9) := by rw [hw9]; exact k7.quiet (Chg.refl _ _).drew
                            clear k7 hT
                            go_region
                            all_goals (
                              rw [← hw9]
                              clear hw9 k1 k2 k3 k4 k5
                              go_wp2_with fail
                              go_roundw
                              case rel => exact ⟨m + 1, by omega, by omega, by first | rfl | go_num, Hs23⟩
                              case measure => simp [intOf]; omega)
                          | false =>
                            have HLS := keepH (less_is hlt)
                            clear hlt
                            go_upto_region 22 with fail
                            go_quiet (first | (go_at_call 46; refine (HLS.out _).mono ?_; rintro q r ⟨rfl, rfl⟩; exact ⟨rfl, _, rfl⟩))
                            obtain ⟨w22, hw22⟩ : ∃ z : World, z = wr.drewN nq := ⟨_, rfl⟩
                            have Ht22 : Hid (Same W g zs w22) := by rw [hw22]; exact HM.out.quiet (drewN_chg wr nq)
                            rw [← hw22]
                            clear hw22 cx cy HLS HM
                            have wjj : IntKind.i64.wrap ((jj : Int) + 1) = ((jj + 1 : Nat) : Int) := by rw [IntKind.wrap_i64]; omega
                            go_wp2_with fail
                            go_roundw
                            case rel => exact ⟨i, jj + 1, by omega, by omega, by omega, by first | rfl | go_num, by first | rfl | go_num, Ht22⟩
                            case measure => simp [intOf]; omega
                        · have t8 : ¬ (m : Int) < (b : Int) := by omega
                          have wjj : IntKind.i64.wrap ((jj : Int) + 1) = ((jj + 1 : Nat) : Int) := by rw [IntKind.wrap_i64]; omega
                          go_wp2_with fail
                          go_roundw
                          case rel => exact ⟨i, jj + 1, by omega, by omega, by omega, by first | rfl | go_num, by first | rfl | go_num, HM⟩
                          case measure => simp [intOf]; omega
                    · have t7 : ¬ (2 : Int) ≤ (bi : Int) := by omega
                      have wjj : IntKind.i64.wrap ((jj : Int) + 1) = ((jj + 1 : Nat) : Int) := by rw [IntKind.wrap_i64]; omega
                      go_wp2_with fail
                      go_roundw
                      case rel => exact ⟨i, jj + 1, by omega, by omega, by omega, by first | rfl | go_num, by first | rfl | go_num, Hs11⟩
                      case measure => simp [intOf]; omega
    · have t0 : ¬ (jj : Int) < 5 := by omega
      go_wp2_with fail
      exact bodyPost_ret (results_tmp rfl _ _ _) rfl ⟨.inl rfl, HO.out⟩
end Go.Proofs.Ytomdnmmghdmpgaa
