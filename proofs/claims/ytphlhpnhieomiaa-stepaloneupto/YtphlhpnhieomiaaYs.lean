/- StepAlone, walked. -/
import Derived.Test.YtphlhpnhieomiaaYt
import Derived.Deep.RegionHeld3
import Derived.Deep.CutRange
namespace Go.Proofs.Ytphlhpnhieomiaa
open Go.RowKit Go.Shelf
set_option linter.unusedVariables false

def Same (w w' : World) : Prop := w = w'
theorem Same.refl (w : World) : Same w w := rfl
theorem infoU2 : (Try.prog.info? 51).map (fun i => (i.zero, i.size, i.bytes)) = some (some (.int .u64 0), 1, 8) := by kernel_rfl
set_option maxRecDepth 100000 in
set_option maxHeartbeats 16000000 in
theorem alone_walk {W : World} {p : Option Addr} {c : Nat} {l : List PlP} {lp : Nat → Option Addr} {lc : Nat → Nat} (hP : PlansAt W W.heap.size p l lp lc) (hl : l.length ≤ 1048576) (hLl : ∀ q ∈ l, q.L.length ≤ 1048576) (most : Int) (hm : -9223372036854775808 ≤ most ∧ most ≤ 9223372036854775807) :
    Calls Try.prog 3 #[.slice p l.length c, .int .i64 most] W fun e W' => e = .returned (.bool true) ∧ Chg (fun _ => False) W W' := by
  have hsum := pre_all hl hLl
  obtain ⟨i0, hi0, hz0, hz1, hz2⟩ := info_parts infoU2
  have HP := keepH hP
  have HLL := keepH hLl
  have HL1 := keepH (s_live W)
  clear hP hLl
  go_enter Try.func3, Try.ntmps3
  go_wp2_with fail
  refine HL1.out.mono ?_
  rintro e W0 ⟨rfl, c0⟩
  have HC0 := keepH c0
  clear c0
  go_wp2_with fail
  refine (m_new 200 W0 (by omega)).mono ?_
  rintro e W1 ⟨rfl, m1, b1, c1, z1⟩
  obtain ⟨b, eb⟩ : ∃ b, W0.heap.size = b := ⟨_, rfl⟩
  rw [eb] at m1 b1 z1 ⊢
  have HM1 := keepH m1
  have HB1 := keepH b1
  have HC1 := keepH c1
  have HEB := keepH eb
  clear m1 b1 c1 eb
  go_wp2_with fail
  refine (r_new 200 W1 (by omega)).mono ?_
  rintro e W2 ⟨rfl, m2, c2, z2⟩
  rw [z1] at m2 z2 ⊢
  have HM2 : Hid (RMem W2 (fun k => k = b + 2 ∨ k = b + 3) (b + 3) 200 1 [] []) := m2
  have HC2 := keepH c2
  have HZ1 := keepH z1
  have HZ2 : Hid (W2.heap.size = b + 4) := z2
  clear m2 c2 z1 z2
  simp only [show b + 2 + 1 = b + 3 from rfl]
  go_wp2_with fail
  have HCW2 : Hid (Chg (fun _ => False) W (W2.alloc (.cells #[.slice p l.length c] 22))) := (((HC0.out.trans HC1.out (H := fun _ => False) (fun _ _ x => x) (fun _ _ x => x)).trans HC2.out (H := fun _ => False) (fun _ _ x => x) (fun _ _ x => x))).alloc _
  refine (pr_one (HP.out.chg (Nat.le_refl _) HCW2.out) HCW2.out.size (by omega) (cell_of (heap_alloc_new _ _) 0)).mono ?_
  rintro e W4 ⟨g4, g5, c4, c5, rfl, v7, v8, pb, hD⟩
  obtain ⟨p7, c7, e7⟩ := slice_row hD.pb.r7
  subst e7
  have k4 : W4.cell? ⟨g4, 0, none⟩ = some (.slice p7 l.length c7) := by
    obtain ⟨cur, a1, a2⟩ := hD.a
    rw [cell_of a1 0]; exact a2
  have HD := keepH hD
  clear hD
  go_wp2_with fail
  refine (new_row_any (row_base HD.out.pb.r7) (by omega) (ifL_one l pb _)).mono ?_
  rintro e W5 ⟨⟨rb, rfl, hrb, vr, hrow, hrv, hvr⟩, c5'⟩
  obtain ⟨HS1, HV7⟩ : Hid (S1 W W5 p l lp lc pb b g5 rb v8 vr) ∧ Hid (V7 W5 g4 l.length b (.slice p7 l.length c7) vr) := s1_start HP.out HC0.out HEB.out HM1.out HB1.out HC1.out HZ1.out HM2.out HC2.out HZ2.out HD.out c5' hrb hrow hrv hvr
  clear hrb hrow hrv hvr c5' k4 HD HCW2 HM1 HB1 HC1 HM2 HC2 HZ1 HZ2 HC0 HEB HL1
  go_wp2_with fail
  go_loopw [12] (fun s wr => ∃ i : Nat, i ≤ l.length ∧ s = .int .i64 (i : Int) ∧ Hid (S1 W wr p l lp lc pb b g5 rb v8 vr ∧ V7 wr g4 l.length b (.slice p7 l.length c7) vr)) (fun s _ => l.length - (intOf s).toNat)
  case atStart => exact ⟨0, Nat.zero_le _, rfl, HS1.out, HV7.out⟩
  case round =>
    clear HS1 HV7
    obtain ⟨i, hi, rfl, HX⟩ := hrel
    have k4 := HX.out.2.at0
    by_cases hlt : i < l.length
    · have q1 : (i : Int) < (l.length : Int) := by omega
      obtain ⟨p7', c7', e7, hg7⟩ := HX.out.2.sh
      injection e7 with e7 _ _
      obtain ⟨g7, rfl⟩ := hg7 (by omega)
      subst e7
      obtain ⟨⟨u, hu⟩, hfr⟩ := HX.out.2.cells (g := g7) rfl hlt
      go_wp2_with fail
      go_roundw
      case rel => exact ⟨i + 1, by omega, by first | rfl | go_num, HX.out.1.wipe HX.out.2 rfl _, HX.out.2.set rfl _⟩
      case measure => simp [intOf]; omega
    · have q1 : ¬ (i : Int) < (l.length : Int) := by omega
      have HS1 := keepH HX.out.1
      clear HX
      obtain ⟨w6, hw6⟩ : ∃ w6, w6 = wr := ⟨_, rfl⟩
      subst hw6
      go_wp2_with fail
      clear k4 q1
      go_loopw [13, 14] (fun s13 s14 wx => ∃ j : Nat, j ≤ l.length ∧ s13 = .int .i64 (pre l j : Int) ∧ s14 = .int .i64 (j : Int) ∧ Same wx w6) (fun _ s _ => l.length - (intOf s).toNat)
      case atStart => exact ⟨0, Nat.zero_le _, by rw [pre_zero]; rfl, rfl, Same.refl _⟩
      case round =>
        obtain ⟨j, hj, rfl, rfl, hwx⟩ := hrel
        have hwx' : w6 = wr := hwx.symm
        clear hwx
        subst hwx'
        by_cases hjt : j < l.length
        · have q1 : (j : Int) < (l.length : Int) := by omega
          obtain ⟨q, hq⟩ : ∃ q, l[j]? = some q := ⟨l[j], List.getElem?_eq_getElem hjt⟩
          obtain ⟨⟨bk, off, rfl, hbk, d0, d1⟩, _⟩ := HS1.out.pl j q hq
          have e1 := pre_succ hq
          have e2 := pre_mono l (show j + 1 ≤ l.length by omega)
          have hLq := HLL.out q (List.mem_of_getElem? hq)
          clear hbk
          cases hn : q.none with
          | true =>
            rw [hn] at d0
            have e3 : nst q = 1 := by unfold nst; rw [if_pos hn]
            rw [e3] at e1
            have HE1 := keepH e1
            have HQ := keepH hq
            clear hq hn e3
            go_wp2_with fail
            go_roundw
            case rel => exact ⟨j + 1, by omega, by rw [HE1.out]; first | rfl | go_num, by first | rfl | go_num, Same.refl _⟩
            case measure => simp [intOf]; omega
          | false =>
            rw [hn] at d0
            have e3 : nst q = if q.L.length < 1 then 1 else q.L.length := by unfold nst; rw [if_neg (by simp [hn])]
            by_cases hz : q.L.length < 1
            · have q2 : ((q.L.length : Nat) : Int) < 1 := by omega
              rw [if_pos hz] at e3
              rw [e3] at e1
              have HE1 := keepH e1
              clear hq hn e3
              go_wp2_with fail
              go_roundw
              case rel => exact ⟨j + 1, by omega, by rw [HE1.out]; first | rfl | go_num, by first | rfl | go_num, Same.refl _⟩
              case measure => simp [intOf]; omega
            · have q2 : ¬ ((q.L.length : Nat) : Int) < 1 := by omega
              rw [if_neg hz] at e3
              rw [e3] at e1
              have HE1 := keepH e1
              clear hq hn e3
              go_wp2_with fail
              go_roundw
              case rel => exact ⟨j + 1, by omega, by rw [HE1.out]; first | rfl | go_num, by first | rfl | go_num, Same.refl _⟩
              case measure => simp [intOf]; omega
        · have q1 : ¬ (j : Int) < (l.length : Int) := by omega
          obtain rfl : j = l.length := by omega
          go_upto_if 82 with fail
          go_cut [13] from 13 to 82 (fun s13 wz => s13 = .int .i64 (nd l : Int) ∧ Same wz w6)
          case first =>
            by_cases hz : pre l l.length < 1
            · have q2 : ((pre l l.length : Nat) : Int) < 1 := by omega
              have hnd : nd l = 1 := by unfold nd; rw [if_pos hz]
              clear hz
              go_wp2_with fail
              go_meet
              exact ⟨by simp [hnd], Same.refl _⟩
            · have q2 : ¬ ((pre l l.length : Nat) : Int) < 1 := by omega
              have hnd : nd l = pre l l.length := by unfold nd; rw [if_neg hz]
              clear hz
              go_wp2_with fail
              go_meet
              exact ⟨by simp [hnd], Same.refl _⟩
          case rest =>
            obtain ⟨rfl, hwc⟩ := hcut
            have hwc' : w6 = wc := hwc.symm
            clear hwc
            subst hwc'
            clear q1 hj hjt
            go_wp2_with fail
            refine (m_view (b + 1) b 3 _ HS1.out.mem).mono ?_
            rintro e w7 ⟨rfl, hw7⟩
            obtain ⟨hS1', hv7, hv5⟩ : S1 W w7 p l lp lc pb b g5 rb v8 vr ∧ IsView w7 w6.heap.size b 3 0 ∧ b + 5 ≤ w6.heap.size := by rw [hw7]; exact HS1.out.view
            obtain ⟨v, hv⟩ : ∃ v, w6.heap.size = v := ⟨_, rfl⟩
            rw [hv] at hv7 hv5 ⊢
            have HAL := keepH (alone_any hS1' hv7 hv5 most hsum HLL.out)
            obtain ⟨d, hd⟩ : ∃ d, d = decide ((nd l : Int) ≤ most) := ⟨_, rfl⟩
            rw [← hd] at HAL
            have HD := keepH hd
            clear hS1' hv7 hv5 hw7 HS1 hv hd
            go_wp2_with fail
            refine HAL.out.mono ?_
            rintro e w8 ⟨rfl, I, S, made, hPos, hS3, hRM⟩
            have HPos := keepH hPos
            have HS3 := keepH hS3
            have HRM := keepH hRM
            clear hPos hS3 hRM HAL
            go_upto_region 23 with fail
            go_cut [94] from 90 to 94 (fun s94 wz => s94 = .bool false ∧ Same wz w8)
            case first =>
              cases d with
              | true =>
                have q2 : (nd l : Int) ≤ most := of_decide_eq_true HD.out.symm
                go_wp2_with fail
                go_meet
                exact ⟨by first | rfl | simp, Same.refl _⟩
              | false =>
                have q2 : ¬ (nd l : Int) ≤ most := of_decide_eq_false HD.out.symm
                go_wp2_with fail
                go_meet
                exact ⟨by first | rfl | simp, Same.refl _⟩
            case rest =>
              obtain ⟨rfl, hwc⟩ := hcut
              have hwc' : w8 = wc := hwc.symm
              clear hwc
              subst hwc'
              go_upto_if 95 with fail
              go_cut [] from 18 to 107 (fun wz => Hid (Chg (fun _ => False) w8 wz))
              case first =>
                cases d with
                | true =>
                  have q2 : (nd l : Int) ≤ most := of_decide_eq_true HD.out.symm
                  have hI : I = l.length := by
                    have h1 := HPos.out.at_
                    have h3 : pre l l.length ≤ most.toNat := by unfold nd at q2; split at q2 <;> omega
                    have h4 := (pos_le HPos.out (Nat.le_refl _)).1 h3
                    have h5 := HPos.out.le
                    omega
                  have HRD : Hid (∀ vv, Calls Try.prog 14 #[.pointer (some ⟨rb, 0, none⟩), vv] w8 fun e Y => e = .returned (.bool true) ∧ ∃ q, Y = w8.drewN q) := fun vv => by
                    obtain ⟨⟨rs, rc, hr⟩, _⟩ := HS3.out.row
                    rw [hI] at hr
                    exact row_done hr
                  have HV := keepH HS3.out.view.1
                  clear q2 hI
                  go_wp2_with fail
                  refine (v_accesses v b made 3 _ HV.out).mono ?_
                  rintro e w9 ⟨rfl, hw9⟩
                  subst hw9
                  go_wp2_with fail
                  refine (HRD.out _).mono ?_
                  rintro e w9 ⟨rfl, q9, hw9⟩
                  have HW9 := keepH hw9
                  have HV9 : Hid (IsView w9 v b 3 made) := by rw [hw9]; exact HV.out
                  clear hw9
                  go_wp2_with fail
                  refine (v_accesses v b made 3 _ HV9.out).mono ?_
                  rintro e w10 ⟨rfl, hw10⟩
                  subst hw10
                  have q3 : ((made : Int) != (made : Int)) = false := by simp
                  go_wp2_with fail
                  go_meet
                  exact (by rw [HW9.out]; exact drewN_chgY _ _)
                | false =>
                  go_wp2_with fail
                  go_meet
                  exact Chg.refl _ _
              case rest =>
                obtain ⟨w9, hw9⟩ : ∃ w9, w9 = wc := ⟨_, rfl⟩
                subst hw9
                have HC9 := keepH hcut.out
                have HS9 : Hid (S3 W w9 p l lp lc pb b v g5 rb v8 I S made) := HS3.out.on (hcut.out.mono (fun _ _ x => x.elim))
                have HR9 : Hid (RM w9 (R0 b) (b + 3) 200 1 [] []) := HRM.out.chg hcut.out (fun _ _ x => x)
                clear hcut HS3 HRM HC9
                go_upto_if 110 with fail
                go_cut [19] from 19 to 110 (fun s19 wz => s19 = .int .i64 (most.toNat : Int) ∧ Same wz w9)
                case first =>
                  by_cases hz : most < 0
                  · have e0 : most.toNat = 0 := by omega
                    have HE := keepH e0
                    clear e0
                    go_wp2_with fail
                    go_meet
                    exact ⟨by simp [HE.out], Same.refl _⟩
                  · have e0 : (most.toNat : Int) = most := by omega
                    have HE := keepH e0
                    clear e0
                    go_wp2_with fail
                    go_meet
                    exact ⟨by rw [HE.out], Same.refl _⟩
                case rest =>
                  obtain ⟨rfl, hwc⟩ := hcut
                  have hwc' : w9 = wc := hwc.symm
                  clear hwc
                  subst hwc'
                  obtain ⟨p8, c8, e8⟩ := slice_row HS9.out.r8
                  subst e8
                  go_wp2_with fail
                  go_loopw [19, 20, 21] (fun s19 s20 s21 wr => ∃ (x : Nat) (z : Int), x ≤ l.length ∧ s19 = .int .i64 z ∧ s20 = .int .i64 ((ptL l pb x).length : Int) ∧ s21 = .int .i64 (x : Int) ∧ (-(x : Int) ≤ z ∧ z ≤ 9223372036854775807) ∧ Hid (LeftAt l most.toNat x z ∧ DS b w9 wr (dM ⟨1, []⟩ l most.toNat I S x) (dT ⟨1, []⟩ l most.toNat I S x))) (fun _ _ s _ => l.length - (intOf s).toNat)
                  case atStart => exact ⟨0, most.toNat, Nat.zero_le _, rfl, rfl, rfl, ⟨by omega, by omega⟩, ⟨fun _ => by rw [pre_zero]; simp, fun h => by rw [pre_zero] at h; omega, by omega⟩, by rw [d_start.1, d_start.2]; exact DS.start HR9.out⟩
                  case round =>
                    obtain ⟨x, z, hx, rfl, rfl, rfl, ⟨hzl, hzh⟩, HX⟩ := hrel
                    obtain ⟨w10, hw10⟩ : ∃ w10, w10 = wr := ⟨_, rfl⟩
                    subst hw10
                    have HSr : Hid (S3 W w10 p l lp lc pb b v g5 rb (.slice p8 (ptL l pb l.length).length c8) I S made) := HS9.out.on HX.out.2.1
                    by_cases hlt : x < l.length
                    · have q1 : (x : Int) < (l.length : Int) := by omega
                      obtain ⟨q, hq⟩ : ∃ q, l[x]? = some q := ⟨l[x], List.getElem?_eq_getElem hlt⟩
                      obtain ⟨⟨bk, off, rfl, hbk, d0, d1⟩, hdos⟩ := HSr.out.pl x q hq
                      have HQ := keepH hq
                      have hLq := HLL.out q (List.mem_of_getElem? hq)
                      clear hbk hdos hq
                      cases hn : q.none with
                      | true =>
                        rw [hn] at d0
                        have HN := keepH hn
                        clear hn
                        go_wp2_with fail
                        go_roundw
                        case rel => exact ⟨x + 1, z - 1, by omega, by first | rfl | go_num, by rw [pt_none HQ.out HN.out], by first | rfl | go_num, ⟨by omega, by omega⟩, (d_none (m0 := ⟨1, []⟩) HPos.out HQ.out HN.out HX.out.1).2.2, by rw [(d_none (m0 := ⟨1, []⟩) HPos.out HQ.out HN.out HX.out.1).1, (d_none (m0 := ⟨1, []⟩) HPos.out HQ.out HN.out HX.out.1).2.1]; exact HX.out.2⟩
                        case measure => simp [intOf]; omega
                      | false =>
                        rw [hn] at d0
                        have HN := keepH hn
                        clear hn
                        obtain ⟨μ, hμ⟩ : ∃ μ, μ = dM ⟨1, []⟩ l most.toNat I S x := ⟨_, rfl⟩
                        obtain ⟨τ, hτ⟩ : ∃ τ, τ = dT ⟨1, []⟩ l most.toNat I S x := ⟨_, rfl⟩
                        obtain ⟨e, he⟩ : ∃ e, e = min (nst q) z.toNat := ⟨_, rfl⟩
                        have HDE := keepH (d_some (m0 := ⟨1, []⟩) HPos.out HQ.out HX.out.1)
                        rw [← hμ, ← hτ, ← he] at HDE
                        have HDS : Hid (DS b w9 w10 μ τ) := by rw [hμ, hτ]; exact HX.out.2
                        have HNX : Hid (μ.next ≤ 200) := by rw [hμ]; exact dM_nx _ _ _ _ _
                        have HTL : Hid (0 < z → τ.length + nst q ≤ 1099511627776) := fun h0 => by
                          have a1 := dT_len (m0 := ⟨1, []⟩) (I := I) (S := S) (show x ≤ l.length by omega) HX.out.1 h0
                          have a2 := pre_succ HQ.out
                          have a3 := pre_mono l (show x + 1 ≤ l.length by omega)
                          rw [hτ]
                          omega
                        have hnL := nst_loop HN.out
                        have HE := keepH he
                        have hez : e ≤ nst q ∧ (e : Int) ≤ max z 0 := by omega
                        have hnq : nst q ≤ 1048576 := by unfold nst; split; omega; split <;> omega
                        clear hμ hτ he HX
                        go_upto_block 6 with fail
                        go_cut [19, 22, 23] (fun s19 s22 s23 wz => s19 = .int .i64 (z - (e : Int)) ∧ ∃ gp gc, s22 = .slice gp (runG 200 μ (doL q e)).length gc ∧ Hid (DG b w9 wz (runM 200 μ (doL q e)) (τ ++ runT 3 200 μ (doL q e)) (runG 200 μ (doL q e)) (.slice gp (runG 200 μ (doL q e)).length gc)))
                        case first =>
                          go_wp2_with fail
                          go_loopw [19, 22, 23] (fun s19 s22 s23 wz => ∃ s : Nat, s ≤ e ∧ s19 = .int .i64 (z - (s : Int)) ∧ s23 = .int .i64 (s : Int) ∧ ∃ gp gc, s22 = .slice gp (runG 200 μ (doL q s)).length gc ∧ Hid (DG b w9 wz (runM 200 μ (doL q s)) (τ ++ runT 3 200 μ (doL q s)) (runG 200 μ (doL q s)) (.slice gp (runG 200 μ (doL q s)).length gc))) (fun _ _ s _ => nst q - (intOf s).toNat)
                          case atStart => exact ⟨0, by omega, by simp, rfl, none, 0, by rw [doL_zero]; rfl, by rw [doL_zero]; show DG b w9 w10 μ (τ ++ []) [] (.slice none 0 0); rw [List.append_nil]; exact HDS.out.gets⟩
                          case round =>
                            obtain ⟨s, hse, rfl, rfl, gp, gc, rfl, HG⟩ := hrel
                            obtain ⟨w11, hw11⟩ : ∃ w11, w11 = wr := ⟨_, rfl⟩
                            subst hw11
                            have HS11 : Hid (S3 W w11 (some ⟨bk, off, none⟩) l lp lc pb b v g5 rb (.slice p8 (ptL l pb l.length).length c8) I S made) := HS9.out.on HG.out.1
                            have y1 : w11.cell? ⟨bk, off + x * 2 + 1, none⟩ = some (.slice (lp x) q.L.length (lc x)) := by
                              obtain ⟨⟨bk', off', e', _, _, h1⟩, _⟩ := HS11.out.pl x q HQ.out
                              injection e' with e'
                              injection e' with e1 e2 _
                              subst e1 e2
                              exact h1
                            have y0 : w11.cell? ⟨bk, off + x * 2, none⟩ = some (.bool false) := by
                              obtain ⟨⟨bk', off', e', _, h0, _⟩, _⟩ := HS11.out.pl x q HQ.out
                              injection e' with e'
                              injection e' with e1 e2 _
                              subst e1 e2
                              rw [HN.out] at h0
                              exact h0
                            have HDO := keepH ((HS11.out.pl x q HQ.out).2)
                            have hgl : (runG 200 μ (doL q s)).length ≤ s := Nat.le_trans (runG_len _ _ _) (doL_len q s)
                            have HGL := keepH hgl
                            clear d0 d1 hgl
                            by_cases hs : s < nst q
                            · have hs2 := (hnL s).1 hs
                              by_cases hsl : s < q.L.length
                              · have t1 : (s : Int) < (q.L.length : Int) := by omega
                                by_cases hzs : z - (s : Int) ≤ 0
                                · have hes : s = e := by have := HE.out; omega
                                  have HES := keepH hes
                                  clear hes hs2
                                  go_wp2_with fail
                                  go_meet
                                  obtain rfl := HES.out
                                  exact ⟨rfl, gp, gc, rfl, HG.out⟩
                                · obtain ⟨d, hd⟩ : ∃ d, q.L[s]? = some d := ⟨q.L[s], List.getElem?_eq_getElem hsl⟩
                                  have hse2 : s + 1 ≤ e := by have := HE.out; omega
                                  obtain ⟨hok, bd, od, vp, vc, hlp, hbd, f0, f1, f2, f3, f4, hrd, hap⟩ := HDO.out s d hd
                                  have HOK := keepH hok
                                  have HHD := keepH hd
                                  have HRD := keepH hrd
                                  have HAP := keepH hap
                                  rw [hlp] at y1
                                  clear hd hok hrd hap hbd hs2 hlp
                                  by_cases k1 : 1 ≤ d.kd
                                  · by_cases k2 : d.kd ≤ 5
                                    · have hA : isA d = true := by unfold isA; simp [k1, k2]
                                      have HA := keepH hA
                                      obtain ⟨cg, hrow, R, hRM, hR2, hR3⟩ := HG.out
                                      have HMK := keepH (mk_any hRM (runM_next _ HNX.out) (by
                                        have a1 := HTL.out (by omega)
                                        have a2 := runT_len 3 200 μ (doL q s)
                                        have a3 := doL_len q s
                                        rw [List.length_append]
                                        omega) HOK.out HA.out (vc := vc) HRD.out (fun ad ha hv => by
                                          have a1 := HAP.out ad ha hv
                                          have a2 := HS9.out.lo.1
                                          have a3 := HS9.out.chg.size
                                          have a4 := cg.size
                                          exact ⟨fun r => by rcases hR2 _ r with (r | r) | r <;> omega, by omega⟩) 3)
                                      have HDM := keepH (fun wy (R' : Nat → Prop) (hR' : RM wy R' (b + 3) 200 (mkM 200 (runM 200 μ (doL q s)) d).next (mkM 200 (runM 200 μ (doL q s)) d).cs ((τ ++ runT 3 200 μ (doL q s)) ++ [mkA 3 200 (runM 200 μ (doL q s)) d])) (g : Goes w11 wy R R') => HG.out.made hRM hR2 hR3 hR' g)
                                      clear hA hrow hRM hR2 hR3 cg
                                      go_wp2_with fail
                                      refine HMK.out.mono ?_
                                      rintro e5 w12 ⟨rfl, R', hR', hgo⟩
                                      obtain ⟨HD2, HRW⟩ := HDM.out w12 R' hR' hgo
                                      have HD3 := keepH HD2
                                      have HR3 := keepH HRW
                                      have HSZ : Hid (w9.heap.size ≤ w12.heap.size) := HD2.1.size
                                      have hgl := HGL.out
                                      obtain ⟨r, hr⟩ : ∃ r, r = mkR 200 (runM 200 μ (doL q s)) d := ⟨_, rfl⟩
                                      have hr' : mkR 200 ⟨(runM 200 μ (doL q s)).next, (runM 200 μ (doL q s)).cs⟩ d = r := hr.symm
                                      rw [hr']
                                      have HR := keepH hr
                                      clear HD2 HRW hR' hgo hr hr' f0 f1 f2 f3 f4
                                      go_wp2_with (at_builtin; refine wpList_append_own_at _ rfl _ _ 49 rfl w9.heap.size 51 i0 (.int .u64 0) 1 8 Try.underlying49 hi0 hz0 hz1 hz2 rfl (by decide) _ _ _ rfl (HR3.out.alloc _) ⟨_, 0, none⟩ 1 1 [.int .u64 (r : Int)] rfl rfl (cells_new _ _ rfl _ _) (by intro u hu; simp at hu; subst hu; rfl) (by unfold maxLen; omega) (by omega) (Nat.le_trans HSZ.out (by simp)) ?_; intro v22 w13 r1 r2 r3 r4; obtain ⟨gp2, gc2, ev2⟩ := slice_row r1; have HD4 := keepH (HD3.out.told (r := r) r1 r2 r4); clear r1 r2 r3 r4; subst ev2)
                                      go_roundw
                                      case rel =>
                                        obtain ⟨n1, n2, n3⟩ := nx_some (m := μ) HN.out HHD.out HA.out
                                        have HR' := HR.out
                                        refine ⟨s + 1, hse2, by first | rfl | go_num | (congr 1; omega), by first | rfl | go_num, gp2, gc2, ?_, ?_⟩
                                        · rw [n2]; simp
                                        · rw [n1, n2, n3, ← List.append_assoc, ← HR']
                                          refine keepH ?_
                                          simpa using HD4.out
                                      case measure => simp [intOf]; omega
                                    · have HA : Hid (isA d = false) := by show isA d = false; unfold isA; simp [k2]
                                      go_wp2_with fail
                                      go_roundw
                                      case rel =>
                                        obtain ⟨n1, n2, n3⟩ := nx_idle (m := μ) HN.out HHD.out HA.out
                                        exact ⟨s + 1, hse2, by first | rfl | go_num | (congr 1; omega), by first | rfl | go_num, gp, gc, by rw [n2], by rw [n1, n2, n3]; exact HG.out⟩
                                      case measure => simp [intOf]; omega
                                  · have HA : Hid (isA d = false) := by show isA d = false; unfold isA; simp [k1]
                                    go_wp2_with fail
                                    go_roundw
                                    case rel =>
                                      obtain ⟨n1, n2, n3⟩ := nx_idle (m := μ) HN.out HHD.out HA.out
                                      exact ⟨s + 1, hse2, by first | rfl | go_num | (congr 1; omega), by first | rfl | go_num, gp, gc, by rw [n2], by rw [n1, n2, n3]; exact HG.out⟩
                                    case measure => simp [intOf]; omega
                              · have t1 : ¬ (s : Int) < (q.L.length : Int) := by omega
                                have t2 : (s : Int) < 1 := by omega
                                by_cases hzs : z - (s : Int) ≤ 0
                                · have hes : s = e := by have := HE.out; omega
                                  have HES := keepH hes
                                  clear hes hs2
                                  go_wp2_with fail
                                  go_meet
                                  obtain rfl := HES.out
                                  exact ⟨rfl, gp, gc, rfl, HG.out⟩
                                · have hse2 : s + 1 ≤ e := by have := HE.out; omega
                                  have HNN := keepH (nx_none (m := μ) HN.out (show q.L.length ≤ s by omega))
                                  clear hs2
                                  go_wp2_with fail
                                  go_roundw
                                  case rel =>
                                    obtain ⟨n1, n2, n3⟩ := HNN.out
                                    exact ⟨s + 1, hse2, by first | rfl | go_num | (congr 1; omega), by first | rfl | go_num, gp, gc, by rw [n2], by rw [n1, n2, n3]; exact HG.out⟩
                                  case measure => simp [intOf]; omega
                            · have hs2 : ¬ (s < q.L.length ∨ s < 1) := fun h => hs ((hnL s).2 h)
                              have t1 : ¬ (s : Int) < (q.L.length : Int) := by omega
                              have t2 : ¬ (s : Int) < 1 := by omega
                              have hes : s = e := by omega
                              have HES := keepH hes
                              clear hes hs2
                              go_wp2_with fail
                              go_meet
                              obtain rfl := HES.out
                              exact ⟨rfl, gp, gc, rfl, HG.out⟩
                        case rest =>
                          obtain ⟨rfl, gp, gc, rfl, HG⟩ := hcut
                          obtain ⟨w14, hw14⟩ : ∃ w14, w14 = wc := ⟨_, rfl⟩
                          subst hw14
                          have HS14 : Hid (S3 W w14 (some ⟨bk, off, none⟩) l lp lc pb b v g5 rb (.slice p8 (ptL l pb l.length).length c8) I S made) := HS9.out.on HG.out.1
                          obtain ⟨gv, a1, a2, _, _⟩ := HS14.out.got x q HQ.out HN.out
                          obtain ⟨hp1, hc1, ev⟩ := slice_of a2
                          subst ev
                          have hGe := HDE.out.2.2.2
                          rw [hGe] at a1 a2
                          have hkn : (ptL l pb x).length < (ptL l pb l.length).length := (List.getElem?_eq_some_iff.1 (ptL_at (pb := pb) HQ.out HN.out hlt)).1
                          have hpn := ptL_len l pb l.length
                          obtain ⟨g8, c8', e8⟩ := slice_pos (row_base HS14.out.r8) (by omega)
                          injection e8 with e8 _ e8c
                          subst e8 e8c
                          have k5 : w14.cell? ⟨g5, 0, none⟩ = some (.slice (some ⟨g8, 0, none⟩) (ptL l pb l.length).length c8) := by
                            obtain ⟨cur, m1, m2⟩ := HS14.out.mine
                            rw [cell_of m1 0]; exact m2
                          have k8 : w14.cell? ⟨g8, (ptL l pb x).length, none⟩ = some (.pointer (some ⟨pb x, 0, none⟩)) := by
                            rw [World.ownsRow.cellAt HS14.out.r8 _ (by omega)]
                            exact ptL_at HQ.out HN.out hlt
                          have kb : w14.cell? ⟨pb x, 2, none⟩ = some (.slice hp1 (runG 200 μ (doL q e)).length hc1) := cell_of a1 2
                          have HU := keepH (s_sameUq hp1 gp hc1 gc (runG 200 μ (doL q e)) w14 (UReads.of_row a2) (UReads.of_row (row_base HG.out.2.1)) (by
                            have := runG_len 200 μ (doL q e)
                            have := doL_len q e
                            omega))
                          have q5 : ¬ ((ptL l pb l.length).length : Int) ≤ ((ptL l pb x).length : Int) := by omega
                          clear a1 a2 hGe d0 d1
                          go_wp2_with fail
                          refine HU.out.mono ?_
                          rintro e6 w15 ⟨rfl, n15, hw15⟩
                          have HW15 := keepH hw15
                          clear hw15
                          go_wp2_with fail
                          go_roundw
                          case rel =>
                            obtain ⟨n1, n2, n3, _⟩ := HDE.out
                            refine ⟨x + 1, z - (e : Int), by omega, rfl, by rw [pt_some HQ.out HN.out]; first | rfl | go_num, by first | rfl | go_num, ⟨by have := n3.2.2; omega, by omega⟩, n3, ?_⟩
                            rw [n1, n2, HW15.out]
                            exact HG.out.ds.quiet (drewN_chgY _ _)
                          case measure => simp [intOf]; omega
                    · have q1 : ¬ (x : Int) < (l.length : Int) := by omega
                      obtain rfl : x = l.length := by omega
                      obtain ⟨en1, en2⟩ := d_end (m0 := ⟨1, []⟩) HPos.out
                      have hDS := HX.out.2
                      rw [en1, en2] at hDS
                      obtain ⟨_, R, ⟨lr, hRm, hbr⟩, _⟩ := hDS
                      obtain ⟨nc, av, os, RMa⟩ := hRm
                      obtain ⟨pa, ca, rfl⟩ := slice_of RMa.acc
                      obtain ⟨F, lb, hbk, hbl, _⟩ := HSr.out.bank
                      have eL : lr.length = lb.length := by have e1 := congrArg List.length hbr; have e2 := congrArg List.length hbl; simp at e1 e2; omega
                      have k9 : w10.cell? ⟨b + 3, 2, none⟩ = some (.slice pa lb.length ca) := by
                        have e := cell_of RMa.blk 2
                        rw [eL] at e
                        exact e
                      have HROW : Hid (w10.ownsRow 0 107 8 (.slice pa lb.length ca) lb.length (accRow lr)) := by
                        have e := RMa.acc
                        rw [eL] at e
                        exact e
                      have hll : lb.length ≤ 1099511627776 := by
                        have e2 := congrArg List.length hbl
                        have e3 := tS_le (th := 3) (most := 200) (m0 := ⟨1, []⟩) HPos.out
                        simp at e2
                        omega
                      have hvals : ∀ x ∈ tS 3 200 ⟨1, []⟩ l I S, x.vals.length ≤ 1099511627776 := tS_vals (fun q hq d hd => by
                        obtain ⟨i1, hi1⟩ := List.mem_iff_getElem?.1 hq
                        obtain ⟨i2, hi2⟩ := List.mem_iff_getElem?.1 hd
                        exact ((HSr.out.pl i1 q hi1).2 i2 d hi2).1.len) I S
                      have HVL : Hid (∀ x ∈ lb, x.vals.length ≤ 1099511627776) := fun x hx => hvals x.bare (by rw [← hbl]; exact List.mem_map_of_mem hx)
                      have HRV := keepH RMa.vals
                      have HBR : Hid (lr.map Acc.bare = lb.map Acc.bare) := hbr.trans hbl.symm
                      have HMT := keepH (m_trace (b + 1) b 200 _ F _ lb w10.drew (HSr.out.mem) (hbk.chg ((Chg.refl (fun _ => False) w10).drew) (fun _ _ x => x)) hll (fun x hx => by have := HVL.out x hx; omega))
                      have HSA : Hid (∀ W2 pt2 ct2 lk, Traced w10.drew W2 (.slice pt2 lb.length ct2) lb lk lb.length → Calls Try.prog 17 #[.slice pt2 lb.length ct2, .slice pa lb.length ca] W2 fun e W' => e = .returned (.bool true) ∧ ∃ q, W' = W2.drewN q) := fun W2 pt2 ct2 lk T => by
                        refine s_sameAV pt2 pa ct2 ca lb.length lk lr W2 T.row (row_kept HROW.out fun k e => T.chg.block k (row_lt HROW.out k e) (fun x => x)) T.len eL (fun ix x y hx hy => ?_) hll
                        have hil : ix < lb.length := by have := (List.getElem?_eq_some_iff.1 hx).1; have := T.len; omega
                        obtain ⟨zz, hzz⟩ : ∃ zz, lb[ix]? = some zz := ⟨lb[ix], List.getElem?_eq_getElem hil⟩
                        obtain ⟨vs, hv⟩ := T.same ix zz hzz
                        rw [hx] at hv
                        cases hv
                        have er := T.vals ix _ hil hx
                        have hb2 : y.bare = zz.bare := by
                          have e1 : (lr.map Acc.bare)[ix]? = (lb.map Acc.bare)[ix]? := by rw [HBR.out]
                          rw [List.getElem?_map, List.getElem?_map, hy, hzz] at e1
                          simpa using e1
                        have er2 := HRV.out y (List.mem_of_getElem? hy)
                        have er3 : W2.ownsRow 0 51 1 y.vs y.vals.length (y.vals.map u64V) := row_kept er2 (fun k e => T.chg.block k (row_lt er2 k e) (fun x => x))
                        have hvl := HVL.out zz (List.mem_of_getElem? hzz)
                        obtain ⟨yth, yk, ya, yx, yb, yvs, yvals, yg, yo⟩ := y
                        obtain ⟨zth, zk, za, zx, zb, zvs, zvals, zg, zo⟩ := zz
                        simp only [Acc.bare, Acc.mk.injEq, true_and] at hb2
                        obtain ⟨rfl, rfl, rfl, rfl, rfl, rfl, rfl, rfl⟩ := hb2
                        obtain ⟨pz, cz, ez⟩ := slice_of er
                        obtain ⟨py, cy, ey⟩ := slice_of er3
                        simp only at ez ey er er3 hvl
                        subst ez ey
                        exact ⟨rfl, rfl, rfl, rfl, rfl, rfl, rfl, yvals, by omega, ⟨pz, cz, rfl, UReads.of_row er⟩, py, cy, rfl, UReads.of_row er3⟩
                      have HCW := keepH HSr.out.chg
                      clear RMa hbr hbl hbk hvals en1 en2
                      go_upto_region 49 with fail
                      go_region_held3 (fun w' => w'.cell? ⟨b + 3, 2, none⟩ = some (.slice pa lb.length ca)) (first | exact hS3 | exact hS2 | exact k9)
                        (first | (go_at_call 18; refine HMT.out.mono ?_; rintro e W2 ⟨pt2, ct2, lk, rfl, T2⟩; have hS2 : W2.cell? ⟨b + 3, 2, none⟩ = some (.slice pa lb.length ca) := cell_chg T2.chg k9 (fun x => x); have HT2 := keepH T2; clear T2) | (go_at_call 17; refine (HSA.out _ _ _ _ HT2.out).mono ?_; rintro e W3' ⟨rfl, q3', hq3⟩; have hS3 : W3'.cell? ⟨b + 3, 2, none⟩ = some (.slice pa lb.length ca) := (by rw [hq3]; exact hS2); have HQ3 := keepH hq3; clear hq3))
                      have CE : Hid (Chg (fun _ => False) w10.drew W3') := by rw [HQ3.out]; exact HT2.out.chg.trans (drewN_chgY _ _) (fun _ _ x => x) (fun _ _ x => x)
                      clear hS2 hS3 k9
                      go_wp2_with fail
                      go_ret
                      exact ⟨by simp, HCW.out.trans (((Chg.refl (fun _ => False) w10).drew).trans CE.out (H := fun _ => False) (fun _ _ x => x) (fun _ _ x => x)) (fun _ _ x => x) (fun _ _ x => x)⟩
end Go.Proofs.Ytphlhpnhieomiaa
