/- Whatever the run of Takes and Nows: of two calls, the one behind the other, the later has no smaller stamp, and a Take behind a Take a greater one; when a Take has returned the cell stands above its stamp (shutterlaw08.CameraAhead is true for every input of bulk at most 1048576). -/
import Derived.Test.YtinhcphhdehmhaaRows
import Derived.WalkKit
import Derived.ProofKit
import Derived.OpenShut
import Derived.JoinedCond
import Derived.Carry
import Derived.Lib.SmallJoins
import Derived.Test.YtinhcphhdehmhaaCamZ
namespace Go.Proofs.Ytinhcphhdehmhaa.cameraAhead
open Go.ChangeShapes Go.WideShapes Go.ChangeAt Go.RowKit Go.Joins Go.Deep
set_option linter.unusedVariables false

theorem own : ownKnob Try.prog.godebug = none := by kernel_rfl
theorem laidOut : laidOutB Try.prog = true := by kernel_rfl

set_option maxRecDepth 100000 in
set_option maxHeartbeats 16000000 in
theorem walk (cell first : Nat) (pt : Option Addr) (ct : Nat) (ths : List ThR) (pp : Option Addr) (cp : Nat) (picks : List Int) (w : World) (hc : cell < 18446744073709551616) (hf : first < 18446744073709551616) (hT : ThsAt w pt ths) (hP : PicksAt w pp picks) (hnt : ths.length ≤ 1048576) (hnp : picks.length ≤ 1048576) :
    Calls Try.prog 5 #[.agg #[.int .u64 (cell : Int), .int .u64 (first : Int), .slice pt ths.length ct, .slice pp picks.length cp]] w fun e w' => e = .returned (.bool true) ∧ Below w.heap.size w w' := by
  have HT := keepH hT
  have HP := keepH hP
  obtain ⟨nt, hntv⟩ : ∃ nt, nt = ths.length := ⟨_, rfl⟩
  obtain ⟨np, hnpv⟩ : ∃ np, np = picks.length := ⟨_, rfl⟩
  have HNT := keepH hntv
  have HNP := keepH hnpv
  rw [← hntv, ← hnpv]
  obtain ⟨W0, hW0⟩ : ∃ W0, W0 = w.alloc (.cells #[.int .u64 (cell : Int), .int .u64 (first : Int), .slice pt nt ct, .slice pp np cp] 26) := ⟨_, rfl⟩
  have C0 : Hid (Chg (fun _ => False) w W0) := by rw [hW0]; exact (Chg.refl _ _).alloc _
  have b0 : Hid (W0.heap[w.heap.size]? = some (.cells #[.int .u64 (cell : Int), .int .u64 (first : Int), .slice pt nt ct, .slice pp np cp] 26 (0, 0))) := by rw [hW0]; exact heap_alloc_new _ _
  clear hT hP hntv hnpv
  go_enter Try.func5, Try.ntmps5
  go_upto_region 1 with fail
  rw [← hW0]
  obtain ⟨bx, hbx⟩ : ∃ bx, bx = w.heap.size := ⟨_, rfl⟩
  rw [← hbx] at b0 ⊢
  clear hW0 hbx
  go_wp2_with fail
  refine (c_live W0).mono ?_
  rintro e W1 ⟨rfl, C1⟩
  have HC1 : Hid (Chg (fun _ => False) w W1) := C0.out.trans C1 (fun _ _ x => x) (fun _ _ x => x)
  have b1 : Hid (W1.heap[bx]? = some (.cells #[.int .u64 (cell : Int), .int .u64 (first : Int), .slice pt nt ct, .slice pp np cp] 26 (0, 0))) := (C1.block bx (lt_of b0.out) (fun x => x)).trans b0.out
  have k0 : W1.cell? ⟨bx, 0, none⟩ = some (.int .u64 (cell : Int)) := cell_of b1.out 0
  have k1 : W1.cell? ⟨bx, 1, none⟩ = some (.int .u64 (first : Int)) := cell_of b1.out 1
  have k2 : W1.cell? ⟨bx, 2, none⟩ = some (.slice pt nt ct) := cell_of b1.out 2
  have k3 : W1.cell? ⟨bx, 3, none⟩ = some (.slice pp np cp) := cell_of b1.out 3
  have HK : Hid (Calls Try.prog 9 #[.agg #[.int .u64 (cell : Int), .int .u64 (first : Int), .slice pt nt ct, .slice pp np cp]] W1 fun e W' => ∃ al W1' m b nm nB aB vB F R cs l pcs pb nb tb cur ats vw tg, e = .returned (.tuple #[al, .pointer (some ⟨m, 0, none⟩), .bool true]) ∧ W1.heap.size ≤ W1'.heap.size ∧ RS W1' W' cell ths.length m b nm nB aB vB F R cs l al pcs pb nb tb cur ats vw tg ∧ CI (decide (cell < 128)) (firstOf cell first) (cellN cs cell) picks.length pcs ∧ pcs.length ≤ picks.length ∧ Chg (fun _ => False) W1 W') := by
    rw [HNT.out, HNP.out]
    exact c_ran cell first pt ct ths pp cp picks W1 hc hf (HT.out.chg HC1.out) (HP.out.chg HC1.out) hnt hnp
  clear C1
  go_wp2_with fail
  refine HK.out.mono ?_
  rintro e W2 ⟨al, Wb, m, b, nm, nB, aB, vB, F, R, cs, l, pcs, pb, nb, tb, cur, ats, vw, tg, rfl, _, hRS, hCI, hPL, C2⟩
  have HC2 : Hid (Chg (fun _ => False) w W2) := HC1.out.trans C2 (fun _ _ x => x) (fun _ _ x => x)
  have b2 : Hid (W2.heap[bx]? = some (.cells #[.int .u64 (cell : Int), .int .u64 (first : Int), .slice pt nt ct, .slice pp np cp] 26 (0, 0))) := (C2.block bx (lt_of b1.out) (fun x => x)).trans b1.out
  have HSE := keepH (hRS.seen hc)
  have HSM := keepH hRS.small
  have HCI := keepH hCI
  have HPL : Hid (pcs.length ≤ 1048576) := by show _ ≤ _; omega
  obtain ⟨c, hcv⟩ : ∃ c, c = cellN cs cell := ⟨_, rfl⟩
  rw [← hcv] at HSE HSM HCI
  clear hRS hCI hPL C2 k0 k1 k2 k3 HK hcv
  obtain ⟨n, hn⟩ : ∃ n, n = pcs.length := ⟨_, rfl⟩
  have HN := keepH hn
  have hnb : n ≤ 1048576 := by have := HPL.out; have := HN.out; omega
  obtain ⟨pa, ca, hal⟩ : ∃ pa ca, al = .slice pa n ca := by rw [hn]; exact slice_of HSE.out.all
  subst hal
  clear hn
  by_cases h128 : cell < 128
  · have d0 : ¬ (128 : Int) ≤ (cell : Int) := by omega
    have db : decide ((128 : Int) ≤ (cell : Int)) = false := decide_eq_false d0
    have hFO : firstOf cell first = first := by simp [firstOf, h128]
    have HCJ : Hid (CI true first c picks.length pcs) := keepH (by have e := HCI.out; rw [hFO] at e; simpa [h128] using e)
    have q0 : W2.cell? ⟨bx, 0, none⟩ = some (.int .u64 (cell : Int)) := cell_of b2.out 0
    clear hFO
    go_wp2_with fail
    clear q0
    go_loopw [6] (fun s6 wr => ∃ i : Nat, i ≤ n ∧ s6 = .int .i64 (i : Int) ∧ Hid (Seen wr cell m (.slice pa n ca) pcs pb nb tb c ∧ Chg (fun _ => False) W2 wr)) (fun s6 _ => n - (intOf s6).toNat)
    case atStart => exact ⟨0, by omega, rfl, keepH ⟨HSE.out, Chg.refl _ _⟩⟩
    case round =>
      obtain ⟨wi, hwi⟩ : ∃ wi, wi = wr := ⟨_, rfl⟩
      rw [← hwi] at hrel ⊢
      clear hwi
      obtain ⟨i, hi, rfl, HI⟩ := hrel
      have b3 : Hid (wi.heap[bx]? = some (.cells #[.int .u64 (cell : Int), .int .u64 (first : Int), .slice pt nt ct, .slice pp np cp] 26 (0, 0))) := (HI.out.2.block bx (lt_of b2.out) (fun x => x)).trans b2.out
      have k0 : wi.cell? ⟨bx, 0, none⟩ = some (.int .u64 (cell : Int)) := cell_of b3.out 0
      have k1 : wi.cell? ⟨bx, 1, none⟩ = some (.int .u64 (first : Int)) := cell_of b3.out 1
      by_cases hlt : i < n
      · have t1 : (i : Int) < (n : Int) := by omega
        obtain ⟨x, hx⟩ : ∃ x, pcs[i]? = some x := ⟨pcs[i]'(by have := HN.out; omega), List.getElem?_eq_getElem _⟩
        obtain ⟨g, cpp, hal, c0, c1, c2, c3, c4, c5, c6⟩ := HI.out.1.cells hx
        simp only [Value.slice.injEq] at hal
        obtain ⟨rfl, -, rfl⟩ := hal
        have hxm : x ∈ pcs := List.mem_of_getElem? hx
        have HX := keepH hx
        have HXM := keepH hxm
        clear hx hxm
        obtain ⟨ta, hta⟩ : ∃ ta, ta = x.tz := ⟨_, rfl⟩
        rw [← hta] at c6
        have HTA := keepH hta
        clear hta
        by_cases hz : ta < 0
        · skip
          go_wp2_with fail
          go_roundw
          case rel => first | exact ⟨i + 1, by omega, by first | rfl | go_num, HI⟩ | ((repeat apply Exists.intro); refine ⟨?_, rfl⟩; exact ⟨i + 1, by omega, by first | rfl | go_num, HI⟩)
          case measure => simp [intOf]; omega
        · have dz : decide (ta < 0) = false := decide_eq_false hz
          have HPOS : Hid (x.pos = 2) := by
            have e := HCJ.out.tz x HXM.out
            have e2 := HTA.out
            rcases e with q | q
            · exact q.1
            · omega
          have HT0 : Hid (0 ≤ x.tz) := by have e2 := HTA.out; show _ ≤ _; omega
          cases hN : x.isNow with
          | true =>
            rw [hN] at c1
            have HXN := keepH hN
            have HERR : Hid (x.err = 0) := (HCJ.out.now x HXM.out hN).1
            have KN := n_stamp (nb i) cell _ _ _ (HI.out.1.now HX.out)
            rw [hN] at KN
            simp only [if_true] at KN
            have HKN := keepH KN
            clear hN KN
            obtain ⟨sa, hsa⟩ : ∃ sa, sa = x.stamp := ⟨_, rfl⟩
            rw [← hsa] at HKN
            have HSA := keepH hsa
            have HLB : Hid (x.lb = sa) := keepH (by rw [hsa]; unfold PC.lb; rw [HXN.out]; rfl)
            clear hsa
            go_wp2_with fail
            refine HKN.out.mono ?_
            rintro e w3 ⟨rfl, rfl⟩
            go_wp2_with fail
            clear c0 c1 c2 c3 c4 c5 c6 k0 k1
            go_loopw [9] (fun s9 wr => ∃ k : Nat, k ≤ n ∧ s9 = .int .i64 (k : Int) ∧ Hid (Seen wr cell m (.slice (some ⟨g, 0, none⟩) n ca) pcs pb nb tb c ∧ Chg (fun _ => False) W2 wr)) (fun s9 _ => n - (intOf s9).toNat)
            case atStart => exact ⟨0, by omega, rfl, HI⟩
            case round =>
              obtain ⟨wk, hwk⟩ : ∃ wk, wk = wr := ⟨_, rfl⟩
              rw [← hwk] at hrel ⊢
              clear hwk
              obtain ⟨k, hk, rfl, HJ⟩ := hrel
              by_cases hlk : k < n
              · have t2 : (k : Int) < (n : Int) := by omega
                obtain ⟨y, hy⟩ : ∃ y, pcs[k]? = some y := ⟨pcs[k]'(by have := HN.out; omega), List.getElem?_eq_getElem _⟩
                obtain ⟨g', cpp, hal, a0, a1, a2, a3, a4, a5, a6⟩ := HJ.out.1.cells HX.out
                obtain ⟨g2, cpp2, hal2, e0, e1, e2, e3, e4, e5, e6⟩ := HJ.out.1.cells hy
                simp only [Value.slice.injEq, Option.some.injEq, Addr.mk.injEq] at hal2
                obtain ⟨⟨rfl, -, -⟩, -, -⟩ := hal2
                have HY := keepH hy
                have HYM := keepH (List.mem_of_getElem? hy)
                rw [HXN.out] at a1
                rw [← HTA.out] at a6
                clear hy hal a0 a2 a3 a4 a5
                obtain ⟨fb, hfb⟩ : ∃ fb, fb = y.fr := ⟨_, rfl⟩
                obtain ⟨tz, htz⟩ : ∃ tz, tz = y.tz := ⟨_, rfl⟩
                rw [← hfb] at e5
                rw [← htz] at e6
                have HFB := keepH hfb
                have HTZ := keepH htz
                clear hfb htz
                by_cases s1 : fb ≤ ta
                · have d1 : decide (fb ≤ ta) = true := decide_eq_true s1
                  go_wp2_with fail
                  go_quiet (fail)
                  go_wp2_with fail
                  go_roundw
                  case rel => first | exact ⟨k + 1, by omega, by first | rfl | go_num, keepH ⟨HJ.out.1.drewN _, HJ.out.2.trans (Goes.drewN wk (fun _ => False) _).chg (fun _ _ x => x) (fun _ _ x => x)⟩⟩ | ((repeat apply Exists.intro); refine ⟨?_, rfl⟩; exact ⟨k + 1, by omega, by first | rfl | go_num, keepH ⟨HJ.out.1.drewN _, HJ.out.2.trans (Goes.drewN wk (fun _ => False) _).chg (fun _ _ x => x) (fun _ _ x => x)⟩⟩)
                  case measure => simp [intOf]; omega
                · have d1 : decide (fb ≤ ta) = false := decide_eq_false s1
                  by_cases s2 : tz < 0
                  · have d2 : decide (tz < 0) = true := decide_eq_true s2
                    go_wp2_with fail
                    go_quiet (fail)
                    go_wp2_with fail
                    go_roundw
                    case rel => first | exact ⟨k + 1, by omega, by first | rfl | go_num, keepH ⟨HJ.out.1.drewN _, HJ.out.2.trans (Goes.drewN wk (fun _ => False) _).chg (fun _ _ x => x) (fun _ _ x => x)⟩⟩ | ((repeat apply Exists.intro); refine ⟨?_, rfl⟩; exact ⟨k + 1, by omega, by first | rfl | go_num, keepH ⟨HJ.out.1.drewN _, HJ.out.2.trans (Goes.drewN wk (fun _ => False) _).chg (fun _ _ x => x) (fun _ _ x => x)⟩⟩)
                    case measure => simp [intOf]; omega
                  · have d2 : decide (tz < 0) = false := decide_eq_false s2
                    have HPY : Hid (y.pos = 2) := by
                      have e := HCJ.out.tz y HYM.out
                      have e2 := HTZ.out
                      rcases e with q | q
                      · exact q.1
                      · omega
                    have HAH : Hid (x.lb ≤ y.stamp) := HCJ.out.ahead rfl x HXM.out y HYM.out HT0.out HERR.out (by have := HTA.out; have := HFB.out; omega) (by have := HPY.out; omega)
                    obtain ⟨zb, hzb⟩ : ∃ zb, zb = y.stamp := ⟨_, rfl⟩
                    have HZB := keepH hzb
                    have u1 : ¬ (zb : Int) < (sa : Int) := by have := HAH.out; have := HLB.out; omega
                    skip
                    clear hzb
                    cases hM : y.isNow with
                    | true =>
                      rw [hM] at e1
                      have HYN := keepH hM
                      clear hM
                      go_wp2_with fail
                      go_quiet (fail)
                      obtain ⟨wx, hwx⟩ : ∃ wx, wx = wk.drewN nq := ⟨_, rfl⟩
                      have HJX : Hid (Seen wx cell m (.slice (some ⟨g, 0, none⟩) n ca) pcs pb nb tb c ∧ Chg (fun _ => False) W2 wx) := by rw [hwx]; exact ⟨HJ.out.1.drewN nq, HJ.out.2.trans (Goes.drewN wk (fun _ => False) nq).chg (fun _ _ x => x) (fun _ _ x => x)⟩
                      rw [← hwx]
                      have f0 : wx.cell? ⟨pb k, 0, none⟩ = some (.bool true) := by rw [hwx]; exact e1
                      have f2 : wx.cell? ⟨pb k, 2, none⟩ = some (.pointer (some ⟨nb k, 0, none⟩)) := by rw [hwx]; exact e3
                      have f3 : wx.cell? ⟨pb i, 0, none⟩ = some (.bool true) := by rw [hwx]; exact a1
                      have KN2 := n_stamp (nb k) cell _ _ _ (HJX.out.1.now HY.out)
                      rw [HYN.out] at KN2
                      simp only [if_true] at KN2
                      rw [← HZB.out] at KN2
                      have HKN2 := keepH KN2
                      clear KN2 hwx a1 a6 e0 e1 e2 e3 e4 e5 e6
                      go_wp2_with fail
                      refine HKN2.out.mono ?_
                      rintro e w5 ⟨rfl, rfl⟩
                      go_wp2_with fail
                      go_roundw
                      case rel => first | exact ⟨k + 1, by omega, by first | rfl | go_num, HJX⟩ | ((repeat apply Exists.intro); refine ⟨?_, rfl⟩; exact ⟨k + 1, by omega, by first | rfl | go_num, HJX⟩)
                      case measure => simp [intOf]; omega
                    | false =>
                      have HTK2 := keepH (HJ.out.1.take HY.out hM)
                      rw [hM] at e1
                      have HYN := keepH hM
                      clear hM
                      obtain ⟨er2, her2⟩ : ∃ er2, er2 = y.err := ⟨_, rfl⟩
                      have HER2 := keepH her2
                      have HKE2 : Hid (∀ q, Calls Try.prog 12 #[.pointer (some ⟨tb k, 0, none⟩)] (wk.drewN q) fun r W' => r = .returned (.int .i64 (er2 : Int)) ∧ W' = wk.drewN q) := fun q => by rw [her2]; exact t_errno (tb k) cell y.most y.pos y.stamp y.err y.moved _ (HTK2.out.chg (Goes.drewN wk (fun _ => False) q).chg (fun x => x))
                      clear her2
                      by_cases he2 : er2 = 0
                      · subst he2
                        have eb : (((0 : Nat) : Int) != 0) = false := by simp
                        go_wp2_with fail
                        go_quiet (first | (go_at_call 12; refine (HKE2.out _).mono ?_; rintro x y ⟨rfl, rfl⟩; exact ⟨rfl, _, rfl⟩))
                        obtain ⟨wx, hwx⟩ : ∃ wx, wx = wk.drewN nq := ⟨_, rfl⟩
                        have HJX : Hid (Seen wx cell m (.slice (some ⟨g, 0, none⟩) n ca) pcs pb nb tb c ∧ Chg (fun _ => False) W2 wx) := by rw [hwx]; exact ⟨HJ.out.1.drewN nq, HJ.out.2.trans (Goes.drewN wk (fun _ => False) nq).chg (fun _ _ x => x) (fun _ _ x => x)⟩
                        rw [← hwx]
                        have f0 : wx.cell? ⟨pb k, 0, none⟩ = some (.bool false) := by rw [hwx]; exact e1
                        have f2 : wx.cell? ⟨pb k, 2, none⟩ = some (.pointer (some ⟨nb k, 0, none⟩)) := by rw [hwx]; exact e3
                        have f4 : wx.cell? ⟨pb k, 3, none⟩ = some (.pointer (some ⟨tb k, 0, none⟩)) := by rw [hwx]; exact e4
                        have f3 : wx.cell? ⟨pb i, 0, none⟩ = some (.bool true) := by rw [hwx]; exact a1
                        have KN2 := n_stamp (nb k) cell _ _ _ (HJX.out.1.now HY.out)
                        rw [HYN.out] at KN2
                        simp only [Bool.false_eq_true, if_false] at KN2
                        have HKN2 := keepH KN2
                        have KS2 := t_stamp (tb k) cell y.most y.pos y.stamp y.err y.moved _ (HJX.out.1.take HY.out HYN.out)
                        rw [HPY.out, ← HER2.out] at KS2
                        simp only [and_self, if_true] at KS2
                        rw [← HZB.out] at KS2
                        have HKS2 := keepH KS2
                        clear KN2 KS2 hwx a1 a6 e0 e1 e2 e3 e4 e5 e6 eb
                        go_wp2_with fail
                        refine HKN2.out.mono ?_
                        rintro e w5 ⟨rfl, rfl⟩
                        go_wp2_with fail
                        refine HKS2.out.mono ?_
                        rintro e w5 ⟨rfl, rfl⟩
                        go_wp2_with fail
                        go_roundw
                        case rel => first | exact ⟨k + 1, by omega, by first | rfl | go_num, HJX⟩ | ((repeat apply Exists.intro); refine ⟨?_, rfl⟩; exact ⟨k + 1, by omega, by first | rfl | go_num, HJX⟩)
                        case measure => simp [intOf]; omega
                      · have eb : ((er2 : Int) != 0) = true := bne_iff_ne.2 (by omega)
                        have eb2 : ((er2 : Int) == 0) = false := beq_eq_false_iff_ne.2 (by omega)
                        have eb3 : (er2 == 0) = false := beq_eq_false_iff_ne.2 he2
                        go_wp2_with fail
                        go_quiet (first | (go_at_call 12; refine (HKE2.out _).mono ?_; rintro x y ⟨rfl, rfl⟩; exact ⟨rfl, _, rfl⟩))
                        go_wp2_with fail
                        go_roundw
                        case rel => first | exact ⟨k + 1, by omega, by first | rfl | go_num, keepH ⟨HJ.out.1.drewN _, HJ.out.2.trans (Goes.drewN wk (fun _ => False) _).chg (fun _ _ x => x) (fun _ _ x => x)⟩⟩ | ((repeat apply Exists.intro); refine ⟨?_, rfl⟩; exact ⟨k + 1, by omega, by first | rfl | go_num, keepH ⟨HJ.out.1.drewN _, HJ.out.2.trans (Goes.drewN wk (fun _ => False) _).chg (fun _ _ x => x) (fun _ _ x => x)⟩⟩)
                        case measure => simp [intOf]; omega
              · obtain rfl : k = n := by omega
                have t2 : ¬ (k : Int) < (k : Int) := by omega
                go_wp2_with fail
                go_roundw
                case rel => first | exact ⟨i + 1, by omega, by first | rfl | go_num, HJ⟩ | ((repeat apply Exists.intro); refine ⟨?_, rfl⟩; exact ⟨i + 1, by omega, by first | rfl | go_num, HJ⟩)
                case measure => simp [intOf]; omega
          | false =>
            have HTK := keepH (HI.out.1.take HX.out hN)
            rw [hN] at c1
            have HXN := keepH hN
            have KN := n_stamp (nb i) cell _ _ _ (HI.out.1.now HX.out)
            rw [hN] at KN
            simp only [Bool.false_eq_true, if_false] at KN
            have HKN := keepH KN
            clear hN KN
            obtain ⟨er, her⟩ : ∃ er, er = x.err := ⟨_, rfl⟩
            have HER := keepH her
            have KE := t_errno (tb i) cell x.most x.pos x.stamp x.err x.moved _ HTK.out
            rw [← her] at KE
            have HKE := keepH KE
            clear her KE
            by_cases he : er = 0
            · subst he
              have HERR : Hid (x.err = 0) := HER.out.symm
              have KS := t_stamp (tb i) cell x.most x.pos x.stamp x.err x.moved _ HTK.out
              rw [HPOS.out, HERR.out] at KS
              simp only [and_self, if_true] at KS
              obtain ⟨sa, hsa⟩ : ∃ sa, sa = x.stamp := ⟨_, rfl⟩
              rw [← hsa] at KS
              have HKS := keepH KS
              have HSA := keepH hsa
              have HLB : Hid (x.lb = sa + 1) := keepH (by rw [hsa]; unfold PC.lb; rw [HXN.out]; rfl)
              have t5 : ¬ (sa : Int) < (first : Int) := by have := HCJ.out.low x HXM.out (by have := HPOS.out; omega); omega
              have t6 : ¬ (c : Int) ≤ (sa : Int) := by have := HCJ.out.above rfl x HXM.out HXN.out HPOS.out HERR.out; omega
              have t5b : decide (sa < first) = false := decide_eq_false (by omega)
              have t6b : decide (c ≤ sa) = false := decide_eq_false (by omega)
              clear KS hsa
              go_wp2_with fail
              refine HKE.out.mono ?_
              rintro e w3 ⟨rfl, rfl⟩
              go_wp2_with fail
              refine HKN.out.mono ?_
              rintro e w3 ⟨rfl, rfl⟩
              go_wp2_with fail
              refine HKS.out.mono ?_
              rintro e w3 ⟨rfl, rfl⟩
              go_wp2_with fail
              refine HI.out.1.peek.mono ?_
              rintro e w3 ⟨rfl, rfl⟩
              go_wp2_with fail
              clear c0 c1 c2 c3 c4 c5 c6 k0 k1
              go_loopw [9] (fun s9 wr => ∃ k : Nat, k ≤ n ∧ s9 = .int .i64 (k : Int) ∧ Hid (Seen wr cell m (.slice (some ⟨g, 0, none⟩) n ca) pcs pb nb tb c ∧ Chg (fun _ => False) W2 wr)) (fun s9 _ => n - (intOf s9).toNat)
              case atStart => exact ⟨0, by omega, rfl, HI⟩
              case round =>
                obtain ⟨wk, hwk⟩ : ∃ wk, wk = wr := ⟨_, rfl⟩
                rw [← hwk] at hrel ⊢
                clear hwk
                obtain ⟨k, hk, rfl, HJ⟩ := hrel
                by_cases hlk : k < n
                · have t2 : (k : Int) < (n : Int) := by omega
                  obtain ⟨y, hy⟩ : ∃ y, pcs[k]? = some y := ⟨pcs[k]'(by have := HN.out; omega), List.getElem?_eq_getElem _⟩
                  obtain ⟨g', cpp, hal, a0, a1, a2, a3, a4, a5, a6⟩ := HJ.out.1.cells HX.out
                  obtain ⟨g2, cpp2, hal2, e0, e1, e2, e3, e4, e5, e6⟩ := HJ.out.1.cells hy
                  simp only [Value.slice.injEq, Option.some.injEq, Addr.mk.injEq] at hal2
                  obtain ⟨⟨rfl, -, -⟩, -, -⟩ := hal2
                  have HY := keepH hy
                  have HYM := keepH (List.mem_of_getElem? hy)
                  rw [HXN.out] at a1
                  rw [← HTA.out] at a6
                  clear hy hal a0 a2 a3 a4 a5
                  obtain ⟨fb, hfb⟩ : ∃ fb, fb = y.fr := ⟨_, rfl⟩
                  obtain ⟨tz, htz⟩ : ∃ tz, tz = y.tz := ⟨_, rfl⟩
                  rw [← hfb] at e5
                  rw [← htz] at e6
                  have HFB := keepH hfb
                  have HTZ := keepH htz
                  clear hfb htz
                  by_cases s1 : fb ≤ ta
                  · have d1 : decide (fb ≤ ta) = true := decide_eq_true s1
                    go_wp2_with fail
                    go_quiet (fail)
                    go_wp2_with fail
                    go_roundw
                    case rel => first | exact ⟨k + 1, by omega, by first | rfl | go_num, keepH ⟨HJ.out.1.drewN _, HJ.out.2.trans (Goes.drewN wk (fun _ => False) _).chg (fun _ _ x => x) (fun _ _ x => x)⟩⟩ | ((repeat apply Exists.intro); refine ⟨?_, rfl⟩; exact ⟨k + 1, by omega, by first | rfl | go_num, keepH ⟨HJ.out.1.drewN _, HJ.out.2.trans (Goes.drewN wk (fun _ => False) _).chg (fun _ _ x => x) (fun _ _ x => x)⟩⟩)
                    case measure => simp [intOf]; omega
                  · have d1 : decide (fb ≤ ta) = false := decide_eq_false s1
                    by_cases s2 : tz < 0
                    · have d2 : decide (tz < 0) = true := decide_eq_true s2
                      go_wp2_with fail
                      go_quiet (fail)
                      go_wp2_with fail
                      go_roundw
                      case rel => first | exact ⟨k + 1, by omega, by first | rfl | go_num, keepH ⟨HJ.out.1.drewN _, HJ.out.2.trans (Goes.drewN wk (fun _ => False) _).chg (fun _ _ x => x) (fun _ _ x => x)⟩⟩ | ((repeat apply Exists.intro); refine ⟨?_, rfl⟩; exact ⟨k + 1, by omega, by first | rfl | go_num, keepH ⟨HJ.out.1.drewN _, HJ.out.2.trans (Goes.drewN wk (fun _ => False) _).chg (fun _ _ x => x) (fun _ _ x => x)⟩⟩)
                      case measure => simp [intOf]; omega
                    · have d2 : decide (tz < 0) = false := decide_eq_false s2
                      have HPY : Hid (y.pos = 2) := by
                        have e := HCJ.out.tz y HYM.out
                        have e2 := HTZ.out
                        rcases e with q | q
                        · exact q.1
                        · omega
                      have HAH : Hid (x.lb ≤ y.stamp) := HCJ.out.ahead rfl x HXM.out y HYM.out HT0.out HERR.out (by have := HTA.out; have := HFB.out; omega) (by have := HPY.out; omega)
                      obtain ⟨zb, hzb⟩ : ∃ zb, zb = y.stamp := ⟨_, rfl⟩
                      have HZB := keepH hzb
                      have u1 : ¬ (zb : Int) < (sa : Int) := by have := HAH.out; have := HLB.out; omega
                      have u2 : ¬ (zb : Int) ≤ (sa : Int) := by have := HAH.out; have := HLB.out; omega
                      clear hzb
                      cases hM : y.isNow with
                      | true =>
                        rw [hM] at e1
                        have HYN := keepH hM
                        clear hM
                        go_wp2_with fail
                        go_quiet (fail)
                        obtain ⟨wx, hwx⟩ : ∃ wx, wx = wk.drewN nq := ⟨_, rfl⟩
                        have HJX : Hid (Seen wx cell m (.slice (some ⟨g, 0, none⟩) n ca) pcs pb nb tb c ∧ Chg (fun _ => False) W2 wx) := by rw [hwx]; exact ⟨HJ.out.1.drewN nq, HJ.out.2.trans (Goes.drewN wk (fun _ => False) nq).chg (fun _ _ x => x) (fun _ _ x => x)⟩
                        rw [← hwx]
                        have f0 : wx.cell? ⟨pb k, 0, none⟩ = some (.bool true) := by rw [hwx]; exact e1
                        have f2 : wx.cell? ⟨pb k, 2, none⟩ = some (.pointer (some ⟨nb k, 0, none⟩)) := by rw [hwx]; exact e3
                        have f3 : wx.cell? ⟨pb i, 0, none⟩ = some (.bool false) := by rw [hwx]; exact a1
                        have KN2 := n_stamp (nb k) cell _ _ _ (HJX.out.1.now HY.out)
                        rw [HYN.out] at KN2
                        simp only [if_true] at KN2
                        rw [← HZB.out] at KN2
                        have HKN2 := keepH KN2
                        clear KN2 hwx a1 a6 e0 e1 e2 e3 e4 e5 e6
                        go_wp2_with fail
                        refine HKN2.out.mono ?_
                        rintro e w5 ⟨rfl, rfl⟩
                        go_wp2_with fail
                        go_roundw
                        case rel => first | exact ⟨k + 1, by omega, by first | rfl | go_num, HJX⟩ | ((repeat apply Exists.intro); refine ⟨?_, rfl⟩; exact ⟨k + 1, by omega, by first | rfl | go_num, HJX⟩)
                        case measure => simp [intOf]; omega
                      | false =>
                        have HTK2 := keepH (HJ.out.1.take HY.out hM)
                        rw [hM] at e1
                        have HYN := keepH hM
                        clear hM
                        obtain ⟨er2, her2⟩ : ∃ er2, er2 = y.err := ⟨_, rfl⟩
                        have HER2 := keepH her2
                        have HKE2 : Hid (∀ q, Calls Try.prog 12 #[.pointer (some ⟨tb k, 0, none⟩)] (wk.drewN q) fun r W' => r = .returned (.int .i64 (er2 : Int)) ∧ W' = wk.drewN q) := fun q => by rw [her2]; exact t_errno (tb k) cell y.most y.pos y.stamp y.err y.moved _ (HTK2.out.chg (Goes.drewN wk (fun _ => False) q).chg (fun x => x))
                        clear her2
                        by_cases he2 : er2 = 0
                        · subst he2
                          have eb : (((0 : Nat) : Int) != 0) = false := by simp
                          go_wp2_with fail
                          go_quiet (first | (go_at_call 12; refine (HKE2.out _).mono ?_; rintro x y ⟨rfl, rfl⟩; exact ⟨rfl, _, rfl⟩))
                          obtain ⟨wx, hwx⟩ : ∃ wx, wx = wk.drewN nq := ⟨_, rfl⟩
                          have HJX : Hid (Seen wx cell m (.slice (some ⟨g, 0, none⟩) n ca) pcs pb nb tb c ∧ Chg (fun _ => False) W2 wx) := by rw [hwx]; exact ⟨HJ.out.1.drewN nq, HJ.out.2.trans (Goes.drewN wk (fun _ => False) nq).chg (fun _ _ x => x) (fun _ _ x => x)⟩
                          rw [← hwx]
                          have f0 : wx.cell? ⟨pb k, 0, none⟩ = some (.bool false) := by rw [hwx]; exact e1
                          have f2 : wx.cell? ⟨pb k, 2, none⟩ = some (.pointer (some ⟨nb k, 0, none⟩)) := by rw [hwx]; exact e3
                          have f4 : wx.cell? ⟨pb k, 3, none⟩ = some (.pointer (some ⟨tb k, 0, none⟩)) := by rw [hwx]; exact e4
                          have f3 : wx.cell? ⟨pb i, 0, none⟩ = some (.bool false) := by rw [hwx]; exact a1
                          have KN2 := n_stamp (nb k) cell _ _ _ (HJX.out.1.now HY.out)
                          rw [HYN.out] at KN2
                          simp only [Bool.false_eq_true, if_false] at KN2
                          have HKN2 := keepH KN2
                          have KS2 := t_stamp (tb k) cell y.most y.pos y.stamp y.err y.moved _ (HJX.out.1.take HY.out HYN.out)
                          rw [HPY.out, ← HER2.out] at KS2
                          simp only [and_self, if_true] at KS2
                          rw [← HZB.out] at KS2
                          have HKS2 := keepH KS2
                          clear KN2 KS2 hwx a1 a6 e0 e1 e2 e3 e4 e5 e6 eb
                          go_wp2_with fail
                          refine HKN2.out.mono ?_
                          rintro e w5 ⟨rfl, rfl⟩
                          go_wp2_with fail
                          refine HKS2.out.mono ?_
                          rintro e w5 ⟨rfl, rfl⟩
                          go_wp2_with fail
                          go_roundw
                          case rel => first | exact ⟨k + 1, by omega, by first | rfl | go_num, HJX⟩ | ((repeat apply Exists.intro); refine ⟨?_, rfl⟩; exact ⟨k + 1, by omega, by first | rfl | go_num, HJX⟩)
                          case measure => simp [intOf]; omega
                        · have eb : ((er2 : Int) != 0) = true := bne_iff_ne.2 (by omega)
                          have eb2 : ((er2 : Int) == 0) = false := beq_eq_false_iff_ne.2 (by omega)
                          have eb3 : (er2 == 0) = false := beq_eq_false_iff_ne.2 he2
                          go_wp2_with fail
                          go_quiet (first | (go_at_call 12; refine (HKE2.out _).mono ?_; rintro x y ⟨rfl, rfl⟩; exact ⟨rfl, _, rfl⟩))
                          go_wp2_with fail
                          go_roundw
                          case rel => first | exact ⟨k + 1, by omega, by first | rfl | go_num, keepH ⟨HJ.out.1.drewN _, HJ.out.2.trans (Goes.drewN wk (fun _ => False) _).chg (fun _ _ x => x) (fun _ _ x => x)⟩⟩ | ((repeat apply Exists.intro); refine ⟨?_, rfl⟩; exact ⟨k + 1, by omega, by first | rfl | go_num, keepH ⟨HJ.out.1.drewN _, HJ.out.2.trans (Goes.drewN wk (fun _ => False) _).chg (fun _ _ x => x) (fun _ _ x => x)⟩⟩)
                          case measure => simp [intOf]; omega
                · obtain rfl : k = n := by omega
                  have t2 : ¬ (k : Int) < (k : Int) := by omega
                  go_wp2_with fail
                  go_roundw
                  case rel => first | exact ⟨i + 1, by omega, by first | rfl | go_num, HJ⟩ | ((repeat apply Exists.intro); refine ⟨?_, rfl⟩; exact ⟨i + 1, by omega, by first | rfl | go_num, HJ⟩)
                  case measure => simp [intOf]; omega
            · have eb : ((er : Int) != 0) = true := bne_iff_ne.2 (by omega)
              have eb2 : ((er : Int) == 0) = false := beq_eq_false_iff_ne.2 (by omega)
              go_wp2_with fail
              refine HKE.out.mono ?_
              rintro e w3 ⟨rfl, rfl⟩
              go_wp2_with fail
              go_roundw
              case rel => first | exact ⟨i + 1, by omega, by first | rfl | go_num, HI⟩ | ((repeat apply Exists.intro); refine ⟨?_, rfl⟩; exact ⟨i + 1, by omega, by first | rfl | go_num, HI⟩)
              case measure => simp [intOf]; omega
      · obtain rfl : i = n := by omega
        have t1 : ¬ (i : Int) < (i : Int) := by omega
        go_wp2_with fail
        go_ret
        exact ⟨by simp, ((HC2.out.trans HI.out.2 (H := fun _ => False) (fun _ _ x => x) (fun _ _ x => x)).mono (G := fun k => w.heap.size ≤ k) (fun _ _ x => x.elim)).below (Nat.le_refl _)⟩
  · have d0 : (128 : Int) ≤ (cell : Int) := by omega
    have q0 : W2.cell? ⟨bx, 0, none⟩ = some (.int .u64 (cell : Int)) := cell_of b2.out 0
    go_wp2_with fail
    go_ret
    exact ⟨by simp, (HC2.out.mono (G := fun k => w.heap.size ≤ k) (fun _ _ x => x.elim)).below (Nat.le_refl _)⟩

set_option maxRecDepth 100000 in
theorem lifted (os : Os) (started : os.Started) (H : Type) (enc : TypeId × Value → H) (F : Stop.Interp) :
    ReturnsInHanded {} Try.checked os 5 .any ((Rows.OpenSpec.upto Rows.cameraAheadSpec).pre6 enc Try.prog Try.f5 Rows.cameraAheadUptoRow.domain false) (((Rows.OpenSpec.upto Rows.cameraAheadSpec).at F).post enc Try.prog Try.f5 false true false false) := by
  refine returnsInHanded_of_cond (C := Try.checked) (s := Rows.OpenSpec.upto Rows.cameraAheadSpec) (k := Rows.uptoSmall) rfl own started (by kernel_rfl) Try.func5
    (OpenSpec.witness (enc := enc) (C := Try.checked) (s := Rows.OpenSpec.upto Rows.cameraAheadSpec) (k := Rows.uptoSmall) rfl false ⟨#[], #[.agg #[.int .u64 0, .int .u64 0, .slice none 0 0, .slice none 0 0]], []⟩ 8 (by kernel_rfl) (by kernel_rfl) (by kernel_rfl)
      (x := ([.agg [.lit (.int .u64 0), .lit (.int .u64 0), .nil, .nil]], [], [])) (by kernel_rfl) rfl (by kernel_rfl)) ?_
  intro W base args ds gs before hval0 hW _ hk _
  have hval : ∀ (j : Nat) t v, Try.f5.params[j]? = some t → args[j]? = some v → Value.okWide Try.prog W .any base t v := hval0
  have hW' := hW
  obtain ⟨p, q, hA0, hV, rfl, hfz, hnd⟩ := hW
  have hA : DataW.TrodAll enc Try.prog W 0 (fun _ => true) true Try.f5.params.toList args.toList ds p := hA0
  rw [Try.params5] at hA hval
  obtain ⟨v0, vs0, d0, ds0, p0, q0, hargs, rfl, rfl, h0, r0⟩ := trodAll_cons hA
  obtain ⟨rfl, rfl, rfl⟩ := trodAll_nil r0
  obtain rfl : args = #[v0] := by cases args; simp_all
  obtain ⟨rfl, rfl⟩ := trodVars_none hV
  have k0 := h0
  have lt0 : ∀ x ∈ p0, x.block < W.heap.size := by obtain ⟨m, hm⟩ := k0; exact DataW.trod_lt m _ _ _ hm
  obtain ⟨cv, rfl, hcsz⟩ := okWide_struct Try.underlying26 (hval 0 26 v0 rfl rfl)
  obtain ⟨cell, first, pt, ct, ths, pp, cp, picks, rfl, hc, hf, hT, hP, hbt, hbp⟩ := run_open h0
  simp only [List.append_nil] at hW' hk
  have hb : Rows.uptoBulkAll [d0] ≤ 1048576 := of_decide_eq_true hk
  have hnt : ths.length ≤ 1048576 := by simp only [Rows.uptoBulkAll] at hb; omega
  have hnp : picks.length ≤ 1048576 := by simp only [Rows.uptoBulkAll] at hb; omega
  clear hA0 hval0
  refine (walk cell first pt ct ths pp cp picks W hc hf hT hP hnt hnp).mono fun e W' ⟨he, bel⟩ => ?_
  subst he
  exact ⟨_, rfl, _, _, _, [], _, [], hW', trodAll_mk1 (shut_bool Try.underlying4 _), (trodAll_cons_mk (Below.trod laidOut (by kernel_rfl) (of_decide_eq_true (by kernel_rfl)) k0 bel lt0) trodAll_mk0), rfl, bel.frame _, fun h => by cases h⟩

theorem over : Rows.cameraAheadUptoRow.holds Try.pinned (Rows.OpenSpec.upto Rows.cameraAheadSpec) :=
  OpenClaim.holds_of_cond 5 Try.f5 rfl rfl rfl rfl rfl rfl rfl ⟨rfl, rfl, rfl, rfl, rfl⟩ rfl rfl rfl rfl rfl (by kernel_rfl) Try.func5 (by kernel_rfl)
    (of_decide_eq_true (by kernel_rfl)) (by unfold Func.isWrapper; first | (rw [if_pos (by decide +kernel)]; kernel_rfl) | (rw [if_neg (by decide +kernel)]; exact ⟨rfl, rfl⟩))
    (fun os started H enc _ F => lifted os started H enc F)
end Go.Proofs.Ytinhcphhdehmhaa.cameraAhead
namespace Go.Proofs.Ytinhcphhdehmhaa
theorem cameraAhead_holds : Rows.CameraAheadUptoSaid := cameraAhead.over
end Go.Proofs.Ytinhcphhdehmhaa
