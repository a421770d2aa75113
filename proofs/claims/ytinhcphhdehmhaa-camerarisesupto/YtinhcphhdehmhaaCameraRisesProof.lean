/- Whatever the run of Takes and Nows: the cell holds what it held first and how many Takes have moved it, and is not above the greatest last stamp, unless it was at first (shutterlaw08.CameraRises is true for every input of bulk at most 1048576). -/
import Derived.Test.YtinhcphhdehmhaaRows
import Derived.WalkKit
import Derived.ProofKit
import Derived.OpenShut
import Derived.JoinedCond
import Derived.Carry
import Derived.Lib.SmallJoins
import Derived.Test.YtinhcphhdehmhaaCamZ
namespace Go.Proofs.Ytinhcphhdehmhaa.cameraRises
open Go.ChangeShapes Go.WideShapes Go.ChangeAt Go.RowKit Go.Joins Go.Deep
set_option linter.unusedVariables false

theorem own : ownKnob Try.prog.godebug = none := by kernel_rfl
theorem laidOut : laidOutB Try.prog = true := by kernel_rfl

set_option maxRecDepth 100000 in
set_option maxHeartbeats 16000000 in
theorem walk (cell first : Nat) (pt : Option Addr) (ct : Nat) (ths : List ThR) (pp : Option Addr) (cp : Nat) (picks : List Int) (w : World) (hc : cell < 18446744073709551616) (hf : first < 18446744073709551616) (hT : ThsAt w pt ths) (hP : PicksAt w pp picks) (hnt : ths.length ≤ 1048576) (hnp : picks.length ≤ 1048576) :
    Calls Try.prog 4 #[.agg #[.int .u64 (cell : Int), .int .u64 (first : Int), .slice pt ths.length ct, .slice pp picks.length cp]] w fun e w' => e = .returned (.bool true) ∧ Below w.heap.size w w' := by
  have HT := keepH hT
  have HP := keepH hP
  obtain ⟨nt, hntv⟩ : ∃ nt, nt = ths.length := ⟨_, rfl⟩
  obtain ⟨np, hnpv⟩ : ∃ np, np = picks.length := ⟨_, rfl⟩
  have HNT := keepH hntv
  have HNP := keepH hnpv
  rw [← hntv, ← hnpv]
  obtain ⟨W0, hW0⟩ : ∃ W0, W0 = w.alloc (.cells #[.int .u64 (cell : Int), .int .u64 (first : Int), .slice pt nt ct, .slice pp np cp] 26) := ⟨_, rfl⟩
  have C0 : Hid (Chg (fun _ => False) w W0) := by rw [hW0]; exact (Chg.refl _ _).alloc _
  have b0 : Hid (W0.heap[w.heap.size]? = some (.cells #[.int .u64 (cell : Int), .int .u64 (first : Int), .slice pt nt ct, .slice pp np cp] 26 (0, 0))) := by rw [hW0]; exact heap_alloc_new _ _
  clear hT hP hntv hnpv
  go_enter Try.func4, Try.ntmps4
  go_upto_region 1 with fail
  rw [← hW0]
  obtain ⟨bx, hbx⟩ : ∃ bx, bx = w.heap.size := ⟨_, rfl⟩
  rw [← hbx] at b0 ⊢
  clear hW0 hbx
  go_wp2_with fail
  refine (c_live W0).mono ?_
  rintro e W1 ⟨rfl, C1⟩
  have HC1 : Hid (Chg (fun _ => False) w W1) := C0.out.trans C1 (fun _ _ x => x) (fun _ _ x => x)
  have b1 : Hid (W1.heap[bx]? = some (.cells #[.int .u64 (cell : Int), .int .u64 (first : Int), .slice pt nt ct, .slice pp np cp] 26 (0, 0))) := (C1.block bx (lt_of b0.out) (fun x => x)).trans b0.out
  have k0 : W1.cell? ⟨bx, 0, none⟩ = some (.int .u64 (cell : Int)) := cell_of b1.out 0
  have k1 : W1.cell? ⟨bx, 1, none⟩ = some (.int .u64 (first : Int)) := cell_of b1.out 1
  have k2 : W1.cell? ⟨bx, 2, none⟩ = some (.slice pt nt ct) := cell_of b1.out 2
  have k3 : W1.cell? ⟨bx, 3, none⟩ = some (.slice pp np cp) := cell_of b1.out 3
  have HK : Hid (Calls Try.prog 9 #[.agg #[.int .u64 (cell : Int), .int .u64 (first : Int), .slice pt nt ct, .slice pp np cp]] W1 fun e W' => ∃ al W1' m b nm nB aB vB F R cs l pcs pb nb tb cur ats vw tg, e = .returned (.tuple #[al, .pointer (some ⟨m, 0, none⟩), .bool true]) ∧ W1.heap.size ≤ W1'.heap.size ∧ RS W1' W' cell ths.length m b nm nB aB vB F R cs l al pcs pb nb tb cur ats vw tg ∧ CI (decide (cell < 128)) (firstOf cell first) (cellN cs cell) picks.length pcs ∧ pcs.length ≤ picks.length ∧ Chg (fun _ => False) W1 W') := by
    rw [HNT.out, HNP.out]
    exact c_ran cell first pt ct ths pp cp picks W1 hc hf (HT.out.chg HC1.out) (HP.out.chg HC1.out) hnt hnp
  clear C1
  go_wp2_with fail
  refine HK.out.mono ?_
  rintro e W2 ⟨al, Wb, m, b, nm, nB, aB, vB, F, R, cs, l, pcs, pb, nb, tb, cur, ats, vw, tg, rfl, _, hRS, hCI, hPL, C2⟩
  have HC2 : Hid (Chg (fun _ => False) w W2) := HC1.out.trans C2 (fun _ _ x => x) (fun _ _ x => x)
  have b2 : Hid (W2.heap[bx]? = some (.cells #[.int .u64 (cell : Int), .int .u64 (first : Int), .slice pt nt ct, .slice pp np cp] 26 (0, 0))) := (C2.block bx (lt_of b1.out) (fun x => x)).trans b1.out
  have HSE := keepH (hRS.seen hc)
  have HSM := keepH hRS.small
  have HCI := keepH hCI
  have HPL : Hid (pcs.length ≤ 1048576) := by show _ ≤ _; omega
  obtain ⟨c, hcv⟩ : ∃ c, c = cellN cs cell := ⟨_, rfl⟩
  rw [← hcv] at HSE HSM HCI
  clear hRS hCI hPL C2 k0 k1 k2 k3 HK hcv
  have k0 : W2.cell? ⟨bx, 0, none⟩ = some (.int .u64 (cell : Int)) := cell_of b2.out 0
  have k1 : W2.cell? ⟨bx, 1, none⟩ = some (.int .u64 (first : Int)) := cell_of b2.out 1
  obtain ⟨n, hn⟩ : ∃ n, n = pcs.length := ⟨_, rfl⟩
  have HN := keepH hn
  have hnb : n ≤ 1048576 := by have := HPL.out; have := HN.out; omega
  obtain ⟨pa, ca, hal⟩ : ∃ pa ca, al = .slice pa n ca := by rw [hn]; exact slice_of HSE.out.all
  subst hal
  clear hn
  by_cases h128 : cell < 128
  · have d0 : ¬ (128 : Int) ≤ (cell : Int) := by omega
    go_wp2_with fail
    go_loopw [7, 8, 9] (fun s7 s8 s9 wr => ∃ k cn mx : Nat, k ≤ n ∧ s7 = .int .u64 (cn : Int) ∧ s8 = .int .u64 (mx : Int) ∧ s9 = .int .i64 (k : Int) ∧ wr = W2 ∧ Hid (cn = (pcs.take k).countP (fun x => x.moved) ∧ mx = mxOf first (pcs.take k))) (fun _ _ s9 _ => n - (intOf s9).toNat)
    case atStart => exact ⟨0, 0, first, by omega, rfl, rfl, rfl, rfl, keepH ⟨by simp, rfl⟩⟩
    case round =>
      obtain ⟨k, cn, mx, hk, rfl, rfl, rfl, rfl, HK⟩ := hrel
      by_cases hlt : k < n
      · have t1 : (k : Int) < (n : Int) := by omega
        obtain ⟨x, hx⟩ : ∃ x, pcs[k]? = some x := ⟨pcs[k]'(by have := HN.out; omega), List.getElem?_eq_getElem _⟩
        obtain ⟨g, cpp, hal, c0, c1, c2, c3, c4, c5, c6⟩ := HSE.out.cells hx
        simp only [Value.slice.injEq] at hal
        obtain ⟨rfl, -, rfl⟩ := hal
        have hts := take_snoc hx
        have hxm : x ∈ pcs := List.mem_of_getElem? hx
        have HCK : Hid (cn ≤ 1048576) := by
          have e := HK.out.1
          have l1 : (pcs.take k).countP (fun x => x.moved) ≤ (pcs.take k).length := List.countP_le_length
          have l2 := List.length_take_le k pcs
          have := HPL.out
          have := HN.out
          show _ ≤ _
          omega
        have HX := keepH hx
        have HTS := keepH hts
        clear hts hx
        cases hN : x.isNow with
        | true =>
          have HXM : Hid (x.moved = false) := (HCI.out.now x hxm hN).2.1
          rw [hN] at c1
          have HXN := keepH hN
          clear hxm hN
          go_wp2_with fail
          go_roundw
          case rel => exact ⟨k + 1, cn, mx, by omega, (by first | rfl | trivial | go_num), (by first | rfl | trivial | go_num), (by first | rfl | trivial | go_num), (by first | rfl | trivial), keepH ⟨by rw [HTS.out, List.countP_append, ← HK.out.1]; simp [HXM.out], by rw [HTS.out, mxOf_snoc, HXN.out, ← HK.out.2]; rfl⟩⟩
          case measure => simp [intOf]; omega
        | false =>
          have HTK := keepH (HSE.out.take HX.out hN)
          rw [hN] at c1
          have HXN := keepH hN
          clear hxm hN
          obtain ⟨mo, hmo⟩ : ∃ mo, mo = x.most := ⟨_, rfl⟩
          rw [← hmo] at c2
          have HMO := keepH hmo
          clear hmo
          by_cases hm : mx < mo
          · have t2 : (mx : Int) < (mo : Int) := by omega
            have HM2 : Hid (mo = mxOf first (pcs.take (k + 1))) := by
              show _ = _
              rw [HTS.out, mxOf_snoc, HXN.out, ← HK.out.2, ← HMO.out]
              simp [hm]
            clear hm
            go_wp2_with fail
            refine (t_moved (tb k) cell x.most x.pos x.stamp x.err x.moved _ HTK.out).mono ?_
            rintro e w3 ⟨rfl, rfl⟩
            cases hMv : x.moved with
            | true =>
              have HMV := keepH hMv
              have wk : IntKind.u64.wrap ((cn : Int) + 1) = ((cn + 1 : Nat) : Int) := by have := HCK.out; rw [IntKind.wrap_u64]; omega
              clear hMv
              go_wp2_with fail
              go_roundw
              case rel => exact ⟨k + 1, cn + 1, mo, by omega, (by first | rfl | trivial | go_num), (by first | rfl | trivial | go_num), (by first | rfl | trivial | go_num), (by first | rfl | trivial), keepH ⟨by rw [HTS.out, List.countP_append, ← HK.out.1]; simp [HMV.out], HM2.out⟩⟩
              case measure => simp [intOf]; omega
            | false =>
              have HMV := keepH hMv
              clear hMv
              go_wp2_with fail
              go_roundw
              case rel => exact ⟨k + 1, cn, mo, by omega, (by first | rfl | trivial | go_num), (by first | rfl | trivial | go_num), (by first | rfl | trivial | go_num), (by first | rfl | trivial), keepH ⟨by rw [HTS.out, List.countP_append, ← HK.out.1]; simp [HMV.out], HM2.out⟩⟩
              case measure => simp [intOf]; omega
          · have t2 : ¬ (mx : Int) < (mo : Int) := by omega
            have HM2 : Hid (mx = mxOf first (pcs.take (k + 1))) := by
              show _ = _
              rw [HTS.out, mxOf_snoc, HXN.out, ← HK.out.2, ← HMO.out]
              simp [hm]
            clear hm
            go_wp2_with fail
            refine (t_moved (tb k) cell x.most x.pos x.stamp x.err x.moved _ HTK.out).mono ?_
            rintro e w3 ⟨rfl, rfl⟩
            cases hMv : x.moved with
            | true =>
              have HMV := keepH hMv
              have wk : IntKind.u64.wrap ((cn : Int) + 1) = ((cn + 1 : Nat) : Int) := by have := HCK.out; rw [IntKind.wrap_u64]; omega
              clear hMv
              go_wp2_with fail
              go_roundw
              case rel => exact ⟨k + 1, cn + 1, mx, by omega, (by first | rfl | trivial | go_num), (by first | rfl | trivial | go_num), (by first | rfl | trivial | go_num), (by first | rfl | trivial), keepH ⟨by rw [HTS.out, List.countP_append, ← HK.out.1]; simp [HMV.out], HM2.out⟩⟩
              case measure => simp [intOf]; omega
            | false =>
              have HMV := keepH hMv
              clear hMv
              go_wp2_with fail
              go_roundw
              case rel => exact ⟨k + 1, cn, mx, by omega, (by first | rfl | trivial | go_num), (by first | rfl | trivial | go_num), (by first | rfl | trivial | go_num), (by first | rfl | trivial), keepH ⟨by rw [HTS.out, List.countP_append, ← HK.out.1]; simp [HMV.out], HM2.out⟩⟩
              case measure => simp [intOf]; omega
      · obtain rfl : k = n := by omega
        have t1 : ¬ (k : Int) < (k : Int) := by omega
        have hFO : firstOf cell first = first := by simp [firstOf, h128]
        have ht : pcs.take k = pcs := List.take_of_length_le (by have := HN.out; omega)
        have e1 := HK.out.1
        have e2 := HK.out.2
        have e3 := HCI.out.cnt
        have e4 := HCI.out.top
        rw [ht] at e1 e2
        rw [hFO] at e3 e4
        have wk : IntKind.u64.wrap ((first : Nat) + (cn : Int)) = (c : Int) := by have := HSM.out; rw [IntKind.wrap_u64]; omega
        have t2 : (c : Int) ≤ (mx : Int) := by
          obtain ⟨m1, m2⟩ := mxOf_le pcs first
          rcases e4 with q | ⟨x, hx, q1, q2⟩
          · omega
          · have := m2 x hx q1; omega
        clear e1 e2 e3 e4 hFO ht
        skip
        go_wp2_with fail
        refine HSE.out.peek.mono ?_
        rintro e w3 ⟨rfl, rfl⟩
        go_wp2_with fail
        refine HSE.out.peek.mono ?_
        rintro e w3 ⟨rfl, rfl⟩
        go_wp2_with fail
        go_ret
        exact ⟨by simp, (HC2.out.mono (G := fun k => w.heap.size ≤ k) (fun _ _ x => x.elim)).below (Nat.le_refl _)⟩
  · have d0 : (128 : Int) ≤ (cell : Int) := by omega
    go_wp2_with fail
    go_loopw [7, 8, 9] (fun s7 s8 s9 wr => ∃ k cn mx : Nat, k ≤ n ∧ s7 = .int .u64 (cn : Int) ∧ s8 = .int .u64 (mx : Int) ∧ s9 = .int .i64 (k : Int) ∧ wr = W2 ∧ Hid (cn = (pcs.take k).countP (fun x => x.moved) ∧ mx = mxOf 0 (pcs.take k))) (fun _ _ s9 _ => n - (intOf s9).toNat)
    case atStart => exact ⟨0, 0, 0, by omega, rfl, rfl, rfl, rfl, keepH ⟨by simp, rfl⟩⟩
    case round =>
      obtain ⟨k, cn, mx, hk, rfl, rfl, rfl, rfl, HK⟩ := hrel
      by_cases hlt : k < n
      · have t1 : (k : Int) < (n : Int) := by omega
        obtain ⟨x, hx⟩ : ∃ x, pcs[k]? = some x := ⟨pcs[k]'(by have := HN.out; omega), List.getElem?_eq_getElem _⟩
        obtain ⟨g, cpp, hal, c0, c1, c2, c3, c4, c5, c6⟩ := HSE.out.cells hx
        simp only [Value.slice.injEq] at hal
        obtain ⟨rfl, -, rfl⟩ := hal
        have hts := take_snoc hx
        have hxm : x ∈ pcs := List.mem_of_getElem? hx
        have HCK : Hid (cn ≤ 1048576) := by
          have e := HK.out.1
          have l1 : (pcs.take k).countP (fun x => x.moved) ≤ (pcs.take k).length := List.countP_le_length
          have l2 := List.length_take_le k pcs
          have := HPL.out
          have := HN.out
          show _ ≤ _
          omega
        have HX := keepH hx
        have HTS := keepH hts
        clear hts hx
        cases hN : x.isNow with
        | true =>
          have HXM : Hid (x.moved = false) := (HCI.out.now x hxm hN).2.1
          rw [hN] at c1
          have HXN := keepH hN
          clear hxm hN
          go_wp2_with fail
          go_roundw
          case rel => exact ⟨k + 1, cn, mx, by omega, (by first | rfl | trivial | go_num), (by first | rfl | trivial | go_num), (by first | rfl | trivial | go_num), (by first | rfl | trivial), keepH ⟨by rw [HTS.out, List.countP_append, ← HK.out.1]; simp [HXM.out], by rw [HTS.out, mxOf_snoc, HXN.out, ← HK.out.2]; rfl⟩⟩
          case measure => simp [intOf]; omega
        | false =>
          have HTK := keepH (HSE.out.take HX.out hN)
          rw [hN] at c1
          have HXN := keepH hN
          clear hxm hN
          obtain ⟨mo, hmo⟩ : ∃ mo, mo = x.most := ⟨_, rfl⟩
          rw [← hmo] at c2
          have HMO := keepH hmo
          clear hmo
          by_cases hm : mx < mo
          · have t2 : (mx : Int) < (mo : Int) := by omega
            have HM2 : Hid (mo = mxOf 0 (pcs.take (k + 1))) := by
              show _ = _
              rw [HTS.out, mxOf_snoc, HXN.out, ← HK.out.2, ← HMO.out]
              simp [hm]
            clear hm
            go_wp2_with fail
            refine (t_moved (tb k) cell x.most x.pos x.stamp x.err x.moved _ HTK.out).mono ?_
            rintro e w3 ⟨rfl, rfl⟩
            cases hMv : x.moved with
            | true =>
              have HMV := keepH hMv
              have wk : IntKind.u64.wrap ((cn : Int) + 1) = ((cn + 1 : Nat) : Int) := by have := HCK.out; rw [IntKind.wrap_u64]; omega
              clear hMv
              go_wp2_with fail
              go_roundw
              case rel => exact ⟨k + 1, cn + 1, mo, by omega, (by first | rfl | trivial | go_num), (by first | rfl | trivial | go_num), (by first | rfl | trivial | go_num), (by first | rfl | trivial), keepH ⟨by rw [HTS.out, List.countP_append, ← HK.out.1]; simp [HMV.out], HM2.out⟩⟩
              case measure => simp [intOf]; omega
            | false =>
              have HMV := keepH hMv
              clear hMv
              go_wp2_with fail
              go_roundw
              case rel => exact ⟨k + 1, cn, mo, by omega, (by first | rfl | trivial | go_num), (by first | rfl | trivial | go_num), (by first | rfl | trivial | go_num), (by first | rfl | trivial), keepH ⟨by rw [HTS.out, List.countP_append, ← HK.out.1]; simp [HMV.out], HM2.out⟩⟩
              case measure => simp [intOf]; omega
          · have t2 : ¬ (mx : Int) < (mo : Int) := by omega
            have HM2 : Hid (mx = mxOf 0 (pcs.take (k + 1))) := by
              show _ = _
              rw [HTS.out, mxOf_snoc, HXN.out, ← HK.out.2, ← HMO.out]
              simp [hm]
            clear hm
            go_wp2_with fail
            refine (t_moved (tb k) cell x.most x.pos x.stamp x.err x.moved _ HTK.out).mono ?_
            rintro e w3 ⟨rfl, rfl⟩
            cases hMv : x.moved with
            | true =>
              have HMV := keepH hMv
              have wk : IntKind.u64.wrap ((cn : Int) + 1) = ((cn + 1 : Nat) : Int) := by have := HCK.out; rw [IntKind.wrap_u64]; omega
              clear hMv
              go_wp2_with fail
              go_roundw
              case rel => exact ⟨k + 1, cn + 1, mx, by omega, (by first | rfl | trivial | go_num), (by first | rfl | trivial | go_num), (by first | rfl | trivial | go_num), (by first | rfl | trivial), keepH ⟨by rw [HTS.out, List.countP_append, ← HK.out.1]; simp [HMV.out], HM2.out⟩⟩
              case measure => simp [intOf]; omega
            | false =>
              have HMV := keepH hMv
              clear hMv
              go_wp2_with fail
              go_roundw
              case rel => exact ⟨k + 1, cn, mx, by omega, (by first | rfl | trivial | go_num), (by first | rfl | trivial | go_num), (by first | rfl | trivial | go_num), (by first | rfl | trivial), keepH ⟨by rw [HTS.out, List.countP_append, ← HK.out.1]; simp [HMV.out], HM2.out⟩⟩
              case measure => simp [intOf]; omega
      · obtain rfl : k = n := by omega
        have t1 : ¬ (k : Int) < (k : Int) := by omega
        have hFO : firstOf cell first = 0 := by simp [firstOf, h128]
        have ht : pcs.take k = pcs := List.take_of_length_le (by have := HN.out; omega)
        have e1 := HK.out.1
        have e2 := HK.out.2
        have e3 := HCI.out.cnt
        have e4 := HCI.out.top
        rw [ht] at e1 e2
        rw [hFO] at e3 e4
        have wk : IntKind.u64.wrap ((0 : Int) + (cn : Int)) = (c : Int) := by have := HSM.out; rw [IntKind.wrap_u64]; omega
        have t2 : (c : Int) ≤ (mx : Int) := by
          obtain ⟨m1, m2⟩ := mxOf_le pcs 0
          rcases e4 with q | ⟨x, hx, q1, q2⟩
          · omega
          · have := m2 x hx q1; omega
        clear e1 e2 e3 e4 hFO ht
        have wk2 : IntKind.u64.wrap (cn : Int) = (c : Int) := by rw [← wk]; simp
        go_wp2_with fail
        refine HSE.out.peek.mono ?_
        rintro e w3 ⟨rfl, rfl⟩
        go_wp2_with fail
        refine HSE.out.peek.mono ?_
        rintro e w3 ⟨rfl, rfl⟩
        go_wp2_with fail
        go_ret
        exact ⟨by simp, (HC2.out.mono (G := fun k => w.heap.size ≤ k) (fun _ _ x => x.elim)).below (Nat.le_refl _)⟩

set_option maxRecDepth 100000 in
theorem lifted (os : Os) (started : os.Started) (H : Type) (enc : TypeId × Value → H) (F : Stop.Interp) :
    ReturnsInHanded {} Try.checked os 4 .any ((Rows.OpenSpec.upto Rows.cameraRisesSpec).pre6 enc Try.prog Try.f4 Rows.cameraRisesUptoRow.domain false) (((Rows.OpenSpec.upto Rows.cameraRisesSpec).at F).post enc Try.prog Try.f4 false true false false) := by
  refine returnsInHanded_of_cond (C := Try.checked) (s := Rows.OpenSpec.upto Rows.cameraRisesSpec) (k := Rows.uptoSmall) rfl own started (by kernel_rfl) Try.func4
    (OpenSpec.witness (enc := enc) (C := Try.checked) (s := Rows.OpenSpec.upto Rows.cameraRisesSpec) (k := Rows.uptoSmall) rfl false ⟨#[], #[.agg #[.int .u64 0, .int .u64 0, .slice none 0 0, .slice none 0 0]], []⟩ 8 (by kernel_rfl) (by kernel_rfl) (by kernel_rfl)
      (x := ([.agg [.lit (.int .u64 0), .lit (.int .u64 0), .nil, .nil]], [], [])) (by kernel_rfl) rfl (by kernel_rfl)) ?_
  intro W base args ds gs before hval0 hW _ hk _
  have hval : ∀ (j : Nat) t v, Try.f4.params[j]? = some t → args[j]? = some v → Value.okWide Try.prog W .any base t v := hval0
  have hW' := hW
  obtain ⟨p, q, hA0, hV, rfl, hfz, hnd⟩ := hW
  have hA : DataW.TrodAll enc Try.prog W 0 (fun _ => true) true Try.f4.params.toList args.toList ds p := hA0
  rw [Try.params4] at hA hval
  obtain ⟨v0, vs0, d0, ds0, p0, q0, hargs, rfl, rfl, h0, r0⟩ := trodAll_cons hA
  obtain ⟨rfl, rfl, rfl⟩ := trodAll_nil r0
  obtain rfl : args = #[v0] := by cases args; simp_all
  obtain ⟨rfl, rfl⟩ := trodVars_none hV
  have k0 := h0
  have lt0 : ∀ x ∈ p0, x.block < W.heap.size := by obtain ⟨m, hm⟩ := k0; exact DataW.trod_lt m _ _ _ hm
  obtain ⟨cv, rfl, hcsz⟩ := okWide_struct Try.underlying26 (hval 0 26 v0 rfl rfl)
  obtain ⟨cell, first, pt, ct, ths, pp, cp, picks, rfl, hc, hf, hT, hP, hbt, hbp⟩ := run_open h0
  simp only [List.append_nil] at hW' hk
  have hb : Rows.uptoBulkAll [d0] ≤ 1048576 := of_decide_eq_true hk
  have hnt : ths.length ≤ 1048576 := by simp only [Rows.uptoBulkAll] at hb; omega
  have hnp : picks.length ≤ 1048576 := by simp only [Rows.uptoBulkAll] at hb; omega
  clear hA0 hval0
  refine (walk cell first pt ct ths pp cp picks W hc hf hT hP hnt hnp).mono fun e W' ⟨he, bel⟩ => ?_
  subst he
  exact ⟨_, rfl, _, _, _, [], _, [], hW', trodAll_mk1 (shut_bool Try.underlying4 _), (trodAll_cons_mk (Below.trod laidOut (by kernel_rfl) (of_decide_eq_true (by kernel_rfl)) k0 bel lt0) trodAll_mk0), rfl, bel.frame _, fun h => by cases h⟩

theorem over : Rows.cameraRisesUptoRow.holds Try.pinned (Rows.OpenSpec.upto Rows.cameraRisesSpec) :=
  OpenClaim.holds_of_cond 4 Try.f4 rfl rfl rfl rfl rfl rfl rfl ⟨rfl, rfl, rfl, rfl, rfl⟩ rfl rfl rfl rfl rfl (by kernel_rfl) Try.func4 (by kernel_rfl)
    (of_decide_eq_true (by kernel_rfl)) (by unfold Func.isWrapper; first | (rw [if_pos (by decide +kernel)]; kernel_rfl) | (rw [if_neg (by decide +kernel)]; exact ⟨rfl, rfl⟩))
    (fun os started H enc _ F => lifted os started H enc F)
end Go.Proofs.Ytinhcphhdehmhaa.cameraRises
namespace Go.Proofs.Ytinhcphhdehmhaa
theorem cameraRises_holds : Rows.CameraRisesUptoSaid := cameraRises.over
end Go.Proofs.Ytinhcphhdehmhaa
