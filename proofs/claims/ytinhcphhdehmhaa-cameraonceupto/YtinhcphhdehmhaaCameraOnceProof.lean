/- Whatever the run of Takes and Nows: each number from the first one up to the one ahead of what the cell holds was moved by just one Take of that stamp (shutterlaw08.CameraOnce is true for every input of bulk at most 1048576). -/
import Derived.Test.YtinhcphhdehmhaaRows
import Derived.WalkKit
import Derived.ProofKit
import Derived.OpenShut
import Derived.JoinedCond
import Derived.Carry
import Derived.Lib.SmallJoins
import Derived.Test.YtinhcphhdehmhaaCamZ
namespace Go.Proofs.Ytinhcphhdehmhaa.cameraOnce
open Go.ChangeShapes Go.WideShapes Go.ChangeAt Go.RowKit Go.Joins Go.Deep
set_option linter.unusedVariables false

theorem own : ownKnob Try.prog.godebug = none := by kernel_rfl
theorem laidOut : laidOutB Try.prog = true := by kernel_rfl

set_option maxRecDepth 100000 in
set_option maxHeartbeats 16000000 in
theorem walk (cell first : Nat) (pt : Option Addr) (ct : Nat) (ths : List ThR) (pp : Option Addr) (cp : Nat) (picks : List Int) (w : World) (hc : cell < 18446744073709551616) (hf : first < 18446744073709551616) (hT : ThsAt w pt ths) (hP : PicksAt w pp picks) (hnt : ths.length ≤ 1048576) (hnp : picks.length ≤ 1048576) :
    Calls Try.prog 6 #[.agg #[.int .u64 (cell : Int), .int .u64 (first : Int), .slice pt ths.length ct, .slice pp picks.length cp]] w fun e w' => e = .returned (.bool true) ∧ Below w.heap.size w w' := by
  have HT := keepH hT
  have HP := keepH hP
  obtain ⟨nt, hntv⟩ : ∃ nt, nt = ths.length := ⟨_, rfl⟩
  obtain ⟨np, hnpv⟩ : ∃ np, np = picks.length := ⟨_, rfl⟩
  have HNT := keepH hntv
  have HNP := keepH hnpv
  rw [← hntv, ← hnpv]
  obtain ⟨W0, hW0⟩ : ∃ W0, W0 = w.alloc (.cells #[.int .u64 (cell : Int), .int .u64 (first : Int), .slice pt nt ct, .slice pp np cp] 26) := ⟨_, rfl⟩
  have C0 : Hid (Chg (fun _ => False) w W0) := by rw [hW0]; exact (Chg.refl _ _).alloc _
  have b0 : Hid (W0.heap[w.heap.size]? = some (.cells #[.int .u64 (cell : Int), .int .u64 (first : Int), .slice pt nt ct, .slice pp np cp] 26 (0, 0))) := by rw [hW0]; exact heap_alloc_new _ _
  clear hT hP hntv hnpv
  go_enter Try.func6, Try.ntmps6
  go_upto_region 1 with fail
  rw [← hW0]
  obtain ⟨bx, hbx⟩ : ∃ bx, bx = w.heap.size := ⟨_, rfl⟩
  rw [← hbx] at b0 ⊢
  clear hW0 hbx
  go_wp2_with fail
  refine (c_live W0).mono ?_
  rintro e W1 ⟨rfl, C1⟩
  have HC1 : Hid (Chg (fun _ => False) w W1) := C0.out.trans C1 (fun _ _ x => x) (fun _ _ x => x)
  have b1 : Hid (W1.heap[bx]? = some (.cells #[.int .u64 (cell : Int), .int .u64 (first : Int), .slice pt nt ct, .slice pp np cp] 26 (0, 0))) := (C1.block bx (lt_of b0.out) (fun x => x)).trans b0.out
  have k0 : W1.cell? ⟨bx, 0, none⟩ = some (.int .u64 (cell : Int)) := cell_of b1.out 0
  have k1 : W1.cell? ⟨bx, 1, none⟩ = some (.int .u64 (first : Int)) := cell_of b1.out 1
  have k2 : W1.cell? ⟨bx, 2, none⟩ = some (.slice pt nt ct) := cell_of b1.out 2
  have k3 : W1.cell? ⟨bx, 3, none⟩ = some (.slice pp np cp) := cell_of b1.out 3
  have HK : Hid (Calls Try.prog 9 #[.agg #[.int .u64 (cell : Int), .int .u64 (first : Int), .slice pt nt ct, .slice pp np cp]] W1 fun e W' => ∃ al W1' m b nm nB aB vB F R cs l pcs pb nb tb cur ats vw tg, e = .returned (.tuple #[al, .pointer (some ⟨m, 0, none⟩), .bool true]) ∧ W1.heap.size ≤ W1'.heap.size ∧ RS W1' W' cell ths.length m b nm nB aB vB F R cs l al pcs pb nb tb cur ats vw tg ∧ CI (decide (cell < 128)) (firstOf cell first) (cellN cs cell) picks.length pcs ∧ pcs.length ≤ picks.length ∧ Chg (fun _ => False) W1 W') := by
    rw [HNT.out, HNP.out]
    exact c_ran cell first pt ct ths pp cp picks W1 hc hf (HT.out.chg HC1.out) (HP.out.chg HC1.out) hnt hnp
  clear C1
  go_wp2_with fail
  refine HK.out.mono ?_
  rintro e W2 ⟨al, Wb, m, b, nm, nB, aB, vB, F, R, cs, l, pcs, pb, nb, tb, cur, ats, vw, tg, rfl, _, hRS, hCI, hPL, C2⟩
  have HC2 : Hid (Chg (fun _ => False) w W2) := HC1.out.trans C2 (fun _ _ x => x) (fun _ _ x => x)
  have b2 : Hid (W2.heap[bx]? = some (.cells #[.int .u64 (cell : Int), .int .u64 (first : Int), .slice pt nt ct, .slice pp np cp] 26 (0, 0))) := (C2.block bx (lt_of b1.out) (fun x => x)).trans b1.out
  have HSE := keepH (hRS.seen hc)
  have HSM := keepH hRS.small
  have HCI := keepH hCI
  have HPL : Hid (pcs.length ≤ 1048576) := by show _ ≤ _; omega
  obtain ⟨c, hcv⟩ : ∃ c, c = cellN cs cell := ⟨_, rfl⟩
  rw [← hcv] at HSE HSM HCI
  clear hRS hCI hPL C2 k0 k1 k2 k3 HK hcv
  have k0 : W2.cell? ⟨bx, 0, none⟩ = some (.int .u64 (cell : Int)) := cell_of b2.out 0
  have k1 : W2.cell? ⟨bx, 1, none⟩ = some (.int .u64 (first : Int)) := cell_of b2.out 1
  obtain ⟨n, hn⟩ : ∃ n, n = pcs.length := ⟨_, rfl⟩
  have HN := keepH hn
  have hnb : n ≤ 1048576 := by have := HPL.out; have := HN.out; omega
  obtain ⟨pa, ca, hal⟩ : ∃ pa ca, al = .slice pa n ca := by rw [hn]; exact slice_of HSE.out.all
  subst hal
  clear hn
  by_cases h128 : cell < 128
  · have d0 : ¬ (128 : Int) ≤ (cell : Int) := by omega
    have db : decide ((128 : Int) ≤ (cell : Int)) = false := decide_eq_false d0
    have hFO : firstOf cell first = first := by simp [firstOf, h128]
    have HCJ : Hid (CI (decide (cell < 128)) first c picks.length pcs) := by have e := HCI.out; rw [hFO] at e; exact e
    have HFC : Hid (first ≤ c ∧ c - first ≤ n) := by
      have e := HCJ.out.cnt
      have l1 : pcs.countP (fun x => x.moved) ≤ pcs.length := List.countP_le_length
      have := HN.out
      exact ⟨by omega, by omega⟩
    clear hFO
    go_wp2_with fail
    refine HSE.out.peek.mono ?_
    rintro e w3 ⟨rfl, rfl⟩
    have HSE2 := keepH HSE.out
    have wk : IntKind.u64.wrap ((c : Int) - (first : Int)) = ((c - first : Nat) : Int) := by have := HFC.out; have := HSM.out; rw [IntKind.wrap_u64]; omega
    have wn : IntKind.u64.wrap (n : Int) = (n : Int) := by have := HPL.out; have := HN.out; rw [IntKind.wrap_u64]; omega
    have tn : ¬ (n : Int) < ((c - first : Nat) : Int) := by have := HFC.out; omega
    have tnn : decide (n < c - first) = false := decide_eq_false (by have := HFC.out; omega)
    go_wp2_with fail
    clear wk wn tn tnn
    go_loopw [7] (fun s7 wr => ∃ s : Nat, first ≤ s ∧ s ≤ c ∧ s7 = .int .u64 (s : Int) ∧ Hid (Seen wr cell m (.slice pa n ca) pcs pb nb tb c ∧ Chg (fun _ => False) w wr)) (fun s7 _ => c - (intOf s7).toNat)
    case atStart => exact ⟨first, Nat.le_refl _, HFC.out.1, rfl, keepH ⟨HSE.out, HC2.out⟩⟩
    case round =>
      obtain ⟨wi, hwi⟩ : ∃ wi, wi = wr := ⟨_, rfl⟩
      rw [← hwi] at hrel ⊢
      clear hwi
      obtain ⟨s, hs1, hs2, rfl, HI⟩ := hrel
      by_cases hsc : s = c
      · subst hsc
        have tb0 : ((s : Int) != (s : Int)) = false := by simp
        go_wp2_with fail
        go_ret
        exact ⟨by simp, (HI.out.2.mono (G := fun k => w.heap.size ≤ k) (fun _ _ x => x.elim)).below (Nat.le_refl _)⟩
      · have tb0 : ((s : Int) != (c : Int)) = true := bne_iff_ne.2 (by omega)
        have tb1 : ((s : Int) == (c : Int)) = false := beq_eq_false_iff_ne.2 (by omega)
        have ws : IntKind.u64.wrap ((s : Int) + 1) = ((s + 1 : Nat) : Int) := by have := HSM.out; rw [IntKind.wrap_u64]; omega
        go_wp2_with fail
        go_loopw [8, 9] (fun s8 s9 wr => ∃ k cn : Nat, k ≤ n ∧ s8 = .int .i64 (cn : Int) ∧ s9 = .int .i64 (k : Int) ∧ Hid (Seen wr cell m (.slice pa n ca) pcs pb nb tb c ∧ Chg (fun _ => False) w wr) ∧ Hid (cn = (pcs.take k).countP (fun x => x.moved && (x.stamp == s)))) (fun _ s9 _ => n - (intOf s9).toNat)
        case atStart => exact ⟨0, 0, by omega, rfl, rfl, HI, keepH (by simp)⟩
        case round =>
          obtain ⟨wk, hwk⟩ : ∃ wk, wk = wr := ⟨_, rfl⟩
          rw [← hwk] at hrel ⊢
          clear hwk
          obtain ⟨k, cn, hk, rfl, rfl, HJ, HK⟩ := hrel
          by_cases hlt : k < n
          · have t1 : (k : Int) < (n : Int) := by omega
            obtain ⟨x, hx⟩ : ∃ x, pcs[k]? = some x := ⟨pcs[k]'(by have := HN.out; omega), List.getElem?_eq_getElem _⟩
            obtain ⟨g, cpp, hal, c0, c1, c2, c3, c4, c5, c6⟩ := HJ.out.1.cells hx
            simp only [Value.slice.injEq] at hal
            obtain ⟨hpa, -, hca⟩ := hal
            subst hpa
            subst hca
            have hts := take_snoc hx
            have hxm : x ∈ pcs := List.mem_of_getElem? hx
            have HCK : Hid (cn ≤ 1048576) := by
              have e : cn = _ := HK.out
              have l1 : (pcs.take k).countP (fun x => x.moved && (x.stamp == s)) ≤ (pcs.take k).length := List.countP_le_length
              have l2 := List.length_take_le k pcs
              have := HPL.out
              have := HN.out
              show _ ≤ _
              omega
            have HX := keepH hx
            have HTS := keepH hts
            clear hts hx
            have HNO : Hid ((x.moved && (x.stamp == s)) = false → cn = (pcs.take (k + 1)).countP (fun x => x.moved && (x.stamp == s))) := fun e => by
              rw [HTS.out, List.countP_append, ← (show cn = _ from HK.out)]
              simp [e]
            cases hN : x.isNow with
            | true =>
              have HXM : Hid (x.moved = false) := (HCI.out.now x hxm hN).2.1
              rw [hN] at c1
              clear hxm hN
              go_wp2_with fail
              go_roundw
              case rel => first | exact ⟨k + 1, cn, by omega, (by first | rfl | trivial | go_num), by first | rfl | go_num, HJ, keepH (HNO.out (by rw [HXM.out]; rfl))⟩ | ((repeat apply Exists.intro); refine ⟨?_, rfl⟩; exact ⟨k + 1, cn, by omega, (by first | rfl | trivial | go_num), by first | rfl | go_num, HJ, keepH (HNO.out (by rw [HXM.out]; rfl))⟩)
              case measure => simp [intOf]; omega
            | false =>
              have HTK := keepH (HJ.out.1.take HX.out hN)
              rw [hN] at c1
              go_wp2_with fail
              refine (t_moved (tb k) cell x.most x.pos x.stamp x.err x.moved _ HTK.out).mono ?_
              rintro e w4 ⟨rfl, rfl⟩
              cases hMv : x.moved with
              | true =>
                have HMV := keepH hMv
                obtain ⟨-, -, v3, v4⟩ := HCI.out.mv x hxm hMv
                have KST := t_stamp (tb k) cell x.most x.pos x.stamp x.err x.moved _ HTK.out
                rw [v3, v4] at KST
                simp only [and_self, if_true] at KST
                have HST := keepH KST
                clear hMv KST v3 v4 hxm hN
                obtain ⟨st, hst⟩ : ∃ st, st = x.stamp := ⟨_, rfl⟩
                rw [← hst] at HST
                have HSX := keepH hst
                clear hst
                go_wp2_with fail
                refine HST.out.mono ?_
                rintro e w5 ⟨rfl, rfl⟩
                by_cases hss : st = s
                · subst hss
                  have wk : IntKind.i64.wrap ((cn : Int) + 1) = ((cn + 1 : Nat) : Int) := by have := HCK.out; rw [IntKind.wrap_i64]; omega
                  go_wp2_with fail
                  go_roundw
                  case rel => first | exact ⟨k + 1, cn + 1, by omega, (by first | rfl | trivial | go_num), by first | rfl | go_num, HJ, keepH (by rw [HTS.out, List.countP_append, ← (show cn = _ from HK.out)]; simp [HMV.out, ← HSX.out])⟩ | ((repeat apply Exists.intro); refine ⟨?_, rfl⟩; exact ⟨k + 1, cn + 1, by omega, (by first | rfl | trivial | go_num), by first | rfl | go_num, HJ, keepH (by rw [HTS.out, List.countP_append, ← (show cn = _ from HK.out)]; simp [HMV.out, ← HSX.out])⟩)
                  case measure => simp [intOf]; omega
                · have sb : ((st : Int) == (s : Int)) = false := beq_eq_false_iff_ne.2 (by omega)
                  have HSB : Hid ((x.moved && (x.stamp == s)) = false) := by rw [← HSX.out]; show _ = _; simp [hss]
                  clear hss
                  go_wp2_with fail
                  go_roundw
                  case rel => first | exact ⟨k + 1, cn, by omega, (by first | rfl | trivial | go_num), by first | rfl | go_num, HJ, keepH (HNO.out HSB.out)⟩ | ((repeat apply Exists.intro); refine ⟨?_, rfl⟩; exact ⟨k + 1, cn, by omega, (by first | rfl | trivial | go_num), by first | rfl | go_num, HJ, keepH (HNO.out HSB.out)⟩)
                  case measure => simp [intOf]; omega
              | false =>
                have HMV := keepH hMv
                clear hMv hxm hN
                go_wp2_with fail
                go_roundw
                case rel => first | exact ⟨k + 1, cn, by omega, (by first | rfl | trivial | go_num), by first | rfl | go_num, HJ, keepH (HNO.out (by rw [HMV.out]; rfl))⟩ | ((repeat apply Exists.intro); refine ⟨?_, rfl⟩; exact ⟨k + 1, cn, by omega, (by first | rfl | trivial | go_num), by first | rfl | go_num, HJ, keepH (HNO.out (by rw [HMV.out]; rfl))⟩)
                case measure => simp [intOf]; omega
          · obtain rfl : k = n := by omega
            have t1 : ¬ (k : Int) < (k : Int) := by omega
            have ht : pcs.take k = pcs := List.take_of_length_le (by have := HN.out; omega)
            have e1 : cn = _ := HK.out
            rw [ht, HCJ.out.once s hs1 (by omega)] at e1
            subst e1
            clear ht HK
            go_wp2_with fail
            go_roundw
            case rel => first | exact ⟨s + 1, by omega, by omega, by first | rfl | go_num, HJ⟩ | ((repeat apply Exists.intro); refine ⟨?_, rfl⟩; exact ⟨s + 1, by omega, by omega, by first | rfl | go_num, HJ⟩)
            case measure => simp [intOf]; omega
  · have d0 : (128 : Int) ≤ (cell : Int) := by omega
    go_wp2_with fail
    go_ret
    exact ⟨by simp, (HC2.out.mono (G := fun k => w.heap.size ≤ k) (fun _ _ x => x.elim)).below (Nat.le_refl _)⟩

set_option maxRecDepth 100000 in
theorem lifted (os : Os) (started : os.Started) (H : Type) (enc : TypeId × Value → H) (F : Stop.Interp) :
    ReturnsInHanded {} Try.checked os 6 .any ((Rows.OpenSpec.upto Rows.cameraOnceSpec).pre6 enc Try.prog Try.f6 Rows.cameraOnceUptoRow.domain false) (((Rows.OpenSpec.upto Rows.cameraOnceSpec).at F).post enc Try.prog Try.f6 false true false false) := by
  refine returnsInHanded_of_cond (C := Try.checked) (s := Rows.OpenSpec.upto Rows.cameraOnceSpec) (k := Rows.uptoSmall) rfl own started (by kernel_rfl) Try.func6
    (OpenSpec.witness (enc := enc) (C := Try.checked) (s := Rows.OpenSpec.upto Rows.cameraOnceSpec) (k := Rows.uptoSmall) rfl false ⟨#[], #[.agg #[.int .u64 0, .int .u64 0, .slice none 0 0, .slice none 0 0]], []⟩ 8 (by kernel_rfl) (by kernel_rfl) (by kernel_rfl)
      (x := ([.agg [.lit (.int .u64 0), .lit (.int .u64 0), .nil, .nil]], [], [])) (by kernel_rfl) rfl (by kernel_rfl)) ?_
  intro W base args ds gs before hval0 hW _ hk _
  have hval : ∀ (j : Nat) t v, Try.f6.params[j]? = some t → args[j]? = some v → Value.okWide Try.prog W .any base t v := hval0
  have hW' := hW
  obtain ⟨p, q, hA0, hV, rfl, hfz, hnd⟩ := hW
  have hA : DataW.TrodAll enc Try.prog W 0 (fun _ => true) true Try.f6.params.toList args.toList ds p := hA0
  rw [Try.params6] at hA hval
  obtain ⟨v0, vs0, d0, ds0, p0, q0, hargs, rfl, rfl, h0, r0⟩ := trodAll_cons hA
  obtain ⟨rfl, rfl, rfl⟩ := trodAll_nil r0
  obtain rfl : args = #[v0] := by cases args; simp_all
  obtain ⟨rfl, rfl⟩ := trodVars_none hV
  have k0 := h0
  have lt0 : ∀ x ∈ p0, x.block < W.heap.size := by obtain ⟨m, hm⟩ := k0; exact DataW.trod_lt m _ _ _ hm
  obtain ⟨cv, rfl, hcsz⟩ := okWide_struct Try.underlying26 (hval 0 26 v0 rfl rfl)
  obtain ⟨cell, first, pt, ct, ths, pp, cp, picks, rfl, hc, hf, hT, hP, hbt, hbp⟩ := run_open h0
  simp only [List.append_nil] at hW' hk
  have hb : Rows.uptoBulkAll [d0] ≤ 1048576 := of_decide_eq_true hk
  have hnt : ths.length ≤ 1048576 := by simp only [Rows.uptoBulkAll] at hb; omega
  have hnp : picks.length ≤ 1048576 := by simp only [Rows.uptoBulkAll] at hb; omega
  clear hA0 hval0
  refine (walk cell first pt ct ths pp cp picks W hc hf hT hP hnt hnp).mono fun e W' ⟨he, bel⟩ => ?_
  subst he
  exact ⟨_, rfl, _, _, _, [], _, [], hW', trodAll_mk1 (shut_bool Try.underlying4 _), (trodAll_cons_mk (Below.trod laidOut (by kernel_rfl) (of_decide_eq_true (by kernel_rfl)) k0 bel lt0) trodAll_mk0), rfl, bel.frame _, fun h => by cases h⟩

theorem over : Rows.cameraOnceUptoRow.holds Try.pinned (Rows.OpenSpec.upto Rows.cameraOnceSpec) :=
  OpenClaim.holds_of_cond 6 Try.f6 rfl rfl rfl rfl rfl rfl rfl ⟨rfl, rfl, rfl, rfl, rfl⟩ rfl rfl rfl rfl rfl (by kernel_rfl) Try.func6 (by kernel_rfl)
    (of_decide_eq_true (by kernel_rfl)) (by unfold Func.isWrapper; first | (rw [if_pos (by decide +kernel)]; kernel_rfl) | (rw [if_neg (by decide +kernel)]; exact ⟨rfl, rfl⟩))
    (fun os started H enc _ F => lifted os started H enc F)
end Go.Proofs.Ytinhcphhdehmhaa.cameraOnce
namespace Go.Proofs.Ytinhcphhdehmhaa
theorem cameraOnce_holds : Rows.CameraOnceUptoSaid := cameraOnce.over
end Go.Proofs.Ytinhcphhdehmhaa
