/- For every number and every two turns the law MixRound (P2.7) returns true and leaves its arguments as they were; no condition. -/
import Derived.Test.YtoopbacnnkmpbacRows
import Derived.WalkKit
import Derived.ProofKit
import Derived.OpenShut
import Derived.Lib.SmallJoins
import Derived.Test.YtoopbacnnkmpbacNot
import Derived.Test.YtoopbacnnkmpbacRot
import Derived.Test.YtoopbacnnkmpbacLive
namespace Go.Proofs.Ytoopbacnnkmpbac.mixRound
open Go.ChangeShapes Go.WideShapes Go.ChangeAt Go.RowKit Go.Joins
set_option linter.unusedVariables false

theorem own : ownKnob Try.prog.godebug = none := by kernel_rfl

set_option maxHeartbeats 2000000 in
theorem walk (a0 : Int) (a1 : Int) (a2 : Int) (w0 : (Lit.int .u64 a0).wf = true) (w1 : (Lit.int .i64 a1).wf = true) (w2 : (Lit.int .i64 a2).wf = true) (w : World) :
    Calls Try.prog 4 #[.int .u64 a0, .int .i64 a1, .int .i64 a2] w fun e w' => e = .returned (.bool true) ∧ Below w.heap.size w w' := by
  have b0 := bounds_u64 w0
  have b1 := bounds_i64 w1
  have b2 := bounds_i64 w2
  clear w0 w1 w2
  obtain ⟨v, rfl⟩ := Int.eq_ofNat_of_zero_le b0.1
  have hv : v < 18446744073709551616 := by omega
  clear b0
  have R := keepH (ones_rot (a1 % 64).toNat hv (by omega))
  have T : Hid (rotN (rotN v (a1 % 64).toNat) (a2 % 64).toNat = rotN v ((a1 + a2) % 64).toNat) := by
    show _ = _
    rw [rot_rot _ _ hv (by omega) (by omega)]
    congr 1
    omega
  by_cases c1 : 4611686018427387904 < a1
  · go_enter Try.func4, Try.ntmps4
    go_wp2_with fail
    refine (live_any _).mono ?_
    rintro e v1 ⟨rfl, l1⟩
    go_wp2_with fail
    refine (turn_nat v a1 _ hv).mono ?_
    rintro e w' ⟨rfl, rfl⟩
    go_wp2_with fail
    refine (ones_nat _ _ (rotN_lt _ hv)).mono ?_
    rintro e w' ⟨rfl, rfl⟩
    rw [R.out]
    go_wp2_with fail
    refine (ones_nat v _ hv).mono ?_
    rintro e w' ⟨rfl, rfl⟩
    go_wp2
    go_ret
    exact ⟨by simp, l1⟩
  · by_cases c2 : a1 < -4611686018427387904
    · go_enter Try.func4, Try.ntmps4
      go_wp2_with fail
      refine (live_any _).mono ?_
      rintro e v1 ⟨rfl, l1⟩
      go_wp2_with fail
      refine (turn_nat v a1 _ hv).mono ?_
      rintro e w' ⟨rfl, rfl⟩
      go_wp2_with fail
      refine (ones_nat _ _ (rotN_lt _ hv)).mono ?_
      rintro e w' ⟨rfl, rfl⟩
      rw [R.out]
      go_wp2_with fail
      refine (ones_nat v _ hv).mono ?_
      rintro e w' ⟨rfl, rfl⟩
      go_wp2
      go_ret
      exact ⟨by simp, l1⟩
    · by_cases c3 : 4611686018427387904 < a2
      · go_enter Try.func4, Try.ntmps4
        go_wp2_with fail
        refine (live_any _).mono ?_
        rintro e v1 ⟨rfl, l1⟩
        go_wp2_with fail
        refine (turn_nat v a1 _ hv).mono ?_
        rintro e w' ⟨rfl, rfl⟩
        go_wp2_with fail
        refine (ones_nat _ _ (rotN_lt _ hv)).mono ?_
        rintro e w' ⟨rfl, rfl⟩
        rw [R.out]
        go_wp2_with fail
        refine (ones_nat v _ hv).mono ?_
        rintro e w' ⟨rfl, rfl⟩
        go_wp2
        go_ret
        exact ⟨by simp, l1⟩
      · by_cases c4 : a2 < -4611686018427387904
        · go_enter Try.func4, Try.ntmps4
          go_wp2_with fail
          refine (live_any _).mono ?_
          rintro e v1 ⟨rfl, l1⟩
          go_wp2_with fail
          refine (turn_nat v a1 _ hv).mono ?_
          rintro e w' ⟨rfl, rfl⟩
          go_wp2_with fail
          refine (ones_nat _ _ (rotN_lt _ hv)).mono ?_
          rintro e w' ⟨rfl, rfl⟩
          rw [R.out]
          go_wp2_with fail
          refine (ones_nat v _ hv).mono ?_
          rintro e w' ⟨rfl, rfl⟩
          go_wp2
          go_ret
          exact ⟨by simp, l1⟩
        · have hs := not_ones hv
          have n1 := not_int hv
          have ln := notN_lt hv
          go_enter Try.func4, Try.ntmps4
          go_wp2_with fail
          refine (live_any _).mono ?_
          rintro e v1 ⟨rfl, l1⟩
          go_wp2_with fail
          refine (turn_nat v a1 _ hv).mono ?_
          rintro e w' ⟨rfl, rfl⟩
          go_wp2_with fail
          refine (turn_nat _ a2 _ (rotN_lt _ hv)).mono ?_
          rintro e w' ⟨rfl, rfl⟩
          rw [T.out]
          go_wp2_with fail
          refine (turn_nat v (wrap64 (a1 + a2)) _ hv).mono ?_
          rintro e w' ⟨rfl, rfl⟩
          rw [show wrap64 (a1 + a2) % 64 = (a1 + a2) % 64 by unfold wrap64; omega]
          go_wp2_with fail
          refine (turn_nat v 64 _ hv).mono ?_
          rintro e w' ⟨rfl, rfl⟩
          rw [show ((64 : Int) % 64).toNat = 0 from rfl, rot_0 hv]
          go_wp2_with fail
          refine (turn_nat v a1 _ hv).mono ?_
          rintro e w' ⟨rfl, rfl⟩
          go_wp2_with fail
          refine (ones_nat _ _ (rotN_lt _ hv)).mono ?_
          rintro e w' ⟨rfl, rfl⟩
          rw [R.out]
          go_wp2_with fail
          refine (ones_nat v _ hv).mono ?_
          rintro e w' ⟨rfl, rfl⟩
          go_wp2_with fail
          refine (ones_nat v _ hv).mono ?_
          rintro e w' ⟨rfl, rfl⟩
          go_wp2_with fail
          refine (ones_nat (notN v) _ ln).mono ?_
          rintro e w' ⟨rfl, rfl⟩
          have hI : ((onesN v : Nat) : Int) + ((onesN (notN v) : Nat) : Int) = 64 := by omega
          clear hs n1
          go_wp2
          go_ret
          exact ⟨by simp, l1⟩

set_option maxRecDepth 100000 in
theorem lifted (os : Os) (started : os.Started) (H : Type) (enc : TypeId × Value → H) :
    ReturnsInHanded {} Try.checked os 4 .any (Rows.mixRoundSpec.pre6 enc Try.prog Try.f4 Rows.mixRoundRow.domain false) (Rows.mixRoundSpec.post enc Try.prog Try.f4 false true false false) := by
  refine returnsInHanded_of_change (C := Try.checked) own started (by kernel_rfl) Try.func4
    (ChangeSpec.witness6 (enc := enc) (C := Try.checked) false ⟨#[], #[.int .u64 0, .int .i64 0, .int .i64 0], []⟩ 8 (by kernel_rfl) (by kernel_rfl) (by kernel_rfl) (by kernel_rfl)) ?_
  intro W base args ds gs before hval0 hW hcnd _
  have hval : ∀ (j : Nat) t v, Try.f4.params[j]? = some t → args[j]? = some v → Value.okWide Try.prog W .any base t v := hval0
  have hW' := hW
  obtain ⟨p, q, hA0, hV, rfl, hfz, hnd⟩ := hW
  have hA : DataW.TrodAll enc Try.prog W 0 (fun _ => true) true Try.f4.params.toList args.toList ds p := hA0
  rw [Try.params4] at hA hval
  obtain ⟨v0, vs0, d0, ds0, p0, q0, hargs, rfl, rfl, h0, r0⟩ := trodAll_cons hA
  obtain ⟨v1, vs1, d1, ds1, p1, q1, rfl, rfl, rfl, h1, r1⟩ := trodAll_cons r0
  obtain ⟨v2, vs2, d2, ds2, p2, q2, rfl, rfl, rfl, h2, r2⟩ := trodAll_cons r1
  obtain ⟨rfl, rfl, rfl⟩ := trodAll_nil r2
  obtain rfl : args = #[v0, v1, v2] := by cases args; simp_all
  obtain ⟨rfl, rfl⟩ := trodVars_none hV
  obtain ⟨a0, rfl, rfl, rfl, w0⟩ := open_int Try.underlying22 (hval 0 22 v0 rfl rfl) h0
  obtain ⟨a1, rfl, rfl, rfl, w1⟩ := open_int Try.underlying3 (hval 1 3 v1 rfl rfl) h1
  obtain ⟨a2, rfl, rfl, rfl, w2⟩ := open_int Try.underlying3 (hval 2 3 v2 rfl rfl) h2
  clear hA0 hval0
  simp only [List.append_nil] at hW'
  refine (walk a0 a1 a2 w0 w1 w2 W).mono fun e W' ⟨he, hg⟩ => ?_
  subst he
  exact ⟨_, rfl, _, _, _, [], _, [], hW', trodAll_mk1 (shut_bool Try.underlying4 _), (trodAll_cons_mk (shut_int Try.underlying22 w0) (trodAll_cons_mk (shut_int Try.underlying3 w1) (trodAll_cons_mk (shut_int Try.underlying3 w2) trodAll_mk0))), rfl, hg.frame _, fun h => by cases h⟩

theorem over : Rows.mixRoundRow.holds Try.pinned (OpenSpec.ofChange Rows.mixRoundSpec) :=
  OpenClaim.holds_of_wide 4 Try.f4 rfl rfl rfl rfl rfl rfl rfl ⟨rfl, rfl, rfl, rfl, rfl⟩ rfl rfl rfl rfl rfl (by kernel_rfl) Try.func4 (by kernel_rfl)
    (of_decide_eq_true (by kernel_rfl)) (by unfold Func.isWrapper; first | (rw [if_pos (by decide +kernel)]; kernel_rfl) | (rw [if_neg (by decide +kernel)]; exact ⟨rfl, rfl⟩))
    (fun os started H enc _ => lifted os started H enc)
end Go.Proofs.Ytoopbacnnkmpbac.mixRound
namespace Go.Proofs.Ytoopbacnnkmpbac
theorem mixRound_holds : Rows.MixRoundSaid := mixRound.over
end Go.Proofs.Ytoopbacnnkmpbac
