/- For every three numbers the law MixCommon (P2.6) returns true and leaves its arguments as they were; no condition. -/
import Derived.Test.YtoopbacnnkmpbacRows
import Derived.WalkKit
import Derived.ProofKit
import Derived.OpenShut
import Derived.Lib.SmallJoins
import Derived.Test.YtoopbacnnkmpbacCom2
import Derived.Test.YtoopbacnnkmpbacLive
namespace Go.Proofs.Ytoopbacnnkmpbac.mixCommon
open Go.ChangeShapes Go.WideShapes Go.ChangeAt Go.RowKit Go.Joins
set_option linter.unusedVariables false

theorem own : ownKnob Try.prog.godebug = none := by kernel_rfl

set_option maxHeartbeats 2000000 in
theorem walk (a0 : Int) (a1 : Int) (a2 : Int) (w0 : (Lit.int .u64 a0).wf = true) (w1 : (Lit.int .u64 a1).wf = true) (w2 : (Lit.int .u64 a2).wf = true) (w : World) :
    Calls Try.prog 3 #[.int .u64 a0, .int .u64 a1, .int .u64 a2] w fun e w' => e = .returned (.bool true) ∧ Below w.heap.size w w' := by
  have b0 := bounds_u64 w0
  have b1 := bounds_u64 w1
  have b2 := bounds_u64 w2
  clear w0 w1 w2
  obtain ⟨x, hx⟩ := comm_ex a0 a1
  obtain ⟨y, hy⟩ := comm_ex a1 a2
  obtain ⟨z, hz⟩ := comm_ex a0 a2
  have tri := comm_tri hx hy hz
  have x1 := hx.1
  have y1 := hy.1
  have z1 := hz.1
  have HY := keepH hy
  have HZ := keepH hz
  by_cases c1 : x = 11
  · subst c1
    obtain rfl := comm_all (by omega) (by omega) (by omega) (by omega) hx
    have HX := keepH hx
    clear hx hy hz
    obtain rfl : y = z := comm_one HY.out HZ.out
    by_cases c2 : y < 11
    · have c2' : (y : Int) < 11 := by omega
      go_enter Try.func3, Try.ntmps3
      go_wp2_with fail
      refine (live_any _).mono ?_
      rintro e v1 ⟨rfl, l1⟩
      go_wp2_with fail
      refine (common_at a0 a0 11 HX.out (by omega) (by omega) (by omega) (by omega) _).mono ?_
      rintro e v2 ⟨rfl, l2⟩
      go_wp2_with fail
      refine (common_at a0 a2 y HY.out (by omega) (by omega) (by omega) (by omega) _).mono ?_
      rintro e v3 ⟨rfl, l3⟩
      go_wp2_with fail
      refine (common_at a0 a2 y HZ.out (by omega) (by omega) (by omega) (by omega) _).mono ?_
      rintro e v4 ⟨rfl, l4⟩
      go_wp2_with fail
      refine (common_at a0 a0 11 HX.out (by omega) (by omega) (by omega) (by omega) _).mono ?_
      rintro e v5 ⟨rfl, l5⟩
      go_wp2_with fail
      refine (common_at a0 a0 11 (comm_symm HX.out) (by omega) (by omega) (by omega) (by omega) _).mono ?_
      rintro e v6 ⟨rfl, l6⟩
      go_wp2_with fail
      refine (digit_any a0 10 _ (by omega) (by omega) (by omega) (by omega)).mono ?_
      rintro e w' ⟨rfl, rfl⟩
      go_wp2_with fail
      refine (digit_any a0 10 _ (by omega) (by omega) (by omega) (by omega)).mono ?_
      rintro e w' ⟨rfl, rfl⟩
      go_wp2
      go_ret
      have s1 := l1.size
      have s2 := l2.size
      have s3 := l3.size
      have s4 := l4.size
      have s5 := l5.size
      exact ⟨by simp, ((((l1.trans (l2.mono s1)).trans (l3.mono (by omega))).trans (l4.mono (by omega))).trans (l5.mono (by omega))).trans (l6.mono (by omega))⟩
    · obtain rfl : y = 11 := by omega
      go_enter Try.func3, Try.ntmps3
      go_wp2_with fail
      refine (live_any _).mono ?_
      rintro e v1 ⟨rfl, l1⟩
      go_wp2_with fail
      refine (common_at a0 a0 11 HX.out (by omega) (by omega) (by omega) (by omega) _).mono ?_
      rintro e v2 ⟨rfl, l2⟩
      go_wp2_with fail
      refine (common_at a0 a2 11 HY.out (by omega) (by omega) (by omega) (by omega) _).mono ?_
      rintro e v3 ⟨rfl, l3⟩
      go_wp2_with fail
      refine (common_at a0 a2 11 HZ.out (by omega) (by omega) (by omega) (by omega) _).mono ?_
      rintro e v4 ⟨rfl, l4⟩
      go_wp2_with fail
      refine (common_at a0 a0 11 HX.out (by omega) (by omega) (by omega) (by omega) _).mono ?_
      rintro e v5 ⟨rfl, l5⟩
      go_wp2_with fail
      refine (common_at a0 a0 11 (comm_symm HX.out) (by omega) (by omega) (by omega) (by omega) _).mono ?_
      rintro e v6 ⟨rfl, l6⟩
      go_wp2_with fail
      refine (digit_any a0 10 _ (by omega) (by omega) (by omega) (by omega)).mono ?_
      rintro e w' ⟨rfl, rfl⟩
      go_wp2_with fail
      refine (digit_any a0 10 _ (by omega) (by omega) (by omega) (by omega)).mono ?_
      rintro e w' ⟨rfl, rfl⟩
      go_wp2
      go_ret
      have s1 := l1.size
      have s2 := l2.size
      have s3 := l3.size
      have s4 := l4.size
      have s5 := l5.size
      exact ⟨by simp, ((((l1.trans (l2.mono s1)).trans (l3.mono (by omega))).trans (l4.mono (by omega))).trans (l5.mono (by omega))).trans (l6.mono (by omega))⟩
  · have ne : ¬ a0 = a1 := fun e => by subst e; exact c1 (comm_one hx (comm_same a0))
    have ne' : (a0 == a1) = false := beq_eq_false_iff_ne.2 ne
    have n11 : ((x : Int) == 11) = false := beq_eq_false_iff_ne.2 (by omega)
    have dx : (dig a0 (x : Int) != dig a1 (x : Int)) = true := by
      have := hx.2.2 (by omega)
      simpa using this
    have HX := keepH hx
    by_cases c3 : x = 0
    · subst c3
      have dx0 : (dig a0 0 != dig a1 0) = true := dx
      clear hx hy hz dx n11
      have c2 : ¬ (y : Int) < 0 := by omega
      go_enter Try.func3, Try.ntmps3
      go_wp2_with fail
      refine (live_any _).mono ?_
      rintro e v1 ⟨rfl, l1⟩
      go_wp2_with fail
      refine (common_at a0 a1 0 HX.out (by omega) (by omega) (by omega) (by omega) _).mono ?_
      rintro e v2 ⟨rfl, l2⟩
      go_wp2_with fail
      refine (common_at a1 a2 y HY.out (by omega) (by omega) (by omega) (by omega) _).mono ?_
      rintro e v3 ⟨rfl, l3⟩
      go_wp2_with fail
      refine (common_at a0 a2 z HZ.out (by omega) (by omega) (by omega) (by omega) _).mono ?_
      rintro e v4 ⟨rfl, l4⟩
      go_wp2_with fail
      refine (common_at a0 a1 0 HX.out (by omega) (by omega) (by omega) (by omega) _).mono ?_
      rintro e v5 ⟨rfl, l5⟩
      go_wp2_with fail
      refine (common_at a1 a0 0 (comm_symm HX.out) (by omega) (by omega) (by omega) (by omega) _).mono ?_
      rintro e v6 ⟨rfl, l6⟩
      go_wp2_with fail
      refine (digit_any a0 0 _ (by omega) (by omega) (by omega) (by omega)).mono ?_
      rintro e w' ⟨rfl, rfl⟩
      go_wp2_with fail
      refine (digit_any a1 0 _ (by omega) (by omega) (by omega) (by omega)).mono ?_
      rintro e w' ⟨rfl, rfl⟩
      go_wp2
      go_ret
      have s1 := l1.size
      have s2 := l2.size
      have s3 := l3.size
      have s4 := l4.size
      have s5 := l5.size
      exact ⟨by simp, ((((l1.trans (l2.mono s1)).trans (l3.mono (by omega))).trans (l4.mono (by omega))).trans (l5.mono (by omega))).trans (l6.mono (by omega))⟩
    · have n0 : ((x : Int) == 0) = false := beq_eq_false_iff_ne.2 (by omega)
      have dp : (dig a0 ((x : Int) - 1) == dig a1 ((x : Int) - 1)) = true := by
        have := hx.2.1 (x - 1) (by omega)
        rw [show ((x - 1 : Nat) : Int) = (x : Int) - 1 by omega] at this
        simpa using this
      clear hx hy hz ne
      by_cases c2 : y < x
      · have c2' : (y : Int) < (x : Int) := by omega
        have c4 : (y : Int) ≤ (z : Int) := by omega
        go_enter Try.func3, Try.ntmps3
        go_wp2_with fail
        refine (live_any _).mono ?_
        rintro e v1 ⟨rfl, l1⟩
        go_wp2_with fail
        refine (common_at a0 a1 x HX.out (by omega) (by omega) (by omega) (by omega) _).mono ?_
        rintro e v2 ⟨rfl, l2⟩
        go_wp2_with fail
        refine (common_at a1 a2 y HY.out (by omega) (by omega) (by omega) (by omega) _).mono ?_
        rintro e v3 ⟨rfl, l3⟩
        go_wp2_with fail
        refine (common_at a0 a2 z HZ.out (by omega) (by omega) (by omega) (by omega) _).mono ?_
        rintro e v4 ⟨rfl, l4⟩
        go_wp2_with fail
        refine (common_at a0 a1 x HX.out (by omega) (by omega) (by omega) (by omega) _).mono ?_
        rintro e v5 ⟨rfl, l5⟩
        go_wp2_with fail
        refine (common_at a1 a0 x (comm_symm HX.out) (by omega) (by omega) (by omega) (by omega) _).mono ?_
        rintro e v6 ⟨rfl, l6⟩
        go_wp2_with fail
        refine (digit_any a0 (x : Int) _ (by omega) (by omega) (by omega) (by omega)).mono ?_
        rintro e w' ⟨rfl, rfl⟩
        go_wp2_with fail
        refine (digit_any a1 (x : Int) _ (by omega) (by omega) (by omega) (by omega)).mono ?_
        rintro e w' ⟨rfl, rfl⟩
        go_wp2_with fail
        refine (digit_any a0 ((x : Int) - 1) _ (by omega) (by omega) (by omega) (by omega)).mono ?_
        rintro e w' ⟨rfl, rfl⟩
        go_wp2_with fail
        refine (digit_any a1 ((x : Int) - 1) _ (by omega) (by omega) (by omega) (by omega)).mono ?_
        rintro e w' ⟨rfl, rfl⟩
        go_wp2
        go_ret
        have s1 := l1.size
        have s2 := l2.size
        have s3 := l3.size
        have s4 := l4.size
        have s5 := l5.size
        exact ⟨by simp, ((((l1.trans (l2.mono s1)).trans (l3.mono (by omega))).trans (l4.mono (by omega))).trans (l5.mono (by omega))).trans (l6.mono (by omega))⟩
      · have c2' : ¬ (y : Int) < (x : Int) := by omega
        have c4 : (x : Int) ≤ (z : Int) := by omega
        go_enter Try.func3, Try.ntmps3
        go_wp2_with fail
        refine (live_any _).mono ?_
        rintro e v1 ⟨rfl, l1⟩
        go_wp2_with fail
        refine (common_at a0 a1 x HX.out (by omega) (by omega) (by omega) (by omega) _).mono ?_
        rintro e v2 ⟨rfl, l2⟩
        go_wp2_with fail
        refine (common_at a1 a2 y HY.out (by omega) (by omega) (by omega) (by omega) _).mono ?_
        rintro e v3 ⟨rfl, l3⟩
        go_wp2_with fail
        refine (common_at a0 a2 z HZ.out (by omega) (by omega) (by omega) (by omega) _).mono ?_
        rintro e v4 ⟨rfl, l4⟩
        go_wp2_with fail
        refine (common_at a0 a1 x HX.out (by omega) (by omega) (by omega) (by omega) _).mono ?_
        rintro e v5 ⟨rfl, l5⟩
        go_wp2_with fail
        refine (common_at a1 a0 x (comm_symm HX.out) (by omega) (by omega) (by omega) (by omega) _).mono ?_
        rintro e v6 ⟨rfl, l6⟩
        go_wp2_with fail
        refine (digit_any a0 (x : Int) _ (by omega) (by omega) (by omega) (by omega)).mono ?_
        rintro e w' ⟨rfl, rfl⟩
        go_wp2_with fail
        refine (digit_any a1 (x : Int) _ (by omega) (by omega) (by omega) (by omega)).mono ?_
        rintro e w' ⟨rfl, rfl⟩
        go_wp2_with fail
        refine (digit_any a0 ((x : Int) - 1) _ (by omega) (by omega) (by omega) (by omega)).mono ?_
        rintro e w' ⟨rfl, rfl⟩
        go_wp2_with fail
        refine (digit_any a1 ((x : Int) - 1) _ (by omega) (by omega) (by omega) (by omega)).mono ?_
        rintro e w' ⟨rfl, rfl⟩
        go_wp2
        go_ret
        have s1 := l1.size
        have s2 := l2.size
        have s3 := l3.size
        have s4 := l4.size
        have s5 := l5.size
        exact ⟨by simp, ((((l1.trans (l2.mono s1)).trans (l3.mono (by omega))).trans (l4.mono (by omega))).trans (l5.mono (by omega))).trans (l6.mono (by omega))⟩

set_option maxRecDepth 100000 in
theorem lifted (os : Os) (started : os.Started) (H : Type) (enc : TypeId × Value → H) :
    ReturnsInHanded {} Try.checked os 3 .any (Rows.mixCommonSpec.pre6 enc Try.prog Try.f3 Rows.mixCommonRow.domain false) (Rows.mixCommonSpec.post enc Try.prog Try.f3 false true false false) := by
  refine returnsInHanded_of_change (C := Try.checked) own started (by kernel_rfl) Try.func3
    (ChangeSpec.witness6 (enc := enc) (C := Try.checked) false ⟨#[], #[.int .u64 0, .int .u64 0, .int .u64 0], []⟩ 8 (by kernel_rfl) (by kernel_rfl) (by kernel_rfl) (by kernel_rfl)) ?_
  intro W base args ds gs before hval0 hW hcnd _
  have hval : ∀ (j : Nat) t v, Try.f3.params[j]? = some t → args[j]? = some v → Value.okWide Try.prog W .any base t v := hval0
  have hW' := hW
  obtain ⟨p, q, hA0, hV, rfl, hfz, hnd⟩ := hW
  have hA : DataW.TrodAll enc Try.prog W 0 (fun _ => true) true Try.f3.params.toList args.toList ds p := hA0
  rw [Try.params3] at hA hval
  obtain ⟨v0, vs0, d0, ds0, p0, q0, hargs, rfl, rfl, h0, r0⟩ := trodAll_cons hA
  obtain ⟨v1, vs1, d1, ds1, p1, q1, rfl, rfl, rfl, h1, r1⟩ := trodAll_cons r0
  obtain ⟨v2, vs2, d2, ds2, p2, q2, rfl, rfl, rfl, h2, r2⟩ := trodAll_cons r1
  obtain ⟨rfl, rfl, rfl⟩ := trodAll_nil r2
  obtain rfl : args = #[v0, v1, v2] := by cases args; simp_all
  obtain ⟨rfl, rfl⟩ := trodVars_none hV
  obtain ⟨a0, rfl, rfl, rfl, w0⟩ := open_int Try.underlying22 (hval 0 22 v0 rfl rfl) h0
  obtain ⟨a1, rfl, rfl, rfl, w1⟩ := open_int Try.underlying22 (hval 1 22 v1 rfl rfl) h1
  obtain ⟨a2, rfl, rfl, rfl, w2⟩ := open_int Try.underlying22 (hval 2 22 v2 rfl rfl) h2
  clear hA0 hval0
  simp only [List.append_nil] at hW'
  refine (walk a0 a1 a2 w0 w1 w2 W).mono fun e W' ⟨he, hg⟩ => ?_
  subst he
  exact ⟨_, rfl, _, _, _, [], _, [], hW', trodAll_mk1 (shut_bool Try.underlying4 _), (trodAll_cons_mk (shut_int Try.underlying22 w0) (trodAll_cons_mk (shut_int Try.underlying22 w1) (trodAll_cons_mk (shut_int Try.underlying22 w2) trodAll_mk0))), rfl, hg.frame _, fun h => by cases h⟩

theorem over : Rows.mixCommonRow.holds Try.pinned (OpenSpec.ofChange Rows.mixCommonSpec) :=
  OpenClaim.holds_of_wide 3 Try.f3 rfl rfl rfl rfl rfl rfl rfl ⟨rfl, rfl, rfl, rfl, rfl⟩ rfl rfl rfl rfl rfl (by kernel_rfl) Try.func3 (by kernel_rfl)
    (of_decide_eq_true (by kernel_rfl)) (by unfold Func.isWrapper; first | (rw [if_pos (by decide +kernel)]; kernel_rfl) | (rw [if_neg (by decide +kernel)]; exact ⟨rfl, rfl⟩))
    (fun os started H enc _ => lifted os started H enc)
end Go.Proofs.Ytoopbacnnkmpbac.mixCommon
namespace Go.Proofs.Ytoopbacnnkmpbac
theorem mixCommon_holds : Rows.MixCommonSaid := mixCommon.over
end Go.Proofs.Ytoopbacnnkmpbac
