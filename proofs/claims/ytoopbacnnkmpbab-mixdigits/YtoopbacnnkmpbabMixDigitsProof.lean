/- For every two numbers and every level the law MixDigits (P2.2) returns true and leaves its arguments as they were; no condition. -/
import Derived.Test.YtoopbacnnkmpbabRows
import Derived.WalkKit
import Derived.ProofKit
import Derived.OpenShut
import Derived.Lib.SmallJoins
import Derived.Test.YtoopbacnnkmpbabRefs
import Derived.Test.YtoopbacnnkmpbabLive
namespace Go.Proofs.Ytoopbacnnkmpbab.mixDigits
open Go.ChangeShapes Go.WideShapes Go.ChangeAt Go.RowKit Go.Joins
set_option linter.unusedVariables false

theorem own : ownKnob Try.prog.godebug = none := by kernel_rfl

set_option maxHeartbeats 1000000 in
theorem walk (a0 : Int) (a1 : Int) (a2 : Int) (w0 : (Lit.int .u64 a0).wf = true) (w1 : (Lit.int .u64 a1).wf = true) (w2 : (Lit.int .i64 a2).wf = true) (w : World) :
    Calls Try.prog 5 #[.int .u64 a0, .int .u64 a1, .int .i64 a2] w fun e w' => e = .returned (.bool true) ∧ Below w.heap.size w w' := by
  have b0 := bounds_u64 w0
  have b1 := bounds_u64 w1
  have b2 := bounds_i64 w2
  clear w0 w1 w2
  go_enter Try.func5, Try.ntmps5
  go_wp2_with fail
  refine (live_any _).mono ?_
  rintro e v1 ⟨rfl, l1⟩
  go_wp2_with fail
  refine (digit_any a0 a2 _ (by omega) (by omega) (by omega) (by omega)).mono ?_
  rintro e w' ⟨rfl, rfl⟩
  go_wp2_with fail
  refine (refDigit_any a0 a2 _ (by omega) (by omega) (by omega) (by omega)).mono ?_
  rintro e w' ⟨rfl, rfl⟩
  go_wp2_with fail
  refine (digits_any a0 (by omega) (by omega) _).mono ?_
  rintro e v2 ⟨⟨x1, rfl, r1⟩, l2⟩
  obtain ⟨g1, c1, rfl, d1, d2, _, _, d3⟩ := row_cells r1
  have D3 := keepH d3
  clear d3 r1
  go_wp2_with fail
  refine (refDigits_any a0 (by omega) (by omega) _).mono ?_
  rintro e v3 ⟨⟨x2, rfl, r2⟩, l3⟩
  obtain ⟨g2, c2, rfl, e1, e2, _, _, e3⟩ := row_cells r2
  have E3 := keepH e3
  clear e3 r2
  go_wp2_with fail
  refine (same_any g1 0 g2 0 11 c1 c2 (fun j => dig a0 (j : Int)) _ (by omega) (cells_below l3 d2 D3.out) E3.out).mono ?_
  rintro e v4 ⟨rfl, l4⟩
  go_wp2_with fail
  refine (common_any a0 a1 (by omega) (by omega) (by omega) (by omega) _).mono ?_
  rintro e v5 ⟨⟨m1, rfl, k1⟩, l5⟩
  have K1 := keepH k1
  clear k1
  go_wp2_with fail
  refine (refCommon_any a0 a1 (by omega) (by omega) (by omega) (by omega) _).mono ?_
  rintro e v6 ⟨⟨m2, rfl, k2⟩, rfl⟩
  obtain rfl := comm_one K1.out k2
  go_wp2
  go_ret
  have s1 := l1.size
  have s2 := l2.size
  have s3 := l3.size
  have s4 := l4.size
  exact ⟨by simp, (((l1.trans (l2.mono s1)).trans (l3.mono (by omega))).trans (l4.mono (by omega))).trans (l5.mono (by omega))⟩

set_option maxRecDepth 100000 in
theorem lifted (os : Os) (started : os.Started) (H : Type) (enc : TypeId × Value → H) :
    ReturnsInHanded {} Try.checked os 5 .any (Rows.mixDigitsSpec.pre6 enc Try.prog Try.f5 Rows.mixDigitsRow.domain false) (Rows.mixDigitsSpec.post enc Try.prog Try.f5 false true false false) := by
  refine returnsInHanded_of_change (C := Try.checked) own started (by kernel_rfl) Try.func5
    (ChangeSpec.witness6 (enc := enc) (C := Try.checked) false ⟨#[], #[.int .u64 0, .int .u64 0, .int .i64 0], []⟩ 8 (by kernel_rfl) (by kernel_rfl) (by kernel_rfl) (by kernel_rfl)) ?_
  intro W base args ds gs before hval0 hW hcnd _
  have hval : ∀ (j : Nat) t v, Try.f5.params[j]? = some t → args[j]? = some v → Value.okWide Try.prog W .any base t v := hval0
  have hW' := hW
  obtain ⟨p, q, hA0, hV, rfl, hfz, hnd⟩ := hW
  have hA : DataW.TrodAll enc Try.prog W 0 (fun _ => true) true Try.f5.params.toList args.toList ds p := hA0
  rw [Try.params5] at hA hval
  obtain ⟨v0, vs0, d0, ds0, p0, q0, hargs, rfl, rfl, h0, r0⟩ := trodAll_cons hA
  obtain ⟨v1, vs1, d1, ds1, p1, q1, rfl, rfl, rfl, h1, r1⟩ := trodAll_cons r0
  obtain ⟨v2, vs2, d2, ds2, p2, q2, rfl, rfl, rfl, h2, r2⟩ := trodAll_cons r1
  obtain ⟨rfl, rfl, rfl⟩ := trodAll_nil r2
  obtain rfl : args = #[v0, v1, v2] := by cases args; simp_all
  obtain ⟨rfl, rfl⟩ := trodVars_none hV
  obtain ⟨a0, rfl, rfl, rfl, w0⟩ := open_int Try.underlying23 (hval 0 23 v0 rfl rfl) h0
  obtain ⟨a1, rfl, rfl, rfl, w1⟩ := open_int Try.underlying23 (hval 1 23 v1 rfl rfl) h1
  obtain ⟨a2, rfl, rfl, rfl, w2⟩ := open_int Try.underlying3 (hval 2 3 v2 rfl rfl) h2
  clear hA0 hval0
  simp only [List.append_nil] at hW'
  refine (walk a0 a1 a2 w0 w1 w2 W).mono fun e W' ⟨he, hg⟩ => ?_
  subst he
  exact ⟨_, rfl, _, _, _, [], _, [], hW', trodAll_mk1 (shut_bool Try.underlying4 _), (trodAll_cons_mk (shut_int Try.underlying23 w0) (trodAll_cons_mk (shut_int Try.underlying23 w1) (trodAll_cons_mk (shut_int Try.underlying3 w2) trodAll_mk0))), rfl, hg.frame _, fun h => by cases h⟩

theorem over : Rows.mixDigitsRow.holds Try.pinned (OpenSpec.ofChange Rows.mixDigitsSpec) :=
  OpenClaim.holds_of_wide 5 Try.f5 rfl rfl rfl rfl rfl rfl rfl ⟨rfl, rfl, rfl, rfl, rfl⟩ rfl rfl rfl rfl rfl (by kernel_rfl) Try.func5 (by kernel_rfl)
    (of_decide_eq_true (by kernel_rfl)) (by unfold Func.isWrapper; first | (rw [if_pos (by decide +kernel)]; kernel_rfl) | (rw [if_neg (by decide +kernel)]; exact ⟨rfl, rfl⟩))
    (fun os started H enc _ => lifted os started H enc)
end Go.Proofs.Ytoopbacnnkmpbab.mixDigits
namespace Go.Proofs.Ytoopbacnnkmpbab
theorem mixDigits_holds : Rows.MixDigitsSaid := mixDigits.over
end Go.Proofs.Ytoopbacnnkmpbab
