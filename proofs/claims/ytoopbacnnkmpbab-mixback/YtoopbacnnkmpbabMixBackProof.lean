/- For every two numbers the law MixBack (P2.4, P2.5) returns true and leaves its arguments as they were; no condition. -/
import Derived.Test.YtoopbacnnkmpbabRows
import Derived.WalkKit
import Derived.ProofKit
import Derived.OpenShut
import Derived.Lib.SmallJoins
import Derived.Test.YtoopbacnnkmpbabJoin
import Derived.Test.YtoopbacnnkmpbabLive
namespace Go.Proofs.Ytoopbacnnkmpbab.mixBack
open Go.ChangeShapes Go.WideShapes Go.ChangeAt Go.RowKit Go.Joins
set_option linter.unusedVariables false

theorem own : ownKnob Try.prog.godebug = none := by kernel_rfl

set_option maxHeartbeats 1000000 in
theorem walk (a0 : Int) (a1 : Int) (w0 : (Lit.int .u64 a0).wf = true) (w1 : (Lit.int .u64 a1).wf = true) (w : World) :
    Calls Try.prog 8 #[.int .u64 a0, .int .u64 a1] w fun e w' => e = .returned (.bool true) ∧ Below w.heap.size w w' := by
  have b0 := bounds_u64 w0
  have b1 := bounds_u64 w1
  clear w0 w1
  obtain ⟨n, rfl⟩ := Int.eq_ofNat_of_zero_le b0.1
  obtain ⟨m, rfl⟩ := Int.eq_ofNat_of_zero_le b1.1
  have hn : n < 18446744073709551616 := by omega
  have hm : m < 18446744073709551616 := by omega
  clear b0 b1
  have q1 : backN (mixN n) = n := back_mix hn
  have q2 : mixN (backN n) = n := mix_back hn
  have HQ := keepH q1
  have hmm : (((mixN n : Nat) : Int) == ((mixN m : Nat) : Int)) = ((n : Int) == (m : Int)) := by
    by_cases e : n = m
    · subst e; simp
    · have e1 : ¬ mixN n = mixN m := fun h => e (by rw [← back_mix hn, h, back_mix hm])
      have e2 : ((n : Int) == (m : Int)) = false := beq_eq_false_iff_ne.2 (by omega)
      rw [e2]
      exact beq_eq_false_iff_ne.2 (by omega)
  have G := keepH (good_dig (n : Int) (by omega))
  have V := keepH (hv_dig (n : Int) (by omega) (by omega))
  go_enter Try.func8, Try.ntmps8
  go_wp2_with fail
  refine (live_any _).mono ?_
  rintro e v1 ⟨rfl, l1⟩
  go_wp2_with fail
  refine (digits_any (n : Int) (by omega) (by omega) _).mono ?_
  rintro e v2 ⟨⟨x1, rfl, r1⟩, l2⟩
  obtain ⟨g1, c1, rfl, d1, d2, _, _, d3⟩ := row_cells r1
  have D3 := keepH d3
  clear d3 r1
  go_wp2_with fail
  refine (join_any g1 0 c1 (fun j => dig (n : Int) (j : Int)) _ D3.out (fun j _ => by have := dig_bd (n : Int) (j : Int) (by omega); omega)).mono ?_
  rintro e v3 ⟨⟨rfl, _⟩ | ⟨_, hb⟩, rfl⟩
  case inr => exact absurd G.out hb
  rw [V.out]
  go_wp2_with fail
  refine (mix_nat n _ hn).mono ?_
  rintro e w' ⟨rfl, rfl⟩
  go_wp2_with fail
  refine (back_nat _ _ mixN_lt).mono ?_
  rintro e v4 ⟨rfl, l4⟩
  rw [HQ.out]
  go_wp2_with fail
  refine (back_nat n _ hn).mono ?_
  rintro e v5 ⟨rfl, l5⟩
  go_wp2_with fail
  refine (mix_nat _ _ backN_lt).mono ?_
  rintro e w' ⟨rfl, rfl⟩
  rw [mix_back hn]
  go_wp2_with fail
  refine (mix_nat n _ hn).mono ?_
  rintro e w' ⟨rfl, rfl⟩
  go_wp2_with fail
  refine (mix_nat m _ hm).mono ?_
  rintro e w' ⟨rfl, rfl⟩
  go_wp2_with fail
  refine (digits_any (n : Int) (by omega) (by omega) _).mono ?_
  rintro e v6 ⟨⟨x2, rfl, r2⟩, l6⟩
  obtain ⟨g2, c2, rfl, e1, e2, _, _, e3⟩ := row_cells r2
  have E3 := keepH e3
  clear e3 r2
  have s1 := l1.size
  have s2 := l2.size
  have s4 := l4.size
  have s5 := l5.size
  have s6 := l6.size
  go_wp2_with fail
  refine (same_any g2 0 g1 0 11 c2 c1 (fun j => dig (n : Int) (j : Int)) _ (by omega) E3.out (cells_below (((l4.trans (l5.mono s4)).trans (l6.mono (by omega)))) d2 D3.out)).mono ?_
  rintro e v7 ⟨rfl, l7⟩
  go_wp2
  go_ret
  exact ⟨by simp, ((((l1.trans (l2.mono s1)).trans (l4.mono (by omega))).trans (l5.mono (by omega))).trans (l6.mono (by omega))).trans (l7.mono (by omega))⟩

set_option maxRecDepth 100000 in
theorem lifted (os : Os) (started : os.Started) (H : Type) (enc : TypeId × Value → H) :
    ReturnsInHanded {} Try.checked os 8 .any (Rows.mixBackSpec.pre6 enc Try.prog Try.f8 Rows.mixBackRow.domain false) (Rows.mixBackSpec.post enc Try.prog Try.f8 false true false false) := by
  refine returnsInHanded_of_change (C := Try.checked) own started (by kernel_rfl) Try.func8
    (ChangeSpec.witness6 (enc := enc) (C := Try.checked) false ⟨#[], #[.int .u64 0, .int .u64 0], []⟩ 8 (by kernel_rfl) (by kernel_rfl) (by kernel_rfl) (by kernel_rfl)) ?_
  intro W base args ds gs before hval0 hW hcnd _
  have hval : ∀ (j : Nat) t v, Try.f8.params[j]? = some t → args[j]? = some v → Value.okWide Try.prog W .any base t v := hval0
  have hW' := hW
  obtain ⟨p, q, hA0, hV, rfl, hfz, hnd⟩ := hW
  have hA : DataW.TrodAll enc Try.prog W 0 (fun _ => true) true Try.f8.params.toList args.toList ds p := hA0
  rw [Try.params8] at hA hval
  obtain ⟨v0, vs0, d0, ds0, p0, q0, hargs, rfl, rfl, h0, r0⟩ := trodAll_cons hA
  obtain ⟨v1, vs1, d1, ds1, p1, q1, rfl, rfl, rfl, h1, r1⟩ := trodAll_cons r0
  obtain ⟨rfl, rfl, rfl⟩ := trodAll_nil r1
  obtain rfl : args = #[v0, v1] := by cases args; simp_all
  obtain ⟨rfl, rfl⟩ := trodVars_none hV
  obtain ⟨a0, rfl, rfl, rfl, w0⟩ := open_int Try.underlying23 (hval 0 23 v0 rfl rfl) h0
  obtain ⟨a1, rfl, rfl, rfl, w1⟩ := open_int Try.underlying23 (hval 1 23 v1 rfl rfl) h1
  clear hA0 hval0
  simp only [List.append_nil] at hW'
  refine (walk a0 a1 w0 w1 W).mono fun e W' ⟨he, hg⟩ => ?_
  subst he
  exact ⟨_, rfl, _, _, _, [], _, [], hW', trodAll_mk1 (shut_bool Try.underlying4 _), (trodAll_cons_mk (shut_int Try.underlying23 w0) (trodAll_cons_mk (shut_int Try.underlying23 w1) trodAll_mk0)), rfl, hg.frame _, fun h => by cases h⟩

theorem over : Rows.mixBackRow.holds Try.pinned (OpenSpec.ofChange Rows.mixBackSpec) :=
  OpenClaim.holds_of_wide 8 Try.f8 rfl rfl rfl rfl rfl rfl rfl ⟨rfl, rfl, rfl, rfl, rfl⟩ rfl rfl rfl rfl rfl (by kernel_rfl) Try.func8 (by kernel_rfl)
    (of_decide_eq_true (by kernel_rfl)) (by unfold Func.isWrapper; first | (rw [if_pos (by decide +kernel)]; kernel_rfl) | (rw [if_neg (by decide +kernel)]; exact ⟨rfl, rfl⟩))
    (fun os started H enc _ => lifted os started H enc)
end Go.Proofs.Ytoopbacnnkmpbab.mixBack
namespace Go.Proofs.Ytoopbacnnkmpbab
theorem mixBack_holds : Rows.MixBackSaid := mixBack.over
end Go.Proofs.Ytoopbacnnkmpbab
