/- For every two keys and every address the law TopWays (E10) returns true and leaves its arguments as they were; no condition. -/
import Derived.Test.YtoopbacnnkmpbacRows
import Derived.WalkKit
import Derived.ProofKit
import Derived.OpenShut
import Derived.Lib.SmallJoins
import Derived.Test.YtoopbacnnkmpbacCom2
import Derived.Test.YtoopbacnnkmpbacJoin
import Derived.Test.YtoopbacnnkmpbacLive
import Derived.Test.YtoopbacnnkmpbacWd
namespace Go.Proofs.Ytoopbacnnkmpbac.topWays
open Go.ChangeShapes Go.WideShapes Go.ChangeAt Go.RowKit Go.Joins
set_option linter.unusedVariables false

theorem own : ownKnob Try.prog.godebug = none := by kernel_rfl

set_option maxHeartbeats 2000000 in
theorem walk (a0 : Int) (a1 : Int) (a2 : Int) (w0 : (Lit.int .u64 a0).wf = true) (w1 : (Lit.int .u64 a1).wf = true) (w2 : (Lit.int .u64 a2).wf = true) (w : World) :
    Calls Try.prog 6 #[.int .u64 a0, .int .u64 a1, .int .u64 a2] w fun e w' => e = .returned (.bool true) ∧ Below w.heap.size w w' := by
  have b0 := bounds_u64 w0
  have b1 := bounds_u64 w1
  have b2 := bounds_u64 w2
  clear w0 w1 w2
  obtain ⟨n, rfl⟩ := Int.eq_ofNat_of_zero_le b0.1
  obtain ⟨m, rfl⟩ := Int.eq_ofNat_of_zero_le b1.1
  have hn : n < 18446744073709551616 := by omega
  have hm : m < 18446744073709551616 := by omega
  clear b0 b1
  have la := mixN_lt (v := n)
  have lb := mixN_lt (v := m)
  have Q := keepH (back_mix hn)
  have Q2 := keepH (back_mix hm)
  have G := keepH (good_dig ((mixN n : Nat) : Int) (by omega))
  have V := keepH (hv_dig ((mixN n : Nat) : Int) (by omega) (by omega))
  obtain ⟨c, hc⟩ := comm_ex ((mixN n : Nat) : Int) ((mixN m : Nat) : Int)
  have c11 := hc.1
  have heq : ((c : Int) == 11) = ((n : Int) == (m : Int)) := by
    by_cases e : n = m
    · subst e
      have := comm_one hc (comm_same _)
      subst this
      simp
    · have : ¬ c = 11 := fun h => by
        subst h
        have := comm_all (by omega) (by omega) (by omega) (by omega) hc
        have e2 : mixN n = mixN m := by omega
        have e3 := congrArg backN e2
        rw [Q.out, Q2.out] at e3
        exact e e3
      have e1 : ((c : Int) == 11) = false := beq_eq_false_iff_ne.2 (by omega)
      have e2 : ((n : Int) == (m : Int)) = false := beq_eq_false_iff_ne.2 (by omega)
      rw [e1, e2]
  have HQ := keepH heq
  have HC := keepH hc
  clear heq hc
  go_enter Try.func6, Try.ntmps6
  go_wp2_with fail
  refine (mix_nat n _ hn).mono ?_
  rintro e w' ⟨rfl, rfl⟩
  go_wp2_with fail
  refine (digits_any ((mixN n : Nat) : Int) (by omega) (by omega) _).mono ?_
  rintro e v1 ⟨⟨x1, rfl, r1⟩, l1⟩
  obtain ⟨g1, c1, rfl, d1, d2, _, _, d3⟩ := row_cells r1
  have D3 := keepH d3
  clear d3 r1
  go_wp2_with fail
  refine (mix_nat m _ hm).mono ?_
  rintro e w' ⟨rfl, rfl⟩
  go_wp2_with fail
  refine (digits_any ((mixN m : Nat) : Int) (by omega) (by omega) _).mono ?_
  rintro e v2 ⟨⟨x2, rfl, r2⟩, l2⟩
  obtain ⟨g2, c2, rfl, e1, e2, _, _, e3⟩ := row_cells r2
  have E3 := keepH e3
  clear e3 r2
  go_wp2_with fail
  refine (mix_nat n _ hn).mono ?_
  rintro e w' ⟨rfl, rfl⟩
  go_wp2_with fail
  refine (mix_nat m _ hm).mono ?_
  rintro e w' ⟨rfl, rfl⟩
  go_wp2_with fail
  refine (common_at _ _ c HC.out (by omega) (by omega) (by omega) (by omega) _).mono ?_
  rintro e v3 ⟨rfl, l3⟩
  have s1 := l1.size
  have s2 := l2.size
  have s3 := l3.size
  have A3 := keepH (cells_below (l2.trans (l3.mono s2)) d2 D3.out)
  have B3 := keepH (cells_below l3 e2 E3.out)
  go_wp2_with fail
  go_loopw [10] (fun i wr => ∃ k : Nat, k ≤ 11 ∧ i = .int .i64 (k : Int) ∧ Hid (∀ x, wr.cell? x = v3.cell? x) ∧ Below v3.heap.size v3 wr) (fun i _ => 11 - (intOf i).toNat)
  case atStart => exact ⟨0, by omega, rfl, fun _ => rfl, Below.refl _ _⟩
  case round =>
    obtain ⟨k, hk, rfl, HX, hB⟩ := hrel
    by_cases hlt : k < 11
    · have y1 : wr.cell? ⟨g1, k, none⟩ = some (.int .i64 (dig ((mixN n : Nat) : Int) (k : Int))) := by
        have := (HX.out _).trans (A3.out k hlt)
        rwa [Nat.zero_add] at this
      have y2 : wr.cell? ⟨g2, k, none⟩ = some (.int .i64 (dig ((mixN m : Nat) : Int) (k : Int))) := by
        have := (HX.out _).trans (B3.out k hlt)
        rwa [Nat.zero_add] at this
      have z := dig_bd ((mixN n : Nat) : Int) (k : Int) (by omega)
      have z1 : decide (dig ((mixN n : Nat) : Int) (k : Int) < 0) = false := decide_eq_false (by omega)
      have z2 : decide (63 < dig ((mixN n : Nat) : Int) (k : Int)) = false := decide_eq_false (by omega)
      have i1 : (k : Int) < 11 := by omega
      have cd := HC.out
      by_cases e1 : k < c
      · have f1 : decide ((k : Int) < (c : Int)) = true := decide_eq_true (by omega)
        have f2 : (dig ((mixN n : Nat) : Int) (k : Int) != dig ((mixN m : Nat) : Int) (k : Int)) = false := by rw [cd.2.1 k e1]; simp
        have f3 : ((k : Int) == (c : Int)) = false := beq_eq_false_iff_ne.2 (by omega)
        clear cd
        go_wp2
        go_quiet (fail)
        go_wp2
        go_roundw
        case rel => exact ⟨k + 1, by omega, by go_num, fun x => HX.out x, below_drewN hB _⟩
        case measure => simp [intOf]; omega
      · by_cases e2 : k = c
        · subst e2
          have f1 : decide ((k : Int) < (k : Int)) = false := decide_eq_false (by omega)
          have f3 : ((k : Int) == (k : Int)) = true := by simp
          have f2 : (dig ((mixN n : Nat) : Int) (k : Int) == dig ((mixN m : Nat) : Int) (k : Int)) = false := beq_eq_false_iff_ne.2 (cd.2.2 hlt)
          clear cd
          go_wp2
          go_quiet (fail)
          go_wp2
          go_roundw
          case rel => exact ⟨k + 1, by omega, by go_num, fun x => HX.out x, below_drewN hB _⟩
          case measure => simp [intOf]; omega
        · have f1 : decide ((k : Int) < (c : Int)) = false := decide_eq_false (by omega)
          have f3 : ((k : Int) == (c : Int)) = false := beq_eq_false_iff_ne.2 (by omega)
          clear cd
          go_wp2
          go_quiet (fail)
          go_wp2
          go_roundw
          case rel => exact ⟨k + 1, by omega, by go_num, fun x => HX.out x, below_drewN hB _⟩
          case measure => simp [intOf]; omega
    · obtain rfl : k = 11 := by omega
      go_wp2_with fail
      refine (join_any g1 0 c1 (fun j => dig ((mixN n : Nat) : Int) (j : Int)) _ (fun j hj => (HX.out _).trans (A3.out j hj)) (fun j _ => by have := dig_bd ((mixN n : Nat) : Int) (j : Int) (by omega); omega)).mono ?_
      rintro e v4 ⟨⟨rfl, _⟩ | ⟨_, hb⟩, rfl⟩
      case inr => exact absurd G.out hb
      rw [V.out]
      go_wp2_with fail
      refine (leaf_any _ _ (by omega) (by omega)).mono ?_
      rintro e w' ⟨rfl, rfl⟩
      go_wp2_with fail
      refine (leafSplit_any _ _ (by omega) (by omega)).mono ?_
      rintro e w' ⟨rfl, rfl⟩
      go_wp2_with fail
      refine (back_nat _ _ mixN_lt).mono ?_
      rintro e v5 ⟨rfl, l5⟩
      rw [Q.out]
      have h5 := HQ.out
      go_wp2
      go_ret
      have s4 := hB.size
      exact ⟨by simp, (((l1.trans (l2.mono s1)).trans (l3.mono (by omega))).trans (hB.mono (by omega))).trans (l5.mono (by omega))⟩

set_option maxRecDepth 100000 in
theorem lifted (os : Os) (started : os.Started) (H : Type) (enc : TypeId × Value → H) :
    ReturnsInHanded {} Try.checked os 6 .any (Rows.topWaysSpec.pre6 enc Try.prog Try.f6 Rows.topWaysRow.domain false) (Rows.topWaysSpec.post enc Try.prog Try.f6 false true false false) := by
  refine returnsInHanded_of_change (C := Try.checked) own started (by kernel_rfl) Try.func6
    (ChangeSpec.witness6 (enc := enc) (C := Try.checked) false ⟨#[], #[.int .u64 0, .int .u64 0, .int .u64 0], []⟩ 8 (by kernel_rfl) (by kernel_rfl) (by kernel_rfl) (by kernel_rfl)) ?_
  intro W base args ds gs before hval0 hW hcnd _
  have hval : ∀ (j : Nat) t v, Try.f6.params[j]? = some t → args[j]? = some v → Value.okWide Try.prog W .any base t v := hval0
  have hW' := hW
  obtain ⟨p, q, hA0, hV, rfl, hfz, hnd⟩ := hW
  have hA : DataW.TrodAll enc Try.prog W 0 (fun _ => true) true Try.f6.params.toList args.toList ds p := hA0
  rw [Try.params6] at hA hval
  obtain ⟨v0, vs0, d0, ds0, p0, q0, hargs, rfl, rfl, h0, r0⟩ := trodAll_cons hA
  obtain ⟨v1, vs1, d1, ds1, p1, q1, rfl, rfl, rfl, h1, r1⟩ := trodAll_cons r0
  obtain ⟨v2, vs2, d2, ds2, p2, q2, rfl, rfl, rfl, h2, r2⟩ := trodAll_cons r1
  obtain ⟨rfl, rfl, rfl⟩ := trodAll_nil r2
  obtain rfl : args = #[v0, v1, v2] := by cases args; simp_all
  obtain ⟨rfl, rfl⟩ := trodVars_none hV
  obtain ⟨a0, rfl, rfl, rfl, w0⟩ := open_int Try.underlying22 (hval 0 22 v0 rfl rfl) h0
  obtain ⟨a1, rfl, rfl, rfl, w1⟩ := open_int Try.underlying22 (hval 1 22 v1 rfl rfl) h1
  obtain ⟨a2, rfl, rfl, rfl, w2⟩ := open_int Try.underlying22 (hval 2 22 v2 rfl rfl) h2
  clear hA0 hval0
  simp only [List.append_nil] at hW'
  refine (walk a0 a1 a2 w0 w1 w2 W).mono fun e W' ⟨he, hg⟩ => ?_
  subst he
  exact ⟨_, rfl, _, _, _, [], _, [], hW', trodAll_mk1 (shut_bool Try.underlying4 _), (trodAll_cons_mk (shut_int Try.underlying22 w0) (trodAll_cons_mk (shut_int Try.underlying22 w1) (trodAll_cons_mk (shut_int Try.underlying22 w2) trodAll_mk0))), rfl, hg.frame _, fun h => by cases h⟩

theorem over : Rows.topWaysRow.holds Try.pinned (OpenSpec.ofChange Rows.topWaysSpec) :=
  OpenClaim.holds_of_wide 6 Try.f6 rfl rfl rfl rfl rfl rfl rfl ⟨rfl, rfl, rfl, rfl, rfl⟩ rfl rfl rfl rfl rfl (by kernel_rfl) Try.func6 (by kernel_rfl)
    (of_decide_eq_true (by kernel_rfl)) (by unfold Func.isWrapper; first | (rw [if_pos (by decide +kernel)]; kernel_rfl) | (rw [if_neg (by decide +kernel)]; exact ⟨rfl, rfl⟩))
    (fun os started H enc _ => lifted os started H enc)
end Go.Proofs.Ytoopbacnnkmpbac.topWays
namespace Go.Proofs.Ytoopbacnnkmpbac
theorem topWays_holds : Rows.TopWaysSaid := topWays.over
end Go.Proofs.Ytoopbacnnkmpbac
