/- For every two slots and every two handles the law WordUnlike (P1.6) returns true and leaves its arguments as they were; no condition. -/
import Derived.Test.YtoopbacnnkmpbabRows
import Derived.WalkKit
import Derived.ProofKit
import Derived.OpenShut
import Derived.Lib.SmallJoins
import Derived.Test.YtoopbacnnkmpbabArr
import Derived.Test.YtoopbacnnkmpbabWord
import Derived.Test.YtoopbacnnkmpbabUnlike
namespace Go.Proofs.Ytoopbacnnkmpbab.wordUnlike
open Go.ChangeShapes Go.WideShapes Go.ChangeAt Go.RowKit Go.Joins
set_option linter.unusedVariables false

theorem own : ownKnob Try.prog.godebug = none := by kernel_rfl
theorem cells23 : Try.prog.cellsOf 23 = 1 := by kernel_rfl
theorem cells25 : Try.prog.cellsOf 25 = 3 := by kernel_rfl
theorem cells26 : Try.prog.cellsOf 26 = 2 := by kernel_rfl

set_option maxHeartbeats 1000000 in
theorem walk (a0x0 : Int) (a0x1 : Int) (a0x2 : Int) (a1x0 : Int) (a1x1 : Int) (a1x2 : Int) (a2x0 : Int) (a2x1 : Int) (w0x0 : (Lit.int .u8 a0x0).wf = true) (w0x1 : (Lit.int .u64 a0x1).wf = true) (w0x2 : (Lit.int .u64 a0x2).wf = true) (w1x0 : (Lit.int .u8 a1x0).wf = true) (w1x1 : (Lit.int .u64 a1x1).wf = true) (w1x2 : (Lit.int .u64 a1x2).wf = true) (w2x0 : (Lit.int .u64 a2x0).wf = true) (w2x1 : (Lit.int .u64 a2x1).wf = true) (w : World) :
    Calls Try.prog 3 #[.agg #[.int .u8 a0x0, .int .u64 a0x1, .int .u64 a0x2], .agg #[.int .u8 a1x0, .int .u64 a1x1, .int .u64 a1x2], .agg #[.int .u64 a2x0, .int .u64 a2x1]] w fun e w' => e = .returned (.bool true) ∧ Grown w w' := by
  have b0 := bounds_u8 w0x0
  have b1 := bounds_u64 w0x1
  have b2 := bounds_u64 w0x2
  have b3 := bounds_u8 w1x0
  have b4 := bounds_u64 w1x1
  have b5 := bounds_u64 w1x2
  have b6 := bounds_u64 w2x0
  have b7 := bounds_u64 w2x1
  have hp := parted a2x0 a2x1
  by_cases c1 : packE a0x0 a0x1 a0x2 = 0
  · have k1 : (packE a0x0 a0x1 a0x2 == 0) = true := by simp [c1]
    by_cases c2 : packE a1x0 a1x1 a1x2 = 0
    · have k2 : (packE a1x0 a1x1 a1x2 == 0) = true := by simp [c2]
      have p1 := pack_ok _ _ _ c1
      have p2 := pack_ok _ _ _ c2
      by_cases d1 : a0x0 = a1x0
      · subst d1
        by_cases d2 : a0x1 = a1x1
        · subst d2
          by_cases d3 : a0x2 = a1x2
          · subst d3
            exact unlike_c _ _ _ _ _ b0 b1 b2 b6 b7 k1 hp w
          · exact unlike_f _ _ _ _ _ _ b0 b1 b2 b5 b6 b7 k1 k2 (beq_eq_false_iff_ne.2 (by omega)) d3 hp w
        · exact unlike_e _ _ _ _ _ _ _ b0 b1 b2 b4 b5 b6 b7 k1 k2 (beq_eq_false_iff_ne.2 (by omega)) d2 hp w
      · exact unlike_d _ _ _ _ _ _ _ _ b0 b1 b2 b3 b4 b5 b6 b7 k1 k2 (beq_eq_false_iff_ne.2 (by omega)) d1 hp w
    · exact unlike_b _ _ _ _ _ _ _ _ b0 b1 b2 b3 b4 b5 b6 b7 k1 (by simp [c2]) hp w
  · exact unlike_a _ _ _ _ _ _ _ _ b0 b1 b2 b3 b4 b5 b6 b7 (by simp [c1]) hp w

set_option maxRecDepth 100000 in
theorem lifted (os : Os) (started : os.Started) (H : Type) (enc : TypeId × Value → H) :
    ReturnsInHanded {} Try.checked os 3 .any (Rows.wordUnlikeSpec.pre6 enc Try.prog Try.f3 Rows.wordUnlikeRow.domain false) (Rows.wordUnlikeSpec.post enc Try.prog Try.f3 false true false false) := by
  refine returnsInHanded_of_change (C := Try.checked) own started (by kernel_rfl) Try.func3
    (ChangeSpec.witness6 (enc := enc) (C := Try.checked) false ⟨#[], #[.agg #[.int .u8 0, .int .u64 0, .int .u64 0], .agg #[.int .u8 0, .int .u64 0, .int .u64 0], .agg #[.int .u64 0, .int .u64 0]], []⟩ 8 (by kernel_rfl) (by kernel_rfl) (by kernel_rfl) (by kernel_rfl)) ?_
  intro W base args ds gs before hval0 hW hcnd _
  have hval : ∀ (j : Nat) t v, Try.f3.params[j]? = some t → args[j]? = some v → Value.okWide Try.prog W .any base t v := hval0
  have hW' := hW
  obtain ⟨p, q, hA0, hV, rfl, hfz, hnd⟩ := hW
  have hA : DataW.TrodAll enc Try.prog W 0 (fun _ => true) true Try.f3.params.toList args.toList ds p := hA0
  rw [Try.params3] at hA hval
  obtain ⟨v0, vs0, d0, ds0, p0, q0, hargs, rfl, rfl, h0, r0⟩ := trodAll_cons hA
  obtain ⟨v1, vs1, d1, ds1, p1, q1, rfl, rfl, rfl, h1, r1⟩ := trodAll_cons r0
  obtain ⟨v2, vs2, d2, ds2, p2, q2, rfl, rfl, rfl, h2, r2⟩ := trodAll_cons r1
  obtain ⟨rfl, rfl, rfl⟩ := trodAll_nil r2
  obtain rfl : args = #[v0, v1, v2] := by cases args; simp_all
  obtain ⟨rfl, rfl⟩ := trodVars_none hV
  obtain ⟨c0x0, c0x1, c0x2, y0x0, y0x1, y0x2, m0, rfl, rfl, rfl, g0x0, g0x1, g0x2⟩ := open_agg3 Try.underlying25 (by kernel_rfl) cells25 (hval 0 25 v0 rfl rfl) h0
  obtain ⟨a0x0, e0x0, rfl, w0x0⟩ := DataW.trod_int Try.underlying22 g0x0
  obtain ⟨a0x1, e0x1, rfl, w0x1⟩ := DataW.trod_int Try.underlying23 g0x1
  obtain ⟨a0x2, e0x2, rfl, w0x2⟩ := DataW.trod_int Try.underlying23 g0x2
  simp at e0x0 e0x1 e0x2
  subst e0x0 e0x1 e0x2
  have reads0 : ∀ (W' : World) (sp : Nat → Bool), DataW.Trod enc Try.prog W' 0 sp true 25 (.agg #[.int .u8 a0x0, .int .u64 a0x1, .int .u64 a0x2]) (.agg [.lit (.int .u8 a0x0), .lit (.int .u64 a0x1), .lit (.int .u64 a0x2)]) [] := fun W' sp => shut_agg3 (y0 := (.lit (.int .u8 a0x0), [])) (y1 := (.lit (.int .u64 a0x1), [])) (y2 := (.lit (.int .u64 a0x2), [])) Try.underlying25 (by kernel_rfl) cells25 ⟨1, by simp [DataW.trod, Try.underlying22, w0x0]⟩ ⟨1, by simp [DataW.trod, Try.underlying23, w0x1]⟩ ⟨1, by simp [DataW.trod, Try.underlying23, w0x2]⟩
  obtain ⟨c1x0, c1x1, c1x2, y1x0, y1x1, y1x2, m1, rfl, rfl, rfl, g1x0, g1x1, g1x2⟩ := open_agg3 Try.underlying25 (by kernel_rfl) cells25 (hval 1 25 v1 rfl rfl) h1
  obtain ⟨a1x0, e1x0, rfl, w1x0⟩ := DataW.trod_int Try.underlying22 g1x0
  obtain ⟨a1x1, e1x1, rfl, w1x1⟩ := DataW.trod_int Try.underlying23 g1x1
  obtain ⟨a1x2, e1x2, rfl, w1x2⟩ := DataW.trod_int Try.underlying23 g1x2
  simp at e1x0 e1x1 e1x2
  subst e1x0 e1x1 e1x2
  have reads1 : ∀ (W' : World) (sp : Nat → Bool), DataW.Trod enc Try.prog W' 0 sp true 25 (.agg #[.int .u8 a1x0, .int .u64 a1x1, .int .u64 a1x2]) (.agg [.lit (.int .u8 a1x0), .lit (.int .u64 a1x1), .lit (.int .u64 a1x2)]) [] := fun W' sp => shut_agg3 (y0 := (.lit (.int .u8 a1x0), [])) (y1 := (.lit (.int .u64 a1x1), [])) (y2 := (.lit (.int .u64 a1x2), [])) Try.underlying25 (by kernel_rfl) cells25 ⟨1, by simp [DataW.trod, Try.underlying22, w1x0]⟩ ⟨1, by simp [DataW.trod, Try.underlying23, w1x1]⟩ ⟨1, by simp [DataW.trod, Try.underlying23, w1x2]⟩
  obtain ⟨c2x0, c2x1, y2x0, y2x1, m2, rfl, rfl, rfl, g2x0, g2x1⟩ := open_arr2 Try.underlying26 cells23 cells26 (hval 2 26 v2 rfl rfl) h2
  obtain ⟨a2x0, e2x0, rfl, w2x0⟩ := DataW.trod_int Try.underlying23 g2x0
  obtain ⟨a2x1, e2x1, rfl, w2x1⟩ := DataW.trod_int Try.underlying23 g2x1
  simp at e2x0 e2x1
  subst e2x0 e2x1
  have reads2 : ∀ (W' : World) (sp : Nat → Bool), DataW.Trod enc Try.prog W' 0 sp true 26 (.agg #[.int .u64 a2x0, .int .u64 a2x1]) (.agg [.lit (.int .u64 a2x0), .lit (.int .u64 a2x1)]) [] := fun W' sp => shut_arr2 (y0 := (.lit (.int .u64 a2x0), [])) (y1 := (.lit (.int .u64 a2x1), [])) Try.underlying26 cells23 cells26 ⟨1, by simp [DataW.trod, Try.underlying23, w2x0]⟩ ⟨1, by simp [DataW.trod, Try.underlying23, w2x1]⟩
  clear hA0 hval0
  simp only [List.append_nil] at hW'
  refine (walk a0x0 a0x1 a0x2 a1x0 a1x1 a1x2 a2x0 a2x1 w0x0 w0x1 w0x2 w1x0 w1x1 w1x2 w2x0 w2x1 W).mono fun e W' ⟨he, hg⟩ => ?_
  subst he
  exact ⟨_, rfl, post_of_same (pa := []) (pv := []) hW' (fun _ _ _ => (trodAll_cons_mk (shut_bool Try.underlying4 _) trodAll_mk0)) (fun sp _ => (trodAll_cons_mk (reads0 _ sp) (trodAll_cons_mk (reads1 _ sp) (trodAll_cons_mk (reads2 _ sp) trodAll_mk0)))) (fun _ _ => rfl) rfl
    (hg.frame _) hg.2.1 (ok_one (by kernel_rfl) rfl (okWide_bool_mk Try.underlying4 _))⟩

theorem over : Rows.wordUnlikeRow.holds Try.pinned (OpenSpec.ofChange Rows.wordUnlikeSpec) :=
  OpenClaim.holds_of_wide 3 Try.f3 rfl rfl rfl rfl rfl rfl rfl ⟨rfl, rfl, rfl, rfl, rfl⟩ rfl rfl rfl rfl rfl (by kernel_rfl) Try.func3 (by kernel_rfl)
    (of_decide_eq_true (by kernel_rfl)) (by unfold Func.isWrapper; first | (rw [if_pos (by decide +kernel)]; kernel_rfl) | (rw [if_neg (by decide +kernel)]; exact ⟨rfl, rfl⟩))
    (fun os started H enc _ => lifted os started H enc)
end Go.Proofs.Ytoopbacnnkmpbab.wordUnlike
namespace Go.Proofs.Ytoopbacnnkmpbab
theorem wordUnlike_holds : Rows.WordUnlikeSaid := wordUnlike.over
end Go.Proofs.Ytoopbacnnkmpbab
