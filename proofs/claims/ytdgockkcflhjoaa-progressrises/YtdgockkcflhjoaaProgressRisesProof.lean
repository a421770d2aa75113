/- Whatever two Bounds: the bound of the greater ones together is not below that of the first, which is not below 0 (shutterlaw19.ProgressRises is true for every input). -/
import Derived.Test.YtdgockkcflhjoaaRows
import Derived.WalkKit
import Derived.ProofKit
import Derived.OpenShut
import Derived.JoinedCond
import Derived.Carry
import Derived.Lib.SmallJoins
import Derived.Test.YtdgockkcflhjoaaPh
namespace Go.Proofs.Ytdgockkcflhjoaa.progressRises
open Go.ChangeShapes Go.WideShapes Go.ChangeAt Go.RowKit Go.Joins
set_option linter.unusedVariables false

theorem own : ownKnob Try.prog.godebug = none := by kernel_rfl
theorem laidOut : laidOutB Try.prog = true := by kernel_rfl

set_option maxRecDepth 100000 in
set_option maxHeartbeats 1000000 in
theorem walk (b0 b1 b2 b3 b4 m0 m1 m2 m3 m4 : Int) (w : World) (bl0 : b0 < 9223372036854775808) (bl1 : b1 < 9223372036854775808) (bl2 : b2 < 9223372036854775808) (bl3 : b3 < 9223372036854775808) (bl4 : b4 < 9223372036854775808) (ml0 : m0 < 9223372036854775808) (ml1 : m1 < 9223372036854775808) (ml2 : m2 < 9223372036854775808) (ml3 : m3 < 9223372036854775808) (ml4 : m4 < 9223372036854775808) :
    Calls Try.prog 4 #[.agg (boL b0 b1 b2 b3 b4), .agg (boL m0 m1 m2 m3 m4)] w fun e w' => e = .returned (.bool true) ∧ Below w.heap.size w w' := by
  exact (rises_walk b0 b1 b2 b3 b4 m0 m1 m2 m3 m4 w bl0 bl1 bl2 bl3 bl4 ml0 ml1 ml2 ml3 ml4).mono (fun e w' h => ⟨h.1, (h.2.mono (G := fun k => w.heap.size ≤ k) (fun _ _ x => x.elim)).below (Nat.le_refl _)⟩)

set_option maxRecDepth 100000 in
theorem lifted (os : Os) (started : os.Started) (H : Type) (enc : TypeId × Value → H) :
    ReturnsInHanded {} Try.checked os 4 .any (Rows.progressRisesSpec.pre6 enc Try.prog Try.f4 Rows.progressRisesRow.domain false) (Rows.progressRisesSpec.post enc Try.prog Try.f4 false true false false) := by
  refine returnsInHanded_of_change_sized (C := Try.checked) own started (by kernel_rfl) Try.func4
    (ChangeSpec.witness6 (enc := enc) (C := Try.checked) false ⟨#[], #[.agg #[.int .i64 0, .int .i64 0, .int .i64 0, .int .i64 0, .int .i64 0], .agg #[.int .i64 0, .int .i64 0, .int .i64 0, .int .i64 0, .int .i64 0]], []⟩ 8 (by kernel_rfl) (by kernel_rfl) (by kernel_rfl) (by kernel_rfl)) ?_
  intro W base args ds gs before hval0 hW hcnd hsz0 _
  have hval : ∀ (j : Nat) t v, Try.f4.params[j]? = some t → args[j]? = some v → Value.okWide Try.prog W .any base t v := hval0
  have hsz : (DataW.weightsEach Try.prog (Try.f4.params.toList ++ Rows.progressRisesSpec.plain.varTypes Try.prog) (ds ++ gs)).all (· ≤ reachBytes) = true := hsz0
  clear hsz0
  have hW' := hW
  obtain ⟨p, q, hA0, hV, rfl, hfz, hnd⟩ := hW
  have hA : DataW.TrodAll enc Try.prog W 0 (fun _ => true) true Try.f4.params.toList args.toList ds p := hA0
  rw [Try.params4] at hA hval hsz
  obtain ⟨v0, vs0, d0, ds0, p0, q0, hargs, rfl, rfl, h0, r0⟩ := trodAll_cons hA
  obtain ⟨v1, vs1, d1, ds1, p1, q1, rfl, rfl, rfl, h1, r1⟩ := trodAll_cons r0
  obtain ⟨rfl, rfl, rfl⟩ := trodAll_nil r1
  obtain rfl : args = #[v0, v1] := by cases args; simp_all
  obtain ⟨rfl, rfl⟩ := trodVars_none hV
  have k0 := h0
  have lt0 : ∀ x ∈ p0, x.block < W.heap.size := by obtain ⟨m, hm⟩ := k0; exact DataW.trod_lt m _ _ _ hm
  have k1 := h1
  have lt1 : ∀ x ∈ p1, x.block < W.heap.size := by obtain ⟨m, hm⟩ := k1; exact DataW.trod_lt m _ _ _ hm
  obtain ⟨cs0, rfl, _⟩ := okWide_struct Try.underlying23 (hval 0 23 v0 rfl rfl)
  obtain ⟨b0, b1, b2, b3, b4, rfl, bl0, bl1, bl2, bl3, bl4⟩ := bounds_open h0
  obtain ⟨cs1, rfl, _⟩ := okWide_struct Try.underlying23 (hval 1 23 v1 rfl rfl)
  obtain ⟨m0, m1, m2, m3, m4, rfl, ml0, ml1, ml2, ml3, ml4⟩ := bounds_open h1
  clear hA0 hval0
  refine (walk b0 b1 b2 b3 b4 m0 m1 m2 m3 m4 W bl0 bl1 bl2 bl3 bl4 ml0 ml1 ml2 ml3 ml4).mono fun e W' ⟨he, bel⟩ => ?_
  subst he
  exact ⟨_, rfl, _, _, _, [], _, [], hW', trodAll_mk1 (shut_bool Try.underlying4 _), (trodAll_cons_mk (Below.trod laidOut (by kernel_rfl) (of_decide_eq_true (by kernel_rfl)) k0 bel lt0) (trodAll_cons_mk (Below.trod laidOut (by kernel_rfl) (of_decide_eq_true (by kernel_rfl)) k1 bel lt1) trodAll_mk0)), rfl, bel.frame _, fun h => by cases h⟩

theorem over : Rows.progressRisesRow.holds Try.pinned (OpenSpec.ofChange Rows.progressRisesSpec) :=
  OpenClaim.holds_of_wide 4 Try.f4 rfl rfl rfl rfl rfl rfl rfl ⟨rfl, rfl, rfl, rfl, rfl⟩ rfl rfl rfl rfl rfl (by kernel_rfl) Try.func4 (by kernel_rfl)
    (of_decide_eq_true (by kernel_rfl)) (by unfold Func.isWrapper; first | (rw [if_pos (by decide +kernel)]; kernel_rfl) | (rw [if_neg (by decide +kernel)]; exact ⟨rfl, rfl⟩))
    (fun os started H enc _ => lifted os started H enc)
end Go.Proofs.Ytdgockkcflhjoaa.progressRises
namespace Go.Proofs.Ytdgockkcflhjoaa
theorem progressRises_holds : Rows.ProgressRisesSaid := progressRises.over
end Go.Proofs.Ytdgockkcflhjoaa
