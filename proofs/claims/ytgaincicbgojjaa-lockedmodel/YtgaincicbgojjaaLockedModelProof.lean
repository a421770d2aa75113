/- Whatever the config and the operations, done one behind the other: the store under a lock tells what the model lets it tell, with rising numbers, has what the model has, and no more handles hold than it has slots; or both tell ErrRange (shutterlaw25.LockedModel is true for every input). -/
import Derived.Test.YtgaincicbgojjaaRows
import Derived.WalkKit
import Derived.ProofKit
import Derived.OpenShut
import Derived.JoinedCond
import Derived.Carry
import Derived.Lib.SmallJoins
import Derived.Test.YtgaincicbgojjaaKM
namespace Go.Proofs.Ytgaincicbgojjaa.lockedModel
open Go.ChangeShapes Go.WideShapes Go.ChangeAt Go.RowKit Go.Joins Go.Deep
set_option linter.unusedVariables false

theorem own : ownKnob Try.prog.godebug = none := by kernel_rfl
theorem laidOut : laidOutB Try.prog = true := by kernel_rfl

set_option maxRecDepth 100000 in
set_option maxHeartbeats 4000000 in
theorem walk (a b : Int) (c : Nat) (d : Int) (p : Option Addr) (cp : Nat) (l : List OpI) (w : World) (hO : OpsAt w p l) (hl : l.length ≤ 8796093021000) :
    Calls Try.prog 4 #[.agg #[.int .i64 a, .int .i64 b, .int .u64 (c : Int), .int .i64 d], .slice p l.length cp] w fun e w' => e = .returned (.bool true) ∧ Below w.heap.size w w' := by
  refine (model_all a b c d hO hl).mono ?_
  rintro e w' ⟨rfl, cc⟩
  exact ⟨rfl, (cc.mono (G := fun k => w.heap.size ≤ k) (fun _ _ x => x.elim)).below (Nat.le_refl _)⟩

set_option maxRecDepth 100000 in
theorem lifted (os : Os) (started : os.Started) (H : Type) (enc : TypeId × Value → H) :
    ReturnsInHanded {} Try.checked os 4 .any (Rows.lockedModelSpec.pre6 enc Try.prog Try.f4 Rows.lockedModelRow.domain false) (Rows.lockedModelSpec.post enc Try.prog Try.f4 false true false false) := by
  refine returnsInHanded_of_change_sized (C := Try.checked) own started (by kernel_rfl) Try.func4
    (ChangeSpec.witness6 (enc := enc) (C := Try.checked) false ⟨#[], #[.agg #[.int .i64 0, .int .i64 0, .int .u64 0, .int .i64 0], .slice none 0 0], []⟩ 8 (by kernel_rfl) (by kernel_rfl) (by kernel_rfl) (by kernel_rfl)) ?_
  intro W base args ds gs before hval0 hW hcnd hsz0 _
  have hval : ∀ (j : Nat) t v, Try.f4.params[j]? = some t → args[j]? = some v → Value.okWide Try.prog W .any base t v := hval0
  have hsz : (DataW.weightsEach Try.prog (Try.f4.params.toList ++ Rows.lockedModelSpec.plain.varTypes Try.prog) (ds ++ gs)).all (· ≤ reachBytes) = true := hsz0
  clear hsz0
  have hW' := hW
  obtain ⟨p, q, hA0, hV, rfl, hfz, hnd⟩ := hW
  have hA : DataW.TrodAll enc Try.prog W 0 (fun _ => true) true Try.f4.params.toList args.toList ds p := hA0
  rw [Try.params4] at hA hval hsz
  obtain ⟨v0, vs0, d0, ds0, p0, q0, hargs, rfl, rfl, h0, r0⟩ := trodAll_cons hA
  obtain ⟨v1, vs1, d1, ds1, p1, q1, rfl, rfl, rfl, h1, r1⟩ := trodAll_cons r0
  obtain ⟨rfl, rfl, rfl⟩ := trodAll_nil r1
  obtain rfl : args = #[v0, v1] := by cases args; simp_all
  obtain ⟨rfl, rfl⟩ := trodVars_none hV
  have k0 := h0
  have lt0 : ∀ x ∈ p0, x.block < W.heap.size := by obtain ⟨m, hm⟩ := k0; exact DataW.trod_lt m _ _ _ hm
  have k1 := h1
  have lt1 : ∀ x ∈ p1, x.block < W.heap.size := by obtain ⟨m, hm⟩ := k1; exact DataW.trod_lt m _ _ _ hm
  obtain ⟨cv0, rfl, hcsz0⟩ := okWide_struct Try.underlying40 (hval 0 40 v0 rfl rfl)
  have h0k := h0
  obtain ⟨fu0, hf0⟩ := h0k
  obtain ⟨ca, cb, cc, cd, ecs⟩ := cfg_open (cs := cv0.toList) (by simpa [Value.cells] using hf0)
  obtain rfl : cv0 = #[.int .i64 ca, .int .i64 cb, .int .u64 (cc : Int), .int .i64 cd] := by apply Array.ext'; rw [ecs]
  obtain ⟨pl, nl, cl, rfl⟩ := okWide_slice Try.underlying41 (hval 1 41 v1 rfl rfl)
  have sl := slice_size Try.underlying41 h1 hsz (j := 1) rfl rfl
  rw [bytesOp] at sl
  obtain ⟨l, hll, hL⟩ := ops_open h1
  subst hll
  unfold reachBytes at sl
  have hln : l.length ≤ 8796093021000 := by omega
  clear hA0 hval0
  refine (walk ca cb cc cd pl cl l W hL hln).mono fun e W' ⟨he, bel⟩ => ?_
  subst he
  exact ⟨_, rfl, _, _, _, [], _, [], hW', trodAll_mk1 (shut_bool Try.underlying4 _), (trodAll_cons_mk (Below.trod laidOut (by kernel_rfl) (of_decide_eq_true (by kernel_rfl)) k0 bel lt0) (trodAll_cons_mk (Below.trod laidOut (by kernel_rfl) (of_decide_eq_true (by kernel_rfl)) k1 bel lt1) trodAll_mk0)), rfl, bel.frame _, fun h => by cases h⟩

theorem over : Rows.lockedModelRow.holds Try.pinned (OpenSpec.ofChange Rows.lockedModelSpec) :=
  OpenClaim.holds_of_wide 4 Try.f4 rfl rfl rfl rfl rfl rfl rfl ⟨rfl, rfl, rfl, rfl, rfl⟩ rfl rfl rfl rfl rfl (by kernel_rfl) Try.func4 (by kernel_rfl)
    (of_decide_eq_true (by kernel_rfl)) (by unfold Func.isWrapper; first | (rw [if_pos (by decide +kernel)]; kernel_rfl) | (rw [if_neg (by decide +kernel)]; exact ⟨rfl, rfl⟩))
    (fun os started H enc _ => lifted os started H enc)
end Go.Proofs.Ytgaincicbgojjaa.lockedModel
namespace Go.Proofs.Ytgaincicbgojjaa
theorem lockedModel_holds : Rows.LockedModelSaid := lockedModel.over
end Go.Proofs.Ytgaincicbgojjaa
