/- Of any two answers: the model and the document say alike whether they are the same, both ways about, and an answer is the same as itself with its pairs copied (shutterlaw06.ModelSames is true for every input). -/
import Derived.Test.YteehbleikhfniaaRows
import Derived.WalkKit
import Derived.ProofKit
import Derived.OpenShut
import Derived.JoinedCond
import Derived.Carry
import Derived.Lib.SmallJoins
import Derived.Test.YteehbleikhfniaaMsO
namespace Go.Proofs.Yteehbleikhfniaa.modelSames
open Go.ChangeShapes Go.WideShapes Go.ChangeAt Go.RowKit Go.Joins Go.Deep
set_option linter.unusedVariables false

theorem own : ownKnob Try.prog.godebug = none := by kernel_rfl
theorem laidOut : laidOutB Try.prog = true := by kernel_rfl

set_option maxRecDepth 100000 in
set_option maxHeartbeats 4000000 in
theorem walk (e1 e2 : Int) (f1 f2 t1 t2 : Bool) (x1 x2 g1 g2 n1 n2 : Nat) (a1 a2 : Option Addr) (c1 c2 : Nat) (l1 l2 : List (Nat × Nat)) (w : World) (hA : PairsAt w a1 l1) (hB : PairsAt w a2 l2) (hla : l1.length ≤ 8796093021952) (hlb : l2.length ≤ 8796093021952) :
    Calls Try.prog 3 #[.agg #[.int .i64 e1, .bool f1, .int .u64 (x1 : Int), .bool t1, .int .u64 (g1 : Int), .slice a1 l1.length c1, .int .u64 (n1 : Int)], .agg #[.int .i64 e2, .bool f2, .int .u64 (x2 : Int), .bool t2, .int .u64 (g2 : Int), .slice a2 l2.length c2, .int .u64 (n2 : Int)]] w fun e w' => e = .returned (.bool true) ∧ Below w.heap.size w w' := by
  refine (sames_walk e1 e2 f1 f2 t1 t2 x1 x2 g1 g2 n1 n2 a1 a2 c1 c2 l1 l2 w hA hB hla hlb).mono ?_
  rintro e w' ⟨rfl, C⟩
  exact ⟨rfl, (C.mono (G := fun k => w.heap.size ≤ k) (fun _ _ x => x.elim)).below (Nat.le_refl _)⟩

set_option maxRecDepth 100000 in
theorem lifted (os : Os) (started : os.Started) (H : Type) (enc : TypeId × Value → H) :
    ReturnsInHanded {} Try.checked os 3 .any (Rows.modelSamesSpec.pre6 enc Try.prog Try.f3 Rows.modelSamesRow.domain false) (Rows.modelSamesSpec.post enc Try.prog Try.f3 false true false false) := by
  refine returnsInHanded_of_change_sized (C := Try.checked) own started (by kernel_rfl) Try.func3
    (ChangeSpec.witness6 (enc := enc) (C := Try.checked) false ⟨#[], #[.agg #[.int .i64 0, .bool false, .int .u64 0, .bool false, .int .u64 0, .slice none 0 0, .int .u64 0], .agg #[.int .i64 0, .bool false, .int .u64 0, .bool false, .int .u64 0, .slice none 0 0, .int .u64 0]], []⟩ 8 (by kernel_rfl) (by kernel_rfl) (by kernel_rfl) (by kernel_rfl)) ?_
  intro W base args ds gs before hval0 hW hcnd hsz0 _
  have hval : ∀ (j : Nat) t v, Try.f3.params[j]? = some t → args[j]? = some v → Value.okWide Try.prog W .any base t v := hval0
  have hsz : (DataW.weightsEach Try.prog (Try.f3.params.toList ++ Rows.modelSamesSpec.plain.varTypes Try.prog) (ds ++ gs)).all (· ≤ reachBytes) = true := hsz0
  clear hsz0
  have hW' := hW
  obtain ⟨p, q, hA0, hV, rfl, hfz, hnd⟩ := hW
  have hA : DataW.TrodAll enc Try.prog W 0 (fun _ => true) true Try.f3.params.toList args.toList ds p := hA0
  rw [Try.params3] at hA hval hsz
  obtain ⟨v0, vs0, d0, ds0, p0, q0, hargs, rfl, rfl, h0, r0⟩ := trodAll_cons hA
  obtain ⟨v1, vs1, d1, ds1, p1, q1, rfl, rfl, rfl, h1, r1⟩ := trodAll_cons r0
  obtain ⟨rfl, rfl, rfl⟩ := trodAll_nil r1
  obtain rfl : args = #[v0, v1] := by cases args; simp_all
  obtain ⟨rfl, rfl⟩ := trodVars_none hV
  have k0 := h0
  have lt0 : ∀ x ∈ p0, x.block < W.heap.size := by obtain ⟨m, hm⟩ := k0; exact DataW.trod_lt m _ _ _ hm
  have k1 := h1
  have lt1 : ∀ x ∈ p1, x.block < W.heap.size := by obtain ⟨m, hm⟩ := k1; exact DataW.trod_lt m _ _ _ hm
  obtain ⟨cv0, rfl, hcsz0⟩ := okWide_struct Try.underlying26 (hval 0 26 v0 rfl rfl)
  obtain ⟨e1, f1, x1, t1, g1, a1, c1, l1, n1, rfl, hP1, hb1, hs1⟩ := ans_open h0
  have hla : l1.length ≤ 8796093021952 := by have q := hs1 (fun m hm => by have := List.all_eq_true.1 hsz _ (DataW.weights_mem_each (j := 0) rfl rfl m hm); simpa using this); simp only [reachBytes] at q; omega
  obtain ⟨cv1, rfl, hcsz1⟩ := okWide_struct Try.underlying26 (hval 1 26 v1 rfl rfl)
  obtain ⟨e2, f2, x2, t2, g2, a2, c2, l2, n2, rfl, hP2, hb2, hs2⟩ := ans_open h1
  have hlb : l2.length ≤ 8796093021952 := by have q := hs2 (fun m hm => by have := List.all_eq_true.1 hsz _ (DataW.weights_mem_each (j := 1) rfl rfl m hm); simpa using this); simp only [reachBytes] at q; omega
  clear hA0 hval0
  refine (walk e1 e2 f1 f2 t1 t2 x1 x2 g1 g2 n1 n2 a1 a2 c1 c2 l1 l2 W hP1 hP2 hla hlb).mono fun e W' ⟨he, bel⟩ => ?_
  subst he
  exact ⟨_, rfl, _, _, _, [], _, [], hW', trodAll_mk1 (shut_bool Try.underlying4 _), (trodAll_cons_mk (Below.trod laidOut (by kernel_rfl) (of_decide_eq_true (by kernel_rfl)) k0 bel lt0) (trodAll_cons_mk (Below.trod laidOut (by kernel_rfl) (of_decide_eq_true (by kernel_rfl)) k1 bel lt1) trodAll_mk0)), rfl, bel.frame _, fun h => by cases h⟩

theorem over : Rows.modelSamesRow.holds Try.pinned (OpenSpec.ofChange Rows.modelSamesSpec) :=
  OpenClaim.holds_of_wide 3 Try.f3 rfl rfl rfl rfl rfl rfl rfl ⟨rfl, rfl, rfl, rfl, rfl⟩ rfl rfl rfl rfl rfl (by kernel_rfl) Try.func3 (by kernel_rfl)
    (of_decide_eq_true (by kernel_rfl)) (by unfold Func.isWrapper; first | (rw [if_pos (by decide +kernel)]; kernel_rfl) | (rw [if_neg (by decide +kernel)]; exact ⟨rfl, rfl⟩))
    (fun os started H enc _ => lifted os started H enc)
end Go.Proofs.Yteehbleikhfniaa.modelSames
namespace Go.Proofs.Yteehbleikhfniaa
theorem modelSames_holds : Rows.ModelSamesSaid := modelSames.over
end Go.Proofs.Yteehbleikhfniaa
