/- Whatever was done: what Do tells Take lets be told, and both leave the same; no other answer of an operation that is no Snapshot and no Collect is let be told but errors for memory or a stale handle, and these change nothing (shutterlaw06.ModelTakes is true for every input). -/
import Derived.Test.YtgddedoinhgocaaRows
import Derived.WalkKit
import Derived.ProofKit
import Derived.OpenShut
import Derived.JoinedCond
import Derived.Carry
import Derived.Lib.SmallJoins
import Derived.Test.YtgddedoinhgocaaNy
namespace Go.Proofs.Ytgddedoinhgocaa.modelTakes
open Go.ChangeShapes Go.WideShapes Go.ChangeAt Go.RowKit Go.Joins Go.Deep
set_option linter.unusedVariables false

theorem own : ownKnob Try.prog.godebug = none := by kernel_rfl
theorem laidOut : laidOutB Try.prog = true := by kernel_rfl

set_option maxRecDepth 100000 in
set_option maxHeartbeats 4000000 in
theorem walk (Lp Xp : Option Addr) (Lc Xc hn : Nat) (L : List CallI) (X : List AnsI) (y : OpI) (w : World) (hL : CallsAt w Lp L) (hy : y.Ok w) (hh64 : hn < 18446744073709551616) (hX : AnsAt w Xp X) (hXl : X.length ≤ 9223372036854775807) (hLl : L.length ≤ 2000000000000) :
    Calls Try.prog 3 #[.agg #[.slice Lp L.length Lc, .int .u8 y.o.kd, .int .u64 (y.o.k : Int), .int .u64 (y.o.v : Int), .int .u64 (y.o.od : Int), .int .u64 (y.o.hk : Int), .bool y.r5, .int .i64 y.r6, .int .i64 y.r7, .slice y.kp y.o.ks.length y.kc, .int .u64 (y.o.lo : Int), .int .u64 (y.o.hi : Int), .int .u64 (hn : Int), .slice Xp X.length Xc]] w fun e w' => e = .returned (.bool true) ∧ Below w.heap.size w w' := by
  exact (takes_walk hL hy hh64 hX hXl hLl).mono (fun e w' h => ⟨h.1, (h.2.mono (G := fun k => w.heap.size ≤ k) (fun _ _ x => x.elim)).below (Nat.le_refl _)⟩)

set_option maxRecDepth 100000 in
theorem lifted (os : Os) (started : os.Started) (H : Type) (enc : TypeId × Value → H) :
    ReturnsInHanded {} Try.checked os 3 .any (Rows.modelTakesSpec.pre6 enc Try.prog Try.f3 Rows.modelTakesRow.domain false) (Rows.modelTakesSpec.post enc Try.prog Try.f3 false true false false) := by
  refine returnsInHanded_of_change_sized (C := Try.checked) own started (by kernel_rfl) Try.func3
    (ChangeSpec.witness6 (enc := enc) (C := Try.checked) false ⟨#[], #[.agg #[.slice none 0 0, .int .u8 0, .int .u64 0, .int .u64 0, .int .u64 0, .int .u64 0, .bool false, .int .i64 0, .int .i64 0, .slice none 0 0, .int .u64 0, .int .u64 0, .int .u64 0, .slice none 0 0]], []⟩ 8 (by kernel_rfl) (by kernel_rfl) (by kernel_rfl) (by kernel_rfl)) ?_
  intro W base args ds gs before hval0 hW hcnd hsz0 _
  have hval : ∀ (j : Nat) t v, Try.f3.params[j]? = some t → args[j]? = some v → Value.okWide Try.prog W .any base t v := hval0
  have hsz : (DataW.weightsEach Try.prog (Try.f3.params.toList ++ Rows.modelTakesSpec.plain.varTypes Try.prog) (ds ++ gs)).all (· ≤ reachBytes) = true := hsz0
  clear hsz0
  have hW' := hW
  obtain ⟨p, q, hA0, hV, rfl, hfz, hnd⟩ := hW
  have hA : DataW.TrodAll enc Try.prog W 0 (fun _ => true) true Try.f3.params.toList args.toList ds p := hA0
  rw [Try.params3] at hA hval hsz
  obtain ⟨v0, vs0, d0, ds0, p0, q0, hargs, rfl, rfl, h0, r0⟩ := trodAll_cons hA
  obtain ⟨rfl, rfl, rfl⟩ := trodAll_nil r0
  obtain rfl : args = #[v0] := by cases args; simp_all
  obtain ⟨rfl, rfl⟩ := trodVars_none hV
  have k0 := h0
  have lt0 : ∀ x ∈ p0, x.block < W.heap.size := by obtain ⟨m, hm⟩ := k0; exact DataW.trod_lt m _ _ _ hm
  obtain ⟨cv0, rfl, hcsz0⟩ := okWide_struct Try.underlying32 (hval 0 32 v0 rfl rfl)
  obtain ⟨Lp, Lc, L, y, hn, Xp, Xc, X, ecs, hL, hy, hh64, hX, hXl, hLs⟩ := asked_open h0 (fun m hm => by have := List.all_eq_true.1 hsz _ (DataW.weights_mem_each (j := 0) rfl rfl m hm); simpa using this)
  obtain rfl : cv0 = #[.slice Lp L.length Lc, .int .u8 y.o.kd, .int .u64 (y.o.k : Int), .int .u64 (y.o.v : Int), .int .u64 (y.o.od : Int), .int .u64 (y.o.hk : Int), .bool y.r5, .int .i64 y.r6, .int .i64 y.r7, .slice y.kp y.o.ks.length y.kc, .int .u64 (y.o.lo : Int), .int .u64 (y.o.hi : Int), .int .u64 (hn : Int), .slice Xp X.length Xc] := by apply Array.ext'; rw [ecs]; rfl
  unfold reachBytes at hLs
  have hLn : L.length ≤ 2000000000000 := by omega
  clear hA0 hval0
  refine (walk Lp Xp Lc Xc hn L X y W hL hy hh64 hX hXl hLn).mono fun e W' ⟨he, bel⟩ => ?_
  subst he
  exact ⟨_, rfl, _, _, _, [], _, [], hW', trodAll_mk1 (shut_bool Try.underlying4 _), (trodAll_cons_mk (Below.trod laidOut (by kernel_rfl) (of_decide_eq_true (by kernel_rfl)) k0 bel lt0) trodAll_mk0), rfl, bel.frame _, fun h => by cases h⟩

theorem over : Rows.modelTakesRow.holds Try.pinned (OpenSpec.ofChange Rows.modelTakesSpec) :=
  OpenClaim.holds_of_wide 3 Try.f3 rfl rfl rfl rfl rfl rfl rfl ⟨rfl, rfl, rfl, rfl, rfl⟩ rfl rfl rfl rfl rfl (by kernel_rfl) Try.func3 (by kernel_rfl)
    (of_decide_eq_true (by kernel_rfl)) (by unfold Func.isWrapper; first | (rw [if_pos (by decide +kernel)]; kernel_rfl) | (rw [if_neg (by decide +kernel)]; exact ⟨rfl, rfl⟩))
    (fun os started H enc _ => lifted os started H enc)
end Go.Proofs.Ytgddedoinhgocaa.modelTakes
namespace Go.Proofs.Ytgddedoinhgocaa
theorem modelTakes_holds : Rows.ModelTakesSaid := modelTakes.over
end Go.Proofs.Ytgddedoinhgocaa
