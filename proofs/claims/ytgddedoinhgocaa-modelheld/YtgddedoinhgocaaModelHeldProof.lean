/- Whatever is done ahead and behind: what a handle holds is what was there at its Snapshot, till its Release (shutterlaw06.ModelHeld is true for every input). -/
import Derived.Test.YtgddedoinhgocaaRows
import Derived.WalkKit
import Derived.ProofKit
import Derived.OpenShut
import Derived.JoinedCond
import Derived.Carry
import Derived.Lib.SmallJoins
import Derived.Test.YtgddedoinhgocaaNs
namespace Go.Proofs.Ytgddedoinhgocaa.modelHeld
open Go.ChangeShapes Go.WideShapes Go.ChangeAt Go.RowKit Go.Joins Go.Deep
set_option linter.unusedVariables false

theorem own : ownKnob Try.prog.godebug = none := by kernel_rfl
theorem laidOut : laidOutB Try.prog = true := by kernel_rfl

set_option maxRecDepth 100000 in
set_option maxHeartbeats 4000000 in
theorem walk (p p2 : Option Addr) (c c2 hdl : Nat) (l more : List CallI) (w : World) (hO : CallsAt w p l) (hO2 : CallsAt w p2 more) (hl : l.length ≤ 2000000000000) (hl2 : more.length ≤ 2000000000000) (hh64 : hdl < 18446744073709551616) :
    Calls Try.prog 4 #[.slice p l.length c, .int .u64 (hdl : Int), .slice p2 more.length c2] w fun e w' => e = .returned (.bool true) ∧ Below w.heap.size w w' := by
  exact (held_walk p p2 c c2 hdl l more w hO hO2 hl hl2 hh64).mono (fun e w' h => ⟨h.1, (h.2.mono (G := fun k => w.heap.size ≤ k) (fun _ _ x => x.elim)).below (Nat.le_refl _)⟩)

set_option maxRecDepth 100000 in
theorem lifted (os : Os) (started : os.Started) (H : Type) (enc : TypeId × Value → H) :
    ReturnsInHanded {} Try.checked os 4 .any (Rows.modelHeldSpec.pre6 enc Try.prog Try.f4 Rows.modelHeldRow.domain false) (Rows.modelHeldSpec.post enc Try.prog Try.f4 false true false false) := by
  refine returnsInHanded_of_change_sized (C := Try.checked) own started (by kernel_rfl) Try.func4
    (ChangeSpec.witness6 (enc := enc) (C := Try.checked) false ⟨#[], #[.slice none 0 0, .int .u64 0, .slice none 0 0], []⟩ 8 (by kernel_rfl) (by kernel_rfl) (by kernel_rfl) (by kernel_rfl)) ?_
  intro W base args ds gs before hval0 hW hcnd hsz0 _
  have hval : ∀ (j : Nat) t v, Try.f4.params[j]? = some t → args[j]? = some v → Value.okWide Try.prog W .any base t v := hval0
  have hsz : (DataW.weightsEach Try.prog (Try.f4.params.toList ++ Rows.modelHeldSpec.plain.varTypes Try.prog) (ds ++ gs)).all (· ≤ reachBytes) = true := hsz0
  clear hsz0
  have hW' := hW
  obtain ⟨p, q, hA0, hV, rfl, hfz, hnd⟩ := hW
  have hA : DataW.TrodAll enc Try.prog W 0 (fun _ => true) true Try.f4.params.toList args.toList ds p := hA0
  rw [Try.params4] at hA hval hsz
  obtain ⟨v0, vs0, d0, ds0, p0, q0, hargs, rfl, rfl, h0, r0⟩ := trodAll_cons hA
  obtain ⟨v1, vs1, d1, ds1, p1, q1, rfl, rfl, rfl, h1, r1⟩ := trodAll_cons r0
  obtain ⟨v2, vs2, d2, ds2, p2, q2, rfl, rfl, rfl, h2, r2⟩ := trodAll_cons r1
  obtain ⟨rfl, rfl, rfl⟩ := trodAll_nil r2
  obtain rfl : args = #[v0, v1, v2] := by cases args; simp_all
  obtain ⟨rfl, rfl⟩ := trodVars_none hV
  have k0 := h0
  have lt0 : ∀ x ∈ p0, x.block < W.heap.size := by obtain ⟨m, hm⟩ := k0; exact DataW.trod_lt m _ _ _ hm
  have k1 := h1
  have lt1 : ∀ x ∈ p1, x.block < W.heap.size := by obtain ⟨m, hm⟩ := k1; exact DataW.trod_lt m _ _ _ hm
  have k2 := h2
  have lt2 : ∀ x ∈ p2, x.block < W.heap.size := by obtain ⟨m, hm⟩ := k2; exact DataW.trod_lt m _ _ _ hm
  obtain ⟨pl, nl, cl, rfl⟩ := okWide_slice Try.underlying22 (hval 0 22 v0 rfl rfl)
  have sl := slice_size Try.underlying22 h0 hsz (j := 0) rfl rfl
  rw [bytesCall] at sl
  obtain ⟨l, hll, hL⟩ := calls_at h0
  subst hll
  obtain ⟨z, rfl⟩ := okWide_int Try.underlying24 (hval 1 24 v1 rfl rfl)
  have h1q := h1
  obtain ⟨f1, hf1⟩ := h1q
  obtain ⟨z1, ez, _, hz⟩ := DataW.trod_int Try.underlying24 hf1
  simp [Value.cells] at ez
  subst ez
  obtain ⟨hdl, rfl, hh64⟩ := nat_u64 hz
  obtain ⟨pm, nm, cm, rfl⟩ := okWide_slice Try.underlying22 (hval 2 22 v2 rfl rfl)
  have sm := slice_size Try.underlying22 h2 hsz (j := 2) rfl rfl
  rw [bytesCall] at sm
  obtain ⟨more, hmm, hM⟩ := calls_at h2
  subst hmm
  unfold reachBytes at sl sm
  have hln : l.length ≤ 2000000000000 := by omega
  have hmn : more.length ≤ 2000000000000 := by omega
  clear hA0 hval0
  refine (walk pl pm cl cm hdl l more W hL hM hln hmn hh64).mono fun e W' ⟨he, bel⟩ => ?_
  subst he
  exact ⟨_, rfl, _, _, _, [], _, [], hW', trodAll_mk1 (shut_bool Try.underlying4 _), (trodAll_cons_mk (Below.trod laidOut (by kernel_rfl) (of_decide_eq_true (by kernel_rfl)) k0 bel lt0) (trodAll_cons_mk (Below.trod laidOut (by kernel_rfl) (of_decide_eq_true (by kernel_rfl)) k1 bel lt1) (trodAll_cons_mk (Below.trod laidOut (by kernel_rfl) (of_decide_eq_true (by kernel_rfl)) k2 bel lt2) trodAll_mk0))), rfl, bel.frame _, fun h => by cases h⟩

theorem over : Rows.modelHeldRow.holds Try.pinned (OpenSpec.ofChange Rows.modelHeldSpec) :=
  OpenClaim.holds_of_wide 4 Try.f4 rfl rfl rfl rfl rfl rfl rfl ⟨rfl, rfl, rfl, rfl, rfl⟩ rfl rfl rfl rfl rfl (by kernel_rfl) Try.func4 (by kernel_rfl)
    (of_decide_eq_true (by kernel_rfl)) (by unfold Func.isWrapper; first | (rw [if_pos (by decide +kernel)]; kernel_rfl) | (rw [if_neg (by decide +kernel)]; exact ⟨rfl, rfl⟩))
    (fun os started H enc _ => lifted os started H enc)
end Go.Proofs.Ytgddedoinhgocaa.modelHeld
namespace Go.Proofs.Ytgddedoinhgocaa
theorem modelHeld_holds : Rows.ModelHeldSaid := modelHeld.over
end Go.Proofs.Ytgddedoinhgocaa
