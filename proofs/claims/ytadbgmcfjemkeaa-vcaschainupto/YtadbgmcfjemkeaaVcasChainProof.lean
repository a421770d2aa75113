/- Whatever threads of Reads, Cas, Ats and Takes run by whatever picks, where they hold together at most 1048576 values: the values of an object are what the Cas that were done put there, each in the place of the one that it awaited (shutterlaw09.VcasChain is true for every such input). -/
import Derived.Test.YtadbgmcfjemkeaaRows
import Derived.WalkKit
import Derived.ProofKit
import Derived.OpenShut
import Derived.JoinedCond
import Derived.Carry
import Derived.Lib.SmallJoins
import Derived.Test.YtadbgmcfjemkeaaJm
namespace Go.Proofs.Ytadbgmcfjemkeaa.vcasChain
open Go.ChangeShapes Go.WideShapes Go.ChangeAt Go.RowKit Go.Joins Go.Shelf
set_option linter.unusedVariables false

theorem own : ownKnob Try.prog.godebug = none := by kernel_rfl
theorem laidOut : laidOutB Try.prog = true := by kernel_rfl

set_option maxRecDepth 100000 in
set_option maxHeartbeats 8000000 in
theorem walk (pt pp : Option Addr) (ct cp : Nat) (L : List ThrV) (picks : List Int) (w : World) (hT : ThsAt w pt L) (hP : IReads w pp picks) (hn0 : L.length ≤ 1048576) (hn1 : picks.length ≤ 1048576) :
    Calls Try.prog 4 #[.agg #[.slice pt L.length ct, .slice pp picks.length cp]] w fun e w' => e = .returned (.bool true) ∧ Below w.heap.size w w' := by
  exact (chain_walk pt pp ct cp L picks w hT hP hn0 hn1).mono (fun e w' h => ⟨h.1, (h.2.mono (G := fun k => w.heap.size ≤ k) (fun _ _ x => x.elim)).below (Nat.le_refl _)⟩)

set_option maxRecDepth 100000 in
theorem lifted (os : Os) (started : os.Started) (H : Type) (enc : TypeId × Value → H) (F : Stop.Interp) :
    ReturnsInHanded {} Try.checked os 4 .any ((Rows.OpenSpec.upto Rows.vcasChainSpec).pre6 enc Try.prog Try.f4 Rows.vcasChainUptoRow.domain false) (((Rows.OpenSpec.upto Rows.vcasChainSpec).at F).post enc Try.prog Try.f4 false true false false) := by
  refine returnsInHanded_of_cond (C := Try.checked) (s := Rows.OpenSpec.upto Rows.vcasChainSpec) (k := Rows.uptoSmall) rfl own started (by kernel_rfl) Try.func4
    (OpenSpec.witness (enc := enc) (C := Try.checked) (s := Rows.OpenSpec.upto Rows.vcasChainSpec) (k := Rows.uptoSmall) rfl false ⟨#[], #[.agg #[.slice none 0 0, .slice none 0 0]], []⟩ 8 (by kernel_rfl) (by kernel_rfl) (by kernel_rfl)
      (x := ([.agg [.nil, .nil]], [], [])) (by kernel_rfl) rfl (by kernel_rfl)) ?_
  intro W base args ds gs before hval0 hW _ hk _
  have hval : ∀ (j : Nat) t v, Try.f4.params[j]? = some t → args[j]? = some v → Value.okWide Try.prog W .any base t v := hval0
  have hW' := hW
  obtain ⟨p, q, hA0, hV, rfl, hfz, hnd⟩ := hW
  have hA : DataW.TrodAll enc Try.prog W 0 (fun _ => true) true Try.f4.params.toList args.toList ds p := hA0
  rw [Try.params4] at hA hval
  obtain ⟨v0, vs0, d0, ds0, p0, q0, hargs, rfl, rfl, h0, r0⟩ := trodAll_cons hA
  obtain ⟨rfl, rfl, rfl⟩ := trodAll_nil r0
  obtain rfl : args = #[v0] := by cases args; simp_all
  obtain ⟨rfl, rfl⟩ := trodVars_none hV
  have k0 := h0
  have lt0 : ∀ x ∈ p0, x.block < W.heap.size := by obtain ⟨m, hm⟩ := k0; exact DataW.trod_lt m _ _ _ hm
  obtain ⟨cv, rfl, hcsz⟩ := okWide_struct Try.underlying25 (hval 0 25 v0 rfl rfl)
  simp only [List.append_nil] at hW' hk
  have hb : Rows.uptoBulkAll [d0] ≤ 1048576 := of_decide_eq_true hk
  have hb0 : Rows.uptoBulk d0 ≤ 1048576 := by simp only [Rows.uptoBulkAll] at hb; omega
  obtain ⟨pt, ct, L, pp, cp, picks, rfl, hT, hP, hn0, hn1⟩ := run9_open h0 hb0
  clear hA0 hval0
  refine (walk pt pp ct cp L picks W hT hP hn0 hn1).mono fun e W' ⟨he, bel⟩ => ?_
  subst he
  exact ⟨_, rfl, _, _, _, [], _, [], hW', trodAll_mk1 (shut_bool Try.underlying4 _), (trodAll_cons_mk (Below.trod laidOut (by kernel_rfl) (of_decide_eq_true (by kernel_rfl)) k0 bel lt0) trodAll_mk0), rfl, bel.frame _, fun h => by cases h⟩

theorem over : Rows.vcasChainUptoRow.holds Try.pinned (Rows.OpenSpec.upto Rows.vcasChainSpec) :=
  OpenClaim.holds_of_cond 4 Try.f4 rfl rfl rfl rfl rfl rfl rfl ⟨rfl, rfl, rfl, rfl, rfl⟩ rfl rfl rfl rfl rfl (by kernel_rfl) Try.func4 (by kernel_rfl)
    (of_decide_eq_true (by kernel_rfl)) (by unfold Func.isWrapper; first | (rw [if_pos (by decide +kernel)]; kernel_rfl) | (rw [if_neg (by decide +kernel)]; exact ⟨rfl, rfl⟩))
    (fun os started H enc _ F => lifted os started H enc F)
end Go.Proofs.Ytadbgmcfjemkeaa.vcasChain
namespace Go.Proofs.Ytadbgmcfjemkeaa
theorem vcasChain_holds : Rows.VcasChainUptoSaid := vcasChain.over
end Go.Proofs.Ytadbgmcfjemkeaa
