/- Whatever two runs of threads of Reads, Cas, Ats and Takes by whatever picks, one behind the other, and whatever stamp, where they hold together at most 1048576 values: what an object was at a stamp below the camera's stays, and is what its versions say (shutterlaw09.VcasPast is true for every such input). -/
import Derived.Test.YtadbgmcfjemkeaaRows
import Derived.WalkKit
import Derived.ProofKit
import Derived.OpenShut
import Derived.JoinedCond
import Derived.Carry
import Derived.Lib.SmallJoins
import Derived.Test.YtadbgmcfjemkeaaQm
namespace Go.Proofs.Ytadbgmcfjemkeaa.vcasPast
open Go.ChangeShapes Go.WideShapes Go.ChangeAt Go.RowKit Go.Joins Go.Shelf
set_option linter.unusedVariables false

theorem own : ownKnob Try.prog.godebug = none := by kernel_rfl
theorem laidOut : laidOutB Try.prog = true := by kernel_rfl

set_option maxRecDepth 100000 in
set_option maxHeartbeats 8000000 in
theorem walk (pt pp pt2 pp2 : Option Addr) (ct cp ct2 cp2 : Nat) (L L2 : List ThrV) (picks picks2 : List Int) (stamp : Nat) (w : World) (hT : ThsAt w pt L) (hP : IReads w pp picks) (hT2 : ThsAt w pt2 L2) (hP2 : IReads w pp2 picks2) (hn0 : L.length ≤ 1048576) (hn1 : picks.length ≤ 1048576) (hn02 : L2.length ≤ 1048576) (hn12 : picks2.length ≤ 1048576) (hst : stamp < 18446744073709551616) :
    Calls Try.prog 5 #[.agg #[.slice pt L.length ct, .slice pp picks.length cp], .agg #[.slice pt2 L2.length ct2, .slice pp2 picks2.length cp2], .int .u64 (stamp : Int)] w fun e w' => e = .returned (.bool true) ∧ Below w.heap.size w w' := by
  exact (past_walk pt pp pt2 pp2 ct cp ct2 cp2 L L2 picks picks2 stamp w hT hP hT2 hP2 hn0 hn1 hn02 hn12 hst).mono (fun e w' h => ⟨h.1, (h.2.mono (G := fun k => w.heap.size ≤ k) (fun _ _ x => x.elim)).below (Nat.le_refl _)⟩)

set_option maxRecDepth 100000 in
theorem lifted (os : Os) (started : os.Started) (H : Type) (enc : TypeId × Value → H) (F : Stop.Interp) :
    ReturnsInHanded {} Try.checked os 5 .any ((Rows.OpenSpec.upto Rows.vcasPastSpec).pre6 enc Try.prog Try.f5 Rows.vcasPastUptoRow.domain false) (((Rows.OpenSpec.upto Rows.vcasPastSpec).at F).post enc Try.prog Try.f5 false true false false) := by
  refine returnsInHanded_of_cond (C := Try.checked) (s := Rows.OpenSpec.upto Rows.vcasPastSpec) (k := Rows.uptoSmall) rfl own started (by kernel_rfl) Try.func5
    (OpenSpec.witness (enc := enc) (C := Try.checked) (s := Rows.OpenSpec.upto Rows.vcasPastSpec) (k := Rows.uptoSmall) rfl false ⟨#[], #[.agg #[.slice none 0 0, .slice none 0 0], .agg #[.slice none 0 0, .slice none 0 0], .int .u64 0], []⟩ 8 (by kernel_rfl) (by kernel_rfl) (by kernel_rfl)
      (x := ([.agg [.nil, .nil], .agg [.nil, .nil], .lit (.int .u64 0)], [], [])) (by kernel_rfl) rfl (by kernel_rfl)) ?_
  intro W base args ds gs before hval0 hW _ hk _
  have hval : ∀ (j : Nat) t v, Try.f5.params[j]? = some t → args[j]? = some v → Value.okWide Try.prog W .any base t v := hval0
  have hW' := hW
  obtain ⟨p, q, hA0, hV, rfl, hfz, hnd⟩ := hW
  have hA : DataW.TrodAll enc Try.prog W 0 (fun _ => true) true Try.f5.params.toList args.toList ds p := hA0
  rw [Try.params5] at hA hval
  obtain ⟨v0, vs0, d0, ds0, p0, q0, hargs, rfl, rfl, h0, r0⟩ := trodAll_cons hA
  obtain ⟨v1, vs1, d1, ds1, p1, q1, rfl, rfl, rfl, h1, r1⟩ := trodAll_cons r0
  obtain ⟨v2, vs2, d2, ds2, p2, q2, rfl, rfl, rfl, h2, r2⟩ := trodAll_cons r1
  obtain ⟨rfl, rfl, rfl⟩ := trodAll_nil r2
  obtain rfl : args = #[v0, v1, v2] := by cases args; simp_all
  obtain ⟨rfl, rfl⟩ := trodVars_none hV
  have k0 := h0
  have lt0 : ∀ x ∈ p0, x.block < W.heap.size := by obtain ⟨m, hm⟩ := k0; exact DataW.trod_lt m _ _ _ hm
  have k1 := h1
  have lt1 : ∀ x ∈ p1, x.block < W.heap.size := by obtain ⟨m, hm⟩ := k1; exact DataW.trod_lt m _ _ _ hm
  have k2 := h2
  have lt2 : ∀ x ∈ p2, x.block < W.heap.size := by obtain ⟨m, hm⟩ := k2; exact DataW.trod_lt m _ _ _ hm
  obtain ⟨cv, rfl, hcsz⟩ := okWide_struct Try.underlying25 (hval 0 25 v0 rfl rfl)
  obtain ⟨cv1, rfl, hcsz1⟩ := okWide_struct Try.underlying25 (hval 1 25 v1 rfl rfl)
  obtain ⟨a2, rfl, rfl, rfl, w2⟩ := open_int Try.underlying27 (hval 2 27 v2 rfl rfl) h2
  obtain ⟨stamp, rfl, hst⟩ : ∃ m : Nat, a2 = (m : Int) ∧ m < 18446744073709551616 := by have b := bounds_u64 w2; exact ⟨a2.toNat, by omega, by omega⟩
  simp only [List.append_nil] at hW' hk
  have hb : Rows.uptoBulkAll [d0, d1, .lit (.int .u64 (stamp : Int))] ≤ 1048576 := of_decide_eq_true hk
  have hb0 : Rows.uptoBulk d0 ≤ 1048576 := by simp only [Rows.uptoBulkAll] at hb; omega
  have hb1 : Rows.uptoBulk d1 ≤ 1048576 := by simp only [Rows.uptoBulkAll] at hb; omega
  obtain ⟨pt, ct, L, pp, cp, picks, rfl, hT, hP, hn0, hn1⟩ := run9_open h0 hb0
  obtain ⟨pt2, ct2, L2, pp2, cp2, picks2, rfl, hT2, hP2, hn02, hn12⟩ := run9_open h1 hb1
  clear hA0 hval0
  refine (walk pt pp pt2 pp2 ct cp ct2 cp2 L L2 picks picks2 stamp W hT hP hT2 hP2 hn0 hn1 hn02 hn12 hst).mono fun e W' ⟨he, bel⟩ => ?_
  subst he
  exact ⟨_, rfl, _, _, _, [], _, [], hW', trodAll_mk1 (shut_bool Try.underlying4 _), (trodAll_cons_mk (Below.trod laidOut (by kernel_rfl) (of_decide_eq_true (by kernel_rfl)) k0 bel lt0) (trodAll_cons_mk (Below.trod laidOut (by kernel_rfl) (of_decide_eq_true (by kernel_rfl)) k1 bel lt1) (trodAll_cons_mk (Below.trod laidOut (by kernel_rfl) (of_decide_eq_true (by kernel_rfl)) k2 bel lt2) trodAll_mk0))), rfl, bel.frame _, fun h => by cases h⟩

theorem over : Rows.vcasPastUptoRow.holds Try.pinned (Rows.OpenSpec.upto Rows.vcasPastSpec) :=
  OpenClaim.holds_of_cond 5 Try.f5 rfl rfl rfl rfl rfl rfl rfl ⟨rfl, rfl, rfl, rfl, rfl⟩ rfl rfl rfl rfl rfl (by kernel_rfl) Try.func5 (by kernel_rfl)
    (of_decide_eq_true (by kernel_rfl)) (by unfold Func.isWrapper; first | (rw [if_pos (by decide +kernel)]; kernel_rfl) | (rw [if_neg (by decide +kernel)]; exact ⟨rfl, rfl⟩))
    (fun os started H enc _ F => lifted os started H enc F)
end Go.Proofs.Ytadbgmcfjemkeaa.vcasPast
namespace Go.Proofs.Ytadbgmcfjemkeaa
theorem vcasPast_holds : Rows.VcasPastUptoSaid := vcasPast.over
end Go.Proofs.Ytadbgmcfjemkeaa
