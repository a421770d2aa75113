/- Whatever the times and the picks: each thing that was added is there, each access has its step, and calls come and go as they are written down (shuttertop.TopAdds is true for every input of bulk at most 1048576: a trace of accesses takes more bytes than the picks). -/
import Derived.Test.YtmckdefijcnhcacRows
import Derived.WalkKit
import Derived.ProofKit
import Derived.OpenShut
import Derived.JoinedCond
import Derived.Carry
import Derived.Lib.SmallJoins
import Derived.Test.YtmckdefijcnhcacSAddW
namespace Go.Proofs.Ytmckdefijcnhcac.topAdds
open Go.ChangeShapes Go.WideShapes Go.ChangeAt Go.RowKit Go.Joins Go.Shelf
set_option linter.unusedVariables false

theorem own : ownKnob Try.prog.godebug = none := by kernel_rfl
theorem laidOut : laidOutB Try.prog = true := by kernel_rfl

set_option maxRecDepth 100000 in
set_option maxHeartbeats 8000000 in
theorem walk (pt pp : Option Addr) (ct cp : Nat) (times picks : List Int) (w : World) (hT : IReads w pt times) (hP : IReads w pp picks) (hn0 : times.length ≤ 1048576) (hn1 : picks.length ≤ 1048576) :
    Calls Try.prog 5 #[.slice pt times.length ct, .slice pp picks.length cp] w fun e w' => e = .returned (.bool true) ∧ Below w.heap.size w w' := by
  refine (topAdds_walk pt pp ct cp times picks w hT hP hn0 hn1).mono ?_
  rintro e w' ⟨rfl, C⟩
  exact ⟨rfl, ⟨C.os, C.tape, C.output, C.size, fun k hk => C.block k hk (fun h => h)⟩⟩

set_option maxRecDepth 100000 in
theorem lifted (os : Os) (started : os.Started) (H : Type) (enc : TypeId × Value → H) (F : Stop.Interp) :
    ReturnsInHanded {} Try.checked os 5 .any ((Rows.OpenSpec.upto Rows.topAddsSpec).pre6 enc Try.prog Try.f5 Rows.topAddsUptoRow.domain false) (((Rows.OpenSpec.upto Rows.topAddsSpec).at F).post enc Try.prog Try.f5 false true false false) := by
  refine returnsInHanded_of_cond (C := Try.checked) (s := Rows.OpenSpec.upto Rows.topAddsSpec) (k := Rows.uptoSmall) rfl own started (by kernel_rfl) Try.func5
    (OpenSpec.witness (enc := enc) (C := Try.checked) (s := Rows.OpenSpec.upto Rows.topAddsSpec) (k := Rows.uptoSmall) rfl false ⟨#[], #[.slice none 0 0, .slice none 0 0], []⟩ 8 (by kernel_rfl) (by kernel_rfl) (by kernel_rfl)
      (x := ([.nil, .nil], [], [])) (by kernel_rfl) rfl (by kernel_rfl)) ?_
  intro W base args ds gs before hval0 hW _ hk _
  have hval : ∀ (j : Nat) t v, Try.f5.params[j]? = some t → args[j]? = some v → Value.okWide Try.prog W .any base t v := hval0
  have hW' := hW
  obtain ⟨p, q, hA0, hV, rfl, hfz, hnd⟩ := hW
  have hA : DataW.TrodAll enc Try.prog W 0 (fun _ => true) true Try.f5.params.toList args.toList ds p := hA0
  rw [Try.params5] at hA hval
  obtain ⟨v0, vs0, d0, ds0, p0, q0, hargs, rfl, rfl, h0, r0⟩ := trodAll_cons hA
  obtain ⟨v1, vs1, d1, ds1, p1, q1, rfl, rfl, rfl, h1, r1⟩ := trodAll_cons r0
  obtain ⟨rfl, rfl, rfl⟩ := trodAll_nil r1
  obtain rfl : args = #[v0, v1] := by cases args; simp_all
  obtain ⟨rfl, rfl⟩ := trodVars_none hV
  have k0 := h0
  have lt0 : ∀ x ∈ p0, x.block < W.heap.size := by obtain ⟨m, hm⟩ := k0; exact DataW.trod_lt m _ _ _ hm
  have k1 := h1
  have lt1 : ∀ x ∈ p1, x.block < W.heap.size := by obtain ⟨m, hm⟩ := k1; exact DataW.trod_lt m _ _ _ hm
  obtain ⟨pt, nt, ct, rfl⟩ := okWide_slice Try.underlying23 (hval 0 23 v0 rfl rfl)
  obtain ⟨times, hlen0, hT, hbk0, _⟩ := ints_open h0
  obtain ⟨pp, np, cp, rfl⟩ := okWide_slice Try.underlying23 (hval 1 23 v1 rfl rfl)
  obtain ⟨picks, hlen1, hP, hbk1, _⟩ := ints_open h1
  simp only [List.append_nil] at hW' hk
  have hb : Rows.uptoBulkAll [d0, d1] ≤ 1048576 := of_decide_eq_true hk
  have hn0 : times.length ≤ 1048576 := by simp only [Rows.uptoBulkAll] at hb; omega
  have hn1 : picks.length ≤ 1048576 := by simp only [Rows.uptoBulkAll] at hb; omega
  subst hlen0
  subst hlen1
  clear hA0 hval0
  refine (walk pt pp ct cp times picks W hT hP hn0 hn1).mono fun e W' ⟨he, bel⟩ => ?_
  subst he
  exact ⟨_, rfl, _, _, _, [], _, [], hW', trodAll_mk1 (shut_bool Try.underlying4 _), (trodAll_cons_mk (Below.trod laidOut (by kernel_rfl) (of_decide_eq_true (by kernel_rfl)) k0 bel lt0) (trodAll_cons_mk (Below.trod laidOut (by kernel_rfl) (of_decide_eq_true (by kernel_rfl)) k1 bel lt1) trodAll_mk0)), rfl, bel.frame _, fun h => by cases h⟩

theorem over : Rows.topAddsUptoRow.holds Try.pinned (Rows.OpenSpec.upto Rows.topAddsSpec) :=
  OpenClaim.holds_of_cond 5 Try.f5 rfl rfl rfl rfl rfl rfl rfl ⟨rfl, rfl, rfl, rfl, rfl⟩ rfl rfl rfl rfl rfl (by kernel_rfl) Try.func5 (by kernel_rfl)
    (of_decide_eq_true (by kernel_rfl)) (by unfold Func.isWrapper; first | (rw [if_pos (by decide +kernel)]; kernel_rfl) | (rw [if_neg (by decide +kernel)]; exact ⟨rfl, rfl⟩))
    (fun os started H enc _ F => lifted os started H enc F)
end Go.Proofs.Ytmckdefijcnhcac.topAdds
namespace Go.Proofs.Ytmckdefijcnhcac
theorem topAdds_holds : Rows.TopAddsUptoSaid := topAdds.over
end Go.Proofs.Ytmckdefijcnhcac
