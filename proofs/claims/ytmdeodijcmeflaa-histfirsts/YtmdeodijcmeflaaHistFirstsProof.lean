/- Whatever the spans, and those that are left: what First tells is the document's, and the spans stay (shutterlaw05.HistFirsts is true for every input). -/
import Derived.Test.YtmdeodijcmeflaaRows
import Derived.WalkKit
import Derived.ProofKit
import Derived.OpenShut
import Derived.JoinedCond
import Derived.Carry
import Derived.Lib.SmallJoins
import Derived.Test.YtmdeodijcmeflaaHRFirst
import Derived.Test.YtmdeodijcmeflaaHSome
import Derived.Test.YtmdeodijcmeflaaHSameI
import Derived.Test.YtmdeodijcmeflaaHLent
import Derived.Test.YtmdeodijcmeflaaHLive
import Derived.Test.YtmdeodijcmeflaaHArgs2
namespace Go.Proofs.Ytmdeodijcmeflaa.histFirsts
open Go.ChangeShapes Go.WideShapes Go.ChangeAt Go.RowKit Go.Joins
set_option linter.unusedVariables false

theorem own : ownKnob Try.prog.godebug = none := by kernel_rfl
theorem laidOut : laidOutB Try.prog = true := by kernel_rfl

set_option maxRecDepth 100000 in
set_option maxHeartbeats 8000000 in
theorem walk (pl pb : Option Addr) (cl cb : Nat) (l : List Sp) (bs : List Bool) (w : World) (hL : SReads w pl l) (hB : BReads w pb bs) (kb : bs.length ≤ cb) (bl : l.length ≤ 4398046511000) :
    Calls Try.prog 5 #[.slice pl l.length cl, .slice pb bs.length cb] w fun e w' => e = .returned (.bool true) ∧ Below w.heap.size w w' := by
  have HL := keepH hL
  have HB := keepH hB
  have KB := keepH kb
  clear hL hB kb
  go_enter Try.func5, Try.ntmps5
  go_wp2_with fail
  refine (r_lent pl cl l _ HL.out (by omega)).mono ?_
  rintro e W1 ⟨g, cap, rfl, hg, hLt, C1⟩
  have D1 := keepH C1
  have LT1 := keepH hLt
  clear C1 hLt hg
  go_wp2_with fail
  refine (h_live _).mono ?_
  rintro e W2 ⟨rfl, C2⟩
  have D2 := keepH (D1.out.trans C2 (H := fun _ => False) (fun _ _ x => x) (fun _ _ x => x))
  have LT2 := keepH (LT1.out.chg C2 (fun x => x))
  clear C2
  go_wp2_with fail
  refine (h_first (some ⟨g, 0, none⟩) pb cap cb l bs _ LT2.out.reads (HB.out.chg D2.out (fun _ _ x => x)) (by omega) KB.out).mono ?_
  rintro e W3 ⟨v, rfl, R3, N3, C3⟩
  have D3 := keepH (D2.out.trans C3 (H := fun _ => False) (fun _ _ x => x) (fun _ _ x => x))
  have LT3 := keepH (LT2.out.chg C3 (fun x => x))
  have HR3 := keepH R3
  obtain ⟨pa, ca, rfl⟩ := slice_of HR3.out
  clear R3 N3 C3
  go_wp2_with fail
  refine (r_first pl pb cl cb l bs _ (HL.out.chg D3.out (fun _ _ x => x)) (HB.out.chg D3.out (fun _ _ x => x)) (by omega)).mono ?_
  rintro e W4 ⟨u, rfl, R4, N4, C4⟩
  have D4 := keepH (D3.out.trans C4 (H := fun _ => False) (fun _ _ x => x) (fun _ _ x => x))
  have LT4 := keepH (LT3.out.chg C4 (fun x => x))
  have HA4 := keepH (row_kept HR3.out fun b hb => C4.block b (row_lt HR3.out b hb) (fun x => x))
  have HR4 := keepH R4
  obtain ⟨pz, cz, rfl⟩ := slice_of HR4.out
  clear R4 N4 C4 HR3
  go_wp2_with fail
  have hlen : (oInts (firstsN l bs l.length)).length = (firstsN l bs l.length).length := by unfold oInts; rw [List.length_map]
  have hfl := firstsN_le l bs l.length
  have HS := r_sameI pa pz ca cz (oInts (firstsN l bs l.length)) W4 (IReads.of_row HA4.out) (IReads.of_row HR4.out) (by omega)
  rw [hlen] at HS
  clear hlen hfl
  refine HS.mono ?_
  rintro e W5 ⟨rfl, C5⟩
  have D5 := keepH (D4.out.trans C5 (H := fun _ => False) (fun _ _ x => x) (fun _ _ x => x))
  have LT5 := keepH (LT4.out.chg C5 (fun x => x))
  clear C5 HS
  go_wp2_with fail
  refine (r_kept pl cl g cap l _ (HL.out.chg D5.out (fun _ _ x => x)) LT5.out (by omega)).mono ?_
  rintro e W6 ⟨rfl, C6⟩
  have D6 := keepH (D5.out.trans C6 (H := fun _ => False) (fun _ _ x => x) (fun _ _ x => x))
  clear C6
  go_wp2_with fail
  go_ret
  exact ⟨by simp, (D6.out.mono (G := fun k => w.heap.size ≤ k) (fun _ _ x => x.elim)).below (Nat.le_refl _)⟩

set_option maxRecDepth 100000 in
theorem lifted (os : Os) (started : os.Started) (H : Type) (enc : TypeId × Value → H) :
    ReturnsInHanded {} Try.checked os 5 .any (Rows.histFirstsSpec.pre6 enc Try.prog Try.f5 Rows.histFirstsRow.domain false) (Rows.histFirstsSpec.post enc Try.prog Try.f5 false true false false) := by
  refine returnsInHanded_of_change_sized (C := Try.checked) own started (by kernel_rfl) Try.func5
    (ChangeSpec.witness6 (enc := enc) (C := Try.checked) false ⟨#[], #[.slice none 0 0, .slice none 0 0], []⟩ 8 (by kernel_rfl) (by kernel_rfl) (by kernel_rfl) (by kernel_rfl)) ?_
  intro W base args ds gs before hval0 hW hcnd hsz0 _
  have hval : ∀ (j : Nat) t v, Try.f5.params[j]? = some t → args[j]? = some v → Value.okWide Try.prog W .any base t v := hval0
  have hsz : (DataW.weightsEach Try.prog (Try.f5.params.toList ++ Rows.histFirstsSpec.plain.varTypes Try.prog) (ds ++ gs)).all (· ≤ reachBytes) = true := hsz0
  clear hsz0
  have hW' := hW
  obtain ⟨p, q, hA0, hV, rfl, hfz, hnd⟩ := hW
  have hA : DataW.TrodAll enc Try.prog W 0 (fun _ => true) true Try.f5.params.toList args.toList ds p := hA0
  rw [Try.params5] at hA hval hsz
  obtain ⟨v0, vs0, d0, ds0, p0, q0, hargs, rfl, rfl, h0, r0⟩ := trodAll_cons hA
  obtain ⟨v1, vs1, d1, ds1, p1, q1, rfl, rfl, rfl, h1, r1⟩ := trodAll_cons r0
  obtain ⟨rfl, rfl, rfl⟩ := trodAll_nil r1
  obtain rfl : args = #[v0, v1] := by cases args; simp_all
  obtain ⟨rfl, rfl⟩ := trodVars_none hV
  have k0 := h0
  have lt0 : ∀ x ∈ p0, x.block < W.heap.size := by obtain ⟨m, hm⟩ := k0; exact DataW.trod_lt m _ _ _ hm
  have k1 := h1
  have lt1 : ∀ x ∈ p1, x.block < W.heap.size := by obtain ⟨m, hm⟩ := k1; exact DataW.trod_lt m _ _ _ hm
  obtain ⟨pl, nl, cl, rfl⟩ := okWide_slice Try.underlying23 (hval 0 23 v0 rfl rfl)
  have sl := slice_size Try.underlying23 h0 hsz (j := 0) rfl rfl
  rw [bytesSpan] at sl
  obtain ⟨l, hll, okl, hL⟩ := spans_open h0
  obtain ⟨pb, nb, cb, rfl⟩ := okWide_slice Try.underlying40 (hval 1 40 v1 rfl rfl)
  have kb := slice_cap Try.underlying40 h1
  obtain ⟨bs, hlb, _, hB⟩ := bools_open h1
  subst hll
  subst hlb
  have bl : l.length ≤ 4398046511000 := by simp only [reachBytes] at sl; omega
  clear hA0 hval0
  refine (walk pl pb cl cb l bs W hL hB kb bl).mono fun e W' ⟨he, bel⟩ => ?_
  subst he
  exact ⟨_, rfl, _, _, _, [], _, [], hW', trodAll_mk1 (shut_bool Try.underlying4 _), (trodAll_cons_mk (Below.trod laidOut (by kernel_rfl) (of_decide_eq_true (by kernel_rfl)) k0 bel lt0) (trodAll_cons_mk (Below.trod laidOut (by kernel_rfl) (of_decide_eq_true (by kernel_rfl)) k1 bel lt1) trodAll_mk0)), rfl, bel.frame _, fun h => by cases h⟩

theorem over : Rows.histFirstsRow.holds Try.pinned (OpenSpec.ofChange Rows.histFirstsSpec) :=
  OpenClaim.holds_of_wide 5 Try.f5 rfl rfl rfl rfl rfl rfl rfl ⟨rfl, rfl, rfl, rfl, rfl⟩ rfl rfl rfl rfl rfl (by kernel_rfl) Try.func5 (by kernel_rfl)
    (of_decide_eq_true (by kernel_rfl)) (by unfold Func.isWrapper; first | (rw [if_pos (by decide +kernel)]; kernel_rfl) | (rw [if_neg (by decide +kernel)]; exact ⟨rfl, rfl⟩))
    (fun os started H enc _ => lifted os started H enc)
end Go.Proofs.Ytmdeodijcmeflaa.histFirsts
namespace Go.Proofs.Ytmdeodijcmeflaa
theorem histFirsts_holds : Rows.HistFirstsSaid := histFirsts.over
end Go.Proofs.Ytmdeodijcmeflaa
