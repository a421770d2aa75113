/- Whatever the three numbers: procs of vcas that are nil do nothing, and on a nil view a Read and an At tell 0 at once, a Cas of 0 ends with ErrMemory at its second step, and an Init at its third (shutterlaw09.VcasNone is true for every input). -/
import Derived.Test.YtmhflmjhphhppabRows
import Derived.WalkKit
import Derived.ProofKit
import Derived.OpenShut
import Derived.JoinedCond
import Derived.Carry
import Derived.Lib.SmallJoins
import Derived.Test.YtmhflmjhphhppabVn
namespace Go.Proofs.Ytmhflmjhphhppab.vcasNone
open Go.ChangeShapes Go.WideShapes Go.ChangeAt Go.RowKit Go.Joins Go.Shelf
set_option linter.unusedVariables false

theorem own : ownKnob Try.prog.godebug = none := by kernel_rfl
theorem laidOut : laidOutB Try.prog = true := by kernel_rfl

set_option maxRecDepth 100000 in
set_option maxHeartbeats 8000000 in
theorem walk (a b c : Nat) (w : World) (ha : a < 18446744073709551616) (hb : b < 18446744073709551616) (hc : c < 18446744073709551616) :
    Calls Try.prog 3 #[.int .u64 (a : Int), .int .u64 (b : Int), .int .u64 (c : Int)] w fun e w' => e = .returned (.bool true) ∧ Below w.heap.size w w' := by
  go_enter Try.func3, Try.ntmps3
  go_wp2_with fail
  refine (nil_initstep _ _).mono ?_
  rintro e w0 ⟨rfl, rfl⟩
  go_wp2_with fail
  refine (nil_readstep _ _).mono ?_
  rintro e w0 ⟨rfl, rfl⟩
  go_wp2_with fail
  refine (nil_casstep _ _).mono ?_
  rintro e w0 ⟨rfl, rfl⟩
  go_wp2_with fail
  refine (nil_atstep _ _).mono ?_
  rintro e w0 ⟨rfl, rfl⟩
  go_wp2_with fail
  refine (nil_readvalue _).mono ?_
  rintro e w0 ⟨rfl, rfl⟩
  go_wp2_with fail
  refine (nil_casdone _).mono ?_
  rintro e w0 ⟨rfl, rfl⟩
  go_wp2_with fail
  refine (nil_caserrno _).mono ?_
  rintro e w0 ⟨rfl, rfl⟩
  go_wp2_with fail
  refine (nil_atvalue _).mono ?_
  rintro e w0 ⟨rfl, rfl⟩
  go_wp2_with fail
  refine (rd_new a b _).mono ?_
  rintro e w1 ⟨pr, hpr, rfl, P1, C1, S1⟩
  have HPR := keepH (show Blk w1 pr 109 (r0L a b) from P1)
  have HC1 : Hid (Chg (fun k => w0.heap.size ≤ k) w0 w1) := C1.mono (fun _ _ x => x.elim)
  have HZ1 : Hid (w0.heap.size ≤ pr ∧ w1.heap.size = pr + 1) := ⟨hpr, S1⟩
  clear hpr P1 C1 S1
  go_wp2_with fail
  refine (at_new a b c _).mono ?_
  rintro e w2 ⟨pa, hpa, rfl, P2, C2, S2⟩
  have HPA := keepH P2
  have HPR2 := keepH (HPR.out.chg C2 (fun x => x))
  have HC2 : Hid (Chg (fun k => w0.heap.size ≤ k) w0 w2) := HC1.out.trans C2 (fun _ _ x => x) (fun _ _ x => x.elim)
  have HZ2 : Hid (w1.heap.size ≤ pa ∧ w2.heap.size = pa + 1) := ⟨hpa, S2⟩
  clear hpa P2 C2 S2 HPR HC1
  go_wp2_with fail
  refine (cs_new a b 0 1 _).mono ?_
  rintro e w3 ⟨pc, hpc, rfl, P3, C3, S3⟩
  have HPC := keepH (show Blk w3 pc 111 (c0L a b 1) from P3)
  have HPR3 := keepH (HPR2.out.chg C3 (fun x => x))
  have HPA3 := keepH (HPA.out.chg C3 (fun x => x))
  have HC3 : Hid (Chg (fun k => w0.heap.size ≤ k) w0 w3) := HC2.out.trans C3 (fun _ _ x => x) (fun _ _ x => x.elim)
  have HZ : Hid (w0.heap.size ≤ pr ∧ pr < pa ∧ pa < pc) := by
    have z1 := HZ1.out
    have z2 := HZ2.out
    show _ ∧ _ ∧ _
    omega
  clear hpc P3 C3 S3 HPR2 HPA HC2 HZ1 HZ2
  go_wp2_with fail
  refine (rd_nv HPR3.out).mono ?_
  rintro e w4 ⟨rfl, P4, C4⟩
  have HPR4 := keepH P4
  have HPA4 := keepH (HPA3.out.chg C4 (by have := HZ.out; omega))
  have HPC4 := keepH (HPC.out.chg C4 (by have := HZ.out; omega))
  have HC4 : Hid (Chg (fun k => w0.heap.size ≤ k) w0 w4) := HC3.out.trans C4 (fun _ _ x => x) (fun i _ e => by have := HZ.out; show _ ≤ _; omega)
  clear P4 C4 HPR3 HPA3 HPC HC3
  go_wp2_with fail
  refine (at_nv HPA4.out).mono ?_
  rintro e w5 ⟨rfl, P5, C5⟩
  have HPA5 := keepH P5
  have HPR5 := keepH (HPR4.out.chg C5 (by have := HZ.out; omega))
  have HPC5 := keepH (HPC4.out.chg C5 (by have := HZ.out; omega))
  have HC5 : Hid (Chg (fun k => w0.heap.size ≤ k) w0 w5) := HC4.out.trans C5 (fun _ _ x => x) (fun i _ e => by have := HZ.out; show _ ≤ _; omega)
  clear P5 C5 HPR4 HPA4 HPC4 HC4
  go_wp2_with fail
  refine (rd_value (x := 0) HPR5.out rfl).mono ?_
  rintro e w6 ⟨rfl, rfl⟩
  go_wp2_with fail
  refine (at_value (x := 0) HPA5.out rfl).mono ?_
  rintro e w6 ⟨rfl, rfl⟩
  go_wp2_with fail
  refine (cs_nv1 HPC5.out (by decide)).mono ?_
  rintro e w7 ⟨rfl, P7, C7⟩
  have HPC7 := keepH P7
  have HC7 : Hid (Chg (fun k => w0.heap.size ≤ k) w0 w7) := HC5.out.trans C7 (fun _ _ x => x) (fun i _ e => by have := HZ.out; show _ ≤ _; omega)
  clear P7 C7 HPR5 HPA5 HPC5 HC5
  go_wp2_with fail
  refine (cs_nv2 HPC7.out).mono ?_
  rintro e w8 ⟨rfl, P8, C8⟩
  have HPC8 := keepH P8
  have HC8 : Hid (Chg (fun k => w0.heap.size ≤ k) w0 w8) := HC7.out.trans C8 (fun _ _ x => x) (fun i _ e => by have := HZ.out; show _ ≤ _; omega)
  clear P8 C8 HPC7 HC7
  go_wp2_with fail
  refine (in_new a b _).mono ?_
  rintro e w9 ⟨rfl, P9, C9⟩
  have HPI9 := keepH P9
  have HPC9 := keepH (HPC8.out.chg C9 (fun x => x))
  have HC9 : Hid (Chg (fun k => w0.heap.size ≤ k) w0 w9) := HC8.out.trans C9 (fun _ _ x => x) (fun _ _ x => x.elim)
  have HZ9 : Hid (w0.heap.size ≤ w8.heap.size ∧ pc < w8.heap.size) := ⟨HC8.out.size, lt_of HPC8.out⟩
  clear P9 C9 HPC8 HC8
  obtain ⟨pi, hpi⟩ : ∃ pi, pi = w8.heap.size := ⟨_, rfl⟩
  rw [← hpi] at HPI9 HZ9 ⊢
  clear hpi
  go_wp2_with fail
  refine (vc_live _).mono ?_
  rintro e y0 ⟨rfl, CY⟩
  have HPI0 := keepH (HPI9.out.chg CY (fun x => x))
  have HPC0 := keepH (HPC9.out.chg CY (fun x => x))
  have HC0 : Hid (Chg (fun k => w0.heap.size ≤ k) w0 y0) := HC9.out.trans CY (fun _ _ x => x) (fun _ _ x => x.elim)
  clear CY HPI9 HPC9 HC9
  go_wp2_with fail
  refine (cs_errno (x := 30) HPC0.out rfl).mono ?_
  rintro e y1 ⟨rfl, rfl⟩
  go_wp2_with fail
  refine (cs_done (b := false) HPC0.out rfl rfl).mono ?_
  rintro e y1 ⟨rfl, rfl⟩
  go_wp2_with fail
  refine (in_nv1 HPI0.out).mono ?_
  rintro e y2 ⟨rfl, P2, N2, C2⟩
  have HPI2 := keepH P2
  have HN2 := keepH N2
  have HC2 : Hid (Chg (fun k => w0.heap.size ≤ k) w0 y2) := HC0.out.trans C2 (fun _ _ x => x) (fun i _ e => by have := HZ9.out; show _ ≤ _; omega)
  have HQ : Hid (w0.heap.size ≤ y1.heap.size ∧ pi < y1.heap.size) := ⟨HC0.out.size, lt_of HPI0.out⟩
  clear P2 N2 C2 HPI0 HPC0 HC0
  obtain ⟨q, hq⟩ : ∃ q, q = y1.heap.size := ⟨_, rfl⟩
  rw [← hq] at HPI2 HN2 HQ
  clear hq
  go_wp2_with fail
  refine (in_nv2 HPI2.out HN2.out (by have := HQ.out; omega)).mono ?_
  rintro e y3 ⟨rfl, P3, N3, C3⟩
  have HPI3 := keepH P3
  have HN3 := keepH N3
  have HC3 : Hid (Chg (fun k => w0.heap.size ≤ k) w0 y3) := HC2.out.trans C3 (fun _ _ x => x) (fun i _ e => by have := HZ9.out; have := HQ.out; show _ ≤ _; omega)
  clear P3 N3 C3 HPI2 HN2 HC2
  go_wp2_with fail
  refine (in_nv3 HPI3.out HN3.out).mono ?_
  rintro e y4 ⟨rfl, C4⟩
  have HC4 : Hid (Chg (fun k => w0.heap.size ≤ k) w0 y4) := HC3.out.trans C4 (fun _ _ x => x) (fun i _ e => by have := HZ9.out; show _ ≤ _; omega)
  clear C4
  go_wp2_with fail
  go_ret
  exact ⟨by simp, HC4.out.below (Nat.le_refl _)⟩

set_option maxRecDepth 100000 in
theorem lifted (os : Os) (started : os.Started) (H : Type) (enc : TypeId × Value → H) :
    ReturnsInHanded {} Try.checked os 3 .any (Rows.vcasNoneSpec.pre6 enc Try.prog Try.f3 Rows.vcasNoneRow.domain false) (Rows.vcasNoneSpec.post enc Try.prog Try.f3 false true false false) := by
  refine returnsInHanded_of_change_sized (C := Try.checked) own started (by kernel_rfl) Try.func3
    (ChangeSpec.witness6 (enc := enc) (C := Try.checked) false ⟨#[], #[.int .u64 0, .int .u64 0, .int .u64 0], []⟩ 8 (by kernel_rfl) (by kernel_rfl) (by kernel_rfl) (by kernel_rfl)) ?_
  intro W base args ds gs before hval0 hW hcnd hsz0 _
  have hval : ∀ (j : Nat) t v, Try.f3.params[j]? = some t → args[j]? = some v → Value.okWide Try.prog W .any base t v := hval0
  have hsz : (DataW.weightsEach Try.prog (Try.f3.params.toList ++ Rows.vcasNoneSpec.plain.varTypes Try.prog) (ds ++ gs)).all (· ≤ reachBytes) = true := hsz0
  clear hsz0
  have hW' := hW
  obtain ⟨p, q, hA0, hV, rfl, hfz, hnd⟩ := hW
  have hA : DataW.TrodAll enc Try.prog W 0 (fun _ => true) true Try.f3.params.toList args.toList ds p := hA0
  rw [Try.params3] at hA hval hsz
  obtain ⟨v0, vs0, d0, ds0, p0, q0, hargs, rfl, rfl, h0, r0⟩ := trodAll_cons hA
  obtain ⟨v1, vs1, d1, ds1, p1, q1, rfl, rfl, rfl, h1, r1⟩ := trodAll_cons r0
  obtain ⟨v2, vs2, d2, ds2, p2, q2, rfl, rfl, rfl, h2, r2⟩ := trodAll_cons r1
  obtain ⟨rfl, rfl, rfl⟩ := trodAll_nil r2
  obtain rfl : args = #[v0, v1, v2] := by cases args; simp_all
  obtain ⟨rfl, rfl⟩ := trodVars_none hV
  have k0 := h0
  have lt0 : ∀ x ∈ p0, x.block < W.heap.size := by obtain ⟨m, hm⟩ := k0; exact DataW.trod_lt m _ _ _ hm
  have k1 := h1
  have lt1 : ∀ x ∈ p1, x.block < W.heap.size := by obtain ⟨m, hm⟩ := k1; exact DataW.trod_lt m _ _ _ hm
  have k2 := h2
  have lt2 : ∀ x ∈ p2, x.block < W.heap.size := by obtain ⟨m, hm⟩ := k2; exact DataW.trod_lt m _ _ _ hm
  obtain ⟨a0, rfl, rfl, rfl, w0⟩ := open_int Try.underlying22 (hval 0 22 v0 rfl rfl) h0
  obtain ⟨a, rfl, ha⟩ : ∃ m : Nat, a0 = (m : Int) ∧ m < 18446744073709551616 := by have b := bounds_u64 w0; exact ⟨a0.toNat, by omega, by omega⟩
  obtain ⟨a1, rfl, rfl, rfl, w1⟩ := open_int Try.underlying22 (hval 1 22 v1 rfl rfl) h1
  obtain ⟨b, rfl, hb⟩ : ∃ m : Nat, a1 = (m : Int) ∧ m < 18446744073709551616 := by have b := bounds_u64 w1; exact ⟨a1.toNat, by omega, by omega⟩
  obtain ⟨a2, rfl, rfl, rfl, w2⟩ := open_int Try.underlying22 (hval 2 22 v2 rfl rfl) h2
  obtain ⟨c, rfl, hc⟩ : ∃ m : Nat, a2 = (m : Int) ∧ m < 18446744073709551616 := by have b := bounds_u64 w2; exact ⟨a2.toNat, by omega, by omega⟩
  clear hA0 hval0
  refine (walk a b c W ha hb hc).mono fun e W' ⟨he, bel⟩ => ?_
  subst he
  exact ⟨_, rfl, _, _, _, [], _, [], hW', trodAll_mk1 (shut_bool Try.underlying4 _), (trodAll_cons_mk (Below.trod laidOut (by kernel_rfl) (of_decide_eq_true (by kernel_rfl)) k0 bel lt0) (trodAll_cons_mk (Below.trod laidOut (by kernel_rfl) (of_decide_eq_true (by kernel_rfl)) k1 bel lt1) (trodAll_cons_mk (Below.trod laidOut (by kernel_rfl) (of_decide_eq_true (by kernel_rfl)) k2 bel lt2) trodAll_mk0))), rfl, bel.frame _, fun h => by cases h⟩

theorem over : Rows.vcasNoneRow.holds Try.pinned (OpenSpec.ofChange Rows.vcasNoneSpec) :=
  OpenClaim.holds_of_wide 3 Try.f3 rfl rfl rfl rfl rfl rfl rfl ⟨rfl, rfl, rfl, rfl, rfl⟩ rfl rfl rfl rfl rfl (by kernel_rfl) Try.func3 (by kernel_rfl)
    (of_decide_eq_true (by kernel_rfl)) (by unfold Func.isWrapper; first | (rw [if_pos (by decide +kernel)]; kernel_rfl) | (rw [if_neg (by decide +kernel)]; exact ⟨rfl, rfl⟩))
    (fun os started H enc _ => lifted os started H enc)
end Go.Proofs.Ytmhflmjhphhppab.vcasNone
namespace Go.Proofs.Ytmhflmjhphhppab
theorem vcasNone_holds : Rows.VcasNoneSaid := vcasNone.over
end Go.Proofs.Ytmhflmjhphhppab
