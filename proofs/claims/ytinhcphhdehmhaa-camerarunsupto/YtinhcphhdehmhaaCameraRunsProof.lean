/- Whatever the cell, what it holds at first, the threads of Takes and Nows and the picks: each step's answer, what each call tells then, and the trace are the document's, and a step of a call that is done does nothing (shutterlaw08.CameraRuns is true for every input of bulk at most 1048576: a trace of accesses takes more bytes than the picks). -/
import Derived.Test.YtinhcphhdehmhaaRows
import Derived.WalkKit
import Derived.ProofKit
import Derived.OpenShut
import Derived.JoinedCond
import Derived.Carry
import Derived.Lib.SmallJoins
import Derived.Test.YtinhcphhdehmhaaCamZ
namespace Go.Proofs.Ytinhcphhdehmhaa.cameraRuns
open Go.ChangeShapes Go.WideShapes Go.ChangeAt Go.RowKit Go.Joins Go.Deep
set_option linter.unusedVariables false

theorem own : ownKnob Try.prog.godebug = none := by kernel_rfl
theorem laidOut : laidOutB Try.prog = true := by kernel_rfl

set_option maxRecDepth 100000 in
set_option maxHeartbeats 16000000 in
theorem walk (cell first : Nat) (pt : Option Addr) (ct : Nat) (ths : List ThR) (pp : Option Addr) (cp : Nat) (picks : List Int) (w : World) (hc : cell < 18446744073709551616) (hf : first < 18446744073709551616) (hT : ThsAt w pt ths) (hP : PicksAt w pp picks) (hnt : ths.length ≤ 1048576) (hnp : picks.length ≤ 1048576) :
    Calls Try.prog 3 #[.agg #[.int .u64 (cell : Int), .int .u64 (first : Int), .slice pt ths.length ct, .slice pp picks.length cp]] w fun e w' => e = .returned (.bool true) ∧ Below w.heap.size w w' := by
  have HT := keepH hT
  have HP := keepH hP
  obtain ⟨nt, hntv⟩ : ∃ nt, nt = ths.length := ⟨_, rfl⟩
  obtain ⟨np, hnpv⟩ : ∃ np, np = picks.length := ⟨_, rfl⟩
  have HNT := keepH hntv
  have HNP := keepH hnpv
  rw [← hntv, ← hnpv]
  obtain ⟨W0, hW0⟩ : ∃ W0, W0 = w.alloc (.cells #[.int .u64 (cell : Int), .int .u64 (first : Int), .slice pt nt ct, .slice pp np cp] 26) := ⟨_, rfl⟩
  have C0 : Hid (Chg (fun _ => False) w W0) := by rw [hW0]; exact (Chg.refl _ _).alloc _
  have b0 : Hid (W0.heap[w.heap.size]? = some (.cells #[.int .u64 (cell : Int), .int .u64 (first : Int), .slice pt nt ct, .slice pp np cp] 26 (0, 0))) := by rw [hW0]; exact heap_alloc_new _ _
  clear hT hP hntv hnpv
  go_enter Try.func3, Try.ntmps3
  go_upto_region 1 with fail
  rw [← hW0]
  obtain ⟨bx, hbx⟩ : ∃ bx, bx = w.heap.size := ⟨_, rfl⟩
  rw [← hbx] at b0 ⊢
  clear hW0 hbx
  go_wp2_with fail
  refine (c_live W0).mono ?_
  rintro e W1 ⟨rfl, C1⟩
  have HC1 : Hid (Chg (fun _ => False) w W1) := C0.out.trans C1 (fun _ _ x => x) (fun _ _ x => x)
  have b1 : Hid (W1.heap[bx]? = some (.cells #[.int .u64 (cell : Int), .int .u64 (first : Int), .slice pt nt ct, .slice pp np cp] 26 (0, 0))) := (C1.block bx (lt_of b0.out) (fun x => x)).trans b0.out
  have k0 : W1.cell? ⟨bx, 0, none⟩ = some (.int .u64 (cell : Int)) := cell_of b1.out 0
  have k1 : W1.cell? ⟨bx, 1, none⟩ = some (.int .u64 (first : Int)) := cell_of b1.out 1
  have k2 : W1.cell? ⟨bx, 2, none⟩ = some (.slice pt nt ct) := cell_of b1.out 2
  have k3 : W1.cell? ⟨bx, 3, none⟩ = some (.slice pp np cp) := cell_of b1.out 3
  have HK : Hid (Calls Try.prog 9 #[.agg #[.int .u64 (cell : Int), .int .u64 (first : Int), .slice pt nt ct, .slice pp np cp]] W1 fun e W' => ∃ al W1' m b nm nB aB vB F R cs l pcs pb nb tb cur ats vw tg, e = .returned (.tuple #[al, .pointer (some ⟨m, 0, none⟩), .bool true]) ∧ W1.heap.size ≤ W1'.heap.size ∧ RS W1' W' cell ths.length m b nm nB aB vB F R cs l al pcs pb nb tb cur ats vw tg ∧ CI (decide (cell < 128)) (firstOf cell first) (cellN cs cell) picks.length pcs ∧ pcs.length ≤ picks.length ∧ Chg (fun _ => False) W1 W') := by
    rw [HNT.out, HNP.out]
    exact c_ran cell first pt ct ths pp cp picks W1 hc hf (HT.out.chg HC1.out) (HP.out.chg HC1.out) hnt hnp
  clear C1
  go_wp2_with fail
  refine HK.out.mono ?_
  rintro e W2 ⟨al, Wb, m, b, nm, nB, aB, vB, F, R, cs, l, pcs, pb, nb, tb, cur, ats, vw, tg, rfl, _, hRS, hCI, hPL, C2⟩
  have HC2 : Hid (Chg (fun _ => False) w W2) := HC1.out.trans C2 (fun _ _ x => x) (fun _ _ x => x)
  have b2 : Hid (W2.heap[bx]? = some (.cells #[.int .u64 (cell : Int), .int .u64 (first : Int), .slice pt nt ct, .slice pp np cp] 26 (0, 0))) := (C2.block bx (lt_of b1.out) (fun x => x)).trans b1.out
  have HSE := keepH (hRS.seen hc)
  have HSM := keepH hRS.small
  have HCI := keepH hCI
  have HPL : Hid (pcs.length ≤ 1048576) := by show _ ≤ _; omega
  obtain ⟨c, hcv⟩ : ∃ c, c = cellN cs cell := ⟨_, rfl⟩
  rw [← hcv] at HSE HSM HCI
  clear hRS hCI hPL C2 k0 k1 k2 k3 HK hcv
  go_wp2_with fail
  go_ret
  exact ⟨by simp, (HC2.out.mono (G := fun k => w.heap.size ≤ k) (fun _ _ x => x.elim)).below (Nat.le_refl _)⟩

set_option maxRecDepth 100000 in
theorem lifted (os : Os) (started : os.Started) (H : Type) (enc : TypeId × Value → H) (F : Stop.Interp) :
    ReturnsInHanded {} Try.checked os 3 .any ((Rows.OpenSpec.upto Rows.cameraRunsSpec).pre6 enc Try.prog Try.f3 Rows.cameraRunsUptoRow.domain false) (((Rows.OpenSpec.upto Rows.cameraRunsSpec).at F).post enc Try.prog Try.f3 false true false false) := by
  refine returnsInHanded_of_cond (C := Try.checked) (s := Rows.OpenSpec.upto Rows.cameraRunsSpec) (k := Rows.uptoSmall) rfl own started (by kernel_rfl) Try.func3
    (OpenSpec.witness (enc := enc) (C := Try.checked) (s := Rows.OpenSpec.upto Rows.cameraRunsSpec) (k := Rows.uptoSmall) rfl false ⟨#[], #[.agg #[.int .u64 0, .int .u64 0, .slice none 0 0, .slice none 0 0]], []⟩ 8 (by kernel_rfl) (by kernel_rfl) (by kernel_rfl)
      (x := ([.agg [.lit (.int .u64 0), .lit (.int .u64 0), .nil, .nil]], [], [])) (by kernel_rfl) rfl (by kernel_rfl)) ?_
  intro W base args ds gs before hval0 hW _ hk _
  have hval : ∀ (j : Nat) t v, Try.f3.params[j]? = some t → args[j]? = some v → Value.okWide Try.prog W .any base t v := hval0
  have hW' := hW
  obtain ⟨p, q, hA0, hV, rfl, hfz, hnd⟩ := hW
  have hA : DataW.TrodAll enc Try.prog W 0 (fun _ => true) true Try.f3.params.toList args.toList ds p := hA0
  rw [Try.params3] at hA hval
  obtain ⟨v0, vs0, d0, ds0, p0, q0, hargs, rfl, rfl, h0, r0⟩ := trodAll_cons hA
  obtain ⟨rfl, rfl, rfl⟩ := trodAll_nil r0
  obtain rfl : args = #[v0] := by cases args; simp_all
  obtain ⟨rfl, rfl⟩ := trodVars_none hV
  have k0 := h0
  have lt0 : ∀ x ∈ p0, x.block < W.heap.size := by obtain ⟨m, hm⟩ := k0; exact DataW.trod_lt m _ _ _ hm
  obtain ⟨cv, rfl, hcsz⟩ := okWide_struct Try.underlying26 (hval 0 26 v0 rfl rfl)
  obtain ⟨cell, first, pt, ct, ths, pp, cp, picks, rfl, hc, hf, hT, hP, hbt, hbp⟩ := run_open h0
  simp only [List.append_nil] at hW' hk
  have hb : Rows.uptoBulkAll [d0] ≤ 1048576 := of_decide_eq_true hk
  have hnt : ths.length ≤ 1048576 := by simp only [Rows.uptoBulkAll] at hb; omega
  have hnp : picks.length ≤ 1048576 := by simp only [Rows.uptoBulkAll] at hb; omega
  clear hA0 hval0
  refine (walk cell first pt ct ths pp cp picks W hc hf hT hP hnt hnp).mono fun e W' ⟨he, bel⟩ => ?_
  subst he
  exact ⟨_, rfl, _, _, _, [], _, [], hW', trodAll_mk1 (shut_bool Try.underlying4 _), (trodAll_cons_mk (Below.trod laidOut (by kernel_rfl) (of_decide_eq_true (by kernel_rfl)) k0 bel lt0) trodAll_mk0), rfl, bel.frame _, fun h => by cases h⟩

theorem over : Rows.cameraRunsUptoRow.holds Try.pinned (Rows.OpenSpec.upto Rows.cameraRunsSpec) :=
  OpenClaim.holds_of_cond 3 Try.f3 rfl rfl rfl rfl rfl rfl rfl ⟨rfl, rfl, rfl, rfl, rfl⟩ rfl rfl rfl rfl rfl (by kernel_rfl) Try.func3 (by kernel_rfl)
    (of_decide_eq_true (by kernel_rfl)) (by unfold Func.isWrapper; first | (rw [if_pos (by decide +kernel)]; kernel_rfl) | (rw [if_neg (by decide +kernel)]; exact ⟨rfl, rfl⟩))
    (fun os started H enc _ F => lifted os started H enc F)
end Go.Proofs.Ytinhcphhdehmhaa.cameraRuns
namespace Go.Proofs.Ytinhcphhdehmhaa
theorem cameraRuns_holds : Rows.CameraRunsUptoSaid := cameraRuns.over
end Go.Proofs.Ytinhcphhdehmhaa
