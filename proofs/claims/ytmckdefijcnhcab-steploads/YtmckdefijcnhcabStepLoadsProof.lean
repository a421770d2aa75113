/- Whatever the cell and the value: a Load makes one access, tells what the cell held, zero ahead of it, and does nothing again (shutterlaw04.StepLoads is true for every input). -/
import Derived.Test.YtmckdefijcnhcabRows
import Derived.WalkKit
import Derived.ProofKit
import Derived.OpenShut
import Derived.JoinedCond
import Derived.Carry
import Derived.Lib.SmallJoins
import Derived.Test.YtmckdefijcnhcabSLive
import Derived.Test.YtmckdefijcnhcabALive
namespace Go.Proofs.Ytmckdefijcnhcab.stepLoads
open Go.ChangeShapes Go.WideShapes Go.ChangeAt Go.RowKit Go.Joins Go.Shelf
set_option linter.unusedVariables false

theorem own : ownKnob Try.prog.godebug = none := by kernel_rfl
theorem laidOut : laidOutB Try.prog = true := by kernel_rfl

set_option maxRecDepth 100000 in
set_option maxHeartbeats 8000000 in
theorem walk (addr value : Nat) (w : World) (ha : addr < 18446744073709551616) (hv : value < 18446744073709551616) :
    Calls Try.prog 5 #[.int .u64 (addr : Int), .int .u64 (value : Int)] w fun e w' => e = .returned (.bool true) ∧ Below w.heap.size w w' := by
  obtain ⟨want, hwant⟩ : ∃ want : Nat, want = cellN (stN 128 [] addr value) addr := ⟨_, rfl⟩
  have HWT := keepH hwant
  obtain ⟨v1, hv1⟩ : ∃ v1 : Nat, v1 = (value + 1) % 18446744073709551616 := ⟨_, rfl⟩
  have wv : IntKind.u64.wrap ((value : Int) + 1) = (v1 : Int) := by rw [IntKind.wrap_u64]; omega
  have hv1l : v1 < 18446744073709551616 := by omega
  have hw0 : want = if addr < 128 then value else 0 := by
    rw [hwant, stN_cell]
    by_cases h : addr < 128
    · simp [h]
    · simp [h, cellN]
  clear hwant hv1
  go_enter Try.func5, Try.ntmps5
  go_wp2_with fail
  refine (s_live _).mono ?_
  rintro e W0 ⟨rfl, C0⟩
  have HC0 := keepH C0
  clear C0
  go_wp2_with fail
  refine (m_new 128 W0 (by omega)).mono ?_
  rintro e W1 ⟨rfl, M1, B1, C1, S1⟩
  have HM1 := keepH M1
  have HB1 := keepH B1
  have HS1 := keepH S1
  have HC1 := keepH C1
  clear M1 B1 S1 C1
  go_wp2_with fail
  refine (m_view _ W0.heap.size 0 _ HM1.out).mono ?_
  rintro e w' ⟨rfl, rfl⟩
  have S2 := keepH (St.new (th := 0) 0 HM1.out HB1.out HC1.out HS1.out rfl)
  clear HM1 HB1 HC1
  go_wp2_with fail
  refine (v_store _ _ _ _ _ 0 addr value _ _ _ _ S2.out.view S2.out.bank S2.out.nv (by omega) (by simp) ha hv).mono ?_
  rintro e W3 ⟨rfl, F3, vs3, B3, V3, G3⟩
  have S3 := keepH (S2.out.step G3 B3 V3)
  clear B3 V3 G3 S2
  go_wp2_with fail
  refine (load_new addr _).mono ?_
  rintro e w' ⟨rfl, rfl⟩
  have cA : Chg (fun _ => False) W3 (W3.alloc (.cells #[.int .u64 (addr : Int), .int .u64 0, .bool false] 113)) := (Chg.refl _ _).alloc _
  have S4 := keepH (S3.out.chg' cA)
  have L4 : Hid (IsLoad (W3.alloc (.cells #[.int .u64 (addr : Int), .int .u64 0, .bool false] 113)) W3.heap.size addr 0 false) := heap_alloc_new _ _
  have NF : Hid (¬ F3 W3.heap.size) := fun e => by obtain ⟨_, _, B⟩ := S3.out.bank; have := B.lt _ e; omega
  have NV : Hid (W3.heap.size ≠ W1.heap.size) := by have := S3.out.view.lt; show _ ≠ _; omega
  have hsW : Hid (W0.heap.size ≤ W3.heap.size) := S3.out.chg.size
  clear cA S3
  go_wp2_with fail
  refine (load_value _ addr 0 false _ L4.out).mono ?_
  rintro e w' ⟨rfl, rfl⟩
  go_wp2_with fail
  refine (load_step W3.heap.size addr 0 W1.heap.size W0.heap.size 128 1 1 0 F3 _ _ _ L4.out S4.out.view S4.out.bank S4.out.nv NF.out NV.out (by omega) (by simp) ha).mono ?_
  rintro e W5 ⟨rfl, F5, vs5, B5, V5, L5, nf1, nf2, C5, N5⟩
  rw [← HWT.out] at B5 L5
  have HB5 := keepH B5
  have HV5 := keepH V5
  have HL5 := keepH L5
  have hC5 : Hid (Chg (fun _ => False) W0 W5) := S4.out.chg.trans C5 (fun _ _ x => x) (fun k hk e => by
    rcases e with (e | e) | e
    · have := S4.out.inF k e; omega
    · have := S4.out.hv; omega
    · have := hsW.out; omega)
  have hF5 : Hid (∀ k, F5 k → W0.heap.size ≤ k) := fun k e => (N5 k e).elim (S4.out.inF k) (fun e => Nat.le_trans S4.out.chg.size e)
  have hv5 : Hid (W0.heap.size ≤ W1.heap.size) := S4.out.hv
  have NP : Hid (¬ F5 W3.heap.size) := nf1
  have NW : Hid (¬ F5 W1.heap.size) := nf2
  clear B5 V5 L5 C5 N5 S4 nf1 nf2 L4
  by_cases h128 : addr < 128
  · have t128 : (addr : Int) < 128 := by omega
    have ew : want = value := by rw [hw0, if_pos h128]
    rw [ew] at HB5 HL5
    go_wp2_with fail
    refine (v_store _ _ _ _ _ 0 addr v1 _ _ _ _ HV5.out HB5.out NW.out (by omega) (by simp) ha hv1l).mono ?_
    rintro e W6 ⟨rfl, F6, vs6, B6, V6, G6⟩
    have HV6 := keepH V6
    have HL6 := keepH (HL5.out.chg G6.chg (fun e => e.elim NP.out NV.out))
    have hC6 : Hid (Chg (fun _ => False) W0 W6) := hC5.out.trans G6.chg (fun _ _ x => x) (fun k hk e => e.elim (fun e => by have := hF5.out k e; omega) (fun e => by have := hv5.out; omega))
    clear B6 V6 G6
    go_wp2_with fail
    refine (load_value _ _ _ _ _ HL6.out).mono ?_
    rintro e w' ⟨rfl, rfl⟩
    go_wp2_with fail
    refine (load_step_done _ _ _ _ _ HL6.out).mono ?_
    rintro e w' ⟨rfl, rfl⟩
    go_wp2_with fail
    refine (load_value _ _ _ _ _ HL6.out).mono ?_
    rintro e w' ⟨rfl, rfl⟩
    go_wp2_with fail
    refine (v_accesses _ _ _ _ _ HV6.out).mono ?_
    rintro e w' ⟨rfl, rfl⟩
    go_wp2_with fail
    go_ret
    exact ⟨by simp, ((HC0.out.trans hC6.out (H := fun k => w.heap.size ≤ k) (fun _ _ x => x.elim) (fun _ _ x => x.elim))).below (Nat.le_refl _)⟩
  · have t128 : ¬ (addr : Int) < 128 := by omega
    have ew : want = 0 := by rw [hw0, if_neg h128]
    rw [ew] at HB5 HL5
    go_wp2_with fail
    refine (v_store _ _ _ _ _ 0 addr v1 _ _ _ _ HV5.out HB5.out NW.out (by omega) (by simp) ha hv1l).mono ?_
    rintro e W6 ⟨rfl, F6, vs6, B6, V6, G6⟩
    have HV6 := keepH V6
    have HL6 := keepH (HL5.out.chg G6.chg (fun e => e.elim NP.out NV.out))
    have hC6 : Hid (Chg (fun _ => False) W0 W6) := hC5.out.trans G6.chg (fun _ _ x => x) (fun k hk e => e.elim (fun e => by have := hF5.out k e; omega) (fun e => by have := hv5.out; omega))
    clear B6 V6 G6
    go_wp2_with fail
    refine (load_value _ _ _ _ _ HL6.out).mono ?_
    rintro e w' ⟨rfl, rfl⟩
    go_wp2_with fail
    refine (load_step_done _ _ _ _ _ HL6.out).mono ?_
    rintro e w' ⟨rfl, rfl⟩
    go_wp2_with fail
    refine (load_value _ _ _ _ _ HL6.out).mono ?_
    rintro e w' ⟨rfl, rfl⟩
    go_wp2_with fail
    refine (v_accesses _ _ _ _ _ HV6.out).mono ?_
    rintro e w' ⟨rfl, rfl⟩
    go_wp2_with fail
    go_ret
    exact ⟨by simp, ((HC0.out.trans hC6.out (H := fun k => w.heap.size ≤ k) (fun _ _ x => x.elim) (fun _ _ x => x.elim))).below (Nat.le_refl _)⟩

set_option maxRecDepth 100000 in
theorem lifted (os : Os) (started : os.Started) (H : Type) (enc : TypeId × Value → H) :
    ReturnsInHanded {} Try.checked os 5 .any (Rows.stepLoadsSpec.pre6 enc Try.prog Try.f5 Rows.stepLoadsRow.domain false) (Rows.stepLoadsSpec.post enc Try.prog Try.f5 false true false false) := by
  refine returnsInHanded_of_change_sized (C := Try.checked) own started (by kernel_rfl) Try.func5
    (ChangeSpec.witness6 (enc := enc) (C := Try.checked) false ⟨#[], #[.int .u64 0, .int .u64 0], []⟩ 8 (by kernel_rfl) (by kernel_rfl) (by kernel_rfl) (by kernel_rfl)) ?_
  intro W base args ds gs before hval0 hW hcnd hsz0 _
  have hval : ∀ (j : Nat) t v, Try.f5.params[j]? = some t → args[j]? = some v → Value.okWide Try.prog W .any base t v := hval0
  have hsz : (DataW.weightsEach Try.prog (Try.f5.params.toList ++ Rows.stepLoadsSpec.plain.varTypes Try.prog) (ds ++ gs)).all (· ≤ reachBytes) = true := hsz0
  clear hsz0
  have hW' := hW
  obtain ⟨p, q, hA0, hV, rfl, hfz, hnd⟩ := hW
  have hA : DataW.TrodAll enc Try.prog W 0 (fun _ => true) true Try.f5.params.toList args.toList ds p := hA0
  rw [Try.params5] at hA hval hsz
  obtain ⟨v0, vs0, d0, ds0, p0, q0, hargs, rfl, rfl, h0, r0⟩ := trodAll_cons hA
  obtain ⟨v1, vs1, d1, ds1, p1, q1, rfl, rfl, rfl, h1, r1⟩ := trodAll_cons r0
  obtain ⟨rfl, rfl, rfl⟩ := trodAll_nil r1
  obtain rfl : args = #[v0, v1] := by cases args; simp_all
  obtain ⟨rfl, rfl⟩ := trodVars_none hV
  have k0 := h0
  have lt0 : ∀ x ∈ p0, x.block < W.heap.size := by obtain ⟨m, hm⟩ := k0; exact DataW.trod_lt m _ _ _ hm
  have k1 := h1
  have lt1 : ∀ x ∈ p1, x.block < W.heap.size := by obtain ⟨m, hm⟩ := k1; exact DataW.trod_lt m _ _ _ hm
  obtain ⟨a0, rfl, rfl, rfl, w0⟩ := open_int Try.underlying57 (hval 0 57 v0 rfl rfl) h0
  obtain ⟨addr, rfl, ha⟩ : ∃ m : Nat, a0 = (m : Int) ∧ m < 18446744073709551616 := by have b := bounds_u64 w0; exact ⟨a0.toNat, by omega, by omega⟩
  obtain ⟨a1, rfl, rfl, rfl, w1⟩ := open_int Try.underlying57 (hval 1 57 v1 rfl rfl) h1
  obtain ⟨value, rfl, hv⟩ : ∃ m : Nat, a1 = (m : Int) ∧ m < 18446744073709551616 := by have b := bounds_u64 w1; exact ⟨a1.toNat, by omega, by omega⟩
  clear hA0 hval0
  refine (walk addr value W ha hv).mono fun e W' ⟨he, bel⟩ => ?_
  subst he
  exact ⟨_, rfl, _, _, _, [], _, [], hW', trodAll_mk1 (shut_bool Try.underlying4 _), (trodAll_cons_mk (Below.trod laidOut (by kernel_rfl) (of_decide_eq_true (by kernel_rfl)) k0 bel lt0) (trodAll_cons_mk (Below.trod laidOut (by kernel_rfl) (of_decide_eq_true (by kernel_rfl)) k1 bel lt1) trodAll_mk0)), rfl, bel.frame _, fun h => by cases h⟩

theorem over : Rows.stepLoadsRow.holds Try.pinned (OpenSpec.ofChange Rows.stepLoadsSpec) :=
  OpenClaim.holds_of_wide 5 Try.f5 rfl rfl rfl rfl rfl rfl rfl ⟨rfl, rfl, rfl, rfl, rfl⟩ rfl rfl rfl rfl rfl (by kernel_rfl) Try.func5 (by kernel_rfl)
    (of_decide_eq_true (by kernel_rfl)) (by unfold Func.isWrapper; first | (rw [if_pos (by decide +kernel)]; kernel_rfl) | (rw [if_neg (by decide +kernel)]; exact ⟨rfl, rfl⟩))
    (fun os started H enc _ => lifted os started H enc)
end Go.Proofs.Ytmckdefijcnhcab.stepLoads
namespace Go.Proofs.Ytmckdefijcnhcab
theorem stepLoads_holds : Rows.StepLoadsSaid := stepLoads.over
end Go.Proofs.Ytmckdefijcnhcab
