/- Whatever the cell and the last stamp: procs of the camera that are nil do nothing, and on a nil view a Now tells 0, a Take ends with ErrStamp if its last stamp is 0, and else moves nothing (shutterlaw08.CameraNone is true for every input). -/
import Derived.Test.YtinhcphhdehmhaaRows
import Derived.WalkKit
import Derived.ProofKit
import Derived.OpenShut
import Derived.JoinedCond
import Derived.Carry
import Derived.Lib.SmallJoins
import Derived.Test.YtinhcphhdehmhaaCamN
namespace Go.Proofs.Ytinhcphhdehmhaa.cameraNone
open Go.ChangeShapes Go.WideShapes Go.ChangeAt Go.RowKit Go.Joins
set_option linter.unusedVariables false

theorem own : ownKnob Try.prog.godebug = none := by kernel_rfl
theorem laidOut : laidOutB Try.prog = true := by kernel_rfl

set_option maxRecDepth 100000 in
set_option maxHeartbeats 8000000 in
theorem walk (cell mx : Nat) (w : World) (ha : cell < 18446744073709551616) (hv : mx < 18446744073709551616) :
    Calls Try.prog 7 #[.int .u64 (cell : Int), .int .u64 (mx : Int)] w fun e w' => e = .returned (.bool true) ∧ Below w.heap.size w w' := by
  go_enter Try.func7, Try.ntmps7
  go_wp2_with fail
  refine (c_live w).mono ?_
  rintro e W1 ⟨rfl, C1⟩
  have HC1 := keepH C1
  clear C1
  go_wp2_with fail
  refine (m_new 128 W1 (by omega)).mono ?_
  rintro e W2 ⟨rfl, M2, B2, C2, S2⟩
  have HM2 := keepH M2
  have HC2 := keepH (HC1.out.trans C2 (H := fun _ => False) (fun _ _ x => x) (fun _ _ x => x))
  clear M2 B2 C2 S2
  go_wp2_with fail
  refine (m_view _ W1.heap.size 0 _ HM2.out).mono ?_
  rintro e w2 ⟨rfl, rfl⟩
  obtain ⟨w3, hw3⟩ : ∃ w3, w3 = W2.alloc (.cells #[.iface 84 (.pointer (some ⟨W1.heap.size, 0, none⟩)), .int .i64 0, .int .i64 0] 87) := ⟨_, rfl⟩
  rw [← hw3]
  have HC3 : Hid (Chg (fun _ => False) w w3) := by rw [hw3]; exact HC2.out.alloc _
  have HV3 : Hid (IsView w3 W2.heap.size W1.heap.size 0 0) := by rw [hw3]; exact heap_alloc_new _ _
  clear hw3 HC2 HM2
  go_wp2_with fail
  refine (nil_nstep _ _).mono ?_
  rintro e w4 ⟨rfl, rfl⟩
  go_wp2_with fail
  refine (nil_tstep _ _).mono ?_
  rintro e w4 ⟨rfl, rfl⟩
  go_wp2_with fail
  refine (nil_nstamp _).mono ?_
  rintro e w4 ⟨rfl, rfl⟩
  go_wp2_with fail
  refine (nil_tstamp _).mono ?_
  rintro e w4 ⟨rfl, rfl⟩
  go_wp2_with fail
  refine (nil_terrno _).mono ?_
  rintro e w4 ⟨rfl, rfl⟩
  go_wp2_with fail
  refine (nil_tmoved _).mono ?_
  rintro e w4 ⟨rfl, rfl⟩
  go_wp2_with fail
  refine (v_accesses _ _ _ _ _ HV3.out).mono ?_
  rintro e w4 ⟨rfl, rfl⟩
  go_wp2_with fail
  refine (n_new cell _).mono ?_
  rintro e w5 ⟨rfl, rfl⟩
  go_wp2_with fail
  refine (t_new cell mx _).mono ?_
  rintro e w5 ⟨rfl, rfl⟩
  obtain ⟨w6, hw6⟩ : ∃ w6, w6 = (w4.alloc (.cells #[.int .u64 (cell : Int), .int .u8 0, .int .u64 0] 81)).alloc (.cells #[.int .u64 (cell : Int), .int .u64 (mx : Int), .int .u8 0, .int .u64 0, .int .i64 0, .bool false] 75) := ⟨_, rfl⟩
  have HN6 : Hid (IsNow w6 w4.heap.size cell 0 0) := by rw [hw6]; exact alloc_of (heap_alloc_new _ _) _
  have HT6 : Hid (IsTake w6 (w4.heap.size + 1) cell mx 0 0 0 false) := by rw [hw6]; have e := heap_alloc_new (w4.alloc (.cells #[.int .u64 (cell : Int), .int .u8 0, .int .u64 0] 81)) (.cells #[.int .u64 (cell : Int), .int .u64 (mx : Int), .int .u8 0, .int .u64 0, .int .i64 0, .bool false] 75); rw [World.size_alloc] at e; exact e
  have HC6 : Hid (Chg (fun k => w.heap.size ≤ k) w w6) := by rw [hw6]; exact ((HC3.out.mono (fun _ _ x => x.elim)).alloc _).alloc _
  have HZ : Hid (w.heap.size ≤ w4.heap.size) := HC3.out.size
  simp only [World.size_alloc]
  rw [← hw6]
  obtain ⟨pn, hpn⟩ : ∃ pn, pn = w4.heap.size := ⟨_, rfl⟩
  obtain ⟨pt, hpt⟩ : ∃ pt, pt = w4.heap.size + 1 := ⟨_, rfl⟩
  have HNE : Hid (pn ≠ pt) := by show _ ≠ _; omega
  rw [← hpt] at HT6 ⊢
  rw [← hpn] at HN6 HZ ⊢
  have HZT : Hid (w.heap.size ≤ pt) := by have := HZ.out; show _ ≤ _; omega
  clear hw6 hpn hpt HC3 HV3
  go_wp2_with fail
  refine (n_stepnil pn cell 0 _ HN6.out).mono ?_
  rintro e w7 ⟨rfl, N7, C7⟩
  have HN7 := keepH N7
  have HT7 : Hid (IsTake w7 pt cell mx 0 0 0 false) := HT6.out.chg C7 (fun e => HNE.out e.symm)
  have HC7 : Hid (Chg (fun k => w.heap.size ≤ k) w w7) := HC6.out.trans C7 (fun _ _ x => x) (fun i _ e => by have := HZ.out; show _ ≤ _; omega)
  clear N7 C7 HN6 HT6 HC6
  go_wp2_with fail
  refine (t_load_nil pt cell mx 0 _ HT7.out).mono ?_
  rintro e w8 ⟨rfl, T8, C8⟩
  have HN8 : Hid (IsNow w8 pn cell 2 0) := HN7.out.chg C8 HNE.out
  have HC8 : Hid (Chg (fun k => w.heap.size ≤ k) w w8) := HC7.out.trans C8 (fun _ _ x => x) (fun i _ e => by have := HZT.out; show _ ≤ _; omega)
  have HT8 := keepH T8
  clear T8 C8 HN7 HT7 HC7
  by_cases hm : mx = 0
  · subst hm
    have HT9 : Hid (IsTake w8 pt cell 0 2 0 31 false) := HT8.out
    have d1 : decide (0 = 0) = true := by decide
    clear HT8
    go_wp2_with fail
    refine (n_stamp pn cell 2 0 _ HN8.out).mono ?_
    rintro e w9 ⟨rfl, rfl⟩
    go_wp2_with fail
    refine (t_errno pt cell 0 2 0 31 false _ HT9.out).mono ?_
    rintro e w9 ⟨rfl, rfl⟩
    go_wp2_with fail
    go_ret
    exact ⟨by simp, HC8.out.below (Nat.le_refl _)⟩
  · have HT9 : Hid (IsTake w8 pt cell mx 1 0 0 false) := keepH (by have e := HT8.out; simpa [hm] using e)
    have d1 : decide (mx = 0) = false := decide_eq_false hm
    have d2 : ((mx : Int) == 0) = false := beq_eq_false_iff_ne.2 (by omega)
    clear HT8
    go_wp2_with fail
    refine (t_cas_nil pt cell mx 0 _ HT9.out (by omega)).mono ?_
    rintro e w9 ⟨rfl, T9, C9⟩
    have HN9 : Hid (IsNow w9 pn cell 2 0) := HN8.out.chg C9 HNE.out
    have HC9 : Hid (Chg (fun k => w.heap.size ≤ k) w w9) := HC8.out.trans C9 (fun _ _ x => x) (fun i _ e => by have := HZT.out; show _ ≤ _; omega)
    have HTA := keepH T9
    clear T9 C9 HN8 HT9 HC8
    go_wp2_with fail
    refine (n_stamp pn cell 2 0 _ HN9.out).mono ?_
    rintro e w9 ⟨rfl, rfl⟩
    go_wp2_with fail
    refine (t_moved pt cell mx 2 0 0 false _ HTA.out).mono ?_
    rintro e w9 ⟨rfl, rfl⟩
    go_wp2_with fail
    refine (t_stamp pt cell mx 2 0 0 false _ HTA.out).mono ?_
    rintro e w9 ⟨rfl, rfl⟩
    go_wp2_with fail
    refine (t_errno pt cell mx 2 0 0 false _ HTA.out).mono ?_
    rintro e w9 ⟨rfl, rfl⟩
    go_wp2_with fail
    go_ret
    exact ⟨by simp, HC9.out.below (Nat.le_refl _)⟩

set_option maxRecDepth 100000 in
theorem lifted (os : Os) (started : os.Started) (H : Type) (enc : TypeId × Value → H) :
    ReturnsInHanded {} Try.checked os 7 .any (Rows.cameraNoneSpec.pre6 enc Try.prog Try.f7 Rows.cameraNoneRow.domain false) (Rows.cameraNoneSpec.post enc Try.prog Try.f7 false true false false) := by
  refine returnsInHanded_of_change_sized (C := Try.checked) own started (by kernel_rfl) Try.func7
    (ChangeSpec.witness6 (enc := enc) (C := Try.checked) false ⟨#[], #[.int .u64 0, .int .u64 0], []⟩ 8 (by kernel_rfl) (by kernel_rfl) (by kernel_rfl) (by kernel_rfl)) ?_
  intro W base args ds gs before hval0 hW hcnd hsz0 _
  have hval : ∀ (j : Nat) t v, Try.f7.params[j]? = some t → args[j]? = some v → Value.okWide Try.prog W .any base t v := hval0
  have hsz : (DataW.weightsEach Try.prog (Try.f7.params.toList ++ Rows.cameraNoneSpec.plain.varTypes Try.prog) (ds ++ gs)).all (· ≤ reachBytes) = true := hsz0
  clear hsz0
  have hW' := hW
  obtain ⟨p, q, hA0, hV, rfl, hfz, hnd⟩ := hW
  have hA : DataW.TrodAll enc Try.prog W 0 (fun _ => true) true Try.f7.params.toList args.toList ds p := hA0
  rw [Try.params7] at hA hval hsz
  obtain ⟨v0, vs0, d0, ds0, p0, q0, hargs, rfl, rfl, h0, r0⟩ := trodAll_cons hA
  obtain ⟨v1, vs1, d1, ds1, p1, q1, rfl, rfl, rfl, h1, r1⟩ := trodAll_cons r0
  obtain ⟨rfl, rfl, rfl⟩ := trodAll_nil r1
  obtain rfl : args = #[v0, v1] := by cases args; simp_all
  obtain ⟨rfl, rfl⟩ := trodVars_none hV
  have k0 := h0
  have lt0 : ∀ x ∈ p0, x.block < W.heap.size := by obtain ⟨m, hm⟩ := k0; exact DataW.trod_lt m _ _ _ hm
  have k1 := h1
  have lt1 : ∀ x ∈ p1, x.block < W.heap.size := by obtain ⟨m, hm⟩ := k1; exact DataW.trod_lt m _ _ _ hm
  obtain ⟨a0, rfl, rfl, rfl, w0⟩ := open_int Try.underlying22 (hval 0 22 v0 rfl rfl) h0
  obtain ⟨cell, rfl, ha⟩ : ∃ m : Nat, a0 = (m : Int) ∧ m < 18446744073709551616 := by have b := bounds_u64 w0; exact ⟨a0.toNat, by omega, by omega⟩
  obtain ⟨a1, rfl, rfl, rfl, w1⟩ := open_int Try.underlying22 (hval 1 22 v1 rfl rfl) h1
  obtain ⟨mx, rfl, hv⟩ : ∃ m : Nat, a1 = (m : Int) ∧ m < 18446744073709551616 := by have b := bounds_u64 w1; exact ⟨a1.toNat, by omega, by omega⟩
  clear hA0 hval0
  refine (walk cell mx W ha hv).mono fun e W' ⟨he, bel⟩ => ?_
  subst he
  exact ⟨_, rfl, _, _, _, [], _, [], hW', trodAll_mk1 (shut_bool Try.underlying4 _), (trodAll_cons_mk (Below.trod laidOut (by kernel_rfl) (of_decide_eq_true (by kernel_rfl)) k0 bel lt0) (trodAll_cons_mk (Below.trod laidOut (by kernel_rfl) (of_decide_eq_true (by kernel_rfl)) k1 bel lt1) trodAll_mk0)), rfl, bel.frame _, fun h => by cases h⟩

theorem over : Rows.cameraNoneRow.holds Try.pinned (OpenSpec.ofChange Rows.cameraNoneSpec) :=
  OpenClaim.holds_of_wide 7 Try.f7 rfl rfl rfl rfl rfl rfl rfl ⟨rfl, rfl, rfl, rfl, rfl⟩ rfl rfl rfl rfl rfl (by kernel_rfl) Try.func7 (by kernel_rfl)
    (of_decide_eq_true (by kernel_rfl)) (by unfold Func.isWrapper; first | (rw [if_pos (by decide +kernel)]; kernel_rfl) | (rw [if_neg (by decide +kernel)]; exact ⟨rfl, rfl⟩))
    (fun os started H enc _ => lifted os started H enc)
end Go.Proofs.Ytinhcphhdehmhaa.cameraNone
namespace Go.Proofs.Ytinhcphhdehmhaa
theorem cameraNone_holds : Rows.CameraNoneSaid := cameraNone.over
end Go.Proofs.Ytinhcphhdehmhaa
