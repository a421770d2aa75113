/- Wherever slots are said to be: procs of slots that are nil do nothing and tell ErrNil, slots on a nil view are not made, no memory has no slots, and a Release of the handle 0 ends at its first step, also on a nil view, and tells ErrHandle (shutterlaw13.AnnounceNone is true for every input). -/
import Derived.Test.YtjgcahmnfpfalaaGreatRows
import Derived.WalkKit
import Derived.ProofKit
import Derived.OpenShut
import Derived.JoinedCond
import Derived.Carry
import Derived.Lib.SmallJoins
import Derived.Test.YtjgcahmnfpfalaaGreatAl
namespace Go.Proofs.YtjgcahmnfpfalaaGreat.announceNone
open Go.ChangeShapes Go.WideShapes Go.ChangeAt Go.RowKit Go.Joins Go.Shelf
set_option linter.unusedVariables false

theorem own : ownKnob Tryz.prog.godebug = none := by kernel_rfl
theorem laidOut : laidOutB Tryz.prog = true := by kernel_rfl

set_option maxRecDepth 100000 in
set_option maxHeartbeats 8000000 in
theorem walk (cam fst mst k : Nat) (cnt : Int) (w : World)  :
    Calls Tryz.prog 3 #[.agg #[.int .u64 (cam : Int), .int .u64 (fst : Int), .int .i64 cnt, .int .u64 (mst : Int)], .int .u64 (k : Int)] w fun e w' => e = .returned (.bool true) ∧ Below w.heap.size w w' := by
  obtain ⟨w0, hw0⟩ : ∃ w0, w0 = w.alloc (.cells #[.int .u64 (cam : Int), .int .u64 (fst : Int), .int .i64 cnt, .int .u64 (mst : Int)] 24) := ⟨_, rfl⟩
  have T0 : Hid (Blk w0 w.heap.size 24 [.int .u64 (cam : Int), .int .u64 (fst : Int), .int .i64 cnt, .int .u64 (mst : Int)]) := by rw [hw0]; exact heap_alloc_new _ _
  have HC0 : Hid (Chg (fun _ => False) w w0) := by rw [hw0]; exact (Chg.refl _ _).alloc _
  go_enter Tryz.func3, Tryz.ntmps3
  go_upto_region 1 with fail
  rw [← hw0]
  clear hw0
  go_wp2_with fail
  refine (make_nil13 1 3 2 _).mono ?_
  rintro e w1 ⟨rfl, C1⟩
  obtain ⟨w2, hw2⟩ : ∃ w2, w2 = w1.alloc (.cells #[.int .u64 0, .int .u64 0, .int .i64 0, .int .u64 0] 24) := ⟨_, rfl⟩
  have C2 : Chg (fun _ => False) w0 w2 := by rw [hw2]; exact C1.alloc _
  have T2 := keepH (T0.out.chg C2 (fun x => x))
  have HC2 : Hid (Chg (fun _ => False) w w2) := HC0.out.f C2
  clear C1 C2 T0 HC0
  go_upto_region 5 with fail
  rw [← hw2]
  clear hw2
  have t0 : w2.cell? ⟨w.heap.size, 0, none⟩ = some (.int .u64 (cam : Int)) := T2.out.cell 0
  have t1 : w2.cell? ⟨w.heap.size, 1, none⟩ = some (.int .u64 (fst : Int)) := T2.out.cell 1
  have t2 : w2.cell? ⟨w.heap.size, 2, none⟩ = some (.int .i64 cnt) := T2.out.cell 2
  have t3 : w2.cell? ⟨w.heap.size, 3, none⟩ = some (.int .u64 (mst : Int)) := T2.out.cell 3
  go_wp2_with fail
  refine (rl_new0 cam fst mst cnt _).mono ?_
  rintro e w3 ⟨pr, rfl, P3, C3, Z3⟩
  have HP3 := keepH P3
  have T3 := keepH (T2.out.chg C3 (fun x => x))
  have HC3 := keepH (HC2.out.f C3)
  have HZ : Hid (w.heap.size ≤ pr) := by have := HC2.out.size; show _ ≤ _; omega
  clear P3 C3 Z3 T2 HC2 t0 t1 t2 t3
  go_wp2_with fail
  refine (live_13 _).mono ?_
  rintro e w4 ⟨rfl, C4⟩
  have HP4 := keepH (HP3.out.chg C4 (fun x => x))
  have T4 := keepH (T3.out.chg C4 (fun x => x))
  have HC4 := keepH (HC3.out.f C4)
  clear C4 HP3 T3 HC3
  go_wp2_with fail
  refine (nil_snStep _ _).mono ?_
  rintro e w4 ⟨rfl, rfl⟩
  go_wp2_with fail
  refine (nil_rlStep _ _).mono ?_
  rintro e w4 ⟨rfl, rfl⟩
  go_wp2_with fail
  refine (nil_scStep _ _).mono ?_
  rintro e w4 ⟨rfl, rfl⟩
  go_wp2_with fail
  refine (nil_snHandle _).mono ?_
  rintro e w4 ⟨rfl, rfl⟩
  go_wp2_with fail
  refine (nil_snStamp _).mono ?_
  rintro e w4 ⟨rfl, rfl⟩
  go_wp2_with fail
  refine (nil_snErrno _).mono ?_
  rintro e w4 ⟨rfl, rfl⟩
  go_wp2_with fail
  refine (nil_rlErrno _).mono ?_
  rintro e w4 ⟨rfl, rfl⟩
  go_wp2_with fail
  refine (nil_scNeed _).mono ?_
  rintro e w5 ⟨rfl, C5⟩
  have HP5 := keepH (HP4.out.chg C5 (fun x => x))
  have T5 := keepH (T4.out.chg C5 (fun x => x))
  have HC5 := keepH (HC4.out.f C5)
  clear C5 HP4 T4 HC4
  go_wp2_with fail
  refine (same_need0 _).mono ?_
  rintro e w6 ⟨rfl, C6⟩
  have HP6 := keepH (HP5.out.chg C6 (fun x => x))
  have T6 := keepH (T5.out.chg C6 (fun x => x))
  have HC6 := keepH (HC5.out.f C6)
  clear C6 HP5 T5 HC5
  have t0 : w6.cell? ⟨w.heap.size, 0, none⟩ = some (.int .u64 (cam : Int)) := T6.out.cell 0
  have t1 : w6.cell? ⟨w.heap.size, 1, none⟩ = some (.int .u64 (fst : Int)) := T6.out.cell 1
  have t2 : w6.cell? ⟨w.heap.size, 2, none⟩ = some (.int .i64 cnt) := T6.out.cell 2
  have t3 : w6.cell? ⟨w.heap.size, 3, none⟩ = some (.int .u64 (mst : Int)) := T6.out.cell 3
  go_wp2_with fail
  refine (slots_nil cam fst mst cnt _).mono ?_
  rintro e w7 ⟨rfl, C7⟩
  have HP7 := keepH (HP6.out.chg C7 (fun x => x))
  have HC7 := keepH (HC6.out.f C7)
  clear C7 HP6 T6 HC6 t0 t1 t2 t3
  go_wp2_with fail
  refine (step_rlRefuse HP7.out _).mono ?_
  rintro e w8 ⟨rfl, P8, C8⟩
  have HP8 := keepH P8
  have HC8 : Hid (Chg (fun k => k = pr) w w8) := HC7.out.fp C8
  clear P8 C8 HP7 HC7
  go_wp2_with fail
  refine (rl_errno HP8.out).mono ?_
  rintro e w9 ⟨rfl, rfl⟩
  go_wp2_with fail
  go_ret
  refine ⟨by simp, ?_⟩
  have z : Chg (fun k => w.heap.size ≤ k) w w9 := HC8.out.mono (fun i _ e => by have := HZ.out; show _ ≤ _; omega)
  exact z.below (Nat.le_refl _)

set_option maxRecDepth 100000 in
theorem lifted (os : Os) (started : os.Started) (H : Type) (enc : TypeId × Value → H) :
    ReturnsInHanded {} Tryz.checked os 3 .any (Rows.announceNoneSpec.pre6 enc Tryz.prog Tryz.f3 Rows.announceNoneRow.domain false) (Rows.announceNoneSpec.post enc Tryz.prog Tryz.f3 false true false false) := by
  refine returnsInHanded_of_change_sized (C := Tryz.checked) own started (by kernel_rfl) Tryz.func3
    (ChangeSpec.witness6 (enc := enc) (C := Tryz.checked) false ⟨#[], #[.agg #[.int .u64 0, .int .u64 0, .int .i64 0, .int .u64 0], .int .u64 0], []⟩ 8 (by kernel_rfl) (by kernel_rfl) (by kernel_rfl) (by kernel_rfl)) ?_
  intro W base args ds gs before hval0 hW hcnd hsz0 _
  have hval : ∀ (j : Nat) t v, Tryz.f3.params[j]? = some t → args[j]? = some v → Value.okWide Tryz.prog W .any base t v := hval0
  have hsz : (DataW.weightsEach Tryz.prog (Tryz.f3.params.toList ++ Rows.announceNoneSpec.plain.varTypes Tryz.prog) (ds ++ gs)).all (· ≤ reachBytes) = true := hsz0
  clear hsz0
  have hW' := hW
  obtain ⟨p, q, hA0, hV, rfl, hfz, hnd⟩ := hW
  have hA : DataW.TrodAll enc Tryz.prog W 0 (fun _ => true) true Tryz.f3.params.toList args.toList ds p := hA0
  rw [Tryz.params3] at hA hval hsz
  obtain ⟨v0, vs0, d0, ds0, p0, q0, hargs, rfl, rfl, h0, r0⟩ := trodAll_cons hA
  obtain ⟨v1, vs1, d1, ds1, p1, q1, rfl, rfl, rfl, h1, r1⟩ := trodAll_cons r0
  obtain ⟨rfl, rfl, rfl⟩ := trodAll_nil r1
  obtain rfl : args = #[v0, v1] := by cases args; simp_all
  obtain ⟨rfl, rfl⟩ := trodVars_none hV
  have k0 := h0
  have lt0 : ∀ x ∈ p0, x.block < W.heap.size := by obtain ⟨m, hm⟩ := k0; exact DataW.trod_lt m _ _ _ hm
  have k1 := h1
  have lt1 : ∀ x ∈ p1, x.block < W.heap.size := by obtain ⟨m, hm⟩ := k1; exact DataW.trod_lt m _ _ _ hm
  obtain ⟨x0, x1, x2, x3, y0, y1, y2, y3, m0, rfl, rfl, rfl, g0, g1, g2, g3⟩ := open_agg4 Tryz.underlying24 (by kernel_rfl) (by kernel_rfl) (hval 0 24 v0 rfl rfl) h0
  obtain ⟨a0, e0, rfl, w0⟩ := DataW.trod_int Tryz.underlying22 g0
  obtain ⟨a1, e1, rfl, w1⟩ := DataW.trod_int Tryz.underlying22 g1
  obtain ⟨a2, e2, rfl, w2⟩ := DataW.trod_int Tryz.underlying3 g2
  obtain ⟨a3, e3, rfl, w3⟩ := DataW.trod_int Tryz.underlying22 g3
  simp at e0 e1 e2 e3
  subst e0 e1 e2 e3
  obtain ⟨cam, rfl, hc⟩ : ∃ m : Nat, a0 = (m : Int) ∧ m < 18446744073709551616 := by have b := bounds_u64 w0; exact ⟨a0.toNat, by omega, by omega⟩
  obtain ⟨fst, rfl, hf⟩ : ∃ m : Nat, a1 = (m : Int) ∧ m < 18446744073709551616 := by have b := bounds_u64 w1; exact ⟨a1.toNat, by omega, by omega⟩
  obtain ⟨mst, rfl, hm⟩ : ∃ m : Nat, a3 = (m : Int) ∧ m < 18446744073709551616 := by have b := bounds_u64 w3; exact ⟨a3.toNat, by omega, by omega⟩
  obtain ⟨a4, rfl, rfl, rfl, w4⟩ := open_int Tryz.underlying22 (hval 1 22 v1 rfl rfl) h1
  obtain ⟨k, rfl, hk⟩ : ∃ m : Nat, a4 = (m : Int) ∧ m < 18446744073709551616 := by have b := bounds_u64 w4; exact ⟨a4.toNat, by omega, by omega⟩
  clear hA0 hval0
  refine (walk cam fst mst k a2 W).mono fun e W' ⟨he, bel⟩ => ?_
  subst he
  exact ⟨_, rfl, _, _, _, [], _, [], hW', trodAll_mk1 (shut_bool Tryz.underlying4 _), (trodAll_cons_mk (Below.trod laidOut (by kernel_rfl) (of_decide_eq_true (by kernel_rfl)) k0 bel lt0) (trodAll_cons_mk (Below.trod laidOut (by kernel_rfl) (of_decide_eq_true (by kernel_rfl)) k1 bel lt1) trodAll_mk0)), rfl, bel.frame _, fun h => by cases h⟩

theorem over : Rows.announceNoneRow.holds Tryz.pinned (OpenSpec.ofChange Rows.announceNoneSpec) :=
  OpenClaim.holds_of_wide 3 Tryz.f3 rfl rfl rfl rfl rfl rfl rfl ⟨rfl, rfl, rfl, rfl, rfl⟩ rfl rfl rfl rfl rfl (by kernel_rfl) Tryz.func3 (by kernel_rfl)
    (of_decide_eq_true (by kernel_rfl)) (by unfold Func.isWrapper; first | (rw [if_pos (by decide +kernel)]; kernel_rfl) | (rw [if_neg (by decide +kernel)]; exact ⟨rfl, rfl⟩))
    (fun os started H enc _ => lifted os started H enc)
end Go.Proofs.YtjgcahmnfpfalaaGreat.announceNone
namespace Go.Proofs.YtjgcahmnfpfalaaGreat
theorem announceNone_holds : Rows.AnnounceNoneSaid := announceNone.over
end Go.Proofs.YtjgcahmnfpfalaaGreat
