/- Whatever the operation: a nil store under a lock tells ErrNil and the number -1, and has no content (shutterlaw25.LockedNone is true for every input). -/
import Derived.Test.YtgaincicbgojjaaRows
import Derived.WalkKit
import Derived.ProofKit
import Derived.OpenShut
import Derived.JoinedCond
import Derived.Carry
import Derived.Lib.SmallJoins
import Derived.Test.YtgaincicbgojjaaKF
import Derived.Test.YtgaincicbgojjaaKX
namespace Go.Proofs.Ytgaincicbgojjaa.lockedNone
open Go.ChangeShapes Go.WideShapes Go.ChangeAt Go.RowKit Go.Joins Go.Deep
set_option linter.unusedVariables false

theorem own : ownKnob Try.prog.godebug = none := by kernel_rfl
theorem laidOut : laidOutB Try.prog = true := by kernel_rfl

set_option maxRecDepth 100000 in
set_option maxHeartbeats 4000000 in
theorem walk (y : OpI) (w : World)  :
    Calls Try.prog 3 #[.agg #[.int .u8 y.o.kd, .int .u64 (y.o.k : Int), .int .u64 (y.o.v : Int), .int .u64 (y.o.od : Int), .int .u64 (y.o.hk : Int), .bool y.r5, .int .i64 y.r6, .int .i64 y.r7, .slice y.kp y.o.ks.length y.kc, .int .u64 (y.o.lo : Int), .int .u64 (y.o.hi : Int)]] w fun e w' => e = .returned (.bool true) ∧ Below w.heap.size w w' := by
  have o0 : (w.alloc (.cells #[.int .u8 y.o.kd, .int .u64 (y.o.k : Int), .int .u64 (y.o.v : Int), .int .u64 (y.o.od : Int), .int .u64 (y.o.hk : Int), .bool y.r5, .int .i64 y.r6, .int .i64 y.r7, .slice y.kp y.o.ks.length y.kc, .int .u64 (y.o.lo : Int), .int .u64 (y.o.hi : Int)] 28)).heap[w.heap.size]? = some (.cells #[.int .u8 y.o.kd, .int .u64 (y.o.k : Int), .int .u64 (y.o.v : Int), .int .u64 (y.o.od : Int), .int .u64 (y.o.hk : Int), .bool y.r5, .int .i64 y.r6, .int .i64 y.r7, .slice y.kp y.o.ks.length y.kc, .int .u64 (y.o.lo : Int), .int .u64 (y.o.hi : Int)] 28 (0, 0)) := heap_alloc_new _ _
  obtain ⟨w0, hw0⟩ : ∃ w0, w0 = w.alloc (.cells #[.int .u8 y.o.kd, .int .u64 (y.o.k : Int), .int .u64 (y.o.v : Int), .int .u64 (y.o.od : Int), .int .u64 (y.o.hk : Int), .bool y.r5, .int .i64 y.r6, .int .i64 y.r7, .slice y.kp y.o.ks.length y.kc, .int .u64 (y.o.lo : Int), .int .u64 (y.o.hi : Int)] 28) := ⟨_, rfl⟩
  rw [← hw0] at o0
  have HC0 : Hid (Chg (fun _ => False) w w0) := by rw [hw0]; exact (Chg.refl _ _).alloc _
  have c0 := cell_of o0 0
  have c1 := cell_of o0 1
  have c2 := cell_of o0 2
  have c3 := cell_of o0 3
  have c4 := cell_of o0 4
  have c5 := cell_of o0 5
  have c6 := cell_of o0 6
  have c7 := cell_of o0 7
  have c8 := cell_of o0 8
  have c9 := cell_of o0 9
  have c10 := cell_of o0 10
  clear o0
  go_enter Try.func3, Try.ntmps3
  go_upto_region 1 with fail
  rw [← hw0]
  clear hw0
  go_wp2_with fail
  refine (do_nil (o := y.o) w0).mono ?_
  rintro e w1 ⟨rfl, C1⟩
  have HC1 : Hid (Chg (fun _ => False) w w1) := HC0.out.trans C1 (fun _ _ x => x) (fun _ _ x => x)
  obtain ⟨w2, hw2⟩ : ∃ w2, w2 = w1.alloc (.cells #[.int .i64 1, .bool false, .int .u64 0, .bool false, .int .u64 0, .slice none 0 0, .int .u64 0] 33) := ⟨_, rfl⟩
  have HA2 : Hid (w2.heap[w1.heap.size]? = some (.cells #[.int .i64 1, .bool false, .int .u64 0, .bool false, .int .u64 0, .slice none 0 0, .int .u64 0] 33 (0, 0))) := by rw [hw2]; exact heap_alloc_new _ _
  have HC2 : Hid (Chg (fun _ => False) w w2) := by rw [hw2]; exact HC1.out.alloc _
  clear C1 c0 c1 c2 c3 c4 c5 c6 c7 c8 c9 c10
  go_upto_region 3 with fail
  rw [← hw2]
  clear hw2
  go_wp2_with fail
  refine (live_25 w2).mono ?_
  rintro e w3 ⟨rfl, C3⟩
  have a3 : w3.cell? ⟨w1.heap.size, 0, none⟩ = some (.int .i64 1) := by
    rw [cell_of ((C3.block _ (lt_of HA2.out) (fun x => x)).trans HA2.out)]
    rfl
  have HC3 : Hid (Chg (fun _ => False) w w3) := HC2.out.trans C3 (fun _ _ x => x) (fun _ _ x => x)
  clear C3
  go_wp2_with fail
  refine (content_nil w3).mono ?_
  rintro e w4 ⟨rfl, rfl⟩
  go_wp2_with fail
  go_ret
  exact ⟨by simp, (HC3.out.mono (G := fun k => w.heap.size ≤ k) (fun _ _ x => x.elim)).below (Nat.le_refl _)⟩

set_option maxRecDepth 100000 in
theorem lifted (os : Os) (started : os.Started) (H : Type) (enc : TypeId × Value → H) :
    ReturnsInHanded {} Try.checked os 3 .any (Rows.lockedNoneSpec.pre6 enc Try.prog Try.f3 Rows.lockedNoneRow.domain false) (Rows.lockedNoneSpec.post enc Try.prog Try.f3 false true false false) := by
  refine returnsInHanded_of_change_sized (C := Try.checked) own started (by kernel_rfl) Try.func3
    (ChangeSpec.witness6 (enc := enc) (C := Try.checked) false ⟨#[], #[.agg #[.int .u8 0, .int .u64 0, .int .u64 0, .int .u64 0, .int .u64 0, .bool false, .int .i64 0, .int .i64 0, .slice none 0 0, .int .u64 0, .int .u64 0]], []⟩ 8 (by kernel_rfl) (by kernel_rfl) (by kernel_rfl) (by kernel_rfl)) ?_
  intro W base args ds gs before hval0 hW hcnd hsz0 _
  have hval : ∀ (j : Nat) t v, Try.f3.params[j]? = some t → args[j]? = some v → Value.okWide Try.prog W .any base t v := hval0
  have hsz : (DataW.weightsEach Try.prog (Try.f3.params.toList ++ Rows.lockedNoneSpec.plain.varTypes Try.prog) (ds ++ gs)).all (· ≤ reachBytes) = true := hsz0
  clear hsz0
  have hW' := hW
  obtain ⟨p, q, hA0, hV, rfl, hfz, hnd⟩ := hW
  have hA : DataW.TrodAll enc Try.prog W 0 (fun _ => true) true Try.f3.params.toList args.toList ds p := hA0
  rw [Try.params3] at hA hval hsz
  obtain ⟨v0, vs0, d0, ds0, p0, q0, hargs, rfl, rfl, h0, r0⟩ := trodAll_cons hA
  obtain ⟨rfl, rfl, rfl⟩ := trodAll_nil r0
  obtain rfl : args = #[v0] := by cases args; simp_all
  obtain ⟨rfl, rfl⟩ := trodVars_none hV
  have k0 := h0
  have lt0 : ∀ x ∈ p0, x.block < W.heap.size := by obtain ⟨m, hm⟩ := k0; exact DataW.trod_lt m _ _ _ hm
  obtain ⟨cv0, rfl, hcsz0⟩ := okWide_struct Try.underlying28 (hval 0 28 v0 rfl rfl)
  have h0k := h0
  obtain ⟨fu0, hf0⟩ := h0k
  obtain ⟨⟨y, ecs, hy⟩, _⟩ := op_open (cs := cv0.toList) (by simpa [Value.cells] using hf0)
  obtain rfl : cv0 = #[.int .u8 y.o.kd, .int .u64 (y.o.k : Int), .int .u64 (y.o.v : Int), .int .u64 (y.o.od : Int), .int .u64 (y.o.hk : Int), .bool y.r5, .int .i64 y.r6, .int .i64 y.r7, .slice y.kp y.o.ks.length y.kc, .int .u64 (y.o.lo : Int), .int .u64 (y.o.hi : Int)] := by apply Array.ext'; rw [ecs]; rfl
  clear hA0 hval0
  refine (walk y W).mono fun e W' ⟨he, bel⟩ => ?_
  subst he
  exact ⟨_, rfl, _, _, _, [], _, [], hW', trodAll_mk1 (shut_bool Try.underlying4 _), (trodAll_cons_mk (Below.trod laidOut (by kernel_rfl) (of_decide_eq_true (by kernel_rfl)) k0 bel lt0) trodAll_mk0), rfl, bel.frame _, fun h => by cases h⟩

theorem over : Rows.lockedNoneRow.holds Try.pinned (OpenSpec.ofChange Rows.lockedNoneSpec) :=
  OpenClaim.holds_of_wide 3 Try.f3 rfl rfl rfl rfl rfl rfl rfl ⟨rfl, rfl, rfl, rfl, rfl⟩ rfl rfl rfl rfl rfl (by kernel_rfl) Try.func3 (by kernel_rfl)
    (of_decide_eq_true (by kernel_rfl)) (by unfold Func.isWrapper; first | (rw [if_pos (by decide +kernel)]; kernel_rfl) | (rw [if_neg (by decide +kernel)]; exact ⟨rfl, rfl⟩))
    (fun os started H enc _ => lifted os started H enc)
end Go.Proofs.Ytgaincicbgojjaa.lockedNone
namespace Go.Proofs.Ytgaincicbgojjaa
theorem lockedNone_holds : Rows.LockedNoneSaid := lockedNone.over
end Go.Proofs.Ytgaincicbgojjaa
