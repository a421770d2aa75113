/- Whatever the tree and the slots: a Cut and a Collect that are nil are done and tell 0, and of no memory no version is kept (shutterlaw15.CutNone is true for every input). -/
import Derived.Test.YtcnbngcmplkefaaGreatRows
import Derived.WalkKit
import Derived.ProofKit
import Derived.OpenShut
import Derived.JoinedCond
import Derived.Carry
import Derived.Lib.SmallJoins
import Derived.Test.YtcnbngcmplkefaaGreatKk
namespace Go.Proofs.YtcnbngcmplkefaaGreat.cutNone
open Go.ChangeShapes Go.WideShapes Go.ChangeAt Go.RowKit Go.Joins Go.Shelf
set_option linter.unusedVariables false

theorem own : ownKnob Tryz.prog.godebug = none := by kernel_rfl
theorem laidOut : laidOutB Tryz.prog = true := by kernel_rfl

set_option maxRecDepth 100000 in
set_option maxHeartbeats 8000000 in
theorem walk (cam br sc fst mst : Nat) (cnt : Int) (w : World)  :
    Calls Tryz.prog 3 #[.agg #[.int .u64 (cam : Int), .int .u64 (br : Int)], .agg #[.int .u64 (sc : Int), .int .u64 (fst : Int), .int .i64 cnt, .int .u64 (mst : Int)]] w fun e w' => e = .returned (.bool true) ∧ Below w.heap.size w w' := by
  obtain ⟨w0, hw0⟩ : ∃ w0, w0 = (w.alloc (.cells #[.int .u64 (cam : Int), .int .u64 (br : Int)] 24)).alloc (.cells #[.int .u64 (sc : Int), .int .u64 (fst : Int), .int .i64 cnt, .int .u64 (mst : Int)] 26) := ⟨_, rfl⟩
  have HT : Hid (w0.heap[w.heap.size]? = some (.cells #[.int .u64 (cam : Int), .int .u64 (br : Int)] 24 (0, 0))) := by rw [hw0]; exact alloc_of (heap_alloc_new _ _) _
  have HC0 : Hid (Chg (fun _ => False) w w0) := by rw [hw0]; exact ((Chg.refl _ _).alloc _).alloc _
  have HW0 := keepH hw0
  clear hw0
  go_enter Tryz.func3, Tryz.ntmps3
  go_upto_region 1 with fail
  rw [← HW0.out]
  clear HW0
  go_wp2_with fail
  refine (live_15 _).mono ?_
  rintro e w1 ⟨rfl, C1⟩
  have T1 := (C1.block _ (lt_of HT.out) (fun x => x)).trans HT.out
  have t0 : w1.cell? ⟨w.heap.size, 0, none⟩ = some (.int .u64 (cam : Int)) := cell_of T1 0
  have t1 : w1.cell? ⟨w.heap.size, 1, none⟩ = some (.int .u64 (br : Int)) := cell_of T1 1
  have HC1 := keepH (HC0.out.falls C1)
  clear C1 T1
  go_wp2_with fail
  refine (kstep_nil _ _).mono ?_
  rintro e w2 ⟨rfl, rfl⟩
  go_wp2_with fail
  refine (kcstep_nil _ _).mono ?_
  rintro e w2 ⟨rfl, rfl⟩
  go_wp2_with fail
  refine (kcount_nil _).mono ?_
  rintro e w2 ⟨rfl, rfl⟩
  go_wp2_with fail
  refine (khead_nil _).mono ?_
  rintro e w2 ⟨rfl, rfl⟩
  go_wp2_with fail
  refine (kccount_nil _).mono ?_
  rintro e w2 ⟨rfl, rfl⟩
  go_wp2_with fail
  refine (kept_nil cam br _).mono ?_
  rintro e w3 ⟨rfl, C3⟩
  have HC3 := keepH (HC1.out.falls C3)
  clear C3
  go_wp2_with fail
  go_ret
  exact ⟨by simp, (HC3.out.mono (G := fun k => w.heap.size ≤ k) (fun _ _ x => x.elim)).below (Nat.le_refl _)⟩

set_option maxRecDepth 100000 in
theorem lifted (os : Os) (started : os.Started) (H : Type) (enc : TypeId × Value → H) :
    ReturnsInHanded {} Tryz.checked os 3 .any (Rows.cutNoneSpec.pre6 enc Tryz.prog Tryz.f3 Rows.cutNoneRow.domain false) (Rows.cutNoneSpec.post enc Tryz.prog Tryz.f3 false true false false) := by
  refine returnsInHanded_of_change_sized (C := Tryz.checked) own started (by kernel_rfl) Tryz.func3
    (ChangeSpec.witness6 (enc := enc) (C := Tryz.checked) false ⟨#[], #[.agg #[.int .u64 0, .int .u64 0], .agg #[.int .u64 0, .int .u64 0, .int .i64 0, .int .u64 0]], []⟩ 8 (by kernel_rfl) (by kernel_rfl) (by kernel_rfl) (by kernel_rfl)) ?_
  intro W base args ds gs before hval0 hW hcnd hsz0 _
  have hval : ∀ (j : Nat) t v, Tryz.f3.params[j]? = some t → args[j]? = some v → Value.okWide Tryz.prog W .any base t v := hval0
  have hsz : (DataW.weightsEach Tryz.prog (Tryz.f3.params.toList ++ Rows.cutNoneSpec.plain.varTypes Tryz.prog) (ds ++ gs)).all (· ≤ reachBytes) = true := hsz0
  clear hsz0
  have hW' := hW
  obtain ⟨p, q, hA0, hV, rfl, hfz, hnd⟩ := hW
  have hA : DataW.TrodAll enc Tryz.prog W 0 (fun _ => true) true Tryz.f3.params.toList args.toList ds p := hA0
  rw [Tryz.params3] at hA hval hsz
  obtain ⟨v0, vs0, d0, ds0, p0, q0, hargs, rfl, rfl, h0, r0⟩ := trodAll_cons hA
  obtain ⟨v1, vs1, d1, ds1, p1, q1, rfl, rfl, rfl, h1, r1⟩ := trodAll_cons r0
  obtain ⟨rfl, rfl, rfl⟩ := trodAll_nil r1
  obtain rfl : args = #[v0, v1] := by cases args; simp_all
  obtain ⟨rfl, rfl⟩ := trodVars_none hV
  have k0 := h0
  have lt0 : ∀ x ∈ p0, x.block < W.heap.size := by obtain ⟨m, hm⟩ := k0; exact DataW.trod_lt m _ _ _ hm
  have k1 := h1
  have lt1 : ∀ x ∈ p1, x.block < W.heap.size := by obtain ⟨m, hm⟩ := k1; exact DataW.trod_lt m _ _ _ hm
  obtain ⟨x0, x1, y0, y1, m0, rfl, rfl, rfl, g0, g1⟩ := open_agg2 Tryz.underlying24 (by kernel_rfl) (by kernel_rfl) (hval 0 24 v0 rfl rfl) h0
  obtain ⟨a0, e0, rfl, w0⟩ := DataW.trod_int Tryz.underlying22 g0
  obtain ⟨a1, e1, rfl, w1⟩ := DataW.trod_int Tryz.underlying22 g1
  simp at e0 e1
  subst e0 e1
  obtain ⟨cam, rfl, hcam⟩ : ∃ m : Nat, a0 = (m : Int) ∧ m < 18446744073709551616 := by have b := bounds_u64 w0; exact ⟨a0.toNat, by omega, by omega⟩
  obtain ⟨br, rfl, hbr⟩ : ∃ m : Nat, a1 = (m : Int) ∧ m < 18446744073709551616 := by have b := bounds_u64 w1; exact ⟨a1.toNat, by omega, by omega⟩
  obtain ⟨x0b, x1b, x2b, x3b, y0b, y1b, y2b, y3b, m0b, rfl, rfl, rfl, g0b, g1b, g2b, g3b⟩ := open_agg4 Tryz.underlying26 (by kernel_rfl) (by kernel_rfl) (hval 1 26 v1 rfl rfl) h1
  obtain ⟨a0b, e0b, rfl, w0b⟩ := DataW.trod_int Tryz.underlying22 g0b
  obtain ⟨a1b, e1b, rfl, w1b⟩ := DataW.trod_int Tryz.underlying22 g1b
  obtain ⟨a2b, e2b, rfl, w2b⟩ := DataW.trod_int Tryz.underlying3 g2b
  obtain ⟨a3b, e3b, rfl, w3b⟩ := DataW.trod_int Tryz.underlying22 g3b
  simp at e0b e1b e2b e3b
  subst e0b e1b e2b e3b
  obtain ⟨sc, rfl, hc⟩ : ∃ m : Nat, a0b = (m : Int) ∧ m < 18446744073709551616 := by have b := bounds_u64 w0b; exact ⟨a0b.toNat, by omega, by omega⟩
  obtain ⟨fst, rfl, hf⟩ : ∃ m : Nat, a1b = (m : Int) ∧ m < 18446744073709551616 := by have b := bounds_u64 w1b; exact ⟨a1b.toNat, by omega, by omega⟩
  obtain ⟨mst, rfl, hm⟩ : ∃ m : Nat, a3b = (m : Int) ∧ m < 18446744073709551616 := by have b := bounds_u64 w3b; exact ⟨a3b.toNat, by omega, by omega⟩
  clear hA0 hval0
  refine (walk cam br sc fst mst a2b W).mono fun e W' ⟨he, bel⟩ => ?_
  subst he
  exact ⟨_, rfl, _, _, _, [], _, [], hW', trodAll_mk1 (shut_bool Tryz.underlying4 _), (trodAll_cons_mk (Below.trod laidOut (by kernel_rfl) (of_decide_eq_true (by kernel_rfl)) k0 bel lt0) (trodAll_cons_mk (Below.trod laidOut (by kernel_rfl) (of_decide_eq_true (by kernel_rfl)) k1 bel lt1) trodAll_mk0)), rfl, bel.frame _, fun h => by cases h⟩

theorem over : Rows.cutNoneRow.holds Tryz.pinned (OpenSpec.ofChange Rows.cutNoneSpec) :=
  OpenClaim.holds_of_wide 3 Tryz.f3 rfl rfl rfl rfl rfl rfl rfl ⟨rfl, rfl, rfl, rfl, rfl⟩ rfl rfl rfl rfl rfl (by kernel_rfl) Tryz.func3 (by kernel_rfl)
    (of_decide_eq_true (by kernel_rfl)) (by unfold Func.isWrapper; first | (rw [if_pos (by decide +kernel)]; kernel_rfl) | (rw [if_neg (by decide +kernel)]; exact ⟨rfl, rfl⟩))
    (fun os started H enc _ => lifted os started H enc)
end Go.Proofs.YtcnbngcmplkefaaGreat.cutNone
namespace Go.Proofs.YtcnbngcmplkefaaGreat
theorem cutNone_holds : Rows.CutNoneSaid := cutNone.over
end Go.Proofs.YtcnbngcmplkefaaGreat
